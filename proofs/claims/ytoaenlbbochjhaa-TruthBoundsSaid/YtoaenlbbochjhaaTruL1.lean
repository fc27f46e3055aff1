/- Layer 14, the laws: the tables, de Morgan. -/
import Derived.Test.YtoaenlbbochjhaaTruK
import Derived.Test.YtoaenlbbochjhaaTruR1
import Derived.Lib.QuietBelow
import Derived.Deep.QuietTactic
namespace Go.Proofs.Ytoaenlbbochjhaa
open Go.RowKit TreN LexP FixP SynP ValP FixM QryP TruP Go.Sort
set_option linter.unusedVariables false

theorem threeT (a : Int) : a = 0 ∨ a = 1 ∨ (a ≠ 0 ∧ a ≠ 1) := by omega
theorem and_assocT (a b c : Int) : andT a (andT b c) = andT (andT a b) c := by
  rcases threeT a with rfl | rfl | ⟨h1, h2⟩ <;> rcases threeT b with rfl | rfl | ⟨h3, h4⟩ <;> rcases threeT c with rfl | rfl | ⟨h5, h6⟩ <;> simp [andT, *]
theorem and_orT (a b c : Int) : andT a (orT b c) = orT (andT a b) (andT a c) := by
  rcases threeT a with rfl | rfl | ⟨h1, h2⟩ <;> rcases threeT b with rfl | rfl | ⟨h3, h4⟩ <;> rcases threeT c with rfl | rfl | ⟨h5, h6⟩ <;> simp [andT, orT, *]

set_option maxRecDepth 100000 in
set_option maxHeartbeats 4000000 in
theorem TruthTables_walk (a b : Int) (w : World) : Calls Try.prog 3 #[.int .i64 a, .int .i64 b] w fun e w' => e = .returned (.bool true) ∧ Below w.heap.size w w' := by
  have C1 := Lib.hid (fun w => not14_any a w)
  have C2 := Lib.hid (fun w => refNot14_any a w)
  have C3 := Lib.hid (fun w => and14_any a b w)
  have C4 := Lib.hid (fun w => refAnd14_any a b w)
  have C5 := Lib.hid (fun w => or14_any a b w)
  have C6 := Lib.hid (fun w => refOr14_any a b w)
  have HK := Lib.hid (fun w => knownT_any w)
  generalize notT a = na at C1 C2
  generalize andT a b = ab at C3 C4
  generalize orT a b = ob at C5 C6
  go_enter Try.func3, Try.ntmps3
  go_wp2_with fail
  refine (C1.out _).mono ?_
  rintro e w' ⟨rfl, rfl⟩
  go_wp2_with fail
  refine (C2.out _).mono ?_
  rintro e w' ⟨rfl, rfl⟩
  go_wp2_with fail
  refine (C3.out _).mono ?_
  rintro e w' ⟨rfl, rfl⟩
  go_wp2_with fail
  refine (C4.out _).mono ?_
  rintro e w' ⟨rfl, rfl⟩
  go_wp2_with fail
  refine (C5.out _).mono ?_
  rintro e w' ⟨rfl, rfl⟩
  go_wp2_with fail
  refine (C6.out _).mono ?_
  rintro e w' ⟨rfl, rfl⟩
  go_wp2_with fail
  refine (HK.out _).mono ?_
  rintro e w1 ⟨rfl, hb⟩
  have HB := Lib.hid hb
  clear hb
  go_wp2_with fail
  go_ret
  exact ⟨rfl, HB.out⟩

set_option maxRecDepth 100000 in
set_option maxHeartbeats 8000000 in
theorem TruthMorgan_walk (a b c : Int) (w : World) : Calls Try.prog 4 #[.int .i64 a, .int .i64 b, .int .i64 c] w fun e w' => e = .returned (.bool true) ∧ Below w.heap.size w w' := by
  have C1 := fun w => and14_any a b w
  have C2 := fun w => not14_any (andT a b) w
  have C3 := fun w => not14_any a w
  have C4 := fun w => not14_any b w
  have C5 := fun w => or14_any (notT a) (notT b) w
  have C6 := fun w => or14_any a b w
  have C7 := fun w => not14_any (orT a b) w
  have C8 := fun w => and14_any (notT a) (notT b) w
  have C9 := fun w => and14_any b c w
  have CA := fun w => and14_any a (andT b c) w
  have CB := fun w => and14_any (andT a b) c w
  have CC := fun w => and14_any b a w
  have CD := fun w => or14_any b c w
  have CE := fun w => and14_any a (orT b c) w
  have CF := fun w => and14_any a c w
  have CG := fun w => or14_any (andT a b) (andT a c) w
  rw [morgan1] at C2
  rw [morgan2] at C7
  rw [and_assocT] at CA
  rw [andT_comm b a] at CC
  rw [and_orT] at CE
  have HK := Lib.hid (fun w => knownT_any w)
  generalize orT (andT a b) (andT a c) = z at CE CG
  generalize andT (andT a b) c = y at CA CB
  generalize orT (notT a) (notT b) = x1 at C2 C5
  generalize andT (notT a) (notT b) = x2 at C7 C8
  generalize andT a b = ab at *
  generalize andT a c = ac at *
  generalize andT b c = bc at *
  generalize orT a b = ob at *
  generalize orT b c = obc at *
  generalize notT a = na at *
  generalize notT b = nb at *
  have HC1 := Lib.hid C1
  have HC2 := Lib.hid C2
  have HC3 := Lib.hid C3
  have HC4 := Lib.hid C4
  have HC5 := Lib.hid C5
  have HC6 := Lib.hid C6
  have HC7 := Lib.hid C7
  have HC8 := Lib.hid C8
  have HC9 := Lib.hid C9
  have HCA := Lib.hid CA
  have HCB := Lib.hid CB
  have HCC := Lib.hid CC
  have HCD := Lib.hid CD
  have HCE := Lib.hid CE
  have HCF := Lib.hid CF
  have HCG := Lib.hid CG
  clear C1 C2 C3 C4 C5 C6 C7 C8 C9 CA CB CC CD CE CF CG
  go_enter Try.func4, Try.ntmps4
  go_wp2_with fail
  refine (HC1.out _).mono ?_
  rintro e w' ⟨rfl, rfl⟩
  go_wp2_with fail
  refine (HC2.out _).mono ?_
  rintro e w' ⟨rfl, rfl⟩
  go_wp2_with fail
  refine (HC3.out _).mono ?_
  rintro e w' ⟨rfl, rfl⟩
  go_wp2_with fail
  refine (HC4.out _).mono ?_
  rintro e w' ⟨rfl, rfl⟩
  go_wp2_with fail
  refine (HC5.out _).mono ?_
  rintro e w' ⟨rfl, rfl⟩
  go_wp2_with fail
  refine (HC6.out _).mono ?_
  rintro e w' ⟨rfl, rfl⟩
  go_wp2_with fail
  refine (HC7.out _).mono ?_
  rintro e w' ⟨rfl, rfl⟩
  go_wp2_with fail
  refine (HC3.out _).mono ?_
  rintro e w' ⟨rfl, rfl⟩
  go_wp2_with fail
  refine (HC4.out _).mono ?_
  rintro e w' ⟨rfl, rfl⟩
  go_wp2_with fail
  refine (HC8.out _).mono ?_
  rintro e w' ⟨rfl, rfl⟩
  go_wp2_with fail
  refine (HC9.out _).mono ?_
  rintro e w' ⟨rfl, rfl⟩
  go_wp2_with fail
  refine (HCA.out _).mono ?_
  rintro e w' ⟨rfl, rfl⟩
  go_wp2_with fail
  refine (HC1.out _).mono ?_
  rintro e w' ⟨rfl, rfl⟩
  go_wp2_with fail
  refine (HCB.out _).mono ?_
  rintro e w' ⟨rfl, rfl⟩
  go_wp2_with fail
  refine (HC1.out _).mono ?_
  rintro e w' ⟨rfl, rfl⟩
  go_wp2_with fail
  refine (HCC.out _).mono ?_
  rintro e w' ⟨rfl, rfl⟩
  go_wp2_with fail
  refine (HCD.out _).mono ?_
  rintro e w' ⟨rfl, rfl⟩
  go_wp2_with fail
  refine (HCE.out _).mono ?_
  rintro e w' ⟨rfl, rfl⟩
  go_wp2_with fail
  refine (HC1.out _).mono ?_
  rintro e w' ⟨rfl, rfl⟩
  go_wp2_with fail
  refine (HCF.out _).mono ?_
  rintro e w' ⟨rfl, rfl⟩
  go_wp2_with fail
  refine (HCG.out _).mono ?_
  rintro e w' ⟨rfl, rfl⟩
  go_wp2_with fail
  refine (HK.out _).mono ?_
  rintro e w1 ⟨rfl, hb⟩
  have HB := Lib.hid hb
  clear hb
  go_wp2_with fail
  go_ret
  exact ⟨rfl, HB.out⟩
end Go.Proofs.Ytoaenlbbochjhaa
