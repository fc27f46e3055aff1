/- Layer 19: the fixed calls. -/
import Derived.Test.YtajmmnmagbnigaaStrW6
namespace Go.Proofs.Ytajmmnmagbnigaa
open Go.RowKit FixM StrP Go.Sort
set_option linter.unusedVariables false

theorem of19 (m a b : Int) (h1 : max 0 (H m) = a) (h2 : min 0 (H m) = b) (w : World) : Calls Try.prog 12 #[.int .i64 m] w fun e w' => e = .returned (.agg #[.int .i64 a, .int .i64 b]) ∧ Below w.heap.size w w' := by
  subst h1; subst h2; exact Of19_any m w
theorem join19 (u d u2 d2 a b : Int) (h1 : jU u u2 = a) (h2 : jD d d2 = b) (w : World) : Calls Try.prog 8 #[.agg #[.int .i64 u, .int .i64 d], .agg #[.int .i64 u2, .int .i64 d2]] w fun e w' => e = .returned (.agg #[.int .i64 a, .int .i64 b]) ∧ Below w.heap.size w w' := by
  subst h1; subst h2; exact Join19_any u d u2 d2 w
theorem worth19 (u d a : Int) (h1 : wT u d = a) (w : World) : Calls Try.prog 10 #[.agg #[.int .i64 u, .int .i64 d]] w fun e w' => e = .returned (.int .i64 a) ∧ Below w.heap.size w w' := by
  subst h1; exact Worth19_any u d w

set_option maxRecDepth 100000 in
set_option maxHeartbeats 4000000 in
theorem known19_any (w : World) : Calls Try.prog 14 #[] w fun e w' => e = .returned (.bool true) ∧ Below w.heap.size w w' := by
  have C10 := Lib.hid (fun w => of19 10 10 0 (by decide) (by decide) w)
  have C20 := Lib.hid (fun w => of19 20 20 0 (by decide) (by decide) w)
  have C4 := Lib.hid (fun w => of19 (-4) 0 (-4) (by decide) (by decide) w)
  have C3 := Lib.hid (fun w => of19 (-3) 0 (-3) (by decide) (by decide) w)
  have J1 := Lib.hid (fun w => join19 10 0 20 0 20 0 (by decide) (by decide) w)
  have J2 := Lib.hid (fun w => join19 10 0 0 (-4) 10 (-4) (by decide) (by decide) w)
  have J3 := Lib.hid (fun w => join19 0 (-3) 0 (-4) 0 (-4) (by decide) (by decide) w)
  have W1 := Lib.hid (fun w => worth19 20 0 20 (by decide) w)
  have W2 := Lib.hid (fun w => worth19 10 (-4) 6 (by decide) w)
  have W3 := Lib.hid (fun w => worth19 0 (-4) (-4) (by decide) w)
  have HB : Hid (Below w.heap.size w w) := Lib.hid (Below.refl _ _)
  go_enter Try.func14, Try.ntmps14
  go_wp2_with fail
  refine (C10.out _).mono ?_
  rintro e w1 ⟨rfl, hb⟩
  have HB1 := Lib.hid (HB.out.trans (hb.mono HB.out.size))
  clear hb
  go_wp2_with fail
  refine (C20.out _).mono ?_
  rintro e w2 ⟨rfl, hb⟩
  have HB2 := Lib.hid (HB1.out.trans (hb.mono HB1.out.size))
  clear hb
  go_wp2_with fail
  refine (J1.out _).mono ?_
  rintro e w3 ⟨rfl, hb⟩
  have HB3 := Lib.hid (HB2.out.trans (hb.mono HB2.out.size))
  clear hb
  go_wp2_with fail
  refine (W1.out _).mono ?_
  rintro e w4 ⟨rfl, hb⟩
  have HB4 := Lib.hid (HB3.out.trans (hb.mono HB3.out.size))
  clear hb
  go_wp2_with fail
  refine (C10.out _).mono ?_
  rintro e w5 ⟨rfl, hb⟩
  have HB5 := Lib.hid (HB4.out.trans (hb.mono HB4.out.size))
  clear hb
  go_wp2_with fail
  refine (C4.out _).mono ?_
  rintro e w6 ⟨rfl, hb⟩
  have HB6 := Lib.hid (HB5.out.trans (hb.mono HB5.out.size))
  clear hb
  go_wp2_with fail
  refine (J2.out _).mono ?_
  rintro e w7 ⟨rfl, hb⟩
  have HB7 := Lib.hid (HB6.out.trans (hb.mono HB6.out.size))
  clear hb
  go_wp2_with fail
  refine (W2.out _).mono ?_
  rintro e w8 ⟨rfl, hb⟩
  have HB8 := Lib.hid (HB7.out.trans (hb.mono HB7.out.size))
  clear hb
  go_wp2_with fail
  refine (C3.out _).mono ?_
  rintro e w9 ⟨rfl, hb⟩
  have HB9 := Lib.hid (HB8.out.trans (hb.mono HB8.out.size))
  clear hb
  go_wp2_with fail
  refine (C4.out _).mono ?_
  rintro e w10 ⟨rfl, hb⟩
  have HB10 := Lib.hid (HB9.out.trans (hb.mono HB9.out.size))
  clear hb
  go_wp2_with fail
  refine (J3.out _).mono ?_
  rintro e w11 ⟨rfl, hb⟩
  have HB11 := Lib.hid (HB10.out.trans (hb.mono HB10.out.size))
  clear hb
  go_wp2_with fail
  refine (W3.out _).mono ?_
  rintro e w12 ⟨rfl, hb⟩
  have HB12 := Lib.hid (HB11.out.trans (hb.mono HB11.out.size))
  clear hb
  go_wp2_with fail
  have hz : Pts19 (w12.alloc (.cells #[.int .i64 0, .int .i64 0, .int .i64 0, .int .i64 0, .int .i64 0, .bool false] 37)) (some ⟨w12.heap.size, 0, none⟩) [⟨0, 0, 0, 0, 0, false⟩] := by
    have h := heap_alloc_new w12 (.cells #[.int .i64 0, .int .i64 0, .int .i64 0, .int .i64 0, .int .i64 0, .bool false] 37)
    refine Or.inr ⟨_, 0, rfl, blk_ltS h, fun j hj => ?_⟩
    have hj0 : j = 0 := by simpa using hj
    subst hj0
    exact ⟨cell_ofS h rfl, cell_ofS h rfl, cell_ofS h rfl, cell_ofS h rfl, cell_ofS h rfl, cell_ofS h rfl⟩
  have hP := Put19_any (some ⟨w12.heap.size, 0, none⟩) [⟨0, 0, 0, 0, 0, false⟩] 1 1 true true _ rfl (by omega) hz
  have HP := Lib.hid hP
  have hb13 : Below w12.heap.size w12 (w12.alloc (.cells #[.int .i64 0, .int .i64 0, .int .i64 0, .int .i64 0, .int .i64 0, .bool false] 37)) := (Below.refl _ _).alloc (Nat.le_refl _) _
  have HB13 := Lib.hid (HB12.out.trans (hb13.mono HB12.out.size))
  clear hz hP hb13
  refine HP.out.mono ?_
  rintro e w13 ⟨nv, rfl, ho, hb⟩
  obtain ⟨g, c, rfl, _, _⟩ := ho.form (by omega)
  have HB14 := Lib.hid (HB13.out.trans (hb.mono HB13.out.size))
  clear ho hb HP
  obtain ⟨q, hq⟩ : ∃ q, fin (run (sk0 true true) [⟨0, 0, 0, 0, 0, false⟩]) = q := ⟨_, rfl⟩
  rw [hq]
  clear hq
  unfold stv
  have hfl : ∀ W : World, (Instr.field 40 (.agg #[.slice (some ⟨g, 0, none⟩) 1 c, .int .i64 q.hu, .int .i64 q.hd, .int .i64 q.fu, .int .i64 q.fd, .int .i64 q.hh, .bool q.th]) 0).run Try.prog W = .ok (.slice (some ⟨g, 0, none⟩) 1 c) W := fun W => by kernel_rfl
  go_wp2_with fail
  go_ret
  exact ⟨rfl, HB14.out⟩
end Go.Proofs.Ytajmmnmagbnigaa
