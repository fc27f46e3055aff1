/- The walk of layer 4's law: what stands beneath a node lies between it and its end. -/
import Derived.Test.YtlnglpjmfoigmaaTreL1
import Derived.Test.YtlnglpjmfoigmaaTreT
namespace Go.Proofs.Ytlnglpjmfoigmaa
open Go.RowKit TreN TreP

/-- what the law's walk asks -/
def LiesOK (a : Option Addr) (len cap : Nat) (i : Int) (w : World) : Prop := Calls Try.prog 6 #[.slice a len cap, .int .i64 i] w fun e w' => e = .returned (.bool true) ∧ Below w.heap.size w w'

set_option maxRecDepth 100000 in
set_option maxHeartbeats 2000000 in
theorem TreeLies_many (a : Option Addr) (len cap : Nat) (i : Int) (w : World) (h : 100 < len) : LiesOK a len cap i w := by
  unfold LiesOK
  have hz : (100 : Int) < (len : Int) := by omega
  go_enter Try.func6, Try.ntmps6
  go_wp2_with fail
  refine (known4_any _).mono ?_
  rintro e w3 ⟨rfl, hb3⟩
  have H3 := Lib.hid hb3
  clear hb3
  go_wp2_with fail
  go_ret
  exact ⟨rfl, H3.out⟩

set_option maxRecDepth 100000 in
set_option maxHeartbeats 4000000 in
theorem TreeLies_no (a : Option Addr) (len cap : Nat) (L : Nat → Nd) (i : Int) (w : World) (hl : len ≤ 100) (hN : Nods w a len L) (h : checkS L len ≠ 0 ∨ (checkS L len = 0 ∧ (i < 0 ∨ (len : Int) ≤ i))) : LiesOK a len cap i w := by
  unfold LiesOK
  have hz : ¬ (100 : Int) < (len : Int) := by omega
  have C := Lib.hid (Check_any a len cap L w hN)
  clear hN
  rcases h with h | ⟨h, h2⟩
  · obtain ⟨c, hc⟩ : ∃ c, checkS L len = c := ⟨_, rfl⟩
    have C2 : Hid (Calls Try.prog 16 #[.slice a len cap] w fun e w' => e = .returned (.int .i64 c) ∧ Below w.heap.size w w') := by rw [← hc]; exact C
    rw [hc] at h
    have hcb : (c != 0) = true := by simp [bne, h]
    clear C h hc
    go_enter Try.func6, Try.ntmps6
    go_wp2_with fail
    refine C2.out.mono ?_
    rintro e w1 ⟨rfl, hb1⟩
    have H1 := Lib.hid hb1
    clear hb1
    go_wp2_with fail
    refine (known4_any _).mono ?_
    rintro e w3 ⟨rfl, hb3⟩
    have H3 := Lib.hid (H1.out.trans (hb3.mono H1.out.size))
    clear hb3
    go_wp2_with fail
    go_ret
    exact ⟨rfl, H3.out⟩
  · have C2 : Hid (Calls Try.prog 16 #[.slice a len cap] w fun e w' => e = .returned (.int .i64 0) ∧ Below w.heap.size w w') := by rw [← h]; exact C
    clear C h
    rcases not_there len i h2 with h | ⟨h, h3⟩
    all_goals
      clear h2
      go_enter Try.func6, Try.ntmps6
      go_wp2_with fail
      refine C2.out.mono ?_
      rintro e w1 ⟨rfl, hb1⟩
      have H1 := Lib.hid hb1
      clear hb1
      go_wp2_with fail
      refine (known4_any _).mono ?_
      rintro e w3 ⟨rfl, hb3⟩
      have H3 := Lib.hid (H1.out.trans (hb3.mono H1.out.size))
      clear hb3
      go_wp2_with fail
      go_ret
      exact ⟨rfl, H3.out⟩

set_option maxRecDepth 100000 in
set_option maxHeartbeats 8000000 in
theorem TreeLies_yes (a : Option Addr) (len cap : Nat) (L : Nat → Nd) (i : Nat) (w : World) (hl : len ≤ 100) (hN : Nods w a len L) (hi : i < len) (h : checkS L len = 0) : LiesOK a len cap (i : Int) w := by
  unfold LiesOK
  have hz : ¬ (100 : Int) < (len : Int) := by omega
  have hz2 : ¬ (len : Int) ≤ (i : Int) := by omega
  have C2 : Hid (Calls Try.prog 16 #[.slice a len cap] w fun e w' => e = .returned (.int .i64 0) ∧ Below w.heap.size w w') := by rw [← h]; exact Check_any a len cap L w hN
  have HT := Lib.hid (tree_of L len h)
  have HN := Lib.hid hN
  clear h hN
  go_enter Try.func6, Try.ntmps6
  go_wp2_with fail
  refine C2.out.mono ?_
  rintro e w1 ⟨rfl, hb1⟩
  have HN1 := Lib.hid (HN.out.below hb1)
  have H1 := Lib.hid hb1
  clear hb1
  go_wp2_with fail
  refine (End_any a len cap (parOf L) i w1 (by omega) hi HN1.out.pars).mono ?_
  rintro e w' ⟨E, rfl, hE, rfl⟩
  have HE : Hid (EndIs (parOf L) len i E) := hE
  have hEl := hE.2.1
  have hEi := hE.1
  clear hE
  go_wp2_with fail
  go_loop [6] (fun u => ∃ k : Nat, u = .int .i64 k ∧ k ≤ len) (fun u => len - (intOf u).toNat)
  case atStart => exact ⟨0, rfl, by omega⟩
  case round =>
    obtain ⟨k, rfl, hk⟩ := hrel
    by_cases hlt : k < len
    · have hltz : (k : Int) < (len : Int) := by omega
      have CU := refUnder_any a len cap (parOf L) k i w1 hlt HN1.out.pars
      rw [und_iff (parOf L) len i E HT.out HE.out k hlt] at CU
      by_cases g1 : i < k
      · have g1z : (i : Int) < (k : Int) := by omega
        by_cases g2 : k < E
        · have g2z : (k : Int) < (E : Int) := by omega
          rw [decide_eq_true g1, decide_eq_true g2, Bool.and_self] at CU
          have HCU := Lib.hid CU
          clear CU
          go_wp2_with fail
          refine HCU.out.mono ?_
          rintro e w' ⟨rfl, rfl⟩
          go_wp2_with fail
          go_round
          case rel => exact ⟨k + 1, by go_num, by omega⟩
          case measure => simp [intOf]; omega
        · have g2z : ¬ (k : Int) < (E : Int) := by omega
          have g2b : decide ((k : Int) < (E : Int)) = false := decide_eq_false g2z
          rw [decide_eq_false g2, Bool.and_false] at CU
          have HCU := Lib.hid CU
          clear CU
          go_wp2_with fail
          refine HCU.out.mono ?_
          rintro e w' ⟨rfl, rfl⟩
          go_wp2_with fail
          go_round
          case rel => exact ⟨k + 1, by go_num, by omega⟩
          case measure => simp [intOf]; omega
      · have g1z : ¬ (i : Int) < (k : Int) := by omega
        rw [decide_eq_false g1, Bool.false_and] at CU
        have HCU := Lib.hid CU
        clear CU
        go_wp2_with fail
        refine HCU.out.mono ?_
        rintro e w' ⟨rfl, rfl⟩
        go_wp2_with fail
        go_round
        case rel => exact ⟨k + 1, by go_num, by omega⟩
        case measure => simp [intOf]; omega
    · have hltz : ¬ (k : Int) < (len : Int) := by omega
      have hkl := kidsF_len (kidB (parOf L) i) (i + 1) (len - (i + 1))
      have hKA := fun aa jj => kids_at (parOf L) len i E aa jj HT.out HE.out
      have cK := Kids_any a len cap (parOf L) i w1 (by omega) hi HN1.out.pars
      obtain ⟨K, hK⟩ : ∃ K, kidsF (kidB (parOf L) i) (i + 1) (len - (i + 1)) = K := ⟨_, rfl⟩
      rw [hK] at cK hkl
      simp only [hK] at hKA
      have CK := Lib.hid cK
      have HKA := Lib.hid hKA
      clear cK hK hKA
      go_wp2_with fail
      refine CK.out.mono ?_
      rintro e w2 ⟨ad, c, rfl, hb2, hnl⟩
      have HN2 := Lib.hid (HN1.out.below hb2)
      have H2 := Lib.hid (H1.out.trans (hb2.mono H1.out.size))
      have HNL := Lib.hid hnl
      clear hb2 hnl
      go_wp2_with fail
      go_loop [8, 9] (fun v u => ∃ aa jj : Nat, v = .int .i64 aa ∧ u = .int .i64 jj ∧ jj ≤ K.length ∧ Hid (KidInv (parOf L) i E aa jj)) (fun _ u => K.length - (intOf u).toNat)
      case atStart => exact ⟨i + 1, 0, by go_num, rfl, by omega, kid_first (parOf L) len i E HE.out⟩
      case round =>
        obtain ⟨aa, jj, rfl, rfl, hjj, HI⟩ := hrel
        obtain ⟨i1, i2, i3, i4⟩ := HI.out
        clear i3 i4
        by_cases hlt2 : jj < K.length
        · have hltz2 : (jj : Int) < (K.length : Int) := by omega
          have haE : aa < E := by
            by_cases c2 : aa = E
            · have := (HKA.out aa jj HI.out).2 c2; omega
            · omega
          have hget := ((HKA.out aa jj HI.out).1 haE).1
          obtain ⟨g, rfl, c0⟩ : ∃ g, ad = some ⟨g, 0, none⟩ ∧ w2.cell? ⟨g, jj, none⟩ = some (.int .i64 (aa : Int)) := by
            rcases HNL.out with e | ⟨g, e, _, hc⟩
            · rw [e] at hlt2; simp at hlt2
            · exact ⟨g, e, hc jj aa hget⟩
          have CE := Lib.hid (End_any a len cap (parOf L) aa w2 (by omega) (by omega) HN2.out.pars)
          clear hget
          go_wp2_with fail
          refine CE.out.mono ?_
          rintro e w' ⟨a2, rfl, hA, rfl⟩
          have HI2 : Hid (KidInv (parOf L) i E a2 (jj + 1)) := kid_next (parOf L) len i E aa jj a2 HT.out HE.out HI.out haE hA
          clear hA
          go_wp2_with fail
          go_round
          case rel => exact ⟨a2, jj + 1, rfl, by go_num, by omega, HI2⟩
          case measure => simp [intOf]; omega
        · have haE : aa = E := by
            by_cases c2 : aa < E
            · have := ((HKA.out aa jj HI.out).1 c2).2; omega
            · omega
          subst haE
          have hltz2 : ¬ (jj : Int) < (K.length : Int) := by omega
          go_wp2_with fail
          refine (known4_any _).mono ?_
          rintro e w3 ⟨rfl, hb3⟩
          have H3 := Lib.hid (H2.out.trans (hb3.mono H2.out.size))
          clear hb3
          go_wp2_with fail
          go_ret
          exact ⟨rfl, H3.out⟩

set_option maxRecDepth 100000 in
theorem TreeLies_walk (a : Option Addr) (len cap : Nat) (L : Nat → Nd) (i : Int) (w : World) (hN : Nods w a len L) :
    Calls Try.prog 6 #[.slice a len cap, .int .i64 i] w fun e w' => e = .returned (.bool true) ∧ Below w.heap.size w w' := by
  by_cases hl : len ≤ 100
  · by_cases h : checkS L len = 0
    · by_cases hi : i < 0 ∨ (len : Int) ≤ i
      · exact TreeLies_no a len cap L i w hl hN (Or.inr ⟨h, hi⟩)
      · obtain ⟨k, rfl⟩ := Int.eq_ofNat_of_zero_le (show 0 ≤ i by omega)
        exact TreeLies_yes a len cap L k w hl hN (by omega) h
    · exact TreeLies_no a len cap L i w hl hN (Or.inl h)
  · exact TreeLies_many a len cap i w (by omega)
end Go.Proofs.Ytlnglpjmfoigmaa
