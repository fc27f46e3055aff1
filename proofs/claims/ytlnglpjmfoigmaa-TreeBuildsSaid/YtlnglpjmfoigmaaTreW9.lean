/- The walks of layer 4's reference: what keeps a list from being a tree. -/
import Derived.Test.YtlnglpjmfoigmaaTreC
import Derived.Test.YtlnglpjmfoigmaaTreW8
namespace Go.Proofs.Ytlnglpjmfoigmaa
open Go.RowKit TreN TreP

set_option maxRecDepth 100000 in
set_option maxHeartbeats 1000000 in
theorem refStands_0 (a : Option Addr) (len cap : Nat) (L : Nat → Nd) (w : World) (h : 0 < len) (hN : Nods w a len L) :
    Calls Try.prog 49 #[.slice a len cap, .int .i64 0] w fun e w' => e = .returned (.bool (stB L 0)) ∧ w = w' := by
  obtain ⟨b, off, rfl, ⟨c0, c1, _⟩, _⟩ := hN.at_ h
  rw [Nat.zero_mul, Nat.add_zero] at c0 c1
  have hs : stB L 0 = (decide ((L 0).par = -1) && !emB (L 0).tag) := by unfold stB; rw [if_pos rfl]
  rw [hs]
  have hv : decide ((L 0).par = -1) = ((L 0).par == -1) := rfl
  rw [hv]
  unfold emB
  clear hs hv hN
  cases hp : ((L 0).par == -1)
  all_goals
    go_enter Try.func49, Try.ntmps49
    go_wp2_with fail
    go_ret
    exact ⟨rfl, rfl⟩

set_option maxRecDepth 100000 in
set_option maxHeartbeats 1000000 in
theorem refStands_any (a : Option Addr) (len cap : Nat) (L : Nat → Nd) (k : Nat) (w : World) (hl : len ≤ 100000) (h0 : 0 < k) (h : k < len) (hN : Nods w a len L) :
    Calls Try.prog 49 #[.slice a len cap, .int .i64 (k : Int)] w fun e w' => e = .returned (.bool (stB L k)) ∧ w = w' := by
  have C := Lib.hid (refUp_any a len cap (parOf L) k w h hN.pars)
  have hk0 : ((k : Int) == 0) = false := by rw [beq_eq_false_iff_ne]; omega
  have hkb : (k : Int) ≤ 100000 := by omega
  have hkb0 : (1 : Int) ≤ (k : Int) := by omega
  have hs : stB L k = (decide (0 ≤ up (parOf L) k) && (!emB (L (up (parOf L) k).toNat).tag && (decide (up (parOf L) k = (k : Int) - 1) || undB (parOf L) (k - 1) (up (parOf L) k).toNat))) := by unfold stB; rw [if_neg (by omega)]
  have hb := up_bd (parOf L) k
  obtain ⟨z, hz⟩ : ∃ z, up (parOf L) k = z := ⟨_, rfl⟩
  rw [hz] at C hs hb
  clear hz
  by_cases hz0 : 0 ≤ z
  · obtain ⟨p, rfl⟩ := Int.eq_ofNat_of_zero_le hz0
    rw [decide_eq_true hz0, Bool.true_and, Int.toNat_natCast] at hs
    have hpk : p < k := by omega
    have CU := Lib.hid (refUnder_any a len cap (parOf L) (k - 1) p w (by omega) hN.pars)
    have hk1 : ((k - 1 : Nat) : Int) = (k : Int) - 1 := by omega
    rw [hk1] at CU
    obtain ⟨b, off, rfl, ⟨_, c1, _⟩, _⟩ := hN.at_ (show p < len by omega)
    have hpz : (p : Int) < (len : Int) := by omega
    rw [hs]
    have hv : decide ((p : Int) = (k : Int) - 1) = ((p : Int) == (k : Int) - 1) := rfl
    rw [hv]
    clear hs hv hb hN hk1
    cases he : emB (L p).tag with
    | true =>
      unfold emB at he
      go_enter Try.func49, Try.ntmps49
      go_wp2_with fail
      refine C.out.mono ?_
      rintro e w' ⟨rfl, rfl⟩
      go_wp2_with fail
      go_ret
      exact ⟨rfl, rfl⟩
    | false =>
      unfold emB at he
      cases hq : ((p : Int) == (k : Int) - 1)
      all_goals
        go_enter Try.func49, Try.ntmps49
        go_wp2_with fail
        refine C.out.mono ?_
        rintro e w' ⟨rfl, rfl⟩
        go_wp2_with (go_at_call 27; refine CU.out.mono ?_; rintro e w' ⟨rfl, rfl⟩)
        go_ret
        exact ⟨rfl, rfl⟩
  · rw [decide_eq_false hz0, Bool.false_and] at hs
    rw [hs]
    clear hs hb hN
    go_enter Try.func49, Try.ntmps49
    go_wp2_with fail
    refine C.out.mono ?_
    rintro e w' ⟨rfl, rfl⟩
    go_wp2_with fail
    go_ret
    exact ⟨rfl, rfl⟩
set_option maxRecDepth 100000 in
theorem refStands_all (a : Option Addr) (len cap : Nat) (L : Nat → Nd) (k : Nat) (w : World) (hl : len ≤ 100000) (h : k < len) (hN : Nods w a len L) :
    Calls Try.prog 49 #[.slice a len cap, .int .i64 (k : Int)] w fun e w' => e = .returned (.bool (stB L k)) ∧ w = w' := by
  cases k with
  | zero => exact refStands_0 a len cap L w h hN
  | succ k => exact refStands_any a len cap L (k + 1) w hl (by omega) h hN

/-- what a Check comes to -/
def ToldC (L : Nat → Nd) (len : Nat) (w : World) (e : Ending) (w' : World) : Prop := e = .returned (.int .i64 (checkS L len)) ∧ Below w.heap.size w w'

set_option maxRecDepth 100000 in
set_option maxHeartbeats 4000000 in
theorem refCheck_mid (a : Option Addr) (len cap : Nat) (L : Nat → Nd) (w : World) (h0 : 0 < len) (hl : len ≤ 1024) (hN : Nods w a len L) :
    Calls Try.prog 17 #[.slice a len cap] w fun e w' => e = .returned (.int .i64 (chkTo L len)) ∧ Below w.heap.size w w' := by
  have z0 : ((len : Int) == 0) = false := by rw [beq_eq_false_iff_ne]; omega
  have z1 : ¬ (1024 : Int) < (len : Int) := by omega
  have HN := Lib.hid hN
  clear hN
  go_enter Try.func17, Try.ntmps17
  go_wp2_with fail
  go_loopw [3] (fun u wr => ∃ k : Nat, u = .int .i64 k ∧ k ≤ len ∧ Hid (Below w.heap.size w wr) ∧ Hid (∀ j, j < k → nodeS L j = 0)) (fun u _ => len - (intOf u).toNat)
  case atStart => exact ⟨0, rfl, by omega, Below.refl _ _, fun j hj => by omega⟩
  case round =>
    obtain ⟨k, rfl, hk, HB, HI⟩ := hrel
    by_cases hlt : k < len
    · have hltz : (k : Int) < (len : Int) := by omega
      have HNr := Lib.hid (HN.out.below HB.out)
      obtain ⟨b, off, ha, ⟨c0, c1, c2, c3, c4, c5⟩, hin⟩ := HNr.out.at_ hlt
      subst ha
      have hR := refRight_any (L k) wr hin
      rw [Nd.val_eq] at hR
      have HR := Lib.hid hR
      have hnS : nodeS L k = if (rightB (L k) && stB L k) = true then (if 64 < 1 + (ups (parOf L) k).length then 31 else 0) else 34 := rfl
      have HS := Lib.hid hnS
      clear hR hin hnS
      cases hr : rightB (L k) with
      | false =>
        have HRB := Lib.hid hr
        clear hr
        go_wp2_with fail
        clear c0 c1 c2 c3 c4 c5
        refine HR.out.mono ?_
        rintro e w1 ⟨rfl, hb1⟩
        rw [HRB.out]
        have H1 := Lib.hid (HB.out.trans (hb1.mono HB.out.size))
        clear hb1
        go_wp2_with fail
        go_ret
        have e : nodeS L k = 34 := by rw [HS.out, HRB.out]; rfl
        exact ⟨ret_int (by rw [chk_one L k HI.out (by rw [e]; decide) len hlt, e]), H1.out⟩
      | true =>
        have HRB := Lib.hid hr
        clear hr
        go_wp2_with fail
        clear c0 c1 c2 c3 c4 c5
        refine HR.out.mono ?_
        rintro e w1 ⟨rfl, hb1⟩
        rw [HRB.out]
        have H1 := Lib.hid (HB.out.trans (hb1.mono HB.out.size))
        have HN1 := Lib.hid (HNr.out.below hb1)
        clear hb1
        cases hs : stB L k with
        | false =>
          have HSB := Lib.hid hs
          clear hs
          go_wp2_with fail
          refine (refStands_all (some ⟨b, off, none⟩) len cap L k w1 (by omega) hlt HN1.out).mono ?_
          rintro e w' ⟨rfl, rfl⟩
          rw [HSB.out]
          go_wp2_with fail
          go_ret
          have e : nodeS L k = 34 := by rw [HS.out, HRB.out, HSB.out]; rfl
          exact ⟨ret_int (by rw [chk_one L k HI.out (by rw [e]; decide) len hlt, e]), H1.out⟩
        | true =>
          have HSB := Lib.hid hs
          clear hs
          have CD := Lib.hid (refDepth_any (some ⟨b, off, none⟩) len cap (parOf L) k w1 (by omega) hlt HN1.out.pars)
          have hul := ups_length (parOf L) k
          obtain ⟨x, hx⟩ : ∃ x, (ups (parOf L) k).length = x := ⟨_, rfl⟩
          rw [hx] at CD hul HS
          clear hx
          by_cases hd : 64 < 1 + x
          · have hdz : (64 : Int) < 1 + (x : Int) := by omega
            go_wp2_with fail
            refine (refStands_all (some ⟨b, off, none⟩) len cap L k w1 (by omega) hlt HN1.out).mono ?_
            rintro e w' ⟨rfl, rfl⟩
            rw [HSB.out]
            go_wp2_with fail
            refine CD.out.mono ?_
            rintro e w' ⟨rfl, rfl⟩
            go_wp2_with fail
            go_ret
            have e : nodeS L k = 31 := by rw [HS.out, HRB.out, HSB.out, Bool.and_self, if_pos rfl, if_pos hd]
            exact ⟨ret_int (by rw [chk_one L k HI.out (by rw [e]; decide) len hlt, e]), H1.out⟩
          · have hdz : ¬ (64 : Int) < 1 + (x : Int) := by omega
            go_wp2_with fail
            refine (refStands_all (some ⟨b, off, none⟩) len cap L k w1 (by omega) hlt HN1.out).mono ?_
            rintro e w' ⟨rfl, rfl⟩
            rw [HSB.out]
            go_wp2_with fail
            refine CD.out.mono ?_
            rintro e w' ⟨rfl, rfl⟩
            go_wp2_with fail
            go_roundw
            case rel =>
              refine ⟨k + 1, by go_num, by omega, H1, fun j hj => ?_⟩
              by_cases c : j = k
              · subst c; rw [HS.out, HRB.out, HSB.out, Bool.and_self, if_pos rfl, if_neg hd]
              · exact HI.out j (by omega)
            case measure => simp [intOf]; omega
    · have hke : k = len := by omega
      have hc : chkTo L len = 0 := by rw [← hke]; exact chk_zero L k HI.out
      have HC := Lib.hid hc
      have hltz : ¬ (k : Int) < (len : Int) := by omega
      clear hke hc
      go_wp2_with fail
      go_ret
      exact ⟨ret_int HC.out.symm, HB.out⟩

set_option maxRecDepth 100000 in
set_option maxHeartbeats 400000 in
theorem refCheck_any (a : Option Addr) (len cap : Nat) (L : Nat → Nd) (w : World) (hN : Nods w a len L) :
    Calls Try.prog 17 #[.slice a len cap] w (ToldC L len w) := by
  unfold ToldC
  by_cases h0 : len = 0
  · subst h0
    have hc : checkS L 0 = 34 := rfl
    rw [hc]
    clear hN hc
    go_enter Try.func17, Try.ntmps17
    go_wp2_with fail
    go_ret
    exact ⟨rfl, Below.refl _ _⟩
  · by_cases h1 : 1024 < len
    · have hc : checkS L len = 32 := by unfold checkS; rw [if_neg h0, if_pos h1]
      rw [hc]
      have z0 : ((len : Int) == 0) = false := by rw [beq_eq_false_iff_ne]; omega
      have z1 : (1024 : Int) < (len : Int) := by omega
      clear hN hc
      go_enter Try.func17, Try.ntmps17
      go_wp2_with fail
      go_ret
      exact ⟨rfl, Below.refl _ _⟩
    · have hc : checkS L len = chkTo L len := by unfold checkS; rw [if_neg h0, if_neg h1]
      rw [hc]
      exact refCheck_mid a len cap L w (by omega) (by omega) hN
end Go.Proofs.Ytlnglpjmfoigmaa
