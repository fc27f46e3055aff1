/- The walks of layer 4: Check, whatever the list. -/
import Derived.Test.YtijhneadfagehaaTreW10
import Derived.Test.YtijhneadfagehaaTreW9
namespace Go.Proofs.Ytijhneadfagehaa
open Go.RowKit TreN TreP

set_option maxRecDepth 100000 in
theorem chk_34 (L : Nat → Nd) (len : Nat) (h0 : 0 < len) (h : (rightB (L 0) && stB L 0) = false) : chkTo L len = 34 := by
  have e : nodeS L 0 = 34 := by rw [nodeS_0, h]; rfl
  rw [chk_one L 0 (fun j hj => by omega) (by rw [e]; decide) len h0, e]

set_option maxRecDepth 100000 in
set_option maxHeartbeats 4000000 in
theorem Check_bad (b off len cap : Nat) (L : Nat → Nd) (w : World) (h0 : 0 < len) (hl : len ≤ 1024) (hN : NAt w b off len L) (h : emB (L 0).tag = true ∨ (emB (L 0).tag = false ∧ rightB (L 0) = false) ∨ (emB (L 0).tag = false ∧ rightB (L 0) = true ∧ (L 0).par ≠ -1)) :
    Calls Try.prog 15 #[.slice (some ⟨b, off, none⟩) len cap] w fun e w' => e = .returned (.int .i64 34) ∧ Below w.heap.size w w' := by
  have z0 : ((len : Int) == 0) = false := by rw [beq_eq_false_iff_ne]; omega
  have z1 : ¬ (1024 : Int) < (len : Int) := by omega
  have z2 : (0 : Int) < (len : Int) := by omega
  have HN := Lib.hid hN
  have hE := element_any (L 0) w
  rw [Nd.val_eq] at hE
  have HE := Lib.hid hE
  obtain ⟨c0, c1, c2, c3, c4, c5⟩ := hN.first h0
  clear hE hN
  rcases h with h | ⟨h, h2⟩ | ⟨h, h2, h3⟩
  · have HE0 := Lib.hid h
    clear h
    go_enter Try.func15, Try.ntmps15
    go_wp2
    go_step3
    go_wp2_with fail
    clear c0 c1 c2 c3 c4 c5
    refine HE.out.mono ?_
    rintro e w1 ⟨rfl, hb1⟩
    rw [HE0.out]
    have H1 := Lib.hid hb1
    clear hb1
    go_wp2_with fail
    try rw [Exit.noGoto_ret]
    go_ret
    exact ⟨rfl, H1.out⟩
  · have HE0 := Lib.hid h
    have HR0 := Lib.hid h2
    clear h h2
    go_enter Try.func15, Try.ntmps15
    go_wp2
    go_step3
    go_wp2_with fail
    clear c0 c1 c2 c3 c4 c5
    refine HE.out.mono ?_
    rintro e w1 ⟨rfl, hb1⟩
    rw [HE0.out]
    have HN1 := Lib.hid (HN.out.below hb1)
    have H1 := Lib.hid hb1
    clear hb1
    obtain ⟨c0, c1, c2, c3, c4, c5⟩ := HN1.out.first h0
    have hR := right_any (L 0) w1 (HN1.out.2 0 h0).2
    rw [Nd.val_eq] at hR
    have HR := Lib.hid hR
    clear hR
    go_wp2_with fail
    clear c0 c1 c2 c3 c4 c5
    refine HR.out.mono ?_
    rintro e w2 ⟨rfl, hb2⟩
    rw [HR0.out]
    have H2 := Lib.hid (H1.out.trans (hb2.mono H1.out.size))
    clear hb2
    go_wp2_with fail
    try rw [Exit.noGoto_ret]
    go_ret
    exact ⟨rfl, H2.out⟩
  · have HE0 := Lib.hid h
    have HR0 := Lib.hid h2
    have hp : ((L 0).par != -1) = true := by simp [bne, h3]
    have hp2 : ((L 0).par == -1) = false := by rw [beq_eq_false_iff_ne]; exact h3
    clear h h2 h3
    go_enter Try.func15, Try.ntmps15
    go_wp2
    go_step3
    go_wp2_with fail
    clear c0 c1 c2 c3 c4 c5
    refine HE.out.mono ?_
    rintro e w1 ⟨rfl, hb1⟩
    rw [HE0.out]
    have HN1 := Lib.hid (HN.out.below hb1)
    have H1 := Lib.hid hb1
    clear hb1
    obtain ⟨c0, c1, c2, c3, c4, c5⟩ := HN1.out.first h0
    have hR := right_any (L 0) w1 (HN1.out.2 0 h0).2
    rw [Nd.val_eq] at hR
    have HR := Lib.hid hR
    clear hR
    go_wp2_with fail
    clear c0 c1 c2 c3 c4 c5
    refine HR.out.mono ?_
    rintro e w2 ⟨rfl, hb2⟩
    rw [HR0.out]
    have HN2 := Lib.hid (HN1.out.below hb2)
    have H2 := Lib.hid (H1.out.trans (hb2.mono H1.out.size))
    clear hb2
    have c0 := (HN2.out.first h0).1
    go_wp2_with fail
    try rw [Exit.noGoto_ret]
    go_ret
    exact ⟨rfl, H2.out⟩

set_option maxRecDepth 100000 in
set_option maxHeartbeats 1000000 in
theorem Check_any (a : Option Addr) (len cap : Nat) (L : Nat → Nd) (w : World) (hN : Nods w a len L) :
    Calls Try.prog 15 #[.slice a len cap] w (ToldC L len w) := by
  unfold ToldC
  by_cases h0 : len = 0
  · subst h0
    have hc : checkS L 0 = 34 := rfl
    rw [hc]
    clear hN hc
    go_enter Try.func15, Try.ntmps15
    go_wp2
    go_step3
    go_wp2_with fail
    try rw [Exit.noGoto_ret]
    go_ret
    exact ⟨rfl, Below.refl _ _⟩
  · by_cases h1 : 1024 < len
    · have hc : checkS L len = 32 := by unfold checkS; rw [if_neg h0, if_pos h1]
      rw [hc]
      have z0 : ((len : Int) == 0) = false := by rw [beq_eq_false_iff_ne]; omega
      have z1 : (1024 : Int) < (len : Int) := by omega
      clear hN hc
      go_enter Try.func15, Try.ntmps15
      go_wp2
      go_step3
      go_wp2_with fail
      try rw [Exit.noGoto_ret]
      go_ret
      exact ⟨rfl, Below.refl _ _⟩
    · have hc : checkS L len = chkTo L len := by unfold checkS; rw [if_neg h0, if_neg h1]
      rw [hc]
      obtain ⟨b, off, rfl, hA⟩ := hN.lies (by omega)
      have hst : stB L 0 = (decide ((L 0).par = -1) && !emB (L 0).tag) := by unfold stB; rw [if_pos rfl]
      cases he : emB (L 0).tag with
      | true =>
        rw [chk_34 L len (by omega) (by rw [hst, he]; simp)]
        exact Check_bad b off len cap L w (by omega) (by omega) hA (Or.inl he)
      | false =>
        cases hr : rightB (L 0) with
        | false =>
          rw [chk_34 L len (by omega) (by rw [hr]; rfl)]
          exact Check_bad b off len cap L w (by omega) (by omega) hA (Or.inr (Or.inl ⟨he, hr⟩))
        | true =>
          by_cases hp : (L 0).par = -1
          · exact Check_loop b off len cap L w (by omega) (by omega) hA hr (by rw [hst, he, decide_eq_true hp]; rfl)
          · rw [chk_34 L len (by omega) (by rw [hst, decide_eq_false hp]; simp)]
            exact Check_bad b off len cap L w (by omega) (by omega) hA (Or.inr (Or.inr ⟨he, hr, hp⟩))
end Go.Proofs.Ytijhneadfagehaa
