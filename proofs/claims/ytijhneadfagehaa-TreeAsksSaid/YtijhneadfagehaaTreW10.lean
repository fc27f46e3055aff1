/- The walk of layer 4's Check. -/
import Derived.Test.YtijhneadfagehaaTreC
import Derived.Deep.LoopGhost
namespace Go.Proofs.Ytijhneadfagehaa
open Go.RowKit TreN TreP

set_option maxRecDepth 100000 in
set_option maxHeartbeats 8000000 in
theorem Check_loop (b off len cap : Nat) (L : Nat → Nd) (w : World) (h0 : 0 < len) (hl : len ≤ 1024) (hN : NAt w b off len L) (hr0 : rightB (L 0) = true) (hs0 : stB L 0 = true) :
    Calls Try.prog 15 #[.slice (some ⟨b, off, none⟩) len cap] w fun e w' => e = .returned (.int .i64 (chkTo L len)) ∧ Below w.heap.size w w' := by
  have hn0 : nodeS L 0 = 0 := by rw [nodeS_0, hr0, hs0]; rfl
  have hst : stB L 0 = (decide ((L 0).par = -1) && !emB (L 0).tag) := by unfold stB; rw [if_pos rfl]
  rw [hst, Bool.and_eq_true, decide_eq_true_eq] at hs0
  obtain ⟨hp0, he0⟩ := hs0
  have he0' : emB (L 0).tag = false := by simpa using he0
  have z0 : ((len : Int) == 0) = false := by rw [beq_eq_false_iff_ne]; omega
  have z1 : ¬ (1024 : Int) < (len : Int) := by omega
  have z2 : (0 : Int) < (len : Int) := by omega
  have HN := Lib.hid hN
  have HN0 := Lib.hid hn0
  have HR0 := Lib.hid hr0
  have HP0 := Lib.hid hp0
  have HE0 := Lib.hid he0'
  obtain ⟨c0, c1, c2, c3, c4, c5⟩ := hN.first h0
  have hE := element_any (L 0) w
  rw [Nd.val_eq] at hE
  have HE := Lib.hid hE
  clear hN hn0 hr0 hp0 he0 he0' hst hE
  go_enter Try.func15, Try.ntmps15
  go_wp2
  go_step3
  go_wp2_with fail
  clear c0 c1 c2 c3 c4 c5
  refine HE.out.mono ?_
  rintro e w1 ⟨rfl, hb1⟩
  rw [HE0.out]
  have HN1 := Lib.hid (HN.out.below hb1)
  have H1 := Lib.hid hb1
  clear hb1
  obtain ⟨c0, c1, c2, c3, c4, c5⟩ := HN1.out.first h0
  have hR := right_any (L 0) w1 (HN1.out.2 0 h0).2
  rw [Nd.val_eq] at hR
  have HR := Lib.hid hR
  clear hR
  go_wp2_with fail
  clear c0 c1 c2 c3 c4 c5
  refine HR.out.mono ?_
  rintro e w2 ⟨rfl, hb2⟩
  rw [HR0.out]
  have HN2 := Lib.hid (HN1.out.below hb2)
  have H2 := Lib.hid (H1.out.trans (hb2.mono H1.out.size))
  clear hb2
  have c0 := (HN2.out.first h0).1
  rw [HP0.out] at c0
  go_wp2_with fail
  clear c0
  go_step3
  go_wp2_with fail
  go_loopg [3] (len - 1) (fun g s3 wx => ∃ k : Nat, k + g = len ∧ s3 = .int .i64 k ∧ 1 ≤ k ∧ Hid (Below w.heap.size w wx) ∧ Hid (∀ j, j < k → nodeS L j = 0))
  case atStart =>
    refine ⟨1, by omega, rfl, by omega, H2, fun j hj => ?_⟩
    have e : j = 0 := by omega
    subst e
    exact HN0.out
  case round =>
    obtain ⟨k, hkg, rfl, hk1, HB, HI⟩ := hrel
    generalize gk = G at *
    by_cases hlt : k < len
    · have hltz : (k : Int) < (len : Int) := by omega
      have HNr := Lib.hid (HN.out.below HB.out)
      obtain ⟨⟨c0, c1, c2, c3, c4, c5⟩, hin⟩ := HNr.out.2 k hlt
      have hR := right_any (L k) wr hin
      rw [Nd.val_eq] at hR
      have HR := Lib.hid hR
      have HS : Hid (nodeS L k = if (rightB (L k) && stB L k) = true then (if 64 < 1 + (ups (parOf L) k).length then 31 else 0) else 34) := rfl
      clear hR hin
      have HKG := Lib.hid hkg
      clear hkg
      cases hr : rightB (L k) with
      | false =>
        have HRB := Lib.hid hr
        clear hr
        go_wp2_with fail
        clear c0 c1 c2 c3 c4 c5
        refine HR.out.mono ?_
        rintro e w3 ⟨rfl, hb1⟩
        rw [HRB.out]
        have H3 := Lib.hid (HB.out.trans (hb1.mono HB.out.size))
        clear hb1
        go_wp2_with fail
        try rw [Exit.noGoto_ret]
        go_ret
        have e : nodeS L k = 34 := by rw [HS.out, HRB.out]; rfl
        exact ⟨ret_int (by rw [chk_one L k HI.out (by rw [e]; decide) len hlt, e]), H3.out⟩
      | true =>
        have HRB := Lib.hid hr
        clear hr
        go_wp2_with fail
        clear c0 c1 c2 c3 c4 c5
        refine HR.out.mono ?_
        rintro e w3 ⟨rfl, hb1⟩
        rw [HRB.out]
        have H3 := Lib.hid (HB.out.trans (hb1.mono HB.out.size))
        clear hb1 HNr HR
        have hk1z : (k : Int) - 1 = ((k - 1 : Nat) : Int) := by omega
        go_wp2_with fail
        clear hk1z
        go_loopg [4] k (fun g s4 wx => ∃ (z : Int) (rest : List Nat), (z + 1).toNat = g ∧ s4 = .int .i64 z ∧ ((z = -1 ∧ rest = []) ∨ ∃ p : Nat, z = (p : Int) ∧ p < k ∧ rest = p :: ups (parOf L) p) ∧ Hid (stB L k = fnd L k rest) ∧ Hid (Below w.heap.size w wx))
        case atStart => exact ⟨((k - 1 : Nat) : Int), (k - 1) :: ups (parOf L) (k - 1), by omega, rfl, Or.inr ⟨k - 1, rfl, by omega, rfl⟩, st_fnd L k (by omega), H3⟩
        case round =>
          obtain ⟨z, rest, hzg, rfl, hz, HF, HBx⟩ := hrel
          have HZG := Lib.hid hzg
          clear hzg
          rcases hz with ⟨rfl, rfl⟩ | ⟨p, rfl, hp, rfl⟩
          · go_wp2_with fail
            try rw [Exit.noGoto_ret]
            go_ret
            have e : nodeS L k = 34 := by rw [HS.out, HRB.out, HF.out]; rfl
            exact ⟨ret_int (by rw [chk_one L k HI.out (by rw [e]; decide) len hlt, e]), HBx.out⟩
          · have hne : ((p : Int) == -1) = false := by rw [beq_eq_false_iff_ne]; omega
            have hpz : (p : Int) < (len : Int) := by omega
            have HNx := Lib.hid (HN.out.below HBx.out)
            obtain ⟨⟨d0, d1, d2, d3, d4, d5⟩, _⟩ := HNx.out.2 p (by omega)
            have e0 := (HNx.out.2 k hlt).1.1
            obtain ⟨x, hx⟩ : ∃ x, (L k).par = x := ⟨_, rfl⟩
            rw [hx] at e0
            have HX := Lib.hid hx
            clear hx
            have CP := Lib.hid (fun (W : World) (hW : Below w.heap.size w W) => parent_any (some ⟨b, off, none⟩) len cap (parOf L) p W (by omega) (HN.out.below hW).nods.pars)
            have hnext : ∀ v : Bool, stB L k = fnd L k (ups (parOf L) p) → True := fun _ _ => trivial
            clear hnext
            cases hc : ((p : Int) == x) with
            | false =>
              have hnf : fnd L k (p :: ups (parOf L) p) = fnd L k (ups (parOf L) p) := by
                unfold fnd
                rw [List.any_cons, HX.out, decide_eq_false (by rw [beq_eq_false_iff_ne] at hc; omega)]
                rfl
              have HNF := Lib.hid hnf
              clear hnf
              have hc' : ((p : Int) != x) = true := by simp [bne, hc]
              go_wp2_with fail
              refine (CP.out _ HBx.out).mono ?_
              rintro e w' ⟨rfl, rfl⟩
              go_wp2_with fail
              go_roundg (up (parOf L) p + 1).toNat
              case measure =>
                have := up_bd (parOf L) p
                have := HZG.out
                omega
              case rel =>
                refine ⟨up (parOf L) p, ups (parOf L) p, rfl, rfl, ?_, by rw [HF.out, HNF.out]; exact rfl, HBx⟩
                rcases ups_cases (parOf L) p with ⟨h1, h2⟩ | ⟨p2, hp2, h1, h2⟩
                · exact Or.inl ⟨h1, h2⟩
                · exact Or.inr ⟨p2, h1, by omega, h2⟩
            | true =>
              have hpx : (L k).par = (p : Int) := by rw [HX.out]; rw [beq_iff_eq] at hc; exact hc.symm
              have HPX := Lib.hid hpx
              clear hpx
              have hc' : ((p : Int) != x) = false := by simp [bne, hc]
              have hE := element_any (L p) wr
              rw [Nd.val_eq] at hE
              have HE := Lib.hid hE
              clear hE
              cases he : emB (L p).tag with
              | true =>
                have HEP := Lib.hid he
                have hnf : fnd L k (p :: ups (parOf L) p) = fnd L k (ups (parOf L) p) := by
                  unfold fnd
                  rw [List.any_cons, he]
                  simp
                have HNF := Lib.hid hnf
                clear hnf he
                go_wp2_with fail
                clear d0 d1 d2 d3 d4 d5 e0
                refine HE.out.mono ?_
                rintro e w4 ⟨rfl, hb4⟩
                rw [HEP.out]
                have H4 := Lib.hid (HBx.out.trans (hb4.mono HBx.out.size))
                clear hb4
                go_wp2_with fail
                refine (CP.out _ H4.out).mono ?_
                rintro e w' ⟨rfl, rfl⟩
                go_wp2_with fail
                go_roundg (up (parOf L) p + 1).toNat
                case measure =>
                  have := up_bd (parOf L) p
                  have := HZG.out
                  omega
                case rel =>
                  refine ⟨up (parOf L) p, ups (parOf L) p, rfl, rfl, ?_, by rw [HF.out, HNF.out]; exact rfl, H4⟩
                  rcases ups_cases (parOf L) p with ⟨h1, h2⟩ | ⟨p2, hp2, h1, h2⟩
                  · exact Or.inl ⟨h1, h2⟩
                  · exact Or.inr ⟨p2, h1, by omega, h2⟩
              | false =>
                have HEP := Lib.hid he
                have hst : stB L k = true := by rw [HF.out, fnd_one L k p _ HPX.out (by simp), he]; rfl
                have HST := Lib.hid hst
                clear he hst
                have hul := ups_length (parOf L) k
                go_wp2_with fail
                clear d0 d1 d2 d3 d4 d5 e0
                refine HE.out.mono ?_
                rintro e w4 ⟨rfl, hb4⟩
                rw [HEP.out]
                have H4 := Lib.hid (HBx.out.trans (hb4.mono HBx.out.size))
                have hD := Depth_any (some ⟨b, off, none⟩) len cap (parOf L) k w4 (by omega) hlt (HN.out.below H4.out).nods.pars
                obtain ⟨d, hd⟩ : ∃ d, (ups (parOf L) k).length = d := ⟨_, rfl⟩
                rw [hd] at hD hul
                have HD := Lib.hid hd
                have CD := Lib.hid hD
                clear hb4 hd hD
                by_cases h64 : 64 < 1 + d
                · have h64z : (64 : Int) < 1 + (d : Int) := by omega
                  go_wp2_with fail
                  refine CD.out.mono ?_
                  rintro e w5 ⟨rfl, hb5⟩
                  have H5 := Lib.hid (H4.out.trans (hb5.mono H4.out.size))
                  clear hb5
                  go_wp2_with fail
                  try rw [Exit.noGoto_ret]
                  go_ret
                  have e : nodeS L k = 31 := by rw [HS.out, HRB.out, HST.out, HD.out, Bool.and_self, if_pos rfl, if_pos h64]
                  exact ⟨ret_int (by rw [chk_one L k HI.out (by rw [e]; decide) len hlt, e]), H5.out⟩
                · have h64z : ¬ (64 : Int) < 1 + (d : Int) := by omega
                  go_wp2_with fail
                  refine CD.out.mono ?_
                  rintro e w5 ⟨rfl, hb5⟩
                  have H5 := Lib.hid (H4.out.trans (hb5.mono H4.out.size))
                  clear hb5
                  go_wp2_with fail
                  go_roundg (G - 1)
                  case measure => have := HKG.out; omega
                  case rel =>
                    refine ⟨k + 1, by have := HKG.out; omega, by go_num, by omega, H5, fun j hj => ?_⟩
                    by_cases c : j = k
                    · subst c; rw [HS.out, HRB.out, HST.out, HD.out, Bool.and_self, if_pos rfl, if_neg h64]
                    · exact HI.out j (by omega)
    · have hke : k = len := by omega
      have hc : chkTo L len = 0 := by rw [← hke]; exact chk_zero L k HI.out
      have HC := Lib.hid hc
      have hltz : ¬ (k : Int) < (len : Int) := by omega
      clear hke hc
      go_wp2_with fail
      try rw [Exit.noGoto_ret]
      go_ret
      exact ⟨ret_int HC.out.symm, HB.out⟩
end Go.Proofs.Ytijhneadfagehaa
