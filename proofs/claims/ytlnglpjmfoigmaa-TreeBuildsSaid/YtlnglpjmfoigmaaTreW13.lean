/- The walk of layer 4's reference: equal lists of nodes are the same. -/
import Derived.Test.YtlnglpjmfoigmaaTreW12
import Derived.Test.YtlnglpjmfoigmaaTreC
namespace Go.Proofs.Ytlnglpjmfoigmaa
open Go.RowKit TreN TreP

set_option maxRecDepth 100000 in
set_option maxHeartbeats 4000000 in
theorem Same_eq (b1 o1 b2 o2 len ca cb : Nat) (A B : Nat → Nd) (w : World) (hl : len ≤ 100000) (hA : NAt w b1 o1 len A) (hB : NAt w b2 o2 len B) (he : ∀ i, i < len → Eqn (A i) (B i) ∧ (B i).par = (A i).par ∧ (A i).cl ≤ 8 ∧ (A i).al ≤ 8) :
    Calls Try.prog 30 #[.slice (some ⟨b1, o1, none⟩) len ca, .slice (some ⟨b2, o2, none⟩) len cb] w fun e w' => e = .returned (.bool true) ∧ Below w.heap.size w w' := by
  have HA := Lib.hid hA
  have HB := Lib.hid hB
  have HE := Lib.hid he
  clear hA hB he
  go_enter Try.func30, Try.ntmps30
  go_wp2_with fail
  go_loopw [5] (fun vi wr => ∃ k : Nat, vi = .int .i64 k ∧ k ≤ len ∧ Hid (Below w.heap.size w wr)) (fun vi _ => len - (intOf vi).toNat)
  case atStart => exact ⟨0, rfl, by omega, Lib.hid (Below.refl _ _)⟩
  case round =>
    obtain ⟨k, rfl, hk, HW⟩ := hrel
    by_cases hlt : k < len
    · have hltz : (k : Int) < (len : Int) := by omega
      obtain ⟨he, hp, h8, h8'⟩ := HE.out k hlt
      obtain ⟨⟨c0, c1, c2, c3, c4, c5⟩, hiA⟩ := (HA.out.below HW.out).2 k hlt
      obtain ⟨⟨d0, d1, d2, d3, d4, d5⟩, hiB⟩ := (HB.out.below HW.out).2 k hlt
      rw [hp] at d0
      have hcl := fun (W : World) (hW : Below wr.heap.size wr W) => Like_eq (A k) (B k) W (hiA.below hW) (hiB.below hW) he h8 h8'
      simp only [Nd.val_eq, hp] at hcl
      have CL := Lib.hid hcl
      clear he hp h8 h8' hiA hiB hcl
      go_wp2_with fail
      refine wp_region_still_tail 20 (by kernel_rfl) (by kernel_rfl) ?_
      simp only [List.take_succ_cons, List.take_zero, List.drop_succ_cons, List.drop_zero]
      repeat still_step
      refine wpStill_nil ?_
      change wpList _ _ _ _ _ wr.drew
      clear c0 c1 c2 c3 c4 c5 d0 d1 d2 d3 d4 d5
      have HD := Lib.hid (Below.drew (Below.refl wr.heap.size wr))
      generalize wr.drew = wd at HD ⊢
      go_wp2_with fail
      refine (CL.out _ HD.out).mono ?_
      rintro e w1 ⟨rfl, hb⟩
      have HB1 := Lib.hid (HW.out.trans ((HD.out.trans (hb.mono HD.out.size)).mono HW.out.size))
      clear hb
      go_wp2_with fail
      go_roundw
      case rel => exact ⟨k + 1, by go_num, by omega, HB1⟩
      case measure => simp [intOf]; omega
    · have hltz : ¬ (k : Int) < (len : Int) := by omega
      go_wp2_with fail
      go_ret
      exact ⟨rfl, HW.out⟩
end Go.Proofs.Ytlnglpjmfoigmaa
