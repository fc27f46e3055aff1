/- The walk of layer 1's reference: Print, of any number. -/
import Derived.Test.YtjmjjnbpbofjhaaFixW12
namespace Go.Proofs.Ytjmjjnbpbofjhaa
open Go.RowKit FixM FixP

set_option maxRecDepth 100000 in
set_option maxHeartbeats 400000 in
theorem refPrint_any (n : Int) (w : World) :
    Calls Try.prog 77 #[.int .i64 n] w fun e w' => e = .returned (.string ⟨(prn (H n)).toArray⟩) ∧ BG w w' := by
  have hH := H_bd n
  by_cases h : 0 ≤ H n
  · have e : prn (H n) = prt (H n) := by unfold prn; rw [if_neg (by omega)]
    rw [e]
    exact refPrint_pos n w h
  · have e : prn (H n) = 45 :: prt (-H n) := by unfold prn; rw [if_pos (by omega)]
    have hid : H (-H n) = -H n := H_id (by omega) (by omega)
    have hlen : (prt (-H n)).length ≤ 1000 := by
      have h1 := prt_eq_ref (-H n) (by omega) (by omega)
      have h2 := whl_len 7 ((-H n) / 1000)
      have h3 := frs_len (whl 7 ((-H n) / 1000)) ((-H n) % 1000)
      rw [h1]
      split
      · omega
      · unfold frr
        split
        · rw [h3]; omega
        · split
          · rw [h3]; omega
          · rw [h3]; omega
    have hcall : ∀ w, Calls Try.prog 77 #[.int .i64 (-H n)] w fun e w' => e = .returned (.string ⟨(prt (-H n)).toArray⟩) ∧ BG w w' := fun w => by
      have := refPrint_pos (-H n) w (by omega)
      rwa [hid] at this
    have hadd : ∀ W, (Op.stringOp .add ⟨#[45]⟩ ⟨(prt (-H n)).toArray⟩).run Try.prog W = .ok (.string ⟨(45 :: prt (-H n)).toArray⟩) W := fun W => add_txt W [45] _ (by simp) hlen
    rw [e]
    obtain ⟨t, ht⟩ : ∃ t, prt (-H n) = t := ⟨_, rfl⟩
    rw [ht] at hcall hadd ⊢
    have HC := Lib.hid hcall
    clear hcall hid hlen e ht
    go_enter Try.func77, Try.ntmps77
    go_wp2_with fail
    refine (refHold_any _ _).mono ?_
    rintro e w' ⟨rfl, rfl⟩
    go_wp2_with fail
    refine (HC.out _).mono ?_
    rintro e w1 ⟨rfl, hb⟩
    have HB := Lib.hid hb
    clear hb
    go_wp2_with fail
    go_ret
    exact ⟨rfl, HB.out⟩
end Go.Proofs.Ytjmjjnbpbofjhaa
