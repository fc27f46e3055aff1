/- The walks of layer 1's texts: what the reference prints. -/
import Derived.Test.YtjmjjnbpbofjhaaFixW11
import Derived.Deep.LoopGhost
namespace Go.Proofs.Ytjmjjnbpbofjhaa
open Go.RowKit FixM FixP

theorem add_txt (W : World) (x y : List UInt8) (hx : x.length ≤ 1000) (hy : y.length ≤ 1000) : (Op.stringOp .add ⟨x.toArray⟩ ⟨y.toArray⟩).run Try.prog W = .ok (.string ⟨(x ++ y).toArray⟩) W :=
  run_string_add_lists W x y (by omega) (by omega)

set_option maxRecDepth 100000 in
set_option maxHeartbeats 1000000 in
/-- the reference's 'Print' of a number that is not below 0 -/
theorem refPrint_pos (n : Int) (w : World) (hn : 0 ≤ H n) :
    Calls Try.prog 77 #[.int .i64 n] w fun e w' => e = .returned (.string ⟨(prt (H n)).toArray⟩) ∧ BG w w' := by
  have hH := H_bd n
  obtain ⟨a, ha⟩ : ∃ a, H n = a := ⟨_, rfl⟩
  rw [ha] at hn hH ⊢
  have a1 : a ≤ 1073741824 := hH.2
  have href := prt_eq_ref a hn a1
  have hh : ∀ w, Calls Try.prog 103 #[.int .i64 n] w fun e w' => e = .returned (.int .i64 a) ∧ w = w' := fun w => by
    have := refHold_any n w
    rwa [ha] at this
  have hb0 := Whole_any 6 (a / 1000)
  have HH := Lib.hid hh
  have HR := Lib.hid href
  obtain ⟨b, hb⟩ : ∃ b, whl 7 (a / 1000) = b := ⟨_, rfl⟩
  have hbl : b.length ≤ 7 := by rw [← hb]; exact whl_len _ _
  have hcall : ∀ w, Calls Try.prog 104 #[.int .i64 (a / 1000)] w fun e w' => e = .returned (.string ⟨b.toArray⟩) ∧ BG w w' := fun w => by
    have := Whole_any 6 (a / 1000) w (by omega) (by omega) (by show a / 1000 < 10000000; omega) (by omega)
    rwa [show (6 + 1) = 7 from rfl, hb] at this
  have HC := Lib.hid hcall
  have HB := Lib.hid hb
  obtain ⟨q, hq⟩ : ∃ q, a % 1000 = q := ⟨_, rfl⟩
  have q0 : 0 ≤ q := by omega
  have q1 : q < 1000 := by omega
  have HQ := Lib.hid hq
  clear hh href hb hcall ha hH hb0
  go_enter Try.func77, Try.ntmps77
  go_wp2_with fail
  refine (HH.out _).mono ?_
  rintro e w' ⟨rfl, rfl⟩
  go_wp2_with fail
  refine (HC.out _).mono ?_
  rintro e w1 ⟨rfl, hb1⟩
  have HB1 := Lib.hid hb1
  by_cases hz : q = 0
  · have hfin : prt a = b := by have := HR.out; rw [HQ.out, if_pos hz, HB.out] at this; exact this
    have HF := Lib.hid hfin
    have bz : (q == 0) = true := by simp [hz]
    clear hz hfin
    go_wp2_with fail
    go_ret
    rw [HF.out]
    exact ⟨rfl, HB1.out⟩
  · have bz : (q == 0) = false := by simp [hz]
    have hadd := add_txt w1 b [46] (by omega) (by simp)
    have qp : 0 < q := by omega
    clear hz hb1
    go_wp2_with fail
    rw [HQ.out]
    clear hadd bz
    go_loopw [4, 5, 6] (fun s p k wr => ∃ j : Nat, j ≤ 3 ∧ s = .string ⟨(frs b q j).toArray⟩ ∧ p = .int .i64 (frp q j) ∧ k = .int .i64 (frk j) ∧ Hid (BG w wr) ∧ Hid (∀ i, i < j → 0 < i → 0 < frp q i)) (fun _ _ k _ => (intOf k).toNat)
    case atStart => exact ⟨0, by omega, rfl, rfl, rfl, HB1, fun i h => by omega⟩
    case round =>
      obtain ⟨j, hj, rfl, rfl, rfl, HBw, HI⟩ := hrel
      by_cases hp : 0 < frp q j
      · have hj2 : j ≤ 2 := by
          by_cases h : j = 3
          · subst h; exact absurd hp (by show ¬ (0 : Int) < 0; omega)
          · omega
        obtain ⟨f1, f2, f3, f4, f5, f6, f7, f8⟩ := fr_facts q q0 q1 j hj2
        have hsl := frs_len b q j
        have hadd := add_txt
        have hs1 : frs b q (j + 1) = frs b q j ++ [dgc (frp q j / frk j)] := rfl
        obtain ⟨P, hP⟩ : ∃ P, frp q j = P := ⟨_, rfl⟩
        obtain ⟨K, hK⟩ : ∃ K, frk j = K := ⟨_, rfl⟩
        obtain ⟨T, hT⟩ : ∃ T, frs b q j = T := ⟨_, rfl⟩
        rw [hP, hK] at f5 f6 f7
        rw [hP] at f1 f2 hp
        rw [hK] at f3 f4 f8
        rw [hP, hK, hT] at hs1
        rw [hT] at hsl
        rw [hP, hK, hT]
        have hadd : ∀ W, (Op.stringOp .add ⟨T.toArray⟩ ⟨#[dgc (P / K)]⟩).run Try.prog W = .ok (.string ⟨(T ++ [dgc (P / K)]).toArray⟩) W := fun W => add_txt W T [dgc (P / K)] (by omega) (by simp)
        have hcall : ∀ w, Calls Try.prog 104 #[.int .i64 (P / K)] w fun e w' => e = .returned (.string ⟨#[dgc (P / K)]⟩) ∧ BG w w' := fun w => by
          have := Whole_low (P / K) w f5 f6 0
          rwa [whl_digit f6 0] at this
        have hnew : ∀ i, i < j + 1 → 0 < i → 0 < frp q i := by
          intro i h1 h2
          by_cases h : i = j
          · rw [h, hP]; exact hp
          · exact HI.out i (by omega) h2
        have HS1 := Lib.hid hs1
        have HC2 := Lib.hid hcall
        have HNEW := Lib.hid hnew
        have HF7 := Lib.hid f7
        have HF8 := Lib.hid f8
        have hK0 : 0 ≤ K := by omega
        have hm := Int.emod_nonneg P (show K ≠ 0 by omega)
        clear hs1 hcall hnew f7 f8 hsl hP hK hT
        go_wp2_with fail
        refine (HC2.out _).mono ?_
        rintro e w2 ⟨rfl, hb2⟩
        have HB2 := Lib.hid hb2
        clear hb2
        go_wp2_with fail
        go_roundw
        case rel => exact ⟨j + 1, by omega, by rw [HS1.out], by rw [HF7.out], by rw [HF8.out], Lib.hid (HBw.out.trans HB2.out), HNEW⟩
        case measure => simp [intOf]; omega
      · have hfin : frp q j = 0 → frr b q = frs b q j := fun hz => frr_eq b q qp j hj hz HI.out
        have hge : 0 ≤ frp q j := by
          by_cases h : j = 3
          · subst h; exact Int.le_refl 0
          · exact (fr_facts q q0 q1 j (by omega)).1
        have hz : frp q j = 0 := by omega
        have hres : prt a = frs b q j := by
          have := HR.out
          rw [HQ.out, if_neg (by omega), HB.out, hfin hz] at this
          exact this
        have HRES := Lib.hid hres
        clear hres hfin hz
        go_wp2_with fail
        go_ret
        rw [HRES.out]
        exact ⟨rfl, HBw.out⟩
end Go.Proofs.Ytjmjjnbpbofjhaa
