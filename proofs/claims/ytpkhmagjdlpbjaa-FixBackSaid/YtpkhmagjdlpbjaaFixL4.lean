/- The laws of layer 1: what is printed is read as it was. -/
import Derived.Test.YtpkhmagjdlpbjaaFixW8
import Derived.Test.YtpkhmagjdlpbjaaFixW12
import Derived.Test.YtpkhmagjdlpbjaaFixB
namespace Go.Proofs.Ytpkhmagjdlpbjaa
open Go.RowKit FixM FixP

set_option maxHeartbeats 400000 in
theorem refPrint_any (n : Int) (w : World) :
    Calls Try.prog 28 #[.int .i64 n] w fun e w' => e = .returned (.string ⟨(prn (H n)).toArray⟩) ∧ BG w w' := by
  have hH := H_bd n
  by_cases h : 0 ≤ H n
  · have e : prn (H n) = prt (H n) := by unfold prn; rw [if_neg (by omega)]
    rw [e]
    exact refPrint_pos n w h
  · have e : prn (H n) = 45 :: prt (-H n) := by unfold prn; rw [if_pos (by omega)]
    have hid : H (-H n) = -H n := H_id (by omega) (by omega)
    have hlen : (prt (-H n)).length ≤ 1000 := by
      have h1 := prt_eq_ref (-H n) (by omega) (by omega)
      have h2 := whl_len 7 ((-H n) / 1000)
      have h3 := frs_len (whl 7 ((-H n) / 1000)) ((-H n) % 1000)
      rw [h1]
      split
      · omega
      · unfold frr
        split
        · rw [h3]; omega
        · split
          · rw [h3]; omega
          · rw [h3]; omega
    have hcall : ∀ w, Calls Try.prog 28 #[.int .i64 (-H n)] w fun e w' => e = .returned (.string ⟨(prt (-H n)).toArray⟩) ∧ BG w w' := fun w => by
      have := refPrint_pos (-H n) w (by omega)
      rwa [hid] at this
    have hadd : ∀ W, (Op.stringOp .add ⟨#[45]⟩ ⟨(prt (-H n)).toArray⟩).run Try.prog W = .ok (.string ⟨(45 :: prt (-H n)).toArray⟩) W := fun W => add_txt W [45] _ (by simp) hlen
    rw [e]
    obtain ⟨t, ht⟩ : ∃ t, prt (-H n) = t := ⟨_, rfl⟩
    rw [ht] at hcall hadd ⊢
    have HC := Lib.hid hcall
    clear hcall hid hlen e ht
    go_enter Try.func28, Try.ntmps28
    go_wp2_with fail
    refine (refHold_any _ _).mono ?_
    rintro e w' ⟨rfl, rfl⟩
    go_wp2_with fail
    refine (HC.out _).mono ?_
    rintro e w1 ⟨rfl, hb⟩
    have HB := Lib.hid hb
    clear hb
    go_wp2_with fail
    go_ret
    exact ⟨rfl, HB.out⟩

theorem str_eq (x : ByteArray) : (x.toList == x.toList) = true := by simp

set_option maxHeartbeats 400000 in
theorem FixBack_walk (n : Int) (w : World) : Calls Try.prog 7 #[.int .i64 n] w fun e w' => e = .returned (.bool true) ∧ Grown w w' := by
  have hH := H_bd n
  have hpp := parse_prn (H n) hH.1 hH.2
  obtain ⟨s, hs⟩ : ∃ s : ByteArray, s = ⟨(prn (H n)).toArray⟩ := ⟨_, rfl⟩
  have hsl : s.data.toList = prn (H n) := by rw [hs]
  have hsz : s.size ≤ 9223372036854775807 := by
    rw [← len_list, hsl]
    have h7 : ∀ a, (prt a).length ≤ 11 := fun a => by
      have h1 := pr1s_len a 3
      have h2 := prp_len (pr1s a 3).2
      have h3 := pr2s_len ((pr1s a 3).1, prp (pr1s a 3).2) 7
      unfold prt
      simp only [] at h3
      omega
    unfold prn
    split
    · have := h7 (-H n); simp; omega
    · have := h7 (H n); omega
  have c1 : ∀ w, Calls Try.prog 27 #[.int .i64 n] w fun e w' => e = .returned (.string s) ∧ Grown w w' := fun w => by
    have := Print_any n w
    rwa [← hs] at this
  have c2 : ∀ w, Calls Try.prog 28 #[.int .i64 n] w fun e w' => e = .returned (.string s) ∧ Grown w w' := fun w => by
    refine (refPrint_any n w).mono ?_
    rintro e w' ⟨rfl, h⟩
    rw [← hs]
    exact ⟨rfl, h.2⟩
  have c3 : ∀ w, Calls Try.prog 25 #[.string s] w fun e w' => e = .returned (.tuple #[.int .i64 (H n), .int .i64 0]) ∧ Grown w w' := fun w => by
    refine (Parse_any s w hsz).mono ?_
    rintro e w' ⟨rfl, st, rfl⟩
    rw [hsl, hpp]
    exact ⟨rfl, grown_PW w st⟩
  have heq := str_eq s
  have C1 := Lib.hid c1
  have C2 := Lib.hid c2
  have C3 := Lib.hid c3
  clear c1 c2 c3 hpp hs hsl hsz hH
  go_enter Try.func7, Try.ntmps7
  go_wp2_with fail
  refine (C1.out _).mono ?_
  rintro e w1 ⟨rfl, h1⟩
  have G1 := Lib.hid h1
  clear h1
  go_wp2_with fail
  refine (C3.out _).mono ?_
  rintro e w2 ⟨rfl, h2⟩
  have G2 := Lib.hid h2
  clear h2
  go_wp2_with fail
  refine (C2.out _).mono ?_
  rintro e w3 ⟨rfl, h3⟩
  have G3 := Lib.hid h3
  clear h3
  go_wp2_with fail
  refine (refHold_any _ _).mono ?_
  rintro e w' ⟨rfl, rfl⟩
  go_wp2_with fail
  refine (known_any _).mono ?_
  rintro e w4 ⟨rfl, h4⟩
  go_wp2_with fail
  go_ret
  exact ⟨rfl, grown_trans G1.out (grown_trans G2.out (grown_trans G3.out h4))⟩
end Go.Proofs.Ytpkhmagjdlpbjaa
