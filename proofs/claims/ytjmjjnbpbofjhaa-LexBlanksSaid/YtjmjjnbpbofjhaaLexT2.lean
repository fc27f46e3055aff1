/- The walks of layer 5: a token's text, of a number with a unit, and of none. -/
import Derived.Test.YtjmjjnbpbofjhaaLexT1
import Derived.Deep.RegionWith
namespace Go.Proofs.Ytjmjjnbpbofjhaa
open Go.RowKit TreN LexP FixP FixM
set_option linter.unusedVariables false

set_option maxRecDepth 100000 in
set_option maxHeartbeats 1000000 in
theorem text_dim (x : List UInt8) (n : Int) (w : World) (hx : x.length ≤ 40000) : Calls Try.prog 48 #[(⟨9, x, n⟩ : Tok).val] w fun e w' => e = .returned (.string ⟨(tx ⟨9, x, n⟩).toArray⟩) ∧ Below w.heap.size w w' := by
  have ht : tx ⟨9, x, n⟩ = prn (H n) ++ x := rfl
  rw [ht]
  unfold LexP.Tok.val
  have C := Lib.hid fun W => Print_bel n W
  have hpl := prn_len n
  generalize prn (H n) = z at *
  have a1 : ∀ W : World, (Op.stringOp .add ⟨z.toArray⟩ ⟨x.toArray⟩).run Try.prog W = .ok (.string ⟨(z ++ x).toArray⟩) W := fun W => add_any W z x (by omega) (by omega)
  clear ht
  go_enter Try.func48, Try.ntmps48
  go_wp2_with fail
  go_region_with ((go_at_call 75; refine (C.out _).mono ?_; rintro e w1 ⟨rfl, hb⟩; have q1 := (hb.cell (p := ⟨w.heap.size, 1, none⟩) (by simp)); have hbW := Below.trans (B := w.heap.size) (by go_grown) (hb.mono (by simp)); have HBW := Lib.hid hbW; clear hb hbW))
  all_goals
    go_wp2_with fail
    go_ret
    exact ⟨rfl, (((Below.refl _ _).alloc (Nat.le_refl _) _).drew).trans HBW.out⟩

/-- a kind that has no text -/
structure NoKind (k : Int) : Prop where
  lo : k < 10 ∨ 18 < k
  n1 : (k == 1) = false
  n2 : (k == 2) = false
  n3 : (k == 3) = false
  n4 : (k == 4) = false
  n5 : (k == 5) = false
  n7 : (k == 7) = false
  n8 : (k == 8) = false
  n9 : (k == 9) = false
  n19 : (k == 19) = false
  n20 : (k == 20) = false
theorem kinds (k : Int) : k = 1 ∨ k = 2 ∨ k = 3 ∨ k = 4 ∨ k = 5 ∨ k = 7 ∨ k = 8 ∨ k = 9 ∨ k = 10 ∨ k = 11 ∨ k = 12 ∨ k = 13 ∨ k = 14 ∨ k = 15 ∨ k = 16 ∨ k = 17 ∨ k = 18 ∨ k = 19 ∨ k = 20 ∨ NoKind k := by
  by_cases h : k = 1 ∨ k = 2 ∨ k = 3 ∨ k = 4 ∨ k = 5 ∨ k = 7 ∨ k = 8 ∨ k = 9 ∨ k = 10 ∨ k = 11 ∨ k = 12 ∨ k = 13 ∨ k = 14 ∨ k = 15 ∨ k = 16 ∨ k = 17 ∨ k = 18 ∨ k = 19 ∨ k = 20
  · omega
  · have hn : NoKind k := by
      refine ⟨by omega, ?_, ?_, ?_, ?_, ?_, ?_, ?_, ?_, ?_, ?_⟩ <;> (rw [beq_eq_false_iff_ne]; omega)
    simp only [hn, or_true]
theorem tx_none (k : Int) (x : List UInt8) (n : Int) (h : NoKind k) : tx ⟨k, x, n⟩ = [] := by
  obtain ⟨h0, h1, h2, h3, h4, h5, h7, h8, h9, h19, h20⟩ := h
  rw [beq_eq_false_iff_ne] at h1 h2 h3 h4 h5 h7 h8 h9 h19 h20
  unfold tx
  simp only []
  rw [if_neg (by omega), if_neg h2, if_neg h3, if_neg h4, if_neg h5, if_neg h7, if_neg h8, if_neg h9, if_neg (by omega), if_neg (by omega), if_neg (by omega), if_neg (by omega), if_neg (by omega), if_neg (by omega), if_neg (by omega), if_neg (by omega), if_neg (by omega), if_neg h20]

set_option maxRecDepth 100000 in
set_option maxHeartbeats 1000000 in
theorem text_none (k : Int) (x : List UInt8) (n : Int) (w : World) (h : NoKind k) : Calls Try.prog 48 #[(⟨k, x, n⟩ : Tok).val] w fun e w' => e = .returned (.string ⟨(tx ⟨k, x, n⟩).toArray⟩) ∧ Below w.heap.size w w' := by
  rw [tx_none k x n h]
  obtain ⟨h0, h1, h2, h3, h4, h5, h7, h8, h9, h19, h20⟩ := h
  unfold LexP.Tok.val
  rcases h0 with h0 | h0
  · have hlo : decide (10 ≤ k) = false := by simp; omega
    clear h0
    go_enter Try.func48, Try.ntmps48
    go_wp2_with fail
    go_ret
    exact ⟨rfl, by go_grown⟩
  · have hlo : decide (10 ≤ k) = true := by simp; omega
    have hhi : decide (k ≤ 18) = false := by simp; omega
    clear h0
    go_enter Try.func48, Try.ntmps48
    go_wp2_with fail
    go_ret
    exact ⟨rfl, by go_grown⟩

theorem text_any (t : Tok) (w : World) (hx : t.text.length ≤ 40000) : Calls Try.prog 48 #[t.val] w fun e w' => e = .returned (.string ⟨(tx t).toArray⟩) ∧ Below w.heap.size w w' := by
  obtain ⟨k, x, n⟩ := t
  rcases kinds k with rfl | rfl | rfl | rfl | rfl | rfl | rfl | rfl | rfl | rfl | rfl | rfl | rfl | rfl | rfl | rfl | rfl | rfl | rfl | h
  · exact text_ident x n w hx
  · exact text_func x n w hx
  · exact text_at x n w hx
  · exact text_hash x n w hx
  · exact text_str x n w hx
  · exact text_num x n w hx
  · exact text_pct x n w hx
  · exact text_dim x n w hx
  · exact text_s10 x n w hx
  · exact text_s11 x n w hx
  · exact text_s12 x n w hx
  · exact text_s13 x n w hx
  · exact text_s14 x n w hx
  · exact text_s15 x n w hx
  · exact text_s16 x n w hx
  · exact text_s17 x n w hx
  · exact text_s18 x n w hx
  · exact text_delim x n w hx
  · exact text_space x n w hx
  · exact text_none k x n w h
end Go.Proofs.Ytjmjjnbpbofjhaa
