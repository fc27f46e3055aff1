/- The walks of layer 5's reference: a token's text. -/
import Derived.Test.YtfbfndknhabmhaaGreatLexTa
import Derived.Test.YtfbfndknhabmhaaGreatFixWc
namespace Go.Proofs.YtfbfndknhabmhaaGreat
open Go.RowKit TreN LexP FixP FixM
set_option linter.unusedVariables false

/-- has a kind a text? -/
def hasTx (k : Int) : Bool := decide (k = 1 ∨ k = 2 ∨ k = 3 ∨ k = 4 ∨ k = 5 ∨ k = 7 ∨ k = 8 ∨ k = 9 ∨ (10 ≤ k ∧ k ≤ 18) ∨ k = 19 ∨ k = 20)
theorem refPrint_bel (n : Int) (w : World) : Calls Tryz.prog 87 #[.int .i64 n] w fun e w' => e = .returned (.string ⟨(prn (H n)).toArray⟩) ∧ Below w.heap.size w w' := by
  exact (refPrint_any n w).mono fun e w' h => ⟨h.1, h.2.1⟩

set_option maxRecDepth 100000 in
set_option maxHeartbeats 1000000 in
theorem refText_ident (x : List UInt8) (n : Int) (w : World) (hx : x.length ≤ 40000) : Calls Tryz.prog 52 #[(⟨1, x, n⟩ : Tok).val] w fun e w' => e = .returned (.tuple #[.string ⟨(tx ⟨1, x, n⟩).toArray⟩, .bool true]) ∧ Below w.heap.size w w' := by
  have ht : tx ⟨1, x, n⟩ = x := rfl
  rw [ht]
  unfold LexP.Tok.val
  clear ht
  go_enter Tryz.func52, Tryz.ntmps52
  go_wp2_with fail
  go_ret2
  exact ⟨rfl, by go_grown⟩

set_option maxRecDepth 100000 in
set_option maxHeartbeats 1000000 in
theorem refText_delim (x : List UInt8) (n : Int) (w : World) (hx : x.length ≤ 40000) : Calls Tryz.prog 52 #[(⟨19, x, n⟩ : Tok).val] w fun e w' => e = .returned (.tuple #[.string ⟨(tx ⟨19, x, n⟩).toArray⟩, .bool true]) ∧ Below w.heap.size w w' := by
  have ht : tx ⟨19, x, n⟩ = x := rfl
  rw [ht]
  unfold LexP.Tok.val
  clear ht
  go_enter Tryz.func52, Tryz.ntmps52
  go_wp2_with fail
  go_ret2
  exact ⟨rfl, by go_grown⟩

set_option maxRecDepth 100000 in
set_option maxHeartbeats 1000000 in
theorem refText_func (x : List UInt8) (n : Int) (w : World) (hx : x.length ≤ 40000) : Calls Tryz.prog 52 #[(⟨2, x, n⟩ : Tok).val] w fun e w' => e = .returned (.tuple #[.string ⟨(tx ⟨2, x, n⟩).toArray⟩, .bool true]) ∧ Below w.heap.size w w' := by
  have ht : tx ⟨2, x, n⟩ = x ++ [40] := rfl
  rw [ht]
  unfold LexP.Tok.val
  have a1 : ∀ W : World, (Op.stringOp .add ⟨x.toArray⟩ ⟨#[40]⟩).run Tryz.prog W = .ok (.string ⟨(x ++ [40]).toArray⟩) W := fun W => add_any W x [40] (by omega) (by simp)
  clear ht
  go_enter Tryz.func52, Tryz.ntmps52
  go_wp2_with fail
  go_ret2
  exact ⟨rfl, by go_grown⟩

set_option maxRecDepth 100000 in
set_option maxHeartbeats 1000000 in
theorem refText_at (x : List UInt8) (n : Int) (w : World) (hx : x.length ≤ 40000) : Calls Tryz.prog 52 #[(⟨3, x, n⟩ : Tok).val] w fun e w' => e = .returned (.tuple #[.string ⟨(tx ⟨3, x, n⟩).toArray⟩, .bool true]) ∧ Below w.heap.size w w' := by
  have ht : tx ⟨3, x, n⟩ = 64 :: x := rfl
  rw [ht]
  unfold LexP.Tok.val
  have a1 : ∀ W : World, (Op.stringOp .add ⟨#[64]⟩ ⟨x.toArray⟩).run Tryz.prog W = .ok (.string ⟨(64 :: x).toArray⟩) W := fun W => add_any W [64] x (by simp) (by omega)
  clear ht
  go_enter Tryz.func52, Tryz.ntmps52
  go_wp2_with fail
  go_ret2
  exact ⟨rfl, by go_grown⟩

set_option maxRecDepth 100000 in
set_option maxHeartbeats 1000000 in
theorem refText_hash (x : List UInt8) (n : Int) (w : World) (hx : x.length ≤ 40000) : Calls Tryz.prog 52 #[(⟨4, x, n⟩ : Tok).val] w fun e w' => e = .returned (.tuple #[.string ⟨(tx ⟨4, x, n⟩).toArray⟩, .bool true]) ∧ Below w.heap.size w w' := by
  have ht : tx ⟨4, x, n⟩ = 35 :: x := rfl
  rw [ht]
  unfold LexP.Tok.val
  have a1 : ∀ W : World, (Op.stringOp .add ⟨#[35]⟩ ⟨x.toArray⟩).run Tryz.prog W = .ok (.string ⟨(35 :: x).toArray⟩) W := fun W => add_any W [35] x (by simp) (by omega)
  clear ht
  go_enter Tryz.func52, Tryz.ntmps52
  go_wp2_with fail
  go_ret2
  exact ⟨rfl, by go_grown⟩

set_option maxRecDepth 100000 in
set_option maxHeartbeats 1000000 in
theorem refText_str (x : List UInt8) (n : Int) (w : World) (hx : x.length ≤ 40000) : Calls Tryz.prog 52 #[(⟨5, x, n⟩ : Tok).val] w fun e w' => e = .returned (.tuple #[.string ⟨(tx ⟨5, x, n⟩).toArray⟩, .bool true]) ∧ Below w.heap.size w w' := by
  have ht : tx ⟨5, x, n⟩ = quoT x := rfl
  rw [ht]
  unfold LexP.Tok.val quoT
  have C := fun W => refHas34_any x W hx
  by_cases h : (34 : UInt8) ∈ x
  · rw [if_pos h]
    rw [decide_eq_true h] at C
    have HC := Lib.hid C
    have a1 : ∀ W : World, (Op.stringOp .add ⟨#[39]⟩ ⟨x.toArray⟩).run Tryz.prog W = .ok (.string ⟨(39 :: x).toArray⟩) W := fun W => add_any W [39] x (by simp) (by omega)
    have a2 : ∀ W : World, (Op.stringOp .add ⟨(39 :: x).toArray⟩ ⟨#[39]⟩).run Tryz.prog W = .ok (.string ⟨(39 :: (x ++ [39])).toArray⟩) W := fun W => add_any W (39 :: x) [39] (by simp; omega) (by simp)
    clear C h ht
    go_enter Tryz.func52, Tryz.ntmps52
    go_wp2_with fail
    refine (HC.out _).mono ?_
    rintro e w' ⟨rfl, rfl⟩
    go_wp2_with fail
    go_ret2
    exact ⟨rfl, by go_grown⟩
  · rw [if_neg h]
    rw [decide_eq_false h] at C
    have HC := Lib.hid C
    have a1 : ∀ W : World, (Op.stringOp .add ⟨#[34]⟩ ⟨x.toArray⟩).run Tryz.prog W = .ok (.string ⟨(34 :: x).toArray⟩) W := fun W => add_any W [34] x (by simp) (by omega)
    have a2 : ∀ W : World, (Op.stringOp .add ⟨(34 :: x).toArray⟩ ⟨#[34]⟩).run Tryz.prog W = .ok (.string ⟨(34 :: (x ++ [34])).toArray⟩) W := fun W => add_any W (34 :: x) [34] (by simp; omega) (by simp)
    clear C h ht
    go_enter Tryz.func52, Tryz.ntmps52
    go_wp2_with fail
    refine (HC.out _).mono ?_
    rintro e w' ⟨rfl, rfl⟩
    go_wp2_with fail
    go_ret2
    exact ⟨rfl, by go_grown⟩

set_option maxRecDepth 100000 in
set_option maxHeartbeats 1000000 in
theorem refText_num (x : List UInt8) (n : Int) (w : World) (hx : x.length ≤ 40000) : Calls Tryz.prog 52 #[(⟨7, x, n⟩ : Tok).val] w fun e w' => e = .returned (.tuple #[.string ⟨(tx ⟨7, x, n⟩).toArray⟩, .bool true]) ∧ Below w.heap.size w w' := by
  have ht : tx ⟨7, x, n⟩ = prn (H n) := rfl
  rw [ht]
  unfold LexP.Tok.val
  have C := Lib.hid fun W => refPrint_bel n W
  have hpl := prn_len n
  generalize prn (H n) = z at *
  clear ht
  go_enter Tryz.func52, Tryz.ntmps52
  go_wp2_with fail
  refine (C.out _).mono ?_
  rintro e w1 ⟨rfl, hb⟩
  have hbW : Below w.heap.size w w1 := ((Below.refl _ _).alloc (Nat.le_refl _) _).trans (hb.mono (by simp))
  have HBW := Lib.hid hbW
  clear hb hbW
  go_wp2_with fail
  go_ret2
  exact ⟨rfl, HBW.out⟩

set_option maxRecDepth 100000 in
set_option maxHeartbeats 1000000 in
theorem refText_pct (x : List UInt8) (n : Int) (w : World) (hx : x.length ≤ 40000) : Calls Tryz.prog 52 #[(⟨8, x, n⟩ : Tok).val] w fun e w' => e = .returned (.tuple #[.string ⟨(tx ⟨8, x, n⟩).toArray⟩, .bool true]) ∧ Below w.heap.size w w' := by
  have ht : tx ⟨8, x, n⟩ = prn (H n) ++ [37] := rfl
  rw [ht]
  unfold LexP.Tok.val
  have C := Lib.hid fun W => refPrint_bel n W
  have hpl := prn_len n
  generalize prn (H n) = z at *
  have a1 : ∀ W : World, (Op.stringOp .add ⟨z.toArray⟩ ⟨#[37]⟩).run Tryz.prog W = .ok (.string ⟨(z ++ [37]).toArray⟩) W := fun W => add_any W z [37] (by omega) (by simp)
  clear ht
  go_enter Tryz.func52, Tryz.ntmps52
  go_wp2_with fail
  refine (C.out _).mono ?_
  rintro e w1 ⟨rfl, hb⟩
  have hbW : Below w.heap.size w w1 := ((Below.refl _ _).alloc (Nat.le_refl _) _).trans (hb.mono (by simp))
  have HBW := Lib.hid hbW
  clear hb hbW
  go_wp2_with fail
  go_ret2
  exact ⟨rfl, HBW.out⟩

set_option maxRecDepth 100000 in
set_option maxHeartbeats 1000000 in
theorem refText_space (x : List UInt8) (n : Int) (w : World) (hx : x.length ≤ 40000) : Calls Tryz.prog 52 #[(⟨20, x, n⟩ : Tok).val] w fun e w' => e = .returned (.tuple #[.string ⟨(tx ⟨20, x, n⟩).toArray⟩, .bool true]) ∧ Below w.heap.size w w' := by
  have ht : tx ⟨20, x, n⟩ = [32] := rfl
  rw [ht]
  unfold LexP.Tok.val
  clear ht
  go_enter Tryz.func52, Tryz.ntmps52
  go_wp2_with fail
  go_ret2
  exact ⟨rfl, by go_grown⟩

set_option maxRecDepth 100000 in
set_option maxHeartbeats 1000000 in
theorem refText_s10 (x : List UInt8) (n : Int) (w : World) (hx : x.length ≤ 40000) : Calls Tryz.prog 52 #[(⟨10, x, n⟩ : Tok).val] w fun e w' => e = .returned (.tuple #[.string ⟨(tx ⟨10, x, n⟩).toArray⟩, .bool true]) ∧ Below w.heap.size w w' := by
  have ht : tx ⟨10, x, n⟩ = [58] := rfl
  rw [ht]
  unfold LexP.Tok.val
  clear ht
  go_enter Tryz.func52, Tryz.ntmps52
  go_wp2_with fail
  go_ret2
  exact ⟨rfl, by go_grown⟩

set_option maxRecDepth 100000 in
set_option maxHeartbeats 1000000 in
theorem refText_s11 (x : List UInt8) (n : Int) (w : World) (hx : x.length ≤ 40000) : Calls Tryz.prog 52 #[(⟨11, x, n⟩ : Tok).val] w fun e w' => e = .returned (.tuple #[.string ⟨(tx ⟨11, x, n⟩).toArray⟩, .bool true]) ∧ Below w.heap.size w w' := by
  have ht : tx ⟨11, x, n⟩ = [59] := rfl
  rw [ht]
  unfold LexP.Tok.val
  clear ht
  go_enter Tryz.func52, Tryz.ntmps52
  go_wp2_with fail
  go_ret2
  exact ⟨rfl, by go_grown⟩

set_option maxRecDepth 100000 in
set_option maxHeartbeats 1000000 in
theorem refText_s12 (x : List UInt8) (n : Int) (w : World) (hx : x.length ≤ 40000) : Calls Tryz.prog 52 #[(⟨12, x, n⟩ : Tok).val] w fun e w' => e = .returned (.tuple #[.string ⟨(tx ⟨12, x, n⟩).toArray⟩, .bool true]) ∧ Below w.heap.size w w' := by
  have ht : tx ⟨12, x, n⟩ = [44] := rfl
  rw [ht]
  unfold LexP.Tok.val
  clear ht
  go_enter Tryz.func52, Tryz.ntmps52
  go_wp2_with fail
  go_ret2
  exact ⟨rfl, by go_grown⟩

set_option maxRecDepth 100000 in
set_option maxHeartbeats 1000000 in
theorem refText_s13 (x : List UInt8) (n : Int) (w : World) (hx : x.length ≤ 40000) : Calls Tryz.prog 52 #[(⟨13, x, n⟩ : Tok).val] w fun e w' => e = .returned (.tuple #[.string ⟨(tx ⟨13, x, n⟩).toArray⟩, .bool true]) ∧ Below w.heap.size w w' := by
  have ht : tx ⟨13, x, n⟩ = [40] := rfl
  rw [ht]
  unfold LexP.Tok.val
  clear ht
  go_enter Tryz.func52, Tryz.ntmps52
  go_wp2_with fail
  go_ret2
  exact ⟨rfl, by go_grown⟩

set_option maxRecDepth 100000 in
set_option maxHeartbeats 1000000 in
theorem refText_s14 (x : List UInt8) (n : Int) (w : World) (hx : x.length ≤ 40000) : Calls Tryz.prog 52 #[(⟨14, x, n⟩ : Tok).val] w fun e w' => e = .returned (.tuple #[.string ⟨(tx ⟨14, x, n⟩).toArray⟩, .bool true]) ∧ Below w.heap.size w w' := by
  have ht : tx ⟨14, x, n⟩ = [41] := rfl
  rw [ht]
  unfold LexP.Tok.val
  clear ht
  go_enter Tryz.func52, Tryz.ntmps52
  go_wp2_with fail
  go_ret2
  exact ⟨rfl, by go_grown⟩

set_option maxRecDepth 100000 in
set_option maxHeartbeats 1000000 in
theorem refText_s15 (x : List UInt8) (n : Int) (w : World) (hx : x.length ≤ 40000) : Calls Tryz.prog 52 #[(⟨15, x, n⟩ : Tok).val] w fun e w' => e = .returned (.tuple #[.string ⟨(tx ⟨15, x, n⟩).toArray⟩, .bool true]) ∧ Below w.heap.size w w' := by
  have ht : tx ⟨15, x, n⟩ = [91] := rfl
  rw [ht]
  unfold LexP.Tok.val
  clear ht
  go_enter Tryz.func52, Tryz.ntmps52
  go_wp2_with fail
  go_ret2
  exact ⟨rfl, by go_grown⟩

set_option maxRecDepth 100000 in
set_option maxHeartbeats 1000000 in
theorem refText_s16 (x : List UInt8) (n : Int) (w : World) (hx : x.length ≤ 40000) : Calls Tryz.prog 52 #[(⟨16, x, n⟩ : Tok).val] w fun e w' => e = .returned (.tuple #[.string ⟨(tx ⟨16, x, n⟩).toArray⟩, .bool true]) ∧ Below w.heap.size w w' := by
  have ht : tx ⟨16, x, n⟩ = [93] := rfl
  rw [ht]
  unfold LexP.Tok.val
  clear ht
  go_enter Tryz.func52, Tryz.ntmps52
  go_wp2_with fail
  go_ret2
  exact ⟨rfl, by go_grown⟩

set_option maxRecDepth 100000 in
set_option maxHeartbeats 1000000 in
theorem refText_s17 (x : List UInt8) (n : Int) (w : World) (hx : x.length ≤ 40000) : Calls Tryz.prog 52 #[(⟨17, x, n⟩ : Tok).val] w fun e w' => e = .returned (.tuple #[.string ⟨(tx ⟨17, x, n⟩).toArray⟩, .bool true]) ∧ Below w.heap.size w w' := by
  have ht : tx ⟨17, x, n⟩ = [123] := rfl
  rw [ht]
  unfold LexP.Tok.val
  clear ht
  go_enter Tryz.func52, Tryz.ntmps52
  go_wp2_with fail
  go_ret2
  exact ⟨rfl, by go_grown⟩

set_option maxRecDepth 100000 in
set_option maxHeartbeats 1000000 in
theorem refText_s18 (x : List UInt8) (n : Int) (w : World) (hx : x.length ≤ 40000) : Calls Tryz.prog 52 #[(⟨18, x, n⟩ : Tok).val] w fun e w' => e = .returned (.tuple #[.string ⟨(tx ⟨18, x, n⟩).toArray⟩, .bool true]) ∧ Below w.heap.size w w' := by
  have ht : tx ⟨18, x, n⟩ = [125] := rfl
  rw [ht]
  unfold LexP.Tok.val
  clear ht
  go_enter Tryz.func52, Tryz.ntmps52
  go_wp2_with fail
  go_ret2
  exact ⟨rfl, by go_grown⟩

set_option maxRecDepth 100000 in
set_option maxHeartbeats 1000000 in
theorem refText_dim (x : List UInt8) (n : Int) (w : World) (hx : x.length ≤ 40000) : Calls Tryz.prog 52 #[(⟨9, x, n⟩ : Tok).val] w fun e w' => e = .returned (.tuple #[.string ⟨(tx ⟨9, x, n⟩).toArray⟩, .bool true]) ∧ Below w.heap.size w w' := by
  have ht : tx ⟨9, x, n⟩ = prn (H n) ++ x := rfl
  rw [ht]
  unfold LexP.Tok.val
  have C := Lib.hid fun W => refPrint_bel n W
  have hpl := prn_len n
  generalize prn (H n) = z at *
  have a1 : ∀ W : World, (Op.stringOp .add ⟨z.toArray⟩ ⟨x.toArray⟩).run Tryz.prog W = .ok (.string ⟨(z ++ x).toArray⟩) W := fun W => add_any W z x (by omega) (by omega)
  clear ht
  go_enter Tryz.func52, Tryz.ntmps52
  go_wp2_with fail
  go_region_with ((go_at_call 87; refine (C.out _).mono ?_; rintro e w1 ⟨rfl, hb⟩; have q1 := (hb.cell (p := ⟨w.heap.size, 1, none⟩) (by simp)); have hbW := Below.trans (B := w.heap.size) (by go_grown) (hb.mono (by simp)); have HBW := Lib.hid hbW; clear hb hbW))
  all_goals
    go_wp2_with fail
    go_ret2
    exact ⟨rfl, (((Below.refl _ _).alloc (Nat.le_refl _) _).drew).trans HBW.out⟩

set_option maxRecDepth 100000 in
set_option maxHeartbeats 1000000 in
theorem refText_none (k : Int) (x : List UInt8) (n : Int) (w : World) (h : NoKind k) : Calls Tryz.prog 52 #[(⟨k, x, n⟩ : Tok).val] w fun e w' => e = .returned (.tuple #[.string ⟨(tx ⟨k, x, n⟩).toArray⟩, .bool false]) ∧ Below w.heap.size w w' := by
  rw [tx_none k x n h]
  obtain ⟨h0, h1, h2, h3, h4, h5, h7, h8, h9, h19, h20⟩ := h
  unfold LexP.Tok.val
  have m10 : (k == 10) = false := by rw [beq_eq_false_iff_ne]; omega
  have m11 : (k == 11) = false := by rw [beq_eq_false_iff_ne]; omega
  have m12 : (k == 12) = false := by rw [beq_eq_false_iff_ne]; omega
  have m13 : (k == 13) = false := by rw [beq_eq_false_iff_ne]; omega
  have m14 : (k == 14) = false := by rw [beq_eq_false_iff_ne]; omega
  have m15 : (k == 15) = false := by rw [beq_eq_false_iff_ne]; omega
  have m16 : (k == 16) = false := by rw [beq_eq_false_iff_ne]; omega
  have m17 : (k == 17) = false := by rw [beq_eq_false_iff_ne]; omega
  have m18 : (k == 18) = false := by rw [beq_eq_false_iff_ne]; omega
  clear h0
  go_enter Tryz.func52, Tryz.ntmps52
  go_wp2_with fail
  go_ret2
  exact ⟨rfl, by go_grown⟩

theorem hasTx_none {k : Int} (h : NoKind k) : hasTx k = false := by
  obtain ⟨h0, h1, h2, h3, h4, h5, h7, h8, h9, h19, h20⟩ := h
  rw [beq_eq_false_iff_ne] at h1 h2 h3 h4 h5 h7 h8 h9 h19 h20
  unfold hasTx
  rw [decide_eq_false]
  omega
theorem refTxt_any (t : Tok) (w : World) (hx : t.text.length ≤ 40000) : Calls Tryz.prog 52 #[t.val] w fun e w' => e = .returned (.tuple #[.string ⟨(tx t).toArray⟩, .bool (hasTx t.kind)]) ∧ Below w.heap.size w w' := by
  obtain ⟨k, x, n⟩ := t
  rcases kinds k with rfl | rfl | rfl | rfl | rfl | rfl | rfl | rfl | rfl | rfl | rfl | rfl | rfl | rfl | rfl | rfl | rfl | rfl | rfl | h
  · exact refText_ident x n w hx
  · exact refText_func x n w hx
  · exact refText_at x n w hx
  · exact refText_hash x n w hx
  · exact refText_str x n w hx
  · exact refText_num x n w hx
  · exact refText_pct x n w hx
  · exact refText_dim x n w hx
  · exact refText_s10 x n w hx
  · exact refText_s11 x n w hx
  · exact refText_s12 x n w hx
  · exact refText_s13 x n w hx
  · exact refText_s14 x n w hx
  · exact refText_s15 x n w hx
  · exact refText_s16 x n w hx
  · exact refText_s17 x n w hx
  · exact refText_s18 x n w hx
  · exact refText_delim x n w hx
  · exact refText_space x n w hx
  · simp only []
    rw [hasTx_none h]
    exact refText_none k x n w h
end Go.Proofs.YtfbfndknhabmhaaGreat
