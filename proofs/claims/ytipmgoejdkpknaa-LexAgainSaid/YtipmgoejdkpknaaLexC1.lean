/- The walks of layer 5: isCut. -/
import Derived.Test.YtipmgoejdkpknaaLexE
import Derived.Test.YtipmgoejdkpknaaLexT3
namespace Go.Proofs.Ytipmgoejdkpknaa
open Go.RowKit TreN LexP FixP

/-- tokens lie in a block below B -/
def TkB (B : Nat) (w : World) (a : Option Addr) (l : List Tok) : Prop := l = [] ∨ ∃ b o, a = some ⟨b, o, none⟩ ∧ b < B ∧ TksAt w b o l
theorem TkB.below {B : Nat} {w w' : World} {a : Option Addr} {l : List Tok} (h : TkB B w a l) (hb : Below B w w') : TkB B w' a l := by
  rcases h with h | ⟨b, o, h1, h2, h3⟩
  · exact Or.inl h
  · exact Or.inr ⟨b, o, h1, h2, h3.below hb h2⟩
theorem Tks.tkB {w : World} {a : Option Addr} {l : List Tok} (h : Tks w a l) : TkB w.heap.size w a l := h
/-- what is still wanted: variables V and V + 1 -/
structure IsR (w0 : World) (V T : Nat) (st : Bool × List Tok) (w : World) : Prop where
  want : ∃ a cap, w.heap[V]? = some (.cells #[.slice a st.2.length cap] 26 (0, 0)) ∧ TkB w0.heap.size w a st.2 ∧ st.2.length ≤ cap
  same : w.heap[V + 1]? = some (.cells #[.bool st.1] 4 (0, 0))
  below : Below w0.heap.size w0 w
  lt : T < w.heap.size
  base : w0.heap.size ≤ V
  vt : V + 1 < T
def isStp (st : Bool × List Tok) (t : Tok) : Bool × List Tok := if st.2.head? = some t then (true, st.2.tail) else (false, st.2)
def isCont (st : Bool × List Tok) (t : Tok) : Bool := decide (st.2.head? = some t)

theorem IsR.setT {w0 : World} {V T : Nat} {st : Bool × List Tok} {w : World} (h : IsR w0 V T st w) (k : Nat) (u : Value) : IsR w0 V T st (w.setCell ⟨T, k, none⟩ u) := by
  obtain ⟨⟨a, cap, h1, h2, h2c⟩, h3, h4, h5, h6, h7⟩ := h
  exact ⟨⟨a, cap, by rw [setCell_there _ (by omega)]; exact h1, h2.below ((Below.refl _ _).setCell (p := ⟨T, k, none⟩) (by show w0.heap.size ≤ T; omega) u), h2c⟩, by rw [setCell_there _ (by omega)]; exact h3, h4.setCell (p := ⟨T, k, none⟩) (by show w0.heap.size ≤ T; omega) u, by rw [setCell_size]; exact h5, h6, h7⟩
theorem IsR.keep {w0 : World} {V T : Nat} {st : Bool × List Tok} {w w' : World} (h : IsR w0 V T st w) (hb : Below w.heap.size w w') : IsR w0 V T st w' := by
  obtain ⟨⟨a, cap, h1, h2, h2c⟩, h3, h4, h5, h6, h7⟩ := h
  exact ⟨⟨a, cap, (hb.block V (by omega)).trans h1, h2.below (hb.mono h4.size), h2c⟩, (hb.block (V + 1) (by omega)).trans h3, h4.trans (hb.mono h4.size), Nat.lt_of_lt_of_le h5 hb.size, h6, h7⟩

theorem slice_tail (a : Option Addr) (n cap : Nat) (t : Tok) (l : List Tok) (hn : n = l.length + 1) (hc : n ≤ cap) (hm : n ≤ 40000) : ∃ a2, (∀ W : World, (Instr.slice 26 (.slice a n cap) (some (.int .i64 1)) none none).run Try.prog W = .ok (.slice a2 l.length (cap - 1)) W) ∧
    ∀ (B : Nat) (W : World), TkB B W a (t :: l) → TkB B W a2 l := by
  obtain ⟨i, hi, hz0, hz1, hz2⟩ := info_parts info_token
  have he : Try.prog.elem 26 = 23 := by kernel_rfl
  have hu : Try.prog.underlying 26 = some (.slice (Try.prog.elem 26)) := by rw [he]; exact und_tokens
  have hs : ∀ W : World, (sizeOf (Try.prog.elem 26)).run Try.prog W = .ok 3 W := fun W => by rw [he]; simp [sizeOf, typeInfo, hi, hz1]
  have h1 : ∀ W : World, (Instr.slice 26 (.slice a n cap) (some (.int .i64 1)) none none).run Try.prog W = .ok (sliced a 1 n cap 3) W := fun W => by
    rw [run_slice_l W 26 _ _ _ hu .i64 1 (by omega) (by omega), hs]
    rfl
  obtain ⟨a2, ha⟩ : ∃ a2, sliced a 1 n cap 3 = .slice a2 l.length (cap - 1) := ⟨_, by unfold sliced; rw [hn]; rfl⟩
  refine ⟨a2, fun W => by rw [h1, ha], fun B W hN => ?_⟩
  · rcases hN with h | ⟨b, o, e, hb, ht⟩
    · cases h
    · by_cases h0 : l = []
      · exact Or.inl h0
      · have hpos : 0 < l.length := List.length_pos_iff.2 h0
        subst e
        have : sliced (some ⟨b, o, none⟩) 1 n cap 3 = .slice (some ⟨b, o + 3, none⟩) (n - 1) (cap - 1) := by
          unfold sliced
          have hck : ¬ cap = 1 := by omega
          simp [hck, Addr.add_lit]
        rw [this] at ha
        injection ha with ha _ _
        refine Or.inr ⟨b, o + 3, ha.symm, hb, fun i hi' => ?_⟩
        have := ht (i + 1) (by simp; omega)
        have e2 : o + (i + 1) * 3 = o + 3 + i * 3 := by omega
        rw [e2] at this
        exact this

/-- the variables under the token's box -/
structure IsW (w0 : World) (V T : Nat) (a : Option Addr) (n cap : Nat) (b : Bool) (t : Tok) (x y z : Value) (B : Nat) (w1 : World) : Prop where
  v0 : w1.heap[V]? = some (.cells #[.slice a n cap] 26 (0, 0))
  v1 : w1.heap[V + 1]? = some (.cells #[.bool b] 4 (0, 0))
  box : w1.heap[B]? = some (.cells #[.int .i64 t.kind, .string ⟨t.text.toArray⟩, .int .i64 t.n] 23 (0, 0))
  tok : TokIn w1 T x y z
  bel : Below w0.heap.size w0 w1
  lt : T < w1.heap.size
theorem IsR.box {w0 : World} {V T : Nat} {st : Bool × List Tok} {w : World} {x y z : Value} (h : IsR w0 V T st w) (hT : TokIn w T x y z) (t : Tok) :
    ∃ a cap, st.2.length ≤ cap ∧ TkB w0.heap.size w a st.2 ∧ IsW w0 V T a st.2.length cap st.1 t x y z w.heap.size (w.alloc (.cells #[.int .i64 t.kind, .string ⟨t.text.toArray⟩, .int .i64 t.n] 23)) := by
  obtain ⟨⟨a, cap, h1, h2, h2c⟩, h3, h4, h5, h6, h7⟩ := h
  refine ⟨a, cap, h2c, h2, ?_, ?_, heap_alloc_new w _, ?_, h4.alloc h4.size _, by simp; omega⟩
  · rw [Below.heap_alloc _ _ _ (by omega)]; exact h1
  · rw [Below.heap_alloc _ _ _ (by omega)]; exact h3
  · unfold TokIn; rw [Below.heap_alloc _ _ _ (by omega)]; exact hT

set_option maxRecDepth 100000 in
set_option maxHeartbeats 2000000 in
theorem isTake_none (w0 : World) (V T : Nat) (b : Bool) (t : Tok) (w : World) (x y z : Value) (h : IsR w0 V T (b, []) w) (hT : TokIn w T x y z) :
    Calls Try.prog 29 #[t.val, .pointer (some ⟨V, 0, none⟩), .pointer (some ⟨V + 1, 0, none⟩)] w fun e w' => e = .returned (.bool false) ∧ IsR w0 V T (false, []) w' ∧ TokIn w' T x y z := by
  obtain ⟨a, cap, hc, hk, hW⟩ := h.box hT t
  obtain ⟨k, s, n⟩ := t
  have h6 := h.base
  have h7 := h.vt
  unfold LexP.Tok.val
  clear h hT hk
  go_enter Try.func29, Try.ntmps29
  go_wp2_with fail
  generalize hw1 : w.alloc (.cells #[.int .i64 k, .string ⟨s.toArray⟩, .int .i64 n] 23) = w1 at hW ⊢
  obtain ⟨Bx, hBx⟩ : ∃ Bx, w.heap.size = Bx := ⟨_, rfl⟩
  rw [hBx] at hW ⊢
  clear hw1 hBx
  have c0 : w1.cell? ⟨V, 0, none⟩ = some (.slice a 0 cap) := cell_of hW.v0 rfl
  have c1 : w1.drew.cell? ⟨V + 1, 0, none⟩ = some (.bool b) := cell_of (w := w1) hW.v1 rfl
  have f1 : w1.drew.frozen? ⟨V + 1, 0, none⟩ = false := unfrozen_of (w := w1) hW.v1
  have hg1 : (w1.setCell ⟨V + 1, 0, none⟩ (.bool false)).drew.heap[V + 1]? = some (.cells #[.bool false] 4 (0, 0)) := setCell_here (w := w1) (k := 0) _ hW.v1
  have hg0 : (w1.setCell ⟨V + 1, 0, none⟩ (.bool false)).drew.heap[V]? = some (.cells #[.slice a 0 cap] 26 (0, 0)) := (setCell_there (w := w1) (b := V + 1) (k := 0) _ (by omega)).trans hW.v0
  have hgT : TokIn (w1.setCell ⟨V + 1, 0, none⟩ (.bool false)).drew T x y z := (setCell_there (w := w1) (b := V + 1) (k := 0) (b' := T) _ (by omega)).trans hW.tok
  have hgB : Below w0.heap.size w0 (w1.setCell ⟨V + 1, 0, none⟩ (.bool false)).drew := (hW.bel.setCell (p := ⟨V + 1, 0, none⟩) (by show w0.heap.size ≤ V + 1; omega) _).drew
  have hgL : T < (w1.setCell ⟨V + 1, 0, none⟩ (.bool false)).drew.heap.size := by show T < (w1.setCell _ _).heap.size; rw [setCell_size]; exact hW.lt
  have g1 : (w1.setCell ⟨V + 1, 0, none⟩ (.bool false)).drew.cell? ⟨V + 1, 0, none⟩ = some (.bool false) := cell_of hg1 rfl
  have hgR : IsR w0 V T (false, []) (w1.setCell ⟨V + 1, 0, none⟩ (.bool false)).drew := ⟨⟨a, cap, hg0, Or.inl rfl, Nat.zero_le _⟩, hg1, hgB, hgL, h6, h7⟩
  have HR := Lib.hid hgR
  have HT := Lib.hid hgT
  clear hg1 hg0 hgT hgR hgB hgL hW
  refine wp_region_still_tail 10 (by kernel_rfl) (by kernel_rfl) ?_
  simp only [List.take_succ_cons, List.take_zero, List.drop_succ_cons, List.drop_zero]
  repeat still_step
  refine wpStill_nil ?_
  change wpList _ _ _ _ _ w1.drew
  go_wp2_with fail
  go_ret
  exact ⟨rfl, HR.out, HT.out⟩

set_option maxRecDepth 100000 in
set_option maxHeartbeats 2000000 in
theorem isTake_hit (w0 : World) (V T : Nat) (b : Bool) (t u : Tok) (l : List Tok) (w : World) (x y z : Value) (h : IsR w0 V T (b, u :: l) w) (hT : TokIn w T x y z) (hl : l.length ≤ 30000) (htu : t = u) :
    Calls Try.prog 29 #[t.val, .pointer (some ⟨V, 0, none⟩), .pointer (some ⟨V + 1, 0, none⟩)] w fun e w' => e = .returned (.bool true) ∧ IsR w0 V T (true, l) w' ∧ TokIn w' T x y z := by
  obtain ⟨a, cap, hc, hk, hW⟩ := h.box hT t
  obtain ⟨k, s, n⟩ := t
  have h6 := h.base
  have h7 := h.vt
  have EQ := fun W => tok_eql ⟨k, s, n⟩ u W
  rw [decide_eq_true htu] at EQ
  have HBW : Below w.heap.size w (w.alloc (.cells #[.int .i64 k, .string ⟨s.toArray⟩, .int .i64 n] 23)) := (Below.refl _ _).alloc (Nat.le_refl _) _
  have HWB := HBW.mono h.below.size
  obtain ⟨m, hm⟩ : ∃ m, (u :: l).length = m := ⟨_, rfl⟩
  have hm1 : 1 ≤ m := by rw [← hm]; simp
  have hml : m = l.length + 1 := by rw [← hm]; simp
  change (u :: l).length ≤ cap at hc
  change IsW w0 V T a (u :: l).length cap b _ x y z _ _ at hW
  change TkB _ _ a (u :: l) at hk
  rw [hm] at hc hW
  unfold LexP.Tok.val at EQ ⊢
  clear h hT htu HBW
  rcases hk with hk | ⟨b1, o1, rfl, hb1, hk⟩
  · cases hk
  have hml0 : (0 : Int) < (m : Int) := by omega
  have hmld : decide (0 < m) = true := by simp; omega
  have hmn : 0 < m := by omega
  obtain ⟨uk, us, un⟩ := u
  go_enter Try.func29, Try.ntmps29
  go_wp2_with fail
  generalize hw1 : w.alloc (.cells #[.int .i64 k, .string ⟨s.toArray⟩, .int .i64 n] 23) = w1 at hW HWB ⊢
  obtain ⟨Bx, hBx⟩ : ∃ Bx, w.heap.size = Bx := ⟨_, rfl⟩
  rw [hBx] at hW ⊢
  clear hw1 hBx
  have c0 : w1.cell? ⟨V, 0, none⟩ = some (.slice (some ⟨b1, o1, none⟩) m cap) := cell_of hW.v0 rfl
  have c1 : w1.drew.cell? ⟨V + 1, 0, none⟩ = some (.bool b) := cell_of (w := w1) hW.v1 rfl
  have f1 : w1.drew.frozen? ⟨V + 1, 0, none⟩ = false := unfrozen_of (w := w1) hW.v1
  have hk1 := (hk 0 (by simp)).below HWB hb1
  rw [Nat.zero_mul, Nat.add_zero] at hk1
  have e0 : w1.cell? ⟨b1, o1, none⟩ = some (.int .i64 uk) := hk1.kind
  have e1 : w1.cell? ⟨b1, o1 + 1, none⟩ = some (.string ⟨us.toArray⟩) := hk1.text
  have e2 : w1.cell? ⟨b1, o1 + 2, none⟩ = some (.int .i64 un) := hk1.n
  have k0 : w1.cell? ⟨Bx, 0, none⟩ = some (.int .i64 k) := cell_of hW.box rfl
  have k1 : w1.cell? ⟨Bx, 1, none⟩ = some (.string ⟨s.toArray⟩) := cell_of hW.box rfl
  have k2 : w1.cell? ⟨Bx, 2, none⟩ = some (.int .i64 n) := cell_of hW.box rfl
  have hg1 : (w1.setCell ⟨V + 1, 0, none⟩ (.bool true)).drew.heap[V + 1]? = some (.cells #[.bool true] 4 (0, 0)) := setCell_here (w := w1) (k := 0) _ hW.v1
  have hg0 : (w1.setCell ⟨V + 1, 0, none⟩ (.bool true)).drew.heap[V]? = some (.cells #[.slice (some ⟨b1, o1, none⟩) m cap] 26 (0, 0)) := (setCell_there (w := w1) (b := V + 1) (k := 0) _ (by omega)).trans hW.v0
  have hgT : TokIn (w1.setCell ⟨V + 1, 0, none⟩ (.bool true)).drew T x y z := (setCell_there (w := w1) (b := V + 1) (k := 0) (b' := T) _ (by omega)).trans hW.tok
  have hgB : Below w0.heap.size w0 (w1.setCell ⟨V + 1, 0, none⟩ (.bool true)).drew := (hW.bel.setCell (p := ⟨V + 1, 0, none⟩) (by show w0.heap.size ≤ V + 1; omega) _).drew
  have hgL : T < (w1.setCell ⟨V + 1, 0, none⟩ (.bool true)).drew.heap.size := by show T < (w1.setCell _ _).heap.size; rw [setCell_size]; exact hW.lt
  have g1 : (w1.setCell ⟨V + 1, 0, none⟩ (.bool true)).drew.cell? ⟨V + 1, 0, none⟩ = some (.bool true) := cell_of hg1 rfl
  obtain ⟨a2, hs1, hs2⟩ := slice_tail (some ⟨b1, o1, none⟩) m cap ⟨uk, us, un⟩ l hml hc (by omega)
  have hka := hs2 w0.heap.size w1 (Or.inr ⟨b1, o1, rfl, hb1, hk.below HWB hb1⟩)
  have g0 : (w1.setCell ⟨V + 1, 0, none⟩ (.bool true)).drew.cell? ⟨V, 0, none⟩ = some (.slice (some ⟨b1, o1, none⟩) m cap) := cell_of hg0 rfl
  have gf : (w1.setCell ⟨V + 1, 0, none⟩ (.bool true)).drew.frozen? ⟨V, 0, none⟩ = false := unfrozen_of hg0
  have hj0 := setCell_here (k := 0) (.slice a2 l.length (cap - 1)) hg0
  have hj1 := (setCell_there (b := V) (k := 0) (b' := V + 1) (.slice a2 l.length (cap - 1)) (by omega)).trans hg1
  have hjT := (setCell_there (b := V) (k := 0) (b' := T) (.slice a2 l.length (cap - 1)) (by omega)).trans hgT
  have hjB := hgB.setCell (p := ⟨V, 0, none⟩) h6 (.slice a2 l.length (cap - 1))
  have hjL : T < ((w1.setCell ⟨V + 1, 0, none⟩ (.bool true)).drew.setCell ⟨V, 0, none⟩ (.slice a2 l.length (cap - 1))).heap.size := by rw [setCell_size]; exact hgL
  have hjK := (hka.below ((Below.refl w0.heap.size _).setCell (p := ⟨V + 1, 0, none⟩) (by show w0.heap.size ≤ V + 1; omega) (.bool true)).drew).below ((Below.refl w0.heap.size _).setCell (p := ⟨V, 0, none⟩) h6 (.slice a2 l.length (cap - 1)))
  rw [World.setCell_drew] at hj0 hj1 hjT hjB hjL hjK
  have g2 : ((w1.setCell ⟨V + 1, 0, none⟩ (.bool true)).setCell ⟨V, 0, none⟩ (.slice a2 l.length (cap - 1))).drew.cell? ⟨V + 1, 0, none⟩ = some (.bool true) := cell_of hj1 rfl
  have hgR : IsR w0 V T (true, l) ((w1.setCell ⟨V + 1, 0, none⟩ (.bool true)).setCell ⟨V, 0, none⟩ (.slice a2 l.length (cap - 1))).drew := ⟨⟨_, _, hj0, hjK, by show l.length ≤ cap - 1; omega⟩, hj1, hjB, hjL, h6, h7⟩
  have HR := Lib.hid hgR
  have HT := Lib.hid hjT
  have HM := Lib.hid hm
  have HML := Lib.hid hml
  have HKK := Lib.hid hk
  clear hg1 hg0 hgT hgR hgB hgL hW hm hml hk hk1 HWB hs2 hka hj0 hj1 hjT hjB hjL hjK
  refine wp_region_still_tail 10 (by kernel_rfl) (by kernel_rfl) ?_
  simp only [List.take_succ_cons, List.take_zero, List.drop_succ_cons, List.drop_zero]
  repeat still_step
  refine wpStill_nil ?_
  change wpList _ _ _ _ _ w1.drew
  go_wp2_with fail
  go_ret
  exact ⟨rfl, HR.out, HT.out⟩

set_option maxRecDepth 100000 in
set_option maxHeartbeats 2000000 in
theorem isTake_miss (w0 : World) (V T : Nat) (b : Bool) (t u : Tok) (l : List Tok) (w : World) (x y z : Value) (h : IsR w0 V T (b, u :: l) w) (hT : TokIn w T x y z) (hl : l.length ≤ 30000) (htu : ¬ t = u) :
    Calls Try.prog 29 #[t.val, .pointer (some ⟨V, 0, none⟩), .pointer (some ⟨V + 1, 0, none⟩)] w fun e w' => e = .returned (.bool false) ∧ IsR w0 V T (false, u :: l) w' ∧ TokIn w' T x y z := by
  obtain ⟨a, cap, hc, hk, hW⟩ := h.box hT t
  obtain ⟨k, s, n⟩ := t
  have h6 := h.base
  have h7 := h.vt
  have EQ := fun W => tok_eql ⟨k, s, n⟩ u W
  rw [decide_eq_false htu] at EQ
  have HBW : Below w.heap.size w (w.alloc (.cells #[.int .i64 k, .string ⟨s.toArray⟩, .int .i64 n] 23)) := (Below.refl _ _).alloc (Nat.le_refl _) _
  have HWB := HBW.mono h.below.size
  obtain ⟨m, hm⟩ : ∃ m, (u :: l).length = m := ⟨_, rfl⟩
  have hm1 : 1 ≤ m := by rw [← hm]; simp
  have hml : m = l.length + 1 := by rw [← hm]; simp
  change (u :: l).length ≤ cap at hc
  change IsW w0 V T a (u :: l).length cap b _ x y z _ _ at hW
  change TkB _ _ a (u :: l) at hk
  rw [hm] at hc hW
  unfold LexP.Tok.val at EQ ⊢
  clear h hT htu HBW
  rcases hk with hk | ⟨b1, o1, rfl, hb1, hk⟩
  · cases hk
  have hml0 : (0 : Int) < (m : Int) := by omega
  have hmld : decide (0 < m) = true := by simp; omega
  have hmn : 0 < m := by omega
  obtain ⟨uk, us, un⟩ := u
  go_enter Try.func29, Try.ntmps29
  go_wp2_with fail
  generalize hw1 : w.alloc (.cells #[.int .i64 k, .string ⟨s.toArray⟩, .int .i64 n] 23) = w1 at hW HWB ⊢
  obtain ⟨Bx, hBx⟩ : ∃ Bx, w.heap.size = Bx := ⟨_, rfl⟩
  rw [hBx] at hW ⊢
  clear hw1 hBx
  have c0 : w1.cell? ⟨V, 0, none⟩ = some (.slice (some ⟨b1, o1, none⟩) m cap) := cell_of hW.v0 rfl
  have c1 : w1.drew.cell? ⟨V + 1, 0, none⟩ = some (.bool b) := cell_of (w := w1) hW.v1 rfl
  have f1 : w1.drew.frozen? ⟨V + 1, 0, none⟩ = false := unfrozen_of (w := w1) hW.v1
  have hk1 := (hk 0 (by simp)).below HWB hb1
  rw [Nat.zero_mul, Nat.add_zero] at hk1
  have e0 : w1.cell? ⟨b1, o1, none⟩ = some (.int .i64 uk) := hk1.kind
  have e1 : w1.cell? ⟨b1, o1 + 1, none⟩ = some (.string ⟨us.toArray⟩) := hk1.text
  have e2 : w1.cell? ⟨b1, o1 + 2, none⟩ = some (.int .i64 un) := hk1.n
  have k0 : w1.cell? ⟨Bx, 0, none⟩ = some (.int .i64 k) := cell_of hW.box rfl
  have k1 : w1.cell? ⟨Bx, 1, none⟩ = some (.string ⟨s.toArray⟩) := cell_of hW.box rfl
  have k2 : w1.cell? ⟨Bx, 2, none⟩ = some (.int .i64 n) := cell_of hW.box rfl
  have hg1 : (w1.setCell ⟨V + 1, 0, none⟩ (.bool false)).drew.heap[V + 1]? = some (.cells #[.bool false] 4 (0, 0)) := setCell_here (w := w1) (k := 0) _ hW.v1
  have hg0 : (w1.setCell ⟨V + 1, 0, none⟩ (.bool false)).drew.heap[V]? = some (.cells #[.slice (some ⟨b1, o1, none⟩) m cap] 26 (0, 0)) := (setCell_there (w := w1) (b := V + 1) (k := 0) _ (by omega)).trans hW.v0
  have hgT : TokIn (w1.setCell ⟨V + 1, 0, none⟩ (.bool false)).drew T x y z := (setCell_there (w := w1) (b := V + 1) (k := 0) (b' := T) _ (by omega)).trans hW.tok
  have hgB : Below w0.heap.size w0 (w1.setCell ⟨V + 1, 0, none⟩ (.bool false)).drew := (hW.bel.setCell (p := ⟨V + 1, 0, none⟩) (by show w0.heap.size ≤ V + 1; omega) _).drew
  have hgL : T < (w1.setCell ⟨V + 1, 0, none⟩ (.bool false)).drew.heap.size := by show T < (w1.setCell _ _).heap.size; rw [setCell_size]; exact hW.lt
  have g1 : (w1.setCell ⟨V + 1, 0, none⟩ (.bool false)).drew.cell? ⟨V + 1, 0, none⟩ = some (.bool false) := cell_of hg1 rfl
  have hgR : IsR w0 V T (false, ⟨uk, us, un⟩ :: l) (w1.setCell ⟨V + 1, 0, none⟩ (.bool false)).drew := ⟨⟨_, cap, by rw [← hm] at hg0; exact hg0, Or.inr ⟨b1, o1, rfl, hb1, (hk.below HWB hb1).below ((Below.refl w0.heap.size _).setCell (p := ⟨V + 1, 0, none⟩) (by show w0.heap.size ≤ V + 1; omega) _).drew hb1⟩, by rw [hm]; exact hc⟩, hg1, hgB, hgL, h6, h7⟩
  have HR := Lib.hid hgR
  have HT := Lib.hid hgT
  have HM := Lib.hid hm
  have HML := Lib.hid hml
  have HKK := Lib.hid hk
  clear hg1 hg0 hgT hgR hgB hgL hW hm hml hk hk1 HWB
  refine wp_region_still_tail 10 (by kernel_rfl) (by kernel_rfl) ?_
  simp only [List.take_succ_cons, List.take_zero, List.drop_succ_cons, List.drop_zero]
  repeat still_step
  refine wpStill_nil ?_
  change wpList _ _ _ _ _ w1.drew
  go_wp2_with fail
  go_ret
  exact ⟨rfl, HR.out, HT.out⟩

end Go.Proofs.Ytipmgoejdkpknaa
