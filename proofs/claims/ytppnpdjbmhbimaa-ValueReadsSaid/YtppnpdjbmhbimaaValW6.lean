/- Layer 9: the reader's steps. -/
import Derived.Test.YtppnpdjbmhbimaaValW2
import Derived.Test.YtppnpdjbmhbimaaTokC
import Derived.BigRegion
namespace Go.Proofs.Ytppnpdjbmhbimaa
open Go.RowKit TreN LexP FixP SynP ValP FixM
set_option linter.unusedVariables false

/-- x is w, but block b holds other cells -/
structure Put (w x : World) (b : Nat) (T : TypeId) (cur : Array Value) : Prop where
  here : x.heap[b]? = some (.cells cur T (0, 0))
  there : ∀ k, k ≠ b → x.heap[k]? = w.heap[k]?
  size : x.heap.size = w.heap.size
  below : ∀ (lo : Nat) (a : World), lo ≤ b → Below lo a w → Below lo a x
theorem Put.grown {w x : World} {b : Nat} {T : TypeId} {cur : Array Value} (h : Put w x b T cur) : w.grownBy x (some b) := by
  have h1 := h.below b w (Nat.le_refl _) (Below.refl _ _)
  exact ⟨h1.os, h1.tape, h1.output, h1.size, fun k hk hn => h.there k (fun e => hn (by rw [e]))⟩
theorem four_store (w : World) (b : Nat) (T : TypeId) (cur : Array Value) (o0 o1 o2 o3 : Nat) (n0 n1 n2 n3 : Value) (h : w.heap[b]? = some (.cells cur T (0, 0))) (h0 : o0 < cur.size) (h1 : o1 < cur.size) (h2 : o2 < cur.size) (h3 : o3 < cur.size) :
    ∃ x1 x2 x3 x4 v0 v1 v2 v3, (w.cell? ⟨b, o0, none⟩ = some v0 ∧ w.frozen? ⟨b, o0, none⟩ = false ∧ w.setCell ⟨b, o0, none⟩ n0 = x1) ∧
      (x1.cell? ⟨b, o1, none⟩ = some v1 ∧ x1.frozen? ⟨b, o1, none⟩ = false ∧ x1.setCell ⟨b, o1, none⟩ n1 = x2) ∧
      (x2.cell? ⟨b, o2, none⟩ = some v2 ∧ x2.frozen? ⟨b, o2, none⟩ = false ∧ x2.setCell ⟨b, o2, none⟩ n2 = x3) ∧
      (x3.cell? ⟨b, o3, none⟩ = some v3 ∧ x3.frozen? ⟨b, o3, none⟩ = false ∧ x3.setCell ⟨b, o3, none⟩ n3 = x4) ∧
      Put w x4 b T ((((cur.setIfInBounds o0 n0).setIfInBounds o1 n1).setIfInBounds o2 n2).setIfInBounds o3 n3) := by
  have g1 := setCell_here (k := o0) n0 h
  have g2 := setCell_here (k := o1) n1 g1
  have g3 := setCell_here (k := o2) n2 g2
  have g4 := setCell_here (k := o3) n3 g3
  refine ⟨_, _, _, _, cur[o0], (cur.setIfInBounds o0 n0)[o1]'(by simpa using h1), ((cur.setIfInBounds o0 n0).setIfInBounds o1 n1)[o2]'(by simpa using h2), (((cur.setIfInBounds o0 n0).setIfInBounds o1 n1).setIfInBounds o2 n2)[o3]'(by simpa using h3),
    ⟨cell_of h (by simp [h0]), unfrozen_of h, rfl⟩, ⟨cell_of g1 (by simp [h1]), unfrozen_of g1, rfl⟩, ⟨cell_of g2 (by simp [h2]), unfrozen_of g2, rfl⟩, ⟨cell_of g3 (by simp [h3]), unfrozen_of g3, rfl⟩, g4, fun k hk => ?_, ?_, fun lo a hlo hb => ?_⟩
  · rw [setCell_there _ hk, setCell_there _ hk, setCell_there _ hk, setCell_there _ hk]
  · simp only [setCell_size]
  · exact (((hb.setCell (p := ⟨b, o0, none⟩) hlo n0).setCell (p := ⟨b, o1, none⟩) hlo n1).setCell (p := ⟨b, o2, none⟩) hlo n2).setCell (p := ⟨b, o3, none⟩) hlo n3
/-- a value's cells -/
def vc (v : Val) : List Value := [.int .i64 v.kind, .int .i64 v.n, .int .i64 v.d, .string ⟨v.name.toArray⟩]
/-- how a token is told as a value -/
def AsCb (f : Nat) (g : Tok → Val) : Prop := ∀ (t : Tok) (W : World), Calls Try.prog f #[t.val] W fun e w' => e = .returned (valV (g t)) ∧ Below W.heap.size W w'

set_option maxRecDepth 100000 in
theorem asNum : AsCb 40 (fun t => ⟨4, t.n, 0, []⟩) := by
  intro t W
  obtain ⟨k, x, n⟩ := t
  show Calls _ _ #[(⟨k, x, n⟩ : Tok).val] W fun e w' => e = .returned (.agg #[.int .i64 4, .int .i64 n, .int .i64 0, .string ⟨#[]⟩]) ∧ _
  unfold LexP.Tok.val
  go_enter Try.func40, Try.ntmps40
  go_wp2_with fail
  exact bodyPost_ret (v := .agg #[.int .i64 4, .int .i64 n, .int .i64 0, .string ⟨#[]⟩]) (by simp [results, Try.results40, go_sem]) rfl ⟨rfl, ((Below.refl _ _).alloc (Nat.le_refl _) _).alloc (by simp) _⟩
set_option maxRecDepth 100000 in
theorem asPct : AsCb 42 (fun t => ⟨3, t.n, 0, []⟩) := by
  intro t W
  obtain ⟨k, x, n⟩ := t
  show Calls _ _ #[(⟨k, x, n⟩ : Tok).val] W fun e w' => e = .returned (.agg #[.int .i64 3, .int .i64 n, .int .i64 0, .string ⟨#[]⟩]) ∧ _
  unfold LexP.Tok.val
  go_enter Try.func42, Try.ntmps42
  go_wp2_with fail
  exact bodyPost_ret (v := .agg #[.int .i64 3, .int .i64 n, .int .i64 0, .string ⟨#[]⟩]) (by simp [results, Try.results42, go_sem]) rfl ⟨rfl, ((Below.refl _ _).alloc (Nat.le_refl _) _).alloc (by simp) _⟩
/-- a box, and behind it the block of an answer -/
theorem two_blocks (W w2 : World) (o z : Obj) (hb : Below ((W.alloc o).alloc z).heap.size ((W.alloc o).alloc z) w2) : w2.heap[W.heap.size]? = some o ∧ w2.heap[W.heap.size + 1]? = some z ∧ Below W.heap.size W w2 ∧ W.heap.size + 1 < w2.heap.size := by
  have h1 : ((W.alloc o).alloc z).heap[W.heap.size]? = some o := by rw [Below.heap_alloc _ _ _ (by simp)]; exact heap_alloc_new W _
  have h2 : ((W.alloc o).alloc z).heap[W.heap.size + 1]? = some z := by
    have := heap_alloc_new (W.alloc o) z
    simpa using this
  have hs := hb.size
  simp at hs
  exact ⟨(hb.block _ (by simp; omega)).trans h1, (hb.block _ (by simp)).trans h2, (((Below.refl _ _).alloc (Nat.le_refl _) _).alloc (by simp) _).trans (hb.mono (by simp; omega)), by omega⟩
set_option maxRecDepth 100000 in
set_option maxHeartbeats 1000000 in
theorem asName : AsCb 44 (fun t => namedV t.text) := by
  intro t W
  obtain ⟨k, x, n⟩ := t
  have HW := Lib.hid (fun V => Word_any x V)
  obtain ⟨q, hq⟩ : ∃ q, wordP x = q := ⟨_, rfl⟩
  have HV : Hid (namedV x = if 0 < q then ⟨1, q, 0, []⟩ else ⟨6, 0, 0, x⟩) := Lib.hid (by rw [← hq]; rfl)
  rw [hq] at HW
  show Calls _ _ #[(⟨k, x, n⟩ : Tok).val] W fun e w' => e = .returned (valV (namedV x)) ∧ _
  unfold LexP.Tok.val
  clear hq
  go_enter Try.func44, Try.ntmps44
  go_wp2_with fail
  refine (HW.out _).mono ?_
  rintro e w2 ⟨rfl, hb⟩
  obtain ⟨k1, k2, k3, k4⟩ := two_blocks W w2 _ _ hb
  have c1 : w2.cell? ⟨W.heap.size, 1, none⟩ = some (.string ⟨x.toArray⟩) := cell_of k1 rfl
  have hl1 := blk_lt9 k1
  rcases Nat.eq_zero_or_pos q with rfl | hq
  · obtain ⟨x1, x2, x3, x4, v0, v1, v2, v3, ⟨p0, q0, r0⟩, ⟨p1, q1, r1⟩, ⟨p2, q2, r2⟩, ⟨p3, q3, r3⟩, h4⟩ := four_store w2 (W.heap.size + 1) 30 _ 0 1 2 3 (.int .i64 6) (.int .i64 0) (.int .i64 0) (.string ⟨x.toArray⟩) k2 (by decide) (by decide) (by decide) (by decide)
    have e0 := cell_of (k := 0) h4.here rfl
    have e1 := cell_of (k := 1) h4.here rfl
    have e2 := cell_of (k := 2) h4.here rfl
    have e3 := cell_of (k := 3) h4.here rfl
    have HB := Lib.hid (h4.below W.heap.size W (by omega) k3)
    clear hb k1 k2 k3 h4
    go_wp2_with fail
    refine bodyPost_ret (v := .agg #[.int .i64 6, .int .i64 0, .int .i64 0, .string ⟨x.toArray⟩]) (by simp [results, Try.results44, go_sem, e0, e1, e2, e3]) rfl ⟨?_, HB.out⟩
    rw [HV.out]; rfl
  · have hqz : (0 : Int) < (q : Int) := by omega
    obtain ⟨x1, x2, x3, x4, v0, v1, v2, v3, ⟨p0, q0, r0⟩, ⟨p1, q1, r1⟩, ⟨p2, q2, r2⟩, ⟨p3, q3, r3⟩, h4⟩ := four_store w2 (W.heap.size + 1) 30 _ 0 1 2 3 (.int .i64 1) (.int .i64 q) (.int .i64 0) (.string ⟨#[]⟩) k2 (by decide) (by decide) (by decide) (by decide)
    have e0 := cell_of (k := 0) h4.here rfl
    have e1 := cell_of (k := 1) h4.here rfl
    have e2 := cell_of (k := 2) h4.here rfl
    have e3 := cell_of (k := 3) h4.here rfl
    have HB := Lib.hid (h4.below W.heap.size W (by omega) k3)
    clear hb k1 k2 k3 h4
    go_wp2_with fail
    refine bodyPost_ret (v := .agg #[.int .i64 1, .int .i64 q, .int .i64 0, .string ⟨#[]⟩]) (by simp [results, Try.results44, go_sem, e0, e1, e2, e3]) rfl ⟨?_, HB.out⟩
    rw [HV.out, if_pos hq]; rfl
theorem dim_facts {W V w2 : World} {o : Array Value} {tt : TypeId} {q n : Int} (h1 : V.heap[W.heap.size]? = some (.cells o tt (0, 0))) (h2 : V.heap[W.heap.size + 1]? = some (.cells #[.int .i64 0, .int .i64 0, .int .i64 0, .string ⟨#[]⟩] 30 (0, 0))) (h3 : Below W.heap.size W V) (hb : Below V.drew.heap.size V.drew w2) :
    w2.heap[W.heap.size]? = some (.cells o tt (0, 0)) ∧ ∃ x1 x2 x3 x4 v0 v1 v2 v3, (w2.cell? ⟨W.heap.size + 1, 0, none⟩ = some v0 ∧ w2.frozen? ⟨W.heap.size + 1, 0, none⟩ = false ∧ w2.setCell ⟨W.heap.size + 1, 0, none⟩ (.int .i64 2) = x1) ∧
      (x1.cell? ⟨W.heap.size + 1, 1, none⟩ = some v1 ∧ x1.frozen? ⟨W.heap.size + 1, 1, none⟩ = false ∧ x1.setCell ⟨W.heap.size + 1, 1, none⟩ (.int .i64 n) = x2) ∧
      (x2.cell? ⟨W.heap.size + 1, 2, none⟩ = some v2 ∧ x2.frozen? ⟨W.heap.size + 1, 2, none⟩ = false ∧ x2.setCell ⟨W.heap.size + 1, 2, none⟩ (.int .i64 q) = x3) ∧
      (x3.cell? ⟨W.heap.size + 1, 3, none⟩ = some v3 ∧ x3.frozen? ⟨W.heap.size + 1, 3, none⟩ = false ∧ x3.setCell ⟨W.heap.size + 1, 3, none⟩ (.string ⟨#[]⟩) = x4) ∧
      x4.cell? ⟨W.heap.size + 1, 0, none⟩ = some (.int .i64 2) ∧ x4.cell? ⟨W.heap.size + 1, 1, none⟩ = some (.int .i64 n) ∧ x4.cell? ⟨W.heap.size + 1, 2, none⟩ = some (.int .i64 q) ∧ x4.cell? ⟨W.heap.size + 1, 3, none⟩ = some (.string ⟨#[]⟩) ∧ Hid (Below W.heap.size W x4) := by
  have l1 : W.heap.size + 1 < V.heap.size := blk_lt9 h2
  have k1 : w2.heap[W.heap.size]? = some (.cells o tt (0, 0)) := (hb.block _ (by show _ < V.heap.size; omega)).trans h1
  have k2 : w2.heap[W.heap.size + 1]? = some (.cells #[.int .i64 0, .int .i64 0, .int .i64 0, .string ⟨#[]⟩] 30 (0, 0)) := (hb.block _ l1).trans h2
  have k3 : Below W.heap.size W w2 := h3.trans ((Below.refl _ _).drew.trans (hb.mono (by show _ ≤ V.heap.size; omega)))
  obtain ⟨x1, x2, x3, x4, v0, v1, v2, v3, a1, a2, a3, a4, h4⟩ := four_store w2 (W.heap.size + 1) 30 _ 0 1 2 3 (.int .i64 2) (.int .i64 n) (.int .i64 q) (.string ⟨#[]⟩) k2 (by decide) (by decide) (by decide) (by decide)
  exact ⟨k1, x1, x2, x3, x4, v0, v1, v2, v3, a1, a2, a3, a4, cell_of (k := 0) h4.here rfl, cell_of (k := 1) h4.here rfl, cell_of (k := 2) h4.here rfl, cell_of (k := 3) h4.here rfl, h4.below W.heap.size W (by omega) k3⟩
set_option maxRecDepth 100000 in
set_option maxHeartbeats 1000000 in
theorem asDim : AsCb 43 (fun t => ⟨2, t.n, unitP t.text, []⟩) := by
  intro t W
  obtain ⟨k, x, n⟩ := t
  have HU := Lib.hid (fun V => Unit_any x V)
  show Calls _ _ #[(⟨k, x, n⟩ : Tok).val] W fun e w' => e = .returned (.agg #[.int .i64 2, .int .i64 n, .int .i64 (unitP x : Nat), .string ⟨#[]⟩]) ∧ _
  unfold LexP.Tok.val
  generalize unitP x = q at *
  go_enter Try.func43, Try.ntmps43
  go_wp2_with fail
  generalize hV : (W.alloc (.cells #[.int .i64 k, .string ⟨x.toArray⟩, .int .i64 n] 44)).alloc (.cells #[.int .i64 0, .int .i64 0, .int .i64 0, .string ⟨#[]⟩] 30) = V
  obtain ⟨k1, k2, k3, k4⟩ := two_blocks W V (.cells #[.int .i64 k, .string ⟨x.toArray⟩, .int .i64 n] 44) (.cells #[.int .i64 0, .int .i64 0, .int .i64 0, .string ⟨#[]⟩] 30) (by rw [← hV]; exact Below.refl _ _)
  have c1 : V.cell? ⟨W.heap.size, 1, none⟩ = some (.string ⟨x.toArray⟩) := cell_of k1 rfl
  have c2 : V.cell? ⟨W.heap.size, 2, none⟩ = some (.int .i64 n) := cell_of k1 rfl
  have KK := Lib.hid (And.intro k1 (And.intro k2 k3))
  clear hV k1 k2 k3
  go_region_with (go_at_call 11; refine (HU.out _).mono ?_; rintro e w2 ⟨rfl, hb⟩; obtain ⟨k1, x1, x2, x3, x4, v0, v1, v2, v3, ⟨p0, q0, r0⟩, ⟨p1, q1, r1⟩, ⟨p2, q2, r2⟩, ⟨p3, q3, r3⟩, e0, e1, e2, e3, HF⟩ := dim_facts (q := (q : Int)) (n := n) KK.out.1 KK.out.2.1 KK.out.2.2 hb; have c3 := cell_of (k := 1) k1 rfl; have c4 := cell_of (k := 2) k1 rfl; clear hb k1)
  all_goals
    go_wp2_with fail
    exact bodyPost_ret (v := .agg #[.int .i64 2, .int .i64 n, .int .i64 (q : Nat), .string ⟨#[]⟩]) (by simp [results, Try.results43, go_sem, e0, e1, e2, e3]) rfl ⟨rfl, HF.out⟩
end Go.Proofs.Ytppnpdjbmhbimaa
