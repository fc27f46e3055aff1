/- Joined texts: ValW6 ValW7. -/
import Derived.Test.YtbodmfbpmeapoaaGreatValW2
import Derived.Test.YtbodmfbpmeapoaaGreatTokX
import Derived.BigRegion
namespace Go.Proofs.YtbodmfbpmeapoaaGreat
open Go.RowKit TreN LexP FixP SynP ValP FixM
set_option linter.unusedVariables false

/-- x is w, but block b holds other cells -/
structure Put (w x : World) (b : Nat) (T : TypeId) (cur : Array Value) : Prop where
  here : x.heap[b]? = some (.cells cur T (0, 0))
  there : ∀ k, k ≠ b → x.heap[k]? = w.heap[k]?
  size : x.heap.size = w.heap.size
  below : ∀ (lo : Nat) (a : World), lo ≤ b → Below lo a w → Below lo a x
theorem Put.grown {w x : World} {b : Nat} {T : TypeId} {cur : Array Value} (h : Put w x b T cur) : w.grownBy x (some b) := by
  have h1 := h.below b w (Nat.le_refl _) (Below.refl _ _)
  exact ⟨h1.os, h1.tape, h1.output, h1.size, fun k hk hn => h.there k (fun e => hn (by rw [e]))⟩
theorem four_store (w : World) (b : Nat) (T : TypeId) (cur : Array Value) (o0 o1 o2 o3 : Nat) (n0 n1 n2 n3 : Value) (h : w.heap[b]? = some (.cells cur T (0, 0))) (h0 : o0 < cur.size) (h1 : o1 < cur.size) (h2 : o2 < cur.size) (h3 : o3 < cur.size) :
    ∃ x1 x2 x3 x4 v0 v1 v2 v3, (w.cell? ⟨b, o0, none⟩ = some v0 ∧ w.frozen? ⟨b, o0, none⟩ = false ∧ w.setCell ⟨b, o0, none⟩ n0 = x1) ∧
      (x1.cell? ⟨b, o1, none⟩ = some v1 ∧ x1.frozen? ⟨b, o1, none⟩ = false ∧ x1.setCell ⟨b, o1, none⟩ n1 = x2) ∧
      (x2.cell? ⟨b, o2, none⟩ = some v2 ∧ x2.frozen? ⟨b, o2, none⟩ = false ∧ x2.setCell ⟨b, o2, none⟩ n2 = x3) ∧
      (x3.cell? ⟨b, o3, none⟩ = some v3 ∧ x3.frozen? ⟨b, o3, none⟩ = false ∧ x3.setCell ⟨b, o3, none⟩ n3 = x4) ∧
      Put w x4 b T ((((cur.setIfInBounds o0 n0).setIfInBounds o1 n1).setIfInBounds o2 n2).setIfInBounds o3 n3) := by
  have g1 := setCell_here (k := o0) n0 h
  have g2 := setCell_here (k := o1) n1 g1
  have g3 := setCell_here (k := o2) n2 g2
  have g4 := setCell_here (k := o3) n3 g3
  refine ⟨_, _, _, _, cur[o0], (cur.setIfInBounds o0 n0)[o1]'(by simpa using h1), ((cur.setIfInBounds o0 n0).setIfInBounds o1 n1)[o2]'(by simpa using h2), (((cur.setIfInBounds o0 n0).setIfInBounds o1 n1).setIfInBounds o2 n2)[o3]'(by simpa using h3),
    ⟨cell_of h (by simp [h0]), unfrozen_of h, rfl⟩, ⟨cell_of g1 (by simp [h1]), unfrozen_of g1, rfl⟩, ⟨cell_of g2 (by simp [h2]), unfrozen_of g2, rfl⟩, ⟨cell_of g3 (by simp [h3]), unfrozen_of g3, rfl⟩, g4, fun k hk => ?_, ?_, fun lo a hlo hb => ?_⟩
  · rw [setCell_there _ hk, setCell_there _ hk, setCell_there _ hk, setCell_there _ hk]
  · simp only [setCell_size]
  · exact (((hb.setCell (p := ⟨b, o0, none⟩) hlo n0).setCell (p := ⟨b, o1, none⟩) hlo n1).setCell (p := ⟨b, o2, none⟩) hlo n2).setCell (p := ⟨b, o3, none⟩) hlo n3
/-- a value's cells -/
def vc (v : Val) : List Value := [.int .i64 v.kind, .int .i64 v.n, .int .i64 v.d, .string ⟨v.name.toArray⟩]
/-- how a token is told as a value -/
def AsCb (f : Nat) (g : Tok → Val) : Prop := ∀ (t : Tok) (W : World), Calls Tryz.prog f #[t.val] W fun e w' => e = .returned (valV (g t)) ∧ Below W.heap.size W w'

set_option maxRecDepth 100000 in
theorem asNum : AsCb 98 (fun t => ⟨4, t.n, 0, []⟩) := by
  intro t W
  obtain ⟨k, x, n⟩ := t
  show Calls _ _ #[(⟨k, x, n⟩ : Tok).val] W fun e w' => e = .returned (.agg #[.int .i64 4, .int .i64 n, .int .i64 0, .string ⟨#[]⟩]) ∧ _
  unfold LexP.Tok.val
  go_enter Tryz.func98, Tryz.ntmps98
  go_wp2_with fail
  exact bodyPost_ret (v := .agg #[.int .i64 4, .int .i64 n, .int .i64 0, .string ⟨#[]⟩]) (by simp [results, Tryz.results98, go_sem]) rfl ⟨rfl, ((Below.refl _ _).alloc (Nat.le_refl _) _).alloc (by simp) _⟩
set_option maxRecDepth 100000 in
theorem asPct : AsCb 100 (fun t => ⟨3, t.n, 0, []⟩) := by
  intro t W
  obtain ⟨k, x, n⟩ := t
  show Calls _ _ #[(⟨k, x, n⟩ : Tok).val] W fun e w' => e = .returned (.agg #[.int .i64 3, .int .i64 n, .int .i64 0, .string ⟨#[]⟩]) ∧ _
  unfold LexP.Tok.val
  go_enter Tryz.func100, Tryz.ntmps100
  go_wp2_with fail
  exact bodyPost_ret (v := .agg #[.int .i64 3, .int .i64 n, .int .i64 0, .string ⟨#[]⟩]) (by simp [results, Tryz.results100, go_sem]) rfl ⟨rfl, ((Below.refl _ _).alloc (Nat.le_refl _) _).alloc (by simp) _⟩
/-- a box, and behind it the block of an answer -/
theorem two_blocks (W w2 : World) (o z : Obj) (hb : Below ((W.alloc o).alloc z).heap.size ((W.alloc o).alloc z) w2) : w2.heap[W.heap.size]? = some o ∧ w2.heap[W.heap.size + 1]? = some z ∧ Below W.heap.size W w2 ∧ W.heap.size + 1 < w2.heap.size := by
  have h1 : ((W.alloc o).alloc z).heap[W.heap.size]? = some o := by rw [Below.heap_alloc _ _ _ (by simp)]; exact heap_alloc_new W _
  have h2 : ((W.alloc o).alloc z).heap[W.heap.size + 1]? = some z := by
    have := heap_alloc_new (W.alloc o) z
    simpa using this
  have hs := hb.size
  simp at hs
  exact ⟨(hb.block _ (by simp; omega)).trans h1, (hb.block _ (by simp)).trans h2, (((Below.refl _ _).alloc (Nat.le_refl _) _).alloc (by simp) _).trans (hb.mono (by simp; omega)), by omega⟩
set_option maxRecDepth 100000 in
set_option maxHeartbeats 1000000 in
theorem asName : AsCb 103 (fun t => namedV t.text) := by
  intro t W
  obtain ⟨k, x, n⟩ := t
  have HW := Lib.hid (fun V => Word_any x V)
  obtain ⟨q, hq⟩ : ∃ q, wordP x = q := ⟨_, rfl⟩
  have HV : Hid (namedV x = if 0 < q then ⟨1, q, 0, []⟩ else ⟨6, 0, 0, x⟩) := Lib.hid (by rw [← hq]; rfl)
  rw [hq] at HW
  show Calls _ _ #[(⟨k, x, n⟩ : Tok).val] W fun e w' => e = .returned (valV (namedV x)) ∧ _
  unfold LexP.Tok.val
  clear hq
  go_enter Tryz.func103, Tryz.ntmps103
  go_wp2_with fail
  refine (HW.out _).mono ?_
  rintro e w2 ⟨rfl, hb⟩
  obtain ⟨k1, k2, k3, k4⟩ := two_blocks W w2 _ _ hb
  have c1 : w2.cell? ⟨W.heap.size, 1, none⟩ = some (.string ⟨x.toArray⟩) := cell_of k1 rfl
  have hl1 := blk_lt9 k1
  rcases Nat.eq_zero_or_pos q with rfl | hq
  · obtain ⟨x1, x2, x3, x4, v0, v1, v2, v3, ⟨p0, q0, r0⟩, ⟨p1, q1, r1⟩, ⟨p2, q2, r2⟩, ⟨p3, q3, r3⟩, h4⟩ := four_store w2 (W.heap.size + 1) 23 _ 0 1 2 3 (.int .i64 6) (.int .i64 0) (.int .i64 0) (.string ⟨x.toArray⟩) k2 (by decide) (by decide) (by decide) (by decide)
    have e0 := cell_of (k := 0) h4.here rfl
    have e1 := cell_of (k := 1) h4.here rfl
    have e2 := cell_of (k := 2) h4.here rfl
    have e3 := cell_of (k := 3) h4.here rfl
    have HB := Lib.hid (h4.below W.heap.size W (by omega) k3)
    clear hb k1 k2 k3 h4
    go_wp2_with fail
    refine bodyPost_ret (v := .agg #[.int .i64 6, .int .i64 0, .int .i64 0, .string ⟨x.toArray⟩]) (by simp [results, Tryz.results103, go_sem, e0, e1, e2, e3]) rfl ⟨?_, HB.out⟩
    rw [HV.out]; rfl
  · have hqz : (0 : Int) < (q : Int) := by omega
    obtain ⟨x1, x2, x3, x4, v0, v1, v2, v3, ⟨p0, q0, r0⟩, ⟨p1, q1, r1⟩, ⟨p2, q2, r2⟩, ⟨p3, q3, r3⟩, h4⟩ := four_store w2 (W.heap.size + 1) 23 _ 0 1 2 3 (.int .i64 1) (.int .i64 q) (.int .i64 0) (.string ⟨#[]⟩) k2 (by decide) (by decide) (by decide) (by decide)
    have e0 := cell_of (k := 0) h4.here rfl
    have e1 := cell_of (k := 1) h4.here rfl
    have e2 := cell_of (k := 2) h4.here rfl
    have e3 := cell_of (k := 3) h4.here rfl
    have HB := Lib.hid (h4.below W.heap.size W (by omega) k3)
    clear hb k1 k2 k3 h4
    go_wp2_with fail
    refine bodyPost_ret (v := .agg #[.int .i64 1, .int .i64 q, .int .i64 0, .string ⟨#[]⟩]) (by simp [results, Tryz.results103, go_sem, e0, e1, e2, e3]) rfl ⟨?_, HB.out⟩
    rw [HV.out, if_pos hq]; rfl
theorem dim_facts {W V w2 : World} {o : Array Value} {tt : TypeId} {q n : Int} (h1 : V.heap[W.heap.size]? = some (.cells o tt (0, 0))) (h2 : V.heap[W.heap.size + 1]? = some (.cells #[.int .i64 0, .int .i64 0, .int .i64 0, .string ⟨#[]⟩] 23 (0, 0))) (h3 : Below W.heap.size W V) (hb : Below V.drew.heap.size V.drew w2) :
    w2.heap[W.heap.size]? = some (.cells o tt (0, 0)) ∧ ∃ x1 x2 x3 x4 v0 v1 v2 v3, (w2.cell? ⟨W.heap.size + 1, 0, none⟩ = some v0 ∧ w2.frozen? ⟨W.heap.size + 1, 0, none⟩ = false ∧ w2.setCell ⟨W.heap.size + 1, 0, none⟩ (.int .i64 2) = x1) ∧
      (x1.cell? ⟨W.heap.size + 1, 1, none⟩ = some v1 ∧ x1.frozen? ⟨W.heap.size + 1, 1, none⟩ = false ∧ x1.setCell ⟨W.heap.size + 1, 1, none⟩ (.int .i64 n) = x2) ∧
      (x2.cell? ⟨W.heap.size + 1, 2, none⟩ = some v2 ∧ x2.frozen? ⟨W.heap.size + 1, 2, none⟩ = false ∧ x2.setCell ⟨W.heap.size + 1, 2, none⟩ (.int .i64 q) = x3) ∧
      (x3.cell? ⟨W.heap.size + 1, 3, none⟩ = some v3 ∧ x3.frozen? ⟨W.heap.size + 1, 3, none⟩ = false ∧ x3.setCell ⟨W.heap.size + 1, 3, none⟩ (.string ⟨#[]⟩) = x4) ∧
      x4.cell? ⟨W.heap.size + 1, 0, none⟩ = some (.int .i64 2) ∧ x4.cell? ⟨W.heap.size + 1, 1, none⟩ = some (.int .i64 n) ∧ x4.cell? ⟨W.heap.size + 1, 2, none⟩ = some (.int .i64 q) ∧ x4.cell? ⟨W.heap.size + 1, 3, none⟩ = some (.string ⟨#[]⟩) ∧ Hid (Below W.heap.size W x4) := by
  have l1 : W.heap.size + 1 < V.heap.size := blk_lt9 h2
  have k1 : w2.heap[W.heap.size]? = some (.cells o tt (0, 0)) := (hb.block _ (by show _ < V.heap.size; omega)).trans h1
  have k2 : w2.heap[W.heap.size + 1]? = some (.cells #[.int .i64 0, .int .i64 0, .int .i64 0, .string ⟨#[]⟩] 23 (0, 0)) := (hb.block _ l1).trans h2
  have k3 : Below W.heap.size W w2 := h3.trans ((Below.refl _ _).drew.trans (hb.mono (by show _ ≤ V.heap.size; omega)))
  obtain ⟨x1, x2, x3, x4, v0, v1, v2, v3, a1, a2, a3, a4, h4⟩ := four_store w2 (W.heap.size + 1) 23 _ 0 1 2 3 (.int .i64 2) (.int .i64 n) (.int .i64 q) (.string ⟨#[]⟩) k2 (by decide) (by decide) (by decide) (by decide)
  exact ⟨k1, x1, x2, x3, x4, v0, v1, v2, v3, a1, a2, a3, a4, cell_of (k := 0) h4.here rfl, cell_of (k := 1) h4.here rfl, cell_of (k := 2) h4.here rfl, cell_of (k := 3) h4.here rfl, h4.below W.heap.size W (by omega) k3⟩
set_option maxRecDepth 100000 in
set_option maxHeartbeats 1000000 in
theorem asDim : AsCb 101 (fun t => ⟨2, t.n, unitP t.text, []⟩) := by
  intro t W
  obtain ⟨k, x, n⟩ := t
  have HU := Lib.hid (fun V => Unit_any x V)
  show Calls _ _ #[(⟨k, x, n⟩ : Tok).val] W fun e w' => e = .returned (.agg #[.int .i64 2, .int .i64 n, .int .i64 (unitP x : Nat), .string ⟨#[]⟩]) ∧ _
  unfold LexP.Tok.val
  generalize unitP x = q at *
  go_enter Tryz.func101, Tryz.ntmps101
  go_wp2_with fail
  generalize hV : (W.alloc (.cells #[.int .i64 k, .string ⟨x.toArray⟩, .int .i64 n] 58)).alloc (.cells #[.int .i64 0, .int .i64 0, .int .i64 0, .string ⟨#[]⟩] 23) = V
  obtain ⟨k1, k2, k3, k4⟩ := two_blocks W V (.cells #[.int .i64 k, .string ⟨x.toArray⟩, .int .i64 n] 58) (.cells #[.int .i64 0, .int .i64 0, .int .i64 0, .string ⟨#[]⟩] 23) (by rw [← hV]; exact Below.refl _ _)
  have c1 : V.cell? ⟨W.heap.size, 1, none⟩ = some (.string ⟨x.toArray⟩) := cell_of k1 rfl
  have c2 : V.cell? ⟨W.heap.size, 2, none⟩ = some (.int .i64 n) := cell_of k1 rfl
  have KK := Lib.hid (And.intro k1 (And.intro k2 k3))
  clear hV k1 k2 k3
  go_region_with (go_at_call 102; refine (HU.out _).mono ?_; rintro e w2 ⟨rfl, hb⟩; obtain ⟨k1, x1, x2, x3, x4, v0, v1, v2, v3, ⟨p0, q0, r0⟩, ⟨p1, q1, r1⟩, ⟨p2, q2, r2⟩, ⟨p3, q3, r3⟩, e0, e1, e2, e3, HF⟩ := dim_facts (q := (q : Int)) (n := n) KK.out.1 KK.out.2.1 KK.out.2.2 hb; have c3 := cell_of (k := 1) k1 rfl; have c4 := cell_of (k := 2) k1 rfl; clear hb k1)
  all_goals
    go_wp2_with fail
    exact bodyPost_ret (v := .agg #[.int .i64 2, .int .i64 n, .int .i64 (q : Nat), .string ⟨#[]⟩]) (by simp [results, Tryz.results101, go_sem, e0, e1, e2, e3]) rfl ⟨rfl, HF.out⟩
end Go.Proofs.YtbodmfbpmeapoaaGreat

namespace Go.Proofs.YtbodmfbpmeapoaaGreat
open Go.RowKit TreN LexP FixP SynP ValP FixM
set_option linter.unusedVariables false

theorem below_one9 (w : World) (o : Obj) : Below w.heap.size w (w.alloc o) := (Below.refl _ _).alloc (Nat.le_refl _) _
theorem valV_eq (v : Val) : valV v = .agg #[.int .i64 v.kind, .int .i64 v.n, .int .i64 v.d, .string ⟨v.name.toArray⟩] := rfl
/-- a cursor, what stands behind it told anew -/
theorem Cur.rest {w0 w x : World} {P : Nat} {T : TypeId} {v u : Val} {l : List Tok} {s : Value} (h : Cur w0 w P T (vc v) l) (hs : w.heap[P]? = some (.cells (s :: vc v).toArray T (0, 0))) (hp : Put w x P T (s :: vc u).toArray) : Cur w0 x P T (vc u) l := by
  obtain ⟨a, c, h1, h2, h3, h4⟩ := h.ex
  rw [hs] at h1
  injection h1 with h1; injection h1 with h1 _ _
  have e := congrArg (fun (x : Array Value) => x[0]?) h1
  simp at e
  subst e
  exact ⟨⟨a, c, hp.here, h2, h3, h4⟩, h.base, hp.below _ _ h.base h.bel⟩

set_option maxRecDepth 100000 in
set_option maxHeartbeats 1000000 in
theorem take_yes {w0 w : World} {P f : Nat} {v : Val} {t : Tok} {r : List Tok} {g : Tok → Val} (ef : ∀ args w, (callFunc f args).run Tryz.prog w = .ok (.enter f args) w) (h : Cur w0 w P 101 (vc v) (t :: r)) (cb : AsCb f g) :
    Calls Tryz.prog 97 #[.pointer (some ⟨P, 0, none⟩), .int .i64 t.kind, .func (.func f) #[] #[]] w fun e w' => e = .returned (.bool true) ∧ w.grownBy w' (some P) ∧ Cur w0 w' P 101 (vc (g t)) r := by
  have TK := Take_yes h
  have CB := fun W => cb t W
  obtain ⟨k, x, n⟩ := t
  obtain ⟨u, hu⟩ : ∃ u, g ⟨k, x, n⟩ = u := ⟨_, rfl⟩
  rw [hu] at CB ⊢
  obtain ⟨uk, un, ud, ux⟩ := u
  have TK2 : Hid (Calls Tryz.prog 96 #[.pointer (some ⟨P, 0, none⟩), .int .i64 k] w fun e w' => e = .returned (.tuple #[.agg #[.int .i64 k, .string ⟨x.toArray⟩, .int .i64 n], .bool true]) ∧ w.grownBy w' (some P) ∧ Cur w0 w' P 101 (vc v) r) := Lib.hid TK
  have CB2 : Hid (∀ W : World, Calls Tryz.prog f #[.agg #[.int .i64 k, .string ⟨x.toArray⟩, .int .i64 n]] W fun e w' => e = .returned (.agg #[.int .i64 uk, .int .i64 un, .int .i64 ud, .string ⟨ux.toArray⟩]) ∧ Below W.heap.size W w') := Lib.hid fun W => CB W
  show Calls _ _ #[_, .int .i64 k, _] _ _
  clear TK CB hu h cb
  go_enter Tryz.func97, Tryz.ntmps97
  go_wp2_with fail
  refine TK2.out.mono ?_
  rintro e w1 ⟨rfl, hg1, hc1⟩
  have HG1 := Lib.hid hg1
  have HC1 := Lib.hid hc1
  clear hg1 hc1
  go_wp2_with fail
  refine (CB2.out _).mono ?_
  rintro e w2 ⟨rfl, hb2⟩
  have hC2 : Cur w0 w2 P 101 (vc v) r := (HC1.out.keep ((Below.refl _ _).alloc (Nat.le_refl _) _)).keep hb2
  have hG2 : w.grownBy w2 (some P) := grownBy_trans HG1.out (grownBy_below (some P) ((below_one9 w1 _).trans (hb2.mono (by simp))))
  obtain ⟨a, c, hP, _⟩ := hC2.ex
  obtain ⟨x1, x2, x3, x4, v0, v1, v2, v3, ⟨p0, q0, r0⟩, ⟨p1, q1, r1⟩, ⟨p2, q2, r2⟩, ⟨p3, q3, r3⟩, h4⟩ := four_store w2 P 101 _ 1 2 3 4 (.int .i64 uk) (.int .i64 un) (.int .i64 ud) (.string ⟨ux.toArray⟩) hP (by simp [vc]) (by simp [vc]) (by simp [vc]) (by simp [vc])
  have HC := Lib.hid (hC2.rest (u := ⟨uk, un, ud, ux⟩) hP h4)
  have HG := Lib.hid (grownBy_trans hG2 h4.grown)
  clear hb2 hC2 hG2 hP h4
  go_wp2_with fail
  go_ret
  exact ⟨rfl, HG.out, HC.out⟩
set_option maxRecDepth 100000 in
set_option maxHeartbeats 1000000 in
theorem take_no {w0 w : World} {P : Nat} {T : TypeId} {rest : List Value} {l : List Tok} (k : Int) (fv : Value) (h : Cur w0 w P T rest l) (hk : takeP k l = none) :
    Calls Tryz.prog 97 #[.pointer (some ⟨P, 0, none⟩), .int .i64 k, fv] w fun e w' => e = .returned (.bool false) ∧ Below w.heap.size w w' := by
  have TK2 : Hid (Calls Tryz.prog 96 #[.pointer (some ⟨P, 0, none⟩), .int .i64 k] w fun e w' => e = .returned (.tuple #[.agg #[.int .i64 0, .string ⟨#[]⟩, .int .i64 0], .bool false]) ∧ Below w.heap.size w w') := Lib.hid (Take_no k h hk)
  clear h hk
  go_enter Tryz.func97, Tryz.ntmps97
  go_wp2_with fail
  refine TK2.out.mono ?_
  rintro e w1 ⟨rfl, hb1⟩
  have HB1 := Lib.hid hb1
  clear hb1
  go_wp2_with fail
  go_ret
  exact ⟨rfl, HB1.out.alloc HB1.out.size _⟩

set_option maxRecDepth 100000 in
set_option maxHeartbeats 1000000 in
theorem takeOver_no {w0 w : World} {P : Nat} {T : TypeId} {rest : List Value} {l : List Tok} (h : Cur w0 w P T rest l) (hk : overP l = none) :
    Calls Tryz.prog 99 #[.pointer (some ⟨P, 0, none⟩)] w fun e w' => e = .returned (.tuple #[]) ∧ Below w.heap.size w w' := by
  have TK2 : Hid (Calls Tryz.prog 110 #[.pointer (some ⟨P, 0, none⟩)] w fun e w' => e = .returned (.tuple #[.agg #[.int .i64 0, .string ⟨#[]⟩, .int .i64 0], .bool false]) ∧ Below w.heap.size w w') := Lib.hid (Over_no h hk)
  clear h hk
  go_enter Tryz.func99, Tryz.ntmps99
  go_wp2_with fail
  refine TK2.out.mono ?_
  rintro e w1 ⟨rfl, hb1⟩
  have HB1 := Lib.hid hb1
  clear hb1
  go_wp2_with fail
  go_end0
  exact ⟨rfl, HB1.out.alloc HB1.out.size _⟩
set_option maxRecDepth 100000 in
set_option maxHeartbeats 1000000 in
theorem takeOver_yes {w0 w : World} {P : Nat} {v : Val} {l r : List Tok} {t : Tok} (h : Cur w0 w P 101 (vc v) l) (ho : overP l = some (t, r)) :
    Calls Tryz.prog 99 #[.pointer (some ⟨P, 0, none⟩)] w fun e w' => e = .returned (.tuple #[]) ∧ w.grownBy w' (some P) ∧ Cur w0 w' P 101 (vc ⟨5, v.n, t.n, v.name⟩) r := by
  have TK := Over_yes h ho
  obtain ⟨k, x, n⟩ := t
  have TK2 : Hid (Calls Tryz.prog 110 #[.pointer (some ⟨P, 0, none⟩)] w fun e w' => e = .returned (.tuple #[.agg #[.int .i64 k, .string ⟨x.toArray⟩, .int .i64 n], .bool true]) ∧ w.grownBy w' (some P) ∧ Cur w0 w' P 101 (vc v) r) := Lib.hid TK
  clear TK h ho
  go_enter Tryz.func99, Tryz.ntmps99
  go_wp2_with fail
  refine TK2.out.mono ?_
  rintro e w1 ⟨rfl, hg1, hc1⟩
  have HG1 := Lib.hid hg1
  have HC1 := Lib.hid hc1
  obtain ⟨a, c, hP, hc2, hc3, hT⟩ := hc1.ex
  have hlt := blk_lt9 hP
  have f1 : w1.cell? ⟨P, 1, none⟩ = some (.int .i64 v.kind) := cell_of hP rfl
  have f2 : w1.frozen? ⟨P, 1, none⟩ = false := unfrozen_of hP
  have f3 : w1.cell? ⟨P, 3, none⟩ = some (.int .i64 v.d) := cell_of hP rfl
  have f4 : w1.frozen? ⟨P, 3, none⟩ = false := unfrozen_of hP
  have HF : Hid (∀ o : Obj, w.grownBy ((((w1.setCell ⟨P, 1, none⟩ (.int .i64 5)).setCell ⟨P, 3, none⟩ (.int .i64 n)).alloc o).drew) (some P) ∧ Cur w0 ((((w1.setCell ⟨P, 1, none⟩ (.int .i64 5)).setCell ⟨P, 3, none⟩ (.int .i64 n)).alloc o).drew) P 101 (vc ⟨5, v.n, n, v.name⟩) r) := by
    intro o
    have g1 := setCell_here (k := 1) (.int .i64 5) hP
    have g2 := setCell_here (k := 3) (.int .i64 n) g1
    have hgs : w1.grownBy ((((w1.setCell ⟨P, 1, none⟩ (.int .i64 5)).setCell ⟨P, 3, none⟩ (.int .i64 n)).alloc o).drew) (some P) :=
      grownBy_trans (grownBy_trans (grownBy_set _ _ _ _) (grownBy_set _ _ _ _)) (grownBy_below _ ((below_one9 _ _).drew))
    have hlt2 : P < ((w1.setCell ⟨P, 1, none⟩ (.int .i64 5)).setCell ⟨P, 3, none⟩ (.int .i64 n)).heap.size := by rw [setCell_size, setCell_size]; exact hlt
    refine ⟨grownBy_trans HG1.out hgs, ⟨a, c, ?_, hc2, hc3, hT⟩, hc1.base, hc1.bel.grown hgs hc1.bel.size (fun k hk => by injection hk with hk; have := hc1.base; omega)⟩
    show (((w1.setCell ⟨P, 1, none⟩ (.int .i64 5)).setCell ⟨P, 3, none⟩ (.int .i64 n)).alloc o).heap[P]? = _
    rw [Below.heap_alloc _ _ _ hlt2, g2]; rfl
  clear hg1 hc1 hP hT hc2 hc3
  go_wp2_with fail
  go_region
  all_goals
    go_wp2_with fail
    go_end0
    exact ⟨rfl, HF.out _⟩
end Go.Proofs.YtbodmfbpmeapoaaGreat
