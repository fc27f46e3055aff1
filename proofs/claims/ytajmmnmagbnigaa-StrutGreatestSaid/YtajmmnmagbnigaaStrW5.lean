/- Layer 19: Put: parts are told to the stacker. -/
import Derived.Test.YtajmmnmagbnigaaStrW4
import Derived.Test.YtajmmnmagbnigaaAppG
namespace Go.Proofs.Ytajmmnmagbnigaa
open Go.RowKit FixM StrP Go.Sort
set_option linter.unusedVariables false

def inc (l : List Int) : List Value := l.map fun x => Value.int .i64 x
theorem inc_length (l : List Int) : (inc l).length = l.length := by simp [inc]
theorem info_intS : (Try.prog.info? 3).map (fun i => (i.zero, i.size, i.bytes)) = some (some (.int .i64 0), 1, 8) := by kernel_rfl
/-- the stacker, and where parts stand so far -/
structure Pk (w0 W : World) (K : Nat) (s : Sk) (xs : List Int) : Prop where
  ex : ∃ nv, W.heap[K]? = some (.cells (skc nv s) 49 (0, 0)) ∧ W.ownsRow (K + 1) 3 1 nv xs.length (inc xs)
  bel : Below w0.heap.size w0 W
  lo : w0.heap.size ≤ K
theorem Pk.below {w0 W W' : World} {K : Nat} {s : Sk} {xs : List Int} (h : Pk w0 W K s xs) (hb : Below W.heap.size W W') : Pk w0 W' K s xs := by
  obtain ⟨nv, h1, h2⟩ := h.ex
  exact ⟨⟨nv, (hb.block _ (blk_ltS h1)).trans h1, rowA_below h2 hb⟩, h.bel.trans (hb.mono h.bel.size), h.lo⟩
theorem putI (K : Nat) (v : Value) (xs : List Int) (x : Int) (W : World) (hK : K + 1 ≤ W.heap.size) (hx : xs.length ≤ 200000) (h : W.ownsRow (K + 1) 3 1 v xs.length (inc xs)) :
    ∃ g c w', (Builtin.append_ #[38, 38] 38 #[v, .slice (some ⟨W.heap.size, 0, none⟩) 1 1]).run Try.prog (W.alloc (.cells #[.int .i64 x] 3)) = .ok (.slice (some ⟨g, 0, none⟩) (xs.length + 1) c) w' ∧ w'.ownsRow (K + 1) 3 1 (.slice (some ⟨g, 0, none⟩) (xs.length + 1) c) (xs ++ [x]).length (inc (xs ++ [x])) ∧ (W.alloc (.cells #[.int .i64 x] 3)).grownBy w' v.ownBlock := by
  obtain ⟨i, hi, hz0, hz1, hz2⟩ := info_parts info_intS
  obtain ⟨v', w', r1, r2, r3, r4⟩ := app_cellsA 38 3 i _ 1 8 Try.underlying38 hi hz0 hz1 hz2 rfl (by decide) (K + 1) v xs.length (inc xs) (some ⟨W.heap.size, 0, none⟩) 1 1 [.int .i64 x] (W.alloc (.cells #[.int .i64 x] 3)) (by simp; omega) (World.ownsRow.alloc h _) rfl (Or.inr ⟨_, rfl, World.news_of_block (heap_alloc_new W _)⟩) (by intro u hu; simp only [List.mem_singleton] at hu; subst hu; rfl) (by unfold maxLen; omega) (by omega)
  obtain ⟨g, c, hv, _, _⟩ := r2.form (by omega)
  subst hv
  refine ⟨g, c, w', r1, ?_, r4⟩
  rw [List.length_append]
  unfold inc at r2 ⊢
  rw [List.map_append]
  exact r2
/-- one part more -/
theorem Pk.push {w0 w W w5 : World} {K g c : Nat} {nv : Value} {s s' : Sk} {xs : List Int} {x : Int} (h : Pk w0 w K s xs) (hg : w.grownBy W (some K)) (hk : W.heap[K]? = some (.cells (skc nv s') 49 (0, 0))) (ho : W.ownsRow (K + 1) 3 1 nv xs.length (inc xs))
    (h5 : w5.ownsRow (K + 1) 3 1 (.slice (some ⟨g, 0, none⟩) (xs.length + 1) c) (xs ++ [x]).length (inc (xs ++ [x]))) (hg5 : (W.alloc (.cells #[.int .i64 x] 3)).grownBy w5 nv.ownBlock) :
    w5.heap[K]? = some (.cells (skc nv s') 49 (0, 0)) ∧ Pk w0 (w5.setCell ⟨K, 0, none⟩ (.slice (some ⟨g, 0, none⟩) (xs.length + 1) c)) K s' (xs ++ [x]) := by
  have hrow : ∀ q, nv.ownBlock = some q → K + 1 ≤ q ∧ q < W.heap.size := fun q hq => World.ownsRow.lt ho q hq
  have hlt := blk_ltS hk
  have hk5 : w5.heap[K]? = some (.cells (skc nv s') 49 (0, 0)) := by
    rw [hg5.block K (by simp; omega) (fun e => by have := hrow K e.symm; omega), Below.heap_alloc _ _ _ hlt]; exact hk
  have hb1 : Below w0.heap.size w0 W := h.bel.grown hg h.bel.size (fun q hq => by injection hq with hq; have := h.lo; omega)
  have hb5 : Below w0.heap.size w0 w5 := (hb1.alloc hb1.size _).grown hg5 (by have := hb1.size; simp; omega) (fun q hq => by have := hrow q hq; have := h.lo; omega)
  refine ⟨hk5, ⟨⟨_, heap_setCell_same _ K 0 _ _ _ hk5, ?_⟩, hb5.setCell (p := ⟨K, 0, none⟩) h.lo _, h.lo⟩⟩
  have hgK : K + 1 ≤ g := (World.ownsRow.lt h5 g rfl).1
  refine rowA_grown (P := K) h5 (by omega) (grown_set ⟨rfl, rfl, rfl, Nat.le_refl _, fun _ _ _ => rfl⟩ 0 _)

set_option maxRecDepth 100000 in
set_option maxHeartbeats 4000000 in
theorem told_any (w0 : World) (K : Nat) (s : Sk) (xs : List Int) (p : Pt) (w : World) (h : Pk w0 w K s xs) (hl : xs.length ≤ 100000) : Calls Try.prog 22 #[.agg (ptc p), .pointer (some ⟨K, 0, none⟩)] w fun e w' => e = .returned (.tuple #[]) ∧ Pk w0 w' K (nxt s p) (xs ++ [atP s p]) := by
  obtain ⟨n1, hn1⟩ : ∃ x, nxt s p = x := ⟨_, rfl⟩
  obtain ⟨a1, ha1⟩ : ∃ x, atP s p = x := ⟨_, rfl⟩
  have CS : ∀ nv W, W.heap[K]? = some (.cells (skc nv s) 49 (0, 0)) → Calls Try.prog 23 #[.pointer (some ⟨K, 0, none⟩), .agg (ptc p)] W (Stacked W K nv n1 a1) := fun nv W h => by rw [← hn1, ← ha1]; exact stack_any K nv s p W h
  rw [hn1, ha1]
  unfold ptc at CS ⊢
  have hA : Pk w0 (w.alloc (.cells #[.int .i64 p.tu, .int .i64 p.td, .int .i64 p.bu, .int .i64 p.bd, .int .i64 p.h, .bool p.thr] 37)) K s xs := h.below ((Below.refl _ _).alloc (Nat.le_refl _) _)
  have hx := heap_alloc_new w (.cells #[.int .i64 p.tu, .int .i64 p.td, .int .i64 p.bu, .int .i64 p.bd, .int .i64 p.h, .bool p.thr] 37)
  generalize hW : w.alloc (.cells #[.int .i64 p.tu, .int .i64 p.td, .int .i64 p.bu, .int .i64 p.bd, .int .i64 p.h, .bool p.thr] 37) = W at hA hx
  have HA := Lib.hid (hA.below (Below.drew (Below.refl W.heap.size W)))
  obtain ⟨nv, hk, ho⟩ := hA.ex
  have HCS := Lib.hid (CS nv W.drew hk)
  have HO := Lib.hid (World.ownsRow.drew ho)
  have c0 : W.drew.cell? ⟨K, 0, none⟩ = some nv := cell_ofS (w := W) hk rfl
  have p0 : W.drew.cell? ⟨w.heap.size, 0, none⟩ = some (.int .i64 p.tu) := cell_ofS (w := W) hx rfl
  have p1 : W.drew.cell? ⟨w.heap.size, 1, none⟩ = some (.int .i64 p.td) := cell_ofS (w := W) hx rfl
  have p2 : W.drew.cell? ⟨w.heap.size, 2, none⟩ = some (.int .i64 p.bu) := cell_ofS (w := W) hx rfl
  have p3 : W.drew.cell? ⟨w.heap.size, 3, none⟩ = some (.int .i64 p.bd) := cell_ofS (w := W) hx rfl
  have p4 : W.drew.cell? ⟨w.heap.size, 4, none⟩ = some (.int .i64 p.h) := cell_ofS (w := W) hx rfl
  have p5 : W.drew.cell? ⟨w.heap.size, 5, none⟩ = some (.bool p.thr) := cell_ofS (w := W) hx rfl
  have lk := blk_ltS hk
  have ln := blk_ltS hx
  clear hn1 ha1 CS h hA hx hk ho
  go_enter Try.func22, Try.ntmps22
  go_wp2_with fail
  go_region_law ((first
    | (go_simp; go_at_call 23; refine HCS.out.mono ?_; rintro e w4 ⟨rfl, hg4, hk4⟩; have c0' : w4.cell? ⟨K, 0, none⟩ = some nv := cell_ofS hk4 rfl; have ho4 := rowA_grown HO.out (Nat.lt_succ_self K) hg4; have lk4 := blk_ltS hk4; have c0a : ∀ ob, (w4.alloc ob).cell? ⟨K, 0, none⟩ = some nv := (fun ob => (((Below.refl w4.heap.size w4).alloc (Nat.le_refl _) ob).cell (p := ⟨K, 0, none⟩) lk4).trans c0'); obtain ⟨g5, c5, w5, hr5, ho5, hg5⟩ := putI K nv xs a1 w4 (by omega) (by omega) ho4; obtain ⟨hk5, hP5⟩ := HA.out.push hg4 hk4 ho4 ho5 hg5; have q0 : w5.cell? ⟨K, 0, none⟩ = some nv := cell_ofS hk5 rfl; have q1 : w5.frozen? ⟨K, 0, none⟩ = false := frz_ofS hk5; have HP5 := Lib.hid hP5; clear hg4 hk4 ho4 ho5 hg5 hk5 hP5)
    | (refine step_append_runA rfl (.tmp 5) (.tmp 8) 38 rfl _ _ _ _ (by first | (simp [Act.eval]; done) | simp [Act.eval, Act.put]) (by first | (simp [Act.eval]; done) | simp [Act.eval, Act.put]) hr5 ?_)))
  all_goals
    go_end0
    exact ⟨rfl, HP5.out⟩
end Go.Proofs.Ytajmmnmagbnigaa
