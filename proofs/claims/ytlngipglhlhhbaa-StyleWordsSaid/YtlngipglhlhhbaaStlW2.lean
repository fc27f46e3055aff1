/- Layer 17: places of words, sizes; a maker in memory. -/
import Derived.Test.YtlngipglhlhhbaaStlW1
import Derived.Test.YtlngipglhlhhbaaPropTkb
import Derived.Deep.RegionWith
import Derived.Deep.RegionHeld3
namespace Go.Proofs.Ytlngipglhlhhbaa
open Go.RowKit TreN LexP FixP SynP ValP PropP FixM
set_option linter.unusedVariables false

/-- a maker: a style, and the bases -/
structure Mk (W : World) (b : Nat) (c : Nat → Value) (x y : Int) : Prop where
  at_ : ∀ i, i < 55 → W.cell? ⟨b, i, none⟩ = some (c i) ∧ W.frozen? ⟨b, i, none⟩ = false
  x : W.cell? ⟨b, 55, none⟩ = some (.int .i64 x)
  y : W.cell? ⟨b, 56, none⟩ = some (.int .i64 y)
theorem Mk.lt {W : World} {b : Nat} {c : Nat → Value} {x y : Int} (h : Mk W b c x y) : b < W.heap.size := World.block_lt_of_cell? W _ h.x
theorem Mk.below {W W' : World} {b : Nat} {c : Nat → Value} {x y : Int} (h : Mk W b c x y) (hb : Below W.heap.size W W') : Mk W' b c x y :=
  ⟨fun i hi => ⟨(hb.cell (p := ⟨b, i, none⟩) h.lt).trans (h.at_ i hi).1, (hb.frozen (p := ⟨b, i, none⟩) h.lt).trans (h.at_ i hi).2⟩, (hb.cell (p := ⟨b, 55, none⟩) h.lt).trans h.x, (hb.cell (p := ⟨b, 56, none⟩) h.lt).trans h.y⟩
theorem Mk.mb {W : World} {b : Nat} {c : Nat → Value} {x y em : Int} (h : Mk W b c x y) (he : c 53 = .int .i64 em) : Mb W b em x y := ⟨by rw [(h.at_ 53 (by decide)).1, he], h.x, h.y⟩
theorem Mk.ext {W : World} {b : Nat} {c d : Nat → Value} {x y : Int} (h : Mk W b c x y) (e : ∀ i, i < 55 → c i = d i) : Mk W b d x y := ⟨fun i hi => by rw [← e i hi]; exact h.at_ i hi, h.x, h.y⟩
theorem Mk.set {W : World} {b : Nat} {c : Nat → Value} {x y : Int} (h : Mk W b c x y) (j : Nat) (hj : j < 55) (u : Value) : Mk (W.setCell ⟨b, j, none⟩ u) b (fun i => if i = j then u else c i) x y := by
  refine ⟨fun i hi => ⟨?_, by rw [World.frozen?_setCell]; exact (h.at_ i hi).2⟩, ?_, ?_⟩
  · by_cases e : i = j
    · subst e; rw [World.cell?_setCell_same (h := (h.at_ i hi).1), if_pos rfl]
    · rw [World.cell?_setCell_other (h := by intro q; injection q; omega), if_neg e]
      exact (h.at_ i hi).1
  · rw [World.cell?_setCell_other (h := by intro q; injection q; omega)]; exact h.x
  · rw [World.cell?_setCell_other (h := by intro q; injection q; omega)]; exact h.y
theorem Mk.put1 {W : World} {b : Nat} {c : Nat → Value} {x y em : Int} (h : Mk W b c x y) (p : Nat) (hp : 1 ≤ p ∧ p ≤ 37 ∧ p ≠ 36) (ht : twoB p = false) (v : Val) (u : Value) (hu : outC p v em x y 0 = u) :
    Mk (W.setCell ⟨b, basC p, none⟩ u) b (putF c p v em x y) x y := by
  have hb := bas_lt ⟨p, by omega⟩ hp.1
  simp only at hb
  have hbl : basC p < 55 := Nat.lt_of_le_of_lt (Nat.le_add_right _ _) hb.1
  refine (h.set (basC p) hbl u).ext (fun i hi => ?_)
  have hi2 := pof_inv ⟨i, hi⟩
  simp only at hi2
  unfold putF
  by_cases e : i = basC p
  · subst e; rw [if_pos rfl, if_pos ⟨hb.2.1, hp.2.2⟩, Nat.sub_self, hu]
  · rw [if_neg e, if_neg]
    rintro ⟨e2, _⟩
    rw [e2, ht] at hi2
    rcases hi2 with h1 | ⟨_, h1⟩
    · exact e h1
    · cases h1
theorem Mk.put2 {W : World} {b : Nat} {c : Nat → Value} {x y em : Int} (h : Mk W b c x y) (p : Nat) (hp : 1 ≤ p ∧ p ≤ 37 ∧ p ≠ 36) (ht : twoB p = true) (v : Val) (u0 u1 : Value) (hu0 : outC p v em x y 0 = u0) (hu1 : outC p v em x y 1 = u1) :
    Mk ((W.setCell ⟨b, basC p, none⟩ u0).setCell ⟨b, basC p + 1, none⟩ u1) b (putF c p v em x y) x y := by
  have hb := bas_lt ⟨p, by omega⟩ hp.1
  simp only [ht, if_true] at hb
  refine ((h.set (basC p) (by omega) u0).set (basC p + 1) (by omega) u1).ext (fun i hi => ?_)
  have hi2 := pof_inv ⟨i, hi⟩
  simp only at hi2
  unfold putF
  by_cases e : i = basC p + 1
  · subst e; rw [if_pos rfl, if_pos ⟨hb.2.2 trivial, hp.2.2⟩, Nat.add_sub_cancel_left, hu1]
  · rw [if_neg e]
    by_cases e0 : i = basC p
    · subst e0; rw [if_pos rfl, if_pos ⟨hb.2.1, hp.2.2⟩, Nat.sub_self, hu0]
    · rw [if_neg e0, if_neg]
      rintro ⟨e2, _⟩
      rw [e2] at hi2
      rcases hi2 with h1 | ⟨h1, _⟩
      · exact e0 h1
      · exact e h1

theorem pWords_tx (p : Nat) (hp : p = 1 ∨ p = 2 ∨ p = 3 ∨ p = 4 ∨ p = 5 ∨ p = 6 ∨ p = 7 ∨ p = 8 ∨ p = 9 ∨ p = 10 ∨ p = 11 ∨ p = 12 ∨ p = 21 ∨ p = 22 ∨ p = 23 ∨ p = 26 ∨ p = 28 ∨ p = 29 ∨ p = 30 ∨ p = 31 ∨ p = 32 ∨ p = 33 ∨ p = 34 ∨ p = 35 ∨ p = 37) (w : World) : Calls Try.prog 41 #[.int .i64 (p : Int)] w fun e w' => ∃ bk, e = .returned (.slice (some ⟨bk, 0, none⟩) (wrdsP p).length (wrdsP p).length) ∧ bk < w'.heap.size ∧ TxAt w' bk (wrdsP p) ∧ Below w.heap.size w w' := by
  refine (pWords_yes p hp w).mono ?_
  rintro e w' ⟨rfl, rfl⟩
  exact ⟨_, rfl, by simp, TxAt.made w (wrdsP p), (Below.refl _ _).alloc (Nat.le_refl _) _⟩
theorem keepY {W w2 : World} {p : Addr} {v : Value} (hb : Below W.heap.size W w2) (h : W.cell? p = some v) : w2.cell? p = some v :=
  (hb.cell (World.block_lt_of_cell? W _ h)).trans h
theorem drewY {W : World} {p : Addr} {v : Value} (h : W.cell? p = some v) : W.drew.cell? p = some v := h

set_option maxRecDepth 100000 in
set_option maxHeartbeats 4000000 in
theorem place17_any (p : Nat) (hp : p = 1 ∨ p = 22 ∨ p = 23 ∨ p = 28 ∨ p = 29 ∨ p = 30 ∨ p = 31 ∨ p = 34) (v : Val) (w : World) : Calls Try.prog 26 #[.int .i64 (p : Int), vlV v] w fun e w' => e = .returned (.int .i64 (placeS p v)) ∧ Below w.heap.size w w' := by
  have CW := Lib.hid (fun W => pWords_tx p (by omega) W)
  have CS := Lib.hid (fun W => wordS_any v W)
  have hl : (wrdsP p).length ≤ 10000 := by rcases hp with rfl | rfl | rfl | rfl | rfl | rfl | rfl | rfl <;> decide
  unfold placeS
  obtain ⟨L, hL⟩ : ∃ L, wrdsP p = L := ⟨_, rfl⟩
  rw [hL] at CW hl ⊢
  obtain ⟨s, hs⟩ : ∃ s, wordS v = s := ⟨_, rfl⟩
  rw [hs] at CS ⊢
  obtain ⟨r, hr⟩ : ∃ r, ((plc L s 1 : Nat) : Int) - 1 = r := ⟨_, rfl⟩
  have CI := Lib.hid (fun b W (hT : TxAt W b L) => (by have := Index_any b L L.length L.length s W rfl hl hT; rw [hr] at this; exact this : Calls Try.prog 40 #[.slice (some ⟨b, 0, none⟩) L.length L.length, .string ⟨s.toArray⟩] W fun e w' => e = .returned (.int .i64 r) ∧ w' = W))
  rw [hr]
  have HB := Lib.hid (below_one7h w (.cells (vlB v) 34))
  have hx0 := heap_alloc_new w (.cells (vlB v) 34)
  unfold vlV vlB at *
  obtain ⟨k, n, d, nm⟩ := v
  simp only at HB CS hx0 ⊢
  generalize hW : w.alloc (.cells #[.int .i64 k, .int .i64 n, .int .i64 d, .string ⟨nm.toArray⟩] 34) = W at *
  have d0 : W.cell? ⟨w.heap.size, 0, none⟩ = some (.int .i64 k) := cell_of hx0 rfl
  have d1 : W.cell? ⟨w.heap.size, 1, none⟩ = some (.int .i64 n) := cell_of hx0 rfl
  have d2 : W.cell? ⟨w.heap.size, 2, none⟩ = some (.int .i64 d) := cell_of hx0 rfl
  have d3 : W.cell? ⟨w.heap.size, 3, none⟩ = some (.string ⟨nm.toArray⟩) := cell_of hx0 rfl
  have b0 : Below w.heap.size w W.drew := HB.out.drew
  clear hx0 hr hs hL hl
  go_enter Try.func26, Try.ntmps26
  go_wp2_with fail
  go_region_held3 (fun w' => w'.cell? ⟨w.heap.size, 0, none⟩ = some (.int .i64 k) ∧ w'.cell? ⟨w.heap.size, 1, none⟩ = some (.int .i64 n) ∧ w'.cell? ⟨w.heap.size, 2, none⟩ = some (.int .i64 d) ∧ w'.cell? ⟨w.heap.size, 3, none⟩ = some (.string ⟨nm.toArray⟩))
    ((refine ⟨?_, ?_, ?_, ?_⟩ <;> first
      | assumption
      | exact drewY (by assumption)))
    ((first
      | (go_at_call 41; refine (CW.out _).mono ?_; rintro e w3 ⟨bk, rfl, hbk, ht, hb3⟩; have e0 := keepY hb3 (drewY d0); have e1 := keepY hb3 (drewY d1); have e2 := keepY hb3 (drewY d2); have e3 := keepY hb3 (drewY d3); have b3 := b0.trans (hb3.mono b0.size); clear hb3)
      | (go_at_call 21; refine (CS.out _).mono ?_; rintro e w4 ⟨rfl, hb4⟩; have f0 := keepY hb4 e0; have f1 := keepY hb4 e1; have f2 := keepY hb4 e2; have f3 := keepY hb4 e3; have ht4 := ht.below hb4 hbk; have b4 := b3.trans (hb4.mono b3.size); clear hb4 ht)
      | (go_at_call 40; refine (CI.out bk _ ht4).mono ?_; rintro e w5 ⟨rfl, rfl⟩)))
  all_goals
    go_wp2_with fail
    go_ret
    exact ⟨rfl, b4⟩
end Go.Proofs.Ytlngipglhlhhbaa
