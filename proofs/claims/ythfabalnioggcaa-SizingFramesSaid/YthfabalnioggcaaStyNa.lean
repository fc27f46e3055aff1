/- Joined texts: StyN1 StyN2 StyN3. -/
import Derived.Test.YthfabalnioggcaaStyR4
import Derived.Test.YthfabalnioggcaaPropRb
namespace Go.Proofs.Ythfabalnioggcaa
open Go.RowKit TreN LexP FixP SynP ValP PropP FixM Go.Sort
set_option linter.unusedVariables false

theorem val_cells17 {W : World} {b : Nat} {k n d : Int} {nm : ByteArray} {T : TypeId} (h : W.heap[b]? = some (.cells #[.int .i64 k, .int .i64 n, .int .i64 d, .string nm] T (0, 0))) :
    W.cell? ⟨b, 0, none⟩ = some (.int .i64 k) ∧ W.cell? ⟨b, 1, none⟩ = some (.int .i64 n) ∧ W.cell? ⟨b, 2, none⟩ = some (.int .i64 d) ∧ W.cell? ⟨b, 3, none⟩ = some (.string nm) ∧ W.frozen? ⟨b, 0, none⟩ = false ∧ W.frozen? ⟨b, 1, none⟩ = false ∧ W.frozen? ⟨b, 2, none⟩ = false ∧ W.frozen? ⟨b, 3, none⟩ = false ∧ b < W.heap.size :=
  ⟨cell_of h rfl, cell_of h rfl, cell_of h rfl, cell_of h rfl, unfrozen_of h, unfrozen_of h, unfrozen_of h, unfrozen_of h, (Array.getElem?_eq_some_iff.1 h).1⟩
theorem has_fin {w W : World} {k n d : Int} {nm : ByteArray} {ok : Bool} {z0 z1 z2 z3 : Value} (hr : W.heap[w.heap.size]? = some (.cells #[z0, z1, z2, z3] 80 (0, 0))) (hb : Below w.heap.size w W) (f : Act) (hf : f.tmps[4]? = some (.pointer (some ⟨w.heap.size, 0, none⟩))) (hf5 : f.tmps[5]? = some (.bool ok)) (hd : f.defers = []) :
    bodyPost Try.prog Try.f69 (fun e w' => e = .returned (.tuple #[.agg #[.int .i64 k, .int .i64 n, .int .i64 d, .string nm], .bool ok]) ∧ Below w.heap.size w w') .ret f ((((W.setCell ⟨w.heap.size, 0, none⟩ (.int .i64 k)).setCell ⟨w.heap.size, 1, none⟩ (.int .i64 n)).setCell ⟨w.heap.size, 2, none⟩ (.int .i64 d)).setCell ⟨w.heap.size, 3, none⟩ (.string nm)) := by
  have h0 := heap_setCell_same _ w.heap.size 0 _ _ (.int .i64 k) hr
  have h1 : ((W.setCell ⟨w.heap.size, 0, none⟩ (.int .i64 k)).setCell ⟨w.heap.size, 1, none⟩ (.int .i64 n)).heap[w.heap.size]? = some (.cells #[.int .i64 k, .int .i64 n, z2, z3] 80 (0, 0)) := heap_setCell_same _ w.heap.size 1 _ _ (.int .i64 n) h0
  have h2 : (((W.setCell ⟨w.heap.size, 0, none⟩ (.int .i64 k)).setCell ⟨w.heap.size, 1, none⟩ (.int .i64 n)).setCell ⟨w.heap.size, 2, none⟩ (.int .i64 d)).heap[w.heap.size]? = some (.cells #[.int .i64 k, .int .i64 n, .int .i64 d, z3] 80 (0, 0)) := heap_setCell_same _ w.heap.size 2 _ _ (.int .i64 d) h1
  have h3 : ((((W.setCell ⟨w.heap.size, 0, none⟩ (.int .i64 k)).setCell ⟨w.heap.size, 1, none⟩ (.int .i64 n)).setCell ⟨w.heap.size, 2, none⟩ (.int .i64 d)).setCell ⟨w.heap.size, 3, none⟩ (.string nm)).heap[w.heap.size]? = some (.cells #[.int .i64 k, .int .i64 n, .int .i64 d, .string nm] 80 (0, 0)) := heap_setCell_same _ w.heap.size 3 _ _ (.string nm) h2
  obtain ⟨y0, y1, y2, y3, _, _, _, _, _⟩ := val_cells17 h3
  have hle : w.heap.size ≤ w.heap.size := Nat.le_refl _
  exact bodyPost_ret (v := .tuple #[.agg #[.int .i64 k, .int .i64 n, .int .i64 d, .string nm], .bool ok]) (by simp [results, Try.results69, go_sem, hf, hf5, y0, y1, y2, y3]) hd ⟨rfl, (((hb.setCell (p := ⟨w.heap.size, 0, none⟩) hle _).setCell (p := ⟨w.heap.size, 1, none⟩) hle _).setCell (p := ⟨w.heap.size, 2, none⟩) hle _).setCell (p := ⟨w.heap.size, 3, none⟩) hle _⟩

/-- what a property has of nothing told -/
def upN (p : Int) : Bool := decide (p = 36 ∨ p = 37)
def hasN (p : Int) : Val := if p = 36 ∨ p = 37 then ⟨0, 0, 0, []⟩ else firstZ p
theorem txt_none (n : Int) : txtS 0 n = [] := by unfold txtS; rw [if_neg (by omega)]
set_option maxRecDepth 100000 in
set_option maxHeartbeats 4000000 in
theorem Has17_nil (p : Int) (w : World) (h1 : 1 ≤ p) (h2 : p ≤ 37) : Calls Try.prog 69 #[.slice none 0 0, .int .i64 p] w fun e w' => e = .returned (.tuple #[.agg #[.int .i64 (hasN p).kind, .int .i64 (hasN p).n, .int .i64 (hasN p).d, .string ⟨(hasN p).name.toArray⟩], .bool (upN p)]) ∧ Below w.heap.size w w' := by
  have CT0 := fun W => Text17_any 0 0 0 [] W
  rw [txt_none] at CT0
  have CT := Lib.hid CT0
  have CF0 := fun W => FirstRP_any p h1 h2 W
  have b1 : Below w.heap.size w (w.alloc (.cells #[.int .i64 0, .int .i64 0, .int .i64 0, .string ⟨#[]⟩] 80)) := (Below.refl _ _).alloc (Nat.le_refl _) _
  have x1 := heap_alloc_new w (.cells #[.int .i64 0, .int .i64 0, .int .i64 0, .string ⟨#[]⟩] 80)
  generalize hW1 : w.alloc (.cells #[.int .i64 0, .int .i64 0, .int .i64 0, .string ⟨#[]⟩] 80) = W1 at *
  have b2 : Below W1.heap.size W1 (W1.alloc (.cells #[.int .i64 0, .int .i64 0, .int .i64 0, .string ⟨#[]⟩] 80)) := (Below.refl _ _).alloc (Nat.le_refl _) _
  have x2 := heap_alloc_new W1 (.cells #[.int .i64 0, .int .i64 0, .int .i64 0, .string ⟨#[]⟩] 80)
  have x1 := (b2.block _ (Array.getElem?_eq_some_iff.1 x1).1).trans x1
  have HW1 := Lib.hid hW1
  generalize hW2 : W1.alloc (.cells #[.int .i64 0, .int .i64 0, .int .i64 0, .string ⟨#[]⟩] 80) = W2 at *
  have HW2 := Lib.hid hW2
  have HX := Lib.hid (And.intro x1 (And.intro x2 (b1.trans (b2.mono b1.size))))
  have hz : (0 : Int) < p := by omega
  clear CT0 b1 b2 hW1 hW2 x1 x2
  by_cases hp : p = 36 ∨ p = 37
  · have HE : Hid (hasN p = ⟨0, 0, 0, []⟩ ∧ upN p = true) := Lib.hid ⟨by unfold hasN; rw [if_pos hp], by unfold upN; rw [decide_eq_true hp]⟩
    rw [HE.out.1, HE.out.2]
    clear CF0
    rcases hp with rfl | rfl
    all_goals
      go_enter Try.func69, Try.ntmps69
      go_upto_region 1 with (fail)
      rw [HW1.out]
      go_upto_region 2 with (fail)
      rw [HW2.out]
      obtain ⟨y0, y1, y2, y3, _, _, _, _, _⟩ := val_cells17 HX.out.2.1
      go_wp2_with fail
      refine (CT.out _).mono ?_
      rintro e w3 ⟨rfl, hb3⟩
      have HX3 := Lib.hid (And.intro ((hb3.block _ (Array.getElem?_eq_some_iff.1 HX.out.1).1).trans HX.out.1) (And.intro ((hb3.block _ (Array.getElem?_eq_some_iff.1 HX.out.2.1).1).trans HX.out.2.1) (HX.out.2.2.trans (hb3.mono HX.out.2.2.size))))
      clear hb3 y0 y1 y2 y3
      obtain ⟨y0, y1, y2, y3, _, _, _, _, _⟩ := val_cells17 HX3.out.2.1
      obtain ⟨z0, z1, z2, z3, f0, f1, f2, f3, l0⟩ := val_cells17 HX3.out.1
      go_wp2_with fail
      exact has_fin HX3.out.1 HX3.out.2.2 _ rfl rfl rfl
  · have HE : Hid (hasN p = firstZ p ∧ upN p = false) := Lib.hid ⟨by unfold hasN; rw [if_neg hp], by unfold upN; rw [decide_eq_false hp]⟩
    rw [HE.out.1, HE.out.2]
    have e1 : (p == 36) = false := by rw [beq_eq_false_iff_ne]; omega
    have e2 : (p == 37) = false := by rw [beq_eq_false_iff_ne]; omega
    unfold retV at CF0
    generalize firstZ p = F at CF0 ⊢
    have CF := Lib.hid CF0
    clear CF0 hp
    go_enter Try.func69, Try.ntmps69
    go_upto_region 1 with (fail)
    rw [HW1.out]
    go_upto_region 2 with (fail)
    rw [HW2.out]
    obtain ⟨y0, y1, y2, y3, _, _, _, _, _⟩ := val_cells17 HX.out.2.1
    go_wp2_with fail
    refine (CT.out _).mono ?_
    rintro e w3 ⟨rfl, hb3⟩
    have HX3 := Lib.hid (And.intro ((hb3.block _ (Array.getElem?_eq_some_iff.1 HX.out.1).1).trans HX.out.1) (And.intro ((hb3.block _ (Array.getElem?_eq_some_iff.1 HX.out.2.1).1).trans HX.out.2.1) (HX.out.2.2.trans (hb3.mono HX.out.2.2.size))))
    clear hb3 y0 y1 y2 y3
    obtain ⟨y0, y1, y2, y3, _, _, _, _, _⟩ := val_cells17 HX3.out.2.1
    go_wp2_with fail
    refine (CF.out _).mono ?_
    rintro e w4 ⟨rfl, hb4⟩
    have HX4 := Lib.hid (And.intro ((hb4.block _ (Array.getElem?_eq_some_iff.1 HX3.out.1).1).trans HX3.out.1) (HX3.out.2.2.trans (hb4.mono HX3.out.2.2.size)))
    clear hb4 y0 y1 y2 y3
    obtain ⟨z0, z1, z2, z3, f0, f1, f2, f3, l0⟩ := val_cells17 HX4.out.1
    go_wp2_with fail
    exact has_fin HX4.out.1 HX4.out.2 _ rfl rfl rfl
end Go.Proofs.Ythfabalnioggcaa

namespace Go.Proofs.Ythfabalnioggcaa
open Go.RowKit TreN LexP FixP SynP ValP PropP FixM Go.Sort
set_option linter.unusedVariables false

theorem has_low {p : Int} (h : p < 36) : hasN p = firstZ p ∧ upN p = false := by
  have hp : ¬ (p = 36 ∨ p = 37) := by omega
  exact ⟨by unfold hasN; rw [if_neg hp], by unfold upN; rw [decide_eq_false hp]⟩
set_option maxRecDepth 100000 in
set_option maxHeartbeats 2000000 in
theorem Words17_nil (p up : Int) (w : World) (h1 : 1 ≤ p) (h2 : p < 36) : Calls Try.prog 68 #[.slice none 0 0, .int .i64 p, .int .i64 up] w fun e w' => e = .returned (.int .i64 (plcS p (firstZ p).kind (firstZ p).n : Nat)) ∧ Below w.heap.size w w' := by
  have C0 := fun W => Has17_nil p W h1 (by omega)
  rw [(has_low h2).1, (has_low h2).2] at C0
  have P0 := fun W => Place17_any p (firstZ p).kind (firstZ p).n (firstZ p).d (firstZ p).name W h1 (by omega)
  generalize plcS p (firstZ p).kind (firstZ p).n = r at P0 ⊢
  generalize firstZ p = F at C0 P0
  have C := Lib.hid C0
  have P := Lib.hid P0
  clear C0 P0
  go_enter Try.func68, Try.ntmps68
  go_wp2_with fail
  refine (C.out _).mono ?_
  rintro e w1 ⟨rfl, hb1⟩
  have HB1 := Lib.hid hb1
  clear hb1
  go_wp2_with fail
  refine (P.out _).mono ?_
  rintro e w2 ⟨rfl, hb2⟩
  have hbx : Below w1.heap.size w1 (w1.alloc (.cells #[.int .i64 F.kind, .int .i64 F.n, .int .i64 F.d, .string ⟨F.name.toArray⟩] 80)) := (Below.refl _ _).alloc (Nat.le_refl _) _
  have HB2 := Lib.hid (HB1.out.trans ((hbx.trans (hb2.mono hbx.size)).mono HB1.out.size))
  clear hb2 hbx
  go_wp2_with fail
  go_ret
  exact ⟨rfl, HB2.out⟩
set_option maxRecDepth 100000 in
set_option maxHeartbeats 2000000 in
theorem Numbers17_nil (p up byy q : Int) (w : World) (h1 : 1 ≤ p) (h2 : p < 36) (hby : 0 < byy) (hby2 : byy ≤ 1000) (hn : 0 ≤ (firstZ p).n) (hn2 : (firstZ p).n ≤ 1000000) (hq : (firstZ p).n / byy = q) : Calls Try.prog 74 #[.slice none 0 0, .int .i64 p, .int .i64 up, .int .i64 byy] w fun e w' => e = .returned (.int .i64 q) ∧ Below w.heap.size w w' := by
  have C0 := fun W => Has17_nil p W h1 (by omega)
  rw [(has_low h2).1, (has_low h2).2] at C0
  generalize firstZ p = F at C0 hn hn2 hq
  have C := Lib.hid C0
  have HQ := Lib.hid hq
  clear C0 hq
  go_enter Try.func74, Try.ntmps74
  go_wp2_with fail
  refine (C.out _).mono ?_
  rintro e w1 ⟨rfl, hb1⟩
  have hbx : Below w1.heap.size w1 (w1.alloc (.cells #[.int .i64 F.kind, .int .i64 F.n, .int .i64 F.d, .string ⟨F.name.toArray⟩] 80)) := (Below.refl _ _).alloc (Nat.le_refl _) _
  have HB2 := Lib.hid (hb1.trans (hbx.mono hb1.size))
  clear hb1 hbx
  go_wp2_with fail
  go_ret
  exact ⟨by rw [← HQ.out]; rfl, HB2.out⟩
theorem sizes_fin {w W : World} {R : Nat} {x y : Int} (hR : w.heap.size ≤ R) (hr : W.heap[R]? = some (.cells #[.int .i64 0, .int .i64 0] 23 (0, 0))) (hb : Below w.heap.size w W) (f : Act) (hf : f.tmps[12]? = some (.pointer (some ⟨R, 0, none⟩))) (hd : f.defers = []) :
    bodyPost Try.prog Try.f71 (fun e w' => e = .returned (.agg #[.int .i64 x, .int .i64 y]) ∧ Below w.heap.size w w') .ret f ((W.setCell ⟨R, 0, none⟩ (.int .i64 x)).setCell ⟨R, 1, none⟩ (.int .i64 y)) := by
  have h1 := heap_setCell_same _ R 0 _ _ (.int .i64 x) hr
  have h2 : ((W.setCell ⟨R, 0, none⟩ (.int .i64 x)).setCell ⟨R, 1, none⟩ (.int .i64 y)).heap[R]? = some (.cells #[.int .i64 x, .int .i64 y] 23 (0, 0)) := heap_setCell_same _ R 1 _ _ (.int .i64 y) h1
  have y0 : ((W.setCell ⟨R, 0, none⟩ (.int .i64 x)).setCell ⟨R, 1, none⟩ (.int .i64 y)).cell? ⟨R, 0, none⟩ = some (.int .i64 x) := cell_of h2 rfl
  have y1 : ((W.setCell ⟨R, 0, none⟩ (.int .i64 x)).setCell ⟨R, 1, none⟩ (.int .i64 y)).cell? ⟨R, 1, none⟩ = some (.int .i64 y) := cell_of h2 rfl
  exact bodyPost_ret (v := .agg #[.int .i64 x, .int .i64 y]) (by simp [results, Try.results71, go_sem, hf, y0, y1]) hd ⟨rfl, (hb.setCell (p := ⟨R, 0, none⟩) hR _).setCell (p := ⟨R, 1, none⟩) hR _⟩
/-- the block that is answered -/
structure Rz (w W : World) (R : Nat) : Prop where
  r : W.heap[R]? = some (.cells #[.int .i64 0, .int .i64 0] 23 (0, 0))
  bel : Below w.heap.size w W
theorem Rz.below {w W W' : World} {R : Nat} (h : Rz w W R) (hb : Below W.heap.size W W') : Rz w W' R :=
  ⟨(hb.block _ (Array.getElem?_eq_some_iff.1 h.r).1).trans h.r, h.bel.trans (hb.mono h.bel.size)⟩
theorem Rz.cells {w W : World} {R : Nat} (h : Rz w W R) : W.cell? ⟨R, 0, none⟩ = some (.int .i64 0) ∧ W.cell? ⟨R, 1, none⟩ = some (.int .i64 0) ∧ W.frozen? ⟨R, 0, none⟩ = false ∧ W.frozen? ⟨R, 1, none⟩ = false ∧ R < W.heap.size :=
  ⟨cell_of h.r rfl, cell_of h.r rfl, unfrozen_of h.r, unfrozen_of h.r, (Array.getElem?_eq_some_iff.1 h.r).1⟩
set_option maxRecDepth 100000 in
set_option maxHeartbeats 4000000 in
theorem Sizes17_nil (p uk un font a b : Int) (w : World) (h1 : 1 ≤ p) (h2 : p < 36) : Calls Try.prog 71 #[.slice none 0 0, .int .i64 p, .agg #[.int .i64 uk, .int .i64 un], .int .i64 font, .int .i64 a, .int .i64 b] w fun e w' => e = .returned (.agg #[.int .i64 (sizK (firstZ p).kind (firstZ p).n), .int .i64 (sizN (firstZ p).kind (firstZ p).n (firstZ p).d (decide (9 ≤ p ∧ p ≤ 12)) font a b)]) ∧ Below w.heap.size w w' := by
  have C0 := fun W => Has17_nil p W h1 (by omega)
  rw [(has_low h2).1, (has_low h2).2] at C0
  have S0 := fun W => Size17_any (firstZ p).kind (firstZ p).n (firstZ p).d (decide (9 ≤ p ∧ p ≤ 12)) font a b (firstZ p).name W
  generalize sizK (firstZ p).kind (firstZ p).n = x at S0 ⊢
  generalize sizN (firstZ p).kind (firstZ p).n (firstZ p).d (decide (9 ≤ p ∧ p ≤ 12)) font a b = y at S0 ⊢
  generalize firstZ p = F at C0 S0
  have C := Lib.hid C0
  have hb0 : Below w.heap.size w (w.alloc (.cells #[.int .i64 uk, .int .i64 un] 23)) := (Below.refl _ _).alloc (Nat.le_refl _) _
  have hs0 : (w.alloc (.cells #[.int .i64 uk, .int .i64 un] 23)).heap.size = w.heap.size + 1 := by simp
  have hb1 : Below w.heap.size w ((w.alloc (.cells #[.int .i64 uk, .int .i64 un] 23)).alloc (.cells #[.int .i64 0, .int .i64 0] 23)) := hb0.alloc (by rw [hs0]; omega) _
  have hx1 := heap_alloc_new (w.alloc (.cells #[.int .i64 uk, .int .i64 un] 23)) (.cells #[.int .i64 0, .int .i64 0] 23)
  rw [hs0] at hx1
  have HZ : Hid (Rz w ((w.alloc (.cells #[.int .i64 uk, .int .i64 un] 23)).alloc (.cells #[.int .i64 0, .int .i64 0] 23)) (w.heap.size + 1)) := Lib.hid ⟨hx1, hb1⟩
  clear C0 hb0 hs0 hb1 hx1
  by_cases h9 : 9 ≤ p
  · rw [show decide (9 ≤ p ∧ p ≤ 12) = decide (p ≤ 12) from by simp [h9]] at S0
    have S := Lib.hid S0
    clear S0
    go_enter Try.func71, Try.ntmps71
    go_wp2_with fail
    refine (C.out _).mono ?_
    rintro e w1 ⟨rfl, hb1⟩
    have hz1 := HZ.out.below hb1
    have hbx : Below w1.heap.size w1 (w1.alloc (.cells #[.int .i64 F.kind, .int .i64 F.n, .int .i64 F.d, .string ⟨F.name.toArray⟩] 80)) := (Below.refl _ _).alloc (Nat.le_refl _) _
    have HZ1 := Lib.hid (hz1.below hbx)
    clear hb1 hz1 hbx
    go_wp2_with fail
    all_goals first | (exfalso; omega) | skip
    all_goals (
      refine (S.out _).mono ?_
      rintro e w2 ⟨rfl, hb2⟩
      have HZ2 := Lib.hid (HZ1.out.below hb2)
      clear hb2
      obtain ⟨r0, r1, e0, e1, l1⟩ := HZ2.out.cells
      go_wp2_with fail
      exact sizes_fin (Nat.le_succ _) HZ2.out.r HZ2.out.bel _ rfl rfl)
  · rw [show decide (9 ≤ p ∧ p ≤ 12) = false from by simp [h9]] at S0
    have S := Lib.hid S0
    clear S0
    go_enter Try.func71, Try.ntmps71
    go_wp2_with fail
    refine (C.out _).mono ?_
    rintro e w1 ⟨rfl, hb1⟩
    have hz1 := HZ.out.below hb1
    have hbx : Below w1.heap.size w1 (w1.alloc (.cells #[.int .i64 F.kind, .int .i64 F.n, .int .i64 F.d, .string ⟨F.name.toArray⟩] 80)) := (Below.refl _ _).alloc (Nat.le_refl _) _
    have HZ1 := Lib.hid (hz1.below hbx)
    clear hb1 hz1 hbx
    go_wp2_with fail
    all_goals first | (exfalso; omega) | skip
    all_goals (
      refine (S.out _).mono ?_
      rintro e w2 ⟨rfl, hb2⟩
      have HZ2 := Lib.hid (HZ1.out.below hb2)
      clear hb2
      obtain ⟨r0, r1, e0, e1, l1⟩ := HZ2.out.cells
      go_wp2_with fail
      exact sizes_fin (Nat.le_succ _) HZ2.out.r HZ2.out.bel _ rfl rfl)
end Go.Proofs.Ythfabalnioggcaa

namespace Go.Proofs.Ythfabalnioggcaa
open Go.RowKit TreN LexP FixP SynP ValP PropP FixM Go.Sort
set_option linter.unusedVariables false

/-- a style of which the font's size and the line's alone are set -/
def upC (font line : Int) : Array Value := #[.int .i64 0, .bool false, .int .i64 0, .int .i64 0, .int .i64 0, .int .i64 0, .int .i64 0, .int .i64 0, .int .i64 0, .int .i64 0, .int .i64 0, .int .i64 0, .int .i64 0, .int .i64 0, .int .i64 0, .int .i64 0, .int .i64 0, .int .i64 0, .int .i64 0, .int .i64 0, .int .i64 0, .int .i64 0, .int .i64 0, .int .i64 0, .int .i64 0, .int .i64 0, .int .i64 0, .int .i64 0, .int .i64 0, .int .i64 0, .int .i64 0, .int .i64 0, .int .i64 0, .int .i64 0, .int .i64 0, .int .i64 0, .int .i64 0, .int .i64 0, .int .i64 0, .int .i64 0, .int .i64 0, .int .i64 0, .int .i64 0, .int .i64 0, .int .i64 0, .int .i64 0, .int .i64 0, .int .i64 0, .int .i64 0, .int .i64 0, .int .i64 0, .int .i64 0, .string ⟨#[]⟩, .int .i64 font, .int .i64 line]
set_option maxRecDepth 100000 in
set_option maxHeartbeats 4000000 in
theorem Font17_nil (font line a b : Int) (w : World) : Calls Try.prog 67 #[.slice none 0 0, .agg (upC font line), .int .i64 a, .int .i64 b] w fun e w' => e = .returned (.int .i64 font) ∧ Below w.heap.size w w' := by
  have C0 := fun W => Has17_nil 36 W (by decide) (by decide)
  rw [show hasN 36 = ⟨0, 0, 0, []⟩ from rfl, show upN 36 = true from rfl] at C0
  have C := Lib.hid C0
  clear C0
  have hx := heap_alloc_new w (.cells (upC font line) 27)
  have hb0 : Below w.heap.size w (w.alloc (.cells (upC font line) 27)) := (Below.refl _ _).alloc (Nat.le_refl _) _
  unfold upC at hx hb0 ⊢
  have HX := Lib.hid hx
  have HB0 := Lib.hid hb0
  clear hx hb0
  go_enter Try.func67, Try.ntmps67
  go_wp2_with fail
  refine (C.out _).mono ?_
  rintro e w1 ⟨rfl, hb1⟩
  have x1 := (hb1.block _ (Array.getElem?_eq_some_iff.1 HX.out).1).trans HX.out
  have y : w1.cell? ⟨w.heap.size, 53, none⟩ = some (.int .i64 font) := cell_of x1 rfl
  have l : w.heap.size < w1.heap.size := (Array.getElem?_eq_some_iff.1 x1).1
  have HB1 := Lib.hid (HB0.out.trans (hb1.mono HB0.out.size))
  clear hb1 x1
  go_wp2_with fail
  go_ret
  exact ⟨rfl, HB1.out.alloc HB1.out.size _⟩
end Go.Proofs.Ythfabalnioggcaa
