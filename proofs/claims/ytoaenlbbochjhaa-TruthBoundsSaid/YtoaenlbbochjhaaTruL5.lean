/- Layer 14, the laws: two bounds say what each of them says, together. -/
import Derived.Test.YtoaenlbbochjhaaTruL4
import Derived.BigQuiet
namespace Go.Proofs.Ytoaenlbbochjhaa
open Go.RowKit TreN LexP FixP SynP ValP FixM QryP TruP Go.Sort
set_option linter.unusedVariables false

theorem right_lo {c f : Int} {lo hi : Bd} (hr : rightQ ⟨#[]⟩ [⟨4, c, f, lo, hi⟩] = true) (hop : lo.op ≠ 0) : 1 ≤ lo.op ∧ lo.op ≤ 5 := by
  obtain ⟨h1, h2, h3, h4, he⟩ := right_eat hr
  rw [all_one] at h2
  have hlo : thrB lo = true := (thrB_iff lo).2 (fun k => hop k.1)
  unfold ndR at h2
  rw [if_pos rfl] at h2
  unfold ftR at h2
  rw [Bool.and_eq_true] at h2
  obtain ⟨_, h2⟩ := h2
  dsimp only at h2
  cases hhi : thrB hi with
  | false => rw [hhi, if_pos rfl, hlo] at h2; cases h2
  | true =>
    rw [hhi, if_neg (by decide), hlo] at h2
    simp only [Bool.not_true, Bool.false_or, Bool.and_eq_true, decide_eq_true_eq] at h2
    obtain ⟨_, _, hbl, _⟩ := h2
    unfold bdR at hbl; rw [Bool.and_eq_true, decide_eq_true_eq] at hbl; exact hbl.1
theorem qns_blk {W : World} {g : Nat} {x : QN} (h : W.heap[g]? = some (.cells (qnC x) 39 (0, 0))) : Qns W (some ⟨g, 0, none⟩) [x] := by
  obtain ⟨g2, c, hv, _, _, hQ⟩ := qns_of_row (row_of_blk (B := g) h (Nat.le_refl _)) rfl (by omega)
  injection hv with hv
  rw [← hv] at hQ
  exact hQ

/-- the four boxes -/
structure B4 (w W : World) (x y z q : Obj) : Prop where
  b0 : W.heap[w.heap.size]? = some x
  b1 : W.heap[w.heap.size + 1]? = some y
  b2 : W.heap[w.heap.size + 1 + 1]? = some z
  b3 : W.heap[w.heap.size + 1 + 1 + 1]? = some q
  bel : Below w.heap.size w W
theorem B4.below {w W W' : World} {x y z q : Obj} (h : B4 w W x y z q) (hb : Below W.heap.size W W') : B4 w W' x y z q :=
  ⟨(hb.block _ (blk_ltQ h.b0)).trans h.b0, (hb.block _ (blk_ltQ h.b1)).trans h.b1, (hb.block _ (blk_ltQ h.b2)).trans h.b2, (hb.block _ (blk_ltQ h.b3)).trans h.b3, h.bel.trans (hb.mono h.bel.size)⟩
theorem B4.start (w : World) (x y z q : Array Value) (T U V X : TypeId) : B4 w ((((w.alloc (.cells x T)).alloc (.cells y U)).alloc (.cells z V)).alloc (.cells q X)) (.cells x T (0, 0)) (.cells y U (0, 0)) (.cells z V (0, 0)) (.cells q X (0, 0)) := by
  have n0 := heap_alloc_new w (.cells x T)
  have b0 := below_oneQ w (.cells x T)
  have s0 : (w.alloc (.cells x T)).heap.size = w.heap.size + 1 := by simp
  generalize w.alloc (.cells x T) = W0 at *
  have n1 := heap_alloc_new W0 (.cells y U)
  have b1 := below_oneQ W0 (.cells y U)
  have s1 : (W0.alloc (.cells y U)).heap.size = W0.heap.size + 1 := by simp
  generalize W0.alloc (.cells y U) = W1 at *
  have n2 := heap_alloc_new W1 (.cells z V)
  have b2 := below_oneQ W1 (.cells z V)
  have s2 : (W1.alloc (.cells z V)).heap.size = W1.heap.size + 1 := by simp
  generalize W1.alloc (.cells z V) = W2 at *
  have n3 := heap_alloc_new W2 (.cells q X)
  have b3 := below_oneQ W2 (.cells q X)
  generalize W2.alloc (.cells q X) = W3 at *
  rw [s0] at n1 s1
  rw [s1] at n2 s2
  rw [s2] at n3
  refine ⟨?_, ?_, ?_, n3, b0.trans ((b1.trans ((b2.trans (b3.mono (by omega))).mono (by omega))).mono (by omega))⟩
  · rw [b3.block _ (by omega), b2.block _ (by omega), b1.block _ (by omega)]; exact n0
  · rw [b3.block _ (by omega), b2.block _ (by omega)]; exact n1
  · rw [b3.block _ (by omega)]; exact n2
theorem n_boxed {W : World} {b : Nat} {v0 v1 v2 v3 v4 v5 v6 v7 v8 : Int} {T : TypeId} (h : W.heap[b]? = some (.cells #[.int .i64 v0, .int .i64 v1, .int .i64 v2, .int .i64 v3, .int .i64 v4, .int .i64 v5, .int .i64 v6, .int .i64 v7, .int .i64 v8] T (0, 0))) : W.cell? ⟨b, 0, none⟩ = some (.int .i64 v0) ∧ W.cell? ⟨b, 1, none⟩ = some (.int .i64 v1) ∧ W.cell? ⟨b, 2, none⟩ = some (.int .i64 v2) ∧ W.cell? ⟨b, 3, none⟩ = some (.int .i64 v3) ∧ W.cell? ⟨b, 4, none⟩ = some (.int .i64 v4) ∧ W.cell? ⟨b, 5, none⟩ = some (.int .i64 v5) ∧ W.cell? ⟨b, 6, none⟩ = some (.int .i64 v6) ∧ W.cell? ⟨b, 7, none⟩ = some (.int .i64 v7) ∧ W.cell? ⟨b, 8, none⟩ = some (.int .i64 v8) :=
  ⟨cell_of h rfl, cell_of h rfl, cell_of h rfl, cell_of h rfl, cell_of h rfl, cell_of h rfl, cell_of h rfl, cell_of h rfl, cell_of h rfl⟩

/-- two copies more -/
structure Cp2 (w W : World) (p q : Nat) (x y z t u v : Obj) : Prop where
  b : B4 w W x y z t
  c : W.heap[p]? = some u
  d : W.heap[q]? = some v
theorem Cp2.below {w W W' : World} {p q : Nat} {x y z t u v : Obj} (h : Cp2 w W p q x y z t u v) (hb : Below W.heap.size W W') : Cp2 w W' p q x y z t u v := ⟨h.b.below hb, (hb.block _ (blk_ltQ h.c)).trans h.c, (hb.block _ (blk_ltQ h.d)).trans h.d⟩
theorem Cp2.start {w W : World} {x y z t : Obj} (h : B4 w W x y z t) (u v : Array Value) (T : TypeId) : Cp2 w ((W.alloc (.cells u T)).alloc (.cells v T)) W.heap.size (W.heap.size + 1) x y z t (.cells u T (0, 0)) (.cells v T (0, 0)) := by
  have n0 := heap_alloc_new W (.cells u T)
  have b0 := below_oneQ W (.cells u T)
  have s0 : (W.alloc (.cells u T)).heap.size = W.heap.size + 1 := by simp
  generalize W.alloc (.cells u T) = W0 at *
  have n1 := heap_alloc_new W0 (.cells v T)
  have b1 := below_oneQ W0 (.cells v T)
  generalize W0.alloc (.cells v T) = W1 at *
  rw [s0] at n1
  exact ⟨(h.below b0).below b1, by rw [b1.block _ (by omega)]; exact n0, n1⟩
theorem Cp2.swap {w W : World} {p q : Nat} {x y z t u v : Obj} (h : Cp2 w W p q x y z t u v) : Cp2 w W q p x y z t v u := ⟨h.b, h.d, h.c⟩

set_option maxRecDepth 100000 in
set_option maxHeartbeats 8000000 in
theorem TruthBounds_walk (k c f o1 n1 d1 o2 n2 d2 t : Int) (nm : ByteArray) (ww hh : Int) (w : World) :
    Calls Try.prog 7 #[.agg #[.int .i64 k, .int .i64 c, .int .i64 f, .int .i64 o1, .int .i64 n1, .int .i64 d1, .int .i64 o2, .int .i64 n2, .int .i64 d2], .agg #[.int .i64 t, .string nm, .int .i64 ww, .int .i64 hh]] w fun e w' => e = .returned (.bool true) ∧ Below w.heap.size w w' := by
  have R0 := fun g W (hQ : Qns W (some ⟨g, 0, none⟩) [⟨4, c, f, ⟨o1, n1, d1⟩, ⟨o2, n2, d2⟩⟩]) => refRight8_any [] (by decide) (some ⟨g, 0, none⟩) [⟨4, c, f, ⟨o1, n1, d1⟩, ⟨o2, n2, d2⟩⟩] 1 1 W rfl (by decide) hQ
  have HK := Lib.hid (fun w => knownT_any w)
  have hX := B4.start w #[.int .i64 4, .int .i64 c, .int .i64 f, .int .i64 o1, .int .i64 n1, .int .i64 d1, .int .i64 o2, .int .i64 n2, .int .i64 d2] #[.int .i64 t, .string nm, .int .i64 ww, .int .i64 hh] #[.int .i64 4, .int .i64 c, .int .i64 f, .int .i64 o1, .int .i64 n1, .int .i64 d1, .int .i64 o2, .int .i64 n2, .int .i64 d2] #[.string ⟨#[]⟩, .slice (some ⟨w.heap.size + 1 + 1, 0, none⟩) 1 1] 39 31 39 29
  cases hr : rightQ ⟨#[]⟩ [⟨4, c, f, ⟨o1, n1, d1⟩, ⟨o2, n2, d2⟩⟩] with
  | false =>
    have hr2 : rightQ ⟨([] : List UInt8).toArray⟩ [⟨4, c, f, ⟨o1, n1, d1⟩, ⟨o2, n2, d2⟩⟩] = false := hr
    rw [hr2] at R0
    have HR0 := Lib.hid R0
    have HX := Lib.hid hX
    clear R0 hr hr2 hX
    go_enter Try.func7, Try.ntmps7
    go_upto_region 3 with (fail)
    have hX := HX.out
    generalize (((w.alloc (.cells #[.int .i64 4, .int .i64 c, .int .i64 f, .int .i64 o1, .int .i64 n1, .int .i64 d1, .int .i64 o2, .int .i64 n2, .int .i64 d2] 39)).alloc (.cells #[.int .i64 t, .string nm, .int .i64 ww, .int .i64 hh] 31)).alloc (.cells #[.int .i64 4, .int .i64 c, .int .i64 f, .int .i64 o1, .int .i64 n1, .int .i64 d1, .int .i64 o2, .int .i64 n2, .int .i64 d2] 39)).alloc (.cells #[.string ⟨#[]⟩, .slice (some ⟨w.heap.size + 1 + 1, 0, none⟩) 1 1] 29) = W4 at *
    obtain ⟨q0, q1⟩ := q_boxed (w := w) hX.b3
    clear HX
    have HX := Lib.hid hX
    clear hX
    go_wp2_with fail
    refine (HR0.out _ _ (qns_blk HX.out.b2)).mono ?_
    rintro e w5 ⟨rfl, hb5⟩
    have HX5 := Lib.hid (HX.out.below hb5)
    clear hb5 q0 q1
    go_wp2_with fail
    refine (HK.out _).mono ?_
    rintro e w6 ⟨rfl, hb6⟩
    have HX6 := Lib.hid (HX5.out.below hb6)
    clear hb6
    go_wp2_with fail
    go_ret
    exact ⟨rfl, HX6.out.bel⟩
  | true =>
    have hr2 : rightQ ⟨([] : List UInt8).toArray⟩ [⟨4, c, f, ⟨o1, n1, d1⟩, ⟨o2, n2, d2⟩⟩] = true := hr
    rw [hr2] at R0
    have HR0 := Lib.hid R0
    have HRR := Lib.hid hr
    have HX := Lib.hid hX
    clear R0 hr hr2 hX
    by_cases ho : o1 = 0
    · have hz : (o1 == 0) = true := by rw [beq_iff_eq]; exact ho
      clear ho
      go_enter Try.func7, Try.ntmps7
      go_upto_region 3 with (fail)
      have hX := HX.out
      generalize (((w.alloc (.cells #[.int .i64 4, .int .i64 c, .int .i64 f, .int .i64 o1, .int .i64 n1, .int .i64 d1, .int .i64 o2, .int .i64 n2, .int .i64 d2] 39)).alloc (.cells #[.int .i64 t, .string nm, .int .i64 ww, .int .i64 hh] 31)).alloc (.cells #[.int .i64 4, .int .i64 c, .int .i64 f, .int .i64 o1, .int .i64 n1, .int .i64 d1, .int .i64 o2, .int .i64 n2, .int .i64 d2] 39)).alloc (.cells #[.string ⟨#[]⟩, .slice (some ⟨w.heap.size + 1 + 1, 0, none⟩) 1 1] 29) = W4 at *
      obtain ⟨q0, q1⟩ := q_boxed (w := w) hX.b3
      clear HX
      have HX := Lib.hid hX
      clear hX
      go_wp2_with fail
      refine (HR0.out _ _ (qns_blk HX.out.b2)).mono ?_
      rintro e w5 ⟨rfl, hb5⟩
      have HX5 := Lib.hid (HX.out.below hb5)
      clear hb5 q0 q1
      obtain ⟨y0, y1, y2, y3, y4, y5, y6, y7, y8⟩ := n_boxed HX5.out.b0
      go_wp2_with fail
      refine (HK.out _).mono ?_
      rintro e w6 ⟨rfl, hb6⟩
      have HX6 := Lib.hid (HX5.out.below hb6)
      clear hb6
      go_wp2_with fail
      go_ret
      exact ⟨rfl, HX6.out.bel⟩
    · have hz : (o1 == 0) = false := by rw [beq_eq_false_iff_ne]; exact ho
      obtain ⟨ho1, ho5⟩ := right_lo HRR.out ho
      have hsb := say_bounds c f ⟨o1, n1, d1⟩ ⟨o2, n2, d2⟩ t ww hh HRR.out ho
      have EA := fun g W (hQ : Qns W (some ⟨g, 0, none⟩) [⟨4, c, f, ⟨0, 0, 0⟩, ⟨o2, n2, d2⟩⟩]) => Eval14_any [] (by decide) (some ⟨g, 0, none⟩) [⟨4, c, f, ⟨0, 0, 0⟩, ⟨o2, n2, d2⟩⟩] 1 1 t nm ww hh W rfl (by decide) hQ
      have EB := fun g W (hQ : Qns W (some ⟨g, 0, none⟩) [⟨4, c, f, ⟨0, 0, 0⟩, ⟨6 - o1, n1, d1⟩⟩]) => Eval14_any [] (by decide) (some ⟨g, 0, none⟩) [⟨4, c, f, ⟨0, 0, 0⟩, ⟨6 - o1, n1, d1⟩⟩] 1 1 t nm ww hh W rfl (by decide) hQ
      have EC := fun g W (hQ : Qns W (some ⟨g, 0, none⟩) [⟨4, c, f, ⟨o1, n1, d1⟩, ⟨o2, n2, d2⟩⟩]) => Eval14_any [] (by decide) (some ⟨g, 0, none⟩) [⟨4, c, f, ⟨o1, n1, d1⟩, ⟨o2, n2, d2⟩⟩] 1 1 t nm ww hh W rfl (by decide) hQ
      have hsb2 : sayQ ⟨([] : List UInt8).toArray⟩ [⟨4, c, f, ⟨o1, n1, d1⟩, ⟨o2, n2, d2⟩⟩] t ww hh = andT (sayQ ⟨([] : List UInt8).toArray⟩ [⟨4, c, f, ⟨0, 0, 0⟩, ⟨o2, n2, d2⟩⟩] t ww hh) (sayQ ⟨([] : List UInt8).toArray⟩ [⟨4, c, f, ⟨0, 0, 0⟩, ⟨6 - o1, n1, d1⟩⟩] t ww hh) := hsb
      rw [hsb2] at EC
      unfold exA at EA EB EC
      generalize sayQ ⟨([] : List UInt8).toArray⟩ [⟨4, c, f, ⟨0, 0, 0⟩, ⟨o2, n2, d2⟩⟩] t ww hh = ra at EA EC
      generalize sayQ ⟨([] : List UInt8).toArray⟩ [⟨4, c, f, ⟨0, 0, 0⟩, ⟨6 - o1, n1, d1⟩⟩] t ww hh = rb at EB EC
      have AN := fun w => and14_any ra rb w
      generalize andT ra rb = rc at EC AN
      have HEA := Lib.hid EA
      have HEB := Lib.hid EB
      have HEC := Lib.hid EC
      have HAN := Lib.hid AN
      clear EA EB EC AN hsb hsb2 ho
      go_enter Try.func7, Try.ntmps7
      go_upto_region 3 with (fail)
      have hX := HX.out
      generalize (((w.alloc (.cells #[.int .i64 4, .int .i64 c, .int .i64 f, .int .i64 o1, .int .i64 n1, .int .i64 d1, .int .i64 o2, .int .i64 n2, .int .i64 d2] 39)).alloc (.cells #[.int .i64 t, .string nm, .int .i64 ww, .int .i64 hh] 31)).alloc (.cells #[.int .i64 4, .int .i64 c, .int .i64 f, .int .i64 o1, .int .i64 n1, .int .i64 d1, .int .i64 o2, .int .i64 n2, .int .i64 d2] 39)).alloc (.cells #[.string ⟨#[]⟩, .slice (some ⟨w.heap.size + 1 + 1, 0, none⟩) 1 1] 29) = W4 at *
      obtain ⟨q0, q1⟩ := q_boxed (w := w) hX.b3
      clear HX
      have HX := Lib.hid hX
      clear hX
      go_wp2_with fail
      refine (HR0.out _ _ (qns_blk HX.out.b2)).mono ?_
      rintro e w5 ⟨rfl, hb5⟩
      have HX5 := Lib.hid (HX.out.below hb5)
      clear hb5 q0 q1
      obtain ⟨y0, y1, y2, y3, y4, y5, y6, y7, y8⟩ := n_boxed HX5.out.b0
      have l0 := blk_ltQ HX5.out.b0
      go_wp2_with fail
      go_big_region
      · go_upto_region 9 with (fail)
        have hC := ((Cp2.start HX5.out #[.int .i64 4, .int .i64 c, .int .i64 f, .int .i64 0, .int .i64 0, .int .i64 0, .int .i64 o2, .int .i64 n2, .int .i64 d2] #[.int .i64 4, .int .i64 c, .int .i64 f, .int .i64 0, .int .i64 0, .int .i64 0, .int .i64 (6 - o1), .int .i64 n1, .int .i64 d1] 39)).below (Below.drew (Below.refl _ _))
        generalize ((w5.alloc (.cells #[.int .i64 4, .int .i64 c, .int .i64 f, .int .i64 0, .int .i64 0, .int .i64 0, .int .i64 o2, .int .i64 n2, .int .i64 d2] 39)).alloc (.cells #[.int .i64 4, .int .i64 c, .int .i64 f, .int .i64 0, .int .i64 0, .int .i64 0, .int .i64 (6 - o1), .int .i64 n1, .int .i64 d1] 39)).drew = W7 at *
        have HC7 := Lib.hid hC
        clear hC y0 y1 y2 y3 y4 y5 y6 y7 y8 l0
        obtain ⟨y0, y1, y2, y3, y4, y5, y6, y7, y8⟩ := n_boxed HC7.out.c
        obtain ⟨e0, e1, e2, e3⟩ := e_boxed HC7.out.b.b1
        have l1 := blk_ltQ HC7.out.b.b1
        have l2 := blk_ltQ HC7.out.c
        go_wp2_with fail
        refine (HEA.out W7.heap.size _ (qns_blk (heap_alloc_new W7 _))).mono ?_
        rintro e w8 ⟨rfl, hb⟩
        have HC8 := Lib.hid ((HC7.out.below (below_oneQ W7 (.cells #[.int .i64 4, .int .i64 c, .int .i64 f, .int .i64 0, .int .i64 0, .int .i64 0, .int .i64 o2, .int .i64 n2, .int .i64 d2] 39))).below hb)
        clear hb y0 y1 y2 y3 y4 y5 y6 y7 y8 e0 e1 e2 e3 l1 l2
        obtain ⟨y0, y1, y2, y3, y4, y5, y6, y7, y8⟩ := n_boxed HC8.out.d
        obtain ⟨e0, e1, e2, e3⟩ := e_boxed HC8.out.b.b1
        have l1 := blk_ltQ HC8.out.b.b1
        have l2 := blk_ltQ HC8.out.d
        go_wp2_with fail
        refine (HEB.out w8.heap.size _ (qns_blk (heap_alloc_new w8 _))).mono ?_
        rintro e w9 ⟨rfl, hb⟩
        have HC9 := Lib.hid ((HC8.out.below (below_oneQ w8 (.cells #[.int .i64 4, .int .i64 c, .int .i64 f, .int .i64 0, .int .i64 0, .int .i64 0, .int .i64 (6 - o1), .int .i64 n1, .int .i64 d1] 39))).below hb)
        clear hb y0 y1 y2 y3 y4 y5 y6 y7 y8 e0 e1 e2 e3 l1 l2
        obtain ⟨q0, q1⟩ := q_boxed (w := w) HC9.out.b.b3
        obtain ⟨e0, e1, e2, e3⟩ := e_boxed HC9.out.b.b1
        go_wp2_with fail
        refine (HEC.out _ _ (qns_blk HC9.out.b.b2)).mono ?_
        rintro e w10 ⟨rfl, hb⟩
        have HC10 := Lib.hid (HC9.out.below hb)
        clear hb
        go_wp2_with fail
        refine (HAN.out _).mono ?_
        rintro e w' ⟨rfl, rfl⟩
        go_wp2_with fail
        refine (HK.out _).mono ?_
        rintro e w11 ⟨rfl, hb⟩
        have HC11 := Lib.hid (HC10.out.below hb)
        clear hb
        go_wp2_with fail
        go_ret
        exact ⟨rfl, HC11.out.b.bel⟩
      · go_upto_region 9 with (fail)
        have hC := ((Cp2.start HX5.out #[.int .i64 4, .int .i64 c, .int .i64 f, .int .i64 0, .int .i64 0, .int .i64 0, .int .i64 (6 - o1), .int .i64 n1, .int .i64 d1] #[.int .i64 4, .int .i64 c, .int .i64 f, .int .i64 0, .int .i64 0, .int .i64 0, .int .i64 o2, .int .i64 n2, .int .i64 d2] 39).swap).below (Below.drew (Below.refl _ _))
        generalize ((w5.alloc (.cells #[.int .i64 4, .int .i64 c, .int .i64 f, .int .i64 0, .int .i64 0, .int .i64 0, .int .i64 (6 - o1), .int .i64 n1, .int .i64 d1] 39)).alloc (.cells #[.int .i64 4, .int .i64 c, .int .i64 f, .int .i64 0, .int .i64 0, .int .i64 0, .int .i64 o2, .int .i64 n2, .int .i64 d2] 39)).drew = W7 at *
        have HC7 := Lib.hid hC
        clear hC y0 y1 y2 y3 y4 y5 y6 y7 y8 l0
        obtain ⟨y0, y1, y2, y3, y4, y5, y6, y7, y8⟩ := n_boxed HC7.out.c
        obtain ⟨e0, e1, e2, e3⟩ := e_boxed HC7.out.b.b1
        have l1 := blk_ltQ HC7.out.b.b1
        have l2 := blk_ltQ HC7.out.c
        go_wp2_with fail
        refine (HEA.out W7.heap.size _ (qns_blk (heap_alloc_new W7 _))).mono ?_
        rintro e w8 ⟨rfl, hb⟩
        have HC8 := Lib.hid ((HC7.out.below (below_oneQ W7 (.cells #[.int .i64 4, .int .i64 c, .int .i64 f, .int .i64 0, .int .i64 0, .int .i64 0, .int .i64 o2, .int .i64 n2, .int .i64 d2] 39))).below hb)
        clear hb y0 y1 y2 y3 y4 y5 y6 y7 y8 e0 e1 e2 e3 l1 l2
        obtain ⟨y0, y1, y2, y3, y4, y5, y6, y7, y8⟩ := n_boxed HC8.out.d
        obtain ⟨e0, e1, e2, e3⟩ := e_boxed HC8.out.b.b1
        have l1 := blk_ltQ HC8.out.b.b1
        have l2 := blk_ltQ HC8.out.d
        go_wp2_with fail
        refine (HEB.out w8.heap.size _ (qns_blk (heap_alloc_new w8 _))).mono ?_
        rintro e w9 ⟨rfl, hb⟩
        have HC9 := Lib.hid ((HC8.out.below (below_oneQ w8 (.cells #[.int .i64 4, .int .i64 c, .int .i64 f, .int .i64 0, .int .i64 0, .int .i64 0, .int .i64 (6 - o1), .int .i64 n1, .int .i64 d1] 39))).below hb)
        clear hb y0 y1 y2 y3 y4 y5 y6 y7 y8 e0 e1 e2 e3 l1 l2
        obtain ⟨q0, q1⟩ := q_boxed (w := w) HC9.out.b.b3
        obtain ⟨e0, e1, e2, e3⟩ := e_boxed HC9.out.b.b1
        go_wp2_with fail
        refine (HEC.out _ _ (qns_blk HC9.out.b.b2)).mono ?_
        rintro e w10 ⟨rfl, hb⟩
        have HC10 := Lib.hid (HC9.out.below hb)
        clear hb
        go_wp2_with fail
        refine (HAN.out _).mono ?_
        rintro e w' ⟨rfl, rfl⟩
        go_wp2_with fail
        refine (HK.out _).mono ?_
        rintro e w11 ⟨rfl, hb⟩
        have HC11 := Lib.hid (HC10.out.below hb)
        clear hb
        go_wp2_with fail
        go_ret
        exact ⟨rfl, HC11.out.b.bel⟩
end Go.Proofs.Ytoaenlbbochjhaa
