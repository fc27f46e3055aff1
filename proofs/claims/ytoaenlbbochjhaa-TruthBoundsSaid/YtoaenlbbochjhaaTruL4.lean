/- Layer 14, the laws: a query with a Not around it. -/
import Derived.Test.YtoaenlbbochjhaaTruL3
import Derived.Lib.QuietBelow
import Derived.Deep.QuietTactic
namespace Go.Proofs.Ytoaenlbbochjhaa
open Go.RowKit TreN LexP FixP SynP ValP FixM QryP TruP Go.Sort
set_option linter.unusedVariables false

theorem qns_news {W : World} {a : Option Addr} {L : List QN} (h : Qns W a L) : L.length = 0 ∨ ∃ ad, a = some ad ∧ ∀ (j : Nat) (u : Value), (qncs L)[j]? = some u → W.cell? (ad.add j) = some u := by
  rcases h with rfl | ⟨b, o, rfl, _, hc⟩
  · exact Or.inl rfl
  · refine Or.inr ⟨_, rfl, fun j u hj => ?_⟩
    have hjl : j < (qncs L).length := by
      by_cases q : j < (qncs L).length
      · exact q
      · rw [List.getElem?_eq_none (by omega)] at hj; cases hj
    rw [qncs_len] at hjl
    have hi : j / 9 < L.length := by omega
    have e : j = j / 9 * 9 + j % 9 := by omega
    have hr : j % 9 < 9 := Nat.mod_lt _ (by omega)
    rw [e, qncs_get L (j / 9) hi (j % 9) hr] at hj
    rw [Addr.add_lit, show o + j = o + j / 9 * 9 + j % 9 by omega]
    have k := hc (j / 9) hi
    generalize j % 9 = r at *
    generalize j / 9 = i at *
    match r, hr with
    | 0, _ => exact k.c0.trans hj
    | 1, _ => exact k.c1.trans hj
    | 2, _ => exact k.c2.trans hj
    | 3, _ => exact k.c3.trans hj
    | 4, _ => exact k.c4.trans hj
    | 5, _ => exact k.c5.trans hj
    | 6, _ => exact k.c6.trans hj
    | 7, _ => exact k.c7.trans hj
    | 8, _ => exact k.c8.trans hj
/-- nodes that came in put behind nodes -/
theorem app_qns2 (B : Nat) (v : Value) (L : List QN) (n : Nat) (a : Option Addr) (m c : Nat) (M : List QN) (W : World) (hn : L.length = n) (hm : M.length = m) (hb : n ≤ 100) (hb2 : m ≤ 100) (hB : B ≤ W.heap.size) (h : W.ownsRow B 39 9 v n (qncs L)) (h2 : Qns W a M) :
    ∃ v' w', (Builtin.append_ #[27, 27] 27 #[v, .slice a m c]).run Try.prog W = .ok v' w' ∧ w'.ownsRow B 39 9 v' (n + m) (qncs (L ++ M)) ∧ Below B W w' ∧ W.grownBy w' v.ownBlock := by
  obtain ⟨i, hi, hz0, hz1, hz2⟩ := info_parts info_qnode
  obtain ⟨v', w', r1, r2, r3, r4⟩ := app_cellsA 27 39 i _ 9 72 Try.underlying27 hi hz0 hz1 hz2 rfl (by decide) B v n (qncs L) a m c (qncs M) W hB h (by rw [qncs_len, hm]) (by rw [← hm]; exact qns_news h2) (qncs_one M) (by unfold maxLen; omega) (by omega)
  refine ⟨v', w', r1, ?_, r3, r4⟩
  unfold qncs at r2 ⊢
  rw [List.flatMap_append]
  exact r2

theorem e_boxed {W : World} {b : Nat} {t ww hh : Int} {nm : ByteArray} {T : TypeId} (h : W.heap[b]? = some (.cells #[.int .i64 t, .string nm, .int .i64 ww, .int .i64 hh] T (0, 0))) : W.cell? ⟨b, 0, none⟩ = some (.int .i64 t) ∧ W.cell? ⟨b, 1, none⟩ = some (.string nm) ∧ W.cell? ⟨b, 2, none⟩ = some (.int .i64 ww) ∧ W.cell? ⟨b, 3, none⟩ = some (.int .i64 hh) := ⟨cell_of h rfl, cell_of h rfl, cell_of h rfl, cell_of h rfl⟩
/-- the two boxes -/
structure Bx2 (w W : World) (b : Nat) (x : ByteArray) (a : Option Addr) (n c : Nat) (t : Int) (nm : ByteArray) (ww hh : Int) : Prop where
  q : W.heap[w.heap.size]? = some (.cells #[.string x, .slice a n c] 29 (0, 0))
  e : W.heap[b]? = some (.cells #[.int .i64 t, .string nm, .int .i64 ww, .int .i64 hh] 31 (0, 0))
  bel : Below w.heap.size w W
theorem Bx2.below {w W W' : World} {b : Nat} {x : ByteArray} {a : Option Addr} {n c : Nat} {t : Int} {nm : ByteArray} {ww hh : Int} (h : Bx2 w W b x a n c t nm ww hh) (hb : Below W.heap.size W W') : Bx2 w W' b x a n c t nm ww hh :=
  ⟨(hb.block _ (blk_ltQ h.q)).trans h.q, (hb.block _ (blk_ltQ h.e)).trans h.e, h.bel.trans (hb.mono h.bel.size)⟩

set_option maxRecDepth 100000 in
set_option maxHeartbeats 8000000 in
theorem TruthTurned_walk (x : List UInt8) (hs : x.length ≤ maxLen) (a : Option Addr) (L : List QN) (n c : Nat) (t : Int) (nm : ByteArray) (ww hh : Int) (w : World) (hn : L.length = n) (hm : n ≤ maxLen) (hQ : Qns w a L) :
    Calls Try.prog 8 #[.agg #[.string ⟨x.toArray⟩, .slice a n c], .agg #[.int .i64 t, .string nm, .int .i64 ww, .int .i64 hh]] w fun e w' => e = .returned (.bool true) ∧ Below w.heap.size w w' := by
  have E := fun W (hW : Below w.heap.size w W) => Eval14_any x hs a L n c t nm ww hh W hn hm (hQ.below hW)
  have R0 := fun W (hW : Below w.heap.size w W) => refRight8_any x hs a L n c W hn hm (hQ.below hW)
  unfold exA at E
  have HK := Lib.hid (fun w => knownT_any w)
  have HQ := Lib.hid hQ
  have HN := Lib.hid hn
  have HS := Lib.hid hs
  unfold maxLen at hm
  have b1 := below_oneQ w (.cells #[.string ⟨x.toArray⟩, .slice a n c] 29)
  have h1 := heap_alloc_new w (.cells #[.string ⟨x.toArray⟩, .slice a n c] 29)
  generalize hW1 : w.alloc (.cells #[.string ⟨x.toArray⟩, .slice a n c] 29) = W1 at *
  have b2 := below_oneQ W1 (.cells #[.int .i64 t, .string nm, .int .i64 ww, .int .i64 hh] 31)
  have h2 := heap_alloc_new W1 (.cells #[.int .i64 t, .string nm, .int .i64 ww, .int .i64 hh] 31)
  have h1 := (b2.block _ (blk_ltQ h1)).trans h1
  generalize hW2 : W1.alloc (.cells #[.int .i64 t, .string nm, .int .i64 ww, .int .i64 hh] 31) = W2 at *
  have hX2 : Bx2 w W2 W1.heap.size ⟨x.toArray⟩ a n c t nm ww hh := ⟨h1, h2, b1.trans (b2.mono b1.size)⟩
  have HX2 := Lib.hid hX2
  obtain ⟨q0, q1⟩ := q_boxed (w := w) h1
  clear b1 b2 h1 h2 hX2 hQ hn hs
  cases hr : rightQ ⟨x.toArray⟩ L with
  | false =>
    rw [hr] at R0
    have HR0 := Lib.hid R0
    clear E R0 hr
    go_enter Try.func8, Try.ntmps8
    go_wp2_with fail
    refine (HR0.out _ HX2.out.bel).mono ?_
    rintro e w3 ⟨rfl, hb3⟩
    have HX3 := Lib.hid (HX2.out.below hb3)
    clear hb3
    go_wp2_with fail
    refine (HK.out _).mono ?_
    rintro e w4 ⟨rfl, hb4⟩
    have HX4 := Lib.hid (HX3.out.below hb4)
    clear hb4
    go_wp2_with fail
    go_ret
    exact ⟨rfl, HX4.out.bel⟩
  | true =>
    rw [hr] at R0
    have HR0 := Lib.hid R0
    have HRR := Lib.hid hr
    clear R0 hr
    by_cases h31 : 31 < n
    · have hz : (31 : Int) < (n : Int) := by omega
      clear E
      go_enter Try.func8, Try.ntmps8
      go_wp2_with fail
      refine (HR0.out _ HX2.out.bel).mono ?_
      rintro e w3 ⟨rfl, hb3⟩
      have HX3 := Lib.hid (HX2.out.below hb3)
      clear hb3 q0 q1
      obtain ⟨q0, q1⟩ := q_boxed (w := w) HX3.out.q
      go_wp2_with fail
      refine (HK.out _).mono ?_
      rintro e w4 ⟨rfl, hb4⟩
      have HX4 := Lib.hid (HX3.out.below hb4)
      clear hb4
      go_wp2_with fail
      go_ret
      exact ⟨rfl, HX4.out.bel⟩
    · have hz : (n : Int) ≤ 31 := by omega
      have hz2 : n ≤ 31 := by omega
      have ht := say_turned ⟨x.toArray⟩ L t ww hh HRR.out (by rw [HN.out]; omega)
      have P := fun g c2 W (hQ2 : Qns W (some ⟨g, 0, none⟩) (⟨3, 1, 0, ⟨0, 0, 0⟩, ⟨0, 0, 0⟩⟩ :: L)) => Eval14_any x HS.out (some ⟨g, 0, none⟩) (⟨3, 1, 0, ⟨0, 0, 0⟩, ⟨0, 0, 0⟩⟩ :: L) (1 + n) c2 t nm ww hh W (by rw [List.length_cons, HN.out]; omega) (by unfold maxLen; omega) hQ2
      unfold exA at P
      rw [ht] at P
      generalize sayQ ⟨x.toArray⟩ L t ww hh = r at E P
      have NT := fun w => not14_any r w
      generalize notT r = nr at P NT
      have HE := Lib.hid E
      have HP := Lib.hid P
      have HNT := Lib.hid NT
      clear E P NT ht h31
      go_enter Try.func8, Try.ntmps8
      go_wp2_with fail
      refine (HR0.out _ HX2.out.bel).mono ?_
      rintro e w3 ⟨rfl, hb3⟩
      have HX3 := Lib.hid (HX2.out.below hb3)
      clear hb3 q0 q1
      obtain ⟨q0, q1⟩ := q_boxed (w := w) HX3.out.q
      go_upto_region 4 with (fail)
      have b4 := below_oneQ w3 (.cells (qnC ⟨3, 1, 0, ⟨0, 0, 0⟩, ⟨0, 0, 0⟩⟩) 39)
      have h4 := heap_alloc_new w3 (.cells (qnC ⟨3, 1, 0, ⟨0, 0, 0⟩, ⟨0, 0, 0⟩⟩) 39)
      generalize hW4 : w3.alloc (.cells (qnC ⟨3, 1, 0, ⟨0, 0, 0⟩, ⟨0, 0, 0⟩⟩) 39) = W4 at *
      have b5 := below_oneQ W4 (.cells #[.string ⟨x.toArray⟩, .slice (some ⟨w3.heap.size, 0, none⟩) 1 1] 29)
      have h5 := heap_alloc_new W4 (.cells #[.string ⟨x.toArray⟩, .slice (some ⟨w3.heap.size, 0, none⟩) 1 1] 29)
      have hs4 : W4.heap.size = w3.heap.size + 1 := by rw [← hW4]; simp
      rw [hs4] at h5
      have h4 := (b5.block _ (blk_ltQ h4)).trans h4
      have hX5 := (HX3.out.below b4).below b5
      have h35 : w3.heap.size < W4.heap.size := by rw [← hW4]; simp
      have h3x : w.heap.size < w3.heap.size := blk_ltQ HX3.out.q
      have h3e : W1.heap.size < w3.heap.size := blk_ltQ HX3.out.e
      generalize hW5 : W4.alloc (.cells #[.string ⟨x.toArray⟩, .slice (some ⟨w3.heap.size, 0, none⟩) 1 1] 29) = W5 at *
      have hrow := row_of_blk (B := w3.heap.size) h4 (Nat.le_refl _)
      obtain ⟨v6, w6, hr6, ho6, hb6, hg6⟩ := app_qns2 w3.heap.size _ [⟨3, 1, 0, ⟨0, 0, 0⟩, ⟨0, 0, 0⟩⟩] 1 a n c L W5 rfl HN.out (by omega) (by omega) (by have := blk_ltQ h4; omega) hrow (HQ.out.below hX5.bel)
      obtain ⟨g, c6, hv6, _, _, hQ6⟩ := qns_of_row ho6 (by rw [List.length_append, HN.out]; rfl) (by omega)
      subst hv6
      have hp6 : w6.heap[w3.heap.size + 1]? = some (.cells #[.string ⟨x.toArray⟩, .slice (some ⟨w3.heap.size, 0, none⟩) 1 1] 29 (0, 0)) := by
        rw [hg6.block _ (blk_ltQ h5) (by intro e; injection e with e; have e : w3.heap.size + 1 = w3.heap.size := e; omega)]; exact h5
      have hX6 : Bx2 w w6 W1.heap.size ⟨x.toArray⟩ a n c t nm ww hh := ⟨(hb6.block _ (by omega)).trans hX5.q, (hb6.block _ (by omega)).trans hX5.e, hX5.bel.trans (hb6.mono (by omega))⟩
      have hgp : g ≠ w3.heap.size + 1 := by
        intro e
        have h := World.ownsRow.lt ho6 g rfl
        rcases ho6.2 with ⟨h0, _⟩ | ⟨g2, c2, cur2, h0, _, hh2, _⟩
        · cases h0
        · injection h0 with h0; injection h0 with h0; injection h0 with h0
          subst h0; subst e
          rw [hp6] at hh2
          injection hh2 with hh2; injection hh2 with _ hh2 _
          cases hh2
      have p0 : W5.cell? ⟨w3.heap.size + 1, 1, none⟩ = some (.slice (some ⟨w3.heap.size, 0, none⟩) 1 1) := cell_of h5 rfl
      have p1 : w6.cell? ⟨w3.heap.size + 1, 1, none⟩ = some (.slice (some ⟨w3.heap.size, 0, none⟩) 1 1) := cell_of hp6 rfl
      have p2 : w6.frozen? ⟨w3.heap.size + 1, 1, none⟩ = false := unfrozen_of hp6
      have q9 : W5.cell? ⟨w.heap.size, 1, none⟩ = some (.slice a n c) := cell_of hX5.q rfl
      have hp7 : (w6.setCell ⟨w3.heap.size + 1, 1, none⟩ (.slice (some ⟨g, 0, none⟩) (1 + n) c6)).heap[w3.heap.size + 1]? = some (.cells #[.string ⟨x.toArray⟩, .slice (some ⟨g, 0, none⟩) (1 + n) c6] 29 (0, 0)) := heap_setCell_same _ _ 1 _ _ _ hp6
      have hX7 : Bx2 w (w6.setCell ⟨w3.heap.size + 1, 1, none⟩ (.slice (some ⟨g, 0, none⟩) (1 + n) c6)) W1.heap.size ⟨x.toArray⟩ a n c t nm ww hh := ⟨by rw [heap_setCell_other _ _ _ _ (by show w.heap.size ≠ w3.heap.size + 1; omega)]; exact hX6.q, by rw [heap_setCell_other _ _ _ _ (by show W1.heap.size ≠ w3.heap.size + 1; omega)]; exact hX6.e, hX6.bel.setCell (p := ⟨w3.heap.size + 1, 1, none⟩) (by show w.heap.size ≤ w3.heap.size + 1; omega) _⟩
      have hQ7 : Qns (w6.setCell ⟨w3.heap.size + 1, 1, none⟩ (.slice (some ⟨g, 0, none⟩) (1 + n) c6)) (some ⟨g, 0, none⟩) (⟨3, 1, 0, ⟨0, 0, 0⟩, ⟨0, 0, 0⟩⟩ :: L) := by
        rcases hQ6 with h | ⟨b, o, e1, e2, e3⟩
        · cases h
        · injection e1 with e1; injection e1 with e1 e1'
          subst e1
          refine Or.inr ⟨g, o, by rw [e1'], by rw [setCell_size]; exact e2, fun i hi => ?_⟩
          have h := e3 i hi
          have k : ∀ j, (w6.setCell ⟨w3.heap.size + 1, 1, none⟩ (.slice (some ⟨g, 0, none⟩) (1 + n) c6)).cell? ⟨g, j, none⟩ = w6.cell? ⟨g, j, none⟩ := fun j => by unfold World.cell?; rw [heap_setCell_other _ _ _ _ hgp]
          exact ⟨(k _).trans h.c0, (k _).trans h.c1, (k _).trans h.c2, (k _).trans h.c3, (k _).trans h.c4, (k _).trans h.c5, (k _).trans h.c6, (k _).trans h.c7, (k _).trans h.c8⟩
      have HR6 := Lib.hid hr6
      have H7 := Lib.hid (And.intro hp7 (And.intro hX7 hQ7))
      clear hs4 b4 h4 b5 h5 hX5 hrow ho6 hb6 hg6 hQ6 hp6 hX6 hgp hp7 hX7 hQ7 hr6 q0 q1 hW4 hW5 h35 h3x h3e
      go_wp2_with (at_builtin; refine wpList_append_runL rfl _ _ 27 rfl _ _ _ _ rfl rfl HR6.out ?_)
      generalize (w6.setCell ⟨w3.heap.size + 1, 1, none⟩ (.slice (some ⟨g, 0, none⟩) (1 + n) c6)) = W7 at *
      clear p0 p1 p2 q9
      obtain ⟨y0, y1⟩ := q_boxed (w := w) H7.out.1
      obtain ⟨q0, q1⟩ := q_boxed (w := w) H7.out.2.1.q
      obtain ⟨e0, e1, e2, e3⟩ := e_boxed H7.out.2.1.e
      have s0 := cell_regrown y0
      have s1 := cell_regrown y1
      have s2 := cell_regrown q0
      have s3 := cell_regrown q1
      have s4 := cell_regrown e0
      have s5 := cell_regrown e1
      have s6 := cell_regrown e2
      have s7 := cell_regrown e3
      have cP := fun (dd : Nat) (os : Array Obj) => Calls.regrown_of (HP.out g c6 (grow (redrawn W7 dd) os) (H7.out.2.2.below (below_regrown W7 dd os)))
      have cE := fun (dd : Nat) (os : Array Obj) => Calls.regrown_of (HE.out (grow (redrawn W7 dd) os) (H7.out.2.1.bel.trans ((below_regrown W7 dd os).mono H7.out.2.1.bel.size)))
      have cN := fun (dd : Nat) (os : Array Obj) => Calls.regrown_of ((HNT.out (grow (redrawn W7 dd) os)).mono fun e w' h => ⟨h.1, by rw [← h.2]; exact Below.refl _ _⟩)
      have cK := fun (dd : Nat) (os : Array Obj) => Calls.regrown_of (HK.out (grow (redrawn W7 dd) os))
      clear y0 y1 q0 q1 e0 e1 e2 e3
      refine wp_region_quiet_below (by kernel_rfl) (by kernel_rfl) ?_
      repeat (quiet_step (first | with_reducible exact cP _ _ | with_reducible exact cE _ _ | with_reducible exact cN _ _ | with_reducible exact cK _ _))
      refine wpQuiet_nil ?_
      intro _ hw'
      obtain ⟨⟨dq, osq⟩, hw''⟩ := hw'
      subst hw''
      go_wp2_with fail
      go_ret
      exact ⟨rfl, H7.out.2.1.bel.trans ((below_regrown W7 dq osq).mono H7.out.2.1.bel.size)⟩
end Go.Proofs.Ytoaenlbbochjhaa
