/- Layer 14: what a query says of an extent. -/
import Derived.Test.YtjhhpilaaahicaaTruW4
import Derived.Deep.RegionWith
namespace Go.Proofs.Ytjhhpilaaahicaa
open Go.RowKit FixM FixP TreN QryP TruP
set_option linter.unusedVariables false

theorem ext_put {w w1 : World} {B E : Nat} {T : TypeId} {c0 c1 c2 c3 : Value} (hb : Below B w w1) (hE : B ≤ E) (hy : w1.heap[E]? = some (.cells #[c0, c1, c2, c3] T (0, 0))) (u v : Value) :
    Below B w (((w1.setCell ⟨E, 2, none⟩ u).setCell ⟨E, 3, none⟩ v).drew) ∧ (((w1.setCell ⟨E, 2, none⟩ u).setCell ⟨E, 3, none⟩ v).drew).heap[E]? = some (.cells #[c0, c1, u, v] T (0, 0)) ∧ ∀ k, k ≠ E → (((w1.setCell ⟨E, 2, none⟩ u).setCell ⟨E, 3, none⟩ v).drew).heap[k]? = w1.heap[k]? := by
  refine ⟨((hb.setCell (p := ⟨E, 2, none⟩) hE u).setCell (p := ⟨E, 3, none⟩) hE v).drew, ?_, fun k hk => ?_⟩
  · show ((w1.setCell ⟨E, 2, none⟩ u).setCell ⟨E, 3, none⟩ v).heap[E]? = _
    exact heap_setCell_same _ E 3 _ T v (heap_setCell_same _ E 2 _ T u hy)
  · show ((w1.setCell ⟨E, 2, none⟩ u).setCell ⟨E, 3, none⟩ v).heap[k]? = _
    rw [heap_setCell_other _ _ _ _ hk, heap_setCell_other _ _ _ _ hk]
set_option maxRecDepth 100000 in
set_option maxHeartbeats 8000000 in
theorem Eval14_any (x : List UInt8) (hs : x.length ≤ maxLen) (a : Option Addr) (L : List QN) (n c : Nat) (t : Int) (nm : ByteArray) (ww hh : Int) (w : World) (hn : L.length = n) (hm : n ≤ maxLen) (hQ : Qns w a L) :
    Calls Try.prog 25 #[.agg #[.string ⟨x.toArray⟩, .slice a n c], .agg (exA t nm ww hh)] w fun e w' => e = .returned (.int .i64 (sayQ ⟨x.toArray⟩ L t ww hh)) ∧ Below w.heap.size w w' := by
  unfold exA sayQ
  have RQ := fun W (hW : Below w.heap.size w W) => Right8_any x hs a L n c W hn hm (hQ.below hW)
  have hrq : ∃ r, rightQ ⟨x.toArray⟩ L = r := ⟨_, rfl⟩
  obtain ⟨r, hr⟩ := hrq
  rw [hr] at RQ ⊢
  obtain ⟨R, hRv⟩ : ∃ R, (if r = true then evL (ftT t (H ww) (H hh)) L else 2) = R := ⟨_, rfl⟩
  rw [hRv]
  have HRV := Lib.hid hRv
  clear hRv
  have RR := Lib.hid RQ
  have HR := Lib.hid hr
  have HRT : Hid (rightQ ⟨x.toArray⟩ L = true → n ≤ 32 ∧ L.all ndR = true ∧ 0 < n ∧ ∃ j, eat (L.drop 0) 1 = some j) := Lib.hid (fun h => by
    unfold rightQ at h
    rw [Bool.and_eq_true, Bool.and_eq_true, decide_eq_true_eq] at h
    obtain ⟨_, h2, h3, h4, h5⟩ := h
    refine ⟨by omega, h2, by omega, ?_⟩
    unfold spanS at h5
    cases he : eat (L.drop 0) 1 with
    | none => rw [he] at h5; simp only [] at h5; omega
    | some j => exact ⟨j, rfl⟩)
  have HQ := Lib.hid hQ
  have HN := Lib.hid hn
  have HB1 := below_oneT w (.cells #[.string ⟨x.toArray⟩, .slice a n c] 25)
  have hx1 := heap_alloc_new w (.cells #[.string ⟨x.toArray⟩, .slice a n c] 25)
  generalize hW1 : w.alloc (.cells #[.string ⟨x.toArray⟩, .slice a n c] 25) = W1 at *
  have HB2 := below_oneT W1 (.cells #[.int .i64 t, .string nm, .int .i64 ww, .int .i64 hh] 44)
  have hx2 := heap_alloc_new W1 (.cells #[.int .i64 t, .string nm, .int .i64 ww, .int .i64 hh] 44)
  have hx1' := (HB2.block _ (blk_ltQ hx1)).trans hx1
  have HB0 := Lib.hid (HB1.trans (HB2.mono HB1.size))
  have HE0 := Lib.hid (blk_ltQ hx1)
  generalize hW : W1.alloc (.cells #[.int .i64 t, .string nm, .int .i64 ww, .int .i64 hh] 44) = W at *
  have HX0 := Lib.hid hx1'
  have HY0 := Lib.hid hx2
  obtain ⟨q0, q1⟩ := q_cells hx1'
  obtain ⟨e0, e1, e2, e3⟩ := ex_cells hx2
  clear RQ hr hQ hn HB1 HB2 hx1 hx2 hx1'
  go_enter Try.func25, Try.ntmps25
  go_wp2_with fail
  refine (RR.out _ HB0.out).mono ?_
  rintro e w1 ⟨rfl, hb⟩
  have hx := (hb.block _ (blk_ltQ HX0.out)).trans HX0.out
  have hy := (hb.block _ (blk_ltQ HY0.out)).trans HY0.out
  have HB1 := Lib.hid (HB0.out.trans (hb.mono HB0.out.size))
  have HX1 := Lib.hid hx
  have HY1 := Lib.hid hy
  obtain ⟨q0, q1⟩ := q_cells hx
  obtain ⟨e0, e1, e2, e3⟩ := ex_cells hy
  have fr2 : w1.frozen? ⟨W1.heap.size, 2, none⟩ = false := by unfold World.frozen?; rw [hy]; rfl
  have fr3 : w1.frozen? ⟨W1.heap.size, 3, none⟩ = false := by unfold World.frozen?; rw [hy]; rfl
  clear hb hx hy
  cases r
  · have HF : Hid (R = 2) := Lib.hid (by rw [← HRV.out, if_neg (by decide)])
    go_wp2_with fail
    go_ret
    exact ⟨by rw [HF.out]; rfl, HB1.out⟩
  · have HF : Hid (R = evL (ftT t (H ww) (H hh)) L) := Lib.hid (by rw [← HRV.out, if_pos rfl])
    go_wp2_with fail
    go_region_with (go_at_call 47; refine (Hold_any _ _).mono ?_; rintro e wq ⟨rfl, rfl⟩)
    all_goals (have HP := Lib.hid (ext_put HB1.out (Nat.le_of_lt HE0.out) HY1.out (.int .i64 (H ww)) (.int .i64 (H hh))))
    all_goals (generalize ((w1.setCell ⟨W1.heap.size, 2, none⟩ (.int .i64 (H ww))).setCell ⟨W1.heap.size, 3, none⟩ (.int .i64 (H hh))).drew = W5 at *)
    all_goals (have hx5 := (HP.out.2.2 _ (Nat.ne_of_lt HE0.out)).trans HX1.out)
    all_goals (clear q0 q1 e0 e1 e2 e3 fr2 fr3)
    all_goals (obtain ⟨q0, q1⟩ := q_cells hx5; obtain ⟨e0, e1, e2, e3⟩ := ex_cells HP.out.2.1)
    all_goals (clear hx5)
    all_goals go_wp2_with fail
    all_goals refine (says14_any ⟨x.toArray⟩ a L n c t nm (H ww) (H hh) (H_bd ww) (H_bd hh) HN.out (HRT.out HR.out).1 (HRT.out HR.out).2.1 n 0 W5 (by omega) (HRT.out HR.out).2.2.1 (HQ.out.below HP.out.1) (HRT.out HR.out).2.2.2).mono ?_
    all_goals rintro e w6 ⟨rfl, hb⟩
    all_goals (have HZ := Lib.hid (HP.out.1.trans (hb.mono HP.out.1.size)))
    all_goals clear hb
    all_goals go_wp2_with fail
    all_goals go_ret
    all_goals exact ⟨by rw [HF.out]; rfl, HZ.out⟩
end Go.Proofs.Ytjhhpilaaahicaa
