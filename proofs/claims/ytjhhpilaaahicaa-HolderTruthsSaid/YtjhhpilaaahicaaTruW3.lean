/- Layer 14: all that a node has, joined. -/
import Derived.Test.YtjhhpilaaahicaaTruW2
import Derived.Test.YtjhhpilaaahicaaQryW4
namespace Go.Proofs.Ytjhhpilaaahicaa
open Go.RowKit FixM FixP TreN QryP TruP
set_option linter.unusedVariables false

@[reducible] def exA (t : Int) (nm : ByteArray) (ww hh : Int) : Array Value := #[.int .i64 t, .string nm, .int .i64 ww, .int .i64 hh]
set_option maxRecDepth 100000 in
set_option maxHeartbeats 8000000 in
theorem joined14_any (q : Nat) (op : Int → Int → Int) (eq : ∀ args w, (callFunc q args).run Try.prog w = .ok (.enter q args) w)
    (hop : ∀ x y W, Calls Try.prog q #[.int .i64 x, .int .i64 y] W fun e w' => e = .returned (.int .i64 (op x y)) ∧ W = w')
    (s : ByteArray) (a : Option Addr) (L : List QN) (n c i0 cnt m0 : Nat) (x0 : QN) (F : QN → Int) (t : Int) (nm : ByteArray) (ww hh z : Int) (w : World) (hn : L.length = n) (hm : n ≤ 32) (hi : i0 < L.length) (hx0 : L[i0] = x0) (hcn : x0.count = (cnt : Int)) (hQ : Qns w a L)
    (hk : eat (L.drop (i0 + 1)) cnt = some m0)
    (hsay : ∀ (k : Nat) (W : World), i0 < k → k < n → (∃ j, eat (L.drop k) 1 = some j) → Below w.heap.size w W → Calls Try.prog 48 #[.agg #[.string s, .slice a n c], .int .i64 (k : Int), .agg (exA t nm ww hh)] W fun e w' => e = .returned (.int .i64 (evL F (L.drop k))) ∧ Below W.heap.size W w') :
    Calls Try.prog 91 #[.agg #[.string s, .slice a n c], .int .i64 (i0 : Int), .agg (exA t nm ww hh), .int .i64 z, .func (.func q) #[] #[]] w fun e w' => e = .returned (.int .i64 (jnG (evL F) op cnt (L.drop (i0 + 1)) z)) ∧ Below w.heap.size w w' := by
  unfold exA at *
  have HB1 := below_oneT w (.cells #[.string s, .slice a n c] 25)
  have hx1 := heap_alloc_new w (.cells #[.string s, .slice a n c] 25)
  generalize hW1 : w.alloc (.cells #[.string s, .slice a n c] 25) = W1 at *
  have HB2 := below_oneT W1 (.cells #[.int .i64 t, .string nm, .int .i64 ww, .int .i64 hh] 44)
  have hx2 := heap_alloc_new W1 (.cells #[.int .i64 t, .string nm, .int .i64 ww, .int .i64 hh] 44)
  have hx1' := (HB2.block _ (blk_ltQ hx1)).trans hx1
  have HB0 := Lib.hid (HB1.trans (HB2.mono HB1.size))
  generalize hW : W1.alloc (.cells #[.int .i64 t, .string nm, .int .i64 ww, .int .i64 hh] 44) = W at *
  have HX0 := Lib.hid hx1'
  have HY0 := Lib.hid hx2
  obtain ⟨q0, q1⟩ := q_cells hx1'
  obtain ⟨e0, e1, e2, e3⟩ := ex_cells hx2
  obtain ⟨b, o, rfl, hbw, hc⟩ := hQ.get hi
  rw [hx0] at hc
  have hcr := (hc.below HB0.out hbw).c1
  rw [hcn] at hcr
  have hle := eat_le _ _ _ hk
  rw [List.length_drop] at hle
  have hi0z : (0 : Int) ≤ (i0 : Int) := by omega
  have hi1z : (i0 : Int) < (n : Int) := by omega
  have hcb : cnt ≤ 32 := by omega
  have hin : i0 < n := by omega
  have HN := Lib.hid hn
  have HSY := Lib.hid hsay
  have HOP := Lib.hid hop
  have SPN := Lib.hid (fun (k : Nat) W (hk : k < n) (hW : Below w.heap.size w W) => Span8_nat s (some ⟨b, o, none⟩) L n c k W hn (by omega) (by omega) (hQ.below hW))
  obtain ⟨R, hR⟩ : ∃ R, jnG (evL F) op cnt (L.drop (i0 + 1)) z = R := ⟨_, rfl⟩
  have HR := Lib.hid hR
  rw [hR]
  have HK := Lib.hid hk
  clear hx1 hx2 hx1' HB1 HB2 hc hx0 hcn hn hsay hop hR hk hbw
  clear hle hi hQ
  go_enter Try.func91, Try.ntmps91
  go_wp2_with fail
  go_loopw [3, 11, 20] (fun va vk vj wr => ∃ (j k : Nat) (v : Int), va = .int .i64 v ∧ vk = .int .i64 (k : Int) ∧ vj = .int .i64 (j : Int) ∧ j ≤ cnt ∧ k ≤ n ∧ i0 < k ∧ Hid (∃ m', eat (L.drop k) (cnt - j) = some m') ∧ Hid (jnG (evL F) op (cnt - j) (L.drop k) v = R) ∧ Hid (Below w.heap.size w wr) ∧ Hid (wr.heap[w.heap.size]? = some (.cells #[.string s, .slice (some ⟨b, o, none⟩) n c] 25 (0, 0))) ∧ Hid (wr.heap[W1.heap.size]? = some (.cells #[.int .i64 t, .string nm, .int .i64 ww, .int .i64 hh] 44 (0, 0)))) (fun _ _ vj _ => cnt - (intOf vj).toNat)
  case atStart => exact ⟨0, i0 + 1, z, rfl, by go_num, rfl, by omega, by omega, by omega, Lib.hid ⟨m0, HK.out⟩, Lib.hid HR.out, HB0, HX0, HY0⟩
  case round =>
    obtain ⟨j, k, v, rfl, rfl, rfl, hj, hkn, hik, HE, HV, HB, HX, HY⟩ := hrel
    obtain ⟨q0, q1⟩ := q_cells HX.out
    obtain ⟨e0, e1, e2, e3⟩ := ex_cells HY.out
    by_cases hlt : j < cnt
    · have hltz : (j : Int) < (cnt : Int) := by omega
      obtain ⟨r, hr⟩ : ∃ r, cnt - j = r + 1 := ⟨cnt - j - 1, by omega⟩
      obtain ⟨m', hm'⟩ := HE.out
      rw [hr] at hm'
      obtain ⟨k1, h1, h2, h3, h4⟩ := eat_first hm'
      rw [List.length_drop, HN.out] at h3
      have hkl : k < n := by omega
      have hsp : spanS L k = k + k1 := by unfold spanS; rw [h1]
      have C1 := Lib.hid (fun W hW => HSY.out k W hik hkl ⟨k1, h1⟩ hW)
      obtain ⟨y, hy⟩ : ∃ y, evL F (L.drop k) = y := ⟨_, rfl⟩
      have C2 := Lib.hid (fun W hW => SPN.out k W hkl hW)
      obtain ⟨k2, hk2⟩ : ∃ k2, k + k1 = k2 := ⟨_, rfl⟩
      have HV2 : Hid (jnG (evL F) op r (L.drop k2) (op v y) = R) := Lib.hid (by rw [← HV.out, hr, jnG_succ, h1, hy, Option.getD_some, List.drop_drop, hk2])
      have HE2 : Hid (∃ m', eat (L.drop k2) r = some m') := Lib.hid ⟨m' - k1, by rw [← hk2, ← List.drop_drop]; exact h4⟩
      rw [hsp, hk2] at C2
      rw [hy] at C1
      have hk2n : k2 ≤ n := by omega
      have hik2 : i0 < k2 := by omega
      have HRR := Lib.hid hr
      clear h1 h2 h3 h4 hm' hsp hy hk2 hr
      go_wp2_with fail
      refine (C1.out _ HB.out).mono ?_
      rintro e w1 ⟨rfl, hb⟩
      have hx := (hb.block _ (blk_ltQ HX.out)).trans HX.out
      have hyy := (hb.block _ (blk_ltQ HY.out)).trans HY.out
      have HB1 := Lib.hid (HB.out.trans (hb.mono HB.out.size))
      have HX1 := Lib.hid hx
      have HY1 := Lib.hid hyy
      obtain ⟨q0, q1⟩ := q_cells hx
      obtain ⟨e0, e1, e2, e3⟩ := ex_cells hyy
      clear hb hx hyy
      go_wp2_with fail
      refine (HOP.out _ _ _).mono ?_
      rintro e wq ⟨rfl, rfl⟩
      go_wp2_with fail
      refine (C2.out _ HB1.out).mono ?_
      rintro e w2 ⟨rfl, hb⟩
      have hx := (hb.block _ (blk_ltQ HX1.out)).trans HX1.out
      have hyy := (hb.block _ (blk_ltQ HY1.out)).trans HY1.out
      have HB2 := Lib.hid (HB1.out.trans (hb.mono HB1.out.size))
      have HX2 := Lib.hid hx
      have HY2 := Lib.hid hyy
      clear hb hx hyy
      go_wp2_with fail
      go_roundw
      case rel => exact ⟨j + 1, k2, op v y, by rfl, by rfl, by go_num, by omega, hk2n, hik2, Lib.hid (by rw [show cnt - (j + 1) = r by have := HRR.out; omega]; exact HE2.out), Lib.hid (by rw [show cnt - (j + 1) = r by have := HRR.out; omega]; exact HV2.out), HB2, HX2, HY2⟩
      case measure => simp [intOf]; omega
    · have hltz : ¬ (j : Int) < (cnt : Int) := by omega
      have HF : Hid (v = R) := Lib.hid (by
        have h := HV.out
        rw [show cnt - j = 0 by omega] at h; exact h)
      go_wp2_with fail
      go_ret
      exact ⟨ret_intF HF.out, HB.out⟩
end Go.Proofs.Ytjhhpilaaahicaa
