/- Layer 9: the law ValueRights. -/
import Derived.Test.YtppnpdjbmhbimaaValR5
import Derived.Test.YtppnpdjbmhbimaaValK
namespace Go.Proofs.Ytppnpdjbmhbimaa
open Go.RowKit TreN LexP FixP SynP ValP FixM
set_option linter.unusedVariables false

theorem tokV_le (v : Val) : (tokV v).length ≤ 5 := by
  unfold tokV
  split
  · split
    · simp
    · split
      · simp
      · split
        · simp
        · split
          · simp
          · split
            · simp [ratT]
            · simp
  · simp
/-- two calls' tokens -/
def TkCell (B : Nat) (v : Val) (w : World) : Prop := w.heap[B]? = some (.cells #[.int .i64 v.kind, .int .i64 v.n, .int .i64 v.d, .string ⟨v.name.toArray⟩] 30 (0, 0))
set_option maxRecDepth 100000 in
set_option maxHeartbeats 8000000 in
theorem ValueRights_walk (k n d : Int) (nm : List UInt8) (w : World) (hs : nm.length ≤ maxLen) : Calls Try.prog 4 #[.agg #[.int .i64 k, .int .i64 n, .int .i64 d, .string ⟨nm.toArray⟩]] w fun e w' => e = .returned (.bool true) ∧ Below w.heap.size w w' := by
  have KN := Lib.hid known9_any
  have R1 := fun W => Right9_any k n d nm W hs
  have R2 := fun W => refRight9_any k n d nm W hs
  have T1 := fun W => Tokens9_any k n d nm W hs
  have T2 := fun W => refTokens9_any k n d nm W hs
  unfold ToldCap at T1 T2
  have htl := tokV_le ⟨k, n, d, nm⟩
  generalize rightV ⟨k, n, d, nm⟩ = bR at *
  obtain ⟨L, hL⟩ : ∃ L, tokV ⟨k, n, d, nm⟩ = L := ⟨_, rfl⟩
  rw [hL] at T1 T2 htl
  obtain ⟨m, hm⟩ : ∃ m, L.length = m := ⟨_, rfl⟩
  have SM := fun (a a2 : Option Addr) (c c2 : Nat) (W : World) (h1 : Tks W a L) (h2 : Tks W a2 L) => refSame_any a a2 c c2 L L W (by omega) h1 h2
  rw [hm] at T1 T2 SM
  have RR1 := Lib.hid R1
  have RR2 := Lib.hid R2
  have TT1 : Hid (∀ W : World, Calls Try.prog 18 #[.agg #[.int .i64 k, .int .i64 n, .int .i64 d, .string ⟨nm.toArray⟩]] W fun e w' => ∃ a c, e = .returned (.slice a m c) ∧ Hid (Tks w' a L ∧ Below W.heap.size W w')) := Lib.hid fun W => (T1 W).mono fun e w' ⟨a, c, h1, h2, h3, _, _⟩ => ⟨a, c, h1, h2, h3⟩
  have TT2 : Hid (∀ W : World, Calls Try.prog 19 #[.agg #[.int .i64 k, .int .i64 n, .int .i64 d, .string ⟨nm.toArray⟩]] W fun e w' => ∃ a c, e = .returned (.slice a m c) ∧ Hid (Tks w' a L ∧ Below W.heap.size W w')) := Lib.hid fun W => (T2 W).mono fun e w' ⟨a, c, h1, h2, h3, _, _⟩ => ⟨a, c, h1, h2, h3⟩
  have SS : Hid (∀ (a a2 : Option Addr) (c c2 : Nat) (W : World), Tks W a L → Tks W a2 L → Calls Try.prog 17 #[.slice a m c, .slice a2 m c2] W fun e w' => e = .returned (.bool true) ∧ Hid (Below W.heap.size W w')) := Lib.hid fun a a2 c c2 W h1 h2 => (SM a a2 c c2 W h1 h2).mono fun e w' ⟨h3, q, h4⟩ => ⟨by rw [h3, decide_eq_true rfl], by rw [h4]; exact below_drewN2 (Below.refl _ _) q⟩
  have hfx : (w.alloc (.cells #[.int .i64 k, .int .i64 n, .int .i64 d, .string ⟨nm.toArray⟩] 30)).heap[w.heap.size]? = some (.cells #[.int .i64 k, .int .i64 n, .int .i64 d, .string ⟨nm.toArray⟩] 30 (0, 0)) := heap_alloc_new w _
  have HBW := below_one w (.cells #[.int .i64 k, .int .i64 n, .int .i64 d, .string ⟨nm.toArray⟩] 30)
  generalize hW : w.alloc (.cells #[.int .i64 k, .int .i64 n, .int .i64 d, .string ⟨nm.toArray⟩] 30) = W at *
  obtain ⟨Bx, hBx⟩ : ∃ B, w.heap.size = B := ⟨_, rfl⟩
  rw [hBx] at hfx
  have HH := Lib.hid (And.intro hfx HBW)
  have c0 : W.cell? ⟨Bx, 0, none⟩ = some (.int .i64 k) := cell_of hfx rfl
  have c1 : W.cell? ⟨Bx, 1, none⟩ = some (.int .i64 n) := cell_of hfx rfl
  have c2 : W.cell? ⟨Bx, 2, none⟩ = some (.int .i64 d) := cell_of hfx rfl
  have c3 : W.cell? ⟨Bx, 3, none⟩ = some (.string ⟨nm.toArray⟩) := cell_of hfx rfl
  have stp : ∀ (V V' : World), (V.heap[Bx]? = some (.cells #[.int .i64 k, .int .i64 n, .int .i64 d, .string ⟨nm.toArray⟩] 30 (0, 0)) ∧ Below w.heap.size w V) → Below V.heap.size V V' → (V'.heap[Bx]? = some (.cells #[.int .i64 k, .int .i64 n, .int .i64 d, .string ⟨nm.toArray⟩] 30 (0, 0)) ∧ Below w.heap.size w V') := fun V V' h hb => ⟨(hb.block _ (blk_lt9 h.1)).trans h.1, h.2.trans (hb.mono h.2.size)⟩
  have STP := Lib.hid stp
  have HHD : Hid (W.drew.heap[Bx]? = some (.cells #[.int .i64 k, .int .i64 n, .int .i64 d, .string ⟨nm.toArray⟩] 30 (0, 0)) ∧ Below w.heap.size w W.drew) := Lib.hid ⟨hfx, HBW.drew⟩
  clear R1 R2 T1 T2 SM hL hm htl hfx HBW stp
  go_enter Try.func4, Try.ntmps4
  go_wp2_with fail
  go_region_with (first
    | (go_at_call 15; refine (RR1.out _).mono ?_; rintro e w1 ⟨rfl, hb⟩; have H1 := Lib.hid (STP.out _ _ HHD.out hb); have d0 : w1.cell? ⟨Bx, 0, none⟩ = some (.int .i64 k) := cell_of H1.out.1 rfl; have d1 : w1.cell? ⟨Bx, 1, none⟩ = some (.int .i64 n) := cell_of H1.out.1 rfl; have d2 : w1.cell? ⟨Bx, 2, none⟩ = some (.int .i64 d) := cell_of H1.out.1 rfl; have d3 : w1.cell? ⟨Bx, 3, none⟩ = some (.string ⟨nm.toArray⟩) := cell_of H1.out.1 rfl; clear hb)
    | (go_at_call 16; refine (RR2.out _).mono ?_; rintro e w2 ⟨rfl, hb⟩; have H2 := Lib.hid (STP.out _ _ H1.out hb); have d0 : w2.cell? ⟨Bx, 0, none⟩ = some (.int .i64 k) := cell_of H2.out.1 rfl; have d1 : w2.cell? ⟨Bx, 1, none⟩ = some (.int .i64 n) := cell_of H2.out.1 rfl; have d2 : w2.cell? ⟨Bx, 2, none⟩ = some (.int .i64 d) := cell_of H2.out.1 rfl; have d3 : w2.cell? ⟨Bx, 3, none⟩ = some (.string ⟨nm.toArray⟩) := cell_of H2.out.1 rfl; clear hb)
    | (go_at_call 18; refine (TT1.out _).mono ?_; rintro e w3 ⟨a3, k3, rfl, HF3⟩; have H3 := Lib.hid (STP.out _ _ H2.out HF3.out.2); have d0 : w3.cell? ⟨Bx, 0, none⟩ = some (.int .i64 k) := cell_of H3.out.1 rfl; have d1 : w3.cell? ⟨Bx, 1, none⟩ = some (.int .i64 n) := cell_of H3.out.1 rfl; have d2 : w3.cell? ⟨Bx, 2, none⟩ = some (.int .i64 d) := cell_of H3.out.1 rfl; have d3 : w3.cell? ⟨Bx, 3, none⟩ = some (.string ⟨nm.toArray⟩) := cell_of H3.out.1 rfl)
    | (go_at_call 19; refine (TT2.out _).mono ?_; rintro e w4 ⟨a4, k4, rfl, HF4⟩; have H4 := Lib.hid (STP.out _ _ H3.out HF4.out.2))
    | (go_at_call 17; refine (SS.out _ _ _ _ _ (HF3.out.1.below HF4.out.2) HF4.out.1).mono ?_; rintro e w5 ⟨rfl, hb⟩; have H5 := Lib.hid (STP.out _ _ H4.out hb.out); clear hb)
    | (go_at_call 14; refine (KN.out _).mono ?_; rintro e w6 ⟨rfl, hb⟩; have H6 := Lib.hid (STP.out _ _ H5.out hb); clear hb))
  all_goals
    go_wp2_with fail
    go_ret
    exact ⟨rfl, H6.out.2⟩
end Go.Proofs.Ytppnpdjbmhbimaa
