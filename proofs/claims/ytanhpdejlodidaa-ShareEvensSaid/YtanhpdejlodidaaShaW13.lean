/- The walks of layer 2: lists held against each other; what must come of fixed calls. -/
import Derived.Test.YtanhpdejlodidaaShaW12
namespace Go.Proofs.Ytanhpdejlodidaa
open Go.RowKit FixM ShaD ShaM Go.Sort

set_option maxHeartbeats 1000000 in
theorem Ints_yes (n b o cap b2 o2 cap2 : Nat) (f g : Nat → Int) (w : World) (hn : n ≤ 1000) (hf : ∀ i, i < n → w.cell? ⟨b, o + i, none⟩ = some (.int .i64 (f i))) (hg : ∀ i, i < n → w.cell? ⟨b2, o2 + i, none⟩ = some (.int .i64 (g i))) (he : ∀ i, i < n → f i = g i) :
    Calls Try.prog 13 #[.slice (some ⟨b, o, none⟩) n cap, .slice (some ⟨b2, o2, none⟩) n cap2] w fun e w' => e = .returned (.bool true) ∧ ∃ q, w' = w.drewN q := by
  have HF := Lib.hid hf
  have HG := Lib.hid hg
  have HE := Lib.hid he
  clear hf hg he
  go_enter Try.func13, Try.ntmps13
  go_wp2_with fail
  go_loopw [5] (fun vi wr => ∃ k q : Nat, vi = .int .i64 k ∧ k ≤ n ∧ wr = w.drewN q) (fun vi _ => n - (intOf vi).toNat)
  case atStart => exact ⟨0, 0, rfl, by omega, rfl⟩
  case round =>
    obtain ⟨k, q, rfl, hk, rfl⟩ := hrel
    by_cases hlt : k < n
    · have hltz : (k : Int) < (n : Int) := by omega
      have c1 := HF.out k hlt
      have c2 := HG.out k hlt
      rw [HE.out k hlt] at c1
      have c1' : (w.drewN q).cell? ⟨b, o + k, none⟩ = some (.int .i64 (g k)) := c1
      have c2' : (w.drewN q).cell? ⟨b2, o2 + k, none⟩ = some (.int .i64 (g k)) := c2
      clear c1 c2
      generalize hwq : w.drewN q = wq at c1' c2' ⊢
      have HW := Lib.hid hwq
      clear hwq
      go_wp2_with fail
      go_quiet (fail)
      go_wp2_with fail
      go_roundw
      case rel => exact ⟨k + 1, q + nq, by go_num, by omega, by rw [← HW.out, World.drewN_drewN]⟩
      case measure => simp [intOf]; omega
    · go_wp2_with fail
      go_ret
      exact ⟨rfl, q, rfl⟩

theorem below_drewN' {B : Nat} {a w : World} (h : Below B a w) (q : Nat) : Below B a (w.drewN q) := ⟨h.os, h.tape, h.output, h.size, h.block⟩

set_option maxHeartbeats 1000000 in
theorem known2_any (w : World) : Calls Try.prog 12 #[] w fun e w' => e = .returned (.bool true) ∧ Below w.heap.size w w' := by
  have s1 : ∀ i, i < 3 → shareS (H 10) [1, 1, 1] i = [4, 3, 3].getD i 0 := by decide +kernel
  have s2 : ∀ i, i < 4 → shareS (H 7) [0, 2, 5, -1] i = [0, 2, 5, 0].getD i 0 := by decide +kernel
  have S1 := Lib.hid s1
  have S2 := Lib.hid s2
  clear s1 s2
  go_enter Try.func12, Try.ntmps12
  go_wp2_with fail
  have hL1 : Lst (w.alloc (.cells #[.int .i64 1, .int .i64 1, .int .i64 1] 3)) (some ⟨w.heap.size, 0, none⟩) [1, 1, 1] := Or.inr ⟨w.heap.size, 0, rfl, by simp, fun i hi => by
    rw [World.cell?_alloc_at _ _ _ _ rfl, Nat.zero_add]
    have : i = 0 ∨ i = 1 ∨ i = 2 := by simp at hi; omega
    rcases this with rfl | rfl | rfl <;> rfl⟩
  have hb0 : Below w.heap.size w (w.alloc (.cells #[.int .i64 1, .int .i64 1, .int .i64 1] 3)) := (Below.refl _ _).alloc (Nat.le_refl _) _
  generalize (w.alloc (.cells #[.int .i64 1, .int .i64 1, .int .i64 1] 3)) = wa at hL1 hb0 ⊢
  have HB0 := Lib.hid hb0
  have C1 := Lib.hid (Deal_told 10 (some ⟨w.heap.size, 0, none⟩) 3 [1, 1, 1] wa (by decide) hL1)
  clear hb0 hL1
  refine C1.out.mono ?_
  rintro e w1 ⟨rfl, hb1, hr1⟩
  obtain ⟨SA, hSA⟩ : ∃ S, S = wa.heap.size := ⟨_, rfl⟩
  rw [← hSA] at hb1 hr1 ⊢
  have hlt1 : SA < w1.heap.size := by
    have h := (hr1 0 (by decide)).1
    by_cases c : SA < w1.heap.size
    · exact c
    · exfalso
      have hn : w1.heap[SA]? = none := Array.getElem?_eq_none (by omega)
      unfold World.cell? at h
      rw [hn] at h
      simp at h
  have HB1 := Lib.hid hb1
  have HR1 := Lib.hid hr1
  have HSA := Lib.hid hSA
  clear hb1 hr1 hSA
  go_wp2_with fail
  have i1 := Ints_yes 3 SA 0 3 w1.heap.size 0 3 (shareS (H 10) [1, 1, 1]) (fun i => [4, 3, 3].getD i 0) (w1.alloc (.cells #[.int .i64 4, .int .i64 3, .int .i64 3] 3)) (by decide)
    (fun i hi => by rw [Nat.zero_add, World.cell?_alloc_past _ _ _ hlt1]; exact (HR1.out i hi).1)
    (fun i hi => by
      rw [World.cell?_alloc_at _ _ _ _ rfl, Nat.zero_add]
      have : i = 0 ∨ i = 1 ∨ i = 2 := by omega
      rcases this with rfl | rfl | rfl <;> rfl)
    S1.out
  have hbb : Below w.heap.size w (w1.alloc (.cells #[.int .i64 4, .int .i64 3, .int .i64 3] 3)) := by
    have h1 := HB0.out.trans (HB1.out.mono (by have := HB0.out.size; have := HSA.out; omega))
    exact h1.alloc h1.size _
  generalize (w1.alloc (.cells #[.int .i64 4, .int .i64 3, .int .i64 3] 3)) = wb at i1 hbb ⊢
  have I1 := Lib.hid i1
  have HBB := Lib.hid hbb
  clear i1 hbb
  refine I1.out.mono ?_
  rintro e w2 ⟨rfl, q, rfl⟩
  have hbc : Below w.heap.size w (wb.drewN q) := below_drewN' HBB.out q
  generalize wb.drewN q = wc at hbc ⊢
  have HBC := Lib.hid hbc
  clear hbc
  go_wp2_with fail
  have hL2 : Lst (wc.alloc (.cells #[.int .i64 0, .int .i64 2, .int .i64 5, .int .i64 (-1)] 3)) (some ⟨wc.heap.size, 0, none⟩) [0, 2, 5, -1] := Or.inr ⟨wc.heap.size, 0, rfl, by simp, fun i hi => by
    rw [World.cell?_alloc_at _ _ _ _ rfl, Nat.zero_add]
    have : i = 0 ∨ i = 1 ∨ i = 2 ∨ i = 3 := by simp at hi; omega
    rcases this with rfl | rfl | rfl | rfl <;> rfl⟩
  have hb0 : Below wc.heap.size wc (wc.alloc (.cells #[.int .i64 0, .int .i64 2, .int .i64 5, .int .i64 (-1)] 3)) := (Below.refl _ _).alloc (Nat.le_refl _) _
  generalize (wc.alloc (.cells #[.int .i64 0, .int .i64 2, .int .i64 5, .int .i64 (-1)] 3)) = wd at hL2 hb0 ⊢
  have HBD := Lib.hid hb0
  have C2 := Lib.hid (Deal_told 7 (some ⟨wc.heap.size, 0, none⟩) 4 [0, 2, 5, -1] wd (by decide) hL2)
  clear hb0 hL2
  refine C2.out.mono ?_
  rintro e w3 ⟨rfl, hb1, hr1⟩
  obtain ⟨SB, hSB⟩ : ∃ S, S = wd.heap.size := ⟨_, rfl⟩
  rw [← hSB] at hb1 hr1 ⊢
  have hlt2 : SB < w3.heap.size := by
    have h := (hr1 0 (by decide)).1
    by_cases c : SB < w3.heap.size
    · exact c
    · exfalso
      have hn : w3.heap[SB]? = none := Array.getElem?_eq_none (by omega)
      unfold World.cell? at h
      rw [hn] at h
      simp at h
  have HB3 := Lib.hid hb1
  have HR3 := Lib.hid hr1
  have HSB := Lib.hid hSB
  clear hb1 hr1 hSB
  go_wp2_with fail
  have i1 := Ints_yes 4 SB 0 4 w3.heap.size 0 4 (shareS (H 7) [0, 2, 5, -1]) (fun i => [0, 2, 5, 0].getD i 0) (w3.alloc (.cells #[.int .i64 0, .int .i64 2, .int .i64 5, .int .i64 0] 3)) (by decide)
    (fun i hi => by rw [Nat.zero_add, World.cell?_alloc_past _ _ _ hlt2]; exact (HR3.out i hi).1)
    (fun i hi => by
      rw [World.cell?_alloc_at _ _ _ _ rfl, Nat.zero_add]
      have : i = 0 ∨ i = 1 ∨ i = 2 ∨ i = 3 := by omega
      rcases this with rfl | rfl | rfl | rfl <;> rfl)
    S2.out
  have hbb : Below w.heap.size w (w3.alloc (.cells #[.int .i64 0, .int .i64 2, .int .i64 5, .int .i64 0] 3)) := by
    have h0 : Below w.heap.size w wd := HBC.out.trans (HBD.out.mono HBC.out.size)
    have h1 := h0.trans (HB3.out.mono (by have := h0.size; have := HSB.out; omega))
    exact h1.alloc h1.size _
  generalize (w3.alloc (.cells #[.int .i64 0, .int .i64 2, .int .i64 5, .int .i64 0] 3)) = we at i1 hbb ⊢
  have I2 := Lib.hid i1
  have HBE := Lib.hid hbb
  clear i1 hbb
  refine I2.out.mono ?_
  rintro e w2 ⟨rfl, q2, rfl⟩
  go_wp2_with fail
  go_ret
  exact ⟨rfl, below_drewN' HBE.out q2⟩
end Go.Proofs.Ytanhpdejlodidaa
