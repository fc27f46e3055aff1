/- Layer 18: how wide texts beside one another are. -/
import Derived.Test.YtekmgpbolbkiaaaWdsW2
namespace Go.Proofs.Ytekmgpbolbkiaaa
open Go.RowKit FixM FixP TreN WdsP
set_option linter.unusedVariables false

set_option maxRecDepth 100000 in
set_option maxHeartbeats 4000000 in
theorem width18_any (t A font : Int) (w : World) : Calls Try.prog 25 #[.agg #[.int .i64 t, .int .i64 A], .int .i64 font] w fun e w' => e = .returned (.int .i64 (PT font A 1000)) ∧ Below w.heap.size w w' := by
  have c1 := cell_of (k := 1) (heap_alloc_new w (.cells #[.int .i64 t, .int .i64 A] 45)) rfl
  obtain ⟨v, hv⟩ : ∃ v, PT font A 1000 = v := ⟨_, rfl⟩
  have C := Part_any font A 1000
  rw [hv] at C ⊢
  have CC := Lib.hid C
  clear C hv
  go_enter Try.func25, Try.ntmps25
  go_wp2_with fail
  refine (CC.out _).mono ?_
  rintro e w' ⟨rfl, rfl⟩
  go_wp2_with fail
  go_ret
  exact ⟨rfl, (Below.refl _ _).alloc (Nat.le_refl _) _⟩

/-- texts in memory -/
def WS (w : World) (a : Option Addr) (L : List ByteArray) : Prop := L = [] ∨ ∃ b off, a = some ⟨b, off, none⟩ ∧ b < w.heap.size ∧ ∀ i (h : i < L.length), w.cell? ⟨b, off + i, none⟩ = some (.string L[i])
theorem WS.below {w w' : World} {a : Option Addr} {L : List ByteArray} (h : WS w a L) (hb : Below w.heap.size w w') : WS w' a L := by
  rcases h with h | ⟨b, off, h1, h2, h3⟩
  · exact Or.inl h
  · exact Or.inr ⟨b, off, h1, Nat.lt_of_lt_of_le h2 hb.size, fun i hi => (hb.cell (p := ⟨b, off + i, none⟩) h2).trans (h3 i hi)⟩
theorem WS.at_ {w : World} {a : Option Addr} {L : List ByteArray} (h : WS w a L) {i : Nat} (hi : i < L.length) : ∃ b off, a = some ⟨b, off, none⟩ ∧ b < w.heap.size ∧ w.cell? ⟨b, off + i, none⟩ = some (.string L[i]) := by
  rcases h with h | ⟨b, off, h1, h2, h3⟩
  · subst h; simp at hi
  · exact ⟨b, off, h1, h2, h3 i hi⟩

/-- a run in block n -/
structure RunB (n : Nat) (w W : World) (t A : Int) : Prop where
  here : W.heap[n]? = some (.cells #[.int .i64 t, .int .i64 A] 45 (0, 0))
  base : w.heap.size ≤ n
  bel : Below w.heap.size w W
theorem RunB.lt {n : Nat} {w W : World} {t A : Int} (h : RunB n w W t A) : n < W.heap.size := (Array.getElem?_eq_some_iff.1 h.here).1
theorem RunB.keep {n : Nat} {w W W' : World} {t A : Int} (h : RunB n w W t A) (hb : Below W.heap.size W W') : RunB n w W' t A :=
  ⟨(hb.block n h.lt).trans h.here, h.base, h.bel.trans (hb.mono h.bel.size)⟩
theorem RunB.put {n : Nat} {w W : World} {t A : Int} (h : RunB n w W t A) (t' A' : Int) : ∃ x1 x2,
    (W.cell? ⟨n, 0, none⟩ = some (.int .i64 t) ∧ W.frozen? ⟨n, 0, none⟩ = false ∧ W.setCell ⟨n, 0, none⟩ (.int .i64 t') = x1) ∧
    (x1.cell? ⟨n, 1, none⟩ = some (.int .i64 A) ∧ x1.frozen? ⟨n, 1, none⟩ = false ∧ x1.setCell ⟨n, 1, none⟩ (.int .i64 A') = x2) ∧ RunB n w x2 t' A' ∧ W.grownBy x2 (some n) := by
  have h1 := setCell_here (k := 0) (.int .i64 t') h.here
  have h2 := setCell_here (k := 1) (.int .i64 A') h1
  refine ⟨_, _, ⟨cell_of h.here rfl, unfrozen_of h.here, rfl⟩, ⟨cell_of h1 rfl, unfrozen_of h1, rfl⟩, ⟨h2, h.base, (h.bel.setCell (p := ⟨n, 0, none⟩) h.base _).setCell (p := ⟨n, 1, none⟩) h.base _⟩, ?_⟩
  refine ⟨rfl, rfl, rfl, by simp, fun k hk hn => ?_⟩
  have hne : k ≠ n := fun e => hn (by rw [e])
  rw [setCell_there _ hne, setCell_there _ hne]

set_option maxRecDepth 100000 in
set_option maxHeartbeats 4000000 in
theorem Width18_any (a : Option Addr) (L : List ByteArray) (n cap : Nat) (font : Int) (w : World) (hn : L.length = n) (hl : n ≤ 1000) (hx : ∀ x ∈ L, x.size ≤ maxLen) (hW : WS w a L) :
    Calls Try.prog 14 #[.slice a n cap, .int .i64 font] w fun e w' => e = .returned (.int .i64 (wid font L)) ∧ Below w.heap.size w w' := by
  have HWS := Lib.hid hW
  have HX := Lib.hid hx
  have HN := Lib.hid hn
  obtain ⟨v, hv⟩ : ∃ v, wid font L = v := ⟨_, rfl⟩
  rw [hv]
  have HV := Lib.hid hv
  have R0 : Hid (RunB w.heap.size w (w.alloc (.cells #[.int .i64 0, .int .i64 0] 45)) ((0 : Nat) : Int) (H (totL (L.take 0)))) := Lib.hid ⟨heap_alloc_new w _, Nat.le_refl _, (Below.refl _ _).alloc (Nat.le_refl _) _⟩
  clear hW hx hn hv
  go_enter Try.func14, Try.ntmps14
  go_wp2_with fail
  generalize w.alloc (.cells #[.int .i64 0, .int .i64 0] 45) = w1 at *
  go_loopw [9] (fun vi wr => ∃ k : Nat, vi = .int .i64 (k : Int) ∧ k ≤ n ∧ Hid (RunB w.heap.size w wr (k : Int) (H (totL (L.take k))))) (fun vi _ => n - (intOf vi).toNat)
  case atStart => exact ⟨0, rfl, by omega, R0⟩
  case round =>
    obtain ⟨k, rfl, hk, HR⟩ := hrel
    by_cases hlt : k < n
    · have hkl : k < L.length := by have := HN.out; omega
      obtain ⟨b, o, rfl, hbw, hc⟩ := (HWS.out.below HR.out.bel).at_ hkl
      obtain ⟨x, hxk⟩ : ∃ x, L[k] = x := ⟨_, rfl⟩
      have hxs : x.size ≤ maxLen := by rw [← hxk]; exact HX.out _ (List.getElem_mem hkl)
      rw [hxk] at hc
      have htk : totL (L.take (k + 1)) = totL (L.take k) + (if k = 0 then 0 else 250) + aw x := by
        rw [List.take_succ_eq_append_getElem hkl, totL_snoc, hxk, List.length_take, Nat.min_eq_left (by omega)]
      have r0 := cell_of (k := 0) HR.out.here rfl
      have r1 := cell_of (k := 1) HR.out.here rfl
      have WC := Lib.hid (fun W => with18_any k (totL (L.take k)) x W (by omega) (totL_nonneg _) hxs)
      rw [← htk] at WC
      obtain ⟨A1, hA1⟩ : ∃ A, H (totL (L.take k)) = A := ⟨_, rfl⟩
      obtain ⟨A2, hA2⟩ : ∃ A, H (totL (L.take (k + 1))) = A := ⟨_, rfl⟩
      rw [hA1] at HR r1 WC
      rw [hA2] at WC
      have HA2 := Lib.hid hA2
      have hltz : (k : Int) < (n : Int) := by omega
      clear hxk htk hA1 hA2 hkl hxs
      go_wp2_with fail
      refine wp_region_still_tail 5 (by kernel_rfl) (by kernel_rfl) ?_
      simp only [List.take_succ_cons, List.take_zero, List.drop_succ_cons, List.drop_zero]
      repeat still_step
      refine wpStill_nil ?_
      change wpList _ _ _ _ _ wr.drew
      have HRd : Hid (RunB w.heap.size w wr.drew (k : Int) A1) := Lib.hid (HR.out.keep (Below.drew (Below.refl _ _)))
      clear HR r0 r1
      generalize wr.drew = wd at *
      go_wp2_with fail
      refine (WC.out _).mono ?_
      rintro e w2 ⟨rfl, hb2⟩
      obtain ⟨x1, x2, ⟨p0, p1, p2⟩, ⟨q0, q1, q2⟩, hR2, _⟩ := (HRd.out.keep hb2).put ((k : Int) + 1) A2
      have HR2 : Hid (RunB w.heap.size w x2 ((k + 1 : Nat) : Int) (H (totL (L.take (k + 1))))) := Lib.hid (by rw [HA2.out]; exact hR2)
      clear hb2 hR2
      go_wp2_with fail
      go_roundw
      case rel => exact ⟨k + 1, by go_num, by omega, HR2⟩
      case measure => simp [intOf]; omega
    · have hke : k = n := by omega
      have HF : Hid (RunB w.heap.size w wr (k : Int) (H (totL L))) := Lib.hid (by have := HR.out; rw [List.take_of_length_le (by have := HN.out; omega)] at this; exact this)
      obtain ⟨A, hA⟩ : ∃ A, H (totL L) = A := ⟨_, rfl⟩
      rw [hA] at HF
      have r0 := cell_of (k := 0) HF.out.here rfl
      have r1 := cell_of (k := 1) HF.out.here rfl
      have HVA : Hid (PT font A 1000 = v) := Lib.hid (by rw [← HV.out, ← hA, PT_H]; rfl)
      clear hke HR hA
      go_wp2_with fail
      refine (width18_any _ _ _ _).mono ?_
      rintro e w2 ⟨rfl, hb2⟩
      have HB2 := Lib.hid hb2
      clear hb2
      go_wp2_with fail
      go_ret
      exact ⟨by rw [HVA.out]; rfl, HF.out.bel.trans (HB2.out.mono HF.out.bel.size)⟩
end Go.Proofs.Ytekmgpbolbkiaaa
