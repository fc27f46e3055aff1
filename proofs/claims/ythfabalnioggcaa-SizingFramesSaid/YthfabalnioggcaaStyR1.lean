/- Layer 17, the other text: a word's text. -/
import Derived.Test.YthfabalnioggcaaValW1
import Derived.Deep.RegionWith
import Derived.Outline
namespace Go.Proofs.Ythfabalnioggcaa
open Go.RowKit TreN LexP FixP SynP ValP
set_option linter.unusedVariables false

/-- a value's word; nothing, if it is none -/
def txtS (k n : Int) : List UInt8 := if k = 1 ∧ 1 ≤ n ∧ n ≤ 30 then wL.getD n.toNat [] else []
theorem wL_len : wL.length = 31 := by decide
set_option maxRecDepth 100000 in
set_option maxHeartbeats 1000000 in
theorem Text17_any (k n d : Int) (nm : List UInt8) (w : World) : Calls Try.prog 70 #[.agg #[.int .i64 k, .int .i64 n, .int .i64 d, .string ⟨nm.toArray⟩]] w fun e w' => e = .returned (.string ⟨(txtS k n).toArray⟩) ∧ Below w.heap.size w w' := by
  have hb0 : Below w.heap.size w (w.alloc (.cells #[.int .i64 k, .int .i64 n, .int .i64 d, .string ⟨nm.toArray⟩] 80)) := (Below.refl _ _).alloc (Nat.le_refl _) _
  have hx0 := heap_alloc_new w (.cells #[.int .i64 k, .int .i64 n, .int .i64 d, .string ⟨nm.toArray⟩] 80)
  by_cases h : k = 1 ∧ 1 ≤ n ∧ n ≤ 30
  · obtain ⟨rfl, h1, h2⟩ := h
    obtain ⟨m, rfl⟩ : ∃ m : Nat, n = (m : Int) := ⟨n.toNat, by omega⟩
    have hm : m < wL.length := by rw [wL_len]; omega
    have ht : txtS 1 (m : Int) = wL[m] := by
      unfold txtS
      rw [if_pos ⟨rfl, h1, h2⟩, Int.toNat_natCast, List.getD_eq_getElem?_getD, List.getElem?_eq_getElem hm]
      rfl
    rw [ht]
    obtain ⟨x, hx⟩ : ∃ x, wL[m] = x := ⟨_, rfl⟩
    rw [hx]
    have hmk := fun W => TxAt.made W wL m hm
    rw [hx] at hmk
    generalize hW : w.alloc (.cells #[.int .i64 1, .int .i64 (m : Int), .int .i64 d, .string ⟨nm.toArray⟩] 80) = W at *
    have HB0 := Lib.hid hb0
    have hz1 : (m : Int) < 31 := by omega
    have hz2 : (0 : Int) ≤ (m : Int) := by omega
    have c0 : W.cell? ⟨w.heap.size, 0, none⟩ = some (.int .i64 1) := cell_of hx0 rfl
    have c1 : W.cell? ⟨w.heap.size, 1, none⟩ = some (.int .i64 (m : Int)) := cell_of hx0 rfl
    have hl := (Array.getElem?_eq_some_iff.1 hx0).1
    have c2 : ∀ o, (W.alloc o).cell? ⟨w.heap.size, 1, none⟩ = some (.int .i64 (m : Int)) := fun o => (((Below.refl W.heap.size W).alloc (Nat.le_refl _) o).cell (p := ⟨w.heap.size, 1, none⟩) hl).trans c1
    have HMK := Lib.hid (hmk W)
    clear hx ht hm hb0 hx0 hmk
    go_enter Try.func70, Try.ntmps70
    go_wp2_with fail
    have hq : (W.alloc (.cells (txcs wL) 9)).drew.cell? ⟨W.heap.size, m, none⟩ = some (.string ⟨x.toArray⟩) := HMK.out
    go_region_with (go_at_call 80; refine (refWords_any _).mono ?_; rintro e wq ⟨rfl, rfl⟩)
    all_goals
      go_wp2_with fail
      go_ret
      exact ⟨rfl, (HB0.out.alloc HB0.out.size _).drew⟩
  · have ht : txtS k n = [] := by unfold txtS; rw [if_neg h]
    rw [ht]
    by_cases h1 : k = 1
    · subst h1
      by_cases h2 : 1 ≤ n
      · have h3 : 30 < n := by omega
        clear h ht hx0
        have HB0 := Lib.hid hb0
        clear hb0
        go_enter Try.func70, Try.ntmps70
        go_wp2_with fail
        go_ret
        exact ⟨rfl, HB0.out⟩
      · have h3 : n < 1 := by omega
        clear h ht hx0
        have HB0 := Lib.hid hb0
        clear hb0
        go_enter Try.func70, Try.ntmps70
        go_wp2_with fail
        go_ret
        exact ⟨rfl, HB0.out⟩
    · have hz : (k == 1) = false := by rw [beq_eq_false_iff_ne]; exact h1
      clear h ht hx0 h1
      have HB0 := Lib.hid hb0
      clear hb0
      go_enter Try.func70, Try.ntmps70
      go_wp2_with fail
      go_ret
      exact ⟨rfl, HB0.out⟩
def lst17 (n : Int) : Int := if n < 0 then 0 else n
theorem Least17_any (n : Int) (w : World) : Calls Try.prog 72 #[.int .i64 n] w fun e w' => e = .returned (.int .i64 (lst17 n)) ∧ w = w' := by
  unfold lst17
  by_cases h : n < 0
  · rw [if_pos h]
    go_enter Try.func72, Try.ntmps72
    go_wp2_with fail
    go_ret
    exact ⟨rfl, rfl⟩
  · rw [if_neg h]
    have h2 : 0 ≤ n := by omega
    go_enter Try.func72, Try.ntmps72
    go_wp2_with fail
    go_ret
    exact ⟨rfl, rfl⟩
/-- the first place of a text in a list; past its end, if it is none -/
def ix17 (L : List (List UInt8)) (s : List UInt8) : Nat := L.findIdx (fun x => decide (x = s))
theorem ix17_first {L : List (List UInt8)} {s : List UInt8} {k : Nat} (h : k < L.length) (hk : L[k] = s) (hb : ∀ j (hj : j < k), L[j] ≠ s) : ix17 L s = k := by
  unfold ix17
  rw [List.findIdx_eq h]
  exact ⟨by simpa using hk, fun j hj => by simpa using hb j hj⟩
theorem ix17_none {L : List (List UInt8)} {s : List UInt8} (hb : ∀ j (hj : j < L.length), L[j] ≠ s) : ix17 L s = L.length := by
  unfold ix17
  rw [List.findIdx_eq_length]
  intro x hx
  obtain ⟨j, hj, rfl⟩ := List.getElem_of_mem hx
  simpa using hb j hj
end Go.Proofs.Ythfabalnioggcaa
