/- Layer 9: words, units, where a text stands in a list. -/
import Derived.Test.YthfabalnioggcaaValP
import Derived.Test.YthfabalnioggcaaWalkA
import Derived.Test.YthfabalnioggcaaMem
namespace Go.Proofs.Ythfabalnioggcaa
open Go.RowKit TreN LexP FixP SynP ValP
set_option linter.unusedVariables false

/-- texts lie there, from the head of a block on -/
def TxAt (w : World) (b : Nat) (L : List (List UInt8)) : Prop := ∀ i (h : i < L.length), w.cell? ⟨b, i, none⟩ = some (.string ⟨L[i].toArray⟩)
def txcs (L : List (List UInt8)) : Array Value := (L.map fun x => Value.string ⟨x.toArray⟩).toArray
theorem TxAt.made (w : World) (L : List (List UInt8)) : TxAt (w.alloc (.cells (txcs L) 9)) w.heap.size L := fun i h => by
  have hb : (w.alloc (.cells (txcs L) 9)).heap[w.heap.size]? = some (.cells (txcs L) 9 (0, 0)) := heap_alloc_new w _
  exact cell_of hb (by unfold txcs; simp [h])
theorem TxAt.below {w w' : World} {b : Nat} {L : List (List UInt8)} (h : TxAt w b L) (hb : Below w.heap.size w w') (hl : b < w.heap.size) : TxAt w' b L := fun i hi => (hb.cell (p := ⟨b, i, none⟩) hl).trans (h i hi)
def uL : List (List UInt8) := [] :: unitsL
def wL : List (List UInt8) := [] :: wordsL

set_option maxRecDepth 100000 in
theorem refWords_any (w : World) : Calls Try.prog 80 #[] w fun e w' => e = .returned (.slice (some ⟨w.heap.size, 0, none⟩) 31 31) ∧ w' = w.alloc (.cells (txcs wL) 9) := by
  go_enter Try.func80, Try.ntmps80
  go_wp2_with fail
  go_ret
  exact ⟨rfl, rfl⟩
theorem plc_drop (L : List (List UInt8)) (s : List UInt8) (k j : Nat) (h : k < L.length) : plc (L.drop k) s j = if L[k] = s then j else plc (L.drop (k + 1)) s (j + 1) := by
  rw [List.drop_eq_getElem_cons h]; rfl
set_option maxRecDepth 100000 in
set_option maxHeartbeats 1000000 in
theorem refPlace_any (b : Nat) (L : List (List UInt8)) (n cap : Nat) (s : List UInt8) (w : World) (hl : L.length + 1 = n) (hn : n ≤ 10000) (hT : TxAt w b ([] :: L)) :
    Calls Try.prog 89 #[.slice (some ⟨b, 0, none⟩) n cap, .string ⟨s.toArray⟩] w fun e w' => e = .returned (.int .i64 (plc L s 1 : Nat)) ∧ w' = w := by
  have HT := Lib.hid hT
  have HL := Lib.hid hl
  clear hT hl
  go_enter Try.func89, Try.ntmps89
  go_wp2_with fail
  go_loop [5] (fun vi => ∃ k : Nat, vi = .int .i64 (k : Int) ∧ 1 ≤ k ∧ k ≤ n ∧ Hid (plc L s 1 = plc (L.drop (k - 1)) s k)) (fun vi => n - (intOf vi).toNat)
  case atStart => exact ⟨1, rfl, by omega, by have := HL.out; omega, Lib.hid rfl⟩
  case round =>
    obtain ⟨k, rfl, hk1, hk, HP⟩ := hrel
    by_cases hlt : k < n
    · have hltz : (k : Int) < (n : Int) := by omega
      have hkl : k - 1 < L.length := by have := HL.out; omega
      have hkl2 : k < ([] :: L).length := by have := HL.out; simp; omega
      have d1 := HT.out k hkl2
      have hkn : (0 : Int) ≤ (k : Int) := by omega
      have hd := plc_drop L s (k - 1) k hkl
      have e1 : ([] :: L)[k] = L[k - 1] := by
        obtain ⟨j, rfl⟩ : ∃ j, k = j + 1 := ⟨k - 1, by omega⟩
        rfl
      have e2 : k - 1 + 1 = k := by omega
      rw [e2] at hd
      rw [e1] at d1
      obtain ⟨x, hx⟩ : ∃ x, L[k - 1] = x := ⟨_, rfl⟩
      rw [hx] at d1 hd
      by_cases he : x = s
      · have heb : (x == s) = true := by rw [beq_iff_eq]; exact he
        have HF : Hid (plc L s 1 = k) := Lib.hid (by rw [HP.out, hd, if_pos he])
        subst he
        clear hd hx hkl e1 e2 hkl2
        go_wp2_with fail
        go_ret
        exact ⟨by rw [HF.out]; rfl, rfl⟩
      · have heb : (x == s) = false := by rw [beq_eq_false_iff_ne]; exact he
        have HF : Hid (plc L s 1 = plc (L.drop (k + 1 - 1)) s (k + 1)) := Lib.hid (by rw [HP.out, hd, if_neg he]; rfl)
        clear hd hx hkl he e1 e2 hkl2
        go_wp2_with fail
        go_round
        case rel => exact ⟨k + 1, by go_num, by omega, by omega, HF⟩
        case measure => simp [intOf]; omega
    · have hltz : ¬ (k : Int) < (n : Int) := by omega
      have HF : Hid (plc L s 1 = 0) := Lib.hid (by rw [HP.out, List.drop_of_length_le (by have := HL.out; omega)]; rfl)
      go_wp2_with fail
      go_ret
      exact ⟨by rw [HF.out]; rfl, rfl⟩
theorem words_len : wordsL.length = 30 := rfl
theorem units_len : unitsL.length = 8 := rfl
end Go.Proofs.Ythfabalnioggcaa
