/- Layer 9: words, units, where a text stands in a list. -/
import Derived.Test.YtlngipglhlhhbaaValP
import Derived.Test.YtlngipglhlhhbaaWalkA
import Derived.Test.YtlngipglhlhhbaaMem
namespace Go.Proofs.Ytlngipglhlhhbaa
open Go.RowKit TreN LexP FixP SynP ValP
set_option linter.unusedVariables false

/-- texts lie there, from the head of a block on -/
def TxAt (w : World) (b : Nat) (L : List (List UInt8)) : Prop := ∀ i (h : i < L.length), w.cell? ⟨b, i, none⟩ = some (.string ⟨L[i].toArray⟩)
def txcs (L : List (List UInt8)) : Array Value := (L.map fun x => Value.string ⟨x.toArray⟩).toArray
theorem TxAt.made (w : World) (L : List (List UInt8)) : TxAt (w.alloc (.cells (txcs L) 9)) w.heap.size L := fun i h => by
  have hb : (w.alloc (.cells (txcs L) 9)).heap[w.heap.size]? = some (.cells (txcs L) 9 (0, 0)) := heap_alloc_new w _
  exact cell_of hb (by unfold txcs; simp [h])
theorem TxAt.below {w w' : World} {b : Nat} {L : List (List UInt8)} (h : TxAt w b L) (hb : Below w.heap.size w w') (hl : b < w.heap.size) : TxAt w' b L := fun i hi => (hb.cell (p := ⟨b, i, none⟩) hl).trans (h i hi)
def uL : List (List UInt8) := [] :: unitsL
def wL : List (List UInt8) := [] :: wordsL

set_option maxRecDepth 100000 in
theorem words_any (w : World) : Calls Try.prog 18 #[] w fun e w' => e = .returned (.slice (some ⟨w.heap.size, 0, none⟩) 30 30) ∧ w' = w.alloc (.cells (txcs wordsL) 9) := by
  go_enter Try.func18, Try.ntmps18
  go_wp2_with fail
  go_ret
  exact ⟨rfl, rfl⟩
set_option maxRecDepth 100000 in
theorem units_any (w : World) : Calls Try.prog 54 #[] w fun e w' => e = .returned (.slice (some ⟨w.heap.size, 0, none⟩) 8 8) ∧ w' = w.alloc (.cells (txcs unitsL) 9) := by
  go_enter Try.func54, Try.ntmps54
  go_wp2_with fail
  go_ret
  exact ⟨rfl, rfl⟩
theorem plc_drop (L : List (List UInt8)) (s : List UInt8) (k j : Nat) (h : k < L.length) : plc (L.drop k) s j = if L[k] = s then j else plc (L.drop (k + 1)) s (j + 1) := by
  rw [List.drop_eq_getElem_cons h]; rfl
set_option maxRecDepth 100000 in
set_option maxHeartbeats 1000000 in
theorem number_any (b : Nat) (L : List (List UInt8)) (n cap : Nat) (s : List UInt8) (w : World) (hl : L.length = n) (hn : n ≤ 10000) (hT : TxAt w b L) :
    Calls Try.prog 17 #[.slice (some ⟨b, 0, none⟩) n cap, .string ⟨s.toArray⟩] w fun e w' => e = .returned (.int .i64 (plc L s 1 : Nat)) ∧ w' = w := by
  have HT := Lib.hid hT
  have HL := Lib.hid hl
  clear hT hl
  go_enter Try.func17, Try.ntmps17
  go_wp2_with fail
  go_loop [8] (fun vi => ∃ k : Nat, vi = .int .i64 (k : Int) ∧ k ≤ n ∧ Hid (plc L s 1 = plc (L.drop k) s (k + 1))) (fun vi => n - (intOf vi).toNat)
  case atStart => exact ⟨0, rfl, by omega, Lib.hid rfl⟩
  case round =>
    obtain ⟨k, rfl, hk, HP⟩ := hrel
    by_cases hlt : k < n
    · have hltz : (k : Int) < (n : Int) := by omega
      have hkl : k < L.length := by have := HL.out; omega
      have d1 := HT.out k hkl
      have hkn : (0 : Int) ≤ (k : Int) := by omega
      have hd := plc_drop L s k (k + 1) hkl
      obtain ⟨x, hx⟩ : ∃ x, L[k] = x := ⟨_, rfl⟩
      rw [hx] at d1 hd
      by_cases he : x = s
      · have heb : (x == s) = true := by rw [beq_iff_eq]; exact he
        have HF : Hid (plc L s 1 = k + 1) := Lib.hid (by rw [HP.out, hd, if_pos he])
        subst he
        clear hd hx hkl
        go_wp2_with fail
        go_ret
        exact ⟨by rw [HF.out]; rfl, rfl⟩
      · have heb : (x == s) = false := by rw [beq_eq_false_iff_ne]; exact he
        have HF : Hid (plc L s 1 = plc (L.drop (k + 1)) s (k + 1 + 1)) := Lib.hid (by rw [HP.out, hd, if_neg he])
        clear hd hx hkl he
        go_wp2_with fail
        go_round
        case rel => exact ⟨k + 1, by go_num, by omega, HF⟩
        case measure => simp [intOf]; omega
    · have hltz : ¬ (k : Int) < (n : Int) := by omega
      have HF : Hid (plc L s 1 = 0) := Lib.hid (by rw [HP.out, List.drop_of_length_le (by have := HL.out; omega)]; rfl)
      go_wp2_with fail
      go_ret
      exact ⟨by rw [HF.out]; rfl, rfl⟩
set_option maxRecDepth 100000 in
set_option maxHeartbeats 1000000 in
theorem numbered_any (b : Nat) (L : List (List UInt8)) (n cap : Nat) (z : Int) (w : World) (hl : L.length = n) (hn : n ≤ 10000) (h0 : 0 < n) (hT : TxAt w b L) :
    Calls Try.prog 48 #[.slice (some ⟨b, 0, none⟩) n cap, .int .i64 z] w fun e w' => e = .returned (.string ⟨(txtP L z).toArray⟩) ∧ w' = w := by
  have HL := Lib.hid hl
  by_cases h1 : 1 ≤ z
  · by_cases h2 : z ≤ n
    · obtain ⟨k, rfl⟩ : ∃ k : Nat, z = (k : Int) + 1 := ⟨(z - 1).toNat, by omega⟩
      have hkl : k < L.length := by omega
      have d1 := hT k hkl
      have e : txtP L ((k : Int) + 1) = L[k] := by
        unfold txtP
        rw [if_pos ⟨h1, by omega⟩]
        have : ((k : Int) + 1).toNat - 1 = k := by omega
        rw [this]; simp [hkl]
      obtain ⟨x, hx⟩ : ∃ x, L[k] = x := ⟨_, rfl⟩
      rw [hx] at d1 e
      rw [e]
      have z1 : ¬ (k : Int) + 1 < 1 := by omega
      have z2 : ¬ (n : Int) < (k : Int) + 1 := by omega
      have z3 : (k : Int) < (n : Int) := by omega
      have hw : IntKind.i64.wrap ((k : Int) + 1 - 1) = (k : Int) := by
        rw [show (k : Int) + 1 - 1 = (k : Int) by omega]; exact IntWalk.i64_in _ (by omega)
      have hkn : (0 : Int) ≤ (k : Int) := by omega
      clear hT hx e hkl hl
      go_enter Try.func48, Try.ntmps48
      go_wp2_with fail
      go_ret
      exact ⟨rfl, rfl⟩
    · have e : txtP L z = [] := by unfold txtP; rw [if_neg (by omega)]
      rw [e]
      have z2 : (n : Int) < z := by omega
      clear hT e hl
      go_enter Try.func48, Try.ntmps48
      go_wp2_with fail
      go_ret
      exact ⟨rfl, rfl⟩
  · have e : txtP L z = [] := by unfold txtP; rw [if_neg (by omega)]
    rw [e]
    have z1 : z < 1 := by omega
    clear hT e hl
    go_enter Try.func48, Try.ntmps48
    go_wp2_with fail
    go_ret
    exact ⟨rfl, rfl⟩
theorem words_len : wordsL.length = 30 := rfl
theorem units_len : unitsL.length = 8 := rfl
set_option maxRecDepth 100000 in
theorem Word_any (s : List UInt8) (w : World) : Calls Try.prog 12 #[.string ⟨s.toArray⟩] w fun e w' => e = .returned (.int .i64 (wordP s : Nat)) ∧ Below w.heap.size w w' := by
  have N := Lib.hid (number_any w.heap.size wordsL 30 30 s (w.alloc (.cells (txcs wordsL) 9)) rfl (by omega) (TxAt.made w wordsL))
  go_enter Try.func12, Try.ntmps12
  go_wp2_with fail
  refine (words_any _).mono ?_
  rintro e w' ⟨rfl, rfl⟩
  generalize hW : w.alloc (.cells (txcs wordsL) 9) = W at *
  have HB : Hid (Below w.heap.size w W) := Lib.hid (by rw [← hW]; exact (Below.refl _ _).alloc (Nat.le_refl _) _)
  clear hW
  go_wp2_with fail
  refine (N.out).mono ?_
  rintro e w' ⟨rfl, rfl⟩
  go_wp2_with fail
  go_ret
  exact ⟨rfl, HB.out⟩
set_option maxRecDepth 100000 in
theorem Text9_any (z : Int) (w : World) : Calls Try.prog 35 #[.int .i64 z] w fun e w' => e = .returned (.string ⟨(txtP wordsL z).toArray⟩) ∧ Below w.heap.size w w' := by
  have N := Lib.hid (numbered_any w.heap.size wordsL 30 30 z (w.alloc (.cells (txcs wordsL) 9)) rfl (by omega) (by omega) (TxAt.made w wordsL))
  go_enter Try.func35, Try.ntmps35
  go_wp2_with fail
  refine (words_any _).mono ?_
  rintro e w' ⟨rfl, rfl⟩
  generalize hW : w.alloc (.cells (txcs wordsL) 9) = W at *
  have HB : Hid (Below w.heap.size w W) := Lib.hid (by rw [← hW]; exact (Below.refl _ _).alloc (Nat.le_refl _) _)
  clear hW
  go_wp2_with fail
  refine (N.out).mono ?_
  rintro e w' ⟨rfl, rfl⟩
  go_wp2_with fail
  go_ret
  exact ⟨rfl, HB.out⟩
end Go.Proofs.Ytlngipglhlhhbaa
