/- Joined texts: SelW1 SelW6 SelW2 SelW3 SelW4 SelW5. -/
import Derived.Test.YtfbfndknhabmhaaGreatSelMa
import Derived.Test.YtfbfndknhabmhaaGreatWalkA
import Derived.Test.YtfbfndknhabmhaaGreatSynUa
import Derived.OwnWalk
import Derived.Lib.QuietBelow
import Derived.Test.YtfbfndknhabmhaaGreatSelGa
import Derived.Deep.RegionWith
import Derived.StillTailTactics
import Derived.Laws.Bits64b
import Derived.IntWalk
namespace Go.Proofs.YtfbfndknhabmhaaGreat
open Go.RowKit TreN LexP FixP SynP ValP SelP FixM
set_option linter.unusedVariables false

set_option maxRecDepth 100000 in
set_option maxHeartbeats 2000000 in
theorem IndexStr_any (q : Nat) (caps : Array Value) (p : List UInt8 → Bool) (eq : ∀ args w, (callFunc q args).run Tryz.prog w = .ok (.enter q args) w) (a : Option Addr) (l : List (List UInt8)) (cap : Nat) (w : World)
    (hf : ∀ t ∈ l, ∀ W, Below w.heap.size w W → Calls Tryz.prog q (#[.string ⟨t.toArray⟩] ++ caps) W fun e W' => e = .returned (.bool (p t)) ∧ Below W.heap.size W W') (hl : l.length ≤ 100000) (hT : Txs w a l) :
    Calls Tryz.prog 61 #[.slice a l.length cap, .func (.func q) #[] caps] w fun e w' => (∃ z : Int, e = .returned (.int .i64 z) ∧ decide (0 ≤ z) = l.any p) ∧ Below w.heap.size w w' := by
  have HT := Lib.hid hT
  have HF := Lib.hid hf
  obtain ⟨n, hn⟩ : ∃ n, l.length = n := ⟨_, rfl⟩
  have HN := Lib.hid hn
  rw [hn] at hl ⊢
  clear hT hf hn
  go_enter Tryz.func61, Tryz.ntmps61
  go_wp2_with fail
  go_loopw [8] (fun vi wr => ∃ k : Nat, vi = .int .i64 (k : Int) ∧ k ≤ n ∧ Hid (Below w.heap.size w wr) ∧ Hid (∀ j (hj : j < l.length), j < k → p l[j] = false)) (fun vi _ => n - (intOf vi).toNat)
  case atStart => exact ⟨0, rfl, by omega, Lib.hid (Below.refl _ _), Lib.hid fun j hj h => by omega⟩
  case round =>
    obtain ⟨k, rfl, hk, HB, HJ⟩ := hrel
    by_cases hlt : k < n
    · have hltz : (k : Int) < (n : Int) := by omega
      have hkl : k < l.length := by have := HN.out; omega
      obtain ⟨b1, o1, rfl, g1, k1⟩ := HT.out.get hkl
      obtain ⟨t, ht⟩ : ∃ t, l[k] = t := ⟨_, rfl⟩
      rw [ht] at k1
      have hmem : t ∈ l := by rw [← ht]; exact List.getElem_mem hkl
      have C := fun W hW => HF.out t hmem W hW
      obtain ⟨tf, htf⟩ : ∃ b, p t = b := ⟨_, rfl⟩
      rw [htf] at C
      have CC := Lib.hid C
      have d1 : wr.cell? ⟨b1, o1 + k, none⟩ = some (.string ⟨t.toArray⟩) := (HB.out.cell (p := ⟨b1, o1 + k, none⟩) g1).trans k1
      have HTT := Lib.hid ht
      have HTF := Lib.hid htf
      have HMM := Lib.hid hmem
      clear k1 C ht htf hmem
      cases tf
      · go_wp2_with fail
        refine (CC.out _ HB.out).mono ?_
        rintro e w2 ⟨rfl, hb⟩
        have HB2 := Lib.hid (HB.out.trans (hb.mono HB.out.size))
        clear hb CC
        go_wp2_with fail
        go_roundw
        case rel =>
          refine ⟨k + 1, by go_num, by omega, HB2, Lib.hid fun j hj h => ?_⟩
          by_cases c : j = k
          · subst c; rw [HTT.out, HTF.out]
          · exact HJ.out j hj (by omega)
        case measure => simp [intOf]; omega
      · have HA : Hid (decide (0 ≤ (k : Int)) = l.any p) := Lib.hid (by
          have h1 : l.any p = true := by rw [List.any_eq_true]; exact ⟨t, HMM.out, HTF.out⟩
          rw [h1, decide_eq_true_eq]; omega)
        go_wp2_with fail
        refine (CC.out _ HB.out).mono ?_
        rintro e w2 ⟨rfl, hb⟩
        have HB2 := Lib.hid (HB.out.trans (hb.mono HB.out.size))
        clear hb CC
        go_wp2_with fail
        go_ret
        exact ⟨⟨_, rfl, HA.out⟩, HB2.out⟩
    · have HA : Hid (decide (0 ≤ (-1 : Int)) = l.any p) := Lib.hid (by
        have h1 : l.any p = false := by
          rw [List.any_eq_false]
          intro t ht
          obtain ⟨j, hj, e⟩ := List.getElem_of_mem ht
          have hn := HN.out
          rw [← e, HJ.out j hj (by omega)]; simp
        rw [h1]; rfl)
      have hltz : ¬ (k : Int) < (n : Int) := by omega
      go_wp2_with fail
      go_ret
      exact ⟨⟨_, rfl, HA.out⟩, HB.out⟩

set_option maxRecDepth 100000 in
set_option maxHeartbeats 1000000 in
theorem ContainsStr_any (q : Nat) (caps : Array Value) (p : List UInt8 → Bool) (eq : ∀ args w, (callFunc q args).run Tryz.prog w = .ok (.enter q args) w) (a : Option Addr) (l : List (List UInt8)) (cap : Nat) (w : World)
    (hf : ∀ t ∈ l, ∀ W, Below w.heap.size w W → Calls Tryz.prog q (#[.string ⟨t.toArray⟩] ++ caps) W fun e W' => e = .returned (.bool (p t)) ∧ Below W.heap.size W W') (hl : l.length ≤ 100000) (hT : Txs w a l) :
    Calls Tryz.prog 36 #[.slice a l.length cap, .func (.func q) #[] caps] w fun e w' => e = .returned (.bool (l.any p)) ∧ Below w.heap.size w w' := by
  have C := Lib.hid (IndexStr_any q caps p eq a l cap w hf hl hT)
  obtain ⟨b, hb⟩ : ∃ b, l.any p = b := ⟨_, rfl⟩
  rw [hb] at C ⊢
  obtain ⟨n, hn⟩ : ∃ n, l.length = n := ⟨_, rfl⟩
  rw [hn] at C ⊢
  clear hf hl hT hn hb
  go_enter Tryz.func36, Tryz.ntmps36
  go_wp2_with fail
  refine C.out.mono ?_
  rintro e w1 ⟨⟨z, rfl, hz⟩, hb1⟩
  have HB := Lib.hid hb1
  have HZ := Lib.hid hz
  clear hb1 hz C
  go_wp2_with fail
  go_ret
  exact ⟨ret_bool HZ.out, HB.out⟩

set_option maxRecDepth 100000 in
set_option maxHeartbeats 2000000 in
theorem IndexTst_any (q : Nat) (caps : Array Value) (p : Tst → Bool) (eq : ∀ args w, (callFunc q args).run Tryz.prog w = .ok (.enter q args) w) (a : Option Addr) (l : List (Tst)) (cap : Nat) (w : World)
    (hf : ∀ t ∈ l, ∀ W, Below w.heap.size w W → Calls Tryz.prog q (#[.agg #[.string ⟨t.name.toArray⟩, .bool t.equal, .string ⟨t.value.toArray⟩]] ++ caps) W fun e W' => e = .returned (.bool (p t)) ∧ Below W.heap.size W W') (hl : l.length ≤ 100000) (hT : Tss w a l) :
    Calls Tryz.prog 62 #[.slice a l.length cap, .func (.func q) #[] caps] w fun e w' => (∃ z : Int, e = .returned (.int .i64 z) ∧ decide (0 ≤ z) = l.any p) ∧ Below w.heap.size w w' := by
  have HT := Lib.hid hT
  have HF := Lib.hid hf
  obtain ⟨n, hn⟩ : ∃ n, l.length = n := ⟨_, rfl⟩
  have HN := Lib.hid hn
  rw [hn] at hl ⊢
  clear hT hf hn
  go_enter Tryz.func62, Tryz.ntmps62
  go_wp2_with fail
  go_loopw [8] (fun vi wr => ∃ k : Nat, vi = .int .i64 (k : Int) ∧ k ≤ n ∧ Hid (Below w.heap.size w wr) ∧ Hid (∀ j (hj : j < l.length), j < k → p l[j] = false)) (fun vi _ => n - (intOf vi).toNat)
  case atStart => exact ⟨0, rfl, by omega, Lib.hid (Below.refl _ _), Lib.hid fun j hj h => by omega⟩
  case round =>
    obtain ⟨k, rfl, hk, HB, HJ⟩ := hrel
    by_cases hlt : k < n
    · have hltz : (k : Int) < (n : Int) := by omega
      have hkl : k < l.length := by have := HN.out; omega
      obtain ⟨b1, o1, rfl, g1, k1, k2, k3⟩ := HT.out.get hkl
      obtain ⟨t, ht⟩ : ∃ t, l[k] = t := ⟨_, rfl⟩
      rw [ht] at k1 k2 k3
      have hmem : t ∈ l := by rw [← ht]; exact List.getElem_mem hkl
      have C := fun W hW => HF.out t hmem W hW
      obtain ⟨tf, htf⟩ : ∃ b, p t = b := ⟨_, rfl⟩
      rw [htf] at C
      have CC := Lib.hid C
      have d1 : wr.cell? ⟨b1, o1 + k * 3, none⟩ = some (.string ⟨t.name.toArray⟩) := (HB.out.cell (p := ⟨b1, o1 + k * 3, none⟩) g1).trans k1
      have d2 : wr.cell? ⟨b1, o1 + k * 3 + 1, none⟩ = some (.bool t.equal) := (HB.out.cell (p := ⟨b1, o1 + k * 3 + 1, none⟩) g1).trans k2
      have d3 : wr.cell? ⟨b1, o1 + k * 3 + 2, none⟩ = some (.string ⟨t.value.toArray⟩) := (HB.out.cell (p := ⟨b1, o1 + k * 3 + 2, none⟩) g1).trans k3
      have HTT := Lib.hid ht
      have HTF := Lib.hid htf
      have HMM := Lib.hid hmem
      clear k1 k2 k3 C ht htf hmem
      cases tf
      · go_wp2_with fail
        refine (CC.out _ HB.out).mono ?_
        rintro e w2 ⟨rfl, hb⟩
        have HB2 := Lib.hid (HB.out.trans (hb.mono HB.out.size))
        clear hb CC
        go_wp2_with fail
        go_roundw
        case rel =>
          refine ⟨k + 1, by go_num, by omega, HB2, Lib.hid fun j hj h => ?_⟩
          by_cases c : j = k
          · subst c; rw [HTT.out, HTF.out]
          · exact HJ.out j hj (by omega)
        case measure => simp [intOf]; omega
      · have HA : Hid (decide (0 ≤ (k : Int)) = l.any p) := Lib.hid (by
          have h1 : l.any p = true := by rw [List.any_eq_true]; exact ⟨t, HMM.out, HTF.out⟩
          rw [h1, decide_eq_true_eq]; omega)
        go_wp2_with fail
        refine (CC.out _ HB.out).mono ?_
        rintro e w2 ⟨rfl, hb⟩
        have HB2 := Lib.hid (HB.out.trans (hb.mono HB.out.size))
        clear hb CC
        go_wp2_with fail
        go_ret
        exact ⟨⟨_, rfl, HA.out⟩, HB2.out⟩
    · have HA : Hid (decide (0 ≤ (-1 : Int)) = l.any p) := Lib.hid (by
        have h1 : l.any p = false := by
          rw [List.any_eq_false]
          intro t ht
          obtain ⟨j, hj, e⟩ := List.getElem_of_mem ht
          have hn := HN.out
          rw [← e, HJ.out j hj (by omega)]; simp
        rw [h1]; rfl)
      have hltz : ¬ (k : Int) < (n : Int) := by omega
      go_wp2_with fail
      go_ret
      exact ⟨⟨_, rfl, HA.out⟩, HB.out⟩

set_option maxRecDepth 100000 in
set_option maxHeartbeats 1000000 in
theorem ContainsTst_any (q : Nat) (caps : Array Value) (p : Tst → Bool) (eq : ∀ args w, (callFunc q args).run Tryz.prog w = .ok (.enter q args) w) (a : Option Addr) (l : List (Tst)) (cap : Nat) (w : World)
    (hf : ∀ t ∈ l, ∀ W, Below w.heap.size w W → Calls Tryz.prog q (#[.agg #[.string ⟨t.name.toArray⟩, .bool t.equal, .string ⟨t.value.toArray⟩]] ++ caps) W fun e W' => e = .returned (.bool (p t)) ∧ Below W.heap.size W W') (hl : l.length ≤ 100000) (hT : Tss w a l) :
    Calls Tryz.prog 37 #[.slice a l.length cap, .func (.func q) #[] caps] w fun e w' => e = .returned (.bool (l.any p)) ∧ Below w.heap.size w w' := by
  have C := Lib.hid (IndexTst_any q caps p eq a l cap w hf hl hT)
  obtain ⟨b, hb⟩ : ∃ b, l.any p = b := ⟨_, rfl⟩
  rw [hb] at C ⊢
  obtain ⟨n, hn⟩ : ∃ n, l.length = n := ⟨_, rfl⟩
  rw [hn] at C ⊢
  clear hf hl hT hn hb
  go_enter Tryz.func37, Tryz.ntmps37
  go_wp2_with fail
  refine C.out.mono ?_
  rintro e w1 ⟨⟨z, rfl, hz⟩, hb1⟩
  have HB := Lib.hid hb1
  have HZ := Lib.hid hz
  clear hb1 hz C
  go_wp2_with fail
  go_ret
  exact ⟨ret_bool HZ.out, HB.out⟩

set_option maxRecDepth 100000 in
set_option maxHeartbeats 2000000 in
theorem IndexSel_any (q : Nat) (caps : Array Value) (p : SelV → Bool) (eq : ∀ args w, (callFunc q args).run Tryz.prog w = .ok (.enter q args) w) (a : Option Addr) (l : List (SelV)) (cap : Nat) (w : World)
    (hf : ∀ t ∈ l, ∀ W, Below w.heap.size w W → Calls Tryz.prog q (#[.agg #[t.val]] ++ caps) W fun e W' => e = .returned (.bool (p t)) ∧ Below W.heap.size W W') (hl : l.length ≤ 100000) (hT : Sls w a l) :
    Calls Tryz.prog 80 #[.slice a l.length cap, .func (.func q) #[] caps] w fun e w' => (∃ z : Int, e = .returned (.int .i64 z) ∧ decide (0 ≤ z) = l.any p) ∧ Below w.heap.size w w' := by
  have HT := Lib.hid hT
  have HF := Lib.hid hf
  obtain ⟨n, hn⟩ : ∃ n, l.length = n := ⟨_, rfl⟩
  have HN := Lib.hid hn
  rw [hn] at hl ⊢
  clear hT hf hn
  go_enter Tryz.func80, Tryz.ntmps80
  go_wp2_with fail
  go_loopw [8] (fun vi wr => ∃ k : Nat, vi = .int .i64 (k : Int) ∧ k ≤ n ∧ Hid (Below w.heap.size w wr) ∧ Hid (∀ j (hj : j < l.length), j < k → p l[j] = false)) (fun vi _ => n - (intOf vi).toNat)
  case atStart => exact ⟨0, rfl, by omega, Lib.hid (Below.refl _ _), Lib.hid fun j hj h => by omega⟩
  case round =>
    obtain ⟨k, rfl, hk, HB, HJ⟩ := hrel
    by_cases hlt : k < n
    · have hltz : (k : Int) < (n : Int) := by omega
      have hkl : k < l.length := by have := HN.out; omega
      obtain ⟨b1, o1, rfl, g1, k1, kok⟩ := HT.out.get hkl
      obtain ⟨t, ht⟩ : ∃ t, l[k] = t := ⟨_, rfl⟩
      rw [ht] at k1 kok
      have hmem : t ∈ l := by rw [← ht]; exact List.getElem_mem hkl
      have C := fun W hW => HF.out t hmem W hW
      obtain ⟨tf, htf⟩ : ∃ b, p t = b := ⟨_, rfl⟩
      rw [htf] at C
      have CC := Lib.hid C
      have d1 : wr.cell? ⟨b1, o1 + k, none⟩ = some t.val := (HB.out.cell (p := ⟨b1, o1 + k, none⟩) g1).trans k1
      unfold SelV.val at CC d1
      have HTT := Lib.hid ht
      have HTF := Lib.hid htf
      have HMM := Lib.hid hmem
      clear k1 kok C ht htf hmem
      cases tf
      · go_wp2_with fail
        refine (CC.out _ HB.out).mono ?_
        rintro e w2 ⟨rfl, hb⟩
        have HB2 := Lib.hid (HB.out.trans (hb.mono HB.out.size))
        clear hb CC
        go_wp2_with fail
        go_roundw
        case rel =>
          refine ⟨k + 1, by go_num, by omega, HB2, Lib.hid fun j hj h => ?_⟩
          by_cases c : j = k
          · subst c; rw [HTT.out, HTF.out]
          · exact HJ.out j hj (by omega)
        case measure => simp [intOf]; omega
      · have HA : Hid (decide (0 ≤ (k : Int)) = l.any p) := Lib.hid (by
          have h1 : l.any p = true := by rw [List.any_eq_true]; exact ⟨t, HMM.out, HTF.out⟩
          rw [h1, decide_eq_true_eq]; omega)
        go_wp2_with fail
        refine (CC.out _ HB.out).mono ?_
        rintro e w2 ⟨rfl, hb⟩
        have HB2 := Lib.hid (HB.out.trans (hb.mono HB.out.size))
        clear hb CC
        go_wp2_with fail
        go_ret
        exact ⟨⟨_, rfl, HA.out⟩, HB2.out⟩
    · have HA : Hid (decide (0 ≤ (-1 : Int)) = l.any p) := Lib.hid (by
        have h1 : l.any p = false := by
          rw [List.any_eq_false]
          intro t ht
          obtain ⟨j, hj, e⟩ := List.getElem_of_mem ht
          have hn := HN.out
          rw [← e, HJ.out j hj (by omega)]; simp
        rw [h1]; rfl)
      have hltz : ¬ (k : Int) < (n : Int) := by omega
      go_wp2_with fail
      go_ret
      exact ⟨⟨_, rfl, HA.out⟩, HB.out⟩

set_option maxRecDepth 100000 in
set_option maxHeartbeats 1000000 in
theorem ContainsSel_any (q : Nat) (caps : Array Value) (p : SelV → Bool) (eq : ∀ args w, (callFunc q args).run Tryz.prog w = .ok (.enter q args) w) (a : Option Addr) (l : List (SelV)) (cap : Nat) (w : World)
    (hf : ∀ t ∈ l, ∀ W, Below w.heap.size w W → Calls Tryz.prog q (#[.agg #[t.val]] ++ caps) W fun e W' => e = .returned (.bool (p t)) ∧ Below W.heap.size W W') (hl : l.length ≤ 100000) (hT : Sls w a l) :
    Calls Tryz.prog 48 #[.slice a l.length cap, .func (.func q) #[] caps] w fun e w' => e = .returned (.bool (l.any p)) ∧ Below w.heap.size w w' := by
  have C := Lib.hid (IndexSel_any q caps p eq a l cap w hf hl hT)
  obtain ⟨b, hb⟩ : ∃ b, l.any p = b := ⟨_, rfl⟩
  rw [hb] at C ⊢
  obtain ⟨n, hn⟩ : ∃ n, l.length = n := ⟨_, rfl⟩
  rw [hn] at C ⊢
  clear hf hl hT hn hb
  go_enter Tryz.func48, Tryz.ntmps48
  go_wp2_with fail
  refine C.out.mono ?_
  rintro e w1 ⟨⟨z, rfl, hz⟩, hb1⟩
  have HB := Lib.hid hb1
  have HZ := Lib.hid hz
  clear hb1 hz C
  go_wp2_with fail
  go_ret
  exact ⟨ret_bool HZ.out, HB.out⟩
end Go.Proofs.YtfbfndknhabmhaaGreat

namespace Go.Proofs.YtfbfndknhabmhaaGreat
open Go.RowKit TreN LexP FixP SynP ValP SelP FixM
set_option linter.unusedVariables false

set_option maxRecDepth 100000 in
set_option maxHeartbeats 1000000 in
theorem mark_any (c : Int) (h2 : 2 ≤ c) (h4 : c ≤ 4) (w : World) : Calls Tryz.prog 82 #[.int .i64 c] w fun e w' => e = .returned (.string ⟨(markS c).toArray⟩) ∧ w' = w := by
  rcases (by omega : c = 2 ∨ c = 3 ∨ c = 4) with rfl | rfl | rfl
  all_goals
    go_enter Tryz.func82, Tryz.ntmps82
    go_wp2_with fail
    go_ret
    refine ⟨?_, rfl⟩
    rfl
set_option maxRecDepth 100000 in
set_option maxHeartbeats 1000000 in
theorem word7_any (n : Int) (w : World) : Calls Tryz.prog 85 #[.int .i64 n] w fun e w' => e = .returned (.string ⟨(wordS n).toArray⟩) ∧ w' = w := by
  by_cases h1 : n = 1
  · subst h1
    go_enter Tryz.func85, Tryz.ntmps85
    go_wp2_with fail
    go_ret
    exact ⟨rfl, rfl⟩
  · have z1 : (n == 1) = false := by rw [beq_eq_false_iff_ne]; exact h1
    by_cases h2 : n = 2
    · subst h2
      clear h1 z1
      go_enter Tryz.func85, Tryz.ntmps85
      go_wp2_with fail
      go_ret
      exact ⟨rfl, rfl⟩
    · have z2 : (n == 2) = false := by rw [beq_eq_false_iff_ne]; exact h2
      have hw : wordS n = lastT := by unfold wordS; rw [if_neg h1, if_neg h2]
      rw [hw]
      clear h1 h2 hw
      go_enter Tryz.func85, Tryz.ntmps85
      go_wp2_with fail
      go_ret
      exact ⟨rfl, rfl⟩
theorem told_nil7 {w w' : World} (hb : Below w.heap.size w w') : ToldCap w [] (.returned (.slice none 0 0)) w' := ⟨none, 0, rfl, Or.inl rfl, hb, Nat.le_refl _, Nat.zero_le _⟩
theorem told_made7 {w W : World} (l : List Tok) (n : Nat) (hn : l.length = n) (hm : n ≤ 1000) (hb : Below w.heap.size w W) : ToldCap w l (.returned (.slice (some ⟨W.heap.size, 0, none⟩) n n)) (W.alloc (.cells (tkcs l).toArray 70)) :=
  ⟨_, n, by rw [hn], made_toks7 W l, hb.alloc hb.size _, by omega, by unfold maxLen; omega⟩
theorem told_drew7 {w w' : World} {l : List Tok} {e : Ending} (h : ToldCap w l e w') : ToldCap w l e w'.drew := by
  obtain ⟨a, c, h1, h2, h3, h4, h5⟩ := h
  exact ⟨a, c, h1, h2.below ((Below.refl _ _).drew), h3.drew, h4, h5⟩
end Go.Proofs.YtfbfndknhabmhaaGreat

namespace Go.Proofs.YtfbfndknhabmhaaGreat
open Go.RowKit TreN LexP FixP SynP ValP SelP FixM
set_option linter.unusedVariables false

theorem name7 (x : List UInt8) (hx : x.length ≤ maxLen) (w : World) : Calls Tryz.prog 32 #[.string ⟨x.toArray⟩] w fun e w' => e = .returned (.bool (nameL x)) ∧ w = w' := Name_any ⟨x.toArray⟩ (by show x.toArray.size ≤ maxLen; simpa using hx) w
theorem textC7 (x : List UInt8) (hx : x.length ≤ maxLen) (w : World) : Calls Tryz.prog 60 #[.string ⟨x.toArray⟩] w fun e w' => e = .returned (.bool (textL x)) ∧ w = w' := Text_any ⟨x.toArray⟩ (by show x.toArray.size ≤ maxLen; simpa using hx) w
set_option maxRecDepth 100000 in
set_option maxHeartbeats 1000000 in
theorem nameOrNone_any (x : List UInt8) (hx : x.length ≤ maxLen) (w : World) : Calls Tryz.prog 35 #[.string ⟨x.toArray⟩] w fun e w' => e = .returned (.bool (orNone x)) ∧ w = w' := by
  have C := Lib.hid (name7 x hx w)
  cases x with
  | nil =>
    have ho : orNone [] = true := rfl
    rw [ho]
    clear hx ho
    go_enter Tryz.func35, Tryz.ntmps35
    go_wp2_with fail
    go_ret
    exact ⟨rfl, rfl⟩
  | cons c r =>
    have ho : orNone (c :: r) = nameL (c :: r) := rfl
    rw [ho]
    obtain ⟨b, hb⟩ : ∃ b, nameL (c :: r) = b := ⟨_, rfl⟩
    rw [hb] at C ⊢
    clear hx ho hb
    go_enter Tryz.func35, Tryz.ntmps35
    go_wp2_with fail
    refine C.out.mono ?_
    rintro e w1 ⟨rfl, rfl⟩
    go_wp2_with fail
    go_ret
    exact ⟨rfl, rfl⟩
set_option maxRecDepth 100000 in
set_option maxHeartbeats 1000000 in
theorem rightTest_any (t : Tst) (ht : TstOk t) (w : World) : Calls Tryz.prog 34 #[.agg #[.string ⟨t.name.toArray⟩, .bool t.equal, .string ⟨t.value.toArray⟩]] w fun e w' => e = .returned (.bool (rightT t)) ∧ Below w.heap.size w w' := by
  obtain ⟨n, q, v⟩ := t
  obtain ⟨h1, h2⟩ := ht
  have C1 := Lib.hid (fun W => name7 n h1 W)
  have C2 := Lib.hid (fun W => textC7 v h2 W)
  show Calls _ _ #[.agg #[.string ⟨n.toArray⟩, .bool q, .string ⟨v.toArray⟩]] _ _
  have HB := Lib.hid (below_one7 w (.cells #[.string ⟨n.toArray⟩, .bool q, .string ⟨v.toArray⟩] 57))
  have hr : rightT ⟨n, q, v⟩ = (nameL n && (if q = true then textL v else decide (v = []))) := rfl
  rw [hr]
  obtain ⟨b, hb⟩ : ∃ b, nameL n = b := ⟨_, rfl⟩
  obtain ⟨c, hc⟩ : ∃ b, textL v = b := ⟨_, rfl⟩
  rw [hb] at C1 ⊢
  rw [hc] at C2 ⊢
  clear h1 h2 hr hb hc
  cases q
  · have hf : (if false = true then c else decide (v = [])) = decide (v = []) := rfl
    rw [hf]
    have hv : (v = [] ∧ decide (v = []) = true) ∨ (∃ x r, v = x :: r ∧ decide (v = []) = false) := by
      cases v with
      | nil => exact Or.inl ⟨rfl, rfl⟩
      | cons x r => exact Or.inr ⟨x, r, rfl, rfl⟩
    cases b
    · rw [Bool.false_and]
      clear hf hv
      go_enter Tryz.func34, Tryz.ntmps34
      go_wp2_with fail
      refine (C1.out _).mono ?_
      rintro e w1 ⟨rfl, rfl⟩
      go_wp2_with fail
      go_ret
      exact ⟨rfl, HB.out⟩
    · rw [Bool.true_and]
      clear hf
      rcases hv with ⟨rfl, hv⟩ | ⟨x, r, rfl, hv⟩
      · rw [hv]
        clear hv
        go_enter Tryz.func34, Tryz.ntmps34
        go_wp2_with fail
        refine (C1.out _).mono ?_
        rintro e w1 ⟨rfl, rfl⟩
        go_wp2_with fail
        go_ret
        exact ⟨rfl, HB.out⟩
      · rw [hv]
        clear hv
        go_enter Tryz.func34, Tryz.ntmps34
        go_wp2_with fail
        refine (C1.out _).mono ?_
        rintro e w1 ⟨rfl, rfl⟩
        go_wp2_with fail
        go_ret
        exact ⟨rfl, HB.out⟩
  · have hf : (if true = true then c else decide (v = [])) = c := rfl
    rw [hf]
    clear hf
    cases b
    · rw [Bool.false_and]
      go_enter Tryz.func34, Tryz.ntmps34
      go_wp2_with fail
      refine (C1.out _).mono ?_
      rintro e w1 ⟨rfl, rfl⟩
      go_wp2_with fail
      go_ret
      exact ⟨rfl, HB.out⟩
    · rw [Bool.true_and]
      go_enter Tryz.func34, Tryz.ntmps34
      go_wp2_with fail
      refine (C1.out _).mono ?_
      rintro e w1 ⟨rfl, rfl⟩
      go_wp2_with fail
      refine (C2.out _).mono ?_
      rintro e w1 ⟨rfl, rfl⟩
      go_wp2_with fail
      go_ret
      exact ⟨rfl, HB.out⟩
set_option maxRecDepth 100000 in
set_option maxHeartbeats 1000000 in
theorem right1_any (x : List UInt8) (hx : x.length ≤ maxLen) (w : World) : Calls Tryz.prog 31 #[.string ⟨x.toArray⟩] w fun e w' => e = .returned (.bool (!nameL x)) ∧ Below w.heap.size w w' := by
  have C := Lib.hid (name7 x hx w)
  obtain ⟨b, hb⟩ : ∃ b, nameL x = b := ⟨_, rfl⟩
  rw [hb] at C ⊢
  clear hx hb
  go_enter Tryz.func31, Tryz.ntmps31
  go_wp2_with fail
  refine C.out.mono ?_
  rintro e w1 ⟨rfl, rfl⟩
  go_wp2_with fail
  go_ret
  exact ⟨rfl, Below.refl _ _⟩
set_option maxRecDepth 100000 in
set_option maxHeartbeats 1000000 in
theorem right2_any (t : Tst) (ht : TstOk t) (w : World) : Calls Tryz.prog 33 #[.agg #[.string ⟨t.name.toArray⟩, .bool t.equal, .string ⟨t.value.toArray⟩]] w fun e w' => e = .returned (.bool (!rightT t)) ∧ Below w.heap.size w w' := by
  have C := Lib.hid (fun W => rightTest_any t ht W)
  obtain ⟨b, hb⟩ : ∃ b, rightT t = b := ⟨_, rfl⟩
  rw [hb] at C ⊢
  obtain ⟨n, q, v⟩ := t
  have C2 : Hid (∀ W : World, Calls Tryz.prog 34 #[.agg #[.string ⟨n.toArray⟩, .bool q, .string ⟨v.toArray⟩]] W fun e w' => e = .returned (.bool b) ∧ Below W.heap.size W w') := Lib.hid C.out
  show Calls _ _ #[.agg #[.string ⟨n.toArray⟩, .bool q, .string ⟨v.toArray⟩]] _ _
  have HB := Lib.hid (below_one7 w (.cells #[.string ⟨n.toArray⟩, .bool q, .string ⟨v.toArray⟩] 57))
  clear ht hb C
  go_enter Tryz.func33, Tryz.ntmps33
  go_wp2_with fail
  refine (C2.out _).mono ?_
  rintro e w1 ⟨rfl, hb1⟩
  have HB1 := Lib.hid (HB.out.trans (hb1.mono HB.out.size))
  clear hb1
  go_wp2_with fail
  go_ret
  exact ⟨rfl, HB1.out⟩
theorem enters_right1 : ∀ args w, (callFunc 31 args).run Tryz.prog w = .ok (.enter 31 args) w := enters_of Tryz.func31 (by kernel_rfl) rfl
theorem enters_right2 : ∀ args w, (callFunc 33 args).run Tryz.prog w = .ok (.enter 33 args) w := enters_of Tryz.func33 (by kernel_rfl) rfl
theorem any_not {α : Type} (l : List α) (p : α → Bool) : (l.any fun x => !p x) = !l.all p := by
  induction l with
  | nil => rfl
  | cons x l ih => rw [List.any_cons, List.all_cons, ih, Bool.not_and]
/-- a part as it is handed over -/
def PtV.arg (x : PtV) : Value := .agg x.cells.toArray
theorem PtV.arg_eq (x : PtV) : x.arg = .agg #[.int .i64 x.p.comb, .string ⟨x.p.tag.toArray⟩, .string ⟨x.p.id.toArray⟩, .slice x.ca x.p.classes.length x.cc, .slice x.ta x.p.tests.length x.tc, .int .i64 x.p.states] := rfl
set_option maxRecDepth 100000 in
set_option maxHeartbeats 4000000 in
theorem rightP_any (x : PtV) (w : World) (h : PtOk w x) : Calls Tryz.prog 18 #[x.arg] w fun e w' => e = .returned (.bool (rightPt x.p)) ∧ Below w.heap.size w w' := by
  rw [PtV.arg_eq]
  obtain ⟨⟨co, tg, id, cl, ts, st⟩, ca, cc, ta, tc⟩ := x
  obtain ⟨hcc, hcm, htc, htm, htg, hid, hcl, hts, hst, hC, hT⟩ := h
  simp only at hcc hcm htc htm htg hid hcl hts hst hC hT ⊢
  have hr : rightPt ⟨co, tg, id, cl, ts, st⟩ = (decide (cl.length ≤ 8) && (decide (ts.length ≤ 8) && (orNone tg && (orNone id && (decide (0 ≤ st) && (decide (st ≤ 7) && (cl.all nameL && ts.all rightT))))))) := rfl
  rw [hr]
  clear hr
  have hB := below_one7 w (.cells #[.int .i64 co, .string ⟨tg.toArray⟩, .string ⟨id.toArray⟩, .slice ca cl.length cc, .slice ta ts.length tc, .int .i64 st] 36)
  have hmf : ∀ (fn : Fn) (first cap : Array Value) (w : World), (Instr.makeFunc fn first cap).run Tryz.prog w = .ok (.func fn first cap) w := fun _ _ _ _ => rfl
  have HB := Lib.hid hB
  have z1 : (cl.length : Int) ≤ 9223372036854775807 := by unfold maxLen at hcm; omega
  have z2 : (ts.length : Int) ≤ 9223372036854775807 := by unfold maxLen at htm; omega
  by_cases h8 : cl.length ≤ 8
  · have e8 : decide (cl.length ≤ 8) = true := decide_eq_true h8
    by_cases k8 : ts.length ≤ 8
    · have f8 : decide (ts.length ≤ 8) = true := decide_eq_true k8
      have CN := Lib.hid (fun W => nameOrNone_any tg htg W)
      have CI := Lib.hid (fun W => nameOrNone_any id hid W)
      have CC := Lib.hid (fun (W : World) (hW : Below w.heap.size w W) => ContainsStr_any 31 #[] (fun x => !nameL x) enters_right1 ca cl cc W (fun t ht W' _ => right1_any t (hcl t ht) W') (by omega) (hC.below hW))
      have CT := Lib.hid (fun (W : World) (hW : Below w.heap.size w W) => ContainsTst_any 33 #[] (fun x => !rightT x) enters_right2 ta ts tc W (fun t ht W' _ => right2_any t (hts t ht) W') (by omega) (hT.below hW))
      rw [e8, f8, Bool.true_and, Bool.true_and]
      obtain ⟨b1, g1⟩ : ∃ b, orNone tg = b := ⟨_, rfl⟩
      obtain ⟨b2, g2⟩ : ∃ b, orNone id = b := ⟨_, rfl⟩
      obtain ⟨b3, g3⟩ : ∃ b, cl.all nameL = b := ⟨_, rfl⟩
      obtain ⟨b4, g4⟩ : ∃ b, ts.all rightT = b := ⟨_, rfl⟩
      simp only [any_not, g3] at CC
      simp only [any_not, g4] at CT
      rw [g1] at CN
      rw [g2] at CI
      rw [g1, g2, g3, g4]
      obtain ⟨n, hn⟩ : ∃ n, cl.length = n := ⟨_, rfl⟩
      obtain ⟨m, hm⟩ : ∃ n, ts.length = n := ⟨_, rfl⟩
      simp only [hn] at CC h8 HB ⊢
      simp only [hm] at CT k8 HB ⊢
      have y1 : ¬ (8 : Int) < (n : Int) := by omega
      have y2 : ¬ (8 : Int) < (m : Int) := by omega
      clear e8 f8 hn hm g1 g2 g3 g4 hB hcc hcm htc htm htg hid hcl hts hst hC hT z1 z2
      by_cases s0 : 0 ≤ st
      · have d0 : decide (0 ≤ st) = true := decide_eq_true s0
        by_cases s7 : st ≤ 7
        · have d7 : decide (st ≤ 7) = true := decide_eq_true s7
          rw [d0, d7, Bool.true_and, Bool.true_and]
          go_enter Tryz.func18, Tryz.ntmps18
          go_wp2_with fail
          refine (CN.out _).mono ?_
          rintro e w1 ⟨rfl, rfl⟩
          cases b1
          · go_wp2_with fail
            go_ret
            exact ⟨rfl, HB.out⟩
          · go_wp2_with fail
            refine (CI.out _).mono ?_
            rintro e w1 ⟨rfl, rfl⟩
            cases b2
            · go_wp2_with fail
              go_ret
              exact ⟨rfl, HB.out⟩
            · go_wp2_with fail
              refine (CC.out _ HB.out).mono ?_
              rintro e w2 ⟨rfl, hb2⟩
              have HB2 := Lib.hid (HB.out.trans (hb2.mono HB.out.size))
              have hc2 : w2.cell? ⟨w.heap.size, 4, none⟩ = some (.slice ta m tc) := by rw [hb2.cell (p := ⟨w.heap.size, 4, none⟩) (by simp)]; exact cell_of (heap_alloc_new w _) rfl
              clear hb2
              cases b3
              · go_wp2_with fail
                go_ret
                exact ⟨rfl, HB2.out⟩
              · go_wp2_with fail
                refine (CT.out _ HB2.out).mono ?_
                rintro e w3 ⟨rfl, hb3⟩
                have HB3 := Lib.hid (HB2.out.trans (hb3.mono HB2.out.size))
                clear hb3
                go_wp2_with fail
                go_ret
                exact ⟨ret_bool (by cases b4 <;> rfl), HB3.out⟩
        · have d7 : decide (st ≤ 7) = false := decide_eq_false s7
          rw [d0, d7, Bool.true_and, Bool.false_and, Bool.and_false, Bool.and_false]
          go_enter Tryz.func18, Tryz.ntmps18
          go_wp2_with fail
          refine (CN.out _).mono ?_
          rintro e w1 ⟨rfl, rfl⟩
          cases b1
          · go_wp2_with fail
            go_ret
            exact ⟨rfl, HB.out⟩
          · go_wp2_with fail
            refine (CI.out _).mono ?_
            rintro e w1 ⟨rfl, rfl⟩
            cases b2
            · go_wp2_with fail
              go_ret
              exact ⟨rfl, HB.out⟩
            · go_wp2_with fail
              go_ret
              exact ⟨rfl, HB.out⟩
      · have d0 : decide (0 ≤ st) = false := decide_eq_false s0
        rw [d0, Bool.false_and, Bool.and_false, Bool.and_false]
        go_enter Tryz.func18, Tryz.ntmps18
        go_wp2_with fail
        refine (CN.out _).mono ?_
        rintro e w1 ⟨rfl, rfl⟩
        cases b1
        · go_wp2_with fail
          go_ret
          exact ⟨rfl, HB.out⟩
        · go_wp2_with fail
          refine (CI.out _).mono ?_
          rintro e w1 ⟨rfl, rfl⟩
          cases b2
          · go_wp2_with fail
            go_ret
            exact ⟨rfl, HB.out⟩
          · go_wp2_with fail
            go_ret
            exact ⟨rfl, HB.out⟩
    · have f8 : decide (ts.length ≤ 8) = false := decide_eq_false k8
      rw [f8, Bool.false_and, Bool.and_false]
      obtain ⟨n, hn⟩ : ∃ n, cl.length = n := ⟨_, rfl⟩
      obtain ⟨m, hm⟩ : ∃ n, ts.length = n := ⟨_, rfl⟩
      simp only [hn] at h8 HB ⊢
      simp only [hm] at k8 HB ⊢
      have y1 : ¬ (8 : Int) < (n : Int) := by omega
      have y2 : (8 : Int) < (m : Int) := by omega
      clear e8 f8 hn hm hB hcc hcm htc htm htg hid hcl hts hst hC hT z1 z2
      go_enter Tryz.func18, Tryz.ntmps18
      go_wp2_with fail
      go_ret
      exact ⟨rfl, HB.out⟩
  · have e8 : decide (cl.length ≤ 8) = false := decide_eq_false h8
    rw [e8, Bool.false_and]
    obtain ⟨n, hn⟩ : ∃ n, cl.length = n := ⟨_, rfl⟩
    simp only [hn] at h8 HB ⊢
    have y1 : (8 : Int) < (n : Int) := by omega
    clear e8 hn hB hcc hcm htc htm htg hid hcl hts hst hC hT z1 z2
    go_enter Tryz.func18, Tryz.ntmps18
    go_wp2_with fail
    go_ret
    exact ⟨rfl, HB.out⟩
end Go.Proofs.YtfbfndknhabmhaaGreat

namespace Go.Proofs.YtfbfndknhabmhaaGreat
open Go.RowKit TreN LexP FixP SynP ValP SelP FixM
set_option linter.unusedVariables false

/-- a part, spelled out for the walk: its rows' lengths by name -/
theorem rightP_named (co st : Int) (tg id : List UInt8) (ca ta : Option Addr) (cc tc n m : Nat) (cl : List (List UInt8)) (ts : List Tst) (W : World) (hn : cl.length = n) (hm : ts.length = m) (h : PtOk W ⟨⟨co, tg, id, cl, ts, st⟩, ca, cc, ta, tc⟩) :
    Calls Tryz.prog 18 #[.agg #[.int .i64 co, .string ⟨tg.toArray⟩, .string ⟨id.toArray⟩, .slice ca n cc, .slice ta m tc, .int .i64 st]] W fun e w' => e = .returned (.bool (rightPt ⟨co, tg, id, cl, ts, st⟩)) ∧ Below W.heap.size W w' := by
  subst hn; subst hm
  exact rightP_any _ W h
theorem rightF_drop {l : List Prt} {k : Nat} (h : k < l.length) : rightF k (l.drop k) = (combB k l[k] && (rightPt l[k] && rightF (k + 1) (l.drop (k + 1)))) := by
  rw [List.drop_eq_getElem_cons h]; rfl
set_option maxRecDepth 100000 in
set_option maxHeartbeats 4000000 in
theorem RightS_any (s : SelV) (w : World) (h : SelOk w s) : Calls Tryz.prog 6 #[.agg #[s.val]] w fun e w' => e = .returned (.bool (rightS s.pure)) ∧ Below w.heap.size w w' := by
  obtain ⟨ps, a, c⟩ := s
  obtain ⟨hl, hc, hp⟩ := h
  unfold SelV.val
  simp only at hl hc hp ⊢
  have hP : (SelV.pure ⟨ps, a, c⟩) = ps.map PtV.p := rfl
  rw [hP]
  obtain ⟨P, hP⟩ : ∃ P, ps.map PtV.p = P := ⟨_, rfl⟩
  rw [hP]
  have hPl : P.length = ps.length := by rw [← hP, List.length_map]
  obtain ⟨n, hn⟩ : ∃ n, ps.length = n := ⟨_, rfl⟩
  rw [hn] at hl hPl
  have hr : rightS P = (decide (0 < n) && (decide (n ≤ 8) && rightF 0 P)) := by unfold rightS; rw [hPl]
  rw [hr]
  simp only [hn]
  have hz : (n : Int) ≤ 9223372036854775807 := by unfold maxLen at hc; omega
  have hB := below_one7 w (.cells #[.slice a n c] 24)
  have HB := Lib.hid hB
  have HP := Lib.hid hp
  have HPP := Lib.hid hP
  have HN := Lib.hid hn
  have HPL := Lib.hid hPl
  clear hP hp hn hr hPl hB hl hc
  by_cases h0 : n = 0
  · subst h0
    have e : decide (0 < 0) = false := rfl
    rw [e, Bool.false_and]
    clear e
    go_enter Tryz.func6, Tryz.ntmps6
    go_wp2_with fail
    go_ret
    exact ⟨rfl, HB.out⟩
  · have hn0 : 0 < n := by omega
    have e : decide (0 < n) = true := decide_eq_true hn0
    have hne : ((n : Int) == 0) = false := by rw [beq_eq_false_iff_ne]; omega
    rw [e, Bool.true_and]
    clear e
    by_cases h8 : n ≤ 8
    · have e : decide (n ≤ 8) = true := decide_eq_true h8
      have h8z : ¬ (8 : Int) < (n : Int) := by omega
      obtain ⟨R, hR⟩ : ∃ R, rightF 0 P = R := ⟨_, rfl⟩
      rw [e, Bool.true_and, hR]
      have HR := Lib.hid hR
      clear e hR
      go_enter Tryz.func6, Tryz.ntmps6
      go_wp2_with fail
      go_loopw [19] (fun vi wr => ∃ k : Nat, vi = .int .i64 (k : Int) ∧ k ≤ n ∧ Hid (Below w.heap.size w wr) ∧ Hid (rightF k (P.drop k) = R)) (fun vi _ => n - (intOf vi).toNat)
      case atStart => exact ⟨0, rfl, by omega, HB, HR⟩
      case round =>
        obtain ⟨k, rfl, hk, HBr, HJ⟩ := hrel
        by_cases hlt : k < n
        · have hltz : (k : Int) < (n : Int) := by omega
          have hkl : k < ps.length := by have := HN.out; omega
          obtain ⟨b, o, rfl, g1, hat, hok⟩ := HP.out.get hkl
          have hpk : P[k]'(by have := HPL.out; omega) = (ps[k]).p := by have := HPP.out; subst this; rw [List.getElem_map]
          have hj := HJ.out
          rw [rightF_drop (by have := HPL.out; omega), hpk] at hj
          obtain ⟨d0, d1, d2, d3, d4, d5⟩ := hat.below HBr.out g1
          have hok2 := fun W (hW : Below w.heap.size w W) => hok.below hW
          generalize ps[k] = x at *
          obtain ⟨⟨co, tg, id, cl, ts, st⟩, ca, cc, ta, tc⟩ := x
          simp only at d0 d1 d2 d3 d4 d5 hj
          obtain ⟨ln, hln⟩ : ∃ n, cl.length = n := ⟨_, rfl⟩
          obtain ⟨lm, hlm⟩ : ∃ n, ts.length = n := ⟨_, rfl⟩
          have CR := Lib.hid fun W (hW : Below w.heap.size w W) => rightP_named co st tg id ca ta cc tc ln lm cl ts W hln hlm (hok2 W hW)
          rw [hln] at d3
          rw [hlm] at d4
          obtain ⟨rp, hrp⟩ : ∃ b, rightPt ⟨co, tg, id, cl, ts, st⟩ = b := ⟨_, rfl⟩
          have hcb : combB k ⟨co, tg, id, cl, ts, st⟩ = if k = 0 then decide (co = 0) else decide (1 ≤ co) && decide (co ≤ 4) := rfl
          rw [hrp] at CR hj
          rw [hcb] at hj
          have HJJ := Lib.hid hj
          clear hat hok hok2 hpk hj hln hlm hrp hcb HJ
          obtain ⟨jb, hjb⟩ : ∃ jb, (if k = 0 then decide (co = 0) else decide (1 ≤ co) && decide (co ≤ 4)) = jb := ⟨_, rfl⟩
          have HJ3 : Hid ((jb && (rp && rightF (k + 1) (P.drop (k + 1)))) = R) := Lib.hid (by have := HJJ.out; rw [hjb] at this; exact this)
          clear HJJ
          by_cases hk0 : k = 0
          · rw [if_pos hk0] at hjb
            have hkz : ((k : Int) == 0) = true := by rw [beq_iff_eq]; omega
            have hcz : (co == 0) = jb := by rw [← hjb]; exact Bool.eq_iff_iff.2 (by simp)
            clear hjb hk0
            cases jb
            · rw [Bool.false_and] at HJ3
              by_cases h1 : 1 ≤ co
              all_goals
                go_wp2_with fail
                all_goals
                  go_ret
                  exact ⟨ret_bool HJ3.out, HBr.out.alloc HBr.out.size _⟩
            · rw [Bool.true_and] at HJ3
              have hc0 : co = 0 := by simpa using hcz
              subst hc0
              go_wp2_with fail
              refine (CR.out _ (HBr.out.alloc HBr.out.size _)).mono ?_
              rintro e w2 ⟨rfl, hb2⟩
              have HB2 := Lib.hid ((HBr.out.alloc HBr.out.size _).trans (hb2.mono (HBr.out.alloc HBr.out.size _).size))
              clear hb2
              cases rp
              · rw [Bool.false_and] at HJ3
                go_wp2_with fail
                go_ret
                exact ⟨ret_bool HJ3.out, HB2.out⟩
              · rw [Bool.true_and] at HJ3
                go_wp2_with fail
                go_roundw
                case rel => exact ⟨k + 1, by go_num, by omega, HB2, HJ3⟩
                case measure => simp [intOf]; omega
          · rw [if_neg hk0] at hjb
            have hkz : ((k : Int) == 0) = false := by rw [beq_eq_false_iff_ne]; omega
            by_cases h1 : 1 ≤ co
            · have hcz : decide (co ≤ 4) = jb := by rw [← hjb, decide_eq_true h1, Bool.true_and]
              have h1z : decide (1 ≤ co) = true := decide_eq_true h1
              clear hjb hk0
              cases jb
              · rw [Bool.false_and] at HJ3
                go_wp2_with fail
                go_ret
                exact ⟨ret_bool HJ3.out, HBr.out.alloc HBr.out.size _⟩
              · rw [Bool.true_and] at HJ3
                have h4 : co ≤ 4 := of_decide_eq_true hcz
                go_wp2_with fail
                refine (CR.out _ (HBr.out.alloc HBr.out.size _)).mono ?_
                rintro e w2 ⟨rfl, hb2⟩
                have HB2 := Lib.hid ((HBr.out.alloc HBr.out.size _).trans (hb2.mono (HBr.out.alloc HBr.out.size _).size))
                clear hb2
                cases rp
                · rw [Bool.false_and] at HJ3
                  go_wp2_with fail
                  go_ret
                  exact ⟨ret_bool HJ3.out, HB2.out⟩
                · rw [Bool.true_and] at HJ3
                  go_wp2_with fail
                  go_roundw
                  case rel => exact ⟨k + 1, by go_num, by omega, HB2, HJ3⟩
                  case measure => simp [intOf]; omega
            · have hj0 : jb = false := by rw [← hjb, decide_eq_false h1, Bool.false_and]
              subst hj0
              have h1z : decide (1 ≤ co) = false := decide_eq_false h1
              rw [Bool.false_and] at HJ3
              clear hjb hk0
              go_wp2_with fail
              go_ret
              exact ⟨ret_bool HJ3.out, HBr.out.alloc HBr.out.size _⟩
        · have hltz : ¬ (k : Int) < (n : Int) := by omega
          have HF : Hid (R = true) := Lib.hid (by
            have := HJ.out
            rw [List.drop_of_length_le (by have := HPL.out; omega)] at this
            exact this.symm)
          clear HJ
          go_wp2_with fail
          go_ret
          exact ⟨ret_bool HF.out.symm, HBr.out⟩
    · have e : decide (n ≤ 8) = false := decide_eq_false h8
      have h8z : (8 : Int) < (n : Int) := by omega
      rw [e, Bool.false_and]
      clear e
      go_enter Tryz.func6, Tryz.ntmps6
      go_wp2_with fail
      go_ret
      exact ⟨rfl, HB.out⟩
end Go.Proofs.YtfbfndknhabmhaaGreat

namespace Go.Proofs.YtfbfndknhabmhaaGreat
open Go.RowKit TreN LexP FixP SynP ValP SelP FixM
set_option linter.unusedVariables false

set_option maxRecDepth 100000 in
set_option maxHeartbeats 1000000 in
theorem told_any (x : List UInt8) (hx : x.length ≤ maxLen) (w : World) : Calls Tryz.prog 28 #[.string ⟨x.toArray⟩] w fun e w' => e = .returned (.int .i64 (toldN x : Nat)) ∧ w' = w := by
  unfold maxLen at hx
  obtain ⟨n, hn⟩ : ∃ n, x.length = n := ⟨_, rfl⟩
  have hs : (⟨x.toArray⟩ : ByteArray).size = n := by rw [← hn]; show x.toArray.size = _; simp
  have ht : toldN x = min n 1 := by unfold toldN; rw [hn]
  rw [ht]
  rw [hn] at hx
  clear hn ht
  go_enter Tryz.func28, Tryz.ntmps28
  go_wp2_with fail
  go_ret
  refine ⟨?_, rfl⟩
  show Ending.returned (.int .i64 _) = Ending.returned (.int .i64 _)
  congr 2
  omega
set_option maxRecDepth 100000 in
set_option maxHeartbeats 1000000 in
theorem ones64_any (n : Nat) (h : n ≤ 7) (w : World) : Calls Tryz.prog 55 #[.int .u64 (n : Int)] w fun e w' => e = .returned (.int .i64 (bitsN (n : Int) : Nat)) ∧ w' = w := by
  rcases (by omega : n = 0 ∨ n = 1 ∨ n = 2 ∨ n = 3 ∨ n = 4 ∨ n = 5 ∨ n = 6 ∨ n = 7) with rfl | rfl | rfl | rfl | rfl | rfl | rfl | rfl
  all_goals
    go_enter Tryz.func55, Tryz.ntmps55
    go_wp2_with fail
    go_ret
    refine ⟨?_, rfl⟩
    kernel_rfl
set_option maxRecDepth 100000 in
set_option maxHeartbeats 1000000 in
theorem ones_any (n : Nat) (h : n ≤ 7) (w : World) : Calls Tryz.prog 27 #[.int .u64 (n : Int)] w fun e w' => e = .returned (.int .i64 (bitsN (n : Int) : Nat)) ∧ w' = w := by
  have C := Lib.hid (ones64_any n h w)
  obtain ⟨m, hm⟩ : ∃ m, bitsN (n : Int) = m := ⟨_, rfl⟩
  rw [hm] at C ⊢
  clear hm
  go_enter Tryz.func27, Tryz.ntmps27
  go_wp2_with fail
  refine C.out.mono ?_
  rintro e w1 ⟨rfl, hw⟩
  subst hw
  go_wp2_with fail
  go_ret
  exact ⟨rfl, rfl⟩
theorem wrap64_eq (x : Int) : IntKind.i64.wrap x = (x + 9223372036854775808) % 18446744073709551616 - 9223372036854775808 := by
  show (if (true && decide (x % (2 ^ 64 : Int) ≥ (2 ^ 63 : Int))) = true then x % (2 ^ 64 : Int) - (2 ^ 64 : Int) else x % (2 ^ 64 : Int)) = _
  simp only [Bool.true_and, decide_eq_true_eq]
  split <;> omega
theorem wrap7 (x y : Int) : IntKind.i64.wrap (IntKind.i64.wrap x + y) = IntKind.i64.wrap (x + y) := by
  rw [wrap64_eq, wrap64_eq, wrap64_eq]
  omega
theorem wrap7r (x y : Int) : IntKind.i64.wrap (x + IntKind.i64.wrap y) = IntKind.i64.wrap (x + y) := by
  rw [wrap64_eq, wrap64_eq, wrap64_eq]
  omega
theorem and7 (n : Nat) (hn : n < 9223372036854775808) : bits .and .i64 (n : Int) 7 = ((n % 8 : Nat) : Int) := by
  have h1 : (BitVec.ofInt 64 (n : Int)).toNat = n := by
    rw [BitVec.ofInt_natCast, BitVec.toNat_ofNat]; exact Nat.mod_eq_of_lt (by omega)
  have h2 : (BitVec.ofInt 64 (7 : Int)).toNat = 7 := by decide
  show IntKind.i64.wrap ((BitVec.ofInt 64 (n : Int) &&& BitVec.ofInt 64 (7 : Int)).toNat : Int) = _
  have h3 : n &&& 7 = n % 8 := Nat.and_two_pow_sub_one_eq_mod n 3
  rw [BitVec.toNat_and, h1, h2, h3]
  exact IntWalk.i64_in _ (by omega)
theorem bitsN_mod (n : Nat) : bitsN ((n % 8 : Nat) : Int) = bitsN (n : Int) := by
  unfold bitsN
  rw [if_neg (by omega), if_neg (by omega)]
  simp only [Int.toNat_natCast]
  omega
theorem bitsN_le (n : Int) : bitsN n ≤ 3 := by
  unfold bitsN
  split <;> omega
set_option maxRecDepth 100000 in
set_option maxHeartbeats 2000000 in
theorem weight_any (x : PtV) (w : World) (h : PtOk w x) : Calls Tryz.prog 13 #[x.arg] w fun e w' => e = .returned (.agg #[.int .i64 ((wP x.p).1 : Nat), .int .i64 (IntKind.i64.wrap ((wP x.p).2.1 : Nat)), .int .i64 ((wP x.p).2.2 : Nat)]) ∧ Below w.heap.size w w' := by
  obtain ⟨⟨co, tg, id, cl, ts, st⟩, ca, cc, ta, tc⟩ := x
  obtain ⟨hcc, hcm, htc, htm, htg, hid, hcl, hts, hst, hC, hT⟩ := h
  simp only at hcc hcm htc htm htg hid hcl hts hst hC hT
  show Calls _ _ #[.agg #[.int .i64 co, .string ⟨tg.toArray⟩, .string ⟨id.toArray⟩, .slice ca cl.length cc, .slice ta ts.length tc, .int .i64 st]] _ fun e w' => e = .returned (.agg #[.int .i64 (toldN id : Nat), .int .i64 (IntKind.i64.wrap ((cl.length + ts.length + bitsN st : Nat) : Int)), .int .i64 (toldN tg : Nat)]) ∧ _
  have TI := Lib.hid (fun W => told_any id hid W)
  have TT := Lib.hid (fun W => told_any tg htg W)
  have hsb := bounds_i64 hst
  obtain ⟨n, hn⟩ : ∃ n, cl.length = n := ⟨_, rfl⟩
  obtain ⟨m, hm⟩ : ∃ n, ts.length = n := ⟨_, rfl⟩
  obtain ⟨u, hu⟩ : ∃ u, toldN id = u := ⟨_, rfl⟩
  obtain ⟨v, hv⟩ : ∃ u, toldN tg = u := ⟨_, rfl⟩
  obtain ⟨b, hb⟩ : ∃ b, bitsN st = b := ⟨_, rfl⟩
  have hb3 := bitsN_le st
  rw [hu] at TI
  rw [hv] at TT
  simp only [hn, hm, hu, hv, hb]
  rw [hn] at hcc
  rw [hm] at htc
  rw [hb] at hb3
  unfold maxLen at hcm htm
  have hw2 : IntKind.i64.wrap (IntKind.i64.wrap ((n : Int) + (m : Int)) + (b : Int)) = IntKind.i64.wrap ((n + m + b : Nat) : Int) := by
    rw [wrap7]; congr 1
  obtain ⟨z, hz⟩ : ∃ z, IntKind.i64.wrap ((n + m + b : Nat) : Int) = z := ⟨_, rfl⟩
  rw [hz] at hw2 ⊢
  have HZ := Lib.hid hz
  clear hz
  have HW2 := Lib.hid hw2
  clear hw2 hcl hts hst hC hT htg hid hcc htc hcm htm hn hm hu hv
  by_cases hs : 0 ≤ st
  · obtain ⟨k, rfl⟩ : ∃ k : Nat, st = (k : Int) := ⟨st.toNat, by omega⟩
    have h7 := and7 k (by omega)
    have hwu : IntKind.u64.wrap ((k % 8 : Nat) : Int) = ((k % 8 : Nat) : Int) := by rw [IntKind.wrap_u64]; omega
    have ON := fun W => ones_any (k % 8) (by omega) W
    rw [bitsN_mod, hb] at ON
    obtain ⟨q, hq⟩ : ∃ q, k % 8 = q := ⟨_, rfl⟩
    rw [hq] at h7 hwu
    simp only [hq] at ON
    have ONN := Lib.hid ON
    clear hq ON hb hb3 hsb
    go_enter Tryz.func13, Tryz.ntmps13
    go_wp2_with fail
    refine (ONN.out _).mono ?_
    rintro e w1 ⟨rfl, hw⟩
    subst hw
    clear h7 hwu
    go_wp2_with fail
    have hA := (Below.heap_alloc (w.alloc (.cells #[.int .i64 co, .string ⟨tg.toArray⟩, .string ⟨id.toArray⟩, .slice ca n cc, .slice ta m tc, .int .i64 (k : Int)] 36)) (.cells #[.int .i64 0, .int .i64 0, .int .i64 0] 25) w.heap.size (by simp)).trans (heap_alloc_new w _)
    have hR := heap_alloc_new (w.alloc (.cells #[.int .i64 co, .string ⟨tg.toArray⟩, .string ⟨id.toArray⟩, .slice ca n cc, .slice ta m tc, .int .i64 (k : Int)] 36)) (.cells #[.int .i64 0, .int .i64 0, .int .i64 0] 25)
    rw [show (w.alloc (.cells #[.int .i64 co, .string ⟨tg.toArray⟩, .string ⟨id.toArray⟩, .slice ca n cc, .slice ta m tc, .int .i64 (k : Int)] 36)).heap.size = w.heap.size + 1 by simp] at hR
    have hB := (below_one7 w (.cells #[.int .i64 co, .string ⟨tg.toArray⟩, .string ⟨id.toArray⟩, .slice ca n cc, .slice ta m tc, .int .i64 (k : Int)] 36)).alloc (by simp) (.cells #[.int .i64 0, .int .i64 0, .int .i64 0] 25)
    generalize ((w.alloc (.cells #[.int .i64 co, .string ⟨tg.toArray⟩, .string ⟨id.toArray⟩, .slice ca n cc, .slice ta m tc, .int .i64 (k : Int)] 36)).alloc (.cells #[.int .i64 0, .int .i64 0, .int .i64 0] 25)) = W2 at hA hR hB ⊢
    have d1 : W2.drew.cell? ⟨w.heap.size, 1, none⟩ = some (.string ⟨tg.toArray⟩) := cell_of (w := W2) hA rfl
    have d2 : W2.drew.cell? ⟨w.heap.size, 2, none⟩ = some (.string ⟨id.toArray⟩) := cell_of (w := W2) hA rfl
    have d3 : W2.drew.cell? ⟨w.heap.size, 3, none⟩ = some (.slice ca n cc) := cell_of (w := W2) hA rfl
    have d4 : W2.drew.cell? ⟨w.heap.size, 4, none⟩ = some (.slice ta m tc) := cell_of (w := W2) hA rfl
    obtain ⟨x1, x2, x3, ⟨p0, q0, r0⟩, ⟨p1, q1, r1⟩, ⟨p2, q2, r2⟩, h3⟩ := three_store W2.drew (w.heap.size + 1) 25 _ _ _ (.int .i64 (u : Int)) (.int .i64 z) (.int .i64 (v : Int)) (show W2.heap[w.heap.size + 1]? = _ from hR)
    have HB := Lib.hid (h3.below w.heap.size w (by omega) hB.drew)
    have k0 := cell_of (k := 0) h3.here rfl
    have k1 := cell_of (k := 1) h3.here rfl
    have k2 := cell_of (k := 2) h3.here rfl
    clear hA hR hB h3
    refine wp_region_still_tail 16 (by kernel_rfl) (by kernel_rfl) ?_
    simp only [List.take_succ_cons, List.take_zero, List.drop_succ_cons, List.drop_zero]
    still_step
    still_step
    still_call (TI.out _)
    repeat still_step
    still_call (TT.out _)
    repeat still_step
    refine wpStill_nil ?_
    change wpList _ _ _ _ _ W2.drew
    rw [HW2.out]
    go_wp2_with fail
    exact bodyPost_ret (v := .agg #[.int .i64 (u : Int), .int .i64 z, .int .i64 (v : Int)]) (by simp [results, Tryz.results13, go_sem, k0, k1, k2]) rfl ⟨rfl, HB.out⟩
  · have hb0 : b = 0 := by rw [← hb]; unfold bitsN; rw [if_pos (by omega)]
    have hsl : st < 0 := by omega
    have hw3 : IntKind.i64.wrap (IntKind.i64.wrap ((n : Int) + (m : Int))) = IntKind.i64.wrap ((n + m : Nat) : Int) := by
      have := wrap7 ((n : Int) + (m : Int)) 0
      rw [Int.add_zero, Int.add_zero] at this
      rw [this]; congr 1
    subst hb0
    have HZ0 := HZ.out
    rw [Nat.add_zero] at HZ0
    rw [HZ0] at hw3
    have HW3 := Lib.hid hw3
    clear HZ0
    clear hb hb3 hs hsb hw3
    go_enter Tryz.func13, Tryz.ntmps13
    go_wp2_with fail
    have hA := (Below.heap_alloc (w.alloc (.cells #[.int .i64 co, .string ⟨tg.toArray⟩, .string ⟨id.toArray⟩, .slice ca n cc, .slice ta m tc, .int .i64 st] 36)) (.cells #[.int .i64 0, .int .i64 0, .int .i64 0] 25) w.heap.size (by simp)).trans (heap_alloc_new w _)
    have hR := heap_alloc_new (w.alloc (.cells #[.int .i64 co, .string ⟨tg.toArray⟩, .string ⟨id.toArray⟩, .slice ca n cc, .slice ta m tc, .int .i64 st] 36)) (.cells #[.int .i64 0, .int .i64 0, .int .i64 0] 25)
    rw [show (w.alloc (.cells #[.int .i64 co, .string ⟨tg.toArray⟩, .string ⟨id.toArray⟩, .slice ca n cc, .slice ta m tc, .int .i64 st] 36)).heap.size = w.heap.size + 1 by simp] at hR
    have hB := (below_one7 w (.cells #[.int .i64 co, .string ⟨tg.toArray⟩, .string ⟨id.toArray⟩, .slice ca n cc, .slice ta m tc, .int .i64 st] 36)).alloc (by simp) (.cells #[.int .i64 0, .int .i64 0, .int .i64 0] 25)
    generalize ((w.alloc (.cells #[.int .i64 co, .string ⟨tg.toArray⟩, .string ⟨id.toArray⟩, .slice ca n cc, .slice ta m tc, .int .i64 st] 36)).alloc (.cells #[.int .i64 0, .int .i64 0, .int .i64 0] 25)) = W2 at hA hR hB ⊢
    have d1 : W2.drew.cell? ⟨w.heap.size, 1, none⟩ = some (.string ⟨tg.toArray⟩) := cell_of (w := W2) hA rfl
    have d2 : W2.drew.cell? ⟨w.heap.size, 2, none⟩ = some (.string ⟨id.toArray⟩) := cell_of (w := W2) hA rfl
    have d3 : W2.drew.cell? ⟨w.heap.size, 3, none⟩ = some (.slice ca n cc) := cell_of (w := W2) hA rfl
    have d4 : W2.drew.cell? ⟨w.heap.size, 4, none⟩ = some (.slice ta m tc) := cell_of (w := W2) hA rfl
    obtain ⟨x1, x2, x3, ⟨p0, q0, r0⟩, ⟨p1, q1, r1⟩, ⟨p2, q2, r2⟩, h3⟩ := three_store W2.drew (w.heap.size + 1) 25 _ _ _ (.int .i64 (u : Int)) (.int .i64 (z)) (.int .i64 (v : Int)) (show W2.heap[w.heap.size + 1]? = _ from hR)
    have HB := Lib.hid (h3.below w.heap.size w (by omega) hB.drew)
    have k0 := cell_of (k := 0) h3.here rfl
    have k1 := cell_of (k := 1) h3.here rfl
    have k2 := cell_of (k := 2) h3.here rfl
    clear hA hR hB h3
    refine wp_region_still_tail 16 (by kernel_rfl) (by kernel_rfl) ?_
    simp only [List.take_succ_cons, List.take_zero, List.drop_succ_cons, List.drop_zero]
    still_step
    still_step
    still_call (TI.out _)
    repeat still_step
    still_call (TT.out _)
    repeat still_step
    refine wpStill_nil ?_
    change wpList _ _ _ _ _ W2.drew
    rw [HW3.out]
    go_wp2_with fail
    exact bodyPost_ret (v := .agg #[.int .i64 (u : Int), .int .i64 (z), .int .i64 (v : Int)]) (by simp [results, Tryz.results13, go_sem, k0, k1, k2]) rfl ⟨rfl, HB.out⟩
end Go.Proofs.YtfbfndknhabmhaaGreat

namespace Go.Proofs.YtfbfndknhabmhaaGreat
open Go.RowKit TreN LexP FixP SynP ValP SelP FixM
set_option linter.unusedVariables false

theorem weight_named (co st : Int) (tg id : List UInt8) (ca ta : Option Addr) (cc tc n m : Nat) (cl : List (List UInt8)) (ts : List Tst) (W : World) (hn : cl.length = n) (hm : ts.length = m) (h : PtOk W ⟨⟨co, tg, id, cl, ts, st⟩, ca, cc, ta, tc⟩) :
    Calls Tryz.prog 13 #[.agg #[.int .i64 co, .string ⟨tg.toArray⟩, .string ⟨id.toArray⟩, .slice ca n cc, .slice ta m tc, .int .i64 st]] W fun e w' => e = .returned (.agg #[.int .i64 ((wP ⟨co, tg, id, cl, ts, st⟩).1 : Nat), .int .i64 (IntKind.i64.wrap ((wP ⟨co, tg, id, cl, ts, st⟩).2.1 : Nat)), .int .i64 ((wP ⟨co, tg, id, cl, ts, st⟩).2.2 : Nat)]) ∧ Below W.heap.size W w' := by
  subst hn; subst hm
  exact weight_any _ W h
/-- the sum so far, in its block -/
theorem wrapEq7 (x : Int) : IntKind.i64.wrap x = wrap64 x := by rw [wrap64_eq]; unfold wrap64; rfl
def SumAt (w : World) (S : Nat) (a b c : Int) : Prop := w.heap[S]? = some (.cells #[.int .i64 a, .int .i64 b, .int .i64 c] 25 (0, 0))
theorem SumAt.keep {w w' : World} {S : Nat} {a b c : Int} (h : SumAt w S a b c) (hb : Below w.heap.size w w') : SumAt w' S a b c := (hb.block S (Array.getElem?_eq_some_iff.1 h).1).trans h
theorem SumAt.set0 {w : World} {S : Nat} {a b c : Int} (h : SumAt w S a b c) (z : Int) : SumAt (w.setCell ⟨S, 0, none⟩ (.int .i64 z)) S z b c := setCell_here (k := 0) _ h
theorem SumAt.set1 {w : World} {S : Nat} {a b c : Int} (h : SumAt w S a b c) (z : Int) : SumAt (w.setCell ⟨S, 1, none⟩ (.int .i64 z)) S a z c := setCell_here (k := 1) _ h
theorem SumAt.set2 {w : World} {S : Nat} {a b c : Int} (h : SumAt w S a b c) (z : Int) : SumAt (w.setCell ⟨S, 2, none⟩ (.int .i64 z)) S a b z := setCell_here (k := 2) _ h
theorem SumAt.other {w : World} {S Q k : Nat} {a b c : Int} {v : Value} (h : SumAt w S a b c) (hq : S ≠ Q) : SumAt (w.setCell ⟨Q, k, none⟩ v) S a b c := (setCell_there _ hq).trans h
theorem ix3_0 (x y z : Int) (w : World) : (Instr.index 25 (.agg #[.int .i64 x, .int .i64 y, .int .i64 z]) (.int .i64 0)).run Tryz.prog w = .ok (.int .i64 x) w := by kernel_rfl
theorem ix3_1 (x y z : Int) (w : World) : (Instr.index 25 (.agg #[.int .i64 x, .int .i64 y, .int .i64 z]) (.int .i64 1)).run Tryz.prog w = .ok (.int .i64 y) w := by kernel_rfl
theorem ix3_2 (x y z : Int) (w : World) : (Instr.index 25 (.agg #[.int .i64 x, .int .i64 y, .int .i64 z]) (.int .i64 2)).run Tryz.prog w = .ok (.int .i64 z) w := by kernel_rfl
def wI (p : Nat × Nat × Nat) : Int × Int × Int := (IntKind.i64.wrap (p.1 : Int), IntKind.i64.wrap (p.2.1 : Int), IntKind.i64.wrap (p.2.2 : Int))
theorem wI_add (p q : Nat × Nat × Nat) : wI (wAdd p q) = (IntKind.i64.wrap ((wI p).1 + (q.1 : Int)), IntKind.i64.wrap ((wI p).2.1 + IntKind.i64.wrap (q.2.1 : Int)), IntKind.i64.wrap ((wI p).2.2 + (q.2.2 : Int))) := by
  unfold wI wAdd
  simp only [wrap7, wrap7r, Int.natCast_add]
theorem wS_take {l : List Prt} {k : Nat} (h : k < l.length) : wS (l.take (k + 1)) = wAdd (wS (l.take k)) (wP l[k]) := by
  rw [List.take_succ_eq_append_getElem h, wS_append]
  congr 1
set_option maxRecDepth 100000 in
set_option maxHeartbeats 4000000 in
theorem Weight_any (s : SelV) (w : World) (h : SelOk w s) : Calls Tryz.prog 4 #[.agg #[s.val]] w fun e w' => e = .returned (.agg #[.int .i64 (wI (wS s.pure)).1, .int .i64 (wI (wS s.pure)).2.1, .int .i64 (wI (wS s.pure)).2.2]) ∧ Below w.heap.size w w' := by
  obtain ⟨ps, a, c⟩ := s
  obtain ⟨hl, hc, hp⟩ := h
  unfold SelV.val
  simp only at hl hc hp ⊢
  have hP : (SelV.pure ⟨ps, a, c⟩) = ps.map PtV.p := rfl
  rw [hP]
  obtain ⟨P, hP⟩ : ∃ P, ps.map PtV.p = P := ⟨_, rfl⟩
  rw [hP]
  have hPl : P.length = ps.length := by rw [← hP, List.length_map]
  obtain ⟨n, hn⟩ : ∃ n, ps.length = n := ⟨_, rfl⟩
  rw [hn] at hl hPl
  simp only [hn]
  obtain ⟨⟨X0, X1, X2⟩, hX⟩ : ∃ X, wI (wS P) = X := ⟨_, rfl⟩
  rw [hX]
  simp only
  have hz : n ≤ 9223372036854775807 := by unfold maxLen at hc; omega
  obtain ⟨B0, hB0⟩ : ∃ B, w.heap.size = B := ⟨_, rfl⟩
  have hB : Below w.heap.size w (((w.alloc (.cells #[.slice a n c] 24)).alloc (.cells #[.int .i64 0, .int .i64 0, .int .i64 0] 25)).alloc (.cells #[.int .i64 0, .int .i64 0, .int .i64 0] 25)) := (((Below.refl _ _).alloc (Nat.le_refl _) _).alloc (by simp) _).alloc (by simp; omega) _
  have hS : SumAt (((w.alloc (.cells #[.slice a n c] 24)).alloc (.cells #[.int .i64 0, .int .i64 0, .int .i64 0] 25)).alloc (.cells #[.int .i64 0, .int .i64 0, .int .i64 0] 25)) (w.heap.size + 1 + 1) 0 0 0 := by
    have := heap_alloc_new ((w.alloc (.cells #[.slice a n c] 24)).alloc (.cells #[.int .i64 0, .int .i64 0, .int .i64 0] 25)) (.cells #[.int .i64 0, .int .i64 0, .int .i64 0] 25)
    simpa [SumAt] using this
  have hR : SumAt (((w.alloc (.cells #[.slice a n c] 24)).alloc (.cells #[.int .i64 0, .int .i64 0, .int .i64 0] 25)).alloc (.cells #[.int .i64 0, .int .i64 0, .int .i64 0] 25)) (w.heap.size + 1) 0 0 0 := by
    have h2 := heap_alloc_new (w.alloc (.cells #[.slice a n c] 24)) (.cells #[.int .i64 0, .int .i64 0, .int .i64 0] 25)
    rw [show (w.alloc (.cells #[.slice a n c] 24)).heap.size = w.heap.size + 1 by simp] at h2
    exact (Below.heap_alloc ((w.alloc (.cells #[.slice a n c] 24)).alloc (.cells #[.int .i64 0, .int .i64 0, .int .i64 0] 25)) (.cells #[.int .i64 0, .int .i64 0, .int .i64 0] 25) (w.heap.size + 1) (by simp)).trans h2
  have HB := Lib.hid hB
  have HS := Lib.hid hS
  have HR := Lib.hid hR
  have HP := Lib.hid hp
  have HPP := Lib.hid hP
  have HN := Lib.hid hn
  have HPL := Lib.hid hPl
  have HX := Lib.hid hX
  have HBS := Lib.hid hB0
  clear hP hp hn hPl hB hl hc hS hR hX hB0
  go_enter Tryz.func4, Tryz.ntmps4
  go_wp2_with fail
  go_loopw [11] (fun vi wr => ∃ (k : Nat) (a0 a1 a2 : Int), vi = .int .i64 (k : Int) ∧ k ≤ n ∧ Hid (Below w.heap.size w wr) ∧ Hid (SumAt wr (w.heap.size + 1 + 1) a0 a1 a2) ∧ Hid (SumAt wr (w.heap.size + 1) 0 0 0) ∧ Hid (wI (wS (P.take k)) = (a0, a1, a2))) (fun vi _ => n - (intOf vi).toNat)
  case atStart => exact ⟨0, 0, 0, 0, rfl, by omega, HB, HS, HR, Lib.hid rfl⟩
  case round =>
    obtain ⟨k, a0, a1, a2, rfl, hk, HBr, HSr, HRr, HJ⟩ := hrel
    by_cases hlt : k < n
    · have hltz : (k : Int) < (n : Int) := by omega
      have hkl : k < ps.length := by have := HN.out; omega
      obtain ⟨b, o, rfl, g1, hat, hok⟩ := HP.out.get hkl
      have hkP : k < P.length := by have := HPL.out; omega
      have hpk : P[k] = (ps[k]).p := by have := HPP.out; subst this; rw [List.getElem_map]
      have hj := wS_take hkP
      rw [hpk] at hj
      have hj2 := wI_add (wS (P.take k)) (wP (ps[k]).p)
      rw [← hj, HJ.out] at hj2
      obtain ⟨d0, d1, d2, d3, d4, d5⟩ := hat.below HBr.out g1
      have hok2 := fun W (hW : Below w.heap.size w W) => hok.below hW
      generalize ps[k] = x at *
      obtain ⟨⟨co, tg, id, cl, ts, st⟩, ca, cc, ta, tc⟩ := x
      simp only at d0 d1 d2 d3 d4 d5 hj2
      obtain ⟨ln, hln⟩ : ∃ n, cl.length = n := ⟨_, rfl⟩
      obtain ⟨lm, hlm⟩ : ∃ n, ts.length = n := ⟨_, rfl⟩
      have CR := fun W (hW : Below w.heap.size w W) => weight_named co st tg id ca ta cc tc ln lm cl ts W hln hlm (hok2 W hW)
      obtain ⟨⟨q0, q1, q2⟩, hq⟩ : ∃ q, wP ⟨co, tg, id, cl, ts, st⟩ = q := ⟨_, rfl⟩
      rw [hq] at hj2
      simp only [hq] at CR
      simp only at hj2
      obtain ⟨z1, hz1⟩ : ∃ z, IntKind.i64.wrap (q1 : Int) = z := ⟨_, rfl⟩
      rw [hz1] at hj2
      simp only [hz1] at CR
      have CRR := Lib.hid CR
      rw [hln] at d3
      rw [hlm] at d4
      rw [wrapEq7, wrapEq7, wrapEq7] at hj2
      have HJ2 := Lib.hid hj2
      clear hat hok hok2 hpk hj hj2 hln hlm hq CR hz1 HJ
      go_wp2_with fail
      refine (CRR.out _ (HBr.out.alloc HBr.out.size _)).mono ?_
      rintro e w2 ⟨rfl, hb2⟩
      have hbw := (HBr.out.alloc HBr.out.size (.cells #[.int .i64 co, .string ⟨tg.toArray⟩, .string ⟨id.toArray⟩, .slice ca ln cc, .slice ta lm tc, .int .i64 st] 36))
      have HB2 := Lib.hid (hbw.trans (hb2.mono hbw.size))
      have HS2 := Lib.hid ((HSr.out.keep (below_one7 wr (.cells #[.int .i64 co, .string ⟨tg.toArray⟩, .string ⟨id.toArray⟩, .slice ca ln cc, .slice ta lm tc, .int .i64 st] 36))).keep hb2)
      have HR2 := Lib.hid ((HRr.out.keep (below_one7 wr (.cells #[.int .i64 co, .string ⟨tg.toArray⟩, .string ⟨id.toArray⟩, .slice ca ln cc, .slice ta lm tc, .int .i64 st] 36))).keep hb2)
      clear hb2 hbw d0 d1 d2 d3 d4 d5
      go_wp2_with fail
      go_loopw [17] (fun vi wx => Hid (Below w.heap.size w wx) ∧ Hid (SumAt wx (w.heap.size + 1) 0 0 0) ∧ ((vi = .int .i64 0 ∧ Hid (SumAt wx (w.heap.size + 1 + 1) a0 a1 a2)) ∨ (vi = .int .i64 1 ∧ Hid (SumAt wx (w.heap.size + 1 + 1) (wrap64 (a0 + (q0 : Int))) a1 a2)) ∨ (vi = .int .i64 2 ∧ Hid (SumAt wx (w.heap.size + 1 + 1) (wrap64 (a0 + (q0 : Int))) (wrap64 (a1 + z1)) a2)) ∨ (vi = .int .i64 3 ∧ Hid (SumAt wx (w.heap.size + 1 + 1) (wrap64 (a0 + (q0 : Int))) (wrap64 (a1 + z1)) (wrap64 (a2 + (q2 : Int))))))) (fun vi _ => 3 - (intOf vi).toNat)
      case atStart => exact ⟨HB2, HR2, Or.inl ⟨rfl, HS2⟩⟩
      case round =>
        obtain ⟨HBx, HRx, ⟨rfl, HSx⟩ | ⟨rfl, HSx⟩ | ⟨rfl, HSx⟩ | ⟨rfl, HSx⟩⟩ := hrel
        · have i0 := fun w => ix3_0 (q0 : Int) z1 (q2 : Int) w
          have k0 := cell_of (k := 0) HSx.out rfl
          have f0 : _ = false := unfrozen_of (k := 0) HSx.out
          go_wp2_with fail
          go_roundw
          case rel => exact ⟨Lib.hid (HBx.out.setCell (p := ⟨w.heap.size + 1 + 1, 0, none⟩) (by show w.heap.size ≤ w.heap.size + 1 + 1; omega) _), Lib.hid (HRx.out.other (by omega)), Or.inr (Or.inl ⟨rfl, Lib.hid (HSx.out.set0 _)⟩)⟩
          case measure => simp [intOf]
        · have i0 := fun w => ix3_1 (q0 : Int) z1 (q2 : Int) w
          have k0 := cell_of (k := 1) HSx.out rfl
          have f0 : _ = false := unfrozen_of (k := 1) HSx.out
          go_wp2_with fail
          go_roundw
          case rel => exact ⟨Lib.hid (HBx.out.setCell (p := ⟨w.heap.size + 1 + 1, 1, none⟩) (by show w.heap.size ≤ w.heap.size + 1 + 1; omega) _), Lib.hid (HRx.out.other (by omega)), Or.inr (Or.inr (Or.inl ⟨rfl, Lib.hid (HSx.out.set1 _)⟩))⟩
          case measure => simp [intOf]
        · have i0 := fun w => ix3_2 (q0 : Int) z1 (q2 : Int) w
          have k0 := cell_of (k := 2) HSx.out rfl
          have f0 : _ = false := unfrozen_of (k := 2) HSx.out
          go_wp2_with fail
          go_roundw
          case rel => exact ⟨Lib.hid (HBx.out.setCell (p := ⟨w.heap.size + 1 + 1, 2, none⟩) (by show w.heap.size ≤ w.heap.size + 1 + 1; omega) _), Lib.hid (HRx.out.other (by omega)), Or.inr (Or.inr (Or.inr ⟨rfl, Lib.hid (HSx.out.set2 _)⟩))⟩
          case measure => simp [intOf]
        · go_wp2_with fail
          go_roundw
          case rel => exact ⟨k + 1, _, _, _, by go_num, by omega, HBx, HSx, HRx, HJ2⟩
          case measure => simp [intOf]; omega
    · have hltz : ¬ (k : Int) < (n : Int) := by omega
      have hXX := HX.out
      have hJ := HJ.out
      rw [List.take_of_length_le (by have := HPL.out; omega), hXX] at hJ
      injection hJ with e0 hJ
      injection hJ with e1 e2
      subst e0; subst e1; subst e2
      have k0 := cell_of (k := 0) HSr.out rfl
      have k1 := cell_of (k := 1) HSr.out rfl
      have k2 := cell_of (k := 2) HSr.out rfl
      obtain ⟨x1, x2, x3, ⟨p0, q0, r0⟩, ⟨p1, q1, r1⟩, ⟨p2, q2, r2⟩, h3⟩ := three_store wr (w.heap.size + 1) 25 _ _ _ (.int .i64 X0) (.int .i64 X1) (.int .i64 X2) HRr.out
      have HB3 := Lib.hid (h3.below w.heap.size w (by omega) HBr.out)
      have j0 := cell_of (k := 0) h3.here rfl
      have j1 := cell_of (k := 1) h3.here rfl
      have j2 := cell_of (k := 2) h3.here rfl
      clear h3 hXX
      go_wp2_with fail
      exact bodyPost_ret (v := .agg #[.int .i64 X0, .int .i64 X1, .int .i64 X2]) (by simp [results, Tryz.results4, go_sem, j0, j1, j2]) rfl ⟨rfl, HB3.out⟩
end Go.Proofs.YtfbfndknhabmhaaGreat
