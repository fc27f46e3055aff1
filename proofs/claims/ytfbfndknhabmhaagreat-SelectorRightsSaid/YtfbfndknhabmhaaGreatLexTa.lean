/- Joined texts: LexT1 LexT2. -/
import Derived.Test.YtfbfndknhabmhaaGreatLexR6
import Derived.Test.YtfbfndknhabmhaaGreatFixWd
import Derived.Deep.RegionWith
namespace Go.Proofs.YtfbfndknhabmhaaGreat
open Go.RowKit TreN LexP FixP FixM
set_option linter.unusedVariables false

theorem add_any (W : World) (x y : List UInt8) (hx : x.length ≤ 100000) (hy : y.length ≤ 100000) : (Op.stringOp .add ⟨x.toArray⟩ ⟨y.toArray⟩).run Tryz.prog W = .ok (.string ⟨(x ++ y).toArray⟩) W :=
  run_string_add_lists W x y (by omega) (by omega)
theorem indexByte_mem (l : List UInt8) (c : UInt8) : decide (0 ≤ Lib.indexByte l c) = decide (c ∈ l) := by
  induction l with
  | nil => simp [Lib.indexByte]
  | cons b l ih =>
    by_cases h : b = c
    · subst h; simp [Lib.indexByte]
    · have hb : (b == c) = false := by rw [beq_eq_false_iff_ne]; exact h
      have hc : ¬ c = b := fun x => h x.symm
      have hge := Lib.indexByte_ge l c
      simp only [Lib.indexByte, hb, List.mem_cons, hc, false_or]
      rw [← ih]
      by_cases q : Lib.indexByte l c = -1
      · rw [q]; decide
      · have : (Lib.indexByte l c == -1) = false := by rw [beq_eq_false_iff_ne]; exact q
        simp only [this]
        rw [decide_eq_decide]
        simp; omega

set_option maxRecDepth 100000 in
set_option maxHeartbeats 1000000 in
theorem refHas34_any (l : List UInt8) (w : World) (hl : l.length ≤ 40000) : Calls Tryz.prog 86 #[.string ⟨l.toArray⟩] w fun e w' => e = .returned (.bool (decide (34 ∈ l))) ∧ w = w' := by
  have hq : (⟨l.toArray⟩ : ByteArray).size = l.length := by rw [← len_data]
  obtain ⟨s, hs⟩ : ∃ s : ByteArray, (⟨l.toArray⟩ : ByteArray) = s := ⟨_, rfl⟩
  have hsl : s.data.toList = l := by rw [← hs]
  rw [hs] at hq ⊢
  have HSL := Lib.hid hsl
  clear hs hsl
  go_enter Tryz.func86, Tryz.ntmps86
  go_wp2_with fail
  have hsz : s.size ≤ 40000 := by omega
  clear hq
  go_loop [3] (fun i => ∃ k : Nat, k ≤ s.size ∧ i = .int .i64 (k : Int) ∧ Hid (∀ j (hj : j < s.size), j < k → ¬ s[j] = 34)) (fun i => s.size - (intOf i).toNat)
  case atStart => exact ⟨0, by omega, rfl, fun j hj h => by omega⟩
  case round =>
    obtain ⟨k, hk, rfl, HJ⟩ := hrel
    by_cases hlt : k < s.size
    · have hltz : (k : Int) < (s.size : Int) := by omega
      by_cases hc : s[k] = 34
      · have kb : ((s[k].toNat : Int) == 34) = true := by rw [hc]; rfl
        have hin : decide (34 ∈ l) = true := by
          rw [decide_eq_true_iff, ← HSL.out, ← hc]
          have e : s.data.toList[k]'(by rw [len_data]; exact hlt) = s[k] := by simp [ByteArray.getElem_eq_getElem_data]
          rw [← e]
          exact List.getElem_mem _
        have HIN := Lib.hid hin
        clear hc hin
        go_wp2_with fail
        go_ret
        exact ⟨ret_bool HIN.out.symm, rfl⟩
      · have kb : ((s[k].toNat : Int) == 34) = false := by
          rw [beq_eq_false_iff_ne]
          intro x
          exact hc (UInt8.toNat_inj.1 (by show s[k].toNat = 34; omega))
        have HC := Lib.hid hc
        clear hc
        go_wp2_with fail
        go_round
        case rel =>
          refine ⟨k + 1, by omega, by go_num, fun j hj h => ?_⟩
          by_cases q : j = k
          · subst q; exact HC.out
          · exact HJ.out j hj (by omega)
        case measure => simp [intOf]; omega
    · have hltz : ¬ (k : Int) < (s.size : Int) := by omega
      have hin : decide (34 ∈ l) = false := by
        rw [decide_eq_false_iff_not, ← HSL.out]
        intro hm
        obtain ⟨j, hj, e⟩ := List.getElem_of_mem hm
        rw [len_data] at hj
        refine HJ.out j hj (by omega) ?_
        rw [← e]
        simp [ByteArray.getElem_eq_getElem_data]
      have HIN := Lib.hid hin
      clear hin
      go_wp2_with fail
      go_ret
      exact ⟨ret_bool HIN.out.symm, rfl⟩

theorem prn_len (n : Int) : (prn (H n)).length ≤ 20 := by
  have k1 := fun a => pr1s_len a 3
  have k2 := fun st => pr2s_len st 7
  have k3 := fun t => prp_len t
  have hp : ∀ a, (prt a).length ≤ 11 := fun a => by
    unfold prt
    have h1 := k2 ((pr1s a 3).1, prp (pr1s a 3).2)
    have h2 := k3 (pr1s a 3).2
    have h3 := k1 a
    simp only [] at h1
    omega
  unfold prn
  split
  · have := hp (-H n); simp; omega
  · have := hp (H n); omega

end Go.Proofs.YtfbfndknhabmhaaGreat

namespace Go.Proofs.YtfbfndknhabmhaaGreat
open Go.RowKit TreN LexP FixP FixM
set_option linter.unusedVariables false

/-- a kind that has no text -/
structure NoKind (k : Int) : Prop where
  lo : k < 10 ∨ 18 < k
  n1 : (k == 1) = false
  n2 : (k == 2) = false
  n3 : (k == 3) = false
  n4 : (k == 4) = false
  n5 : (k == 5) = false
  n7 : (k == 7) = false
  n8 : (k == 8) = false
  n9 : (k == 9) = false
  n19 : (k == 19) = false
  n20 : (k == 20) = false
theorem kinds (k : Int) : k = 1 ∨ k = 2 ∨ k = 3 ∨ k = 4 ∨ k = 5 ∨ k = 7 ∨ k = 8 ∨ k = 9 ∨ k = 10 ∨ k = 11 ∨ k = 12 ∨ k = 13 ∨ k = 14 ∨ k = 15 ∨ k = 16 ∨ k = 17 ∨ k = 18 ∨ k = 19 ∨ k = 20 ∨ NoKind k := by
  by_cases h : k = 1 ∨ k = 2 ∨ k = 3 ∨ k = 4 ∨ k = 5 ∨ k = 7 ∨ k = 8 ∨ k = 9 ∨ k = 10 ∨ k = 11 ∨ k = 12 ∨ k = 13 ∨ k = 14 ∨ k = 15 ∨ k = 16 ∨ k = 17 ∨ k = 18 ∨ k = 19 ∨ k = 20
  · omega
  · have hn : NoKind k := by
      refine ⟨by omega, ?_, ?_, ?_, ?_, ?_, ?_, ?_, ?_, ?_, ?_⟩ <;> (rw [beq_eq_false_iff_ne]; omega)
    simp only [hn, or_true]
theorem tx_none (k : Int) (x : List UInt8) (n : Int) (h : NoKind k) : tx ⟨k, x, n⟩ = [] := by
  obtain ⟨h0, h1, h2, h3, h4, h5, h7, h8, h9, h19, h20⟩ := h
  rw [beq_eq_false_iff_ne] at h1 h2 h3 h4 h5 h7 h8 h9 h19 h20
  unfold tx
  simp only []
  rw [if_neg (by omega), if_neg h2, if_neg h3, if_neg h4, if_neg h5, if_neg h7, if_neg h8, if_neg h9, if_neg (by omega), if_neg (by omega), if_neg (by omega), if_neg (by omega), if_neg (by omega), if_neg (by omega), if_neg (by omega), if_neg (by omega), if_neg (by omega), if_neg h20]

end Go.Proofs.YtfbfndknhabmhaaGreat
