/- Joined texts: LexT1 LexT2. -/
import Derived.Test.YtoaenlbbochjhaaLexR6
import Derived.Test.YtoaenlbbochjhaaFixWd
import Derived.Deep.RegionWith
namespace Go.Proofs.Ytoaenlbbochjhaa
open Go.RowKit TreN LexP FixP FixM
set_option linter.unusedVariables false

theorem add_any (W : World) (x y : List UInt8) (hx : x.length ≤ 100000) (hy : y.length ≤ 100000) : (Op.stringOp .add ⟨x.toArray⟩ ⟨y.toArray⟩).run Try.prog W = .ok (.string ⟨(x ++ y).toArray⟩) W :=
  run_string_add_lists W x y (by omega) (by omega)
theorem indexByte_mem (l : List UInt8) (c : UInt8) : decide (0 ≤ Lib.indexByte l c) = decide (c ∈ l) := by
  induction l with
  | nil => simp [Lib.indexByte]
  | cons b l ih =>
    by_cases h : b = c
    · subst h; simp [Lib.indexByte]
    · have hb : (b == c) = false := by rw [beq_eq_false_iff_ne]; exact h
      have hc : ¬ c = b := fun x => h x.symm
      have hge := Lib.indexByte_ge l c
      simp only [Lib.indexByte, hb, List.mem_cons, hc, false_or]
      rw [← ih]
      by_cases q : Lib.indexByte l c = -1
      · rw [q]; decide
      · have : (Lib.indexByte l c == -1) = false := by rw [beq_eq_false_iff_ne]; exact q
        simp only [this]
        rw [decide_eq_decide]
        simp; omega

theorem prn_len (n : Int) : (prn (H n)).length ≤ 20 := by
  have k1 := fun a => pr1s_len a 3
  have k2 := fun st => pr2s_len st 7
  have k3 := fun t => prp_len t
  have hp : ∀ a, (prt a).length ≤ 11 := fun a => by
    unfold prt
    have h1 := k2 ((pr1s a 3).1, prp (pr1s a 3).2)
    have h2 := k3 (pr1s a 3).2
    have h3 := k1 a
    simp only [] at h1
    omega
  unfold prn
  split
  · have := hp (-H n); simp; omega
  · have := hp (H n); omega

end Go.Proofs.Ytoaenlbbochjhaa

namespace Go.Proofs.Ytoaenlbbochjhaa
open Go.RowKit TreN LexP FixP FixM
set_option linter.unusedVariables false

/-- a kind that has no text -/
structure NoKind (k : Int) : Prop where
  lo : k < 10 ∨ 18 < k
  n1 : (k == 1) = false
  n2 : (k == 2) = false
  n3 : (k == 3) = false
  n4 : (k == 4) = false
  n5 : (k == 5) = false
  n7 : (k == 7) = false
  n8 : (k == 8) = false
  n9 : (k == 9) = false
  n19 : (k == 19) = false
  n20 : (k == 20) = false
theorem kinds (k : Int) : k = 1 ∨ k = 2 ∨ k = 3 ∨ k = 4 ∨ k = 5 ∨ k = 7 ∨ k = 8 ∨ k = 9 ∨ k = 10 ∨ k = 11 ∨ k = 12 ∨ k = 13 ∨ k = 14 ∨ k = 15 ∨ k = 16 ∨ k = 17 ∨ k = 18 ∨ k = 19 ∨ k = 20 ∨ NoKind k := by
  by_cases h : k = 1 ∨ k = 2 ∨ k = 3 ∨ k = 4 ∨ k = 5 ∨ k = 7 ∨ k = 8 ∨ k = 9 ∨ k = 10 ∨ k = 11 ∨ k = 12 ∨ k = 13 ∨ k = 14 ∨ k = 15 ∨ k = 16 ∨ k = 17 ∨ k = 18 ∨ k = 19 ∨ k = 20
  · omega
  · have hn : NoKind k := by
      refine ⟨by omega, ?_, ?_, ?_, ?_, ?_, ?_, ?_, ?_, ?_, ?_⟩ <;> (rw [beq_eq_false_iff_ne]; omega)
    simp only [hn, or_true]
theorem tx_none (k : Int) (x : List UInt8) (n : Int) (h : NoKind k) : tx ⟨k, x, n⟩ = [] := by
  obtain ⟨h0, h1, h2, h3, h4, h5, h7, h8, h9, h19, h20⟩ := h
  rw [beq_eq_false_iff_ne] at h1 h2 h3 h4 h5 h7 h8 h9 h19 h20
  unfold tx
  simp only []
  rw [if_neg (by omega), if_neg h2, if_neg h3, if_neg h4, if_neg h5, if_neg h7, if_neg h8, if_neg h9, if_neg (by omega), if_neg (by omega), if_neg (by omega), if_neg (by omega), if_neg (by omega), if_neg (by omega), if_neg (by omega), if_neg (by omega), if_neg (by omega), if_neg h20]

end Go.Proofs.Ytoaenlbbochjhaa
