/- The walks of layer 5: Print of tokens of which one is not right. -/
import Derived.Test.YtjfheadgohehlaaLexC4
import Derived.Test.YtjfheadgohehlaaLexE
namespace Go.Proofs.Ytjfheadgohehlaa
open Go.RowKit TreN LexP FixP
set_option linter.unusedVariables false

/-- what is asked of tokens that are to be printed -/
def Fits (l : List Tok) : Prop := ∀ t ∈ l, t.text.length ≤ 30000 ∧ (tx t).length ≤ 20000

set_option maxRecDepth 100000 in
set_option maxHeartbeats 2000000 in
theorem Print_bad (a : Option Addr) (l : List Tok) (cap : Nat) (w : World) (h : Has0 w) (hT : Tks w a l) (hl : l.length ≤ 100000) (hf : Fits l) (hr : ∃ t ∈ l, right t = false) :
    Calls Try.prog 24 #[.slice a l.length cap] w fun e w' => e = .returned (.tuple #[.string ⟨#[]⟩, .int .i64 11]) ∧ Below w.heap.size w w' := by
  have HT := Lib.hid hT
  have HF := Lib.hid hf
  have HH := Lib.hid h
  have HR := Lib.hid hr
  obtain ⟨n, hn⟩ : ∃ n, l.length = n := ⟨_, rfl⟩
  have HN := Lib.hid hn
  rw [hn] at hl ⊢
  clear hT hf h hr hn
  go_enter Try.func24, Try.ntmps24
  go_wp2_with fail
  go_loopw [11] (fun vi wr => ∃ k : Nat, vi = .int .i64 k ∧ k ≤ n ∧ Hid (Below w.heap.size w wr) ∧ Hid (∀ j (hj : j < l.length), j < k → right l[j] = true)) (fun vi _ => n - (intOf vi).toNat)
  case atStart => exact ⟨0, rfl, by omega, Lib.hid (Below.refl _ _), Lib.hid (fun j hj h => by omega)⟩
  case round =>
    obtain ⟨k, rfl, hk, HB, HJ⟩ := hrel
    by_cases hlt : k < n
    · have hltz : (k : Int) < (n : Int) := by omega
      have hkl : k < l.length := by have := HN.out; omega
      obtain ⟨b1, o1, rfl, g1, k1⟩ := HT.out.get hkl
      obtain ⟨t, ht⟩ : ∃ t, l[k] = t := ⟨_, rfl⟩
      rw [ht] at k1
      have k2 := k1.below HB.out g1
      obtain ⟨hf1, hf2⟩ := HF.out t (by rw [← ht]; exact List.getElem_mem hkl)
      have C : ∀ W : World, Below w.heap.size w W → Calls Try.prog 21 #[t.val] W fun e w' => e = .returned (.bool (right t)) ∧ Below W.heap.size W w' := fun W hW => Right_any t W (HH.out.below hW) hf1 (by omega)
      have CC := Lib.hid C
      unfold LexP.Tok.val at CC
      have d1 : wr.cell? ⟨b1, o1 + k * 3, none⟩ = some (.int .i64 t.kind) := k2.kind
      have d2 : wr.cell? ⟨b1, o1 + k * 3 + 1, none⟩ = some (.string ⟨t.text.toArray⟩) := k2.text
      have d3 : wr.cell? ⟨b1, o1 + k * 3 + 2, none⟩ = some (.int .i64 t.n) := k2.n
      have HTT := Lib.hid ht
      clear k1 k2 C hf1 hf2 ht
      go_wp2_with fail
      refine (CC.out _ ?_).mono ?_
      · exact HB.out.alloc HB.out.size _
      rintro e w2 ⟨rfl, hb⟩
      have hb2 : Below w.heap.size w w2 := (HB.out.alloc HB.out.size _).trans (hb.mono (by have := HB.out.size; simp; omega))
      have HB2 := Lib.hid hb2
      clear hb hb2 CC
      by_cases hrt : right t = true
      · rw [hrt]
        have HRT := Lib.hid hrt
        clear hrt
        go_wp2_with fail
        go_roundw
        case rel =>
          refine ⟨k + 1, by go_num, by omega, HB2, Lib.hid fun j hj h => ?_⟩
          by_cases c : j = k
          · subst c; rw [HTT.out]; exact HRT.out
          · exact HJ.out j hj (by omega)
        case measure => simp [intOf]; omega
      · have hrf : right t = false := by simpa using hrt
        rw [hrf]
        clear hrt hrf
        go_wp2_with fail
        go_ret2
        exact ⟨rfl, HB2.out⟩
    · exfalso
      obtain ⟨t, h1, h2⟩ := HR.out
      obtain ⟨j, hj, e⟩ := List.getElem_of_mem h1
      have := HJ.out j hj (by have := HN.out; omega)
      rw [e, h2] at this
      cases this
end Go.Proofs.Ytjfheadgohehlaa
