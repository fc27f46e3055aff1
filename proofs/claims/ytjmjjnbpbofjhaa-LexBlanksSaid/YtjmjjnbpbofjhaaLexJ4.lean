/- lex.cut: signs. -/
import Derived.Test.YtjmjjnbpbofjhaaLexJ3
namespace Go.Proofs.Ytjmjjnbpbofjhaa
open Go.RowKit TreN LexP FixP

theorem ext_one (s : ByteArray) (p : Nat) (h : p < s.size) : s.extract p (p + 1) = ⟨#[s[p]]⟩ := by
  refine ba_ext ?_
  rw [ext_list, List.drop_eq_getElem_cons (by rw [len_data]; exact h)]
  have e : p + 1 - p = 1 := by omega
  rw [e]
  simp [ByteArray.getElem_eq_getElem_data]

set_option maxRecDepth 100000 in
set_option maxHeartbeats 1000000 in
theorem cut_6 {σ : Type} (s : ByteArray) (T : Nat) (stp : σ → Tok → σ) (cont : σ → Tok → Bool) (fin : σ) (g : Nat) (caps : Array Value) (R : σ → World → Prop) (Q : Exit → Act → World → Prop) (hC : CutCb g caps T R stp cont fin) (hs : s.size ≤ 40000) (hQ : ∀ a w, a.defers = [] → R fin w → Q .normal a w)
    (a : Act) (w : World) (h : CutJ s T stp cont fin g caps R 6 a w) : CutQ s T stp cont fin g caps R 6 Q a w := by
  obtain ⟨st, p, F, hF, hR, hp, rfl, ⟨v0, v1, v2, hT⟩, hlt, hfin⟩ := h
  obtain ⟨u, rfl⟩ := hF.form
  refine ⟨_, ⟨_, rfl, rfl⟩, ?_⟩
  have eg := hC.enters
  have hx := ext_one s p hlt
  have CS := fun W => sign_token s[p] W
  generalize signT s[p] = X at *
  obtain ⟨k, x, nn⟩ := X
  unfold LexP.Tok.val at CS
  simp only [] at CS
  rw [← hx] at CS
  unfold Told at hfin
  have HCS := Lib.hid CS
  have HQ := Lib.hid hQ
  have HC := Lib.hid hC
  have HR := Lib.hid hR
  have HT := Lib.hid hT
  clear hR hT hC hF CS hQ hx
  rw [CutM_eq s.size 6 p _ _ w rfl]
  go_wp2_with fail
  refine (HCS.out _).mono ?_
  rintro e w1 ⟨rfl, hb⟩
  obtain ⟨x1, x2, x3, ⟨p0, q0, r0⟩, ⟨p1, q1, r1⟩, ⟨p2, q2, r2⟩, hT3, hR3⟩ := HC.out.put3 (HT.out.below hb) (HC.out.below _ _ _ HR.out hb) (.int .i64 k) (.string ⟨x.toArray⟩) (.int .i64 nn)
  have c0 : x3.cell? ⟨T, 0, none⟩ = some (.int .i64 k) := cell_of hT3 rfl
  have c1 : x3.cell? ⟨T, 1, none⟩ = some (.string ⟨x.toArray⟩) := cell_of hT3 rfl
  have c2 : x3.cell? ⟨T, 2, none⟩ = some (.int .i64 nn) := cell_of hT3 rfl
  have CALL := HC.out.call st ⟨k, x, nn⟩ x3 _ _ _ hR3 hT3 ⟨_, hfin⟩
  unfold LexP.Tok.val at CALL
  have HCALL := Lib.hid CALL
  clear hT3 hR3 hb CALL
  go_wp2_with fail
  go_step3
  go_wp2_with fail
  refine (HCALL.out).mono ?_
  rintro e w5 ⟨rfl, hR5, hT5⟩
  have HR5 := Lib.hid hR5
  have HT5 := Lib.hid hT5
  clear hR5 hT5
  cases hct : cont st ⟨k, x, nn⟩ with
  | true =>
    rw [if_pos hct] at hfin
    have HF := Lib.hid hfin
    clear hfin hct
    go_wp2_with fail
    go_step3
    refine ⟨⟨_, p + 1, _, ⟨rfl, rfl, rfl, rfl, rfl, rfl, rfl⟩, HR5.out, by omega, ⟨_, _, _, HT5.out⟩, HF.out⟩, ?_⟩
    rw [CutM_eq s.size 0 (p + 1) _ _ _ (by go_num)]
    simp
    omega
  | false =>
    rw [hct, if_neg (by simp)] at hfin
    have HF := Lib.hid hfin
    clear hfin hct
    go_wp2_with fail
    have := HR5.out
    rw [HF.out] at this
    exact HQ.out _ _ rfl this
end Go.Proofs.Ytjmjjnbpbofjhaa
