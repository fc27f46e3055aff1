/- lex.cut: comments, blanks. -/
import Derived.Test.YtjmjjnbpbofjhaaLexJ
namespace Go.Proofs.Ytjmjjnbpbofjhaa
open Go.RowKit TreN LexP FixP

theorem behind_at (s : ByteArray) (ai : Int) (a : Nat) (he : ai = a) (E : Nat) (hE : a + endC (s.data.toList.drop a) = E) (w : World) (m : Int) (hs : s.size < 4294967281) (ha : a ≤ s.size) (hm : w.cell? ⟨0, 0, none⟩ = some (.int .i64 m)) :
    Calls Try.prog 84 #[.string s, .int .i64 ai, .string ⟨#[42, 47]⟩] w fun e w' => e = .returned (.int .i64 (E : Int)) ∧ w = w' := by
  subst he; subst hE; exact behind_any s a w m hs ha hm
theorem CutM_eq (n l p : Nat) (tmps : Array Value) (d : List _) (w : World) (h : tmps.getD 6 undef = .int .i64 (p : Int)) : CutM n l ⟨tmps, d⟩ w = 16 * (n - p) + (if l = 0 then 8 else if l = 7 then 9 else 7) := by
  unfold CutM
  simp only [h, intOf, Int.toNat_natCast]

set_option maxRecDepth 100000 in
set_option maxHeartbeats 1000000 in
theorem cut_1 {σ : Type} (s : ByteArray) (T : Nat) (stp : σ → Tok → σ) (cont : σ → Tok → Bool) (fin : σ) (g : Nat) (caps : Array Value) (R : σ → World → Prop) (Q : Exit → Act → World → Prop) (hC : CutCb g caps T R stp cont fin) (hs : s.size ≤ 40000)
    (a : Act) (w : World) (h : CutJ s T stp cont fin g caps R 1 a w) : CutQ s T stp cont fin g caps R 1 Q a w := by
  obtain ⟨st, p, F, hF, hR, hp, hT, hp2, hrest⟩ := h
  obtain ⟨u, rfl⟩ := hF.form
  refine ⟨_, ⟨_, rfl, rfl⟩, ?_⟩
  obtain ⟨m, hm⟩ := hC.max st w hR
  obtain ⟨E, hE⟩ : ∃ E, p + 2 + endC (s.data.toList.drop (p + 2)) = E := ⟨_, rfl⟩
  have hEs : E ≤ s.size := by
    have := endC_le (s.data.toList.drop (p + 2))
    rw [List.length_drop, len_data] at this; omega
  have hEp : p + 2 ≤ E := by omega
  have CB := Lib.hid fun (ai : Int) (he : ai = ((p + 2 : Nat) : Int)) => behind_at s ai (p + 2) he E hE w m (by omega) (by omega) hm
  rw [hE] at hrest
  have HR := Lib.hid hR
  have HT := Lib.hid hT
  have HQ := Lib.hid hrest
  have HC := Lib.hid hC
  clear hR hT hrest hm hE hC hF
  rw [CutM_eq s.size 1 p _ _ w rfl]
  go_wp2_with fail
  refine (CB.out _ (by omega)).mono ?_
  rintro e w' ⟨rfl, rfl⟩
  go_wp2_with fail
  go_step3
  refine ⟨⟨st, E, F, ⟨rfl, rfl, rfl, rfl, rfl, rfl, rfl⟩, HR.out, hEs, HT.out, HQ.out⟩, ?_⟩
  rw [CutM_eq s.size 0 E _ _ _ rfl]
  simp
  omega
end Go.Proofs.Ytjmjjnbpbofjhaa
