/- lex.cut: names, signs, what is told. -/
import Derived.Test.YtjmjjnbpbofjhaaLexJ2
namespace Go.Proofs.Ytjmjjnbpbofjhaa
open Go.RowKit TreN LexP FixP

set_option maxRecDepth 100000 in
set_option maxHeartbeats 1000000 in
theorem cut_5 {σ : Type} (s : ByteArray) (T : Nat) (stp : σ → Tok → σ) (cont : σ → Tok → Bool) (fin : σ) (g : Nat) (caps : Array Value) (R : σ → World → Prop) (Q : Exit → Act → World → Prop) (hC : CutCb g caps T R stp cont fin) (hs : s.size ≤ 40000)
    (a : Act) (w : World) (h : CutJ s T stp cont fin g caps R 5 a w) : CutQ s T stp cont fin g caps R 5 Q a w := by
  obtain ⟨st, p, F, hF, hR, hp, k, f, rfl, hT, hpf, hfs, h0, hways⟩ := h
  obtain ⟨u, rfl⟩ := hF.form
  refine ⟨_, ⟨_, rfl, rfl⟩, ?_⟩
  obtain ⟨E, hE⟩ : ∃ E, f + ((s.data.toList.drop f).takeWhile gB).length = E := ⟨_, rfl⟩
  have hEs : E ≤ s.size := by
    have := tw_le gB (s.data.toList.drop f)
    rw [List.length_drop, len_data] at this; omega
  have hEf : f < E := by omega
  have CB := Lib.hid fun (ai : Int) (he : ai = (f : Int)) W => pass_name s ai f he (by omega) hfs E hE W
  have hx := ext_tw s f gB E hE
  have hdw : (s.data.toList.drop f).dropWhile gB = s.data.toList.drop E := by rw [← tw_drop, List.drop_drop, hE]
  have CP : ∀ W, Calls Try.prog 79 #[.string (s.extract E s.size), .string ⟨#[40]⟩] W fun e w' => e = .returned (.bool (decide ((s.data.toList.drop E).head? = some 40))) ∧ w' = W := fun W => by
    have := Try.strings_HasPrefix (s.extract E s.size) ⟨#[40]⟩ W
    rw [Lib.extract_to_end] at this
    rw [← hasPrefix_1]; exact this
  rw [hdw, hE] at hways
  generalize (s.data.toList.drop f).takeWhile gB = X at *
  have HR := Lib.hid hR
  have HT := Lib.hid hT
  have HC := Lib.hid hC
  have HX := Lib.hid hx
  rw [CutM_eq s.size 5 p _ _ w rfl]
  rcases hways with ⟨hk, htold⟩ | ⟨rfl, h40, htold⟩ | ⟨rfl, h40, htold⟩
  · have hkb : ((k : Int) == 1) = false := by rw [beq_eq_false_iff_ne]; exact hk
    have HQ := Lib.hid htold
    clear hR hT htold hE hC hF hx hdw h0 CP hk
    go_wp2_with fail
    refine (CB.out _ rfl _).mono ?_
    rintro e w1 ⟨rfl, hb⟩
    have hT1 := HT.out.below hb
    have c1 : w1.cell? ⟨T, 1, none⟩ = some (.string ⟨#[]⟩) := cell_of hT1 rfl
    have f1 : w1.frozen? ⟨T, 1, none⟩ = false := unfrozen_of hT1
    have hT2 := setCell_here (k := 1) (.string (s.extract f E)) hT1
    have hR2 := HC.out.setT st w1 1 (.string (s.extract f E)) (HC.out.below _ _ _ HR.out hb)
    obtain ⟨w2, hw2⟩ : ∃ w2, w1.setCell ⟨T, 1, none⟩ (.string (s.extract f E)) = w2 := ⟨_, rfl⟩
    rw [hw2] at hT2 hR2
    have d0 : w2.cell? ⟨T, 0, none⟩ = some (.int .i64 k) := cell_of hT2 rfl
    have e0 : w2.frozen? ⟨T, 0, none⟩ = false := unfrozen_of hT2
    have HT2 := Lib.hid hT2
    have HR2 := Lib.hid hR2
    clear hb hT1 hT2 hR2
    go_wp2_with fail
    go_step3
    refine ⟨⟨st, E, _, ⟨rfl, rfl, rfl, rfl, rfl, rfl, rfl⟩, HR2.out, by omega, ⟨k, X, 0⟩, ?_, HQ.out⟩, ?_⟩
    · have := HT2.out
      rw [HX.out] at this
      exact this
    · rw [CutM_eq s.size 7 (E) _ _ _ (by go_num)]
      simp
      omega
  · rw [decide_eq_true h40] at CP
    have hlt : E < s.size := by
      by_cases q : E < s.size
      · exact q
      · rw [List.drop_of_length_le (by rw [len_data]; omega)] at h40; cases h40
    have HCP := Lib.hid CP
    have HQ := Lib.hid htold
    clear hR hT htold hE hC hF hx hdw h0 CP h40
    go_wp2_with fail
    refine (CB.out _ rfl _).mono ?_
    rintro e w1 ⟨rfl, hb⟩
    have hT1 := HT.out.below hb
    have c1 : w1.cell? ⟨T, 1, none⟩ = some (.string ⟨#[]⟩) := cell_of hT1 rfl
    have f1 : w1.frozen? ⟨T, 1, none⟩ = false := unfrozen_of hT1
    have hT2 := setCell_here (k := 1) (.string (s.extract f E)) hT1
    have hR2 := HC.out.setT st w1 1 (.string (s.extract f E)) (HC.out.below _ _ _ HR.out hb)
    obtain ⟨w2, hw2⟩ : ∃ w2, w1.setCell ⟨T, 1, none⟩ (.string (s.extract f E)) = w2 := ⟨_, rfl⟩
    rw [hw2] at hT2 hR2
    have d0 : w2.cell? ⟨T, 0, none⟩ = some (.int .i64 1) := cell_of hT2 rfl
    have e0 : w2.frozen? ⟨T, 0, none⟩ = false := unfrozen_of hT2
    have HT2 := Lib.hid hT2
    have HR2 := Lib.hid hR2
    clear hb hT1 hT2 hR2
    go_wp2_with fail
    refine (HCP.out _).mono ?_
    rintro e w' ⟨rfl, rfl⟩
    have hT3 := setCell_here (k := 0) (.int .i64 2) HT2.out
    have hR3 := HC.out.setT st _ 0 (.int .i64 2) HR2.out
    have HT3 := Lib.hid hT3
    have HR3 := Lib.hid hR3
    clear hT3 hR3
    go_wp2_with fail
    go_step3
    refine ⟨⟨st, E + 1, _, ⟨rfl, rfl, rfl, rfl, rfl, rfl, rfl⟩, HR3.out, by omega, ⟨2, X, 0⟩, ?_, HQ.out⟩, ?_⟩
    · have := HT3.out
      rw [HX.out] at this
      exact this
    · rw [CutM_eq s.size 7 (E + 1) _ _ _ (by go_num)]
      simp
      omega
  · rw [decide_eq_false h40] at CP
    have HCP := Lib.hid CP
    have HQ := Lib.hid htold
    clear hR hT htold hE hC hF hx hdw h0 CP h40
    go_wp2_with fail
    refine (CB.out _ rfl _).mono ?_
    rintro e w1 ⟨rfl, hb⟩
    have hT1 := HT.out.below hb
    have c1 : w1.cell? ⟨T, 1, none⟩ = some (.string ⟨#[]⟩) := cell_of hT1 rfl
    have f1 : w1.frozen? ⟨T, 1, none⟩ = false := unfrozen_of hT1
    have hT2 := setCell_here (k := 1) (.string (s.extract f E)) hT1
    have hR2 := HC.out.setT st w1 1 (.string (s.extract f E)) (HC.out.below _ _ _ HR.out hb)
    obtain ⟨w2, hw2⟩ : ∃ w2, w1.setCell ⟨T, 1, none⟩ (.string (s.extract f E)) = w2 := ⟨_, rfl⟩
    rw [hw2] at hT2 hR2
    have d0 : w2.cell? ⟨T, 0, none⟩ = some (.int .i64 1) := cell_of hT2 rfl
    have e0 : w2.frozen? ⟨T, 0, none⟩ = false := unfrozen_of hT2
    have HT2 := Lib.hid hT2
    have HR2 := Lib.hid hR2
    clear hb hT1 hT2 hR2
    go_wp2_with fail
    refine (HCP.out _).mono ?_
    rintro e w' ⟨rfl, rfl⟩
    go_wp2_with fail
    go_step3
    refine ⟨⟨st, E, _, ⟨rfl, rfl, rfl, rfl, rfl, rfl, rfl⟩, HR2.out, by omega, ⟨1, X, 0⟩, ?_, HQ.out⟩, ?_⟩
    · have := HT2.out
      rw [HX.out] at this
      exact this
    · rw [CutM_eq s.size 7 (E) _ _ _ (by go_num)]
      simp
      omega

set_option maxRecDepth 100000 in
set_option maxHeartbeats 1000000 in
theorem cut_7 {σ : Type} (s : ByteArray) (T : Nat) (stp : σ → Tok → σ) (cont : σ → Tok → Bool) (fin : σ) (g : Nat) (caps : Array Value) (R : σ → World → Prop) (Q : Exit → Act → World → Prop) (hC : CutCb g caps T R stp cont fin) (hQ : ∀ a w, a.defers = [] → R fin w → Q .normal a w)
    (a : Act) (w : World) (h : CutJ s T stp cont fin g caps R 7 a w) : CutQ s T stp cont fin g caps R 7 Q a w := by
  obtain ⟨st, p, F, hF, hR, hp, ⟨k, x, nn⟩, hT, hfin⟩ := h
  obtain ⟨u, rfl⟩ := hF.form
  refine ⟨_, ⟨_, rfl, rfl⟩, ?_⟩
  have eg := hC.enters
  have c0 : w.cell? ⟨T, 0, none⟩ = some (.int .i64 k) := cell_of hT rfl
  have c1 : w.cell? ⟨T, 1, none⟩ = some (.string ⟨x.toArray⟩) := cell_of hT rfl
  have c2 : w.cell? ⟨T, 2, none⟩ = some (.int .i64 nn) := cell_of hT rfl
  unfold Told at hfin
  have CALL := hC.call st ⟨k, x, nn⟩ w _ _ _ hR hT ⟨_, hfin⟩
  unfold LexP.Tok.val at CALL
  have HCALL := Lib.hid CALL
  have HQ := Lib.hid hQ
  clear hR hT hC hF CALL hQ
  rw [CutM_eq s.size 7 p _ _ w rfl]
  go_wp2_with fail
  refine (HCALL.out).mono ?_
  rintro e w5 ⟨rfl, hR5, hT5⟩
  have HR5 := Lib.hid hR5
  have HT5 := Lib.hid hT5
  clear hR5 hT5
  cases hct : cont st ⟨k, x, nn⟩ with
  | true =>
    rw [if_pos hct] at hfin
    have HF := Lib.hid hfin
    clear hfin hct
    go_wp2_with fail
    go_step3
    refine ⟨⟨_, p, _, ⟨rfl, rfl, rfl, rfl, rfl, rfl, rfl⟩, HR5.out, by omega, ⟨_, _, _, HT5.out⟩, HF.out⟩, ?_⟩
    rw [CutM_eq s.size 0 (p) _ _ _ (by go_num)]
    simp
  | false =>
    rw [hct, if_neg (by simp)] at hfin
    have HF := Lib.hid hfin
    clear hfin hct
    go_wp2_with fail
    have := HR5.out
    rw [HF.out] at this
    exact HQ.out _ _ rfl this
end Go.Proofs.Ytjmjjnbpbofjhaa
