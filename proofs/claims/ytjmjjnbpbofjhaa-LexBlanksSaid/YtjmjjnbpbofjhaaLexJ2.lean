/- lex.cut: blanks, strings, numbers. -/
import Derived.Test.YtjmjjnbpbofjhaaLexJ1
namespace Go.Proofs.Ytjmjjnbpbofjhaa
open Go.RowKit TreN LexP FixP

theorem TokIn.lt {w : World} {T : Nat} {x y z : Value} (h : TokIn w T x y z) : T < w.heap.size := by
  by_cases q : T < w.heap.size
  · exact q
  · unfold TokIn at h
    rw [Array.getElem?_eq_none (by omega)] at h; cases h
theorem TokIn.below {w w' : World} {T : Nat} {x y z : Value} (h : TokIn w T x y z) (hb : Below w.heap.size w w') : TokIn w' T x y z := (hb.block T h.lt).trans h
theorem CutCb.put3 {σ : Type} {g : Nat} {caps : Array Value} {T : Nat} {R : σ → World → Prop} {stp : σ → Tok → σ} {cont : σ → Tok → Bool} {fin : σ} (hC : CutCb g caps T R stp cont fin) {w : World} {v0 v1 v2 : Value} (h : TokIn w T v0 v1 v2) {st : σ} (hR : R st w) (n0 n1 n2 : Value) :
    ∃ x1 x2 x3, (w.cell? ⟨T, 0, none⟩ = some v0 ∧ w.frozen? ⟨T, 0, none⟩ = false ∧ w.setCell ⟨T, 0, none⟩ n0 = x1) ∧
      (x1.cell? ⟨T, 1, none⟩ = some v1 ∧ x1.frozen? ⟨T, 1, none⟩ = false ∧ x1.setCell ⟨T, 1, none⟩ n1 = x2) ∧
      (x2.cell? ⟨T, 2, none⟩ = some v2 ∧ x2.frozen? ⟨T, 2, none⟩ = false ∧ x2.setCell ⟨T, 2, none⟩ n2 = x3) ∧ TokIn x3 T n0 n1 n2 ∧ R st x3 := by
  obtain ⟨x1, x2, x3, ⟨p0, q0, r0⟩, ⟨p1, q1, r1⟩, ⟨p2, q2, r2⟩, h3⟩ := three_store w T 47 v0 v1 v2 n0 n1 n2 h
  refine ⟨x1, x2, x3, ⟨p0, q0, r0⟩, ⟨p1, q1, r1⟩, ⟨p2, q2, r2⟩, h3.here, ?_⟩
  rw [← r2, ← r1, ← r0]
  exact hC.setT _ _ _ _ (hC.setT _ _ _ _ (hC.setT _ _ _ _ hR))

set_option maxRecDepth 100000 in
set_option maxHeartbeats 1000000 in
theorem cut_2 {σ : Type} (s : ByteArray) (T : Nat) (stp : σ → Tok → σ) (cont : σ → Tok → Bool) (fin : σ) (g : Nat) (caps : Array Value) (R : σ → World → Prop) (Q : Exit → Act → World → Prop) (hC : CutCb g caps T R stp cont fin) (hs : s.size ≤ 40000)
    (a : Act) (w : World) (h : CutJ s T stp cont fin g caps R 2 a w) : CutQ s T stp cont fin g caps R 2 Q a w := by
  obtain ⟨st, p, F, hF, hR, hp, hT, h0, htold⟩ := h
  obtain ⟨u, rfl⟩ := hF.form
  refine ⟨_, ⟨_, rfl, rfl⟩, ?_⟩
  obtain ⟨E, hE⟩ : ∃ E, p + ((s.data.toList.drop p).takeWhile blB).length = E := ⟨_, rfl⟩
  have hEs : E ≤ s.size := by
    have := tw_le blB (s.data.toList.drop p)
    rw [List.length_drop, len_data] at this; omega
  have hEp : p < E := by omega
  have CB := Lib.hid fun (ai : Int) (he : ai = (p : Int)) => pass_blank s ai p he (by omega) hp E hE w
  rw [hE] at htold
  have c0 : w.cell? ⟨T, 0, none⟩ = some (.int .i64 0) := cell_of hT rfl
  have f0 : w.frozen? ⟨T, 0, none⟩ = false := unfrozen_of hT
  have hT' : TokIn (w.setCell ⟨T, 0, none⟩ (.int .i64 20)) T (.int .i64 20) (.string ⟨#[]⟩) (.int .i64 0) := setCell_here (k := 0) _ hT
  have HR := Lib.hid (hC.setT st w 0 (.int .i64 20) hR)
  have HT := Lib.hid hT'
  have HQ := Lib.hid htold
  clear hR hT htold hE hC hF h0 hT'
  rw [CutM_eq s.size 2 p _ _ w rfl]
  go_wp2_with fail
  refine (CB.out _ rfl).mono ?_
  rintro e w' ⟨rfl, rfl⟩
  go_wp2_with fail
  go_step3
  refine ⟨⟨st, E, F, ⟨rfl, rfl, rfl, rfl, rfl, rfl, rfl⟩, HR.out, hEs, ⟨20, [], 0⟩, HT.out, HQ.out⟩, ?_⟩
  rw [CutM_eq s.size 7 E _ _ _ rfl]
  simp
  omega

set_option maxRecDepth 100000 in
set_option maxHeartbeats 1000000 in
theorem cut_3 {σ : Type} (s : ByteArray) (T : Nat) (stp : σ → Tok → σ) (cont : σ → Tok → Bool) (fin : σ) (g : Nat) (caps : Array Value) (R : σ → World → Prop) (Q : Exit → Act → World → Prop) (hC : CutCb g caps T R stp cont fin) (hs : s.size ≤ 40000)
    (a : Act) (w : World) (h : CutJ s T stp cont fin g caps R 3 a w) : CutQ s T stp cont fin g caps R 3 Q a w := by
  obtain ⟨st, p, F, hF, hR, hp, hT, hlt, htold⟩ := h
  obtain ⟨u, rfl⟩ := hF.form
  refine ⟨_, ⟨_, rfl, rfl⟩, ?_⟩
  have CB := fun W => quote_any s p W (by omega) hlt
  have hm1 := (quoL_bd s[p] (s.data.toList.drop (p + 1))).1
  have hm2 := (quoL_bd s[p] (s.data.toList.drop (p + 1))).2
  rw [List.length_drop, len_data] at hm2
  generalize quoL s[p] (s.data.toList.drop (p + 1)) = X at *
  obtain ⟨⟨k, x, nn⟩, m⟩ := X
  obtain ⟨E, hE⟩ : ∃ E, p + m = E := ⟨_, rfl⟩
  simp only [] at hm1 hm2 CB htold
  rw [hE] at htold CB
  have hEs : E ≤ s.size := by omega
  have hEp : p < E := by omega
  have CB : ∀ W, Calls Try.prog 86 #[.string s, .int .i64 (p : Int)] W fun e w' => e = .returned (.tuple #[.agg #[.int .i64 k, .string ⟨x.toArray⟩, .int .i64 nn], .int .i64 (E : Int)]) ∧ Below W.heap.size W w' := CB
  obtain ⟨v0, v1, v2, hT⟩ := hT
  have HR := Lib.hid hR
  have HT := Lib.hid hT
  have HQ := Lib.hid htold
  have HC := Lib.hid hC
  have HCB := Lib.hid CB
  clear hR hT htold hE hC hF hm1 hm2 CB
  rw [CutM_eq s.size 3 p _ _ w rfl]
  go_wp2_with fail
  refine (HCB.out _).mono ?_
  rintro e w1 ⟨rfl, hb⟩
  obtain ⟨x1, x2, x3, ⟨p0, q0, r0⟩, ⟨p1, q1, r1⟩, ⟨p2, q2, r2⟩, hT3, hR3⟩ := HC.out.put3 (HT.out.below hb) (HC.out.below _ _ _ HR.out hb) (.int .i64 k) (.string ⟨x.toArray⟩) (.int .i64 nn)
  have HT3 := Lib.hid hT3
  have HR3 := Lib.hid hR3
  clear hT3 hR3 hb
  go_wp2_with fail
  go_step3
  refine ⟨⟨st, E, F, ⟨rfl, rfl, rfl, rfl, rfl, rfl, rfl⟩, HR3.out, hEs, ⟨k, x, nn⟩, HT3.out, HQ.out⟩, ?_⟩
  rw [CutM_eq s.size 7 E _ _ _ rfl]
  simp
  omega

set_option maxRecDepth 100000 in
set_option maxHeartbeats 1000000 in
theorem cut_4 {σ : Type} (s : ByteArray) (T : Nat) (stp : σ → Tok → σ) (cont : σ → Tok → Bool) (fin : σ) (g : Nat) (caps : Array Value) (R : σ → World → Prop) (Q : Exit → Act → World → Prop) (hC : CutCb g caps T R stp cont fin) (hs : s.size ≤ 40000)
    (a : Act) (w : World) (h : CutJ s T stp cont fin g caps R 4 a w) : CutQ s T stp cont fin g caps R 4 Q a w := by
  obtain ⟨st, p, F, hF, hR, hp, hT, hlt, n, v, hn, h0, hv, htold⟩ := h
  obtain ⟨u, rfl⟩ := hF.form
  refine ⟨_, ⟨_, rfl, rfl⟩, ?_⟩
  have CB := fun W => measure_any s p W (by omega) hlt n hn h0 v hv
  have hm1 := (meaL_bd v n ((s.data.toList.drop p).drop n)).1
  have hm2 := (meaL_bd v n ((s.data.toList.drop p).drop n)).2
  have hnl := numL_le (s.data.toList.drop p)
  rw [List.length_drop, List.length_drop, len_data] at hm2
  rw [hn, List.length_drop, len_data] at hnl
  generalize meaL v n ((s.data.toList.drop p).drop n) = X at *
  obtain ⟨⟨k, x, nn⟩, m⟩ := X
  obtain ⟨E, hE⟩ : ∃ E, p + m = E := ⟨_, rfl⟩
  simp only [] at hm1 hm2 CB htold
  rw [hE] at htold CB
  have hEs : E ≤ s.size := by omega
  have hEp : p < E := by omega
  have CB : ∀ W, Calls Try.prog 87 #[.string s, .int .i64 (p : Int)] W fun e w' => e = .returned (.tuple #[.agg #[.int .i64 k, .string ⟨x.toArray⟩, .int .i64 nn], .int .i64 (E : Int)]) ∧ Below W.heap.size W w' := CB
  obtain ⟨v0, v1, v2, hT⟩ := hT
  have HR := Lib.hid hR
  have HT := Lib.hid hT
  have HQ := Lib.hid htold
  have HC := Lib.hid hC
  have HCB := Lib.hid CB
  clear hR hT htold hE hC hF hm1 hm2 CB hn h0 hv hnl
  rw [CutM_eq s.size 4 p _ _ w rfl]
  go_wp2_with fail
  refine (HCB.out _).mono ?_
  rintro e w1 ⟨rfl, hb⟩
  obtain ⟨x1, x2, x3, ⟨p0, q0, r0⟩, ⟨p1, q1, r1⟩, ⟨p2, q2, r2⟩, hT3, hR3⟩ := HC.out.put3 (HT.out.below hb) (HC.out.below _ _ _ HR.out hb) (.int .i64 k) (.string ⟨x.toArray⟩) (.int .i64 nn)
  have HT3 := Lib.hid hT3
  have HR3 := Lib.hid hR3
  clear hT3 hR3 hb
  go_wp2_with fail
  go_step3
  refine ⟨⟨st, E, F, ⟨rfl, rfl, rfl, rfl, rfl, rfl, rfl⟩, HR3.out, hEs, ⟨k, x, nn⟩, HT3.out, HQ.out⟩, ?_⟩
  rw [CutM_eq s.size 7 E _ _ _ rfl]
  simp
  omega

end Go.Proofs.Ytjmjjnbpbofjhaa
