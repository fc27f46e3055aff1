/- lex.cut: what comes next. -/
import Derived.Test.YtipmgoejdkpknaaLexJa
namespace Go.Proofs.Ytipmgoejdkpknaa
open Go.RowKit TreN LexP FixP

theorem drop_cons (s : ByteArray) (p : Nat) (h : p < s.size) : s.data.toList.drop p = s[p] :: s.data.toList.drop (p + 1) := by
  rw [List.drop_eq_getElem_cons (by rw [len_data]; exact h)]
  simp [ByteArray.getElem_eq_getElem_data]
theorem com_iff (s : ByteArray) (p : Nat) (h : p < s.size) : Lib.hasPrefix (s.extract p s.size).data.toList (ByteArray.mk #[47, 42]).data.toList = decide (s[p].toNat = 47 ∧ (s.data.toList.drop (p + 1)).head? = some 42) := by
  rw [Lib.extract_to_end]
  have e : (ByteArray.mk #[47, 42]).data.toList = [47, 42] := rfl
  rw [e, hasPrefix_2, drop_cons s p h, decide_eq_decide]
  constructor
  · rintro ⟨h1, h2⟩
    injection h1 with h1
    exact ⟨by rw [h1]; rfl, h2⟩
  · rintro ⟨h1, h2⟩
    exact ⟨by rw [show s[p] = 47 from UInt8.toNat_inj.1 h1]; rfl, h2⟩

set_option maxRecDepth 100000 in
set_option maxHeartbeats 1000000 in
theorem cut_0end {σ : Type} (s : ByteArray) (T : Nat) (stp : σ → Tok → σ) (cont : σ → Tok → Bool) (fin : σ) (g : Nat) (caps : Array Value) (R : σ → World → Prop) (Q : Exit → Act → World → Prop) (hC : CutCb g caps T R stp cont fin)
    (st : σ) (p : Nat) (F : Value) (a : Act) (w : World) (hF : Fr s (.func (.func g) #[] caps) T F p a) (hR : R st w) (v0 v1 v2 : Value) (hT : TokIn w T v0 v1 v2) (hrest : Rest s stp cont fin st p) (hQr : ∀ a w, a.defers = [] → R fin w → Q .ret a w) (he : p = s.size) : CutQ s T stp cont fin g caps R 0 Q a w := by
  obtain ⟨u, rfl⟩ := hF.form
  refine ⟨_, ⟨_, rfl, rfl⟩, ?_⟩
  obtain ⟨x1, x2, x3, ⟨p0, q0, r0⟩, ⟨p1, q1, r1⟩, ⟨p2, q2, r2⟩, hT3, hR3⟩ := hC.put3 hT hR (.int .i64 0) (.string ⟨#[]⟩) (.int .i64 0)
  have hb : ((p : Int) == (s.size : Int)) = true := by rw [beq_iff_eq]; omega
  have hfin : st = fin := by
    unfold Rest at hrest
    rw [List.drop_of_length_le (by rw [len_data]; omega)] at hrest
    exact hrest
  rw [hfin] at hR3
  have HQ := Lib.hid hQr
  have HT3 := Lib.hid hT3
  have HR3 := Lib.hid hR3
  have HC := Lib.hid hC
  rw [CutM_eq s.size 0 p _ _ w rfl]
  clear hR hT hC hF hT3 hR3 hQr hfin he hrest
  go_wp2_with fail
  exact HQ.out _ _ rfl HR3.out

set_option maxRecDepth 100000 in
set_option maxHeartbeats 1000000 in
theorem cut_0com {σ : Type} (s : ByteArray) (T : Nat) (stp : σ → Tok → σ) (cont : σ → Tok → Bool) (fin : σ) (g : Nat) (caps : Array Value) (R : σ → World → Prop) (Q : Exit → Act → World → Prop) (hC : CutCb g caps T R stp cont fin)
    (st : σ) (p : Nat) (F : Value) (a : Act) (w : World) (hF : Fr s (.func (.func g) #[] caps) T F p a) (hR : R st w) (v0 v1 v2 : Value) (hT : TokIn w T v0 v1 v2) (hrest : Rest s stp cont fin st p) (hlt : p < s.size) (hc : s[p].toNat = 47 ∧ (s.data.toList.drop (p + 1)).head? = some 42) : CutQ s T stp cont fin g caps R 0 Q a w := by
  obtain ⟨u, rfl⟩ := hF.form
  refine ⟨_, ⟨_, rfl, rfl⟩, ?_⟩
  obtain ⟨x1, x2, x3, ⟨p0, q0, r0⟩, ⟨p1, q1, r1⟩, ⟨p2, q2, r2⟩, hT3, hR3⟩ := hC.put3 hT hR (.int .i64 0) (.string ⟨#[]⟩) (.int .i64 0)
  have hb : ((p : Int) == (s.size : Int)) = false := by rw [beq_eq_false_iff_ne]; omega
  have CP := fun W => (Try.strings_HasPrefix (s.extract p s.size) ⟨#[47, 42]⟩ W)
  rw [com_iff s p hlt] at CP
  have CBL := fun W => blank_any (s[p].toNat : Int) W
  rw [blI_eq] at CBL
  have hd := drop_cons s p hlt
  rw [decide_eq_true hc] at CP
  have ho : one (s.data.toList.drop p) = (none, 2 + endC (s.data.toList.drop (p + 2))) := by
    rw [hd]
    show oneC _ _ = _
    rw [oneC_com hc, List.drop_drop]
  have hpass := Rest.passed s stp cont fin hrest ho
  have h2 : p + 2 ≤ s.size := by
    by_cases q : p + 1 < s.size
    · omega
    · rw [List.drop_of_length_le (by rw [len_data]; omega)] at hc; cases hc.2
  rw [← Nat.add_assoc] at hpass
  have HCP := Lib.hid CP
  have HP := Lib.hid hpass
  have HT3 := Lib.hid hT3
  have HR3 := Lib.hid hR3
  have HC := Lib.hid hC
  rw [CutM_eq s.size 0 p _ _ w rfl]
  clear hR hT hC hF hT3 hR3 hrest CP CBL hd ho hpass hc
  go_wp2_with fail
  refine (HCP.out _).mono ?_
  rintro e w' ⟨rfl, rfl⟩
  go_wp2_with fail
  go_step3
  refine ⟨⟨st, p, _, ⟨rfl, rfl, rfl, rfl, rfl, rfl, rfl⟩, HR3.out, by omega, ⟨_, _, _, HT3.out⟩, h2, HP.out⟩, ?_⟩
  rw [CutM_eq s.size 1 p _ _ _ rfl]
  simp

set_option maxRecDepth 100000 in
set_option maxHeartbeats 1000000 in
theorem cut_0bl {σ : Type} (s : ByteArray) (T : Nat) (stp : σ → Tok → σ) (cont : σ → Tok → Bool) (fin : σ) (g : Nat) (caps : Array Value) (R : σ → World → Prop) (Q : Exit → Act → World → Prop) (hC : CutCb g caps T R stp cont fin)
    (st : σ) (p : Nat) (F : Value) (a : Act) (w : World) (hF : Fr s (.func (.func g) #[] caps) T F p a) (hR : R st w) (v0 v1 v2 : Value) (hT : TokIn w T v0 v1 v2) (hrest : Rest s stp cont fin st p) (hlt : p < s.size) (hc : ¬ (s[p].toNat = 47 ∧ (s.data.toList.drop (p + 1)).head? = some 42)) (hbl : blB s[p] = true) : CutQ s T stp cont fin g caps R 0 Q a w := by
  obtain ⟨u, rfl⟩ := hF.form
  refine ⟨_, ⟨_, rfl, rfl⟩, ?_⟩
  obtain ⟨x1, x2, x3, ⟨p0, q0, r0⟩, ⟨p1, q1, r1⟩, ⟨p2, q2, r2⟩, hT3, hR3⟩ := hC.put3 hT hR (.int .i64 0) (.string ⟨#[]⟩) (.int .i64 0)
  have hb : ((p : Int) == (s.size : Int)) = false := by rw [beq_eq_false_iff_ne]; omega
  have CP := fun W => (Try.strings_HasPrefix (s.extract p s.size) ⟨#[47, 42]⟩ W)
  rw [com_iff s p hlt] at CP
  have CBL := fun W => blank_any (s[p].toNat : Int) W
  rw [blI_eq] at CBL
  have hd := drop_cons s p hlt
  rw [decide_eq_false hc] at CP
  have HCP := Lib.hid CP
  rw [hbl] at CBL
  have ho : one (s.data.toList.drop p) = (some ⟨20, [], 0⟩, ((s.data.toList.drop p).takeWhile blB).length) := by
    rw [hd]
    show oneC _ _ = _
    rw [oneC_bl hc hbl]
  have h0 : 0 < ((s.data.toList.drop p).takeWhile blB).length := by rw [hd]; exact tw_pos _ _ _ hbl
  have htold := Rest.told s stp cont fin hrest ho
  have HCB := Lib.hid CBL
  have HP := Lib.hid htold
  have H0 := Lib.hid h0
  have HT3 := Lib.hid hT3
  have HR3 := Lib.hid hR3
  have HC := Lib.hid hC
  rw [CutM_eq s.size 0 p _ _ w rfl]
  clear hR hT hC hF hT3 hR3 hrest CP CBL hd ho htold hc hbl h0
  go_wp2_with fail
  refine (HCP.out _).mono ?_
  rintro e w' ⟨rfl, rfl⟩
  go_wp2_with fail
  refine (HCB.out _).mono ?_
  rintro e w' ⟨rfl, rfl⟩
  go_wp2_with fail
  go_step3
  refine ⟨⟨st, p, _, ⟨rfl, rfl, rfl, rfl, rfl, rfl, rfl⟩, HR3.out, by omega, HT3.out, H0.out, HP.out⟩, ?_⟩
  rw [CutM_eq s.size 2 p _ _ _ rfl]
  simp

set_option maxRecDepth 100000 in
set_option maxHeartbeats 1000000 in
theorem cut_0q1 {σ : Type} (s : ByteArray) (T : Nat) (stp : σ → Tok → σ) (cont : σ → Tok → Bool) (fin : σ) (g : Nat) (caps : Array Value) (R : σ → World → Prop) (Q : Exit → Act → World → Prop) (hC : CutCb g caps T R stp cont fin)
    (st : σ) (p : Nat) (F : Value) (a : Act) (w : World) (hF : Fr s (.func (.func g) #[] caps) T F p a) (hR : R st w) (v0 v1 v2 : Value) (hT : TokIn w T v0 v1 v2) (hrest : Rest s stp cont fin st p) (hlt : p < s.size) (hc : ¬ (s[p].toNat = 47 ∧ (s.data.toList.drop (p + 1)).head? = some 42)) (hbl : blB s[p] = false) (hq : s[p].toNat = 34) : CutQ s T stp cont fin g caps R 0 Q a w := by
  obtain ⟨u, rfl⟩ := hF.form
  refine ⟨_, ⟨_, rfl, rfl⟩, ?_⟩
  obtain ⟨x1, x2, x3, ⟨p0, q0, r0⟩, ⟨p1, q1, r1⟩, ⟨p2, q2, r2⟩, hT3, hR3⟩ := hC.put3 hT hR (.int .i64 0) (.string ⟨#[]⟩) (.int .i64 0)
  have hb : ((p : Int) == (s.size : Int)) = false := by rw [beq_eq_false_iff_ne]; omega
  have CP := fun W => (Try.strings_HasPrefix (s.extract p s.size) ⟨#[47, 42]⟩ W)
  rw [com_iff s p hlt] at CP
  have CBL := fun W => blank_any (s[p].toNat : Int) W
  rw [blI_eq] at CBL
  have hd := drop_cons s p hlt
  rw [decide_eq_false hc] at CP
  have HCP := Lib.hid CP
  rw [hbl] at CBL
  have ho : one (s.data.toList.drop p) = (some (quoL s[p] (s.data.toList.drop (p + 1))).1, (quoL s[p] (s.data.toList.drop (p + 1))).2) := by
    rw [hd]
    show oneC _ _ = _
    rw [oneC_quo hc hbl (by omega)]; rfl
  have htold := Rest.told s stp cont fin hrest ho
  have HCB := Lib.hid CBL
  have HP := Lib.hid htold
  have k34 : ((s[p].toNat : Int) == 34) = true := by rw [beq_iff_eq]; omega
  have k39 : ((s[p].toNat : Int) == 39) = false := by rw [beq_eq_false_iff_ne]; omega
  have HT3 := Lib.hid hT3
  have HR3 := Lib.hid hR3
  have HC := Lib.hid hC
  rw [CutM_eq s.size 0 p _ _ w rfl]
  clear hR hT hC hF hT3 hR3 hrest CP CBL hd ho htold hc hbl hq
  go_wp2_with fail
  refine (HCP.out _).mono ?_
  rintro e w' ⟨rfl, rfl⟩
  go_wp2_with fail
  refine (HCB.out _).mono ?_
  rintro e w' ⟨rfl, rfl⟩
  go_wp2_with fail
  go_step3
  refine ⟨⟨st, p, _, ⟨rfl, rfl, rfl, rfl, rfl, rfl, rfl⟩, HR3.out, by omega, ⟨_, _, _, HT3.out⟩, hlt, HP.out⟩, ?_⟩
  rw [CutM_eq s.size 3 p _ _ _ rfl]
  simp

set_option maxRecDepth 100000 in
set_option maxHeartbeats 1000000 in
theorem cut_0q2 {σ : Type} (s : ByteArray) (T : Nat) (stp : σ → Tok → σ) (cont : σ → Tok → Bool) (fin : σ) (g : Nat) (caps : Array Value) (R : σ → World → Prop) (Q : Exit → Act → World → Prop) (hC : CutCb g caps T R stp cont fin)
    (st : σ) (p : Nat) (F : Value) (a : Act) (w : World) (hF : Fr s (.func (.func g) #[] caps) T F p a) (hR : R st w) (v0 v1 v2 : Value) (hT : TokIn w T v0 v1 v2) (hrest : Rest s stp cont fin st p) (hlt : p < s.size) (hc : ¬ (s[p].toNat = 47 ∧ (s.data.toList.drop (p + 1)).head? = some 42)) (hbl : blB s[p] = false) (hq : s[p].toNat = 39) : CutQ s T stp cont fin g caps R 0 Q a w := by
  obtain ⟨u, rfl⟩ := hF.form
  refine ⟨_, ⟨_, rfl, rfl⟩, ?_⟩
  obtain ⟨x1, x2, x3, ⟨p0, q0, r0⟩, ⟨p1, q1, r1⟩, ⟨p2, q2, r2⟩, hT3, hR3⟩ := hC.put3 hT hR (.int .i64 0) (.string ⟨#[]⟩) (.int .i64 0)
  have hb : ((p : Int) == (s.size : Int)) = false := by rw [beq_eq_false_iff_ne]; omega
  have CP := fun W => (Try.strings_HasPrefix (s.extract p s.size) ⟨#[47, 42]⟩ W)
  rw [com_iff s p hlt] at CP
  have CBL := fun W => blank_any (s[p].toNat : Int) W
  rw [blI_eq] at CBL
  have hd := drop_cons s p hlt
  rw [decide_eq_false hc] at CP
  have HCP := Lib.hid CP
  rw [hbl] at CBL
  have ho : one (s.data.toList.drop p) = (some (quoL s[p] (s.data.toList.drop (p + 1))).1, (quoL s[p] (s.data.toList.drop (p + 1))).2) := by
    rw [hd]
    show oneC _ _ = _
    rw [oneC_quo hc hbl (by omega)]; rfl
  have htold := Rest.told s stp cont fin hrest ho
  have HCB := Lib.hid CBL
  have HP := Lib.hid htold
  have k34 : ((s[p].toNat : Int) == 34) = false := by rw [beq_eq_false_iff_ne]; omega
  have k39 : ((s[p].toNat : Int) == 39) = true := by rw [beq_iff_eq]; omega
  have HT3 := Lib.hid hT3
  have HR3 := Lib.hid hR3
  have HC := Lib.hid hC
  rw [CutM_eq s.size 0 p _ _ w rfl]
  clear hR hT hC hF hT3 hR3 hrest CP CBL hd ho htold hc hbl hq
  go_wp2_with fail
  refine (HCP.out _).mono ?_
  rintro e w' ⟨rfl, rfl⟩
  go_wp2_with fail
  refine (HCB.out _).mono ?_
  rintro e w' ⟨rfl, rfl⟩
  go_wp2_with fail
  go_step3
  refine ⟨⟨st, p, _, ⟨rfl, rfl, rfl, rfl, rfl, rfl, rfl⟩, HR3.out, by omega, ⟨_, _, _, HT3.out⟩, hlt, HP.out⟩, ?_⟩
  rw [CutM_eq s.size 3 p _ _ _ rfl]
  simp

set_option maxRecDepth 100000 in
set_option maxHeartbeats 1000000 in
theorem cut_0num {σ : Type} (s : ByteArray) (T : Nat) (stp : σ → Tok → σ) (cont : σ → Tok → Bool) (fin : σ) (g : Nat) (caps : Array Value) (R : σ → World → Prop) (Q : Exit → Act → World → Prop) (hC : CutCb g caps T R stp cont fin)
    (st : σ) (p : Nat) (F : Value) (a : Act) (w : World) (hF : Fr s (.func (.func g) #[] caps) T F p a) (hR : R st w) (v0 v1 v2 : Value) (hT : TokIn w T v0 v1 v2) (hrest : Rest s stp cont fin st p) (hs : s.size ≤ 40000) (hlt : p < s.size) (hc : ¬ (s[p].toNat = 47 ∧ (s.data.toList.drop (p + 1)).head? = some 42)) (hbl : blB s[p] = false) (hq : ¬ (s[p].toNat = 34 ∨ s[p].toNat = 39)) (hn : 0 < numL (s.data.toList.drop p)) : CutQ s T stp cont fin g caps R 0 Q a w := by
  obtain ⟨u, rfl⟩ := hF.form
  refine ⟨_, ⟨_, rfl, rfl⟩, ?_⟩
  obtain ⟨x1, x2, x3, ⟨p0, q0, r0⟩, ⟨p1, q1, r1⟩, ⟨p2, q2, r2⟩, hT3, hR3⟩ := hC.put3 hT hR (.int .i64 0) (.string ⟨#[]⟩) (.int .i64 0)
  have hb : ((p : Int) == (s.size : Int)) = false := by rw [beq_eq_false_iff_ne]; omega
  have CP := fun W => (Try.strings_HasPrefix (s.extract p s.size) ⟨#[47, 42]⟩ W)
  rw [com_iff s p hlt] at CP
  have CBL := fun W => blank_any (s[p].toNat : Int) W
  rw [blI_eq] at CBL
  have hd := drop_cons s p hlt
  rw [decide_eq_false hc] at CP
  have HCP := Lib.hid CP
  have k34 : ((s[p].toNat : Int) == 34) = false := by rw [beq_eq_false_iff_ne]; omega
  have k39 : ((s[p].toNat : Int) == 39) = false := by rw [beq_eq_false_iff_ne]; omega
  rw [hbl] at CBL
  have CN := fun W => number_any s p W (by omega) hlt
  have hnl := numL_le (s.data.toList.drop p)
  rw [List.length_drop, len_data] at hnl
  obtain ⟨n, hnn⟩ : ∃ n, numL (s.data.toList.drop p) = n := ⟨_, rfl⟩
  obtain ⟨v, hv⟩ : ∃ v, worth ((s.data.toList.drop p).take n) = v := ⟨_, rfl⟩
  have hna : numAt s.data.toList p = n := by rw [← numAt_drop]; exact hnn
  rw [hna] at CN
  have ho : one (s.data.toList.drop p) = (some (meaL v n ((s.data.toList.drop p).drop n)).1, (meaL v n ((s.data.toList.drop p).drop n)).2) := by
    rw [← hv, ← hnn]
    rw [hd] at hn ⊢
    show oneC _ _ = _
    rw [oneC_num hc hbl hq hn]; rfl
  rw [hnn] at hn hnl
  obtain ⟨E, hE⟩ : ∃ E, p + n = E := ⟨_, rfl⟩
  rw [hE] at CN
  have hgt : (p : Int) < (E : Int) := by omega
  have htold := Rest.told s stp cont fin hrest ho
  have HCB := Lib.hid CBL
  have HCN := Lib.hid CN
  have HP := Lib.hid htold
  have HNN := Lib.hid hnn
  have HV := Lib.hid hv
  have HT3 := Lib.hid hT3
  have HR3 := Lib.hid hR3
  have HC := Lib.hid hC
  rw [CutM_eq s.size 0 p _ _ w rfl]
  clear hR hT hC hF hT3 hR3 hrest CP CBL hd ho htold hc hbl hq CN hnn hv hE hna
  go_wp2_with fail
  refine (HCP.out _).mono ?_
  rintro e w' ⟨rfl, rfl⟩
  go_wp2_with fail
  refine (HCB.out _).mono ?_
  rintro e w' ⟨rfl, rfl⟩
  go_wp2_with fail
  refine (HCN.out _).mono ?_
  rintro e w' ⟨rfl, rfl⟩
  go_wp2_with fail
  go_step3
  refine ⟨⟨st, p, _, ⟨rfl, rfl, rfl, rfl, rfl, rfl, rfl⟩, HR3.out, by omega, ⟨_, _, _, HT3.out⟩, hlt, n, v, HNN.out, hn, HV.out, HP.out⟩, ?_⟩
  rw [CutM_eq s.size 4 p _ _ _ rfl]
  simp

set_option maxRecDepth 100000 in
set_option maxHeartbeats 1000000 in
theorem cut_0hash {σ : Type} (s : ByteArray) (T : Nat) (stp : σ → Tok → σ) (cont : σ → Tok → Bool) (fin : σ) (g : Nat) (caps : Array Value) (R : σ → World → Prop) (Q : Exit → Act → World → Prop) (hC : CutCb g caps T R stp cont fin)
    (st : σ) (p : Nat) (F : Value) (a : Act) (w : World) (hF : Fr s (.func (.func g) #[] caps) T F p a) (hR : R st w) (v0 v1 v2 : Value) (hT : TokIn w T v0 v1 v2) (hrest : Rest s stp cont fin st p) (hs : s.size ≤ 40000) (hlt : p < s.size) (hpl : Plain s[p] (s.data.toList.drop (p + 1))) (h35 : s[p].toNat = 35) (hg : 0 < ((s.data.toList.drop (p + 1)).takeWhile gB).length) : CutQ s T stp cont fin g caps R 0 Q a w := by
  obtain ⟨u, rfl⟩ := hF.form
  refine ⟨_, ⟨_, rfl, rfl⟩, ?_⟩
  obtain ⟨x1, x2, x3, ⟨p0, q0, r0⟩, ⟨p1, q1, r1⟩, ⟨p2, q2, r2⟩, hT3, hR3⟩ := hC.put3 hT hR (.int .i64 0) (.string ⟨#[]⟩) (.int .i64 0)
  have hb : ((p : Int) == (s.size : Int)) = false := by rw [beq_eq_false_iff_ne]; omega
  have CP := fun W => (Try.strings_HasPrefix (s.extract p s.size) ⟨#[47, 42]⟩ W)
  rw [com_iff s p hlt] at CP
  have CBL := fun W => blank_any (s[p].toNat : Int) W
  rw [blI_eq] at CBL
  have hd := drop_cons s p hlt
  have CP : ∀ W, Calls Try.prog 35 #[.string (s.extract p s.size), .string ⟨#[47, 42]⟩] W fun e w' => e = .returned (.bool false) ∧ w' = W := by rw [← decide_eq_false hpl.com]; exact CP
  have HCP := Lib.hid CP
  rw [hpl.bl] at CBL
  have hq := hpl.quo
  have k34 : ((s[p].toNat : Int) == 34) = false := by rw [beq_eq_false_iff_ne]; omega
  have k39 : ((s[p].toNat : Int) == 39) = false := by rw [beq_eq_false_iff_ne]; omega
  have CN := fun W => number_any s p W (by omega) hlt
  have hna : numAt s.data.toList p = 0 := by rw [← numAt_drop, hd]; exact hpl.num
  rw [hna, Nat.add_zero] at CN
  have hgt : ¬ (p : Int) < (p : Int) := by omega
  have ho := (show one (s.data.toList.drop p) = oneC s[p] (s.data.toList.drop (p + 1)) from by rw [hd]; rfl).trans (oneC_plain hpl)
  have HCB := Lib.hid CBL
  have HCN := Lib.hid CN
  have k35 : ((s[p].toNat : Int) == 35) = true := by rw [beq_iff_eq]; omega
  rw [if_pos ⟨h35, hg⟩] at ho
  have htold := Rest.told s stp cont fin hrest ho
  rw [← Nat.add_assoc] at htold
  have h1 : p + 1 < s.size := by
    by_cases q : p + 1 < s.size
    · exact q
    · rw [List.drop_of_length_le (by rw [len_data]; omega)] at hg; simp at hg
  have hgb : gB s[p + 1] = true := by
    rw [drop_cons s (p + 1) h1] at hg
    cases hx : gB s[p + 1] with
    | true => rfl
    | false => rw [List.takeWhile_cons, hx] at hg; simp at hg
  have CG := fun W => ofName_any s[p + 1] W
  rw [hgb] at CG
  have HCG := Lib.hid CG
  have HP := Lib.hid htold
  have HG := Lib.hid hg
  have HT3 := Lib.hid hT3
  have HR3 := Lib.hid hR3
  have HC := Lib.hid hC
  rw [CutM_eq s.size 0 p _ _ w rfl]
  clear hR hT hC hF hT3 hR3 hrest CP CBL hd ho hq CN hna hpl htold hg h35 hgb CG
  have h1z : (p : Int) + 1 < (s.size : Int) := by omega
  go_wp2_with fail
  refine (HCP.out _).mono ?_
  rintro e w' ⟨rfl, rfl⟩
  go_wp2_with fail
  refine (HCB.out _).mono ?_
  rintro e w' ⟨rfl, rfl⟩
  go_wp2_with fail
  refine (HCN.out _).mono ?_
  rintro e w' ⟨rfl, rfl⟩
  go_wp2_with fail
  refine (HCG.out _).mono ?_
  rintro e w1 ⟨rfl, hb⟩
  have hT3' := HT3.out.below hb
  have hR3' := HC.out.below st _ _ HR3.out hb
  have hT4 := setCell_here (k := 0) (.int .i64 4) hT3'
  have hR4 := HC.out.setT st w1 0 (.int .i64 4) hR3'
  have c0 : w1.cell? ⟨T, 0, none⟩ = some (.int .i64 0) := cell_of hT3' rfl
  have f0 : w1.frozen? ⟨T, 0, none⟩ = false := unfrozen_of hT3'
  have HT4 := Lib.hid hT4
  have HR4 := Lib.hid hR4
  clear hT4 hR4 hT3' hR3' hb
  go_wp2_with fail
  go_step3
  refine ⟨⟨st, p, _, ⟨rfl, rfl, rfl, rfl, rfl, rfl, rfl⟩, HR4.out, by omega, 4, p + 1, by go_num, HT4.out, by omega, by omega, HG.out, Or.inl ⟨by omega, HP.out⟩⟩, ?_⟩
  rw [CutM_eq s.size 5 p _ _ _ rfl]
  simp

set_option maxRecDepth 100000 in
set_option maxHeartbeats 1000000 in
theorem cut_0at {σ : Type} (s : ByteArray) (T : Nat) (stp : σ → Tok → σ) (cont : σ → Tok → Bool) (fin : σ) (g : Nat) (caps : Array Value) (R : σ → World → Prop) (Q : Exit → Act → World → Prop) (hC : CutCb g caps T R stp cont fin)
    (st : σ) (p : Nat) (F : Value) (a : Act) (w : World) (hF : Fr s (.func (.func g) #[] caps) T F p a) (hR : R st w) (v0 v1 v2 : Value) (hT : TokIn w T v0 v1 v2) (hrest : Rest s stp cont fin st p) (hs : s.size ≤ 40000) (hlt : p < s.size) (hpl : Plain s[p] (s.data.toList.drop (p + 1))) (h64 : s[p].toNat = 64) (hg : startsL (s.data.toList.drop (p + 1)) = true) : CutQ s T stp cont fin g caps R 0 Q a w := by
  obtain ⟨u, rfl⟩ := hF.form
  refine ⟨_, ⟨_, rfl, rfl⟩, ?_⟩
  obtain ⟨x1, x2, x3, ⟨p0, q0, r0⟩, ⟨p1, q1, r1⟩, ⟨p2, q2, r2⟩, hT3, hR3⟩ := hC.put3 hT hR (.int .i64 0) (.string ⟨#[]⟩) (.int .i64 0)
  have hb : ((p : Int) == (s.size : Int)) = false := by rw [beq_eq_false_iff_ne]; omega
  have CP := fun W => (Try.strings_HasPrefix (s.extract p s.size) ⟨#[47, 42]⟩ W)
  rw [com_iff s p hlt] at CP
  have CBL := fun W => blank_any (s[p].toNat : Int) W
  rw [blI_eq] at CBL
  have hd := drop_cons s p hlt
  have CP : ∀ W, Calls Try.prog 35 #[.string (s.extract p s.size), .string ⟨#[47, 42]⟩] W fun e w' => e = .returned (.bool false) ∧ w' = W := by rw [← decide_eq_false hpl.com]; exact CP
  have HCP := Lib.hid CP
  rw [hpl.bl] at CBL
  have hq := hpl.quo
  have k34 : ((s[p].toNat : Int) == 34) = false := by rw [beq_eq_false_iff_ne]; omega
  have k39 : ((s[p].toNat : Int) == 39) = false := by rw [beq_eq_false_iff_ne]; omega
  have CN := fun W => number_any s p W (by omega) hlt
  have hna : numAt s.data.toList p = 0 := by rw [← numAt_drop, hd]; exact hpl.num
  rw [hna, Nat.add_zero] at CN
  have hgt : ¬ (p : Int) < (p : Int) := by omega
  have ho := (show one (s.data.toList.drop p) = oneC s[p] (s.data.toList.drop (p + 1)) from by rw [hd]; rfl).trans (oneC_plain hpl)
  have HCB := Lib.hid CBL
  have HCN := Lib.hid CN
  have k35 : ((s[p].toNat : Int) == 35) = false := by rw [beq_eq_false_iff_ne]; omega
  have k64 : ((s[p].toNat : Int) == 64) = true := by rw [beq_iff_eq]; omega
  have CG : ∀ (ai : Int), ai = ((p + 1 : Nat) : Int) → ∀ W, Calls Try.prog 39 #[.string s, .int .i64 ai] W fun e w' => e = .returned (.bool (startsL (s.data.toList.drop (p + 1)))) ∧ W = w' := fun ai he W => by rw [he]; exact beginsL_any s (p + 1) W (by omega)
  have CH := fun W => beginsL_any s p W (by omega)
  rw [if_neg (by omega), if_pos ⟨h64, hg⟩] at ho
  have htold := Rest.told s stp cont fin hrest ho
  rw [← Nat.add_assoc] at htold
  have h0 := starts_go hg
  rw [hg] at CG
  have HCG := Lib.hid CG
  have HP := Lib.hid htold
  have H0 := Lib.hid h0
  have HT3 := Lib.hid hT3
  have HR3 := Lib.hid hR3
  have HC := Lib.hid hC
  rw [CutM_eq s.size 0 p _ _ w rfl]
  have hT4 := setCell_here (k := 0) (.int .i64 3) HT3.out
  have hR4 := HC.out.setT st x3 0 (.int .i64 3) HR3.out
  have c0 : x3.cell? ⟨T, 0, none⟩ = some (.int .i64 0) := cell_of HT3.out rfl
  have f0 : x3.frozen? ⟨T, 0, none⟩ = false := unfrozen_of HT3.out
  have HT4 := Lib.hid hT4
  have HR4 := Lib.hid hR4
  clear hT4 hR4
  clear hR hT hC hF hT3 hR3 hrest CP CBL hd ho hq CN hna hpl htold hg h64 CG CH h0
  go_wp2_with fail
  refine (HCP.out _).mono ?_
  rintro e w' ⟨rfl, rfl⟩
  go_wp2_with fail
  refine (HCB.out _).mono ?_
  rintro e w' ⟨rfl, rfl⟩
  go_wp2_with fail
  refine (HCN.out _).mono ?_
  rintro e w' ⟨rfl, rfl⟩
  go_wp2_with fail
  refine (HCG.out _ (by omega) _).mono ?_
  rintro e w' ⟨rfl, rfl⟩
  go_wp2_with fail
  go_step3
  refine ⟨⟨st, p, _, ⟨rfl, rfl, rfl, rfl, rfl, rfl, rfl⟩, HR4.out, by omega, 3, p + 1, by go_num, HT4.out, by omega, by omega, H0.out, Or.inl ⟨by omega, HP.out⟩⟩, ?_⟩
  rw [CutM_eq s.size 5 p _ _ _ rfl]
  simp

set_option maxRecDepth 100000 in
set_option maxHeartbeats 1000000 in
theorem cut_0name {σ : Type} (s : ByteArray) (T : Nat) (stp : σ → Tok → σ) (cont : σ → Tok → Bool) (fin : σ) (g : Nat) (caps : Array Value) (R : σ → World → Prop) (Q : Exit → Act → World → Prop) (hC : CutCb g caps T R stp cont fin)
    (st : σ) (p : Nat) (F : Value) (a : Act) (w : World) (hF : Fr s (.func (.func g) #[] caps) T F p a) (hR : R st w) (v0 v1 v2 : Value) (hT : TokIn w T v0 v1 v2) (hrest : Rest s stp cont fin st p) (hs : s.size ≤ 40000) (hlt : p < s.size) (hpl : Plain s[p] (s.data.toList.drop (p + 1))) (hg : startsL (s.data.toList.drop p) = true) : CutQ s T stp cont fin g caps R 0 Q a w := by
  obtain ⟨u, rfl⟩ := hF.form
  refine ⟨_, ⟨_, rfl, rfl⟩, ?_⟩
  obtain ⟨x1, x2, x3, ⟨p0, q0, r0⟩, ⟨p1, q1, r1⟩, ⟨p2, q2, r2⟩, hT3, hR3⟩ := hC.put3 hT hR (.int .i64 0) (.string ⟨#[]⟩) (.int .i64 0)
  have hb : ((p : Int) == (s.size : Int)) = false := by rw [beq_eq_false_iff_ne]; omega
  have CP := fun W => (Try.strings_HasPrefix (s.extract p s.size) ⟨#[47, 42]⟩ W)
  rw [com_iff s p hlt] at CP
  have CBL := fun W => blank_any (s[p].toNat : Int) W
  rw [blI_eq] at CBL
  have hd := drop_cons s p hlt
  have CP : ∀ W, Calls Try.prog 35 #[.string (s.extract p s.size), .string ⟨#[47, 42]⟩] W fun e w' => e = .returned (.bool false) ∧ w' = W := by rw [← decide_eq_false hpl.com]; exact CP
  have HCP := Lib.hid CP
  rw [hpl.bl] at CBL
  have hq := hpl.quo
  have k34 : ((s[p].toNat : Int) == 34) = false := by rw [beq_eq_false_iff_ne]; omega
  have k39 : ((s[p].toNat : Int) == 39) = false := by rw [beq_eq_false_iff_ne]; omega
  have CN := fun W => number_any s p W (by omega) hlt
  have hna : numAt s.data.toList p = 0 := by rw [← numAt_drop, hd]; exact hpl.num
  rw [hna, Nat.add_zero] at CN
  have hgt : ¬ (p : Int) < (p : Int) := by omega
  have ho := (show one (s.data.toList.drop p) = oneC s[p] (s.data.toList.drop (p + 1)) from by rw [hd]; rfl).trans (oneC_plain hpl)
  have HCB := Lib.hid CBL
  have HCN := Lib.hid CN
  have hlb : s[p].toNat ≠ 35 ∧ s[p].toNat ≠ 64 := by
    rw [hd] at hg
    rcases starts_c hg with x | x
    · constructor <;> (intro y; rw [show s[p] = UInt8.ofNat s[p].toNat by simp, y] at x; revert x; decide)
    · omega
  have k35 : ((s[p].toNat : Int) == 35) = false := by rw [beq_eq_false_iff_ne]; omega
  have k64 : ((s[p].toNat : Int) == 64) = false := by rw [beq_eq_false_iff_ne]; omega
  have CG : ∀ (ai : Int), ai = ((p + 1 : Nat) : Int) → ∀ W, Calls Try.prog 39 #[.string s, .int .i64 ai] W fun e w' => e = .returned (.bool (startsL (s.data.toList.drop (p + 1)))) ∧ W = w' := fun ai he W => by rw [he]; exact beginsL_any s (p + 1) W (by omega)
  have CH := fun W => beginsL_any s p W (by omega)
  have hg2 := hg
  rw [hd] at hg2
  rw [if_neg (by omega), if_neg (by omega), if_pos hg2, ← hd] at ho
  have hways : (((s.data.toList.drop p).dropWhile gB).head? = some 40 ∧ Told s stp cont fin st ⟨2, (s.data.toList.drop p).takeWhile gB, 0⟩ (p + ((s.data.toList.drop p).takeWhile gB).length + 1)) ∨
       (¬ ((s.data.toList.drop p).dropWhile gB).head? = some 40 ∧ Told s stp cont fin st ⟨1, (s.data.toList.drop p).takeWhile gB, 0⟩ (p + ((s.data.toList.drop p).takeWhile gB).length)) := by
    by_cases q : ((s.data.toList.drop p).dropWhile gB).head? = some 40
    · rw [if_pos q] at ho
      have htold := Rest.told s stp cont fin hrest ho
      rw [← Nat.add_assoc] at htold
      exact Or.inl ⟨q, htold⟩
    · rw [if_neg q] at ho
      exact Or.inr ⟨q, Rest.told s stp cont fin hrest ho⟩
  have h0 := starts_go hg
  rw [hg] at CH
  have HCG := Lib.hid CH
  have HP := Lib.hid hways
  have H0 := Lib.hid h0
  have HT3 := Lib.hid hT3
  have HR3 := Lib.hid hR3
  have HC := Lib.hid hC
  rw [CutM_eq s.size 0 p _ _ w rfl]
  have hT4 := setCell_here (k := 0) (.int .i64 1) HT3.out
  have hR4 := HC.out.setT st x3 0 (.int .i64 1) HR3.out
  have c0 : x3.cell? ⟨T, 0, none⟩ = some (.int .i64 0) := cell_of HT3.out rfl
  have f0 : x3.frozen? ⟨T, 0, none⟩ = false := unfrozen_of HT3.out
  have HT4 := Lib.hid hT4
  have HR4 := Lib.hid hR4
  clear hT4 hR4
  clear hR hT hC hF hT3 hR3 hrest CP CBL hd ho hq CN hna hpl hways hg hg2 hlb CG CH h0
  go_wp2_with fail
  refine (HCP.out _).mono ?_
  rintro e w' ⟨rfl, rfl⟩
  go_wp2_with fail
  refine (HCB.out _).mono ?_
  rintro e w' ⟨rfl, rfl⟩
  go_wp2_with fail
  refine (HCN.out _).mono ?_
  rintro e w' ⟨rfl, rfl⟩
  go_wp2_with fail
  refine (HCG.out _).mono ?_
  rintro e w' ⟨rfl, rfl⟩
  go_wp2_with fail
  go_step3
  refine ⟨⟨st, p, _, ⟨rfl, rfl, rfl, rfl, rfl, rfl, rfl⟩, HR4.out, by omega, 1, p, rfl, HT4.out, by omega, by omega, H0.out, Or.inr ?_⟩, ?_⟩
  · rcases HP.out with x | x
    · exact Or.inl ⟨rfl, x⟩
    · exact Or.inr ⟨rfl, x⟩
  rw [CutM_eq s.size 5 p _ _ _ rfl]
  simp

set_option maxRecDepth 100000 in
set_option maxHeartbeats 1000000 in
theorem cut_0s35a {σ : Type} (s : ByteArray) (T : Nat) (stp : σ → Tok → σ) (cont : σ → Tok → Bool) (fin : σ) (g : Nat) (caps : Array Value) (R : σ → World → Prop) (Q : Exit → Act → World → Prop) (hC : CutCb g caps T R stp cont fin)
    (st : σ) (p : Nat) (F : Value) (a : Act) (w : World) (hF : Fr s (.func (.func g) #[] caps) T F p a) (hR : R st w) (v0 v1 v2 : Value) (hT : TokIn w T v0 v1 v2) (hrest : Rest s stp cont fin st p) (hs : s.size ≤ 40000) (hlt : p < s.size) (hpl : Plain s[p] (s.data.toList.drop (p + 1))) (h35 : s[p].toNat = 35) (h1 : p + 1 < s.size) (hgb : gB s[p + 1] = false) : CutQ s T stp cont fin g caps R 0 Q a w := by
  obtain ⟨u, rfl⟩ := hF.form
  refine ⟨_, ⟨_, rfl, rfl⟩, ?_⟩
  obtain ⟨x1, x2, x3, ⟨p0, q0, r0⟩, ⟨p1, q1, r1⟩, ⟨p2, q2, r2⟩, hT3, hR3⟩ := hC.put3 hT hR (.int .i64 0) (.string ⟨#[]⟩) (.int .i64 0)
  have hb : ((p : Int) == (s.size : Int)) = false := by rw [beq_eq_false_iff_ne]; omega
  have CP := fun W => (Try.strings_HasPrefix (s.extract p s.size) ⟨#[47, 42]⟩ W)
  rw [com_iff s p hlt] at CP
  have CBL := fun W => blank_any (s[p].toNat : Int) W
  rw [blI_eq] at CBL
  have hd := drop_cons s p hlt
  have CP : ∀ W, Calls Try.prog 35 #[.string (s.extract p s.size), .string ⟨#[47, 42]⟩] W fun e w' => e = .returned (.bool false) ∧ w' = W := by rw [← decide_eq_false hpl.com]; exact CP
  have HCP := Lib.hid CP
  rw [hpl.bl] at CBL
  have hq := hpl.quo
  have k34 : ((s[p].toNat : Int) == 34) = false := by rw [beq_eq_false_iff_ne]; omega
  have k39 : ((s[p].toNat : Int) == 39) = false := by rw [beq_eq_false_iff_ne]; omega
  have CN := fun W => number_any s p W (by omega) hlt
  have hna : numAt s.data.toList p = 0 := by rw [← numAt_drop, hd]; exact hpl.num
  rw [hna, Nat.add_zero] at CN
  have hgt : ¬ (p : Int) < (p : Int) := by omega
  have ho := (show one (s.data.toList.drop p) = oneC s[p] (s.data.toList.drop (p + 1)) from by rw [hd]; rfl).trans (oneC_plain hpl)
  have HCB := Lib.hid CBL
  have HCN := Lib.hid CN
  have k35 : ((s[p].toNat : Int) == 35) = true := by rw [beq_iff_eq]; omega
  have k64 : ((s[p].toNat : Int) == 64) = false := by rw [beq_eq_false_iff_ne]; omega
  have CG : ∀ (ai : Int), ai = ((p + 1 : Nat) : Int) → ∀ W, Calls Try.prog 39 #[.string s, .int .i64 ai] W fun e w' => e = .returned (.bool (startsL (s.data.toList.drop (p + 1)))) ∧ W = w' := fun ai he W => by rw [he]; exact beginsL_any s (p + 1) W (by omega)
  have CH := fun W => beginsL_any s p W (by omega)
  have hnl : startsL (s.data.toList.drop p) = false := by
    rw [hd]
    exact not_starts (by rw [show s[p] = 35 from UInt8.toNat_inj.1 h35]; decide) (by omega)
  have hng : ¬ (s[p].toNat = 35 ∧ 0 < ((s.data.toList.drop (p + 1)).takeWhile gB).length) := by
    rw [drop_cons s (p + 1) h1, List.takeWhile_cons, hgb]; simp
  have hnl2 := hnl
  rw [hd] at hnl2
  rw [if_neg hng, if_neg (by omega), if_neg (by rw [hnl2]; simp)] at ho
  have CO := fun W => ofName_any s[p + 1] W
  rw [hgb] at CO
  rw [hnl] at CH
  have HCO := Lib.hid CO
  have HCH := Lib.hid CH
  have htold := Rest.told s stp cont fin hrest ho
  have HP := Lib.hid htold
  have HT3 := Lib.hid hT3
  have HR3 := Lib.hid hR3
  have HC := Lib.hid hC
  rw [CutM_eq s.size 0 p _ _ w rfl]
  clear hR hT hC hF hT3 hR3 hrest CP CBL hd ho hq CN hna hpl htold hgb h35 CG CH CO hnl hnl2 hng
  have h1z : (p : Int) + 1 < (s.size : Int) := by omega
  go_wp2_with fail
  refine (HCP.out _).mono ?_
  rintro e w' ⟨rfl, rfl⟩
  go_wp2_with fail
  refine (HCB.out _).mono ?_
  rintro e w' ⟨rfl, rfl⟩
  go_wp2_with fail
  refine (HCN.out _).mono ?_
  rintro e w' ⟨rfl, rfl⟩
  go_wp2_with fail
  refine (HCO.out _).mono ?_
  rintro e w1 ⟨rfl, hb⟩
  have HT4 := Lib.hid (HT3.out.below hb)
  have HR4 := Lib.hid (HC.out.below st _ _ HR3.out hb)
  clear hb
  go_wp2_with fail
  refine (HCH.out _).mono ?_
  rintro e w' ⟨rfl, rfl⟩
  go_wp2_with fail
  go_step3
  refine ⟨⟨st, p, _, ⟨rfl, rfl, rfl, rfl, rfl, rfl, rfl⟩, HR4.out, by omega, rfl, ⟨_, _, _, HT4.out⟩, hlt, HP.out⟩, ?_⟩
  rw [CutM_eq s.size 6 p _ _ _ rfl]
  simp

set_option maxRecDepth 100000 in
set_option maxHeartbeats 1000000 in
theorem cut_0s35b {σ : Type} (s : ByteArray) (T : Nat) (stp : σ → Tok → σ) (cont : σ → Tok → Bool) (fin : σ) (g : Nat) (caps : Array Value) (R : σ → World → Prop) (Q : Exit → Act → World → Prop) (hC : CutCb g caps T R stp cont fin)
    (st : σ) (p : Nat) (F : Value) (a : Act) (w : World) (hF : Fr s (.func (.func g) #[] caps) T F p a) (hR : R st w) (v0 v1 v2 : Value) (hT : TokIn w T v0 v1 v2) (hrest : Rest s stp cont fin st p) (hs : s.size ≤ 40000) (hlt : p < s.size) (hpl : Plain s[p] (s.data.toList.drop (p + 1))) (h35 : s[p].toNat = 35) (h1 : ¬ p + 1 < s.size) : CutQ s T stp cont fin g caps R 0 Q a w := by
  obtain ⟨u, rfl⟩ := hF.form
  refine ⟨_, ⟨_, rfl, rfl⟩, ?_⟩
  obtain ⟨x1, x2, x3, ⟨p0, q0, r0⟩, ⟨p1, q1, r1⟩, ⟨p2, q2, r2⟩, hT3, hR3⟩ := hC.put3 hT hR (.int .i64 0) (.string ⟨#[]⟩) (.int .i64 0)
  have hb : ((p : Int) == (s.size : Int)) = false := by rw [beq_eq_false_iff_ne]; omega
  have CP := fun W => (Try.strings_HasPrefix (s.extract p s.size) ⟨#[47, 42]⟩ W)
  rw [com_iff s p hlt] at CP
  have CBL := fun W => blank_any (s[p].toNat : Int) W
  rw [blI_eq] at CBL
  have hd := drop_cons s p hlt
  have CP : ∀ W, Calls Try.prog 35 #[.string (s.extract p s.size), .string ⟨#[47, 42]⟩] W fun e w' => e = .returned (.bool false) ∧ w' = W := by rw [← decide_eq_false hpl.com]; exact CP
  have HCP := Lib.hid CP
  rw [hpl.bl] at CBL
  have hq := hpl.quo
  have k34 : ((s[p].toNat : Int) == 34) = false := by rw [beq_eq_false_iff_ne]; omega
  have k39 : ((s[p].toNat : Int) == 39) = false := by rw [beq_eq_false_iff_ne]; omega
  have CN := fun W => number_any s p W (by omega) hlt
  have hna : numAt s.data.toList p = 0 := by rw [← numAt_drop, hd]; exact hpl.num
  rw [hna, Nat.add_zero] at CN
  have hgt : ¬ (p : Int) < (p : Int) := by omega
  have ho := (show one (s.data.toList.drop p) = oneC s[p] (s.data.toList.drop (p + 1)) from by rw [hd]; rfl).trans (oneC_plain hpl)
  have HCB := Lib.hid CBL
  have HCN := Lib.hid CN
  have k35 : ((s[p].toNat : Int) == 35) = true := by rw [beq_iff_eq]; omega
  have k64 : ((s[p].toNat : Int) == 64) = false := by rw [beq_eq_false_iff_ne]; omega
  have CG : ∀ (ai : Int), ai = ((p + 1 : Nat) : Int) → ∀ W, Calls Try.prog 39 #[.string s, .int .i64 ai] W fun e w' => e = .returned (.bool (startsL (s.data.toList.drop (p + 1)))) ∧ W = w' := fun ai he W => by rw [he]; exact beginsL_any s (p + 1) W (by omega)
  have CH := fun W => beginsL_any s p W (by omega)
  have hnl : startsL (s.data.toList.drop p) = false := by
    rw [hd]
    exact not_starts (by rw [show s[p] = 35 from UInt8.toNat_inj.1 h35]; decide) (by omega)
  have hng : ¬ (s[p].toNat = 35 ∧ 0 < ((s.data.toList.drop (p + 1)).takeWhile gB).length) := by
    rw [List.drop_of_length_le (by rw [len_data]; omega)]; simp
  have hnl2 := hnl
  rw [hd] at hnl2
  rw [if_neg hng, if_neg (by omega), if_neg (by rw [hnl2]; simp)] at ho
  rw [hnl] at CH
  have HCH := Lib.hid CH
  have htold := Rest.told s stp cont fin hrest ho
  have HP := Lib.hid htold
  have HT3 := Lib.hid hT3
  have HR3 := Lib.hid hR3
  have HC := Lib.hid hC
  rw [CutM_eq s.size 0 p _ _ w rfl]
  clear hR hT hC hF hT3 hR3 hrest CP CBL hd ho hq CN hna hpl htold h35 CG CH hnl hnl2 hng
  have h1z : ¬ (p : Int) + 1 < (s.size : Int) := by omega
  go_wp2_with fail
  refine (HCP.out _).mono ?_
  rintro e w' ⟨rfl, rfl⟩
  go_wp2_with fail
  refine (HCB.out _).mono ?_
  rintro e w' ⟨rfl, rfl⟩
  go_wp2_with fail
  refine (HCN.out _).mono ?_
  rintro e w' ⟨rfl, rfl⟩
  go_wp2_with fail
  refine (HCH.out _).mono ?_
  rintro e w' ⟨rfl, rfl⟩
  go_wp2_with fail
  go_step3
  refine ⟨⟨st, p, _, ⟨rfl, rfl, rfl, rfl, rfl, rfl, rfl⟩, HR3.out, by omega, rfl, ⟨_, _, _, HT3.out⟩, hlt, HP.out⟩, ?_⟩
  rw [CutM_eq s.size 6 p _ _ _ rfl]
  simp

set_option maxRecDepth 100000 in
set_option maxHeartbeats 1000000 in
theorem cut_0s64 {σ : Type} (s : ByteArray) (T : Nat) (stp : σ → Tok → σ) (cont : σ → Tok → Bool) (fin : σ) (g : Nat) (caps : Array Value) (R : σ → World → Prop) (Q : Exit → Act → World → Prop) (hC : CutCb g caps T R stp cont fin)
    (st : σ) (p : Nat) (F : Value) (a : Act) (w : World) (hF : Fr s (.func (.func g) #[] caps) T F p a) (hR : R st w) (v0 v1 v2 : Value) (hT : TokIn w T v0 v1 v2) (hrest : Rest s stp cont fin st p) (hs : s.size ≤ 40000) (hlt : p < s.size) (hpl : Plain s[p] (s.data.toList.drop (p + 1))) (h64 : s[p].toNat = 64) (hg : startsL (s.data.toList.drop (p + 1)) = false) : CutQ s T stp cont fin g caps R 0 Q a w := by
  obtain ⟨u, rfl⟩ := hF.form
  refine ⟨_, ⟨_, rfl, rfl⟩, ?_⟩
  obtain ⟨x1, x2, x3, ⟨p0, q0, r0⟩, ⟨p1, q1, r1⟩, ⟨p2, q2, r2⟩, hT3, hR3⟩ := hC.put3 hT hR (.int .i64 0) (.string ⟨#[]⟩) (.int .i64 0)
  have hb : ((p : Int) == (s.size : Int)) = false := by rw [beq_eq_false_iff_ne]; omega
  have CP := fun W => (Try.strings_HasPrefix (s.extract p s.size) ⟨#[47, 42]⟩ W)
  rw [com_iff s p hlt] at CP
  have CBL := fun W => blank_any (s[p].toNat : Int) W
  rw [blI_eq] at CBL
  have hd := drop_cons s p hlt
  have CP : ∀ W, Calls Try.prog 35 #[.string (s.extract p s.size), .string ⟨#[47, 42]⟩] W fun e w' => e = .returned (.bool false) ∧ w' = W := by rw [← decide_eq_false hpl.com]; exact CP
  have HCP := Lib.hid CP
  rw [hpl.bl] at CBL
  have hq := hpl.quo
  have k34 : ((s[p].toNat : Int) == 34) = false := by rw [beq_eq_false_iff_ne]; omega
  have k39 : ((s[p].toNat : Int) == 39) = false := by rw [beq_eq_false_iff_ne]; omega
  have CN := fun W => number_any s p W (by omega) hlt
  have hna : numAt s.data.toList p = 0 := by rw [← numAt_drop, hd]; exact hpl.num
  rw [hna, Nat.add_zero] at CN
  have hgt : ¬ (p : Int) < (p : Int) := by omega
  have ho := (show one (s.data.toList.drop p) = oneC s[p] (s.data.toList.drop (p + 1)) from by rw [hd]; rfl).trans (oneC_plain hpl)
  have HCB := Lib.hid CBL
  have HCN := Lib.hid CN
  have k35 : ((s[p].toNat : Int) == 35) = false := by rw [beq_eq_false_iff_ne]; omega
  have k64 : ((s[p].toNat : Int) == 64) = true := by rw [beq_iff_eq]; omega
  have CG : ∀ (ai : Int), ai = ((p + 1 : Nat) : Int) → ∀ W, Calls Try.prog 39 #[.string s, .int .i64 ai] W fun e w' => e = .returned (.bool (startsL (s.data.toList.drop (p + 1)))) ∧ W = w' := fun ai he W => by rw [he]; exact beginsL_any s (p + 1) W (by omega)
  have CH := fun W => beginsL_any s p W (by omega)
  have hnl : startsL (s.data.toList.drop p) = false := by
    rw [hd]
    exact not_starts (by rw [show s[p] = 64 from UInt8.toNat_inj.1 h64]; decide) (by omega)
  have hnl2 := hnl
  rw [hd] at hnl2
  rw [if_neg (by omega), if_neg (by rw [hg]; simp), if_neg (by rw [hnl2]; simp)] at ho
  rw [hnl] at CH
  rw [hg] at CG
  have HCH := Lib.hid CH
  have HCG := Lib.hid CG
  have htold := Rest.told s stp cont fin hrest ho
  have HP := Lib.hid htold
  have HT3 := Lib.hid hT3
  have HR3 := Lib.hid hR3
  have HC := Lib.hid hC
  rw [CutM_eq s.size 0 p _ _ w rfl]
  clear hR hT hC hF hT3 hR3 hrest CP CBL hd ho hq CN hna hpl htold h64 hg CG CH hnl hnl2
  go_wp2_with fail
  refine (HCP.out _).mono ?_
  rintro e w' ⟨rfl, rfl⟩
  go_wp2_with fail
  refine (HCB.out _).mono ?_
  rintro e w' ⟨rfl, rfl⟩
  go_wp2_with fail
  refine (HCN.out _).mono ?_
  rintro e w' ⟨rfl, rfl⟩
  go_wp2_with fail
  refine (HCG.out _ (by omega) _).mono ?_
  rintro e w' ⟨rfl, rfl⟩
  go_wp2_with fail
  refine (HCH.out _).mono ?_
  rintro e w' ⟨rfl, rfl⟩
  go_wp2_with fail
  go_step3
  refine ⟨⟨st, p, _, ⟨rfl, rfl, rfl, rfl, rfl, rfl, rfl⟩, HR3.out, by omega, rfl, ⟨_, _, _, HT3.out⟩, hlt, HP.out⟩, ?_⟩
  rw [CutM_eq s.size 6 p _ _ _ rfl]
  simp

set_option maxRecDepth 100000 in
set_option maxHeartbeats 1000000 in
theorem cut_0sgn {σ : Type} (s : ByteArray) (T : Nat) (stp : σ → Tok → σ) (cont : σ → Tok → Bool) (fin : σ) (g : Nat) (caps : Array Value) (R : σ → World → Prop) (Q : Exit → Act → World → Prop) (hC : CutCb g caps T R stp cont fin)
    (st : σ) (p : Nat) (F : Value) (a : Act) (w : World) (hF : Fr s (.func (.func g) #[] caps) T F p a) (hR : R st w) (v0 v1 v2 : Value) (hT : TokIn w T v0 v1 v2) (hrest : Rest s stp cont fin st p) (hs : s.size ≤ 40000) (hlt : p < s.size) (hpl : Plain s[p] (s.data.toList.drop (p + 1))) (h35 : ¬ s[p].toNat = 35) (h64 : ¬ s[p].toNat = 64) (hnl : startsL (s.data.toList.drop p) = false) : CutQ s T stp cont fin g caps R 0 Q a w := by
  obtain ⟨u, rfl⟩ := hF.form
  refine ⟨_, ⟨_, rfl, rfl⟩, ?_⟩
  obtain ⟨x1, x2, x3, ⟨p0, q0, r0⟩, ⟨p1, q1, r1⟩, ⟨p2, q2, r2⟩, hT3, hR3⟩ := hC.put3 hT hR (.int .i64 0) (.string ⟨#[]⟩) (.int .i64 0)
  have hb : ((p : Int) == (s.size : Int)) = false := by rw [beq_eq_false_iff_ne]; omega
  have CP := fun W => (Try.strings_HasPrefix (s.extract p s.size) ⟨#[47, 42]⟩ W)
  rw [com_iff s p hlt] at CP
  have CBL := fun W => blank_any (s[p].toNat : Int) W
  rw [blI_eq] at CBL
  have hd := drop_cons s p hlt
  have CP : ∀ W, Calls Try.prog 35 #[.string (s.extract p s.size), .string ⟨#[47, 42]⟩] W fun e w' => e = .returned (.bool false) ∧ w' = W := by rw [← decide_eq_false hpl.com]; exact CP
  have HCP := Lib.hid CP
  rw [hpl.bl] at CBL
  have hq := hpl.quo
  have k34 : ((s[p].toNat : Int) == 34) = false := by rw [beq_eq_false_iff_ne]; omega
  have k39 : ((s[p].toNat : Int) == 39) = false := by rw [beq_eq_false_iff_ne]; omega
  have CN := fun W => number_any s p W (by omega) hlt
  have hna : numAt s.data.toList p = 0 := by rw [← numAt_drop, hd]; exact hpl.num
  rw [hna, Nat.add_zero] at CN
  have hgt : ¬ (p : Int) < (p : Int) := by omega
  have ho := (show one (s.data.toList.drop p) = oneC s[p] (s.data.toList.drop (p + 1)) from by rw [hd]; rfl).trans (oneC_plain hpl)
  have HCB := Lib.hid CBL
  have HCN := Lib.hid CN
  have k35 : ((s[p].toNat : Int) == 35) = false := by rw [beq_eq_false_iff_ne]; omega
  have k64 : ((s[p].toNat : Int) == 64) = false := by rw [beq_eq_false_iff_ne]; omega
  have CG : ∀ (ai : Int), ai = ((p + 1 : Nat) : Int) → ∀ W, Calls Try.prog 39 #[.string s, .int .i64 ai] W fun e w' => e = .returned (.bool (startsL (s.data.toList.drop (p + 1)))) ∧ W = w' := fun ai he W => by rw [he]; exact beginsL_any s (p + 1) W (by omega)
  have CH := fun W => beginsL_any s p W (by omega)
  have hnl2 := hnl
  rw [hd] at hnl2
  rw [if_neg (by omega), if_neg (by omega), if_neg (by rw [hnl2]; simp)] at ho
  rw [hnl] at CH
  have HCH := Lib.hid CH
  have htold := Rest.told s stp cont fin hrest ho
  have HP := Lib.hid htold
  have HT3 := Lib.hid hT3
  have HR3 := Lib.hid hR3
  have HC := Lib.hid hC
  rw [CutM_eq s.size 0 p _ _ w rfl]
  clear hR hT hC hF hT3 hR3 hrest CP CBL hd ho hq CN hna hpl htold h35 h64 CG CH hnl hnl2
  go_wp2_with fail
  refine (HCP.out _).mono ?_
  rintro e w' ⟨rfl, rfl⟩
  go_wp2_with fail
  refine (HCB.out _).mono ?_
  rintro e w' ⟨rfl, rfl⟩
  go_wp2_with fail
  refine (HCN.out _).mono ?_
  rintro e w' ⟨rfl, rfl⟩
  go_wp2_with fail
  refine (HCH.out _).mono ?_
  rintro e w' ⟨rfl, rfl⟩
  go_wp2_with fail
  go_step3
  refine ⟨⟨st, p, _, ⟨rfl, rfl, rfl, rfl, rfl, rfl, rfl⟩, HR3.out, by omega, rfl, ⟨_, _, _, HT3.out⟩, hlt, HP.out⟩, ?_⟩
  rw [CutM_eq s.size 6 p _ _ _ rfl]
  simp

theorem cut_0 {σ : Type} (s : ByteArray) (T : Nat) (stp : σ → Tok → σ) (cont : σ → Tok → Bool) (fin : σ) (g : Nat) (caps : Array Value) (R : σ → World → Prop) (Q : Exit → Act → World → Prop) (hC : CutCb g caps T R stp cont fin) (hs : s.size ≤ 40000) (hQr : ∀ a w, a.defers = [] → R fin w → Q .ret a w)
    (a : Act) (w : World) (h : CutJ s T stp cont fin g caps R 0 a w) : CutQ s T stp cont fin g caps R 0 Q a w := by
  obtain ⟨st, p, F, hF, hR, hp, ⟨v0, v1, v2, hT⟩, hrest⟩ := h
  by_cases he : p = s.size
  · exact cut_0end s T stp cont fin g caps R Q hC st p F a w hF hR v0 v1 v2 hT hrest hQr he
  have hlt : p < s.size := by omega
  by_cases hc : s[p].toNat = 47 ∧ (s.data.toList.drop (p + 1)).head? = some 42
  · exact cut_0com s T stp cont fin g caps R Q hC st p F a w hF hR v0 v1 v2 hT hrest hlt hc
  cases hbl : blB s[p] with
  | true => exact cut_0bl s T stp cont fin g caps R Q hC st p F a w hF hR v0 v1 v2 hT hrest hlt hc hbl
  | false =>
    by_cases hq1 : s[p].toNat = 34
    · exact cut_0q1 s T stp cont fin g caps R Q hC st p F a w hF hR v0 v1 v2 hT hrest hlt hc hbl hq1
    by_cases hq2 : s[p].toNat = 39
    · exact cut_0q2 s T stp cont fin g caps R Q hC st p F a w hF hR v0 v1 v2 hT hrest hlt hc hbl hq2
    by_cases hn : 0 < numL (s.data.toList.drop p)
    · exact cut_0num s T stp cont fin g caps R Q hC st p F a w hF hR v0 v1 v2 hT hrest hs hlt hc hbl (by omega) hn
    have hpl : Plain s[p] (s.data.toList.drop (p + 1)) := ⟨hc, hbl, by omega, by rw [← drop_cons s p hlt]; omega⟩
    by_cases h35 : s[p].toNat = 35
    · by_cases h1 : p + 1 < s.size
      · cases hg : gB s[p + 1] with
        | true => exact cut_0hash s T stp cont fin g caps R Q hC st p F a w hF hR v0 v1 v2 hT hrest hs hlt hpl h35 (by rw [drop_cons s (p + 1) h1]; exact tw_pos _ _ _ hg)
        | false => exact cut_0s35a s T stp cont fin g caps R Q hC st p F a w hF hR v0 v1 v2 hT hrest hs hlt hpl h35 h1 hg
      · exact cut_0s35b s T stp cont fin g caps R Q hC st p F a w hF hR v0 v1 v2 hT hrest hs hlt hpl h35 h1
    by_cases h64 : s[p].toNat = 64
    · cases hg : startsL (s.data.toList.drop (p + 1)) with
      | true => exact cut_0at s T stp cont fin g caps R Q hC st p F a w hF hR v0 v1 v2 hT hrest hs hlt hpl h64 hg
      | false => exact cut_0s64 s T stp cont fin g caps R Q hC st p F a w hF hR v0 v1 v2 hT hrest hs hlt hpl h64 hg
    cases hg : startsL (s.data.toList.drop p) with
    | true => exact cut_0name s T stp cont fin g caps R Q hC st p F a w hF hR v0 v1 v2 hT hrest hs hlt hpl hg
    | false => exact cut_0sgn s T stp cont fin g caps R Q hC st p F a w hF hR v0 v1 v2 hT hrest hs hlt hpl h35 h64 hg
end Go.Proofs.Ytipmgoejdkpknaa
