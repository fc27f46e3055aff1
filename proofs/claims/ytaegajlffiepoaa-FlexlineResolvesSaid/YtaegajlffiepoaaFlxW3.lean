/- The walks of layer 21: factors, weights, what is dealt. -/
import Derived.Test.YtaegajlffiepoaaFlxW2
namespace Go.Proofs.Ytaegajlffiepoaa
open Go.RowKit FixM ShaD ShaM Go.Sort
set_option linter.unusedVariables false

/-- what a function answers of items -/
def TellsI (f : Nat) (v : It → Int) : Prop := (∀ args w, (callFunc f args).run Try.prog w = .ok (.enter f args) w) ∧ ∀ (t : It) (w : World), Calls Try.prog f #[.agg #[.int .i64 t.b, .int .i64 t.l, .int .i64 t.m, .int .i64 t.g, .int .i64 t.i, .int .i64 t.gr, .int .i64 t.sh]] w fun e w' => e = .returned (.int .i64 (v t)) ∧ Below w.heap.size w w'
theorem tells_grows : TellsI 37 (facI true) := ⟨enters_of Try.func37 (by kernel_rfl) rfl, fun t w => grows21_any t w⟩
theorem tells_shrinks : TellsI 34 (facI false) := ⟨enters_of Try.func34 (by kernel_rfl) rfl, fun t w => shrinks21_any t w⟩
theorem tells_growsW : TellsI 37 (wgtI true) := ⟨enters_of Try.func37 (by kernel_rfl) rfl, fun t w => grows21_any t w⟩
theorem tells_yields : TellsI 35 (wgtI false) := ⟨enters_of Try.func35 (by kernel_rfl) rfl, fun t w => by
  have h : wgtI false t = PT t.i t.sh 1000 := if_neg Bool.false_ne_true
  rw [h]
  exact yields21_any t w⟩

theorem fsum_ext {f g : Nat → Int} : ∀ n, (∀ i, i < n → f i = g i) → fsum f n = fsum g n
  | 0, _ => rfl
  | n + 1, h => by simp only [fsum]; rw [fsum_ext n (fun i hi => h i (by omega)), h n (by omega)]
theorem fsum_bd {f : Nat → Int} {c : Int} (hc : 0 ≤ c) : ∀ n, (∀ i, i < n → -c ≤ f i ∧ f i ≤ c) → -(c * (n : Int)) ≤ fsum f n ∧ fsum f n ≤ c * (n : Int)
  | 0, _ => by simp [fsum]
  | n + 1, h => by
    have h1 := fsum_bd hc n (fun i hi => h i (by omega))
    have h2 := h n (by omega)
    have e : c * ((n + 1 : Nat) : Int) = c * (n : Int) + c := by rw [Int.natCast_add, Int.mul_add]; simp
    simp only [fsum]
    rw [e]
    omega
theorem fsumL_eq (f : Nat → Int) : ∀ l : List Nat, fsumL f l = fsum (fun j => f (l.getD j 0)) l.length := by
  intro l
  have key : ∀ k, k ≤ l.length → fsumL f (l.take k) = fsum (fun j => f (l.getD j 0)) k := by
    intro k
    induction k with
    | zero => intro _; simp [fsumL, fsum]
    | succ k ih =>
      intro hk
      have hk' : k < l.length := by omega
      rw [List.take_add_one, List.getElem?_eq_getElem hk']
      have ih' := ih (by omega)
      unfold fsumL at ih' ⊢
      simp only [Option.toList_some, List.map_append, List.sum_append, List.map_cons, List.map_nil, List.sum_cons, List.sum_nil, fsum, ih']
      simp [List.getD, hk']
  have := key l.length (Nat.le_refl _)
  rwa [List.take_length] at this

theorem PT_bd22f (a n d : Int) : -1073741824 ≤ PT a n d ∧ PT a n d ≤ 1073741824 := by
  unfold PT
  split
  · omega
  · exact H_bd _
/-- a place that is still loose, in memory -/
theorem LnAt.place {w0 w : World} {P bl Bo n : Nat} {iv ov : Value} {L : Nat → It} {s : FSt} {first : Int} {fF fW : Nat} (h : LnAt w0 w P bl Bo n iv ov L s first fF fW) (hm : 0 < s.loose.length) :
    ∃ g c, ov = .slice (some ⟨g, 0, none⟩) s.loose.length c ∧ Bo ≤ g ∧ g < w.heap.size ∧ ∀ k, k < s.loose.length → w.cell? ⟨g, k, none⟩ = some (.int .i64 ((s.loose.getD k 0 : Nat) : Int)) := by
  obtain ⟨g, c, hv, _, _⟩ := h.loo.form hm
  have ho := h.loo
  rw [hv] at ho
  have hlt := World.ownsRow.lt ho g rfl
  refine ⟨g, c, hv, hlt.1, hlt.2, fun k hk => ?_⟩
  rw [ho.cellAt k (by omega)]
  unfold inc21
  rw [List.getElem?_map, List.getElem?_eq_getElem hk]
  simp [List.getD, hk]

set_option maxRecDepth 100000 in
set_option maxHeartbeats 2000000 in
theorem factors_any {w0 w : World} {P bl Bo n : Nat} {iv ov : Value} {L : Nat → It} {s : FSt} {first : Int} {fF fW : Nat} (v : It → Int) (h : LnAt w0 w P bl Bo n iv ov L s first fF fW) (hn : n ≤ 1000) (hm0 : 0 < s.loose.length) (hm : s.loose.length ≤ 1000)
    (hlo : ∀ k, k < s.loose.length → s.loose.getD k 0 < n) (hv : TellsI fF v) (hb : ∀ i, i < n → 0 ≤ v (L i) ∧ v (L i) ≤ 1073741824) :
    Calls Try.prog 53 #[.pointer (some ⟨P, 0, none⟩)] w fun e w' => e = .returned (.int .i64 (fsumL (fun i => v (L i)) s.loose)) ∧ Below w.heap.size w w' := by
  rw [fsumL_eq]
  obtain ⟨g, c, hov, hgB, hgw, hg⟩ := h.place hm0
  obtain ⟨pl, hpl⟩ : ∃ pl : Nat → Nat, (fun k => s.loose.getD k 0) = pl := ⟨_, rfl⟩
  have hpl' : ∀ k, s.loose.getD k 0 = pl k := fun k => by rw [← hpl]
  have hsum : fsum (fun j => (fun i => v (L i)) (s.loose.getD j 0)) s.loose.length = fsum (fun j => v (L (pl j))) s.loose.length := fsum_ext _ (fun i _ => by rw [hpl'])
  rw [hsum]
  obtain ⟨m, hmm⟩ : ∃ m, s.loose.length = m := ⟨_, rfl⟩
  rw [hmm] at hm0 hm hlo hg hov ⊢
  simp only [hpl'] at hlo hg
  rcases h.its with e | ⟨bi, io, ci, e, hI, n1, n2, n3⟩
  · have := hlo 0 hm0; omega
  · have hsb : ∀ k, k ≤ m → 0 ≤ fsum (fun j => v (L (pl j))) k ∧ fsum (fun j => v (L (pl j))) k ≤ 1073741824 * (k : Int) := by
      intro k
      induction k with
      | zero => intro _; simp [fsum]
      | succ k ih =>
        intro hk
        have := ih (by omega)
        have := hb (pl k) (hlo k (by omega))
        simp only [fsum]; omega
    subst e
    subst hov
    have HLO := Lib.hid hlo
    have HG := Lib.hid hg
    have HI := Lib.hid hI
    have HV := Lib.hid hv.2
    have HE := hv.1
    have HBK := Lib.hid h.blk
    have HSB := Lib.hid hsb
    have HVB := Lib.hid hb
    have hPw := blk_ltF h.blk
    have hbw : bi < w.heap.size := by have := h.bB; omega
    have c2 : w.cell? ⟨P, 2, none⟩ = some (.slice (some ⟨g, 0, none⟩) m c) := cell_ofF h.blk rfl
    clear h hlo hg hI hv hpl hpl' hsum hmm hb hsb
    go_enter Try.func53, Try.ntmps53
    go_wp2_with fail
    clear c2
    go_loopw [3, 11] (fun vs vi wr => ∃ k : Nat, vi = .int .i64 k ∧ k ≤ m ∧ vs = .int .i64 (fsum (fun j => v (L (pl j))) k) ∧ Hid (Below w.heap.size w wr)) (fun _ vi _ => m - (intOf vi).toNat)
    case atStart => exact ⟨0, rfl, by omega, rfl, Below.refl _ _⟩
    case round =>
      obtain ⟨k, rfl, hk, rfl, HB⟩ := hrel
      have hs := HSB.out k hk
      have hnx : fsum (fun j => v (L (pl j))) (k + 1) = fsum (fun j => v (L (pl j))) k + v (L (pl k)) := rfl
      obtain ⟨sk, hsk⟩ : ∃ x, fsum (fun j => v (L (pl j))) k = x := ⟨_, rfl⟩
      rw [hsk] at hs hnx ⊢
      have s0 : 0 ≤ sk := hs.1
      have s1 : sk ≤ 1073741824000 := by omega
      by_cases hlt : k < m
      · have hltz : (k : Int) < (m : Int) := by omega
        have hpk := HLO.out k hlt
        have hpz : ((pl k : Nat) : Int) < (n : Int) := by omega
        have hvb := HVB.out (pl k) hpk
        have cc := (HB.out.cell (p := ⟨g, k, none⟩) hgw).trans (HG.out k hlt)
        have hblk := (HB.out.block P hPw).trans HBK.out
        have S7 := (HI.out.blk (HB.out.block bi hbw)) (pl k) hpk
        obtain ⟨pk, hpke⟩ : ∃ pk, pl k = pk := ⟨_, rfl⟩
        rw [hpke] at cc S7 hpz hnx hvb hpk
        obtain ⟨t, ht⟩ : ∃ t, L pk = t := ⟨_, rfl⟩
        rw [ht] at S7 hnx hvb
        obtain ⟨q0, q1, q2, q3, q4, q5, q6⟩ := S7
        have C := fun W => HV.out t W
        obtain ⟨vt, hvt⟩ : ∃ vt, v t = vt := ⟨_, rfl⟩
        rw [hvt] at C hnx hvb
        have v0 := hvb.1
        have v1 := hvb.2
        have NX := Lib.hid hnx
        have d0 : wr.cell? ⟨P, 0, none⟩ = some (.slice (some ⟨bi, io, none⟩) n ci) := cell_ofF hblk rfl
        have d5 : wr.cell? ⟨P, 5, none⟩ = some (.func (.func fF) #[] #[]) := cell_ofF hblk rfl
        have cF := fun (dd : Nat) (os : Array Obj) => Calls.regrown_of (C (grow (redrawn wr dd) os))
        clear hs hnx hsk hvb hvt ht hpke hblk C
        go_upto_region 5 with fail
        have k0 := cell_regrown d0
        have k1 := cell_regrown d5
        have r0 := cell_regrown q0
        have r1 := cell_regrown q1
        have r2 := cell_regrown q2
        have r3 := cell_regrown q3
        have r4 := cell_regrown q4
        have r5 := cell_regrown q5
        have r6 := cell_regrown q6
        clear d0 d5 q0 q1 q2 q3 q4 q5 q6
        refine wp_region_quiet_below (by kernel_rfl) (by kernel_rfl) ?_
        repeat (quiet_step (first | with_reducible exact cF _ _))
        refine wpQuiet_nil ?_
        intro _ hw'
        obtain ⟨⟨dq, osq⟩, hw''⟩ := hw'
        subst hw''
        have hbX := below_regrown wr dq osq
        have HX := Lib.hid (HB.out.trans (hbX.mono HB.out.size))
        clear k0 k1 r0 r1 r2 r3 r4 r5 r6 cF hbX
        go_wp2_with fail
        go_roundw
        case rel => exact ⟨k + 1, by go_num, by omega, by rw [NX.out]; exact congrArg (Value.int .i64) (IntWalk.i64_in _ (by omega)), HX⟩
        case measure => simp [intOf]; omega
      · have hkm : k = m := by omega
        have hfin : sk = fsum (fun j => v (L (pl j))) m := by rw [← hsk, hkm]
        have HF := Lib.hid hfin
        clear hs hnx hsk hkm hfin
        go_wp2_with fail
        go_ret
        exact ⟨ret_intF HF.out, HB.out⟩
set_option maxRecDepth 100000 in
set_option maxHeartbeats 2000000 in
theorem weights_any {w0 w : World} {P bl Bo n : Nat} {iv ov : Value} {L : Nat → It} {s : FSt} {first : Int} {fF fW : Nat} (v : It → Int) (h : LnAt w0 w P bl Bo n iv ov L s first fF fW) (hn : n ≤ 1000) (hm0 : 0 < s.loose.length) (hm : s.loose.length ≤ 1000)
    (hlo : ∀ k, k < s.loose.length → s.loose.getD k 0 < n) (hv : TellsI fW v) :
    Calls Try.prog 41 #[.pointer (some ⟨P, 0, none⟩)] w fun e w' => ∃ b, w.heap.size ≤ b ∧ e = .returned (.slice (some ⟨b, 0, none⟩) s.loose.length s.loose.length) ∧ Below w.heap.size w w' ∧ Row w' b s.loose.length (fun k => v (L (s.loose.getD k 0))) := by
  obtain ⟨g, c, hov, hgB, hgw, hg⟩ := h.place hm0
  obtain ⟨pl, hpl⟩ : ∃ pl : Nat → Nat, (fun k => s.loose.getD k 0) = pl := ⟨_, rfl⟩
  have hpl' : ∀ k, s.loose.getD k 0 = pl k := fun k => by rw [← hpl]
  simp only [hpl']
  obtain ⟨m, hmm⟩ : ∃ m, s.loose.length = m := ⟨_, rfl⟩
  rw [hmm] at hm0 hm hlo hg hov ⊢
  simp only [hpl'] at hlo hg
  rcases h.its with e | ⟨bi, io, ci, e, hI, n1, n2, n3⟩
  · have := hlo 0 hm0; omega
  · subst e
    subst hov
    have HLO := Lib.hid hlo
    have HG := Lib.hid hg
    have HI := Lib.hid hI
    have HV := Lib.hid hv.2
    have HE := hv.1
    have HBK := Lib.hid h.blk
    have hPw := blk_ltF h.blk
    have hbw : bi < w.heap.size := by have := h.bB; omega
    have hmk := make_ints m hm
    have Z0 : Hid ((mk0 w m).heap.size = w.heap.size + 1) := by unfold mk0 Hid; simp
    have B0 := Lib.hid (below_mk0 w m)
    have R0 := Lib.hid (row_mk0 w m)
    have c2' : (mk0 w m).cell? ⟨P, 2, none⟩ = some (.slice (some ⟨g, 0, none⟩) m c) := by rw [(below_mk0 w m).cell (p := ⟨P, 2, none⟩) hPw]; exact cell_ofF h.blk rfl
    have c2 : w.cell? ⟨P, 2, none⟩ = some (.slice (some ⟨g, 0, none⟩) m c) := cell_ofF h.blk rfl
    clear h hlo hg hI hv hpl hpl' hmm
    go_enter Try.func41, Try.ntmps41
    go_wp2_with fail
    clear c2 c2' hmk
    generalize mk0 w m = W0 at Z0 B0 R0 ⊢
    obtain ⟨S, hS⟩ : ∃ S, S = w.heap.size := ⟨_, rfl⟩
    rw [← hS] at hPw hbw hgw Z0 B0 R0 ⊢
    have HS := Lib.hid hS
    clear hS
    go_loopw [17] (fun vi wr => ∃ k : Nat, vi = .int .i64 k ∧ k ≤ m ∧ Hid (S < wr.heap.size) ∧ Hid (Below S w wr) ∧ Hid (Row wr S m (fun j => if j < k then v (L (pl j)) else 0))) (fun vi _ => m - (intOf vi).toNat)
    case atStart => exact ⟨0, rfl, by omega, Lib.hid (by have := Z0.out; omega), B0, R0.out.ext (fun i _ => by rw [if_neg (by omega)])⟩
    case round =>
      clear Z0 B0 R0
      obtain ⟨k, rfl, hk, HZ, HB, HR⟩ := hrel
      by_cases hlt : k < m
      · have hltz : (k : Int) < (m : Int) := by omega
        have hpk := HLO.out k hlt
        have hpz : ((pl k : Nat) : Int) < (n : Int) := by omega
        have cc := (HB.out.cell (p := ⟨g, k, none⟩) hgw).trans (HG.out k hlt)
        have hblk := (HB.out.block P hPw).trans HBK.out
        have S7 := (HI.out.blk (HB.out.block bi hbw)) (pl k) hpk
        obtain ⟨ck, fk⟩ := HR.out k hlt
        simp only [Nat.lt_irrefl, if_false] at ck
        obtain ⟨pk, hpke⟩ : ∃ pk, pl k = pk := ⟨_, rfl⟩
        have HPK := Lib.hid hpke
        rw [hpke] at cc S7 hpz hpk
        obtain ⟨t, ht⟩ : ∃ t, L pk = t := ⟨_, rfl⟩
        have HT := Lib.hid ht
        rw [ht] at S7
        obtain ⟨q0, q1, q2, q3, q4, q5, q6⟩ := S7
        have C := Lib.hid (fun W => HV.out t W)
        have d2 : wr.cell? ⟨P, 2, none⟩ = some (.slice (some ⟨g, 0, none⟩) m c) := cell_ofF hblk rfl
        have d0 : wr.drew.cell? ⟨P, 0, none⟩ = some (.slice (some ⟨bi, io, none⟩) n ci) := cell_ofF (w := wr) hblk rfl
        have d6 : wr.drew.cell? ⟨P, 6, none⟩ = some (.func (.func fW) #[] #[]) := cell_ofF (w := wr) hblk rfl
        have hzS : S < wr.drew.heap.size := HZ.out
        have hrow1 : ∀ w9, Below wr.drew.heap.size wr.drew w9 → Row w9 S m (fun j => if j < k then v (L (pl j)) else 0) := fun w9 hb => Row.below (w := wr.drew) HR.out hb hzS
        have HRW := Lib.hid hrow1
        clear ht hpke hblk hrow1
        go_upto_region 5 with fail
        go_region_with (refine (C.out _).mono ?_; rintro e w9 ⟨rfl, hb9⟩; have HB9 := Lib.hid hb9; obtain ⟨y1, y2⟩ := HRW.out w9 hb9 k hlt; simp only [Nat.lt_irrefl, if_false] at y1; clear hb9)
        all_goals go_wp2_with fail
        all_goals
          have hr9 := HRW.out w9 HB9.out
          have hs9 := HB9.out.size
          have hz9 : S < (w9.setCell ⟨S, k, none⟩ (.int .i64 (v t))).heap.size := by simp; omega
          have hb9 : Below S w (w9.setCell ⟨S, k, none⟩ (.int .i64 (v t))) := (HB.out.drew.trans (HB9.out.mono (by omega))).setCell (p := ⟨S, k, none⟩) (Nat.le_refl S) _
          refine ⟨⟨k + 1, by go_num, by omega, hz9, hb9, (hr9.set hlt (v t)).ext (fun i hi => ?_)⟩, by simp [intOf]; omega⟩
          by_cases c1 : i = k
          · rw [if_pos c1, c1, if_pos (by omega), HPK.out, HT.out]
          · rw [if_neg c1]
            by_cases c2 : i < k
            · rw [if_pos c2, if_pos (by omega)]
            · rw [if_neg c2, if_neg (by omega)]
      · have hkm : k = m := by omega
        have hrow : Hid (Row wr S m (fun k => v (L (pl k)))) := HR.out.ext (fun i hi => by rw [if_pos (by omega)])
        clear hkm
        go_wp2_with fail
        go_ret
        exact ⟨S, by rw [HS.out]; exact Nat.le_refl _, rfl, by rw [← HS.out]; exact HB.out, hrow.out⟩

set_option maxRecDepth 100000 in
set_option maxHeartbeats 2000000 in
theorem dealt_any {w0 w : World} {P bl Bo n : Nat} {iv ov : Value} {L : Nat → It} {s : FSt} {first : Int} {fF fW : Nat} (v : It → Int) (h : LnAt w0 w P bl Bo n iv ov L s first fF fW) (hn : n ≤ 1000) (hm0 : 0 < s.loose.length) (hm : s.loose.length ≤ 1000)
    (hlo : ∀ k, k < s.loose.length → s.loose.getD k 0 < n) (hv : TellsI fF v) (hb : ∀ i, i < n → 0 ≤ v (L i) ∧ v (L i) ≤ 1073741824)
    (f0 : -1099511627776 ≤ s.free) (f1 : s.free ≤ 1099511627776) :
    Calls Try.prog 40 #[.pointer (some ⟨P, 0, none⟩)] w fun e w' => e = .returned (.int .i64 (dealtF first s.free (fsumL (fun i => v (L i)) s.loose))) ∧ Below w.heap.size w w' := by
  have FC := factors_any v h hn hm0 hm hlo hv hb
  obtain ⟨fa, hfa⟩ : ∃ fa, fsumL (fun i => v (L i)) s.loose = fa := ⟨_, rfl⟩
  rw [hfa] at FC ⊢
  have FCC := Lib.hid FC
  have hP := blk_ltF h.blk
  have HBK := Lib.hid h.blk
  have c3 : w.cell? ⟨P, 3, none⟩ = some (.int .i64 s.free) := cell_ofF h.blk rfl
  obtain ⟨fr, hfr⟩ : ∃ fr, s.free = fr := ⟨_, rfl⟩
  rw [hfr] at c3 f0 f1 ⊢
  have hz : dealtF first fr fa = if fa < 1000 then (if absI (PT (H first) fa 1000) < absI fr then H (PT (H first) fa 1000) else H fr) else H fr := rfl
  obtain ⟨r, hr⟩ : ∃ r, dealtF first fr fa = r := ⟨_, rfl⟩
  rw [hr] at hz ⊢
  have hp := PT_bd22f (H first) fa 1000
  obtain ⟨p, hpe⟩ : ∃ p, PT (H first) fa 1000 = p := ⟨_, rfl⟩
  rw [hpe] at hz hp
  have p0 : -1073741824 ≤ p := hp.1
  have p1 : p ≤ 1073741824 := hp.2
  have PC : Hid (∀ W, Calls Try.prog 51 #[.int .i64 (H first), .int .i64 fa, .int .i64 1000] W fun e w' => e = .returned (.int .i64 p) ∧ W = w') := fun W => by
    have := Part_any (H first) fa 1000 W
    rwa [hpe] at this
  have HZ := Lib.hid hz
  have c4 : ∀ w', Below w.heap.size w w' → w'.cell? ⟨P, 4, none⟩ = some (.int .i64 first) := fun w' hb => by rw [hb.cell (p := ⟨P, 4, none⟩) hP]; exact cell_ofF h.blk rfl
  have C4 := Lib.hid c4
  clear FC hz hr hpe hp hfa h hlo hb hv hfr c4
  by_cases hf : fa < 1000
  · rw [if_pos hf] at HZ
    by_cases hab : absI p < absI fr
    · rw [if_pos hab] at HZ
      go_enter Try.func40, Try.ntmps40
      go_wp2_with fail
      refine FCC.out.mono ?_
      rintro e w1 ⟨rfl, hb1⟩
      have c4 := C4.out w1 hb1
      have HB1 := Lib.hid hb1
      clear hb1 c3
      go_wp2_with (first
        | (go_at_call 54; refine (held21_any _ _).mono ?_; rintro e w' ⟨rfl, rfl⟩)
        | (go_at_call 51; refine (PC.out _).mono ?_; rintro e w' ⟨rfl, rfl⟩)
        | (go_at_call 55; refine (unsigned_any _ _ (by omega) (by omega)).mono ?_; rintro e w' ⟨rfl, rfl⟩))
      go_ret
      exact ⟨ret_intF HZ.out.symm, HB1.out⟩
    · rw [if_neg hab] at HZ
      go_enter Try.func40, Try.ntmps40
      go_wp2_with fail
      refine FCC.out.mono ?_
      rintro e w1 ⟨rfl, hb1⟩
      have c4 := C4.out w1 hb1
      have HB1 := Lib.hid hb1
      have hab2 : absI fr ≤ absI p := by omega
      clear hb1 c3
      go_wp2_with (first
        | (go_at_call 54; refine (held21_any _ _).mono ?_; rintro e w' ⟨rfl, rfl⟩)
        | (go_at_call 51; refine (PC.out _).mono ?_; rintro e w' ⟨rfl, rfl⟩)
        | (go_at_call 55; refine (unsigned_any _ _ (by omega) (by omega)).mono ?_; rintro e w' ⟨rfl, rfl⟩))
      go_ret
      exact ⟨ret_intF HZ.out.symm, HB1.out⟩
  · rw [if_neg hf] at HZ
    have hf2 : 1000 ≤ fa := by omega
    go_enter Try.func40, Try.ntmps40
    go_wp2_with fail
    refine FCC.out.mono ?_
    rintro e w1 ⟨rfl, hb1⟩
    have HB1 := Lib.hid hb1
    clear hb1 c3
    go_wp2_with (go_at_call 54; refine (held21_any _ _).mono ?_; rintro e w' ⟨rfl, rfl⟩)
    go_ret
    exact ⟨ret_intF HZ.out.symm, HB1.out⟩
end Go.Proofs.Ytaegajlffiepoaa
