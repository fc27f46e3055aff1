/- Joined texts: SelR6 SelR7. -/
import Derived.Test.YtfbfndknhabmhaaGreatSelRa
namespace Go.Proofs.YtfbfndknhabmhaaGreat
open Go.RowKit TreN LexP FixP SynP ValP SelP FixM
set_option linter.unusedVariables false

theorem take_ex {w0 w : World} {P : Nat} {T : TypeId} {rest : List Value} {l : List Tok} (k : Int) (h : Cur w0 w P T rest l) : ∃ (tk : Int) (tx : List UInt8) (tn : Int) (b : Bool) (s : List Tok),
    (Calls Tryz.prog 103 #[.pointer (some ⟨P, 0, none⟩), .int .i64 k] w fun e w' => e = .returned (.tuple #[.agg #[.int .i64 tk, .string ⟨tx.toArray⟩, .int .i64 tn], .bool b]) ∧ w.grownBy w' (some P) ∧ Cur w0 w' P T rest s) ∧
    takeP k l = (if b = true then some (⟨tk, tx, tn⟩, s) else none) ∧ (b = false → s = l) ∧ s <:+ l ∧ (TxOk7 l → tx.length ≤ maxLen) := by
  cases htk : takeP k l with
  | none => exact ⟨0, [], 0, false, l, (Take_no k h htk).mono fun e w' hh => ⟨hh.1, grownBy_below _ hh.2, h.keep hh.2⟩, rfl, fun _ => rfl, List.suffix_refl _, fun _ => Nat.zero_le _⟩
  | some q =>
    obtain ⟨u, s⟩ := q
    obtain ⟨hl, hk⟩ := takeP_len htk
    subst hl
    have TK := Take_yes h
    rw [hk] at TK
    exact ⟨u.kind, u.text, u.n, true, s, TK, rfl, fun hb => by (cases hb), suf_cons, fun hx => hx u (by simp)⟩
theorem pass_ex {w0 w : World} {P : Nat} {T : TypeId} {rest : List Value} {l : List Tok} (k : Int) (x : List UInt8) (h : Cur w0 w P T rest l) : ∃ (b : Bool) (s : List Tok),
    (Calls Tryz.prog 96 #[.pointer (some ⟨P, 0, none⟩), .int .i64 k, .string ⟨x.toArray⟩] w fun e w' => e = .returned (.bool b) ∧ w.grownBy w' (some P) ∧ Cur w0 w' P T rest s) ∧
    passP k x l = (if b = true then some s else none) ∧ (b = false → s = l) ∧ s <:+ l := by
  cases hp : passP k x l with
  | none => exact ⟨false, l, (Pass_no k x h hp).mono fun e w' hh => ⟨hh.1, grownBy_below _ hh.2, h.keep hh.2⟩, rfl, fun _ => rfl, List.suffix_refl _⟩
  | some s => exact ⟨true, s, pass_call h hp, rfl, fun hb => by (cases hb), pass_suf hp⟩
def tstO (p : Prt) (r : List Tok) : Option (Prt × List Tok) := (testP r).map fun q => ({ p with tests := p.tests ++ [q.1] }, q.2)
/-- while a test is read -/
structure TsSt (w0 w wx : World) (P X : Nat) (rest : List Value) (r : List Tok) (ok : Bool) (t : Tst) (l : List Tok) : Prop where
  gr : w.grownBy wx (some P)
  cur : Cur w0 wx P 95 rest l
  box : wx.heap[X]? = some (.cells #[.string ⟨t.name.toArray⟩, .bool t.equal, .string ⟨t.value.toArray⟩] 57 (0, 0))
  res : testP r = if ok = true then (takeP 16 l).map (fun z => (t, z.2)) else none
  suf : l <:+ r
  tok : TstOk t
theorem valQ_text {l : List Tok} (h : TxOk7 l) : (valQ l).1.text.length ≤ maxLen ∧ (valQ l).2.2 <:+ l := by
  unfold valQ
  cases hv : valT l with
  | none => exact ⟨Nat.zero_le _, List.suffix_refl _⟩
  | some q =>
    obtain ⟨u, s⟩ := q
    have := valT_len hv
    subst this
    exact ⟨h u (by simp), suf_cons⟩
theorem test_res {r s1 s2 : List Tok} {tk tn : Int} {tx : List UInt8} {b1 b2 : Bool} (h1 : takeP 1 (bs r) = if b1 = true then some (⟨tk, tx, tn⟩, s1) else none) (h2 : passP 19 [61] (bs s1) = if b2 = true then some s2 else none) :
    testP r = if b1 = true then (if b2 = true then testE tx (bs s2) else (takeP 16 (bs s1)).map fun z => (⟨tx, false, []⟩, z.2)) else none := by
  unfold testP
  rw [h1]
  cases b1 with
  | false => rfl
  | true =>
    simp only [if_true]
    rw [h2]
    cases b2 <;> rfl
theorem testE_res {x : List UInt8} {l : List Tok} {u : Tok} {b : Bool} {s : List Tok} (h : valQ l = (u, b, s)) : testE x l = if b = true then (takeP 16 (bs s)).map (fun z => (⟨x, true, u.text⟩, z.2)) else none := by
  unfold valQ at h
  unfold testE
  cases hv : valT l with
  | none => rw [hv] at h; injection h with _ h; injection h with h _; subst h; rfl
  | some q => rw [hv] at h; injection h with h1 h; injection h with h2 h3; subst h1; subst h2; subst h3; rfl
/-- what the append of a test leaves -/
theorem test_fin {w0 wc : World} {P B : Nat} {p : Prt} {l : List Tok} {vC vT v5 : Value} {w5 : World} {x : Tst} (hB : B ≤ wc.heap.size) (hP : P < B) (hc : Cur w0 wc P 95 (restP p vC vT) l) (hT : TxRow B wc vC p.classes) (hrow : TsRow B w5 v5 (p.tests ++ [x])) (hb : Below B wc w5) (hk : KeptK 57 wc w5) :
    Cur w0 (w5.setCell ⟨P, 5, none⟩ v5) P 95 (restP { p with tests := p.tests ++ [x] } vC v5) l ∧ TsRow B (w5.setCell ⟨P, 5, none⟩ v5) v5 (p.tests ++ [x]) ∧ TxRow B (w5.setCell ⟨P, 5, none⟩ v5) vC p.classes := by
  have hc5 : Cur w0 w5 P 95 (restP p vC vT) l := by
    obtain ⟨a, c, h1, h2, h3, h4⟩ := hc.ex
    refine ⟨⟨a, c, hk _ _ _ _ h1 kindsR.2.2.2, h2, h3, h4⟩, hc.base, hc.bel.trans (hb.mono (by have := hc.base; omega))⟩
  have hg : w5.grownBy (w5.setCell ⟨P, 5, none⟩ v5) (some P) := grownBy_set _ _ _ _
  exact ⟨hc5.store7 4 v5, row_grown7 hrow hP hg, row_grown7 (row_kept7 hT kindsR.2.1 hk) hP hg⟩
theorem Cur.spaces {w0 w : World} {P : Nat} {T : TypeId} {rest : List Value} {l : List Tok} (h : Cur w0 w P T rest l) : ∃ b : Bool, Calls Tryz.prog 95 #[.pointer (some ⟨P, 0, none⟩)] w fun e w' => e = .returned (.bool b) ∧ w.grownBy w' (some P) ∧ Cur w0 w' P T rest (bs l) := ⟨_, Spaces_any h⟩
/-- two stores into a test -/
theorem two_set {W : World} {X : Nat} {n v : List UInt8} {e : Bool} {z : List UInt8} (h : W.heap[X]? = some (.cells #[.string ⟨n.toArray⟩, .bool e, .string ⟨v.toArray⟩] 57 (0, 0))) :
    ((W.setCell ⟨X, 1, none⟩ (.bool true)).setCell ⟨X, 2, none⟩ (.string ⟨z.toArray⟩)).heap[X]? = some (.cells #[.string ⟨n.toArray⟩, .bool true, .string ⟨z.toArray⟩] 57 (0, 0)) ∧ ((W.setCell ⟨X, 2, none⟩ (.string ⟨z.toArray⟩)).setCell ⟨X, 1, none⟩ (.bool true)).heap[X]? = some (.cells #[.string ⟨n.toArray⟩, .bool true, .string ⟨z.toArray⟩] 57 (0, 0)) :=
  ⟨setCell_here (k := 2) _ (setCell_here (k := 1) _ h), setCell_here (k := 1) _ (setCell_here (k := 2) _ h)⟩
theorem Cur.set7 {w0 w : World} {P X j : Nat} {T : TypeId} {rest : List Value} {l : List Tok} (h : Cur w0 w P T rest l) (hne : P ≠ X) (hX : w0.heap.size ≤ X) (v : Value) : Cur w0 (w.setCell ⟨X, j, none⟩ v) P T rest l := by
  obtain ⟨a, c, h1, h2⟩ := h.ex
  exact ⟨⟨a, c, (setCell_there _ hne).trans h1, h2⟩, h.base, h.bel.setCell (p := ⟨X, j, none⟩) hX _⟩
theorem grown_set7 {w wx : World} {P X j : Nat} (h : w.grownBy wx (some P)) (hX : w.heap.size ≤ X) (v : Value) : w.grownBy (wx.setCell ⟨X, j, none⟩ v) (some P) :=
  ⟨h.os, h.tape, h.output, by rw [setCell_size]; exact h.size, fun i hi hn => (setCell_there _ (by omega)).trans (h.block i hi hn)⟩
end Go.Proofs.YtfbfndknhabmhaaGreat

namespace Go.Proofs.YtfbfndknhabmhaaGreat
open Go.RowKit TreN LexP FixP SynP ValP SelP FixM
set_option linter.unusedVariables false

set_option maxRecDepth 100000 in
set_option maxHeartbeats 8000000 in
theorem readTest_any {w0 w : World} {P B : Nat} {p : Prt} {t : Tok} {r : List Tok} (h : RdrAt w0 w P B p (t :: r)) (hk : t.kind = 15) : Calls Tryz.prog 106 #[.pointer (some ⟨P, 0, none⟩)] w (StepOut w0 w P B (tstO p r)) := by
  obtain ⟨vC, vT, hc, hr1, hr2⟩ := h.ex
  have H := Lib.hid h
  have HR := Lib.hid (And.intro hr1 hr2)
  have TK := Take_yes hc
  rw [hk] at TK
  obtain ⟨tk, tx, tn⟩ := t
  have HTK : Hid (Calls Tryz.prog 103 #[.pointer (some ⟨P, 0, none⟩), .int .i64 15] w fun e w' => e = .returned (.tuple #[.agg #[.int .i64 tk, .string ⟨tx.toArray⟩, .int .i64 tn], .bool true]) ∧ w.grownBy w' (some P) ∧ Cur w0 w' P 95 (restP p vC vT) r) := Lib.hid TK
  have htxo : TxOk7 r := h.txo.suf suf_cons
  have HTXO := Lib.hid htxo
  have hlt := h.lt
  have h0 := h.base
  have hPB := h.hP
  clear h hc hr1 hr2 TK hk htxo
  go_enter Tryz.func106, Tryz.ntmps106
  go_wp2_with fail
  refine HTK.out.mono ?_
  rintro e w1 ⟨rfl, hg1, hc1⟩
  have HG1 := Lib.hid hg1
  obtain ⟨sb, hsp⟩ := hc1.spaces
  have HSP := Lib.hid hsp
  clear hg1 hc1 hsp
  go_wp2_with fail
  refine HSP.out.mono ?_
  rintro e w2 ⟨rfl, hg2, hc2⟩
  have HG2 := Lib.hid (grownBy_trans HG1.out hg2)
  obtain ⟨k1, x1, n1, b1, s1, hcall1, htake1, hb1, hsuf1, htx1⟩ := take_ex 1 hc2
  have HCALL1 := Lib.hid hcall1
  have HT1 := Lib.hid (And.intro htake1 (And.intro hb1 (And.intro hsuf1 (htx1 (HTXO.out.suf (bs_suf r))))))
  clear hg2 hc2 hcall1 htake1 hb1 hsuf1 htx1
  go_wp2_with fail
  refine HCALL1.out.mono ?_
  rintro e w3 ⟨rfl, hg3, hc3⟩
  have hg4 : w.grownBy ((w3.alloc (.cells #[.int .i64 k1, .string ⟨x1.toArray⟩, .int .i64 n1] 70)).alloc (.cells #[.string ⟨x1.toArray⟩, .bool false, .string ⟨#[]⟩] 57)) (some P) := grownBy_trans (grownBy_trans HG2.out hg3) (grownBy_below _ ((below_one7 w3 _).alloc (by simp) _))
  have hc4 := (hc3.keep (below_one7 w3 (.cells #[.int .i64 k1, .string ⟨x1.toArray⟩, .int .i64 n1] 70))).keep (below_one7 (w3.alloc (.cells #[.int .i64 k1, .string ⟨x1.toArray⟩, .int .i64 n1] 70)) (.cells #[.string ⟨x1.toArray⟩, .bool false, .string ⟨#[]⟩] 57))
  have hbx := heap_alloc_new (w3.alloc (.cells #[.int .i64 k1, .string ⟨x1.toArray⟩, .int .i64 n1] 70)) (.cells #[.string ⟨x1.toArray⟩, .bool false, .string ⟨#[]⟩] 57)
  have hw3 : w.heap.size ≤ w3.heap.size := (grownBy_trans HG2.out hg3).size
  go_upto_region 5 with (fail)
  obtain ⟨X, hX⟩ : ∃ X, (w3.alloc (.cells #[.int .i64 k1, .string ⟨x1.toArray⟩, .int .i64 n1] 70)).heap.size = X := ⟨_, rfl⟩
  have hX2 : w3.heap.size + 1 = X := by rw [← hX]; simp
  rw [hX2]
  rw [hX] at hbx
  have hXw : w.heap.size < X := by omega
  generalize ((w3.alloc (.cells #[.int .i64 k1, .string ⟨x1.toArray⟩, .int .i64 n1] 70)).alloc (.cells #[.string ⟨x1.toArray⟩, .bool false, .string ⟨#[]⟩] 57)) = W4 at *
  obtain ⟨sb5, hsp5⟩ := hc4.spaces
  have HSP5 := Lib.hid hsp5
  have HG4 := Lib.hid hg4
  have HBX := Lib.hid hbx
  have hPX : P ≠ X := by omega
  clear hg3 hc3 hg4 hc4 hbx hX hX2 hsp5 hw3
  go_wp2_with fail
  refine HSP5.out.mono ?_
  rintro e w5 ⟨rfl, hg5, hc5⟩
  have hXW4 : X < W4.heap.size := (Array.getElem?_eq_some_iff.1 HBX.out).1
  have hbx5 : w5.heap[X]? = some (.cells #[.string ⟨x1.toArray⟩, .bool false, .string ⟨#[]⟩] 57 (0, 0)) := by rw [hg5.block X hXW4 (by intro e; injection e with e; exact hPX e.symm)]; exact HBX.out
  have HG5 := Lib.hid (grownBy_trans HG4.out hg5)
  have HBX5 := Lib.hid hbx5
  obtain ⟨b2, s2, hcall2, hpass2, hb2, hsuf2⟩ := pass_ex 19 [61] hc5
  have HCALL2 := Lib.hid hcall2
  have HT2 := Lib.hid (And.intro hpass2 (And.intro hb2 hsuf2))
  clear hg5 hc5 hbx5 hcall2 hpass2 hb2 hsuf2
  go_wp2_with fail
  refine HCALL2.out.mono ?_
  rintro e w6 ⟨rfl, hg6, hc6⟩
  have hXW5 : X < w5.heap.size := (Array.getElem?_eq_some_iff.1 HBX5.out).1
  have hbx6 : w6.heap[X]? = some (.cells #[.string ⟨x1.toArray⟩, .bool false, .string ⟨#[]⟩] 57 (0, 0)) := by rw [hg6.block X hXW5 (by intro e; injection e with e; exact hPX e.symm)]; exact HBX5.out
  have HG6 := Lib.hid (grownBy_trans HG5.out hg6)
  have HC6 := Lib.hid hc6
  have HBX6 := Lib.hid hbx6
  have HRES := Lib.hid (test_res HT1.out.1 HT2.out.1)
  have HS2 : Hid (s2 <:+ r) := Lib.hid (HT2.out.2.2.trans ((bs_suf s1).trans (HT1.out.2.2.1.trans (bs_suf r))))
  clear hg6 hc6 hbx6 hXW4 hXW5
  go_upto_if 35 with fail
  go_cut [4] (fun v wx => ∃ (ok : Bool) (ts : Tst) (l : List Tok), v = .bool ok ∧ Hid (TsSt w0 w wx P X (restP p vC vT) r ok ts l))
  case first =>
    cases b2 with
    | false =>
      have HST : Hid (TsSt w0 w w6 P X (restP p vC vT) r b1 ⟨x1, false, []⟩ s2) := Lib.hid ⟨HG6.out, HC6.out, HBX6.out, by
        have := HRES.out
        rw [this, HT2.out.2.1 rfl]
        rfl, HS2.out, ⟨HT1.out.2.2.2, Nat.zero_le _⟩⟩
      go_wp2_with fail
      go_meet
      exact ⟨b1, ⟨x1, false, []⟩, s2, rfl, HST⟩
    | true =>
      obtain ⟨sb7, hsp7⟩ := HC6.out.spaces
      have HSP7 := Lib.hid hsp7
      clear hsp7
      go_wp2_with fail
      refine HSP7.out.mono ?_
      rintro e w7 ⟨rfl, hg7, hc7⟩
      have RV := readValue_any hc7
      have hvt := valQ_text ((HTXO.out.suf HS2.out).suf (bs_suf s2))
      obtain ⟨⟨⟨k3, x3, n3⟩, b3, s3⟩, hv3⟩ : ∃ v, valQ (bs s2) = v := ⟨_, rfl⟩
      have htr := testE_res (x := x1) hv3
      rw [hv3] at RV hvt
      have HRV : Hid (Calls Tryz.prog 110 #[.pointer (some ⟨P, 0, none⟩)] w7 fun e w' => e = .returned (.tuple #[.agg #[.int .i64 k3, .string ⟨x3.toArray⟩, .int .i64 n3], .bool b3]) ∧ w7.grownBy w' (some P) ∧ Cur w0 w' P 95 (restP p vC vT) s3) := Lib.hid RV
      have hXW6 : X < w6.heap.size := (Array.getElem?_eq_some_iff.1 HBX6.out).1
      have hbx7 : w7.heap[X]? = some (.cells #[.string ⟨x1.toArray⟩, .bool false, .string ⟨#[]⟩] 57 (0, 0)) := by rw [hg7.block X hXW6 (by intro e; injection e with e; exact hPX e.symm)]; exact HBX6.out
      have HG7 := Lib.hid (grownBy_trans HG6.out hg7)
      have HBX7 := Lib.hid hbx7
      have HTR := Lib.hid htr
      have HVT := Lib.hid hvt
      clear hg7 hc7 RV hvt hv3 htr hXW6 hbx7
      go_wp2_with fail
      refine HRV.out.mono ?_
      rintro e w8 ⟨rfl, hg8, hc8⟩
      have hXW7 : X < w7.heap.size := (Array.getElem?_eq_some_iff.1 HBX7.out).1
      have hbx8 : w8.heap[X]? = some (.cells #[.string ⟨x1.toArray⟩, .bool false, .string ⟨#[]⟩] 57 (0, 0)) := by rw [hg8.block X hXW7 (by intro e; injection e with e; exact hPX e.symm)]; exact HBX7.out
      have hXW8 : X < w8.heap.size := (Array.getElem?_eq_some_iff.1 hbx8).1
      have hb9 := below_one7 w8 (.cells #[.int .i64 k3, .string ⟨x3.toArray⟩, .int .i64 n3] 70)
      have hbx9 := (hb9.block X hXW8).trans hbx8
      have hc9 := hc8.keep hb9
      have hg9 : w.grownBy (w8.alloc (.cells #[.int .i64 k3, .string ⟨x3.toArray⟩, .int .i64 n3] 70)) (some P) := grownBy_trans (grownBy_trans HG7.out hg8) (grownBy_below _ hb9)
      have hv6 := heap_alloc_new w8 (.cells #[.int .i64 k3, .string ⟨x3.toArray⟩, .int .i64 n3] 70)
      go_upto_region 9 with (fail)
      obtain ⟨Y, hY⟩ : ∃ Y, w8.heap.size = Y := ⟨_, rfl⟩
      rw [hY] at hv6 ⊢
      have hXY : X ≠ Y := by omega
      generalize w8.alloc (.cells #[.int .i64 k3, .string ⟨x3.toArray⟩, .int .i64 n3] 70) = W9 at *
      have d1 : W9.drew.cell? ⟨Y, 1, none⟩ = some (.string ⟨x3.toArray⟩) := cell_of (w := W9) hv6 rfl
      have d1b : (W9.setCell ⟨X, 1, none⟩ (.bool true)).cell? ⟨Y, 1, none⟩ = some (.string ⟨x3.toArray⟩) := cell_of ((setCell_there (w := W9) _ (by omega)).trans hv6) rfl
      have e1 : W9.drew.cell? ⟨X, 1, none⟩ = some (.bool false) := cell_of (w := W9) hbx9 rfl
      have e2 : W9.drew.cell? ⟨X, 2, none⟩ = some (.string ⟨#[]⟩) := cell_of (w := W9) hbx9 rfl
      have f1 : W9.drew.frozen? ⟨X, 1, none⟩ = false := unfrozen_of (w := W9) hbx9
      have f2 : W9.drew.frozen? ⟨X, 2, none⟩ = false := unfrozen_of (w := W9) hbx9
      have hbxS1 : (W9.setCell ⟨X, 1, none⟩ (.bool true)).heap[X]? = some (.cells #[.string ⟨x1.toArray⟩, .bool true, .string ⟨#[]⟩] 57 (0, 0)) := setCell_here (w := W9) (k := 1) _ hbx9
      have hbxS2 : (W9.setCell ⟨X, 2, none⟩ (.string ⟨x3.toArray⟩)).heap[X]? = some (.cells #[.string ⟨x1.toArray⟩, .bool false, .string ⟨x3.toArray⟩] 57 (0, 0)) := setCell_here (w := W9) (k := 2) _ hbx9
      have e2b := cell_of (k := 2) hbxS1 rfl
      have f2b : (W9.setCell ⟨X, 1, none⟩ (.bool true)).frozen? ⟨X, 2, none⟩ = false := unfrozen_of hbxS1
      have e1b := cell_of (k := 1) hbxS2 rfl
      have f1b : (W9.setCell ⟨X, 2, none⟩ (.string ⟨x3.toArray⟩)).frozen? ⟨X, 1, none⟩ = false := unfrozen_of hbxS2
      have HG9 := Lib.hid hg9
      have HC9 := Lib.hid (hc9.keep (Below.drew (Below.refl _ _)))
      have HBX9 : Hid (W9.drew.heap[X]? = some (.cells #[.string ⟨x1.toArray⟩, .bool false, .string ⟨#[]⟩] 57 (0, 0))) := Lib.hid hbx9
      have HGD := Lib.hid (grownBy_trans hg9 (grownBy_below (some P) (Below.drew (Below.refl W9.heap.size W9))))
      have HX0 : Hid (w0.heap.size ≤ X) := Lib.hid (by omega)
      have HRES2 : Hid (testP r = if (b1 && b3) = true then (takeP 16 (bs s3)).map (fun z => ((⟨x1, true, x3⟩ : Tst), z.2)) else none) := Lib.hid (by
        rw [HRES.out, HTR.out]
        cases b1 <;> cases b3 <;> rfl)
      have HTOK : Hid (TstOk ⟨x1, true, x3⟩ ∧ s3 <:+ r) := Lib.hid ⟨⟨HT1.out.2.2.2, HVT.out.1⟩, HVT.out.2.trans ((bs_suf s2).trans HS2.out)⟩
      clear hg8 hc8 hXW7 hbx8 hXW8 hb9 hbx9 hc9 hg9 hv6 hY hbxS1 hbxS2
      go_cut [4] (fun v wx => v = .bool (b1 && b3) ∧ Hid (wx.heap[X]? = some (.cells #[.string ⟨x1.toArray⟩, .bool true, .string ⟨x3.toArray⟩] 57 (0, 0)) ∧ w.grownBy wx (some P) ∧ Cur w0 wx P 95 (restP p vC vT) s3))
      case first =>
        cases b1 <;> cases b3
        all_goals
          (first | (go_region_with (fail)) | fail)
          all_goals
            go_wp2_with fail
            go_meet
            refine ⟨rfl, ?_⟩
            first
              | exact Lib.hid ⟨(two_set HBX9.out).1, grown_set7 (grown_set7 HGD.out (by omega) _) (by omega) _, (HC9.out.set7 (by omega) HX0.out _).set7 (by omega) HX0.out _⟩
              | exact Lib.hid ⟨(two_set HBX9.out).2, grown_set7 (grown_set7 HGD.out (by omega) _) (by omega) _, (HC9.out.set7 (by omega) HX0.out _).set7 (by omega) HX0.out _⟩
      case rest =>
        obtain ⟨rfl, HQ⟩ := hcut
        obtain ⟨sbA, hspA⟩ := HQ.out.2.2.spaces
        have HSPA := Lib.hid hspA
        clear hspA d1 d1b e1 e2 f1 f2 e2b f2b e1b f1b
        go_wp2_with fail
        refine HSPA.out.mono ?_
        rintro e wA ⟨rfl, hgA, hcA⟩
        have hXc : X < wc.heap.size := (Array.getElem?_eq_some_iff.1 HQ.out.1).1
        have HST : Hid (TsSt w0 w wA P X (restP p vC vT) r (b1 && b3) ⟨x1, true, x3⟩ (bs s3)) := Lib.hid ⟨grownBy_trans HQ.out.2.1 hgA, hcA, by rw [hgA.block X hXc (by intro e; injection e with e; exact hPX e.symm)]; exact HQ.out.1, HRES2.out, (bs_suf s3).trans HTOK.out.2, HTOK.out.1⟩
        clear hgA hcA hXc
        go_wp2_with fail
        go_meet
        exact ⟨b1 && b3, ⟨x1, true, x3⟩, bs s3, rfl, HST⟩
  case rest =>
    obtain ⟨ok, ⟨zn, ze, zv⟩, l, rfl, HST⟩ := hcut
    clear HTK HSP HCALL1 HT1 HSP5 HG4 HBX HCALL2 HT2 HG6 HC6 HBX6 HRES HS2 HG1 HG2 HG5 HBX5
    have hbd := H.out.bnd
    simp only [List.length_cons] at hbd
    have HBD := Lib.hid hbd
    have hbox := HST.out.box
    simp only at hbox
    have hg := HST.out.gr
    have HCd : Hid (Cur w0 wc.drew P 95 (restP p vC vT) l) := Lib.hid (HST.out.cur.keep (Below.drew (Below.refl _ _)))
    have HRC : Hid (TxRow B wc.drew vC p.classes) := Lib.hid (World.ownsRow.drew (row_grown7 HR.out.1 H.out.hP hg))
    have HRT : Hid (TsRow B wc.drew vT p.tests) := Lib.hid (World.ownsRow.drew (row_grown7 HR.out.2 H.out.hP hg))
    obtain ⟨_, _, _, _, p5, _, f⟩ := RdrAt.cell HCd.out
    have q0 : wc.drew.cell? ⟨X, 0, none⟩ = some (.string ⟨zn.toArray⟩) := cell_of (w := wc) hbox rfl
    have q1 : wc.drew.cell? ⟨X, 1, none⟩ = some (.bool ze) := cell_of (w := wc) hbox rfl
    have q2 : wc.drew.cell? ⟨X, 2, none⟩ = some (.string ⟨zv.toArray⟩) := cell_of (w := wc) hbox rfl
    have hBW : B ≤ wc.drew.heap.size := Nat.le_trans H.out.hB hg.size
    have hPW : P < wc.drew.heap.size := Nat.lt_of_lt_of_le H.out.hP hBW
    have p5a : ∀ ob, (wc.alloc ob).cell? ⟨P, 5, none⟩ = some vT := fun ob => ((below_one7 wc ob).cell (p := ⟨P, 5, none⟩) hPW).trans p5
    have HGG := Lib.hid hg
    clear hbd hbox hg f
    go_wp2_with fail
    go_cut [] (fun wx => ∃ (g5 c5 : Nat), Hid (FrP B P w wx ∧ B ≤ wx.heap.size ∧ Cur w0 wx P 95 (restP { p with tests := p.tests ++ [⟨zn, ze, zv⟩] } vC (.slice (some ⟨g5, 0, none⟩) (p.tests.length + 1) c5)) l ∧ TsRow B wx (.slice (some ⟨g5, 0, none⟩) (p.tests.length + 1) c5) (p.tests ++ [⟨zn, ze, zv⟩]) ∧ TxRow B wx vC p.classes))
    case first =>
      go_region_law ((first
        | (obtain ⟨g5, c5, w5, hr5, hrow5, hb5, hk5⟩ := putTs B vT p.tests ⟨zn, ze, zv⟩ wc.drew hBW (by have := HBD.out; omega) HRT.out; refine step_append_run7 rfl (.tmp 62) (.tmp 64) 34 rfl _ _ _ _ (by first | (simp [Act.eval]; done) | simp [Act.eval, Act.put]) (by first | (simp [Act.eval]; done) | simp [Act.eval, Act.put]) hr5 ?_; have hfin := test_fin hBW H.out.hP HCd.out HRC.out hrow5 hb5 hk5; have hq : w5.cell? ⟨P, 5, none⟩ = some vT := (by obtain ⟨a, c, h1, _⟩ := HCd.out.ex; exact cell_of (hk5 _ _ _ _ h1 kindsR.2.2.2) rfl); have hqf : w5.frozen? ⟨P, 5, none⟩ = false := (by obtain ⟨a, c, h1, _⟩ := HCd.out.ex; exact unfrozen_of (hk5 _ _ _ _ h1 kindsR.2.2.2)); have HF5 := Lib.hid (And.intro hfin hb5); clear hr5 hrow5 hk5 hfin hb5)))
      all_goals
        go_wp2_with fail
        go_meet
        exact ⟨g5, c5, Lib.hid ⟨(FrP.grown HGG.out).trans ((FrP.own (Below.drew (Below.refl wc.heap.size wc))).trans ((FrP.below HF5.out.2 HF5.out.2.size (Nat.le_refl _)).trans (FrP.grown (grownBy_set _ _ _ _)))), by rw [setCell_size]; exact Nat.le_trans hBW HF5.out.2.size, HF5.out.1.1, HF5.out.1.2.1, HF5.out.1.2.2⟩⟩
    case rest =>
      obtain ⟨g5, c5, HQ⟩ := hcut
      have HRS := Lib.hid HST.out.res
      have HSU := Lib.hid (And.intro HST.out.suf HST.out.tok)
      clear HST q0 q1 q2 p5 p5a HCd HRC HRT HGG hBW hPW
      obtain ⟨k6, x6, n6, b6, s6, hcall6, htake6, hb6, hsuf6, htx6⟩ := take_ex 16 HQ.out.2.2.1
      have HCALL6 := Lib.hid hcall6
      have HT6 := Lib.hid (And.intro htake6 hsuf6)
      clear hcall6 htake6 hb6 hsuf6 htx6
      go_wp2_with fail
      refine HCALL6.out.mono ?_
      rintro e w7 ⟨rfl, hg7, hc7⟩
      have hb8 := below_one7 w7 (.cells #[.int .i64 k6, .string ⟨x6.toArray⟩, .int .i64 n6] 70)
      have hg8 := grownBy_trans hg7 (grownBy_below (some P) hb8)
      have HFR : Hid (FrP B P w (w7.alloc (.cells #[.int .i64 k6, .string ⟨x6.toArray⟩, .int .i64 n6] 70))) := Lib.hid (HQ.out.1.trans (FrP.grown hg8))
      have HRD : Hid (RdrAt w0 (w7.alloc (.cells #[.int .i64 k6, .string ⟨x6.toArray⟩, .int .i64 n6] 70)) P B { p with tests := p.tests ++ [⟨zn, ze, zv⟩] } s6) := Lib.hid ⟨⟨vC, _, hc7.keep hb8, row_grown7 HQ.out.2.2.2.2 H.out.hP hg8, row_grown7 (HQ.out.2.2.2.1) H.out.hP hg8⟩, H.out.hP, Nat.le_trans HQ.out.2.1 hg8.size, by
        have h1 := HT6.out.2.length_le
        have h2 := HSU.out.1.length_le
        have := HBD.out
        simp only [List.length_append, List.length_cons, List.length_nil]
        omega, (HTXO.out.suf HSU.out.1).suf HT6.out.2, ⟨H.out.tok.tag, H.out.tok.id, H.out.tok.cls, by
        intro t' ht'
        rcases List.mem_append.1 ht' with h1 | h1
        · exact H.out.tok.tst t' h1
        · rw [List.mem_singleton] at h1; subst h1; exact HSU.out.2, H.out.tok.st0, H.out.tok.st7⟩⟩
      have HO : Hid (tstO p r = if (ok && b6) = true then some ({ p with tests := p.tests ++ [⟨zn, ze, zv⟩] }, s6) else none) := Lib.hid (by
        unfold tstO
        rw [HRS.out, HT6.out.1]
        cases ok <;> cases b6 <;> rfl)
      clear hg7 hc7 hb8 hg8
      cases ok
      · go_wp2_with fail
        go_ret
        exact stepOut_no HO.out HRD.out.bel HFR.out
      · cases b6
        · go_wp2_with fail
          go_ret
          exact stepOut_no HO.out HRD.out.bel HFR.out
        · go_wp2_with fail
          go_ret
          exact stepOut_yes HO.out HFR.out HRD.out
end Go.Proofs.YtfbfndknhabmhaaGreat
