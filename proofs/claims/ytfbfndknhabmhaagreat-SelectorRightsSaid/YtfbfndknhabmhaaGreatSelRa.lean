/- Joined texts: SelR1 SelR2 SelR3 SelR4 SelR5. -/
import Derived.Test.YtfbfndknhabmhaaGreatSelGa
import Derived.Test.YtfbfndknhabmhaaGreatSelQ
import Derived.Test.YtfbfndknhabmhaaGreatSelWa
import Derived.StillTailTactics
namespace Go.Proofs.YtfbfndknhabmhaaGreat
open Go.RowKit TreN LexP FixP SynP ValP SelP FixM
set_option linter.unusedVariables false

def txc (l : List (List UInt8)) : List Value := l.map fun x => .string ⟨x.toArray⟩
def tsc (l : List Tst) : List Value := l.flatMap fun t => [.string ⟨t.name.toArray⟩, .bool t.equal, .string ⟨t.value.toArray⟩]
theorem tsc_len : ∀ l : List Tst, (tsc l).length = l.length * 3
  | [] => rfl
  | t :: l => by
    have := tsc_len l
    unfold tsc at this ⊢
    rw [List.flatMap_cons, List.length_append, this]
    simp only [List.length_cons, List.length_nil]; omega
def TxRow (B : Nat) (w : World) (v : Value) (l : List (List UInt8)) : Prop := w.ownsRow B 9 1 v l.length (txc l)
def TsRow (B : Nat) (w : World) (v : Value) (l : List Tst) : Prop := w.ownsRow B 57 3 v l.length (tsc l)
theorem info_str7 : (Tryz.prog.info? 9).map (fun i => (i.zero, i.size, i.bytes)) = some (some (.string ⟨#[]⟩), 1, 16) := by kernel_rfl
theorem und_strs7 : Tryz.prog.underlying 33 = some (.slice 9) := by kernel_rfl
theorem info_test7 : (Tryz.prog.info? 57).map (fun i => (i.zero, i.size, i.bytes)) = some (some (.agg #[.string ⟨#[]⟩, .bool false, .string ⟨#[]⟩]), 3, 40) := by kernel_rfl
theorem und_tests7 : Tryz.prog.underlying 34 = some (.slice 57) := by kernel_rfl
theorem putTx (B : Nat) (v : Value) (xs : List (List UInt8)) (x : List UInt8) (W : World) (hB : B ≤ W.heap.size) (hx : xs.length ≤ 200000) (h : TxRow B W v xs) :
    ∃ g c w', (Builtin.append_ #[33, 33] 33 #[v, .slice (some ⟨W.heap.size, 0, none⟩) 1 1]).run Tryz.prog (W.alloc (.cells #[.string ⟨x.toArray⟩] 9)) = .ok (.slice (some ⟨g, 0, none⟩) (xs.length + 1) c) w' ∧ TxRow B w' (.slice (some ⟨g, 0, none⟩) (xs.length + 1) c) (xs ++ [x]) ∧ Below B W w' ∧ KeptK 9 W w' := by
  obtain ⟨i, hi, hz0, hz1, hz2⟩ := info_parts info_str7
  obtain ⟨v', w', r1, r2, r3, r4⟩ := app_cellsG 33 9 i _ 1 16 und_strs7 hi hz0 hz1 hz2 rfl (by decide) B v xs.length (txc xs) (some ⟨W.heap.size, 0, none⟩) 1 1 [.string ⟨x.toArray⟩] (W.alloc (.cells #[.string ⟨x.toArray⟩] 9)) (by simp; omega) (World.ownsRow.alloc h _) rfl (Or.inr ⟨_, rfl, World.news_of_block (heap_alloc_new W _)⟩) (by intro u hu; simp only [List.mem_singleton] at hu; subst hu; rfl) (by unfold maxLen; omega) (by omega)
  obtain ⟨g, c, hv, _, _⟩ := r2.form (by omega)
  subst hv
  refine ⟨g, c, w', r1, ?_, ((Below.refl _ _).alloc hB _).trans r3, (KeptK.below (below_one7 W _)).trans (KeptK.grown (World.ownsRow.alloc h _) r4)⟩
  unfold TxRow txc
  rw [List.length_append, List.map_append]
  exact r2
theorem putTs (B : Nat) (v : Value) (xs : List Tst) (t : Tst) (W : World) (hB : B ≤ W.heap.size) (hx : xs.length ≤ 200000) (h : TsRow B W v xs) :
    ∃ g c w', (Builtin.append_ #[34, 34] 34 #[v, .slice (some ⟨W.heap.size, 0, none⟩) 1 1]).run Tryz.prog (W.alloc (.cells #[.string ⟨t.name.toArray⟩, .bool t.equal, .string ⟨t.value.toArray⟩] 57)) = .ok (.slice (some ⟨g, 0, none⟩) (xs.length + 1) c) w' ∧ TsRow B w' (.slice (some ⟨g, 0, none⟩) (xs.length + 1) c) (xs ++ [t]) ∧ Below B W w' ∧ KeptK 57 W w' := by
  obtain ⟨i, hi, hz0, hz1, hz2⟩ := info_parts info_test7
  obtain ⟨v', w', r1, r2, r3, r4⟩ := app_cellsG 34 57 i _ 3 40 und_tests7 hi hz0 hz1 hz2 rfl (by decide) B v xs.length (tsc xs) (some ⟨W.heap.size, 0, none⟩) 1 1 [.string ⟨t.name.toArray⟩, .bool t.equal, .string ⟨t.value.toArray⟩] (W.alloc (.cells #[.string ⟨t.name.toArray⟩, .bool t.equal, .string ⟨t.value.toArray⟩] 57)) (by simp; omega) (World.ownsRow.alloc h _) rfl (Or.inr ⟨_, rfl, World.news_of_block (heap_alloc_new W _)⟩) (by intro u hu; simp only [List.mem_cons, List.not_mem_nil, or_false] at hu; rcases hu with rfl | rfl | rfl <;> rfl) (by unfold maxLen; omega) (by omega)
  obtain ⟨g, c, hv, _, _⟩ := r2.form (by omega)
  subst hv
  refine ⟨g, c, w', r1, ?_, ((Below.refl _ _).alloc hB _).trans r3, (KeptK.below (below_one7 W _)).trans (KeptK.grown (World.ownsRow.alloc h _) r4)⟩
  unfold TsRow
  have e : tsc (xs ++ [t]) = tsc xs ++ [.string ⟨t.name.toArray⟩, .bool t.equal, .string ⟨t.value.toArray⟩] := by unfold tsc; rw [List.flatMap_append]; rfl
  rw [List.length_append, e]
  exact r2
/-- blocks below B other than P stay -/
structure FrP (B P : Nat) (w w' : World) : Prop where
  size : w.heap.size ≤ w'.heap.size
  block : ∀ k, k < B → k ≠ P → k < w.heap.size → w'.heap[k]? = w.heap[k]?
theorem FrP.refl (B P : Nat) (w : World) : FrP B P w w := ⟨Nat.le_refl _, fun _ _ _ _ => rfl⟩
theorem FrP.trans {B P : Nat} {a b c : World} (h : FrP B P a b) (k : FrP B P b c) : FrP B P a c := ⟨Nat.le_trans h.size k.size, fun i h1 h2 h3 => (k.block i h1 h2 (Nat.lt_of_lt_of_le h3 h.size)).trans (h.block i h1 h2 h3)⟩
theorem FrP.grown {B P : Nat} {w w' : World} (h : w.grownBy w' (some P)) : FrP B P w w' := ⟨h.size, fun k _ h2 h3 => h.block k h3 (by intro e; injection e with e; exact h2 e)⟩
theorem FrP.below {B P H : Nat} {w w' : World} (h : Below H w w') (hs : w.heap.size ≤ w'.heap.size) (hB : B ≤ H) : FrP B P w w' := ⟨hs, fun k h1 _ h3 => h.block k (by omega)⟩
theorem FrP.own {B P : Nat} {w w' : World} (h : Below w.heap.size w w') : FrP B P w w' := ⟨h.size, fun k _ _ h3 => h.block k h3⟩
theorem row_grown7 {B P : Nat} {E : TypeId} {size n : Nat} {v : Value} {xs : List Value} {w w' : World} (h : w.ownsRow B E size v n xs) (hP : P < B) (hg : w.grownBy w' (some P)) : w'.ownsRow B E size v n xs := by
  refine World.ownsRow.kept h hg ?_
  cases hv : v.ownBlock with
  | none => exact Or.inl rfl
  | some k =>
    right
    intro e
    injection e with e
    have := (World.ownsRow.lt h k hv).1
    omega
/-- a row of another kind stays -/
theorem row_kept7 {B : Nat} {E F : TypeId} {size n : Nat} {v : Value} {xs : List Value} {w w' : World} (h : w.ownsRow B E size v n xs) (hE : E ≠ F) (hk : KeptK F w w') : w'.ownsRow B E size v n xs := by
  refine ⟨h.1, ?_⟩
  rcases h.2 with h0 | ⟨g, cap, cur, hv, hb, hg, rest⟩
  · exact Or.inl h0
  · exact Or.inr ⟨g, cap, cur, hv, hb, hk _ _ _ _ hg hE, rest⟩
theorem kindsR : 57 ≠ 9 ∧ 9 ≠ 57 ∧ 95 ≠ 9 ∧ 95 ≠ 57 := by decide
def restP (p : Prt) (vC vT : Value) : List Value := [.int .i64 p.comb, .string ⟨p.tag.toArray⟩, .string ⟨p.id.toArray⟩, vC, vT, .int .i64 p.states]
structure PtTx (p : Prt) : Prop where
  tag : p.tag.length ≤ maxLen
  id : p.id.length ≤ maxLen
  cls : ∀ c ∈ p.classes, c.length ≤ maxLen
  tst : ∀ t ∈ p.tests, TstOk t
  st0 : 0 ≤ p.states
  st7 : p.states ≤ 7
/-- the reader's state -/
structure RdrAt (w0 w : World) (P B : Nat) (p : Prt) (l : List Tok) : Prop where
  ex : ∃ vC vT, Cur w0 w P 95 (restP p vC vT) l ∧ TxRow B w vC p.classes ∧ TsRow B w vT p.tests
  hP : P < B
  hB : B ≤ w.heap.size
  bnd : p.classes.length + p.tests.length + l.length ≤ 100000
  txo : TxOk7 l
  tok : PtTx p
theorem RdrAt.bel {w0 w : World} {P B : Nat} {p : Prt} {l : List Tok} (h : RdrAt w0 w P B p l) : Below w0.heap.size w0 w := by obtain ⟨_, _, h1, _⟩ := h.ex; exact h1.bel
theorem RdrAt.base {w0 w : World} {P B : Nat} {p : Prt} {l : List Tok} (h : RdrAt w0 w P B p l) : w0.heap.size ≤ P := by obtain ⟨_, _, h1, _⟩ := h.ex; exact h1.base
theorem RdrAt.lt {w0 w : World} {P B : Nat} {p : Prt} {l : List Tok} (h : RdrAt w0 w P B p l) : P < w.heap.size := by obtain ⟨_, _, h1, _⟩ := h.ex; exact h1.lt
theorem RdrAt.keep {w0 w w' : World} {P B : Nat} {p : Prt} {l : List Tok} (h : RdrAt w0 w P B p l) (hb : Below w.heap.size w w') : RdrAt w0 w' P B p l := by
  obtain ⟨vC, vT, h1, h2, h3⟩ := h.ex
  exact ⟨⟨vC, vT, h1.keep hb, ownsRow_below h2 hb, ownsRow_below h3 hb⟩, h.hP, Nat.le_trans h.hB hb.size, h.bnd, h.txo, h.tok⟩
/-- a step of the cursor alone -/
theorem RdrAt.move {w0 w w' : World} {P B : Nat} {p : Prt} {l r : List Tok} {vC vT : Value} (h : RdrAt w0 w P B p l) (h2 : TxRow B w vC p.classes) (h3 : TsRow B w vT p.tests) (hg : w.grownBy w' (some P)) (hc : Cur w0 w' P 95 (restP p vC vT) r) (hr : r <:+ l) : RdrAt w0 w' P B p r :=
  ⟨⟨vC, vT, hc, row_grown7 h2 h.hP hg, row_grown7 h3 h.hP hg⟩, h.hP, Nat.le_trans h.hB hg.size, by have := h.bnd; have := hr.length_le; omega, h.txo.suf hr, h.tok⟩
/-- a store behind the cursor -/
theorem Cur.store7 {w0 w : World} {P : Nat} {T : TypeId} {rest : List Value} {l : List Tok} (h : Cur w0 w P T rest l) (j : Nat) (v : Value) : Cur w0 (w.setCell ⟨P, j + 1, none⟩ v) P T (rest.set j v) l := by
  obtain ⟨a, c, hb, h1, h2, h3⟩ := h.ex
  refine ⟨⟨a, c, ?_, h1, h2, h3⟩, h.base, h.bel.setCell (p := ⟨P, j + 1, none⟩) h.base _⟩
  rw [setCell_here _ hb]
  congr 2
  apply Array.ext'
  simp
theorem RdrAt.cell {w0 w : World} {P : Nat} {p : Prt} {l : List Tok} {vC vT : Value} (hc : Cur w0 w P 95 (restP p vC vT) l) :
    w.cell? ⟨P, 1, none⟩ = some (.int .i64 p.comb) ∧ w.cell? ⟨P, 2, none⟩ = some (.string ⟨p.tag.toArray⟩) ∧ w.cell? ⟨P, 3, none⟩ = some (.string ⟨p.id.toArray⟩) ∧ w.cell? ⟨P, 4, none⟩ = some vC ∧ w.cell? ⟨P, 5, none⟩ = some vT ∧ w.cell? ⟨P, 6, none⟩ = some (.int .i64 p.states) ∧ ∀ j, w.frozen? ⟨P, j, none⟩ = false := by
  obtain ⟨a, c, hb, _⟩ := hc.ex
  exact ⟨cell_of hb rfl, cell_of hb rfl, cell_of hb rfl, cell_of hb rfl, cell_of hb rfl, cell_of hb rfl, fun j => unfrozen_of hb⟩
end Go.Proofs.YtfbfndknhabmhaaGreat

namespace Go.Proofs.YtfbfndknhabmhaaGreat
open Go.RowKit TreN LexP FixP SynP ValP SelP FixM
set_option linter.unusedVariables false

theorem suf_cons {t : Tok} {r : List Tok} : r <:+ t :: r := List.suffix_cons _ _
theorem Lib.two {a b : Prop} (h : a ∧ b) : a ∧ b := h
set_option maxRecDepth 100000 in
set_option maxHeartbeats 2000000 in
theorem readTag_any {w0 w : World} {P B : Nat} {c : Int} {l : List Tok} (h : RdrAt w0 w P B (bare c []) l) : Calls Tryz.prog 93 #[.pointer (some ⟨P, 0, none⟩)] w fun e w' => e = .returned (.bool (tagP l).2.1) ∧ RdrAt w0 w' P B (bare c (tagP l).1) (tagP l).2.2 ∧ w.grownBy w' (some P) := by
  obtain ⟨vC, vT, hc, hr1, hr2⟩ := h.ex
  have H := Lib.hid h
  have HC := Lib.hid hc
  have HR := Lib.hid (And.intro hr1 hr2)
  cases hp : passP 19 [42] l with
  | some r =>
    obtain ⟨t, hl, hk, hx⟩ := passP_len hp
    have ht : tagP l = ([], true, r) := by unfold tagP; rw [hp]
    rw [ht]
    subst hl
    have PY := Pass_yes hc
    rw [hk, hx] at PY
    have HPY := Lib.hid PY
    clear h hc hr1 hr2 hp ht PY hk hx
    go_enter Tryz.func93, Tryz.ntmps93
    go_wp2_with fail
    refine HPY.out.mono ?_
    rintro e w1 ⟨rfl, hg, hc1⟩
    have HF := Lib.hid (And.intro (H.out.move HR.out.1 HR.out.2 hg hc1 suf_cons) hg)
    clear hg hc1
    go_wp2_with fail
    go_ret
    exact ⟨rfl, HF.out.1, HF.out.2⟩
  | none =>
    have PN := Lib.hid (Pass_no 19 [42] hc hp)
    cases htk : takeP 1 l with
    | some q =>
      obtain ⟨t, r⟩ := q
      obtain ⟨hl, hk⟩ := takeP_len htk
      have ht : tagP l = (t.text, true, r) := by unfold tagP; rw [hp, htk]
      rw [ht]
      subst hl
      have TK := fun W (hW : Below w.heap.size w W) => Take_yes (hc.keep hW)
      have htx : t.text.length ≤ maxLen := H.out.txo t (by simp)
      obtain ⟨tk, tx, tn⟩ := t
      have hk : tk = 1 := hk
      subst hk
      have htx : tx.length ≤ maxLen := htx
      have HTK : Hid (∀ W : World, Below w.heap.size w W → Calls Tryz.prog 103 #[.pointer (some ⟨P, 0, none⟩), .int .i64 1] W fun e w' => e = .returned (.tuple #[.agg #[.int .i64 1, .string ⟨tx.toArray⟩, .int .i64 tn], .bool true]) ∧ W.grownBy w' (some P) ∧ Cur w0 w' P 95 (restP (bare c []) vC vT) r) := Lib.hid fun W hW => TK W hW
      have HTX := Lib.hid htx
      clear h hc hr1 hr2 hp ht htk TK htx
      show Calls _ _ _ _ fun e w' => e = .returned (.bool true) ∧ RdrAt w0 w' P B (bare c tx) r ∧ _
      go_enter Tryz.func93, Tryz.ntmps93
      go_wp2_with fail
      refine PN.out.mono ?_
      rintro e w1 ⟨rfl, hb1⟩
      have HB1 := Lib.hid hb1
      clear hb1
      go_wp2_with fail
      refine (HTK.out _ HB1.out).mono ?_
      rintro e w2 ⟨rfl, hg2, hc2⟩
      have hc3 := hc2.keep (below_one7 w2 (.cells #[.int .i64 1, .string ⟨tx.toArray⟩, .int .i64 tn] 70))
      have hg3 : w.grownBy (w2.alloc (.cells #[.int .i64 1, .string ⟨tx.toArray⟩, .int .i64 tn] 70)) (some P) := grownBy_trans (grownBy_below _ HB1.out) (grownBy_trans hg2 (grownBy_below _ (below_one7 w2 _)))
      obtain ⟨_, e2, _, _, _, _, f⟩ := RdrAt.cell hc3
      have f2 := f 2
      have HG4 := Lib.hid (grownBy_trans hg3 (grownBy_set (w2.alloc (.cells #[.int .i64 1, .string ⟨tx.toArray⟩, .int .i64 tn] 70)) P 2 (.string ⟨tx.toArray⟩)))
      have HC4 : Hid (Cur w0 ((w2.alloc (.cells #[.int .i64 1, .string ⟨tx.toArray⟩, .int .i64 tn] 70)).setCell ⟨P, 2, none⟩ (.string ⟨tx.toArray⟩)) P 95 (restP (bare c tx) vC vT) r) := Lib.hid (hc3.store7 1 _)
      clear hg2 hc2 hc3 hg3 f
      go_wp2_with fail
      go_ret
      exact ⟨rfl, ⟨⟨vC, vT, HC4.out, row_grown7 HR.out.1 H.out.hP HG4.out, row_grown7 HR.out.2 H.out.hP HG4.out⟩, H.out.hP, Nat.le_trans H.out.hB HG4.out.size, by have := H.out.bnd; simp only [bare, List.length_cons] at this ⊢; omega, H.out.txo.suf suf_cons, ⟨HTX.out, H.out.tok.id, H.out.tok.cls, H.out.tok.tst, H.out.tok.st0, H.out.tok.st7⟩⟩, HG4.out⟩
    | none =>
      have ht : tagP l = ([], false, l) := by unfold tagP; rw [hp, htk]
      rw [ht]
      have TK := Lib.hid fun W (hW : Below w.heap.size w W) => Take_no 1 (hc.keep hW) htk
      clear h hc hr1 hr2 hp ht htk
      go_enter Tryz.func93, Tryz.ntmps93
      go_wp2_with fail
      refine PN.out.mono ?_
      rintro e w1 ⟨rfl, hb1⟩
      have HB1 := Lib.hid hb1
      clear hb1
      go_wp2_with fail
      refine (TK.out _ HB1.out).mono ?_
      show ∀ e w', e = Ending.returned (.tuple #[.agg #[.int .i64 0, .string ⟨#[]⟩, .int .i64 0], .bool false]) ∧ _ → _
      rintro e w2 ⟨rfl, hb2⟩
      have hb3 : Below w.heap.size w (w2.alloc (.cells #[.int .i64 0, .string ⟨#[]⟩, .int .i64 0] 70)) := (HB1.out.trans (hb2.mono HB1.out.size)).alloc (by have := (HB1.out.trans (hb2.mono HB1.out.size)).size; omega) _
      have hc3 := HC.out.keep hb3
      obtain ⟨_, e2, _, _, _, _, f⟩ := RdrAt.cell hc3
      have f2 := f 2
      have HG4 := Lib.hid (grownBy_trans (grownBy_below (some P) hb3) (grownBy_set (w2.alloc (.cells #[.int .i64 0, .string ⟨#[]⟩, .int .i64 0] 70)) P 2 (.string ⟨#[]⟩)))
      have HC4 : Hid (Cur w0 ((w2.alloc (.cells #[.int .i64 0, .string ⟨#[]⟩, .int .i64 0] 70)).setCell ⟨P, 2, none⟩ (.string ⟨#[]⟩)) P 95 (restP (bare c []) vC vT) l) := Lib.hid (hc3.store7 1 _)
      clear hb2 hb3 hc3 f
      go_wp2_with fail
      go_ret
      exact ⟨rfl, H.out.move HR.out.1 HR.out.2 HG4.out HC4.out (List.suffix_refl _), HG4.out⟩
/-- which method reads what comes next -/
def simK (l : List Tok) : Nat := match l with
  | [] => 0
  | t :: _ => if t.kind = 4 then 1 else if t.kind = 15 then 2 else if t.kind = 10 then 3 else if t.kind = 19 ∧ t.text = [46] then 4 else 0
def mval (P k : Nat) : Value := if k = 1 then .func (.func 105) #[.pointer (some ⟨P, 0, none⟩)] #[] else if k = 2 then .func (.func 106) #[.pointer (some ⟨P, 0, none⟩)] #[] else if k = 3 then .func (.func 107) #[.pointer (some ⟨P, 0, none⟩)] #[] else if k = 4 then .func (.func 108) #[.pointer (some ⟨P, 0, none⟩)] #[] else .nilFunc
set_option maxRecDepth 100000 in
set_option maxHeartbeats 2000000 in
theorem simple_any {w0 w : World} {P : Nat} {T : TypeId} {rest : List Value} {l : List Tok} (h : Cur w0 w P T rest l) : Calls Tryz.prog 94 #[.pointer (some ⟨P, 0, none⟩)] w fun e w' => e = .returned (mval P (simK l)) ∧ Below w.heap.size w w' := by
  have hmf : ∀ (fn : Fn) (first cap : Array Value) (w : World), (Instr.makeFunc fn first cap).run Tryz.prog w = .ok (.func fn first cap) w := fun _ _ _ _ => rfl
  have NX := Next_any h
  obtain ⟨t, ht⟩ : ∃ t, nxt l = t := ⟨_, rfl⟩
  have hs : simK l = if t.kind = 4 then 1 else if t.kind = 15 then 2 else if t.kind = 10 then 3 else if t.kind = 19 ∧ t.text = [46] then 4 else 0 := by
    cases l with
    | nil => rw [← ht]; rfl
    | cons u r => rw [← ht]; rfl
  rw [hs]
  rw [ht] at NX
  obtain ⟨k, x, n⟩ := t
  have HNX : Hid (Calls Tryz.prog 104 #[.pointer (some ⟨P, 0, none⟩)] w fun e w' => e = .returned (.agg #[.int .i64 k, .string ⟨x.toArray⟩, .int .i64 n]) ∧ Below w.heap.size w w') := Lib.hid NX
  clear h NX ht hs
  show Calls _ _ _ _ fun e w' => e = .returned (mval P (if k = 4 then 1 else if k = 15 then 2 else if k = 10 then 3 else if k = 19 ∧ x = [46] then 4 else 0)) ∧ _
  rcases (by omega : k = 4 ∨ k = 15 ∨ k = 10 ∨ k = 19 ∨ (k ≠ 4 ∧ k ≠ 15 ∧ k ≠ 10 ∧ k ≠ 19)) with rfl | rfl | rfl | rfl | ⟨h1, h2, h3, h4⟩
  · have e0 : mval P (if (4 : Int) = 4 then 1 else if (4 : Int) = 15 then 2 else if (4 : Int) = 10 then 3 else if (4 : Int) = 19 ∧ x = [46] then 4 else 0) = .func (.func 105) #[.pointer (some ⟨P, 0, none⟩)] #[] := rfl
    rw [e0]
    clear e0
    go_enter Tryz.func94, Tryz.ntmps94
    go_wp2_with fail
    refine HNX.out.mono ?_
    rintro e w1 ⟨rfl, hb1⟩
    have HB := Lib.hid (hb1.alloc hb1.size (.cells #[.int .i64 4, .string ⟨x.toArray⟩, .int .i64 n] 70))
    clear hb1
    go_wp2_with fail
    go_ret
    exact ⟨rfl, HB.out⟩
  · have e0 : mval P (if (15 : Int) = 4 then 1 else if (15 : Int) = 15 then 2 else if (15 : Int) = 10 then 3 else if (15 : Int) = 19 ∧ x = [46] then 4 else 0) = .func (.func 106) #[.pointer (some ⟨P, 0, none⟩)] #[] := rfl
    rw [e0]
    clear e0
    go_enter Tryz.func94, Tryz.ntmps94
    go_wp2_with fail
    refine HNX.out.mono ?_
    rintro e w1 ⟨rfl, hb1⟩
    have HB := Lib.hid (hb1.alloc hb1.size (.cells #[.int .i64 15, .string ⟨x.toArray⟩, .int .i64 n] 70))
    clear hb1
    go_wp2_with fail
    go_ret
    exact ⟨rfl, HB.out⟩
  · have e0 : mval P (if (10 : Int) = 4 then 1 else if (10 : Int) = 15 then 2 else if (10 : Int) = 10 then 3 else if (10 : Int) = 19 ∧ x = [46] then 4 else 0) = .func (.func 107) #[.pointer (some ⟨P, 0, none⟩)] #[] := rfl
    rw [e0]
    clear e0
    go_enter Tryz.func94, Tryz.ntmps94
    go_wp2_with fail
    refine HNX.out.mono ?_
    rintro e w1 ⟨rfl, hb1⟩
    have HB := Lib.hid (hb1.alloc hb1.size (.cells #[.int .i64 10, .string ⟨x.toArray⟩, .int .i64 n] 70))
    clear hb1
    go_wp2_with fail
    go_ret
    exact ⟨rfl, HB.out⟩
  · by_cases hx : x = [46]
    · subst hx
      have e0 : mval P (if (19 : Int) = 4 then 1 else if (19 : Int) = 15 then 2 else if (19 : Int) = 10 then 3 else if (19 : Int) = 19 ∧ ([46] : List UInt8) = [46] then 4 else 0) = .func (.func 108) #[.pointer (some ⟨P, 0, none⟩)] #[] := rfl
      rw [e0]
      clear e0
      go_enter Tryz.func94, Tryz.ntmps94
      go_wp2_with fail
      refine HNX.out.mono ?_
      rintro e w1 ⟨rfl, hb1⟩
      have HB := Lib.hid (hb1.alloc hb1.size (.cells #[.int .i64 19, .string ⟨#[46]⟩, .int .i64 n] 70))
      clear hb1
      go_wp2_with fail
      go_ret
      exact ⟨rfl, HB.out⟩
    · have e0 : mval P (if (19 : Int) = 4 then 1 else if (19 : Int) = 15 then 2 else if (19 : Int) = 10 then 3 else if (19 : Int) = 19 ∧ x = [46] then 4 else 0) = .nilFunc := by
        rw [if_neg (by decide), if_neg (by decide), if_neg (by decide), if_neg (fun h => hx h.2)]; rfl
      rw [e0]
      have hxx : (x == [46]) = false := by rw [beq_eq_false_iff_ne]; exact hx
      clear e0 hx
      go_enter Tryz.func94, Tryz.ntmps94
      go_wp2_with fail
      refine HNX.out.mono ?_
      rintro e w1 ⟨rfl, hb1⟩
      have HB := Lib.hid (hb1.alloc hb1.size (.cells #[.int .i64 19, .string ⟨x.toArray⟩, .int .i64 n] 70))
      clear hb1
      go_wp2_with fail
      go_ret
      exact ⟨rfl, HB.out⟩
  · have e0 : mval P (if k = 4 then 1 else if k = 15 then 2 else if k = 10 then 3 else if k = 19 ∧ x = [46] then 4 else 0) = .nilFunc := by
      rw [if_neg h1, if_neg h2, if_neg h3, if_neg (fun h => h4 h.1)]; rfl
    rw [e0]
    have zk1 : (k == 4) = false := by rw [beq_eq_false_iff_ne]; exact h1
    have zk2 : (k == 15) = false := by rw [beq_eq_false_iff_ne]; exact h2
    have zk3 : (k == 10) = false := by rw [beq_eq_false_iff_ne]; exact h3
    have zk4 : (k == 19) = false := by rw [beq_eq_false_iff_ne]; exact h4
    clear e0 h1 h2 h3 h4
    go_enter Tryz.func94, Tryz.ntmps94
    go_wp2_with fail
    refine HNX.out.mono ?_
    rintro e w1 ⟨rfl, hb1⟩
    have HB := Lib.hid (hb1.alloc hb1.size (.cells #[.int .i64 k, .string ⟨x.toArray⟩, .int .i64 n] 70))
    clear hb1
    go_wp2_with fail
    go_ret
    exact ⟨rfl, HB.out⟩
end Go.Proofs.YtfbfndknhabmhaaGreat

namespace Go.Proofs.YtfbfndknhabmhaaGreat
open Go.RowKit TreN LexP FixP SynP ValP SelP FixM
set_option linter.unusedVariables false

/-- what a step of the reader answers -/
def StepOut (w0 w : World) (P B : Nat) (o : Option (Prt × List Tok)) (e : Ending) (w' : World) : Prop :=
  e = .returned (.bool o.isSome) ∧ Below w0.heap.size w0 w' ∧ FrP B P w w' ∧ ∀ q, o = some q → RdrAt w0 w' P B q.1 q.2
theorem stepOut_no {w0 w w' : World} {P B : Nat} {o : Option (Prt × List Tok)} (ho : o = none) (h1 : Below w0.heap.size w0 w') (h2 : FrP B P w w') : StepOut w0 w P B o (.returned (.bool false)) w' := by
  subst ho; exact ⟨rfl, h1, h2, fun q hq => by cases hq⟩
theorem stepOut_yes {w0 w w' : World} {P B : Nat} {o : Option (Prt × List Tok)} {q : Prt × List Tok} (ho : o = some q) (h2 : FrP B P w w') (h : RdrAt w0 w' P B q.1 q.2) : StepOut w0 w P B o (.returned (.bool true)) w' := by
  subst ho; exact ⟨rfl, h.bel, h2, fun q hq => by injection hq with hq; subst hq; exact h⟩
def idO (p : Prt) (t : Tok) (r : List Tok) : Option (Prt × List Tok) := if p.id = [] then some ({ p with id := t.text }, r) else none
set_option maxRecDepth 100000 in
set_option maxHeartbeats 2000000 in
theorem readID_any {w0 w : World} {P B : Nat} {p : Prt} {t : Tok} {r : List Tok} (h : RdrAt w0 w P B p (t :: r)) (hk : t.kind = 4) : Calls Tryz.prog 105 #[.pointer (some ⟨P, 0, none⟩)] w (StepOut w0 w P B (idO p t r)) := by
  obtain ⟨vC, vT, hc, hr1, hr2⟩ := h.ex
  obtain ⟨_, _, c3, _, _, _, _⟩ := RdrAt.cell hc
  have H := Lib.hid h
  have HR := Lib.hid (And.intro hr1 hr2)
  obtain ⟨tk, tx, tn⟩ := t
  have hk : tk = 4 := hk
  subst hk
  by_cases hid : p.id = []
  · have TK := Take_yes hc
    have HTK : Hid (Calls Tryz.prog 103 #[.pointer (some ⟨P, 0, none⟩), .int .i64 4] w fun e w' => e = .returned (.tuple #[.agg #[.int .i64 4, .string ⟨tx.toArray⟩, .int .i64 tn], .bool true]) ∧ w.grownBy w' (some P) ∧ Cur w0 w' P 95 (restP p vC vT) r) := Lib.hid TK
    have HO : Hid (idO p ⟨4, tx, tn⟩ r = some ({ p with id := tx }, r)) := Lib.hid (by unfold idO; rw [if_pos hid])
    rw [hid] at c3
    clear h hc hr1 hr2 TK hid
    go_enter Tryz.func105, Tryz.ntmps105
    go_wp2_with fail
    refine HTK.out.mono ?_
    rintro e w2 ⟨rfl, hg2, hc2⟩
    have hc3 := hc2.keep (below_one7 w2 (.cells #[.int .i64 4, .string ⟨tx.toArray⟩, .int .i64 tn] 70))
    have hg3 : w.grownBy (w2.alloc (.cells #[.int .i64 4, .string ⟨tx.toArray⟩, .int .i64 tn] 70)) (some P) := grownBy_trans hg2 (grownBy_below _ (below_one7 w2 _))
    obtain ⟨_, _, e3, _, _, _, f⟩ := RdrAt.cell hc3
    have f3 := f 3
    have HG4 := Lib.hid (grownBy_trans hg3 (grownBy_set (w2.alloc (.cells #[.int .i64 4, .string ⟨tx.toArray⟩, .int .i64 tn] 70)) P 3 (.string ⟨tx.toArray⟩)))
    have HC4 : Hid (Cur w0 ((w2.alloc (.cells #[.int .i64 4, .string ⟨tx.toArray⟩, .int .i64 tn] 70)).setCell ⟨P, 3, none⟩ (.string ⟨tx.toArray⟩)) P 95 (restP { p with id := tx } vC vT) r) := Lib.hid (hc3.store7 2 _)
    clear hg2 hc2 hc3 hg3 f c3
    go_wp2_with fail
    go_ret
    exact stepOut_yes HO.out (FrP.grown HG4.out) ⟨⟨vC, vT, HC4.out, row_grown7 HR.out.1 H.out.hP HG4.out, row_grown7 HR.out.2 H.out.hP HG4.out⟩, H.out.hP, Nat.le_trans H.out.hB HG4.out.size, by have := H.out.bnd; simp only [List.length_cons] at this ⊢; omega, H.out.txo.suf suf_cons, ⟨H.out.tok.tag, H.out.txo ⟨4, tx, tn⟩ (by simp), H.out.tok.cls, H.out.tok.tst, H.out.tok.st0, H.out.tok.st7⟩⟩
  · have HO : Hid (idO p ⟨4, tx, tn⟩ r = none) := Lib.hid (by unfold idO; rw [if_neg hid])
    obtain ⟨x0, xr, hx⟩ : ∃ c r, p.id = c :: r := by cases hq : p.id with | nil => exact absurd hq hid | cons c r => exact ⟨c, r, rfl⟩
    rw [hx] at c3
    clear h hc hr1 hr2 hid hx
    go_enter Tryz.func105, Tryz.ntmps105
    go_wp2_with fail
    go_ret
    exact stepOut_no HO.out H.out.bel (FrP.refl _ _ _)
def clsO (p : Prt) (r : List Tok) : Option (Prt × List Tok) := (takeP 1 r).map fun q => ({ p with classes := p.classes ++ [q.1.text] }, q.2)
/-- what the append of a class leaves -/
theorem class_fin {w0 w wc : World} {P B : Nat} {p : Prt} {l : List Tok} {vC vT v5 : Value} {w5 : World} {x : List UInt8} (hB : B ≤ wc.heap.size) (hP : P < B) (hc : Cur w0 wc P 95 (restP p vC vT) l) (hT : TsRow B wc vT p.tests) (hrow : TxRow B w5 v5 (p.classes ++ [x])) (hb : Below B wc w5) (hk : KeptK 9 wc w5) :
    Cur w0 (w5.setCell ⟨P, 4, none⟩ v5) P 95 (restP { p with classes := p.classes ++ [x] } v5 vT) l ∧ TxRow B (w5.setCell ⟨P, 4, none⟩ v5) v5 (p.classes ++ [x]) ∧ TsRow B (w5.setCell ⟨P, 4, none⟩ v5) vT p.tests := by
  have hc5 : Cur w0 w5 P 95 (restP p vC vT) l := by
    obtain ⟨a, c, h1, h2, h3, h4⟩ := hc.ex
    refine ⟨⟨a, c, hk _ _ _ _ h1 kindsR.2.2.1, h2, h3, h4⟩, hc.base, hc.bel.trans (hb.mono (by have := hc.base; omega))⟩
  have hg : w5.grownBy (w5.setCell ⟨P, 4, none⟩ v5) (some P) := grownBy_set _ _ _ _
  exact ⟨hc5.store7 3 v5, row_grown7 hrow hP hg, row_grown7 (row_kept7 hT kindsR.1 hk) hP hg⟩
set_option maxRecDepth 100000 in
set_option maxHeartbeats 4000000 in
theorem readClass_any {w0 w : World} {P B : Nat} {p : Prt} {t : Tok} {r : List Tok} (h : RdrAt w0 w P B p (t :: r)) (hk : t.kind = 19) : Calls Tryz.prog 108 #[.pointer (some ⟨P, 0, none⟩)] w (StepOut w0 w P B (clsO p r)) := by
  obtain ⟨vC, vT, hc, hr1, hr2⟩ := h.ex
  have H := Lib.hid h
  have HR := Lib.hid (And.intro hr1 hr2)
  have TK := Take_yes hc
  rw [hk] at TK
  obtain ⟨tk, tx, tn⟩ := t
  have HTK : Hid (Calls Tryz.prog 103 #[.pointer (some ⟨P, 0, none⟩), .int .i64 19] w fun e w' => e = .returned (.tuple #[.agg #[.int .i64 tk, .string ⟨tx.toArray⟩, .int .i64 tn], .bool true]) ∧ w.grownBy w' (some P) ∧ Cur w0 w' P 95 (restP p vC vT) r) := Lib.hid TK
  have hbd := h.bnd
  simp only [List.length_cons] at hbd
  have HBD := Lib.hid hbd
  clear h hc hr1 hr2 TK hk hbd
  go_enter Tryz.func108, Tryz.ntmps108
  go_wp2_with fail
  refine HTK.out.mono ?_
  rintro e w1 ⟨rfl, hg1, hc1⟩
  have HG1 := Lib.hid hg1
  have HC1 := Lib.hid hc1
  clear hg1 hc1
  -- the token that names the class, or none
  have HX : Hid (∃ (k : Int) (x : List UInt8) (z : Int) (b : Bool) (s : List Tok), (Calls Tryz.prog 103 #[.pointer (some ⟨P, 0, none⟩), .int .i64 1] w1 fun e w' => e = .returned (.tuple #[.agg #[.int .i64 k, .string ⟨x.toArray⟩, .int .i64 z], .bool b]) ∧ w1.grownBy w' (some P) ∧ Cur w0 w' P 95 (restP p vC vT) s) ∧ clsO p r = (if b = true then some ({ p with classes := p.classes ++ [x] }, s) else none) ∧ s <:+ r ∧ x.length ≤ maxLen) := Lib.hid (by
    cases htk : takeP 1 r with
    | none =>
      refine ⟨0, [], 0, false, r, ?_, by unfold clsO; rw [htk]; rfl, List.suffix_refl _, Nat.zero_le _⟩
      refine (Take_no 1 HC1.out htk).mono fun e w' hh => ⟨hh.1, grownBy_below _ hh.2, HC1.out.keep hh.2⟩
    | some q =>
      obtain ⟨u, s⟩ := q
      obtain ⟨hl, hk⟩ := takeP_len htk
      have TK := Take_yes (t := u) (r := s) (by rw [← hl]; exact HC1.out)
      rw [hk] at TK
      refine ⟨u.kind, u.text, u.n, true, s, TK, by unfold clsO; rw [htk]; rfl, by rw [hl]; exact suf_cons, ?_⟩
      exact H.out.txo u (by rw [hl]; simp))
  obtain ⟨k, x, z, b, s, hcall, hcls, hsuf, hxl⟩ := HX.out
  have HCALL := Lib.hid hcall
  have HCLS := Lib.hid hcls
  have HSUF := Lib.hid (And.intro hsuf hxl)
  clear hcall hcls hsuf hxl HX
  go_wp2_with fail
  refine HCALL.out.mono ?_
  rintro e w2 ⟨rfl, hg2, hc2⟩
  go_wp2_with fail
  have hg3 : w.grownBy (w2.alloc (.cells #[.int .i64 k, .string ⟨x.toArray⟩, .int .i64 z] 70)) (some P) := grownBy_trans (grownBy_trans HG1.out hg2) (grownBy_below _ (below_one7 w2 _))
  have hc3 := hc2.keep (below_one7 w2 (.cells #[.int .i64 k, .string ⟨x.toArray⟩, .int .i64 z] 70))
  have hbx := heap_alloc_new w2 (.cells #[.int .i64 k, .string ⟨x.toArray⟩, .int .i64 z] 70)
  obtain ⟨X, hX⟩ : ∃ X, w2.heap.size = X := ⟨_, rfl⟩
  rw [hX] at hbx ⊢
  generalize w2.alloc (.cells #[.int .i64 k, .string ⟨x.toArray⟩, .int .i64 z] 70) = W3 at *
  have HG3 := Lib.hid hg3
  have HC3 : Hid (Cur w0 W3.drew P 95 (restP p vC vT) s) := Lib.hid (hc3.keep (Below.drew (Below.refl _ _)))
  have HRC : Hid (TxRow B W3.drew vC p.classes) := Lib.hid (World.ownsRow.drew (row_grown7 HR.out.1 H.out.hP hg3))
  have HRT : Hid (TsRow B W3.drew vT p.tests) := Lib.hid (World.ownsRow.drew (row_grown7 HR.out.2 H.out.hP hg3))
  obtain ⟨_, _, _, p4, _, _, f⟩ := RdrAt.cell HC3.out
  have p1 : W3.drew.cell? ⟨X, 1, none⟩ = some (.string ⟨x.toArray⟩) := cell_of (w := W3) hbx rfl
  have hBW : B ≤ W3.drew.heap.size := Nat.le_trans H.out.hB hg3.size
  have hPW : P < W3.drew.heap.size := Nat.lt_of_lt_of_le H.out.hP hBW
  have p4a : ∀ ob, (W3.alloc ob).cell? ⟨P, 4, none⟩ = some vC := fun ob => ((below_one7 W3 ob).cell (p := ⟨P, 4, none⟩) hPW).trans p4
  clear hg2 hc2 hg3 hc3 hbx hX f
  go_region_law ((first
    | (obtain ⟨g5, c5, w5, hr5, hrow5, hb5, hk5⟩ := putTx B vC p.classes x W3.drew hBW (by have := HBD.out; omega) HRC.out; refine step_append_run7 rfl (.tmp 21) (.tmp 24) 33 rfl _ _ _ _ (by first | (simp [Act.eval]; done) | simp [Act.eval, Act.put]) (by first | (simp [Act.eval]; done) | simp [Act.eval, Act.put]) hr5 ?_; have hfin := class_fin (w := w) hBW H.out.hP HC3.out HRT.out hrow5 hb5 hk5; have hq : w5.cell? ⟨P, 4, none⟩ = some vC := (by obtain ⟨a, c, h1, _⟩ := HC3.out.ex; exact cell_of (hk5 _ _ _ _ h1 kindsR.2.2.1) rfl); have hqf : w5.frozen? ⟨P, 4, none⟩ = false := (by obtain ⟨a, c, h1, _⟩ := HC3.out.ex; exact unfrozen_of (hk5 _ _ _ _ h1 kindsR.2.2.1)); have HF5 := Lib.hid (And.intro hfin hb5); clear hr5 hrow5 hk5 hfin hb5)))
  all_goals
    have hws : w.heap.size ≤ w5.heap.size := by have := HF5.out.2.size; have := HG3.out.size; exact Nat.le_trans this (by assumption)
    go_wp2_with fail
    go_ret
    have hfr : FrP B P w (w5.setCell ⟨P, 4, none⟩ (.slice (some ⟨g5, 0, none⟩) (p.classes.length + 1) c5)) := (FrP.grown HG3.out).trans ((FrP.own (Below.drew (Below.refl W3.heap.size W3))).trans ((FrP.below HF5.out.2 HF5.out.2.size (Nat.le_refl _)).trans (FrP.grown (grownBy_set _ _ _ _))))
    cases b with
    | false => exact stepOut_no (by rw [HCLS.out]; rfl) HF5.out.1.1.bel hfr
    | true => exact stepOut_yes (by rw [HCLS.out, if_pos rfl]) hfr ⟨⟨_, vT, HF5.out.1.1, HF5.out.1.2.1, HF5.out.1.2.2⟩, H.out.hP, by rw [setCell_size]; exact Nat.le_trans H.out.hB hws, by have := HSUF.out.1.length_le; have := HBD.out; simp only [List.length_append, List.length_cons, List.length_nil]; omega, (H.out.txo.suf suf_cons).suf HSUF.out.1, ⟨H.out.tok.tag, H.out.tok.id, by intro c hcm; rcases List.mem_append.1 hcm with h1 | h1; exact H.out.tok.cls c h1; (rw [List.mem_singleton] at h1; subst h1; exact HSUF.out.2), H.out.tok.tst, H.out.tok.st0, H.out.tok.st7⟩⟩
end Go.Proofs.YtfbfndknhabmhaaGreat

namespace Go.Proofs.YtfbfndknhabmhaaGreat
open Go.RowKit TreN LexP FixP SynP ValP SelP FixM
set_option linter.unusedVariables false

theorem orB (n k : Int) (h0 : 0 ≤ n) (h7 : n ≤ 7) (hk : k = 1 ∨ k = 2 ∨ k = 4) : bits .or .i64 n k = orS n k ∧ 0 ≤ orS n k ∧ orS n k ≤ 7 := by
  rcases hk with rfl | rfl | rfl <;> rcases (by omega : n = 0 ∨ n = 1 ∨ n = 2 ∨ n = 3 ∨ n = 4 ∨ n = 5 ∨ n = 6 ∨ n = 7) with rfl | rfl | rfl | rfl | rfl | rfl | rfl | rfl <;> decide
def staO (p : Prt) (r : List Tok) : Option (Prt × List Tok) := (stateP p.states r).map fun q => ({ p with states := q.1 }, q.2)
theorem staO_no {p : Prt} {r : List Tok} (h1 : passP 1 rootT r = none) (h2 : passP 1 firstT r = none) (h3 : passP 1 lastT r = none) : staO p r = none := by unfold staO stateP; rw [h1, h2, h3]; rfl
theorem staO_1 {p : Prt} {r s : List Tok} (h1 : passP 1 rootT r = some s) : staO p r = some ({ p with states := orS p.states 1 }, s) := by unfold staO stateP; rw [h1]; rfl
theorem staO_2 {p : Prt} {r s : List Tok} (h1 : passP 1 rootT r = none) (h2 : passP 1 firstT r = some s) : staO p r = some ({ p with states := orS p.states 2 }, s) := by unfold staO stateP; rw [h1, h2]; rfl
theorem staO_4 {p : Prt} {r s : List Tok} (h1 : passP 1 rootT r = none) (h2 : passP 1 firstT r = none) (h3 : passP 1 lastT r = some s) : staO p r = some ({ p with states := orS p.states 4 }, s) := by unfold staO stateP; rw [h1, h2, h3]; rfl
/-- a state that was read -/
theorem state_fin {w0 w wx w2 : World} {P B : Nat} {p : Prt} {t : Tok} {r s : List Tok} {vC vT : Value} (n : Int) (h : RdrAt w0 w P B p (t :: r)) (h1 : TxRow B w vC p.classes) (h2 : TsRow B w vT p.tests) (hg : w.grownBy wx (some P)) (hg2 : wx.grownBy w2 (some P)) (hc2 : Cur w0 w2 P 95 (restP p vC vT) s) (hs : s <:+ r) (hn : 0 ≤ n ∧ n ≤ 7) :
    FrP B P w (w2.setCell ⟨P, 6, none⟩ (.int .i64 n)) ∧ RdrAt w0 (w2.setCell ⟨P, 6, none⟩ (.int .i64 n)) P B { p with states := n } s := by
  have hg3 : w.grownBy (w2.setCell ⟨P, 6, none⟩ (.int .i64 n)) (some P) := grownBy_trans (grownBy_trans hg hg2) (grownBy_set _ _ _ _)
  refine ⟨FrP.grown hg3, ⟨⟨vC, vT, hc2.store7 5 _, row_grown7 h1 h.hP hg3, row_grown7 h2 h.hP hg3⟩, h.hP, Nat.le_trans h.hB hg3.size, ?_, (h.txo.suf suf_cons).suf hs, ⟨h.tok.tag, h.tok.id, h.tok.cls, h.tok.tst, hn.1, hn.2⟩⟩⟩
  have := h.bnd
  have := hs.length_le
  simp only [List.length_cons] at *
  omega
theorem pass_suf {k : Int} {x : List UInt8} {r s : List Tok} (h : passP k x r = some s) : s <:+ r := by
  obtain ⟨t, e, _, _⟩ := passP_len h
  rw [e]; exact suf_cons
theorem pass_call {w0 w : World} {P : Nat} {T : TypeId} {rest : List Value} {l r : List Tok} {k : Int} {x : List UInt8} (h : Cur w0 w P T rest l) (hp : passP k x l = some r) : Calls Tryz.prog 96 #[.pointer (some ⟨P, 0, none⟩), .int .i64 k, .string ⟨x.toArray⟩] w fun e w' => e = .returned (.bool true) ∧ w.grownBy w' (some P) ∧ Cur w0 w' P T rest r := by
  obtain ⟨t, e, hk, hx⟩ := passP_len hp
  subst e
  have := Pass_yes h
  rw [hk, hx] at this
  exact this
set_option maxRecDepth 100000 in
set_option maxHeartbeats 8000000 in
theorem readState_any {w0 w : World} {P B : Nat} {p : Prt} {t : Tok} {r : List Tok} (h : RdrAt w0 w P B p (t :: r)) (hk : t.kind = 10) : Calls Tryz.prog 107 #[.pointer (some ⟨P, 0, none⟩)] w (StepOut w0 w P B (staO p r)) := by
  obtain ⟨vC, vT, hc, hr1, hr2⟩ := h.ex
  have H := Lib.hid h
  have HR := Lib.hid (And.intro hr1 hr2)
  have TK := Take_yes hc
  rw [hk] at TK
  obtain ⟨tk, tx, tn⟩ := t
  have HTK : Hid (Calls Tryz.prog 103 #[.pointer (some ⟨P, 0, none⟩), .int .i64 10] w fun e w' => e = .returned (.tuple #[.agg #[.int .i64 tk, .string ⟨tx.toArray⟩, .int .i64 tn], .bool true]) ∧ w.grownBy w' (some P) ∧ Cur w0 w' P 95 (restP p vC vT) r) := Lib.hid TK
  clear h hc hr1 hr2 TK hk
  go_enter Tryz.func107, Tryz.ntmps107
  go_wp2_with fail
  refine HTK.out.mono ?_
  rintro e w1 ⟨rfl, hg1, hc1⟩
  have HG1 := Lib.hid hg1
  have HC1 := Lib.hid hc1
  clear hg1 hc1
  go_wp2_with fail
  go_loopw [3] (fun vi wr => Hid (Below w1.heap.size w1 wr) ∧ (vi = .int .i64 1 ∨ (vi = .int .i64 2 ∧ Hid (passP 1 rootT r = none)) ∨ (vi = .int .i64 4 ∧ Hid (passP 1 rootT r = none ∧ passP 1 firstT r = none)) ∨ (vi = .int .i64 8 ∧ Hid (passP 1 rootT r = none ∧ passP 1 firstT r = none ∧ passP 1 lastT r = none)))) (fun vi _ => 8 - (intOf vi).toNat)
  case atStart => exact ⟨Lib.hid (Below.refl _ _), Or.inl rfl⟩
  case round =>
    obtain ⟨HBr, rfl | ⟨rfl, HN⟩ | ⟨rfl, HN⟩ | ⟨rfl, HN⟩⟩ := hrel
    · have HCr : Hid (Cur w0 wr.drew P 95 (restP p vC vT) r) := Lib.hid ((HC1.out.keep HBr.out).keep (Below.drew (Below.refl _ _)))
      have HGr : Hid (w.grownBy wr.drew (some P)) := Lib.hid (grownBy_trans HG1.out (grownBy_below _ HBr.out.drew))
      have WW : Hid (∀ W : World, Calls Tryz.prog 85 #[.int .i64 1] W fun e w' => e = .returned (.string ⟨rootT.toArray⟩) ∧ w' = W) := Lib.hid (fun W => word7_any 1 W)
      have HWB : Hid (Below w1.heap.size w1 wr.drew) := Lib.hid HBr.out.drew
      cases hp : passP 1 rootT r with
      | some s =>
        have PY := Lib.hid (pass_call HCr.out hp)
        have HSO := Lib.hid (staO_1 (p := p) hp)
        have HSU := Lib.hid (pass_suf hp)
        clear hp
        go_wp2_with fail
        refine wp_region_still_tail 5 (by kernel_rfl) (by kernel_rfl) ?_
        simp only [List.take_succ_cons, List.take_zero, List.drop_succ_cons, List.drop_zero]
        still_step
        still_step
        still_step
        still_step
        still_call (WW.out _)
        refine wpStill_nil ?_
        change wpList _ _ _ _ _ wr.drew
        generalize wr.drew = wd at *
        go_wp2_with fail
        refine PY.out.mono ?_
        rintro e w2 ⟨rfl, hg2, hc2⟩
        obtain ⟨hb, h0, h7⟩ := orB p.states 1 H.out.tok.st0 H.out.tok.st7 (Or.inl rfl)
        obtain ⟨_, _, _, _, _, c6, f⟩ := RdrAt.cell hc2
        have f6 := f 6
        obtain ⟨sn, hsn⟩ : ∃ n, orS p.states 1 = n := ⟨_, rfl⟩
        rw [hsn] at hb h0 h7
        have HF := Lib.hid (state_fin sn H.out HR.out.1 HR.out.2 HGr.out hg2 hc2 HSU.out ⟨h0, h7⟩)
        have HSN := Lib.hid hsn
        clear hg2 hc2 f h0 h7 hsn
        go_wp2_with fail
        go_ret
        exact stepOut_yes (by rw [HSO.out, HSN.out]) HF.out.1 HF.out.2
      | none =>
        have PN := Lib.hid (Pass_no 1 rootT HCr.out hp)
        have HPN := Lib.hid hp
        clear hp
        go_wp2_with fail
        refine wp_region_still_tail 5 (by kernel_rfl) (by kernel_rfl) ?_
        simp only [List.take_succ_cons, List.take_zero, List.drop_succ_cons, List.drop_zero]
        still_step
        still_step
        still_step
        still_step
        still_call (WW.out _)
        refine wpStill_nil ?_
        change wpList _ _ _ _ _ wr.drew
        generalize wr.drew = wd at *
        go_wp2_with fail
        refine PN.out.mono ?_
        rintro e w2 ⟨rfl, hb2⟩
        have HB2 := Lib.hid (HWB.out.trans (hb2.mono HWB.out.size))
        clear hb2
        go_wp2_with fail
        go_roundw
        case rel => exact ⟨HB2, Or.inr (Or.inl ⟨rfl, Lib.hid trivial⟩)⟩
        case measure => simp [intOf]
    · have HCr : Hid (Cur w0 wr.drew P 95 (restP p vC vT) r) := Lib.hid ((HC1.out.keep HBr.out).keep (Below.drew (Below.refl _ _)))
      have HGr : Hid (w.grownBy wr.drew (some P)) := Lib.hid (grownBy_trans HG1.out (grownBy_below _ HBr.out.drew))
      have WW : Hid (∀ W : World, Calls Tryz.prog 85 #[.int .i64 2] W fun e w' => e = .returned (.string ⟨firstT.toArray⟩) ∧ w' = W) := Lib.hid (fun W => word7_any 2 W)
      have HWB : Hid (Below w1.heap.size w1 wr.drew) := Lib.hid HBr.out.drew
      cases hp : passP 1 firstT r with
      | some s =>
        have PY := Lib.hid (pass_call HCr.out hp)
        have HSO := Lib.hid (staO_2 (p := p) HN.out hp)
        have HSU := Lib.hid (pass_suf hp)
        clear hp
        go_wp2_with fail
        refine wp_region_still_tail 5 (by kernel_rfl) (by kernel_rfl) ?_
        simp only [List.take_succ_cons, List.take_zero, List.drop_succ_cons, List.drop_zero]
        still_step
        still_step
        still_step
        still_step
        still_call (WW.out _)
        refine wpStill_nil ?_
        change wpList _ _ _ _ _ wr.drew
        generalize wr.drew = wd at *
        go_wp2_with fail
        refine PY.out.mono ?_
        rintro e w2 ⟨rfl, hg2, hc2⟩
        obtain ⟨hb, h0, h7⟩ := orB p.states 2 H.out.tok.st0 H.out.tok.st7 (Or.inr (Or.inl rfl))
        obtain ⟨_, _, _, _, _, c6, f⟩ := RdrAt.cell hc2
        have f6 := f 6
        obtain ⟨sn, hsn⟩ : ∃ n, orS p.states 2 = n := ⟨_, rfl⟩
        rw [hsn] at hb h0 h7
        have HF := Lib.hid (state_fin sn H.out HR.out.1 HR.out.2 HGr.out hg2 hc2 HSU.out ⟨h0, h7⟩)
        have HSN := Lib.hid hsn
        clear hg2 hc2 f h0 h7 hsn
        go_wp2_with fail
        go_ret
        exact stepOut_yes (by rw [HSO.out, HSN.out]) HF.out.1 HF.out.2
      | none =>
        have PN := Lib.hid (Pass_no 1 firstT HCr.out hp)
        have HPN := Lib.hid hp
        clear hp
        go_wp2_with fail
        refine wp_region_still_tail 5 (by kernel_rfl) (by kernel_rfl) ?_
        simp only [List.take_succ_cons, List.take_zero, List.drop_succ_cons, List.drop_zero]
        still_step
        still_step
        still_step
        still_step
        still_call (WW.out _)
        refine wpStill_nil ?_
        change wpList _ _ _ _ _ wr.drew
        generalize wr.drew = wd at *
        go_wp2_with fail
        refine PN.out.mono ?_
        rintro e w2 ⟨rfl, hb2⟩
        have HB2 := Lib.hid (HWB.out.trans (hb2.mono HWB.out.size))
        clear hb2
        go_wp2_with fail
        go_roundw
        case rel => exact ⟨HB2, Or.inr (Or.inr (Or.inl ⟨rfl, Lib.hid ⟨HN.out, trivial⟩⟩))⟩
        case measure => simp [intOf]
    · have HCr : Hid (Cur w0 wr.drew P 95 (restP p vC vT) r) := Lib.hid ((HC1.out.keep HBr.out).keep (Below.drew (Below.refl _ _)))
      have HGr : Hid (w.grownBy wr.drew (some P)) := Lib.hid (grownBy_trans HG1.out (grownBy_below _ HBr.out.drew))
      have WW : Hid (∀ W : World, Calls Tryz.prog 85 #[.int .i64 4] W fun e w' => e = .returned (.string ⟨lastT.toArray⟩) ∧ w' = W) := Lib.hid (fun W => word7_any 4 W)
      have HWB : Hid (Below w1.heap.size w1 wr.drew) := Lib.hid HBr.out.drew
      cases hp : passP 1 lastT r with
      | some s =>
        have PY := Lib.hid (pass_call HCr.out hp)
        have HSO := Lib.hid (staO_4 (p := p) HN.out.1 HN.out.2 hp)
        have HSU := Lib.hid (pass_suf hp)
        clear hp
        go_wp2_with fail
        refine wp_region_still_tail 5 (by kernel_rfl) (by kernel_rfl) ?_
        simp only [List.take_succ_cons, List.take_zero, List.drop_succ_cons, List.drop_zero]
        still_step
        still_step
        still_step
        still_step
        still_call (WW.out _)
        refine wpStill_nil ?_
        change wpList _ _ _ _ _ wr.drew
        generalize wr.drew = wd at *
        go_wp2_with fail
        refine PY.out.mono ?_
        rintro e w2 ⟨rfl, hg2, hc2⟩
        obtain ⟨hb, h0, h7⟩ := orB p.states 4 H.out.tok.st0 H.out.tok.st7 (Or.inr (Or.inr rfl))
        obtain ⟨_, _, _, _, _, c6, f⟩ := RdrAt.cell hc2
        have f6 := f 6
        obtain ⟨sn, hsn⟩ : ∃ n, orS p.states 4 = n := ⟨_, rfl⟩
        rw [hsn] at hb h0 h7
        have HF := Lib.hid (state_fin sn H.out HR.out.1 HR.out.2 HGr.out hg2 hc2 HSU.out ⟨h0, h7⟩)
        have HSN := Lib.hid hsn
        clear hg2 hc2 f h0 h7 hsn
        go_wp2_with fail
        go_ret
        exact stepOut_yes (by rw [HSO.out, HSN.out]) HF.out.1 HF.out.2
      | none =>
        have PN := Lib.hid (Pass_no 1 lastT HCr.out hp)
        have HPN := Lib.hid hp
        clear hp
        go_wp2_with fail
        refine wp_region_still_tail 5 (by kernel_rfl) (by kernel_rfl) ?_
        simp only [List.take_succ_cons, List.take_zero, List.drop_succ_cons, List.drop_zero]
        still_step
        still_step
        still_step
        still_step
        still_call (WW.out _)
        refine wpStill_nil ?_
        change wpList _ _ _ _ _ wr.drew
        generalize wr.drew = wd at *
        go_wp2_with fail
        refine PN.out.mono ?_
        rintro e w2 ⟨rfl, hb2⟩
        have HB2 := Lib.hid (HWB.out.trans (hb2.mono HWB.out.size))
        clear hb2
        go_wp2_with fail
        go_roundw
        case rel => exact ⟨HB2, Or.inr (Or.inr (Or.inr ⟨rfl, Lib.hid ⟨HN.out.1, HN.out.2, trivial⟩⟩))⟩
        case measure => simp [intOf]
    · have HSO := Lib.hid (staO_no (p := p) HN.out.1 HN.out.2.1 HN.out.2.2)
      have HBw : Hid (w.grownBy wr (some P)) := Lib.hid (grownBy_trans HG1.out (grownBy_below _ HBr.out))
      have HBB := Lib.hid (HC1.out.keep HBr.out).bel
      go_wp2_with fail
      go_ret
      exact stepOut_no HSO.out HBB.out (FrP.grown HBw.out)
end Go.Proofs.YtfbfndknhabmhaaGreat

namespace Go.Proofs.YtfbfndknhabmhaaGreat
open Go.RowKit TreN LexP FixP SynP ValP SelP FixM
set_option linter.unusedVariables false

theorem valT_len {l : List Tok} {u : Tok} {s : List Tok} (h : valT l = some (u, s)) : l = u :: s := by
  unfold valT at h
  cases h1 : takeP 1 l with
  | some q =>
    rw [h1] at h
    injection h with h
    subst h
    exact (takeP_len h1).1
  | none => rw [h1] at h; exact (takeP_len (show takeP 5 l = some (u, s) from h)).1
/-- the token that a value is written as, or none -/
def valQ (l : List Tok) : Tok × Bool × List Tok := match valT l with | some q => (q.1, true, q.2) | none => (zeroT, false, l)
set_option maxRecDepth 100000 in
set_option maxHeartbeats 4000000 in
theorem readValue_any {w0 w : World} {P : Nat} {T : TypeId} {rest : List Value} {l : List Tok} (h : Cur w0 w P T rest l) : Calls Tryz.prog 110 #[.pointer (some ⟨P, 0, none⟩)] w fun e w' => e = .returned (.tuple #[(valQ l).1.val, .bool (valQ l).2.1]) ∧ w.grownBy w' (some P) ∧ Cur w0 w' P T rest (valQ l).2.2 := by
  have hlt := h.lt
  have h0 := h.base
  have hR := heap_alloc_new w (.cells #[.int .i64 0, .string ⟨#[]⟩, .int .i64 0] 70)
  have hBw := below_one7 w (.cells #[.int .i64 0, .string ⟨#[]⟩, .int .i64 0] 70)
  obtain ⟨X, hX⟩ : ∃ X, w.heap.size = X := ⟨_, rfl⟩
  have hPX : P < X := by omega
  have hX0 : w0.heap.size ≤ X := by omega
  rw [hX] at hR
  cases h1 : takeP 1 l with
  | some q =>
    obtain ⟨t, r⟩ := q
    obtain ⟨hl, hk⟩ := takeP_len h1
    have hv : valQ l = (t, true, r) := by unfold valQ valT; rw [h1]
    rw [hv]
    subst hl
    have TK := Take_yes (h.keep hBw)
    rw [hk] at TK
    obtain ⟨tk, tx, tn⟩ := t
    have hk : tk = 1 := hk
    subst hk
    have hW1 : w.grownBy (w.alloc (.cells #[.int .i64 0, .string ⟨#[]⟩, .int .i64 0] 70)) (some P) := grownBy_below _ hBw
    generalize hWW : w.alloc (.cells #[.int .i64 0, .string ⟨#[]⟩, .int .i64 0] 70) = W1 at *
    have HTK : Hid (Calls Tryz.prog 103 #[.pointer (some ⟨P, 0, none⟩), .int .i64 1] W1 fun e w' => e = .returned (.tuple #[.agg #[.int .i64 1, .string ⟨tx.toArray⟩, .int .i64 tn], .bool true]) ∧ W1.grownBy w' (some P) ∧ Cur w0 w' P T rest r) := Lib.hid TK
    have HF := Lib.hid (And.intro hR (And.intro hW1 (And.intro hPX (And.intro hX0 hX))))
    have hXW : X < W1.heap.size := (Array.getElem?_eq_some_iff.1 hR).1
    clear h hBw TK h1 hv hlt h0 hR hW1
    show Calls _ _ _ _ fun e w' => e = .returned (.tuple #[.agg #[.int .i64 1, .string ⟨tx.toArray⟩, .int .i64 tn], .bool true]) ∧ _
    go_enter Tryz.func110, Tryz.ntmps110
    go_wp2_with fail
    refine HTK.out.mono ?_
    rintro e w2 ⟨rfl, hg2, hc2⟩
    have hX2 : w2.heap[X]? = some (.cells #[.int .i64 0, .string ⟨#[]⟩, .int .i64 0] 70 (0, 0)) := by rw [hg2.block X hXW (by intro e; injection e with e; omega)]; exact HF.out.1
    have hXl2 : X < w2.heap.size := (Array.getElem?_eq_some_iff.1 hX2).1
    have hX3 := (Below.heap_alloc w2 (.cells #[.int .i64 1, .string ⟨tx.toArray⟩, .int .i64 tn] 70) X hXl2).trans hX2
    have hc3 := hc2.keep (below_one7 w2 (.cells #[.int .i64 1, .string ⟨tx.toArray⟩, .int .i64 tn] 70))
    have hg3 : w.grownBy (w2.alloc (.cells #[.int .i64 1, .string ⟨tx.toArray⟩, .int .i64 tn] 70)) (some P) := grownBy_trans HF.out.2.1 (grownBy_trans hg2 (grownBy_below _ (below_one7 w2 _)))
    obtain ⟨x1, x2, x3, ⟨p0, q0, r0⟩, ⟨p1, q1, r1⟩, ⟨p2, q2, r2⟩, h3⟩ := three_store (w2.alloc (.cells #[.int .i64 1, .string ⟨tx.toArray⟩, .int .i64 tn] 70)) X 70 _ _ _ (.int .i64 1) (.string ⟨tx.toArray⟩) (.int .i64 tn) hX3
    have G1 := Lib.hid (grownBy_then hg3 (h3.below w.heap.size _ (by omega) (Below.refl _ _)))
    have G2 := Lib.hid (hc3.three h3 (by omega) HF.out.2.2.2.1)
    have k0 := cell_of (k := 0) h3.here rfl
    have k1 := cell_of (k := 1) h3.here rfl
    have k2 := cell_of (k := 2) h3.here rfl
    clear hg2 hc2 hX2 hX3 hc3 hg3 h3
    subst hX
    go_wp2_with fail
    exact bodyPost_ret (v := .tuple #[.agg #[.int .i64 1, .string ⟨tx.toArray⟩, .int .i64 tn], .bool true]) (by simp [results, Tryz.results110, go_sem, k0, k1, k2]) rfl ⟨rfl, G1.out, G2.out⟩
  | none =>
    have TN := Take_no 1 (h.keep hBw) h1
    have hW1 : w.grownBy (w.alloc (.cells #[.int .i64 0, .string ⟨#[]⟩, .int .i64 0] 70)) (some P) := grownBy_below _ hBw
    have hcW := h.keep hBw
    generalize hWW : w.alloc (.cells #[.int .i64 0, .string ⟨#[]⟩, .int .i64 0] 70) = W1 at *
    have HTN : Hid (Calls Tryz.prog 103 #[.pointer (some ⟨P, 0, none⟩), .int .i64 1] W1 fun e w' => e = .returned (.tuple #[.agg #[.int .i64 0, .string ⟨#[]⟩, .int .i64 0], .bool false]) ∧ Below W1.heap.size W1 w') := Lib.hid TN
    have hXW : X < W1.heap.size := (Array.getElem?_eq_some_iff.1 hR).1
    have HX : Hid (∀ W : World, Below W1.heap.size W1 W → ∃ (k : Int) (x : List UInt8) (z : Int) (b : Bool) (s : List Tok), (Calls Tryz.prog 103 #[.pointer (some ⟨P, 0, none⟩), .int .i64 5] W fun e w' => e = .returned (.tuple #[.agg #[.int .i64 k, .string ⟨x.toArray⟩, .int .i64 z], .bool b]) ∧ W.grownBy w' (some P) ∧ Cur w0 w' P T rest s) ∧ valQ l = (⟨k, x, z⟩, b, s)) := Lib.hid (by
      intro W hW
      have hcc := hcW.keep hW
      cases h5 : takeP 5 l with
      | none => exact ⟨0, [], 0, false, l, (Take_no 5 hcc h5).mono fun e w' hh => ⟨hh.1, grownBy_below _ hh.2, hcc.keep hh.2⟩, by unfold valQ valT; rw [h1]; simp only []; rw [h5]; rfl⟩
      | some q =>
        obtain ⟨u, s⟩ := q
        obtain ⟨hl, hk⟩ := takeP_len h5
        have TK := Take_yes (t := u) (r := s) (by rw [← hl]; exact hcc)
        rw [hk] at TK
        exact ⟨u.kind, u.text, u.n, true, s, TK, by unfold valQ valT; rw [h1]; simp only []; rw [h5]⟩)
    have HF := Lib.hid (And.intro hR (And.intro hW1 (And.intro hPX (And.intro hX0 hX))))
    clear h hBw TN h1 hlt h0 hR hW1 hcW
    go_enter Tryz.func110, Tryz.ntmps110
    go_wp2_with fail
    refine HTN.out.mono ?_
    rintro e w2 ⟨rfl, hb2⟩
    have hb3 := hb2.alloc hb2.size (.cells #[.int .i64 0, .string ⟨#[]⟩, .int .i64 0] 70)
    obtain ⟨k, x, z, b, s, hcall, hv⟩ := HX.out _ hb3
    have HV := Lib.hid hv
    have HCALL := Lib.hid hcall
    have HB3 := Lib.hid hb3
    clear hcall hv hb2 hb3 HX
    go_wp2_with fail
    refine HCALL.out.mono ?_
    rintro e w4 ⟨rfl, hg4, hc4⟩
    have hX3 := (HB3.out.block X hXW).trans HF.out.1
    have hXl3 : X < (w2.alloc (.cells #[.int .i64 0, .string ⟨#[]⟩, .int .i64 0] 70)).heap.size := (Array.getElem?_eq_some_iff.1 hX3).1
    have hX4 : w4.heap[X]? = some (.cells #[.int .i64 0, .string ⟨#[]⟩, .int .i64 0] 70 (0, 0)) := by rw [hg4.block X hXl3 (by intro e; injection e with e; have := HF.out.2.2.1; omega)]; exact hX3
    have hg5 : w.grownBy w4 (some P) := grownBy_trans HF.out.2.1 (grownBy_trans (grownBy_below _ HB3.out) hg4)
    obtain ⟨x1, x2, x3, ⟨p0, q0, r0⟩, ⟨p1, q1, r1⟩, ⟨p2, q2, r2⟩, h3⟩ := three_store w4 X 70 _ _ _ (.int .i64 k) (.string ⟨x.toArray⟩) (.int .i64 z) hX4
    have G1 := Lib.hid (grownBy_then hg5 (h3.below w.heap.size _ (by have := HF.out.2.2.2.2; omega) (Below.refl _ _)))
    have G2 := Lib.hid (hc4.three h3 (by have := HF.out.2.2.1; omega) HF.out.2.2.2.1)
    have k0 := cell_of (k := 0) h3.here rfl
    have k1 := cell_of (k := 1) h3.here rfl
    have k2 := cell_of (k := 2) h3.here rfl
    have hXX := HF.out.2.2.2.2
    clear hg4 hc4 hX3 hX4 hg5 h3 hXW hXl3
    subst hXX
    go_wp2_with fail
    exact bodyPost_ret (v := .tuple #[.agg #[.int .i64 k, .string ⟨x.toArray⟩, .int .i64 z], .bool b]) (by simp [results, Tryz.results110, go_sem, k0, k1, k2]) rfl ⟨by rw [HV.out]; rfl, G1.out, by rw [HV.out]; exact G2.out⟩
end Go.Proofs.YtfbfndknhabmhaaGreat
