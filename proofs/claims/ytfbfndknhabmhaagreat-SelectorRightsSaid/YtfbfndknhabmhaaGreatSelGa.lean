/- Joined texts: SelA SelG. -/
import Derived.Test.YtfbfndknhabmhaaGreatSelMa
import Derived.Test.YtfbfndknhabmhaaGreatLexSb
import Derived.Deep.RegionLawGrows
namespace Go.Proofs.YtfbfndknhabmhaaGreat
open Go.RowKit TreN LexP FixP SynP ValP SelP
set_option linter.unusedVariables false

/-- cells put behind cells of an own row -/
theorem app_cells7 (TT E : TypeId) (i : TypeInfo) (z : Value) (size bytes : Nat) (h1 : Tryz.prog.underlying TT = some (.slice E)) (h2 : Tryz.prog.info? E = some i) (h3 : i.zero = some z) (h4 : i.size = size) (h5 : i.bytes = bytes) (h6 : z.cells.size = size) (h7 : 0 < size)
    (H : Nat) (v : Value) (n : Nat) (xs : List Value) (a : Option Addr) (m c : Nat) (ys : List Value) (w : World) (hH : H ≤ w.heap.size) (hown : w.ownsRow H E size v n xs) (hy : ys.length = m * size)
    (ha : m = 0 ∨ ∃ ad, a = some ad ∧ ∀ j u, ys[j]? = some u → w.cell? (ad.add j) = some u) (h1c : ∀ u ∈ ys, u.oneCell' = true) (b1 : n + m ≤ maxLen) (b2 : (n + m) * bytes ≤ 140737488355328) :
    ∃ v' w', (Builtin.append_ #[TT, TT] TT #[v, .slice a m c]).run Tryz.prog w = .ok v' w' ∧ w'.ownsRow H E size v' (n + m) (xs ++ ys) ∧ Below H w w' := by
  by_cases hm : m = 0
  · subst hm
    have hy0 : ys = [] := List.eq_nil_of_length_eq_zero (by omega)
    subst hy0
    refine ⟨v, w, ?_, by rw [List.append_nil]; exact hown, Below.refl _ _⟩
    cases a with
    | none => exact run_append_owned_none (P := Tryz.prog) w H TT TT E i size h1 h2 _ n xs hown
    | some ad =>
      rcases hown.2 with ⟨hv, _⟩ | ⟨g, cap, cur, hv, _, _, hcap, _⟩
      · subst hv
        simp [Builtin.append_, run_underlying h1, sizeOf, typeInfo, h2, Builtin.lenOf, Builtin.firstCells, loadCells, loadCellsFrom]
      · subst hv
        simp [Builtin.append_, run_underlying h1, sizeOf, typeInfo, h2, Builtin.lenOf, Builtin.firstCells, loadCells, loadCellsFrom, hcap, storeCells]
  · rcases ha with ha | ⟨ad, rfl, news⟩
    · exact absurd ha hm
    · obtain ⟨v', w', hr, r2, r3, _⟩ := run_append_own (P := Tryz.prog) w H TT TT E i z size bytes h1 h2 h3 h4 h5 h6 h7 v n xs hown ad m c ys hy news h1c b1 b2 hH
      exact ⟨v', w', hr, r2, (Below.refl _ _).grown r3 hH (fun q hq => (World.ownsRow.lt hown q hq).1)⟩

set_option maxRecDepth 100000 in
theorem app_toks7 (H : Nat) (v : Value) (xs : List Tok) (a : Option Addr) (l : List Tok) (c : Nat) (w : World) (hH : H ≤ w.heap.size) (hx : xs.length ≤ 1000000) (hl : l.length ≤ 1000000) (hown : w.ownsRow H 70 3 v xs.length (tkcs xs)) (hT : Tks w a l) :
    ∃ v' w', (Builtin.append_ #[46, 46] 46 #[v, .slice a l.length c]).run Tryz.prog w = .ok v' w' ∧ w'.ownsRow H 70 3 v' (xs ++ l).length (tkcs (xs ++ l)) ∧ Below H w w' := by
  obtain ⟨i, hi, hz0, hz1, hz2⟩ := info_parts info_token
  obtain ⟨v', w', r1, r2, r3⟩ := app_cells7 46 70 i _ 3 32 und_tokens hi hz0 hz1 hz2 rfl (by decide) H v xs.length (tkcs xs) a l.length c (tkcs l) w hH hown (tkcs_length l) (by
    rcases hT with hT | ⟨b, o, rfl, hb, hT⟩
    · left; rw [hT]; rfl
    · right
      refine ⟨_, rfl, fun j u hj => ?_⟩
      by_cases hjn : j < l.length * 3
      · obtain ⟨p, hp⟩ : ∃ p, j / 3 = p := ⟨_, rfl⟩
        have hpl : p < l.length := by omega
        obtain ⟨k1, k2, k3⟩ := tkcs_get l p hpl
        have ht := hT p hpl
        rw [Addr.add_lit]
        rcases (by omega : j = p * 3 ∨ j = p * 3 + 1 ∨ j = p * 3 + 2) with e | e | e
        · subst e
          rw [k1] at hj; injection hj with hj; subst hj
          exact ht.kind
        · subst e
          rw [k2] at hj; injection hj with hj; subst hj
          exact ht.text
        · subst e
          rw [k3] at hj; injection hj with hj; subst hj
          exact ht.n
      · rw [List.getElem?_eq_none (by rw [tkcs_length]; omega)] at hj
        cases hj) (tkcs_one l) (by unfold maxLen; omega) (by omega)
  exact ⟨v', w', r1, by rw [List.length_append, tkcs_append]; exact r2, r3⟩
/-- what an own row's cells are, as news -/
theorem row_news7 {w : World} {base : Nat} {E : TypeId} {size : Nat} {v : Value} {n : Nat} {xs : List Value} (h : w.ownsRow base E size v n xs) : ∃ a c, v = .slice a n c ∧ (n = 0 ∨ ∃ ad, a = some ad ∧ ∀ j u, xs[j]? = some u → w.cell? (ad.add j) = some u) := by
  by_cases h0 : n = 0
  · subst h0
    rcases h.2 with ⟨hv, _⟩ | ⟨g, cap, cur, hv, _⟩
    · exact ⟨none, 0, hv, Or.inl rfl⟩
    · exact ⟨_, cap, hv, Or.inl rfl⟩
  · obtain ⟨g, cap, rfl, hg, hgl⟩ := h.form (by omega)
    refine ⟨_, cap, rfl, Or.inr ⟨_, rfl, fun j u hj => ?_⟩⟩
    have hjl : j < xs.length := by
      by_cases q : j < xs.length
      · exact q
      · rw [List.getElem?_eq_none (by omega)] at hj; cases hj
    rw [h.1] at hjl
    rw [Addr.add_lit, Nat.zero_add, h.cellAt j hjl, hj]

/-- tokens in a row of their own -/
def TokRow (H : Nat) (w : World) (v : Value) (l : List Tok) : Prop := w.ownsRow H 70 3 v l.length (tkcs l)
theorem TokRow.nil (H : Nat) (w : World) : TokRow H w (.slice none 0 0) [] := World.ownsRow_nil _ _ _ _
theorem TokRow.keep {H : Nat} {w w' : World} {v : Value} {l : List Tok} (h : TokRow H w v l) (hb : Below w.heap.size w w') : TokRow H w' v l := ownsRow_below h hb
theorem TokRow.form {H : Nat} {w : World} {v : Value} {l : List Tok} (h : TokRow H w v l) : ∃ a c, v = .slice a l.length c ∧ Tks w a l ∧ l.length ≤ c ∧ c ≤ maxLen := Tks_ownC h
theorem TokRow.lit (W : World) (l : List Tok) (n : Nat) (hn : l.length = n) (hm : n ≤ 1000) (H : Nat) (hH : H ≤ W.heap.size) : TokRow H (W.alloc (.cells (tkcs l).toArray 70)) (.slice (some ⟨W.heap.size, 0, none⟩) n n) l := by
  have := World.ownsRow_lit (base := H) (e := 70) (size := 3) W (tkcs l).toArray n hH (by unfold maxLen; omega) (by simp [tkcs_length, hn])
  unfold TokRow
  rw [hn]
  simpa using this
theorem TokRow.told {w w' : World} {v : Value} {l : List Tok} {H : Nat} (h : TokRow H w' v l) (hb : Below w.heap.size w w') : ToldCap w l (.returned v) w' := by
  obtain ⟨a, c, rfl, h1, h2, h3⟩ := h.form
  exact ⟨a, c, rfl, h1, hb, h2, h3⟩
theorem made_toks7 (W : World) (l : List Tok) : Tks (W.alloc (.cells (tkcs l).toArray 70)) (some ⟨W.heap.size, 0, none⟩) l := by
  have hb : (W.alloc (.cells (tkcs l).toArray 70)).heap[W.heap.size]? = some (.cells (tkcs l).toArray 70 (0, 0)) := heap_alloc_new W _
  refine Or.inr ⟨W.heap.size, 0, rfl, by simp, fun i hi => ?_⟩
  obtain ⟨h1, h2, h3⟩ := tkcs_get l i hi
  exact ⟨cell_of hb (by rw [Nat.zero_add]; simpa using h1), cell_of hb (by rw [Nat.zero_add]; simpa using h2), cell_of hb (by rw [Nat.zero_add]; simpa using h3)⟩
/-- a token put behind -/
theorem put1 (H : Nat) (v : Value) (xs : List Tok) (k : Int) (x : List UInt8) (z : Int) (W : World) (hH : H ≤ W.heap.size) (hx : xs.length ≤ 900000) (h : TokRow H W v xs) :
    ∃ v' w', (Builtin.append_ #[46, 46] 46 #[v, .slice (some ⟨W.heap.size, 0, none⟩) 1 1]).run Tryz.prog (W.alloc (.cells #[.int .i64 k, .string ⟨x.toArray⟩, .int .i64 z] 70)) = .ok v' w' ∧ TokRow H w' v' (xs ++ [⟨k, x, z⟩]) ∧ Below H W w' := by
  obtain ⟨v', w', h1, h2, h3⟩ := app_toks7 H v xs (some ⟨W.heap.size, 0, none⟩) [(⟨k, x, z⟩ : Tok)] 1 (W.alloc (.cells (tkcs [(⟨k, x, z⟩ : Tok)]).toArray 70)) (by simp; omega) (by omega) (by simp) (h.keep (below_one7 W _)) (made_toks7 W _)
  exact ⟨v', w', h1, h2, ((Below.refl _ _).alloc hH _).trans h3⟩
/-- two tokens put behind -/
theorem put2 (H : Nat) (v : Value) (xs : List Tok) (k : Int) (x : List UInt8) (z : Int) (k2 : Int) (x2 : List UInt8) (z2 : Int) (W : World) (hH : H ≤ W.heap.size) (hx : xs.length ≤ 900000) (h : TokRow H W v xs) :
    ∃ v' w', (Builtin.append_ #[46, 46] 46 #[v, .slice (some ⟨W.heap.size, 0, none⟩) 2 2]).run Tryz.prog (W.alloc (.cells #[.int .i64 k, .string ⟨x.toArray⟩, .int .i64 z, .int .i64 k2, .string ⟨x2.toArray⟩, .int .i64 z2] 70)) = .ok v' w' ∧ TokRow H w' v' (xs ++ [⟨k, x, z⟩, ⟨k2, x2, z2⟩]) ∧ Below H W w' := by
  obtain ⟨v', w', h1, h2, h3⟩ := app_toks7 H v xs (some ⟨W.heap.size, 0, none⟩) [(⟨k, x, z⟩ : Tok), ⟨k2, x2, z2⟩] 2 (W.alloc (.cells (tkcs [(⟨k, x, z⟩ : Tok), ⟨k2, x2, z2⟩]).toArray 70)) (by simp; omega) (by omega) (by simp) (h.keep (below_one7 W _)) (made_toks7 W _)
  exact ⟨v', w', h1, h2, ((Below.refl _ _).alloc hH _).trans h3⟩
/-- a list of tokens put behind -/
theorem putL (H : Nat) (v : Value) (xs : List Tok) (a : Option Addr) (l : List Tok) (n c : Nat) (W : World) (hn : l.length = n) (hH : H ≤ W.heap.size) (hx : xs.length ≤ 900000) (hl : n ≤ 900000) (h : TokRow H W v xs) (hT : Tks W a l) :
    ∃ v' w', (Builtin.append_ #[46, 46] 46 #[v, .slice a n c]).run Tryz.prog W = .ok v' w' ∧ TokRow H w' v' (xs ++ l) ∧ Below H W w' := by
  subst hn
  obtain ⟨v', w', h1, h2, h3⟩ := app_toks7 H v xs a l c W hH (by omega) (by omega) h hT
  exact ⟨v', w', h1, h2, h3⟩
theorem step_append_run7 {P : Program} {ops : Array Oper} {o : Oper} {a : Act} {w : World} {K : Act → World → Prop} {Q : Exit → Act → World → Prop} {E : Prop}
    (hg : o.guard = none) (s x : Operand) (t : TypeId) (hop : o.op = Op.call { callee := Callee.builtin Builtin.append, args := #[s, x], argTypes := #[t, t] })
    (vs vx v : Value) (w' : World) (hs : a.eval s = vs) (hx : a.eval x = vx) (hr : (Builtin.append_ #[t, t] o.type #[vs, vx]).run P w = .ok v w') (hK : K (a.put o.dst v) w') :
    if Region.wanted o (yielded ops a.tmps) = true then Oper.wp P o a w K Q else E := by
  have hw : Region.wanted o (yielded ops a.tmps) = true := by simp [Region.wanted, hg]
  rw [if_pos hw]
  unfold Oper.wp
  simp [execOp, hop, resolve, invoke, builtin, hs, hx, hr, Result.andThen]
  exact hK
end Go.Proofs.YtfbfndknhabmhaaGreat

namespace Go.Proofs.YtfbfndknhabmhaaGreat
open Go.RowKit TreN LexP FixP SynP ValP SelP
set_option linter.unusedVariables false

/-- what is not of a kind stays -/
def KeptK (E : TypeId) (w w' : World) : Prop := ∀ (B : Nat) (cur : Array Value) (T : TypeId) (fz : Nat × Nat), w.heap[B]? = some (Obj.cells cur T fz) → T ≠ E → w'.heap[B]? = some (Obj.cells cur T fz)
theorem KeptK.refl (E : TypeId) (w : World) : KeptK E w w := fun _ _ _ _ h _ => h
theorem KeptK.trans {E : TypeId} {a b c : World} (h : KeptK E a b) (k : KeptK E b c) : KeptK E a c := fun B cur T fz hb hT => k B cur T fz (h B cur T fz hb hT) hT
theorem KeptK.below {E : TypeId} {w w' : World} (hb : Below w.heap.size w w') : KeptK E w w' := fun B cur T fz h _ => (hb.block B (Array.getElem?_eq_some_iff.1 h).1).trans h
theorem KeptK.grown {E : TypeId} {base size n : Nat} {v : Value} {xs : List Value} {w w' : World} (hown : w.ownsRow base E size v n xs) (hg : w.grownBy w' v.ownBlock) : KeptK E w w' := by
  intro B cur T fz h hT
  refine (hg.block B (Array.getElem?_eq_some_iff.1 h).1 ?_).trans h
  intro hv
  rcases hown.2 with ⟨e, _⟩ | ⟨g, cap, cur2, e, _, h2, _⟩
  · rw [e] at hv; cases hv
  · rw [e] at hv
    injection hv with hv
    have hv : B = g := by simpa [eq_comm] using hv
    subst hv
    rw [h] at h2
    injection h2 with h2; injection h2 with _ h3 _
    exact hT h3
/-- cells put behind cells of an own row -/
theorem app_cellsG (TT E : TypeId) (i : TypeInfo) (z : Value) (size bytes : Nat) (h1 : Tryz.prog.underlying TT = some (.slice E)) (h2 : Tryz.prog.info? E = some i) (h3 : i.zero = some z) (h4 : i.size = size) (h5 : i.bytes = bytes) (h6 : z.cells.size = size) (h7 : 0 < size)
    (H : Nat) (v : Value) (n : Nat) (xs : List Value) (a : Option Addr) (m c : Nat) (ys : List Value) (w : World) (hH : H ≤ w.heap.size) (hown : w.ownsRow H E size v n xs) (hy : ys.length = m * size)
    (ha : m = 0 ∨ ∃ ad, a = some ad ∧ ∀ j u, ys[j]? = some u → w.cell? (ad.add j) = some u) (h1c : ∀ u ∈ ys, u.oneCell' = true) (b1 : n + m ≤ maxLen) (b2 : (n + m) * bytes ≤ 140737488355328) :
    ∃ v' w', (Builtin.append_ #[TT, TT] TT #[v, .slice a m c]).run Tryz.prog w = .ok v' w' ∧ w'.ownsRow H E size v' (n + m) (xs ++ ys) ∧ Below H w w' ∧ w.grownBy w' v.ownBlock := by
  by_cases hm : m = 0
  · subst hm
    have hy0 : ys = [] := List.eq_nil_of_length_eq_zero (by omega)
    subst hy0
    refine ⟨v, w, ?_, by rw [List.append_nil]; exact hown, Below.refl _ _, World.grownBy.refl _ _⟩
    cases a with
    | none => exact run_append_owned_none (P := Tryz.prog) w H TT TT E i size h1 h2 _ n xs hown
    | some ad =>
      rcases hown.2 with ⟨hv, _⟩ | ⟨g, cap, cur, hv, _, _, hcap, _⟩
      · subst hv
        simp [Builtin.append_, run_underlying h1, sizeOf, typeInfo, h2, Builtin.lenOf, Builtin.firstCells, loadCells, loadCellsFrom]
      · subst hv
        simp [Builtin.append_, run_underlying h1, sizeOf, typeInfo, h2, Builtin.lenOf, Builtin.firstCells, loadCells, loadCellsFrom, hcap, storeCells]
  · rcases ha with ha | ⟨ad, rfl, news⟩
    · exact absurd ha hm
    · obtain ⟨v', w', hr, r2, r3, _⟩ := run_append_own (P := Tryz.prog) w H TT TT E i z size bytes h1 h2 h3 h4 h5 h6 h7 v n xs hown ad m c ys hy news h1c b1 b2 hH
      exact ⟨v', w', hr, r2, (Below.refl _ _).grown r3 hH (fun q hq => (World.ownsRow.lt hown q hq).1), r3⟩
theorem tks_news7 {w : World} {a : Option Addr} {l : List Tok} (hT : Tks w a l) : l.length = 0 ∨ ∃ ad, a = some ad ∧ ∀ j u, (tkcs l)[j]? = some u → w.cell? (ad.add j) = some u := by
  rcases hT with hT | ⟨b, o, rfl, hb, hT⟩
  · left; rw [hT]; rfl
  · right
    refine ⟨_, rfl, fun j u hj => ?_⟩
    by_cases hjn : j < l.length * 3
    · obtain ⟨p, hp⟩ : ∃ p, j / 3 = p := ⟨_, rfl⟩
      have hpl : p < l.length := by omega
      obtain ⟨k1, k2, k3⟩ := tkcs_get l p hpl
      have ht := hT p hpl
      rw [Addr.add_lit]
      rcases (by omega : j = p * 3 ∨ j = p * 3 + 1 ∨ j = p * 3 + 2) with e | e | e
      · subst e
        rw [k1] at hj; injection hj with hj; subst hj
        exact ht.kind
      · subst e
        rw [k2] at hj; injection hj with hj; subst hj
        exact ht.text
      · subst e
        rw [k3] at hj; injection hj with hj; subst hj
        exact ht.n
    · rw [List.getElem?_eq_none (by rw [tkcs_length]; omega)] at hj
      cases hj
/-- a list of tokens put behind; boxes stay -/
theorem putLG (H : Nat) (v : Value) (xs : List Tok) (a : Option Addr) (l : List Tok) (n c : Nat) (W : World) (hn : l.length = n) (hH : H ≤ W.heap.size) (hx : xs.length ≤ 900000) (hl : n ≤ 900000) (h : TokRow H W v xs) (hT : Tks W a l) :
    ∃ v' w', (Builtin.append_ #[46, 46] 46 #[v, .slice a n c]).run Tryz.prog W = .ok v' w' ∧ TokRow H w' v' (xs ++ l) ∧ Below H W w' ∧ KeptK 70 W w' := by
  subst hn
  obtain ⟨i, hi, hz0, hz1, hz2⟩ := info_parts info_token
  obtain ⟨v', w', r1, r2, r3, r4⟩ := app_cellsG 46 70 i _ 3 32 und_tokens hi hz0 hz1 hz2 rfl (by decide) H v xs.length (tkcs xs) a l.length c (tkcs l) W hH h (tkcs_length l) (tks_news7 hT) (tkcs_one l) (by unfold maxLen; omega) (by omega)
  refine ⟨v', w', r1, ?_, r3, KeptK.grown h r4⟩
  unfold TokRow
  rw [List.length_append, tkcs_append]
  exact r2
theorem put2G (H : Nat) (v : Value) (xs : List Tok) (k : Int) (x : List UInt8) (z : Int) (k2 : Int) (x2 : List UInt8) (z2 : Int) (W : World) (hH : H ≤ W.heap.size) (hx : xs.length ≤ 900000) (h : TokRow H W v xs) :
    ∃ v' w', (Builtin.append_ #[46, 46] 46 #[v, .slice (some ⟨W.heap.size, 0, none⟩) 2 2]).run Tryz.prog (W.alloc (.cells #[.int .i64 k, .string ⟨x.toArray⟩, .int .i64 z, .int .i64 k2, .string ⟨x2.toArray⟩, .int .i64 z2] 70)) = .ok v' w' ∧ TokRow H w' v' (xs ++ [⟨k, x, z⟩, ⟨k2, x2, z2⟩]) ∧ Below H W w' ∧ KeptK 70 W w' := by
  obtain ⟨v', w', h1, h2, h3, h4⟩ := putLG H v xs (some ⟨W.heap.size, 0, none⟩) [(⟨k, x, z⟩ : Tok), ⟨k2, x2, z2⟩] 2 2 (W.alloc (.cells (tkcs [(⟨k, x, z⟩ : Tok), ⟨k2, x2, z2⟩]).toArray 70)) rfl (by simp; omega) (by omega) (by omega) (h.keep (below_one7 W _)) (made_toks7 W _)
  exact ⟨v', w', h1, h2, ((Below.refl _ _).alloc hH _).trans h3, (KeptK.below (below_one7 W _)).trans h4⟩
end Go.Proofs.YtfbfndknhabmhaaGreat
