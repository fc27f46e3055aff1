/- Joined texts: SelT SelM SelO. -/
import Derived.Test.YtfbfndknhabmhaaGreatTokX
import Derived.Test.YtfbfndknhabmhaaGreatLexR6
import Derived.Deep.DeepCutAuto
import Derived.Deep.LoopGhost
import Derived.Test.YtfbfndknhabmhaaGreatSelP
import Derived.Test.YtfbfndknhabmhaaGreatMem
import Derived.OpenShut
import Derived.SliceStrings
import Derived.Deep.Slices
import Derived.Deep.Fields
namespace Go.Proofs.YtfbfndknhabmhaaGreat
open Go.RowKit TreN LexP FixP SynP ValP
set_option linter.unusedVariables false

def TxOk7 (l : List Tok) : Prop := ∀ t ∈ l, t.text.length ≤ maxLen
theorem TxOk7.suf {l m : List Tok} (h : TxOk7 l) (hs : m <:+ l) : TxOk7 m := fun t ht => h t (hs.mem ht)
theorem below_one7 (w : World) (o : Obj) : Below w.heap.size w (w.alloc o) := (Below.refl _ _).alloc (Nat.le_refl _) _
set_option maxRecDepth 100000 in
theorem Trim7_any (a : Option Addr) (l : List Tok) (cap : Nat) (w : World) (h1 : l.length ≤ cap) (h2 : cap ≤ maxLen) (hl : l.length ≤ 90000) (hT : Tks w a l) :
    Calls Tryz.prog 45 #[.slice a l.length cap] w (ToldCap w (trm l)) := by
  have C := Lib.hid (trimmed_any a l cap w h1 h2 hT)
  have hlt := trm_len l
  obtain ⟨n, hn⟩ : ∃ n, l.length = n := ⟨_, rfl⟩
  rw [hn] at C hl hlt ⊢
  clear h1 h2 hT hn
  go_enter Tryz.func45, Tryz.ntmps45
  go_wp2_with fail
  refine C.out.mono ?_
  rintro e w1 ⟨⟨a2, c2, rfl, g1, g2, g3⟩, rfl⟩
  have D := Lib.hid (clone_toks a2 (trm l) c2 w (by omega) g3)
  obtain ⟨m, hm⟩ : ∃ m, (trm l).length = m := ⟨_, rfl⟩
  have HM := Lib.hid hm
  rw [hm] at D ⊢
  clear g1 g2 g3 hm hlt
  go_wp2_with fail
  refine D.out.mono ?_
  rintro e w2 ⟨⟨a3, c3, rfl, k1, k2, k3, _⟩, hb⟩
  have HF := Lib.hid (And.intro k3 (And.intro hb (And.intro k1 k2)))
  clear k1 k2 k3 hb
  go_wp2_with fail
  go_ret
  exact ⟨a3, c3, by rw [HM.out]; rfl, HF.out.1, HF.out.2.1, by rw [HM.out]; exact HF.out.2.2.1, HF.out.2.2.2⟩

set_option maxRecDepth 100000 in
theorem Ident7_any (x : List UInt8) (w : World) : Calls Tryz.prog 83 #[.string ⟨x.toArray⟩] w fun e w' => e = .returned (.agg #[.int .i64 1, .string ⟨x.toArray⟩, .int .i64 0]) ∧ w' = w.alloc (.cells #[.int .i64 1, .string ⟨x.toArray⟩, .int .i64 0] 70) := by
  go_enter Tryz.func83, Tryz.ntmps83
  go_wp2_with fail
  exact bodyPost_ret (v := .agg #[.int .i64 1, .string ⟨x.toArray⟩, .int .i64 0]) (by simp [results, Tryz.results83, go_sem]) rfl ⟨rfl, rfl⟩
set_option maxRecDepth 100000 in
theorem Delim7_any (x : List UInt8) (w : World) : Calls Tryz.prog 81 #[.string ⟨x.toArray⟩] w fun e w' => e = .returned (.agg #[.int .i64 19, .string ⟨x.toArray⟩, .int .i64 0]) ∧ w' = w.alloc (.cells #[.int .i64 19, .string ⟨x.toArray⟩, .int .i64 0] 70) := by
  go_enter Tryz.func81, Tryz.ntmps81
  go_wp2_with fail
  exact bodyPost_ret (v := .agg #[.int .i64 19, .string ⟨x.toArray⟩, .int .i64 0]) (by simp [results, Tryz.results81, go_sem]) rfl ⟨rfl, rfl⟩
set_option maxRecDepth 100000 in
theorem Sign7_any (k : Int) (w : World) : Calls Tryz.prog 49 #[.int .i64 k] w fun e w' => e = .returned (.agg #[.int .i64 k, .string ⟨#[]⟩, .int .i64 0]) ∧ w' = w.alloc (.cells #[.int .i64 k, .string ⟨#[]⟩, .int .i64 0] 70) := by
  go_enter Tryz.func49, Tryz.ntmps49
  go_wp2_with fail
  exact bodyPost_ret (v := .agg #[.int .i64 k, .string ⟨#[]⟩, .int .i64 0]) (by simp [results, Tryz.results49, go_sem]) rfl ⟨rfl, rfl⟩
theorem Cur.grown7 {w0 w x : World} {P : Nat} {T : TypeId} {rest : List Value} {l : List Tok} {row : Option Nat} (h : Cur w0 w P T rest l) (hg : w.grownBy x row) (hr : ∀ k, row = some k → P < k) : Cur w0 x P T rest l := by
  have hlt := h.lt
  obtain ⟨a, c, h1, h2⟩ := h.ex
  have h0 := h.base
  exact ⟨⟨a, c, (hg.block P hlt (by intro e; have := hr P e.symm; omega)).trans h1, h2⟩, h.base, h.bel.grown hg h.bel.size (fun k hk => by have := hr k hk; omega)⟩
end Go.Proofs.YtfbfndknhabmhaaGreat

namespace Go.Proofs.YtfbfndknhabmhaaGreat
open Go.RowKit TreN LexP FixP SynP ValP SelP
set_option linter.unusedVariables false

/-- a row of texts -/
def Txs (w : World) (a : Option Addr) (l : List (List UInt8)) : Prop := l = [] ∨ ∃ b o, a = some ⟨b, o, none⟩ ∧ b < w.heap.size ∧ ∀ i (h : i < l.length), w.cell? ⟨b, o + i, none⟩ = some (.string ⟨l[i].toArray⟩)
/-- a row of tests -/
def Tss (w : World) (a : Option Addr) (l : List Tst) : Prop := l = [] ∨ ∃ b o, a = some ⟨b, o, none⟩ ∧ b < w.heap.size ∧ ∀ i (h : i < l.length), w.cell? ⟨b, o + i * 3, none⟩ = some (.string ⟨l[i].name.toArray⟩) ∧ w.cell? ⟨b, o + i * 3 + 1, none⟩ = some (.bool l[i].equal) ∧ w.cell? ⟨b, o + i * 3 + 2, none⟩ = some (.string ⟨l[i].value.toArray⟩)
theorem Txs.below {w w' : World} {a : Option Addr} {l : List (List UInt8)} (h : Txs w a l) (hb : Below w.heap.size w w') : Txs w' a l := by
  rcases h with rfl | ⟨b, o, e, hbs, hc⟩
  · exact Or.inl rfl
  · exact Or.inr ⟨b, o, e, Nat.lt_of_lt_of_le hbs hb.size, fun i hi => (hb.cell (p := ⟨b, o + i, none⟩) hbs).trans (hc i hi)⟩
theorem Tss.below {w w' : World} {a : Option Addr} {l : List Tst} (h : Tss w a l) (hb : Below w.heap.size w w') : Tss w' a l := by
  rcases h with rfl | ⟨b, o, e, hbs, hc⟩
  · exact Or.inl rfl
  · exact Or.inr ⟨b, o, e, Nat.lt_of_lt_of_le hbs hb.size, fun i hi => by
      obtain ⟨h0, h1, h2⟩ := hc i hi
      exact ⟨(hb.cell (p := ⟨b, o + i * 3, none⟩) hbs).trans h0, (hb.cell (p := ⟨b, o + i * 3 + 1, none⟩) hbs).trans h1, (hb.cell (p := ⟨b, o + i * 3 + 2, none⟩) hbs).trans h2⟩⟩
theorem Txs.get {w : World} {a : Option Addr} {l : List (List UInt8)} (h : Txs w a l) {i : Nat} (hi : i < l.length) : ∃ b o, a = some ⟨b, o, none⟩ ∧ b < w.heap.size ∧ w.cell? ⟨b, o + i, none⟩ = some (.string ⟨l[i].toArray⟩) := by
  rcases h with rfl | ⟨b, o, e, hbs, hc⟩
  · simp at hi
  · exact ⟨b, o, e, hbs, hc i hi⟩
theorem Tss.get {w : World} {a : Option Addr} {l : List Tst} (h : Tss w a l) {i : Nat} (hi : i < l.length) : ∃ b o, a = some ⟨b, o, none⟩ ∧ b < w.heap.size ∧ w.cell? ⟨b, o + i * 3, none⟩ = some (.string ⟨l[i].name.toArray⟩) ∧ w.cell? ⟨b, o + i * 3 + 1, none⟩ = some (.bool l[i].equal) ∧ w.cell? ⟨b, o + i * 3 + 2, none⟩ = some (.string ⟨l[i].value.toArray⟩) := by
  rcases h with rfl | ⟨b, o, e, hbs, hc⟩
  · simp at hi
  · exact ⟨b, o, e, hbs, hc i hi⟩
def TstOk (t : Tst) : Prop := t.name.length ≤ maxLen ∧ t.value.length ≤ maxLen
/-- a part, and where its rows lie -/
structure PtV where
  p : Prt
  ca : Option Addr
  cc : Nat
  ta : Option Addr
  tc : Nat
def PtV.cells (x : PtV) : List Value := [.int .i64 x.p.comb, .string ⟨x.p.tag.toArray⟩, .string ⟨x.p.id.toArray⟩, .slice x.ca x.p.classes.length x.cc, .slice x.ta x.p.tests.length x.tc, .int .i64 x.p.states]
structure PtOk (w : World) (x : PtV) : Prop where
  hcc : x.p.classes.length ≤ x.cc
  hcm : x.cc ≤ maxLen
  htc : x.p.tests.length ≤ x.tc
  htm : x.tc ≤ maxLen
  tag : x.p.tag.length ≤ maxLen
  id : x.p.id.length ≤ maxLen
  cls : ∀ c ∈ x.p.classes, c.length ≤ maxLen
  tst : ∀ t ∈ x.p.tests, TstOk t
  st : (Lit.int .i64 x.p.states).wf = true
  hc : Txs w x.ca x.p.classes
  ht : Tss w x.ta x.p.tests
theorem PtOk.below {w w' : World} {x : PtV} (h : PtOk w x) (hb : Below w.heap.size w w') : PtOk w' x := ⟨h.hcc, h.hcm, h.htc, h.htm, h.tag, h.id, h.cls, h.tst, h.st, h.hc.below hb, h.ht.below hb⟩
/-- a row of parts -/
def Pts (w : World) (a : Option Addr) (l : List PtV) : Prop := l = [] ∨ ∃ b o, a = some ⟨b, o, none⟩ ∧ b < w.heap.size ∧ ∀ i (h : i < l.length), (∀ j, j < 6 → w.cell? ⟨b, o + i * 6 + j, none⟩ = l[i].cells[j]?) ∧ PtOk w l[i]
theorem Pts.below {w w' : World} {a : Option Addr} {l : List PtV} (h : Pts w a l) (hb : Below w.heap.size w w') : Pts w' a l := by
  rcases h with rfl | ⟨b, o, e, hbs, hc⟩
  · exact Or.inl rfl
  · exact Or.inr ⟨b, o, e, Nat.lt_of_lt_of_le hbs hb.size, fun i hi => by
      obtain ⟨h0, h1⟩ := hc i hi
      exact ⟨fun j hj => (hb.cell (p := ⟨b, o + i * 6 + j, none⟩) hbs).trans (h0 j hj), h1.below hb⟩⟩
/-- a part's six cells -/
def PtAt (w : World) (b o : Nat) (x : PtV) : Prop := w.cell? ⟨b, o, none⟩ = some (.int .i64 x.p.comb) ∧ w.cell? ⟨b, o + 1, none⟩ = some (.string ⟨x.p.tag.toArray⟩) ∧ w.cell? ⟨b, o + 2, none⟩ = some (.string ⟨x.p.id.toArray⟩) ∧ w.cell? ⟨b, o + 3, none⟩ = some (.slice x.ca x.p.classes.length x.cc) ∧ w.cell? ⟨b, o + 4, none⟩ = some (.slice x.ta x.p.tests.length x.tc) ∧ w.cell? ⟨b, o + 5, none⟩ = some (.int .i64 x.p.states)
theorem Pts.get {w : World} {a : Option Addr} {l : List PtV} (h : Pts w a l) {i : Nat} (hi : i < l.length) : ∃ b o, a = some ⟨b, o, none⟩ ∧ b < w.heap.size ∧ PtAt w b (o + i * 6) l[i] ∧ PtOk w l[i] := by
  rcases h with rfl | ⟨b, o, e, hbs, hc⟩
  · simp at hi
  · obtain ⟨h0, h1⟩ := hc i hi
    exact ⟨b, o, e, hbs, ⟨h0 0 (by omega), h0 1 (by omega), h0 2 (by omega), h0 3 (by omega), h0 4 (by omega), h0 5 (by omega)⟩, h1⟩
theorem PtAt.below {w w' : World} {b o : Nat} {x : PtV} (h : PtAt w b o x) (hb : Below w.heap.size w w') (hbs : b < w.heap.size) : PtAt w' b o x := by
  obtain ⟨h0, h1, h2, h3, h4, h5⟩ := h
  exact ⟨(hb.cell (p := ⟨b, o, none⟩) hbs).trans h0, (hb.cell (p := ⟨b, o + 1, none⟩) hbs).trans h1, (hb.cell (p := ⟨b, o + 2, none⟩) hbs).trans h2, (hb.cell (p := ⟨b, o + 3, none⟩) hbs).trans h3, (hb.cell (p := ⟨b, o + 4, none⟩) hbs).trans h4, (hb.cell (p := ⟨b, o + 5, none⟩) hbs).trans h5⟩
/-- a selector: where its parts lie -/
structure SelV where
  ps : List PtV
  a : Option Addr
  c : Nat
def SelV.val (s : SelV) : Value := .slice s.a s.ps.length s.c
def SelV.pure (s : SelV) : List Prt := s.ps.map PtV.p
structure SelOk (w : World) (s : SelV) : Prop where
  len : s.ps.length ≤ s.c
  cap : s.c ≤ maxLen
  pts : Pts w s.a s.ps
theorem SelOk.below {w w' : World} {s : SelV} (h : SelOk w s) (hb : Below w.heap.size w w') : SelOk w' s := ⟨h.len, h.cap, h.pts.below hb⟩
/-- a row of selectors -/
def Sls (w : World) (a : Option Addr) (l : List SelV) : Prop := l = [] ∨ ∃ b o, a = some ⟨b, o, none⟩ ∧ b < w.heap.size ∧ ∀ i (h : i < l.length), w.cell? ⟨b, o + i, none⟩ = some l[i].val ∧ SelOk w l[i]
theorem Sls.below {w w' : World} {a : Option Addr} {l : List SelV} (h : Sls w a l) (hb : Below w.heap.size w w') : Sls w' a l := by
  rcases h with rfl | ⟨b, o, e, hbs, hc⟩
  · exact Or.inl rfl
  · exact Or.inr ⟨b, o, e, Nat.lt_of_lt_of_le hbs hb.size, fun i hi => by
      obtain ⟨h0, h1⟩ := hc i hi
      exact ⟨(hb.cell (p := ⟨b, o + i, none⟩) hbs).trans h0, h1.below hb⟩⟩
theorem Sls.get {w : World} {a : Option Addr} {l : List SelV} (h : Sls w a l) {i : Nat} (hi : i < l.length) : ∃ b o, a = some ⟨b, o, none⟩ ∧ b < w.heap.size ∧ w.cell? ⟨b, o + i, none⟩ = some l[i].val ∧ SelOk w l[i] := by
  rcases h with rfl | ⟨b, o, e, hbs, hc⟩
  · simp at hi
  · obtain ⟨h0, h1⟩ := hc i hi
    exact ⟨b, o, e, hbs, h0, h1⟩

section
variable {H : Type} {enc : TypeId × Value → H} {w : World}
theorem cells_str7 : Tryz.prog.cellsOf 9 = 1 := by kernel_rfl
theorem cells_int7 : Tryz.prog.cellsOf 3 = 1 := by kernel_rfl
theorem cells_bool7 : Tryz.prog.cellsOf 4 = 1 := by kernel_rfl
theorem cells_strs7 : Tryz.prog.cellsOf 33 = 1 := by kernel_rfl
theorem cells_tests7 : Tryz.prog.cellsOf 34 = 1 := by kernel_rfl
theorem cells_test7 : Tryz.prog.cellsOf 57 = 3 := by kernel_rfl
theorem cells_part7 : Tryz.prog.cellsOf 36 = 6 := by kernel_rfl
theorem cells_parts7 : Tryz.prog.cellsOf 22 = 1 := by kernel_rfl
theorem cells_sel7 : Tryz.prog.cellsOf 24 = 1 := by kernel_rfl
theorem plain7 {a : Addr} {v : Value} (h : w.cell? (a.add 0) = some v) : ∃ b off, a = ⟨b, off, none⟩ ∧ b < w.heap.size := by
  obtain ⟨b, off, spot⟩ := a
  have hspot : spot = none := by simpa [Addr.add] using World.cell?_spot h
  subst hspot
  have hl := World.block_lt_of_cell? w _ h
  rw [Go.WideShapes.add_plain] at hl
  exact ⟨b, off, rfl, hl⟩
theorem text7 (s : ByteArray) : (⟨s.data.toList.toArray⟩ : ByteArray) = s := by cases s; simp
set_option maxRecDepth 100000 in
theorem open_txs {fuel : Nat} {c : Value} {x : DataW H × List MemPlace} (h : DataW.trod enc Tryz.prog w 0 (fun _ => true) true fuel 33 [c] = some x) :
    ∃ a cap, ∃ l : List (List UInt8), c = .slice a l.length cap ∧ l.length ≤ cap ∧ cap ≤ maxLen ∧ Txs w a l ∧ ∀ s ∈ l, s.length ≤ maxLen := by
  rcases Go.ChangeShapes.open_strings Tryz.underlying33 Tryz.underlying9 cells_str7 h with ⟨hc, _⟩ | ⟨a, len, cap, ss, hc, _, hl, hm, hs, _, hcell, hsz⟩
  · injection hc with hc
    exact ⟨none, 0, [], hc, Nat.le_refl _, Nat.zero_le _, Or.inl rfl, fun t ht => by cases ht⟩
  · injection hc with hc
    simp only [if_true] at hs
    have hlen : ((ss.take len).map fun s => s.data.toList).length = len := by rw [List.length_map, List.length_take]; omega
    refine ⟨some a, cap, (ss.take len).map fun s => s.data.toList, by rw [hlen]; exact hc, by rw [hlen]; exact hl, by omega, ?_, fun t ht => ?_⟩
    · by_cases h0 : len = 0
      · left; exact List.eq_nil_of_length_eq_zero (by omega)
      · obtain ⟨b, off, rfl, hb⟩ := plain7 (hcell 0 (by omega))
        refine Or.inr ⟨b, off, rfl, hb, fun i hi => ?_⟩
        have hi2 : i < len := by rw [hlen] at hi; exact hi
        have hi' : i < ss.length := by omega
        have := hcell i hi'
        rw [Go.WideShapes.add_plain] at this
        rw [this, List.getElem_map, text7, List.getElem_take, List.getD_eq_getElem?_getD, List.getElem?_eq_getElem hi']
        rfl
    · obtain ⟨s, hs2, rfl⟩ := List.mem_map.1 ht
      have := hsz s (List.mem_of_mem_take hs2)
      simpa using this
end
end Go.Proofs.YtfbfndknhabmhaaGreat

namespace Go.Proofs.YtfbfndknhabmhaaGreat
open Go.ChangeShapes Go.WideShapes Go.ChangeAt Go.RowKit TreN LexP FixP SynP ValP SelP
set_option linter.unusedVariables false
section
variable {H : Type} {enc : TypeId × Value → H} {w : World}
set_option maxRecDepth 100000 in
theorem open_tst {fuel : Nat} {cs : List Value} {x : DataW H × List MemPlace} (h : DataW.trod enc Tryz.prog w 0 (fun _ => true) true fuel 57 cs = some x) :
    ∃ t : Tst, cs = [.string ⟨t.name.toArray⟩, .bool t.equal, .string ⟨t.value.toArray⟩] ∧ TstOk t := by
  obtain ⟨xs, n', _, _, hcl, hx, hf⟩ := DataW.trod_struct Tryz.underlying57 h
  rw [cells_test7] at hcl
  match cs, hcl with
  | [c0, c1, c2], _ =>
    match xs, hx with
    | [y0, y1, y2], _ =>
      have g0 : DataW.trod enc Tryz.prog w 0 (fun _ => true) true n' 9 [c0] = some y0 := by
        have g := hf 0 _ rfl
        simpa [cells_str7] using g
      have g1 : DataW.trod enc Tryz.prog w 0 (fun _ => true) true n' 4 [c1] = some y1 := by
        have g := hf 1 _ rfl
        simpa [cells_str7, cells_bool7] using g
      have g2 : DataW.trod enc Tryz.prog w 0 (fun _ => true) true n' 9 [c2] = some y2 := by
        have g := hf 2 _ rfl
        simpa [cells_str7, cells_bool7] using g
      obtain ⟨s, hs, _, hsz⟩ := DataW.trod_string Tryz.underlying9 g0
      obtain ⟨b, hb, _⟩ := DataW.trod_bool Tryz.underlying4 g1
      obtain ⟨z, hz, _, hzz⟩ := DataW.trod_string Tryz.underlying9 g2
      injection hs with hs
      injection hb with hb
      injection hz with hz
      subst hs; subst hb; subst hz
      exact ⟨⟨s.data.toList, b, z.data.toList⟩, by simp only [text7], by show s.data.toList.length ≤ maxLen; simpa using hsz, by show z.data.toList.length ≤ maxLen; simpa using hzz⟩
set_option maxRecDepth 100000 in
theorem open_tss {fuel : Nat} {c : Value} {x : DataW H × List MemPlace} (h : DataW.trod enc Tryz.prog w 0 (fun _ => true) true fuel 34 [c] = some x) :
    ∃ a cap, ∃ l : List Tst, c = .slice a l.length cap ∧ l.length ≤ cap ∧ cap ≤ maxLen ∧ Tss w a l ∧ ∀ t ∈ l, TstOk t := by
  rcases Go.Deep.open_slice Tryz.underlying34 h with ⟨hc, _⟩ | ⟨a, len, cap, m, n, D, Pl, hc, _, hl, hm, hmm, _, hi⟩
  · injection hc with hc
    exact ⟨none, 0, [], hc, Nat.le_refl _, Nat.zero_le _, Or.inl rfl, fun t ht => by cases ht⟩
  · injection hc with hc
    simp only [if_true] at hmm
    rw [cells_test7] at hi
    have each : ∀ i, i < len → ∃ t : Tst, (∀ j, j < 3 → w.cell? (a.add (i * 3 + j)) = ([.string ⟨t.name.toArray⟩, .bool t.equal, .string ⟨t.value.toArray⟩] : List Value)[j]?) ∧ TstOk t := by
      intro i hi1
      obtain ⟨cs', h1, h2⟩ := hi i (by omega)
      obtain ⟨_, _, hat⟩ := World.cells?_some h1
      obtain ⟨t, ht, htl⟩ := open_tst h2
      subst ht
      exact ⟨t, fun j hj => by have := hat j hj; rw [Go.Deep.add_add] at this; exact this, htl⟩
    obtain ⟨f, hf⟩ : ∃ f : Nat → Tst, ∀ i, i < len → (∀ j, j < 3 → w.cell? (a.add (i * 3 + j)) = ([.string ⟨(f i).name.toArray⟩, .bool (f i).equal, .string ⟨(f i).value.toArray⟩] : List Value)[j]?) ∧ TstOk (f i) := by
      refine ⟨fun i => if hi : i < len then Classical.choose (each i hi) else ⟨[], false, []⟩, fun i hi => ?_⟩
      simp only [dif_pos hi]
      exact Classical.choose_spec (each i hi)
    have hlen : ((List.range len).map f).length = len := by simp
    refine ⟨some a, cap, (List.range len).map f, by rw [hlen]; exact hc, by rw [hlen]; exact hl, by omega, ?_, fun t ht => ?_⟩
    · by_cases h0 : len = 0
      · left; rw [h0]; rfl
      · obtain ⟨b, off, rfl, hb⟩ := plain7 (a := a) (by have := (hf 0 (by omega)).1 0 (by omega); rwa [Nat.zero_mul] at this)
        refine Or.inr ⟨b, off, rfl, hb, fun i hi => ?_⟩
        rw [hlen] at hi
        have e : ((List.range len).map f)[i] = f i := by simp
        have k := fun j hj => (hf i hi).1 j hj
        simp only [Go.WideShapes.add_plain, ← Nat.add_assoc] at k
        rw [e]
        exact ⟨k 0 (by omega), k 1 (by omega), k 2 (by omega)⟩
    · obtain ⟨i, hi, rfl⟩ := List.mem_map.1 ht
      exact (hf i (List.mem_range.1 hi)).2
set_option maxRecDepth 100000 in
/-- a part's six cells -/
theorem open_part {fuel : Nat} {cs : List Value} {x : DataW H × List MemPlace} (h : DataW.trod enc Tryz.prog w 0 (fun _ => true) true fuel 36 cs = some x) :
    ∃ y : PtV, cs = y.cells ∧ PtOk w y := by
  obtain ⟨xs, n', _, _, hcl, hx, hf⟩ := DataW.trod_struct Tryz.underlying36 h
  rw [cells_part7] at hcl
  match cs, hcl with
  | [c0, c1, c2, c3, c4, c5], _ =>
    match xs, hx with
    | [y0, y1, y2, y3, y4, y5], _ =>
      have g0 : DataW.trod enc Tryz.prog w 0 (fun _ => true) true n' 3 [c0] = some y0 := by
        have g := hf 0 _ rfl
        simpa [cells_int7] using g
      have g1 : DataW.trod enc Tryz.prog w 0 (fun _ => true) true n' 9 [c1] = some y1 := by
        have g := hf 1 _ rfl
        simpa [cells_int7, cells_str7] using g
      have g2 : DataW.trod enc Tryz.prog w 0 (fun _ => true) true n' 9 [c2] = some y2 := by
        have g := hf 2 _ rfl
        simpa [cells_int7, cells_str7] using g
      have g3 : DataW.trod enc Tryz.prog w 0 (fun _ => true) true n' 33 [c3] = some y3 := by
        have g := hf 3 _ rfl
        simpa [cells_int7, cells_str7, cells_strs7] using g
      have g4 : DataW.trod enc Tryz.prog w 0 (fun _ => true) true n' 34 [c4] = some y4 := by
        have g := hf 4 _ rfl
        simpa [cells_int7, cells_str7, cells_strs7, cells_tests7] using g
      have g5 : DataW.trod enc Tryz.prog w 0 (fun _ => true) true n' 3 [c5] = some y5 := by
        have g := hf 5 _ rfl
        simpa [cells_int7, cells_str7, cells_strs7, cells_tests7] using g
      obtain ⟨p, hp, _, _⟩ := DataW.trod_int Tryz.underlying3 g0
      obtain ⟨s1, hs1, _, z1⟩ := DataW.trod_string Tryz.underlying9 g1
      obtain ⟨s2, hs2, _, z2⟩ := DataW.trod_string Tryz.underlying9 g2
      obtain ⟨ca, cc, cl, e3, l3, m3, t3, k3⟩ := open_txs g3
      obtain ⟨ta, tc, tl, e4, l4, m4, t4, k4⟩ := open_tss g4
      obtain ⟨q, hq, _, wq⟩ := DataW.trod_int Tryz.underlying3 g5
      injection hp with hp
      injection hs1 with hs1
      injection hs2 with hs2
      injection hq with hq
      subst hp; subst hs1; subst hs2; subst e3; subst e4; subst hq
      exact ⟨⟨⟨p, s1.data.toList, s2.data.toList, cl, tl, q⟩, ca, cc, ta, tc⟩, by simp only [PtV.cells, text7], ⟨l3, m3, l4, m4, by show s1.data.toList.length ≤ maxLen; simpa using z1, by show s2.data.toList.length ≤ maxLen; simpa using z2, k3, k4, wq, t3, t4⟩⟩
set_option maxRecDepth 100000 in
theorem open_pts {fuel : Nat} {c : Value} {x : DataW H × List MemPlace} (h : DataW.trod enc Tryz.prog w 0 (fun _ => true) true fuel 22 [c] = some x) :
    ∃ s : SelV, c = s.val ∧ SelOk w s := by
  rcases Go.Deep.open_slice Tryz.underlying22 h with ⟨hc, _⟩ | ⟨a, len, cap, m, n, D, Pl, hc, _, hl, hm, hmm, _, hi⟩
  · injection hc with hc
    exact ⟨⟨[], none, 0⟩, hc, Nat.le_refl _, Nat.zero_le _, Or.inl rfl⟩
  · injection hc with hc
    simp only [if_true] at hmm
    rw [cells_part7] at hi
    have each : ∀ i, i < len → ∃ t : PtV, (∀ j, j < 6 → w.cell? (a.add (i * 6 + j)) = t.cells[j]?) ∧ PtOk w t := by
      intro i hi1
      obtain ⟨cs', h1, h2⟩ := hi i (by omega)
      obtain ⟨_, _, hat⟩ := World.cells?_some h1
      obtain ⟨t, ht, htl⟩ := open_part h2
      subst ht
      exact ⟨t, fun j hj => by have := hat j hj; rw [Go.Deep.add_add] at this; exact this, htl⟩
    obtain ⟨f, hf⟩ : ∃ f : Nat → PtV, ∀ i, i < len → (∀ j, j < 6 → w.cell? (a.add (i * 6 + j)) = (f i).cells[j]?) ∧ PtOk w (f i) := by
      refine ⟨fun i => if hi : i < len then Classical.choose (each i hi) else ⟨⟨0, [], [], [], [], 0⟩, none, 0, none, 0⟩, fun i hi => ?_⟩
      simp only [dif_pos hi]
      exact Classical.choose_spec (each i hi)
    have hlen : ((List.range len).map f).length = len := by simp
    refine ⟨⟨(List.range len).map f, some a, cap⟩, by simp only [SelV.val, hlen]; exact hc, by simp only [hlen]; exact hl, by show cap ≤ maxLen; omega, ?_⟩
    by_cases h0 : len = 0
    · left; rw [h0]; rfl
    · obtain ⟨b, off, rfl, hb⟩ := plain7 (a := a) (v := .int .i64 (f 0).p.comb) (by have := (hf 0 (by omega)).1 0 (by omega); rwa [Nat.zero_mul] at this)
      refine Or.inr ⟨b, off, rfl, hb, fun i hi => ?_⟩
      rw [hlen] at hi
      have e : ((List.range len).map f)[i] = f i := by simp
      rw [e]
      refine ⟨fun j hj => ?_, (hf i hi).2⟩
      have k := (hf i hi).1 j hj
      rw [Go.WideShapes.add_plain, ← Nat.add_assoc] at k
      exact k
set_option maxRecDepth 100000 in
theorem open_selc {fuel : Nat} {cs : List Value} {x : DataW H × List MemPlace} (h : DataW.trod enc Tryz.prog w 0 (fun _ => true) true fuel 24 cs = some x) :
    ∃ s : SelV, cs = [s.val] ∧ SelOk w s := by
  obtain ⟨xs, n', _, _, hcl, hx, hf⟩ := DataW.trod_struct Tryz.underlying24 h
  rw [cells_sel7] at hcl
  match cs, hcl with
  | [c0], _ =>
    match xs, hx with
    | [y0], _ =>
      have g0 : DataW.trod enc Tryz.prog w 0 (fun _ => true) true n' 22 [c0] = some y0 := by
        have g := hf 0 _ rfl
        simpa [cells_parts7] using g
      obtain ⟨s, rfl, hs⟩ := open_pts g0
      exact ⟨s, rfl, hs⟩
set_option maxRecDepth 100000 in
theorem open_selV {r : Reach} {b0 : Nat} {v : Value} {d : DataW H} {ps : List MemPlace} (hv : Value.okWide Tryz.prog w r b0 24 v) (h : DataW.Trod enc Tryz.prog w 0 (fun _ => true) true 24 v d ps) : ∃ s : SelV, v = .agg #[s.val] ∧ SelOk w s := by
  simp only [Value.okWide, Tryz.underlying24] at hv
  obtain ⟨cs, rfl, _, _⟩ := hv
  obtain ⟨fuel, hf⟩ := h
  obtain ⟨s, hs, hok⟩ := open_selc hf
  refine ⟨s, ?_, hok⟩
  obtain ⟨l⟩ := cs
  simp only [Value.cells] at hs
  subst hs
  rfl
set_option maxRecDepth 100000 in
theorem open_sels {fuel : Nat} {c : Value} {x : DataW H × List MemPlace} (h : DataW.trod enc Tryz.prog w 0 (fun _ => true) true fuel 28 [c] = some x) :
    ∃ a cap, ∃ l : List SelV, c = .slice a l.length cap ∧ l.length ≤ cap ∧ cap ≤ maxLen ∧ Sls w a l := by
  rcases Go.Deep.open_slice Tryz.underlying28 h with ⟨hc, _⟩ | ⟨a, len, cap, m, n, D, Pl, hc, _, hl, hm, hmm, _, hi⟩
  · injection hc with hc
    exact ⟨none, 0, [], hc, Nat.le_refl _, Nat.zero_le _, Or.inl rfl⟩
  · injection hc with hc
    simp only [if_true] at hmm
    rw [cells_sel7] at hi
    have each : ∀ i, i < len → ∃ t : SelV, w.cell? (a.add i) = some t.val ∧ SelOk w t := by
      intro i hi1
      obtain ⟨cs', h1, h2⟩ := hi i (by omega)
      obtain ⟨_, _, hat⟩ := World.cells?_some h1
      obtain ⟨t, ht, htl⟩ := open_selc h2
      subst ht
      exact ⟨t, by have := hat 0 (by omega); rw [Go.Deep.add_add, Nat.mul_one, Nat.add_zero] at this; exact this, htl⟩
    obtain ⟨f, hf⟩ : ∃ f : Nat → SelV, ∀ i, i < len → w.cell? (a.add i) = some (f i).val ∧ SelOk w (f i) := by
      refine ⟨fun i => if hi : i < len then Classical.choose (each i hi) else ⟨[], none, 0⟩, fun i hi => ?_⟩
      simp only [dif_pos hi]
      exact Classical.choose_spec (each i hi)
    have hlen : ((List.range len).map f).length = len := by simp
    refine ⟨some a, cap, (List.range len).map f, by rw [hlen]; exact hc, by rw [hlen]; exact hl, by omega, ?_⟩
    by_cases h0 : len = 0
    · left; rw [h0]; rfl
    · obtain ⟨b, off, rfl, hb⟩ := plain7 (a := a) (hf 0 (by omega)).1
      refine Or.inr ⟨b, off, rfl, hb, fun i hi => ?_⟩
      rw [hlen] at hi
      have e : ((List.range len).map f)[i] = f i := by simp
      obtain ⟨k1, k2⟩ := hf i hi
      rw [Go.WideShapes.add_plain] at k1
      rw [e]
      exact ⟨k1, k2⟩
end
end Go.Proofs.YtfbfndknhabmhaaGreat
