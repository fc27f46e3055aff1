/- Joined texts: LexJa LexJ5 LexJ6 LexT LexW9 LexW10. -/
import Derived.Test.YthfabalnioggcaaLexWb
import Derived.Test.YthfabalnioggcaaMem
import Derived.WalkMore
import Derived.OwnWalk
import Derived.Deep.AppendLies
namespace Go.Proofs.Ythfabalnioggcaa
open Go.RowKit TreN LexP FixP

/-- the tokens, told one by one till one is enough -/
def runT {σ : Type} (stp : σ → Tok → σ) (cont : σ → Tok → Bool) : σ → List Tok → σ
  | st, [] => st
  | st, t :: l => if cont st t = true then runT stp cont (stp st t) l else stp st t

/-- a frame of cut -/
structure Fr (s : ByteArray) (tk : Value) (T : Nat) (F : Value) (p : Nat) (a : Act) : Prop where
  defers : a.defers = []
  size : a.tmps.size = 132
  h0 : a.tmps.getD 0 undef = .string s
  h1 : a.tmps.getD 1 undef = tk
  h4 : a.tmps.getD 4 undef = .pointer (some ⟨T, 0, none⟩)
  h5 : a.tmps.getD 5 undef = F
  h6 : a.tmps.getD 6 undef = .int .i64 (p : Int)
set_option maxRecDepth 100000 in
theorem list_132 (f : Nat → Value) : (List.range 132).map f = [f 0, f 1, f 2, f 3, f 4, f 5, f 6, f 7, f 8, f 9, f 10, f 11, f 12, f 13, f 14, f 15, f 16, f 17, f 18, f 19, f 20, f 21, f 22, f 23, f 24, f 25, f 26, f 27, f 28, f 29, f 30, f 31, f 32, f 33, f 34, f 35, f 36, f 37, f 38, f 39, f 40, f 41, f 42, f 43, f 44, f 45, f 46, f 47, f 48, f 49, f 50, f 51, f 52, f 53, f 54, f 55, f 56, f 57, f 58, f 59, f 60, f 61, f 62, f 63, f 64, f 65, f 66, f 67, f 68, f 69, f 70, f 71, f 72, f 73, f 74, f 75, f 76, f 77, f 78, f 79, f 80, f 81, f 82, f 83, f 84, f 85, f 86, f 87, f 88, f 89, f 90, f 91, f 92, f 93, f 94, f 95, f 96, f 97, f 98, f 99, f 100, f 101, f 102, f 103, f 104, f 105, f 106, f 107, f 108, f 109, f 110, f 111, f 112, f 113, f 114, f 115, f 116, f 117, f 118, f 119, f 120, f 121, f 122, f 123, f 124, f 125, f 126, f 127, f 128, f 129, f 130, f 131] := rfl
theorem arr_132 (x : Array Value) (h : x.size = 132) : x = ((List.range 132).map (fun i => x.getD i undef)).toArray := by
  apply Array.ext'
  apply List.ext_getElem
  · simp [h]
  · intro i h1 h2
    have h3 : i < x.size := by simpa using h1
    simp [Array.getD, h3]
set_option maxRecDepth 100000 in
theorem Fr.form {s : ByteArray} {tk : Value} {T : Nat} {F : Value} {p : Nat} {a : Act} (h : Fr s tk T F p a) : ∃ u : Nat → Value, a = { tmps := #[.string s, tk, u 2, u 3, .pointer (some ⟨T, 0, none⟩), F, .int .i64 (p : Int), u 7, u 8, u 9, u 10, u 11, u 12, u 13, u 14, u 15, u 16, u 17, u 18, u 19, u 20, u 21, u 22, u 23, u 24, u 25, u 26, u 27, u 28, u 29, u 30, u 31, u 32, u 33, u 34, u 35, u 36, u 37, u 38, u 39, u 40, u 41, u 42, u 43, u 44, u 45, u 46, u 47, u 48, u 49, u 50, u 51, u 52, u 53, u 54, u 55, u 56, u 57, u 58, u 59, u 60, u 61, u 62, u 63, u 64, u 65, u 66, u 67, u 68, u 69, u 70, u 71, u 72, u 73, u 74, u 75, u 76, u 77, u 78, u 79, u 80, u 81, u 82, u 83, u 84, u 85, u 86, u 87, u 88, u 89, u 90, u 91, u 92, u 93, u 94, u 95, u 96, u 97, u 98, u 99, u 100, u 101, u 102, u 103, u 104, u 105, u 106, u 107, u 108, u 109, u 110, u 111, u 112, u 113, u 114, u 115, u 116, u 117, u 118, u 119, u 120, u 121, u 122, u 123, u 124, u 125, u 126, u 127, u 128, u 129, u 130, u 131], defers := [] } := by
  obtain ⟨x, d⟩ := a
  obtain ⟨h1, h2, k0, k1, k4, k5, k6⟩ := h
  simp only [] at h1 h2 k0 k1 k4 k5 k6
  refine ⟨fun i => x.getD i undef, ?_⟩
  have e := arr_132 x h2
  rw [list_132] at e
  rw [k0, k1, k4, k5, k6] at e
  rw [h1]
  exact congrArg (fun y => ({ tmps := y, defers := [] } : Act)) e

section
variable {σ : Type} (s : ByteArray) (T : Nat) (stp : σ → Tok → σ) (cont : σ → Tok → Bool) (fin : σ)

/-- a token is told, and p is behind it -/
def Told (st : σ) (t : Tok) (p : Nat) : Prop := (if cont st t = true then runT stp cont (stp st t) (cut (s.data.toList.drop p)) else stp st t) = fin
def Rest (st : σ) (p : Nat) : Prop := runT stp cont st (cut (s.data.toList.drop p)) = fin
theorem Rest.told {st : σ} {p n : Nat} {t : Tok} (h : Rest s stp cont fin st p) (ho : one (s.data.toList.drop p) = (some t, n)) : Told s stp cont fin st t (p + n) := by
  unfold Rest at h
  rw [cut_some ho, List.drop_drop] at h
  exact h
theorem Rest.passed {st : σ} {p n : Nat} (h : Rest s stp cont fin st p) (ho : one (s.data.toList.drop p) = (none, n)) : Rest s stp cont fin st (p + n) := by
  unfold Rest at h
  rw [cut_none ho, List.drop_drop] at h
  exact h

def CutM (n : Nat) (l : Nat) (a : Act) (_ : World) : Nat := 16 * (n - (intOf (a.tmps.getD 6 undef)).toNat) + (if l = 0 then 8 else if l = 7 then 9 else 7)
end
end Go.Proofs.Ythfabalnioggcaa

namespace Go.Proofs.Ythfabalnioggcaa
open Go.RowKit TreN LexP FixP

theorem CutM_eq (n l p : Nat) (tmps : Array Value) (d : List _) (w : World) (h : tmps.getD 6 undef = .int .i64 (p : Int)) : CutM n l ⟨tmps, d⟩ w = 16 * (n - p) + (if l = 0 then 8 else if l = 7 then 9 else 7) := by
  unfold CutM
  simp only [h, intOf, Int.toNat_natCast]

end Go.Proofs.Ythfabalnioggcaa

namespace Go.Proofs.Ythfabalnioggcaa
open Go.RowKit TreN LexP FixP

end Go.Proofs.Ythfabalnioggcaa

namespace Go.Proofs.Ythfabalnioggcaa
open Go.RowKit TreN LexP FixP

end Go.Proofs.Ythfabalnioggcaa

namespace Go.Proofs.Ythfabalnioggcaa
open Go.RowKit TreN LexP FixP

theorem ext_one (s : ByteArray) (p : Nat) (h : p < s.size) : s.extract p (p + 1) = ⟨#[s[p]]⟩ := by
  refine ba_ext ?_
  rw [ext_list, List.drop_eq_getElem_cons (by rw [len_data]; exact h)]
  have e : p + 1 - p = 1 := by omega
  rw [e]
  simp [ByteArray.getElem_eq_getElem_data]

end Go.Proofs.Ythfabalnioggcaa

namespace Go.Proofs.Ythfabalnioggcaa
open Go.RowKit TreN LexP FixP

theorem drop_cons (s : ByteArray) (p : Nat) (h : p < s.size) : s.data.toList.drop p = s[p] :: s.data.toList.drop (p + 1) := by
  rw [List.drop_eq_getElem_cons (by rw [len_data]; exact h)]
  simp [ByteArray.getElem_eq_getElem_data]
theorem com_iff (s : ByteArray) (p : Nat) (h : p < s.size) : Lib.hasPrefix (s.extract p s.size).data.toList (ByteArray.mk #[47, 42]).data.toList = decide (s[p].toNat = 47 ∧ (s.data.toList.drop (p + 1)).head? = some 42) := by
  rw [Lib.extract_to_end]
  have e : (ByteArray.mk #[47, 42]).data.toList = [47, 42] := rfl
  rw [e, hasPrefix_2, drop_cons s p h, decide_eq_decide]
  constructor
  · rintro ⟨h1, h2⟩
    injection h1 with h1
    exact ⟨by rw [h1]; rfl, h2⟩
  · rintro ⟨h1, h2⟩
    exact ⟨by rw [show s[p] = 47 from UInt8.toNat_inj.1 h1]; rfl, h2⟩

end Go.Proofs.Ythfabalnioggcaa

namespace Go.Proofs.Ythfabalnioggcaa
open Go.RowKit TreN LexP FixP

theorem jumps_mono {J J' : Nat → Act → World → Prop} {Q : Exit → Act → World → Prop} (h : ∀ l a w, J l a w → J' l a w) : ∀ e a w, jumps J Q e a w → jumps J' Q e a w := by
  intro e a w hj
  cases e with
  | goto l => exact h _ _ _ hj
  | normal => exact hj
  | exit id => exact hj
  | ret => exact hj
  | panic ch => exact hj
  | outgrown => exact hj

end Go.Proofs.Ythfabalnioggcaa

namespace Go.Proofs.Ythfabalnioggcaa
open Go.RowKit TreN LexP FixP

/-- the cells of tokens -/
def tkcs : List Tok → List Value
  | [] => []
  | t :: l => .int .i64 t.kind :: .string ⟨t.text.toArray⟩ :: .int .i64 t.n :: tkcs l
theorem tkcs_length : ∀ l, (tkcs l).length = l.length * 3
  | [] => rfl
  | t :: l => by simp only [tkcs, List.length_cons, tkcs_length l]; omega
theorem tkcs_append : ∀ l m, tkcs (l ++ m) = tkcs l ++ tkcs m
  | [], m => rfl
  | t :: l, m => by simp only [List.cons_append, tkcs, tkcs_append l m]
theorem tkcs_get : ∀ (l : List Tok) (i : Nat) (h : i < l.length), (tkcs l)[i * 3]? = some (.int .i64 l[i].kind) ∧ (tkcs l)[i * 3 + 1]? = some (.string ⟨l[i].text.toArray⟩) ∧ (tkcs l)[i * 3 + 2]? = some (.int .i64 l[i].n)
  | t :: l, 0, h => ⟨rfl, rfl, rfl⟩
  | t :: l, i + 1, h => by
    have := tkcs_get l i (by simpa using h)
    have e1 : (i + 1) * 3 = i * 3 + 3 := by omega
    rw [e1]
    exact this
theorem tkcs_one : ∀ (l : List Tok) (v : Value), v ∈ tkcs l → v.oneCell' = true
  | [], v, h => by cases h
  | t :: l, v, h => by
    simp only [tkcs, List.mem_cons] at h
    rcases h with rfl | rfl | rfl | h
    · rfl
    · rfl
    · rfl
    · exact tkcs_one l v h

/-- a token lies there -/
structure TkAt (w : World) (b o : Nat) (t : Tok) : Prop where
  kind : w.cell? ⟨b, o, none⟩ = some (.int .i64 t.kind)
  text : w.cell? ⟨b, o + 1, none⟩ = some (.string ⟨t.text.toArray⟩)
  n : w.cell? ⟨b, o + 2, none⟩ = some (.int .i64 t.n)
/-- tokens lie there, one behind the other -/
def TksAt (w : World) (b o : Nat) (l : List Tok) : Prop := ∀ i (h : i < l.length), TkAt w b (o + i * 3) l[i]
def Tks (w : World) (a : Option Addr) (l : List Tok) : Prop := l = [] ∨ ∃ b o, a = some ⟨b, o, none⟩ ∧ b < w.heap.size ∧ TksAt w b o l
theorem TkAt.below {w w' : World} {b o : Nat} {t : Tok} {B : Nat} (h : TkAt w b o t) (hb : Below B w w') (hB : b < B) : TkAt w' b o t :=
  ⟨(hb.cell (p := ⟨b, o, none⟩) hB).trans h.kind, (hb.cell (p := ⟨b, o + 1, none⟩) hB).trans h.text, (hb.cell (p := ⟨b, o + 2, none⟩) hB).trans h.n⟩
theorem TksAt.below {w w' : World} {b o : Nat} {l : List Tok} {B : Nat} (h : TksAt w b o l) (hb : Below B w w') (hB : b < B) : TksAt w' b o l := fun i hi => (h i hi).below hb hB
theorem Tks.below {w w' : World} {a : Option Addr} {l : List Tok} (h : Tks w a l) (hb : Below w.heap.size w w') : Tks w' a l := by
  rcases h with h | ⟨b, o, h1, h2, h3⟩
  · exact Or.inl h
  · exact Or.inr ⟨b, o, h1, Nat.lt_of_lt_of_le h2 hb.size, h3.below hb h2⟩
theorem ownsRow_below {w w' : World} {base : Nat} {e : TypeId} {size : Nat} {v : Value} {n : Nat} {xs : List Value} (h : w.ownsRow base e size v n xs) (hb : Below w.heap.size w w') : w'.ownsRow base e size v n xs := by
  obtain ⟨h1, h2⟩ := h
  refine ⟨h1, ?_⟩
  rcases h2 with h2 | ⟨g, cap, cur, hv, hg, hh, r⟩
  · exact Or.inl h2
  · refine Or.inr ⟨g, cap, cur, hv, hg, ?_, r⟩
    have hlt : g < w.heap.size := by
      by_cases q : g < w.heap.size
      · exact q
      · rw [Array.getElem?_eq_none (by omega)] at hh; cases hh
    rw [hb.block g hlt]; exact hh
theorem ownsRow_setBelow {w : World} {base : Nat} {e : TypeId} {size : Nat} {v : Value} {n : Nat} {xs : List Value} (h : w.ownsRow base e size v n xs) {b k : Nat} (hb : b < base) (u : Value) : (w.setCell ⟨b, k, none⟩ u).ownsRow base e size v n xs :=
  ownsRow_setCell_below h (a := ⟨b, k, none⟩) hb u
theorem Tks_own {w : World} {base : Nat} {e : TypeId} {v : Value} {l : List Tok} (h : w.ownsRow base e 3 v l.length (tkcs l)) : ∃ a cap, v = .slice a l.length cap ∧ Tks w a l := by
  by_cases h0 : l.length = 0
  · rcases h.2 with ⟨hv, _⟩ | ⟨g, cap, cur, hv, _⟩
    · exact ⟨none, 0, by rw [hv, h0], Or.inl (List.eq_nil_of_length_eq_zero h0)⟩
    · exact ⟨_, cap, hv, Or.inl (List.eq_nil_of_length_eq_zero h0)⟩
  · obtain ⟨g, cap, rfl, hg, hgl⟩ := h.form (by omega)
    refine ⟨_, cap, rfl, Or.inr ⟨g, 0, rfl, hgl, fun i hi => ?_⟩⟩
    obtain ⟨k1, k2, k3⟩ := tkcs_get l i hi
    refine ⟨?_, ?_, ?_⟩
    · rw [h.cellAt (0 + i * 3) (by omega), Nat.zero_add, k1]
    · rw [h.cellAt (0 + i * 3 + 1) (by omega), Nat.zero_add, k2]
    · rw [h.cellAt (0 + i * 3 + 2) (by omega), Nat.zero_add, k3]
end Go.Proofs.Ythfabalnioggcaa

namespace Go.Proofs.Ythfabalnioggcaa
open Go.RowKit TreN LexP FixP

theorem ownsRow_setNe {w : World} {base : Nat} {e : TypeId} {size : Nat} {v : Value} {n : Nat} {xs : List Value} (h : w.ownsRow base e size v n xs) {b k : Nat} (hb : ∀ g, v.ownBlock = some g → g ≠ b) (u : Value) : (w.setCell ⟨b, k, none⟩ u).ownsRow base e size v n xs := by
  obtain ⟨h1, h2⟩ := h
  refine ⟨h1, ?_⟩
  rcases h2 with h2 | ⟨g, cap, cur, hv, hg, hh, r⟩
  · exact Or.inl h2
  · refine Or.inr ⟨g, cap, cur, hv, hg, ?_, r⟩
    rw [setCell_there _ (hb g (by rw [hv]; rfl))]; exact hh
theorem tkcs_news {W : World} {b : Nat} (l : List Tok) (cur : Array Value) (T : TypeId) (h : W.heap[b]? = some (.cells cur T (0, 0))) (hc : cur.toList = tkcs l) : ∀ (j : Nat) (u : Value), (tkcs l)[j]? = some u → W.cell? ((⟨b, 0, none⟩ : Addr).add j) = some u := by
  intro j u hu
  have ha : (⟨b, 0, none⟩ : Addr).add j = ⟨b, j, none⟩ := by simp [Addr.add]; exact fun h => h.symm
  rw [ha]
  refine cell_of h ?_
  rw [← hc] at hu
  rw [← Array.getElem?_toList]; exact hu

theorem runT_all (l m : List Tok) : runT (fun l t => l ++ [t]) (fun _ _ => true) l m = l ++ m := by
  induction m generalizing l with
  | nil => simp [runT]
  | cons t m ih =>
    show (if true = true then runT _ _ (l ++ [t]) m else l ++ [t]) = _
    rw [if_pos rfl, ih]; simp
theorem cut_texts : ∀ (n : Nat) (l : List UInt8), l.length ≤ n → (cut l).length ≤ l.length ∧ ∀ t ∈ cut l, t.text.length ≤ l.length
  | n, [], _ => by simp [cut_nil]
  | 0, c :: r, h => by simp at h
  | n + 1, c :: r, h => by
    have hb := one_bd c r
    obtain ⟨h1, h2⟩ := cut_texts n ((c :: r).drop (one (c :: r)).2) (by rw [List.length_drop]; omega)
    rw [List.length_drop] at h1 h2
    rw [cut_cons]
    cases ho : (one (c :: r)).1 with
    | none =>
      simp only [Option.toList, List.nil_append]
      exact ⟨by omega, fun t ht => by have := h2 t ht; omega⟩
    | some t0 =>
      simp only [Option.toList, List.singleton_append, List.length_cons]
      simp only [List.length_cons] at hb h1 h2
      refine ⟨by omega, fun t ht => ?_⟩
      rcases List.mem_cons.1 ht with rfl | ht
      · exact one_text c r _ ho
      · have := h2 t ht; omega
end Go.Proofs.Ythfabalnioggcaa

namespace Go.Proofs.Ythfabalnioggcaa
open Go.RowKit TreN LexP FixP

/-- the variable of the library's that a search reads -/
def Has0 (w : World) : Prop := ∃ m : Int, w.cell? ⟨0, 0, none⟩ = some (.int .i64 m)
theorem Has0.below {w w' : World} (h : Has0 w) (hb : Below w.heap.size w w') : Has0 w' := by
  obtain ⟨m, hm⟩ := h
  exact ⟨m, (hb.cell (p := ⟨0, 0, none⟩) (World.block_lt_of_cell? w _ hm)).trans hm⟩

/-- a list of tokens that a call answers -/
def ToldTks (w : World) (l : List Tok) (er : Int) (e : Ending) (w' : World) : Prop := ∃ a cap, e = .returned (.tuple #[.slice a l.length cap, .int .i64 er]) ∧ Tks w' a l ∧ Below w.heap.size w w'

end Go.Proofs.Ythfabalnioggcaa
