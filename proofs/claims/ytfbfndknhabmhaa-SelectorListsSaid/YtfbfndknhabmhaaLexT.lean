/- Rows of tokens. -/
import Derived.Test.YtfbfndknhabmhaaLexJ6
import Derived.OwnWalk
import Derived.Deep.AppendLies
namespace Go.Proofs.Ytfbfndknhabmhaa
open Go.RowKit TreN LexP FixP

/-- the cells of tokens -/
def tkcs : List Tok → List Value
  | [] => []
  | t :: l => .int .i64 t.kind :: .string ⟨t.text.toArray⟩ :: .int .i64 t.n :: tkcs l
theorem tkcs_length : ∀ l, (tkcs l).length = l.length * 3
  | [] => rfl
  | t :: l => by simp only [tkcs, List.length_cons, tkcs_length l]; omega
theorem tkcs_append : ∀ l m, tkcs (l ++ m) = tkcs l ++ tkcs m
  | [], m => rfl
  | t :: l, m => by simp only [List.cons_append, tkcs, tkcs_append l m]
theorem tkcs_get : ∀ (l : List Tok) (i : Nat) (h : i < l.length), (tkcs l)[i * 3]? = some (.int .i64 l[i].kind) ∧ (tkcs l)[i * 3 + 1]? = some (.string ⟨l[i].text.toArray⟩) ∧ (tkcs l)[i * 3 + 2]? = some (.int .i64 l[i].n)
  | t :: l, 0, h => ⟨rfl, rfl, rfl⟩
  | t :: l, i + 1, h => by
    have := tkcs_get l i (by simpa using h)
    have e1 : (i + 1) * 3 = i * 3 + 3 := by omega
    rw [e1]
    exact this
theorem tkcs_one : ∀ (l : List Tok) (v : Value), v ∈ tkcs l → v.oneCell' = true
  | [], v, h => by cases h
  | t :: l, v, h => by
    simp only [tkcs, List.mem_cons] at h
    rcases h with rfl | rfl | rfl | h
    · rfl
    · rfl
    · rfl
    · exact tkcs_one l v h

/-- a token lies there -/
structure TkAt (w : World) (b o : Nat) (t : Tok) : Prop where
  kind : w.cell? ⟨b, o, none⟩ = some (.int .i64 t.kind)
  text : w.cell? ⟨b, o + 1, none⟩ = some (.string ⟨t.text.toArray⟩)
  n : w.cell? ⟨b, o + 2, none⟩ = some (.int .i64 t.n)
/-- tokens lie there, one behind the other -/
def TksAt (w : World) (b o : Nat) (l : List Tok) : Prop := ∀ i (h : i < l.length), TkAt w b (o + i * 3) l[i]
def Tks (w : World) (a : Option Addr) (l : List Tok) : Prop := l = [] ∨ ∃ b o, a = some ⟨b, o, none⟩ ∧ b < w.heap.size ∧ TksAt w b o l
theorem TkAt.below {w w' : World} {b o : Nat} {t : Tok} {B : Nat} (h : TkAt w b o t) (hb : Below B w w') (hB : b < B) : TkAt w' b o t :=
  ⟨(hb.cell (p := ⟨b, o, none⟩) hB).trans h.kind, (hb.cell (p := ⟨b, o + 1, none⟩) hB).trans h.text, (hb.cell (p := ⟨b, o + 2, none⟩) hB).trans h.n⟩
theorem TksAt.below {w w' : World} {b o : Nat} {l : List Tok} {B : Nat} (h : TksAt w b o l) (hb : Below B w w') (hB : b < B) : TksAt w' b o l := fun i hi => (h i hi).below hb hB
theorem Tks.below {w w' : World} {a : Option Addr} {l : List Tok} (h : Tks w a l) (hb : Below w.heap.size w w') : Tks w' a l := by
  rcases h with h | ⟨b, o, h1, h2, h3⟩
  · exact Or.inl h
  · exact Or.inr ⟨b, o, h1, Nat.lt_of_lt_of_le h2 hb.size, h3.below hb h2⟩
theorem ownsRow_below {w w' : World} {base : Nat} {e : TypeId} {size : Nat} {v : Value} {n : Nat} {xs : List Value} (h : w.ownsRow base e size v n xs) (hb : Below w.heap.size w w') : w'.ownsRow base e size v n xs := by
  obtain ⟨h1, h2⟩ := h
  refine ⟨h1, ?_⟩
  rcases h2 with h2 | ⟨g, cap, cur, hv, hg, hh, r⟩
  · exact Or.inl h2
  · refine Or.inr ⟨g, cap, cur, hv, hg, ?_, r⟩
    have hlt : g < w.heap.size := by
      by_cases q : g < w.heap.size
      · exact q
      · rw [Array.getElem?_eq_none (by omega)] at hh; cases hh
    rw [hb.block g hlt]; exact hh
theorem ownsRow_setBelow {w : World} {base : Nat} {e : TypeId} {size : Nat} {v : Value} {n : Nat} {xs : List Value} (h : w.ownsRow base e size v n xs) {b k : Nat} (hb : b < base) (u : Value) : (w.setCell ⟨b, k, none⟩ u).ownsRow base e size v n xs :=
  ownsRow_setCell_below h (a := ⟨b, k, none⟩) hb u
theorem Tks_own {w : World} {base : Nat} {e : TypeId} {v : Value} {l : List Tok} (h : w.ownsRow base e 3 v l.length (tkcs l)) : ∃ a cap, v = .slice a l.length cap ∧ Tks w a l := by
  by_cases h0 : l.length = 0
  · rcases h.2 with ⟨hv, _⟩ | ⟨g, cap, cur, hv, _⟩
    · exact ⟨none, 0, by rw [hv, h0], Or.inl (List.eq_nil_of_length_eq_zero h0)⟩
    · exact ⟨_, cap, hv, Or.inl (List.eq_nil_of_length_eq_zero h0)⟩
  · obtain ⟨g, cap, rfl, hg, hgl⟩ := h.form (by omega)
    refine ⟨_, cap, rfl, Or.inr ⟨g, 0, rfl, hgl, fun i hi => ?_⟩⟩
    obtain ⟨k1, k2, k3⟩ := tkcs_get l i hi
    refine ⟨?_, ?_, ?_⟩
    · rw [h.cellAt (0 + i * 3) (by omega), Nat.zero_add, k1]
    · rw [h.cellAt (0 + i * 3 + 1) (by omega), Nat.zero_add, k2]
    · rw [h.cellAt (0 + i * 3 + 2) (by omega), Nat.zero_add, k3]
set_option maxRecDepth 100000 in
theorem info_token : (Try.prog.info? 45).map (fun i => (i.zero, i.size, i.bytes)) = some (some (.agg #[.int .i64 0, .string ⟨#[]⟩, .int .i64 0]), 3, 32) := by kernel_rfl
theorem und_tokens : Try.prog.underlying 24 = some (.slice 45) := by kernel_rfl
end Go.Proofs.Ytfbfndknhabmhaa
