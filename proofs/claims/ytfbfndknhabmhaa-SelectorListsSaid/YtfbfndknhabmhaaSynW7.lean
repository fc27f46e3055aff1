/- Layer 6: declarations read one by one. -/
import Derived.Test.YtfbfndknhabmhaaSynW6
import Derived.Outline
import Derived.Deep.RegionLaw
import Derived.Deep.AppendLies
namespace Go.Proofs.Ytfbfndknhabmhaa
open Go.RowKit TreN LexP FixP SynP
set_option linter.unusedVariables false

/-- a declaration in memory -/
structure DecV where
  d : Dec
  a : Option Addr
  cap : Nat
def dcs : List DecV → List Value
  | [] => []
  | x :: r => .string ⟨x.d.name.toArray⟩ :: .slice x.a x.d.value.length x.cap :: .bool x.d.imp :: dcs r
theorem dcs_length : ∀ l, (dcs l).length = l.length * 3
  | [] => rfl
  | x :: l => by simp only [dcs, List.length_cons, dcs_length l]; omega
theorem dcs_append : ∀ l m, dcs (l ++ m) = dcs l ++ dcs m
  | [], m => rfl
  | x :: l, m => by simp only [List.cons_append, dcs, dcs_append l m]
theorem dcs_one : ∀ (l : List DecV) (v : Value), v ∈ dcs l → v.oneCell' = true
  | [], v, h => by cases h
  | x :: l, v, h => by
    simp only [dcs, List.mem_cons] at h
    rcases h with rfl | rfl | rfl | h
    · rfl
    · rfl
    · rfl
    · exact dcs_one l v h
/-- its value lies apart from the row -/
def VIn (w : World) (lo : Nat) (v : Value) (x : DecV) : Prop := x.d.value.length ≤ x.cap ∧ x.cap ≤ maxLen ∧ (x.d.value = [] ∨ ∃ b o, x.a = some ⟨b, o, none⟩ ∧ lo ≤ b ∧ v.ownBlock ≠ some b ∧ b < w.heap.size ∧ TksAt w b o x.d.value)
theorem VIn.tks {w : World} {lo : Nat} {v : Value} {x : DecV} (h : VIn w lo v x) : Tks w x.a x.d.value := by
  rcases h.2.2 with h | ⟨b, o, h1, _, _, h4, h5⟩
  · exact Or.inl h
  · exact Or.inr ⟨b, o, h1, h4, h5⟩
theorem VIn.below {w w' : World} {lo : Nat} {v : Value} {x : DecV} (h : VIn w lo v x) (hb : Below w.heap.size w w') : VIn w' lo v x := by
  obtain ⟨c1, c2, h⟩ := h
  refine ⟨c1, c2, ?_⟩
  rcases h with h | ⟨b, o, h1, h2, h3, h4, h5⟩
  · exact Or.inl h
  · exact Or.inr ⟨b, o, h1, h2, h3, Nat.lt_of_lt_of_le h4 hb.size, h5.below hb h4⟩
theorem VIn.moved {w w' : World} {lo P g : Nat} {v v2 : Value} {x : DecV} {u : Value} (h : VIn w lo v x) (hlo : P < lo) (hg : w.grownBy w' v.ownBlock) (hv : v2.ownBlock = some g) (hgn : v.ownBlock = some g ∨ w.heap.size ≤ g) : VIn (w'.setCell ⟨P, 0, none⟩ u) lo v2 x := by
  obtain ⟨c1, c2, h⟩ := h
  refine ⟨c1, c2, ?_⟩
  rcases h with h | ⟨b, o, h1, h2, h3, h4, h5⟩
  · exact Or.inl h
  · have hne : g ≠ b := by
      rcases hgn with q | q
      · intro e; subst e; exact h3 q
      · omega
    have hblk : (w'.setCell ⟨P, 0, none⟩ u).heap[b]? = w.heap[b]? := by
      rw [setCell_there _ (by omega)]
      exact hg.block b h4 (fun e => h3 e.symm)
    have hcell : ∀ j, (w'.setCell ⟨P, 0, none⟩ u).cell? ⟨b, j, none⟩ = w.cell? ⟨b, j, none⟩ := fun j => by
      simp only [World.cell?]
      rw [hblk]
    refine Or.inr ⟨b, o, h1, h2, by rw [hv]; intro e; injection e with e; exact hne e, by rw [setCell_size]; exact Nat.lt_of_lt_of_le h4 hg.size, fun i hi => ?_⟩
    have h6 := h5 i hi
    exact ⟨(hcell _).trans h6.kind, (hcell _).trans h6.text, (hcell _).trans h6.n⟩
theorem unmS_len (v : List Tok) : (unmS v).1.length ≤ v.length := by
  unfold unmS
  split
  · exact Nat.le_refl _
  · split
    · split
      · split
        · have h1 := trm_len (trm v.dropLast).dropLast
          have h2 := trm_len v.dropLast
          simp only [List.length_dropLast] at h1 h2
          show (trm (trm v.dropLast).dropLast).length ≤ v.length
          omega
        · exact Nat.le_refl _
      · exact Nat.le_refl _
    · exact Nat.le_refl _
theorem decS_none1 {l : List Tok} (h : trm l = []) : decS l = none := by unfold decS; rw [h]; rfl
theorem decS_eq {l : List Tok} {t : Tok} {r : List Tok} (h : trm l = t :: r) : decS l = decT (t :: r) := by unfold decS; rw [h]
theorem decT_cons (t : Tok) (r : List Tok) : decT (t :: r) = if t.kind = 1 then
      (match bs r with
      | [] => none
      | c :: q => if c.kind = 10 then
          (if (unmS (trm q)).1 = [] ∨ spoS (unmS (trm q)).1 = true then none else some ⟨t.text, (unmS (trm q)).1, (unmS (trm q)).2⟩)
        else none)
    else none := rfl
theorem decT_kind {t : Tok} {r : List Tok} (h : ¬ t.kind = 1) : decT (t :: r) = none := by rw [decT_cons, if_neg h]
theorem decT_nil {t : Tok} {r : List Tok} (h : t.kind = 1) (h2 : bs r = []) : decT (t :: r) = none := by rw [decT_cons, if_pos h, h2]
theorem decT_col {t c : Tok} {r q : List Tok} (h : t.kind = 1) (h2 : bs r = c :: q) (h3 : ¬ c.kind = 10) : decT (t :: r) = none := by rw [decT_cons, if_pos h, h2]; simp only []; rw [if_neg h3]
theorem decT_val {t c : Tok} {r q : List Tok} (h : t.kind = 1) (h2 : bs r = c :: q) (h3 : c.kind = 10) : decT (t :: r) = if (unmS (trm q)).1 = [] ∨ spoS (unmS (trm q)).1 = true then none else some ⟨t.text, (unmS (trm q)).1, (unmS (trm q)).2⟩ := by rw [decT_cons, if_pos h, h2]; simp only []; rw [if_pos h3]

theorem Tks.first {w : World} {a : Option Addr} {t : Tok} {r : List Tok} (h : Tks w a (t :: r)) : ∃ b o, a = some ⟨b, o, none⟩ ∧ b < w.heap.size ∧ TkAt w b o t := by
  obtain ⟨b, o, h1, h2, h3⟩ := h.get (i := 0) (by simp)
  exact ⟨b, o, h1, h2, by simpa using h3⟩

end Go.Proofs.Ytfbfndknhabmhaa
