/- Joined texts: LexW3 LexW4 LexW5 LexW6. -/
import Derived.Test.YthfabalnioggcaaWalkA
import Derived.Deep.LoopGhost
import Derived.Test.YthfabalnioggcaaFixW5
import Derived.Handy
namespace Go.Proofs.Ythfabalnioggcaa
open Go.RowKit TreN LexP

theorem tw_take {p : UInt8 → Bool} {s : ByteArray} {a k : Nat} (hk : a + k ≤ s.size) (h : ∀ j, j < k → ∀ hj : a + j < s.size, p s[a + j] = true) (he : a + k = s.size ∨ ∃ hj : a + k < s.size, p s[a + k] = false) :
    ((s.data.toList.drop a).takeWhile p).length = k := by
  have hl : s.data.toList.length = s.size := len_data s
  induction k generalizing a with
  | zero =>
    rcases he with he | ⟨hj, he⟩
    · rw [List.drop_of_length_le (by omega)]; rfl
    · rw [List.drop_eq_getElem_cons (by omega), List.takeWhile_cons, if_neg]
      · rfl
      · have e : s.data.toList[a] = s[a + 0] := by simp [ByteArray.getElem_eq_getElem_data]
        rw [e, he]; simp
  | succ k ih =>
    have h0 := h 0 (by omega) (by omega)
    have e : s.data.toList[a]'(by omega) = s[a + 0] := by simp [ByteArray.getElem_eq_getElem_data]
    rw [List.drop_eq_getElem_cons (by omega), List.takeWhile_cons, if_pos (by rw [e]; exact h0), List.length_cons]
    have := ih (a := a + 1) (by omega) (fun j hj hjj => by
      have := h (j + 1) (by omega) (by omega)
      have e2 : a + 1 + j = a + (j + 1) := by omega
      simp only [e2]; exact this) (by
      have e2 : a + 1 + k = a + (k + 1) := by omega
      rcases he with he | ⟨hj, he⟩
      · exact Or.inl (by omega)
      · exact Or.inr ⟨by omega, by simp only [e2]; exact he⟩)
    rw [this]

end Go.Proofs.Ythfabalnioggcaa

namespace Go.Proofs.Ythfabalnioggcaa
open Go.RowKit TreN LexP FixP

theorem hasPrefix_1 (l : List UInt8) (c : UInt8) : Lib.hasPrefix l [c] = decide (l.head? = some c) := by
  cases l with
  | nil => rfl
  | cons d r =>
    show ((c == d) && true) = decide (some d = some c)
    by_cases h : c = d
    · subst h; simp
    · have h' : ¬ d = c := fun x => h x.symm
      simp [h, h']
theorem hasPrefix_2 (l : List UInt8) (c d : UInt8) : Lib.hasPrefix l [c, d] = decide (l.head? = some c ∧ (l.drop 1).head? = some d) := by
  match l with
  | [] => rfl
  | [x] =>
    show ((c == x) && false) = _
    simp
  | x :: y :: r =>
    show ((c == x) && ((d == y) && true)) = decide (some x = some c ∧ some y = some d)
    by_cases h : c = x
    · subst h
      by_cases k : d = y
      · subst k; simp
      · have k' : ¬ y = d := fun x => k x.symm
        simp [k, k']
    · have h' : ¬ x = c := fun x => h x.symm
      simp [h, h']
theorem head_drop (s : ByteArray) (a : Nat) (h : a < s.size) : (s.data.toList.drop a).head? = some s[a] := by
  rw [List.drop_eq_getElem_cons (by rw [len_data]; exact h)]
  simp [ByteArray.getElem_eq_getElem_data]
theorem at0_ba (s : ByteArray) (a : Nat) (h : a < s.size) : at0 s.data.toList a = s[a].toNat := by
  rw [at0_eq (by rw [len_data]; exact h)]
  simp [ByteArray.getElem_eq_getElem_data]
theorem dot_iff (s : ByteArray) (E : Nat) (hE : E ≤ s.size) : Lib.hasPrefix (s.data.toList.drop E) [46] = decide (E < s.size ∧ at0 s.data.toList E = 46) := by
  rw [hasPrefix_1, decide_eq_decide]
  by_cases h : E < s.size
  · rw [head_drop s E h, at0_ba s E h]
    constructor
    · intro x; injection x with x; rw [x]; exact ⟨h, rfl⟩
    · intro x; rw [show s[E] = 46 from UInt8.toNat_inj.1 x.2]
  · rw [List.drop_of_length_le (by rw [len_data]; omega)]
    simp
    omega

/-- behind its sign a number goes on -/
def tailN (s : ByteArray) (a st : Nat) : Nat :=
  let E := st + nd s.data.toList st
  if E < s.size ∧ at0 s.data.toList E = 46 ∧ 0 < nd s.data.toList (E + 1) then E + 1 + nd s.data.toList (E + 1) else if E = st then a else E
theorem tailN_eq (s : ByteArray) (a : Nat) : tailN s a (begAt s.data.toList a) = a + numAt s.data.toList a := by
  have h1 := begAt_ge s.data.toList a
  unfold tailN numAt ptAt
  simp only [len_data]
  by_cases c : begAt s.data.toList a + nd s.data.toList (begAt s.data.toList a) < s.size ∧ at0 s.data.toList (begAt s.data.toList a + nd s.data.toList (begAt s.data.toList a)) = 46 ∧ 0 < nd s.data.toList (begAt s.data.toList a + nd s.data.toList (begAt s.data.toList a) + 1)
  · rw [if_pos c, if_pos c]; omega
  · rw [if_neg c, if_neg c]
    by_cases d : nd s.data.toList (begAt s.data.toList a) = 0
    · rw [if_pos d, if_pos (by omega)]; omega
    · rw [if_neg d, if_neg (by omega)]; omega

end Go.Proofs.Ythfabalnioggcaa

namespace Go.Proofs.Ythfabalnioggcaa
open Go.RowKit TreN LexP FixP

/-- a token's value -/
def LexP.Tok.val (t : Tok) : Value := .agg #[.int .i64 t.kind, .string ⟨t.text.toArray⟩, .int .i64 t.n]
def str (l : List UInt8) : ByteArray := ⟨l.toArray⟩
theorem str_eqL (s : ByteArray) (l : List UInt8) (h : s.data.toList = l) : s = ⟨l.toArray⟩ := ba_ext (by rw [h])
theorem ext_tw (s : ByteArray) (a : Nat) (p : UInt8 → Bool) (E : Nat) (hE : a + ((s.data.toList.drop a).takeWhile p).length = E) : s.extract a E = ⟨((s.data.toList.drop a).takeWhile p).toArray⟩ := by
  refine str_eqL _ _ ?_
  rw [ext_list]
  have : E - a = ((s.data.toList.drop a).takeWhile p).length := by omega
  rw [this]
  have h : s.data.toList.drop a = (s.data.toList.drop a).takeWhile p ++ (s.data.toList.drop a).dropWhile p := List.takeWhile_append_dropWhile.symm
  have h2 : ((s.data.toList.drop a).takeWhile p ++ (s.data.toList.drop a).dropWhile p).take ((s.data.toList.drop a).takeWhile p).length = (s.data.toList.drop a).takeWhile p := List.take_left
  rw [← h] at h2
  exact h2

end Go.Proofs.Ythfabalnioggcaa

namespace Go.Proofs.Ythfabalnioggcaa
open Go.RowKit TreN LexP FixP

/-- where a quote's token ends -/
theorem quo_ways (s : ByteArray) (a E : Nat) (q : UInt8) (hE : a + 1 + ((s.data.toList.drop (a + 1)).takeWhile (inQ q)).length = E) (ha : a < s.size) :
    (E = s.size ∧ quoL q (s.data.toList.drop (a + 1)) = (⟨5, (s.data.toList.drop (a + 1)).takeWhile (inQ q), 0⟩, E - a)) ∨
    (∃ h : E < s.size, s[E].toNat = 10 ∧ quoL q (s.data.toList.drop (a + 1)) = (⟨6, (s.data.toList.drop (a + 1)).takeWhile (inQ q), 0⟩, E - a)) ∨
    (∃ h : E < s.size, ¬ s[E].toNat = 10 ∧ quoL q (s.data.toList.drop (a + 1)) = (⟨5, (s.data.toList.drop (a + 1)).takeWhile (inQ q), 0⟩, E + 1 - a)) := by
  have hd : s.data.toList.drop E = (s.data.toList.drop (a + 1)).dropWhile (inQ q) := by
    rw [← tw_drop, List.drop_drop, ← hE]
  have hle : E ≤ s.size := by
    have := tw_le (inQ q) (s.data.toList.drop (a + 1))
    rw [List.length_drop, len_data] at this
    omega
  by_cases h : E < s.size
  · have hc : s.data.toList.drop E = s[E] :: s.data.toList.drop (E + 1) := by
      rw [List.drop_eq_getElem_cons (by rw [len_data]; exact h)]
      simp [ByteArray.getElem_eq_getElem_data]
    rw [hc] at hd
    by_cases h10 : s[E].toNat = 10
    · have e10 : s[E] = 10 := UInt8.toNat_inj.1 h10
      refine Or.inr (Or.inl ⟨h, h10, ?_⟩)
      unfold quoL
      rw [← hd]
      simp only [e10, if_true]
      rw [Prod.mk.injEq]
      exact ⟨rfl, by omega⟩
    · have e10 : ¬ s[E] = 10 := fun x => h10 (by rw [x]; rfl)
      refine Or.inr (Or.inr ⟨h, h10, ?_⟩)
      unfold quoL
      rw [← hd]
      simp only [e10, if_false]
      rw [Prod.mk.injEq]
      exact ⟨rfl, by omega⟩
  · have hn : s.data.toList.drop E = [] := List.drop_of_length_le (by rw [len_data]; omega)
    rw [hn] at hd
    refine Or.inl ⟨by omega, ?_⟩
    unfold quoL
    rw [← hd]
    rw [Prod.mk.injEq]
    exact ⟨rfl, by omega⟩

end Go.Proofs.Ythfabalnioggcaa
