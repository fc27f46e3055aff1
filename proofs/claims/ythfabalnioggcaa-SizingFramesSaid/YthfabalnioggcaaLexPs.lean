/- Joined texts: LexP LexP2 LexP3 LexP4 LexP5 LexP6. -/
import Derived.Test.YthfabalnioggcaaFixAll
import Derived.Lib.Index
import Derived.Lib.Bytealg
namespace Go.Proofs.Ythfabalnioggcaa.LexP
open FixM FixP TreN

/-- a token -/
structure Tok where
  kind : Int
  text : List UInt8
  n : Int
deriving DecidableEq

/-- a blank; a beginning's byte; a byte of names -/
def blB (c : UInt8) : Bool := decide (c.toNat = 32 ∨ c.toNat = 9 ∨ c.toNat = 10 ∨ c.toNat = 12 ∨ c.toNat = 13)
def lB (c : UInt8) : Bool := letB (c.toNat : Int)
def gB (c : UInt8) : Bool := goB (c.toNat : Int)
/-- does a name begin here? -/
def startsL : List UInt8 → Bool
  | [] => false
  | [c] => decide (c.toNat ≠ 45) && lB c
  | c :: d :: _ => if c.toNat = 45 then lB d || decide (d.toNat = 45) else lB c
/-- how many bytes up to and with the next end of a comment -/
def endC : List UInt8 → Nat
  | [] => 0
  | [_] => 1
  | a :: b :: r => if a.toNat = 42 ∧ b.toNat = 47 then 2 else endC (b :: r) + 1
/-- a text behind a quote q -/
def inQ (q : UInt8) (c : UInt8) : Bool := c != q && c != 10
def quoL (q : UInt8) (r : List UInt8) : Tok × Nat :=
  match r.dropWhile (inQ q) with
  | [] => (⟨5, r.takeWhile (inQ q), 0⟩, 1 + (r.takeWhile (inQ q)).length)
  | d :: _ => if d = 10 then (⟨6, r.takeWhile (inQ q), 0⟩, 1 + (r.takeWhile (inQ q)).length) else (⟨5, r.takeWhile (inQ q), 0⟩, 1 + (r.takeWhile (inQ q)).length + 1)
/-- how long a number's text is -/
def numL (l : List UInt8) : Nat := numAt l 0
/-- a number of v, and behind it r -/
def meaL (v : Int) (n : Nat) (r : List UInt8) : Tok × Nat :=
  if r.head? = some 37 then (⟨8, [], v⟩, n + 1)
  else if startsL r = true then (⟨9, r.takeWhile gB, v⟩, n + (r.takeWhile gB).length)
  else (⟨7, [], v⟩, n)
def signK (c : UInt8) : Int :=
  if c.toNat = 58 then 10 else if c.toNat = 59 then 11 else if c.toNat = 44 then 12 else if c.toNat = 40 then 13 else if c.toNat = 41 then 14
  else if c.toNat = 91 then 15 else if c.toNat = 93 then 16 else if c.toNat = 123 then 17 else if c.toNat = 125 then 18 else 0
def some1 (x : Tok × Nat) : Option Tok × Nat := (some x.1, x.2)
/-- what comes next, with a first byte -/
def oneC (c : UInt8) (r : List UInt8) : Option Tok × Nat :=
  if c.toNat = 47 ∧ r.head? = some 42 then (none, 2 + endC (r.drop 1))
  else if blB c = true then (some ⟨20, [], 0⟩, ((c :: r).takeWhile blB).length)
  else if c.toNat = 34 ∨ c.toNat = 39 then some1 (quoL c r)
  else if 0 < numL (c :: r) then some1 (meaL (worth ((c :: r).take (numL (c :: r)))) (numL (c :: r)) ((c :: r).drop (numL (c :: r))))
  else if c.toNat = 35 ∧ 0 < (r.takeWhile gB).length then (some ⟨4, r.takeWhile gB, 0⟩, 1 + (r.takeWhile gB).length)
  else if c.toNat = 64 ∧ startsL r = true then (some ⟨3, r.takeWhile gB, 0⟩, 1 + (r.takeWhile gB).length)
  else if startsL (c :: r) = true then
    if ((c :: r).dropWhile gB).head? = some 40 then (some ⟨2, (c :: r).takeWhile gB, 0⟩, ((c :: r).takeWhile gB).length + 1)
    else (some ⟨1, (c :: r).takeWhile gB, 0⟩, ((c :: r).takeWhile gB).length)
  else if signK c = 0 then (some ⟨19, [c], 0⟩, 1)
  else (some ⟨signK c, [], 0⟩, 1)
/-- what comes next -/
def one : List UInt8 → Option Tok × Nat
  | [] => (none, 0)
  | c :: r => oneC c r

theorem numL_le (l : List UInt8) : numL l ≤ l.length := by
  unfold numL
  rw [numAt_zero]
  have h1 := pt_le l
  by_cases h : pt l < l.length ∧ at0 l (pt l) = 46 ∧ 0 < nd l (pt l + 1)
  · rw [if_pos h]; have := nd_le (l := l) (a := pt l + 1) (by omega); omega
  · rw [if_neg h]; split <;> omega
theorem endC_le : ∀ r : List UInt8, endC r ≤ r.length
  | [] => by simp [endC]
  | [_] => by simp [endC]
  | a :: b :: r => by
    unfold endC
    have := endC_le (b :: r)
    split
    · simp
    · simp at this ⊢; omega
theorem tw_le (p : UInt8 → Bool) (l : List UInt8) : (l.takeWhile p).length ≤ l.length := (List.takeWhile_prefix p).length_le
theorem tw_pos (p : UInt8 → Bool) (c : UInt8) (r : List UInt8) (h : p c = true) : 0 < ((c :: r).takeWhile p).length := by
  rw [List.takeWhile_cons, if_pos h]; simp
theorem tw_drop (p : UInt8 → Bool) (l : List UInt8) : l.drop (l.takeWhile p).length = l.dropWhile p := by
  have h : l = l.takeWhile p ++ l.dropWhile p := List.takeWhile_append_dropWhile.symm
  have h2 : (l.takeWhile p ++ l.dropWhile p).drop (l.takeWhile p).length = l.dropWhile p := List.drop_left
  rw [← h] at h2
  exact h2
theorem quoL_bd (q : UInt8) (r : List UInt8) : 1 ≤ (quoL q r).2 ∧ (quoL q r).2 ≤ 1 + r.length := by
  unfold quoL
  have h1 := tw_le (inQ q) r
  have h2 := tw_drop (inQ q) r
  split
  · simp; omega
  · rename_i d r' h
    have : (r.dropWhile (inQ q)).length = r.length - (r.takeWhile (inQ q)).length := by rw [← h2, List.length_drop]
    rw [h] at this
    simp only [List.length_cons] at this
    split <;> simp <;> omega
theorem meaL_bd (v : Int) (n : Nat) (r : List UInt8) : n ≤ (meaL v n r).2 ∧ (meaL v n r).2 ≤ n + r.length := by
  unfold meaL
  have h1 := tw_le gB r
  split
  · rename_i h
    cases r with
    | nil => simp at h
    | cons d r' => simp
  · split <;> simp <;> omega
theorem starts_go {l : List UInt8} (h : startsL l = true) : 0 < (l.takeWhile gB).length := by
  match l with
  | [] => simp [startsL] at h
  | [c] =>
    unfold startsL at h
    rw [Bool.and_eq_true] at h
    refine tw_pos gB c [] ?_
    unfold gB goB
    have : lB c = true := h.2
    unfold lB at this
    rw [this]; rfl
  | c :: d :: r =>
    refine tw_pos gB c (d :: r) ?_
    have h : (if c.toNat = 45 then lB d || decide (d.toNat = 45) else lB c) = true := h
    unfold gB goB
    by_cases hc : c.toNat = 45
    · rw [decide_eq_true (show (c.toNat : Int) = 45 by omega)]; simp
    · rw [if_neg hc] at h
      unfold lB at h
      rw [h]; rfl

theorem one_bd (c : UInt8) (r : List UInt8) : 1 ≤ (one (c :: r)).2 ∧ (one (c :: r)).2 ≤ (c :: r).length := by
  show 1 ≤ (oneC c r).2 ∧ (oneC c r).2 ≤ _
  unfold oneC
  split
  · rename_i h
    have := endC_le (r.drop 1)
    rw [List.length_drop] at this
    cases r with
    | nil => simp at h
    | cons d r' => simp only [List.length_cons] at this ⊢; omega
  · split
    · rename_i h
      exact ⟨tw_pos _ _ _ h, tw_le _ _⟩
    · split
      · have := quoL_bd c r; simp only [some1, List.length_cons]; omega
      · split
        · rename_i h
          have h1 := meaL_bd (worth ((c :: r).take (numL (c :: r)))) (numL (c :: r)) ((c :: r).drop (numL (c :: r)))
          have h2 := numL_le (c :: r)
          rw [List.length_drop] at h1
          simp only [some1]; omega
        · split
          · have := tw_le gB r; simp; omega
          · split
            · have := tw_le gB r; simp; omega
            · split
              · rename_i h
                have h1 := starts_go h
                have h2 := tw_le gB (c :: r)
                split
                · rename_i h3
                  have h4 := tw_drop gB (c :: r)
                  cases h5 : (c :: r).dropWhile gB with
                  | nil => rw [h5] at h3; simp at h3
                  | cons d r' =>
                    have : ((c :: r).dropWhile gB).length = (c :: r).length - ((c :: r).takeWhile gB).length := by rw [← h4, List.length_drop]
                    rw [h5] at this
                    simp only [List.length_cons] at this h2 ⊢
                    omega
                · exact ⟨h1, h2⟩
              · split <;> simp

/-- all tokens of a text -/
def cutF : Nat → List UInt8 → List Tok
  | 0, _ => []
  | _, [] => []
  | f + 1, c :: r => (one (c :: r)).1.toList ++ cutF f ((c :: r).drop (one (c :: r)).2)
theorem cutF_same : ∀ (f : Nat) (l : List UInt8), l.length ≤ f → ∀ g, l.length ≤ g → cutF f l = cutF g l
  | 0, l, h, g, _ => by
    have : l = [] := List.eq_nil_of_length_eq_zero (by omega)
    subst this
    cases g <;> rfl
  | f + 1, [], h, g, _ => by cases g <;> rfl
  | f + 1, c :: r, h, 0, hg => by simp at hg
  | f + 1, c :: r, h, g + 1, hg => by
    have := one_bd c r
    show _ ++ _ = _ ++ _
    rw [cutF_same f _ (by rw [List.length_drop]; omega) g (by rw [List.length_drop]; omega)]
def cut (l : List UInt8) : List Tok := cutF l.length l
theorem cut_nil : cut [] = [] := rfl
theorem cut_cons (c : UInt8) (r : List UInt8) : cut (c :: r) = (one (c :: r)).1.toList ++ cut ((c :: r).drop (one (c :: r)).2) := by
  have := one_bd c r
  unfold cut
  show _ ++ _ = _ ++ _
  rw [cutF_same r.length _ (by rw [List.length_drop]; simp only [List.length_cons] at *; omega) _ (Nat.le_refl _)]
theorem cut_some {l : List UInt8} {t : Tok} {n : Nat} (h : one l = (some t, n)) : cut l = t :: cut (l.drop n) := by
  cases l with
  | nil => simp [one] at h
  | cons c r => rw [cut_cons, h]; rfl
theorem cut_none {l : List UInt8} {n : Nat} (h : one l = (none, n)) : cut l = cut (l.drop n) := by
  cases l with
  | nil => simp [cut_nil]
  | cons c r => rw [cut_cons, h]; rfl

/-- a token's text -/
def quoT (t : List UInt8) : List UInt8 := if 34 ∈ t then 39 :: (t ++ [39]) else 34 :: (t ++ [34])
def tx (t : Tok) : List UInt8 :=
  if t.kind = 1 ∨ t.kind = 19 then t.text else if t.kind = 2 then t.text ++ [40] else if t.kind = 3 then 64 :: t.text else if t.kind = 4 then 35 :: t.text
  else if t.kind = 5 then quoT t.text else if t.kind = 7 then prn (H t.n) else if t.kind = 8 then prn (H t.n) ++ [37] else if t.kind = 9 then prn (H t.n) ++ t.text
  else if t.kind = 10 then [58] else if t.kind = 11 then [59] else if t.kind = 12 then [44] else if t.kind = 13 then [40] else if t.kind = 14 then [41]
  else if t.kind = 15 then [91] else if t.kind = 16 then [93] else if t.kind = 17 then [123] else if t.kind = 18 then [125] else if t.kind = 20 then [32] else []
def right (t : Tok) : Bool := decide (cut (tx t) = [t])
/-- what is printed -/
def sepL (a b : Tok) : List UInt8 := if cut (tx a ++ tx b) = [a, b] then [] else [47, 42, 42, 47]
def printL : List Tok → List UInt8
  | [] => []
  | [a] => tx a
  | a :: b :: r => tx a ++ (sepL a b ++ printL (b :: r))
end Go.Proofs.Ythfabalnioggcaa.LexP

namespace Go.Proofs.Ythfabalnioggcaa.LexP
open FixM FixP TreN

theorem index_end : ∀ l : List UInt8, (Lib.index l [42, 47] = -1 ∧ endC l = l.length) ∨ ∃ i : Nat, Lib.index l [42, 47] = (i : Int) ∧ endC l = i + 2 ∧ i + 2 ≤ l.length
  | [] => Or.inl ⟨rfl, rfl⟩
  | [a] => by
    refine Or.inl ⟨?_, rfl⟩
    simp [Lib.index, List.isPrefixOf]
  | a :: b :: r => by
    by_cases h : a.toNat = 42 ∧ b.toNat = 47
    · obtain ⟨h1, h2⟩ := h
      have e1 : a = 42 := UInt8.toNat_inj.1 h1
      have e2 : b = 47 := UInt8.toNat_inj.1 h2
      subst e1; subst e2
      refine Or.inr ⟨0, ?_, ?_, by simp⟩
      · simp [Lib.index, List.isPrefixOf]
      · unfold endC; simp
    · have hp : List.isPrefixOf [42, 47] (a :: b :: r) = false := by
        cases hq : List.isPrefixOf [42, 47] (a :: b :: r) with
        | false => rfl
        | true =>
          simp only [List.isPrefixOf, Bool.and_eq_true, beq_iff_eq] at hq
          exact absurd ⟨by rw [← hq.1]; rfl, by rw [← hq.2.1]; rfl⟩ h
      have he : endC (a :: b :: r) = endC (b :: r) + 1 := by
        show (if a.toNat = 42 ∧ b.toNat = 47 then 2 else endC (b :: r) + 1) = _
        rw [if_neg h]
      rcases index_end (b :: r) with ⟨h1, h2⟩ | ⟨i, h1, h2, h3⟩
      · left
        refine ⟨?_, by rw [he, h2]; rfl⟩
        rw [Lib.index, hp, h1]
        simp
      · right
        refine ⟨i + 1, ?_, by rw [he, h2], by simp at h3 ⊢; omega⟩
        rw [Lib.index, hp, h1]
        simp

theorem lB_45 : lB 45 = false := by decide
theorem lB_gB {c : UInt8} (h : lB c = true) : gB c = true := by
  unfold gB goB; unfold lB at h; rw [h]; rfl
theorem gB_45 : gB 45 = true := by decide
/-- a name of one byte, of two -/
def n1B (c : UInt8) : Bool := lB c
def n2B (c d : UInt8) : Bool := if c.toNat = 45 then (decide (d.toNat = 45) || lB d) else (lB c && gB d)
theorem name_1 (c : UInt8) : nameB ⟨#[c]⟩ = n1B c := by
  have hs : (ByteArray.mk #[c]).size = 1 := rfl
  have h0 : bt ⟨#[c]⟩ 0 = (c.toNat : Int) := rfl
  unfold nameB begB n1B
  rw [hs, if_neg (by omega), h0]
  show (true && ((true && lB c) && allB goB ⟨#[c]⟩)) = lB c
  cases h : lB c with
  | false => rfl
  | true =>
    have : allB goB ⟨#[c]⟩ = true := allB_true fun j hj => by
      rw [hs] at hj
      obtain rfl : j = 0 := by omega
      rw [h0]; exact lB_gB h
    rw [this]; rfl
theorem name_2 (c d : UInt8) : nameB ⟨#[c, d]⟩ = n2B c d := by
  have hs : (ByteArray.mk #[c, d]).size = 2 := rfl
  have h0 : bt ⟨#[c, d]⟩ 0 = (c.toNat : Int) := rfl
  have h1 : bt ⟨#[c, d]⟩ 1 = (d.toNat : Int) := rfl
  have hall : gB c = true → gB d = true → allB goB ⟨#[c, d]⟩ = true := fun a b => allB_true fun j hj => by
    rw [hs] at hj
    rcases j with _ | _ | j
    · rw [h0]; exact a
    · rw [h1]; exact b
    · omega
  unfold nameB begB n2B
  rw [hs, h0, h1]
  by_cases hc : c.toNat = 45
  · rw [if_pos ⟨by omega, by omega⟩, if_pos hc]
    have e : decide ((d.toNat : Int) = 45) = decide (d.toNat = 45) := by rw [decide_eq_decide]; omega
    rw [e]
    show (true && ((decide (d.toNat = 45) || lB d) && allB goB ⟨#[c, d]⟩)) = _
    have hgc : gB c = true := by
      have : c = 45 := UInt8.toNat_inj.1 hc
      subst this; exact gB_45
    by_cases hd : d.toNat = 45
    · have : d = 45 := UInt8.toNat_inj.1 hd
      subst this
      rw [hall hgc gB_45]; decide
    · rw [decide_eq_false hd]
      cases hl : lB d with
      | false => rfl
      | true => rw [hall hgc (lB_gB hl)]; rfl
  · rw [if_neg (by omega), if_neg hc]
    show (true && ((true && lB c) && allB goB ⟨#[c, d]⟩)) = _
    cases hl : lB c with
    | false => rfl
    | true =>
      cases hg : gB d with
      | true => rw [hall (lB_gB hl) hg]; rfl
      | false =>
        have : allB goB ⟨#[c, d]⟩ = false := allB_false 1 (by rw [hs]; omega) (by rw [h1]; exact hg)
        rw [this]; rfl
theorem name_0 : nameB ⟨#[]⟩ = false := by decide
theorem starts_1 (c : UInt8) : startsL [c] = n1B c := by
  show (decide (c.toNat ≠ 45) && lB c) = lB c
  by_cases h : c.toNat = 45
  · have : c = 45 := UInt8.toNat_inj.1 h
    subst this; decide
  · rw [decide_eq_true h]; rfl
theorem starts_2 (c d : UInt8) (r : List UInt8) : startsL (c :: d :: r) = (n1B c || n2B c d) := by
  show (if c.toNat = 45 then lB d || decide (d.toNat = 45) else lB c) = _
  unfold n1B n2B
  by_cases h : c.toNat = 45
  · have : c = 45 := UInt8.toNat_inj.1 h
    subst this
    rw [if_pos h, if_pos h, lB_45, Bool.false_or, Bool.or_comm]
  · rw [if_neg h, if_neg h]
    cases lB c <;> simp
end Go.Proofs.Ythfabalnioggcaa.LexP

namespace Go.Proofs.Ythfabalnioggcaa.LexP
open FixM FixP TreN

theorem nd_drop (l : List UInt8) (a b : Nat) : nd (l.drop a) b = nd l (a + b) := by unfold nd ds; rw [List.drop_drop]
theorem at0_drop (l : List UInt8) (a b : Nat) : at0 (l.drop a) b = at0 l (a + b) := by unfold at0; simp [List.getD_eq_getElem?_getD]
theorem begAt_drop (l : List UInt8) (a : Nat) : a + begAt (l.drop a) 0 = begAt l a := by
  unfold begAt
  rw [at0_drop, List.length_drop, Nat.add_zero]
  by_cases h : a < l.length ∧ (at0 l a = 43 ∨ at0 l a = 45)
  · rw [if_pos h, if_pos ⟨by omega, h.2⟩]
  · rw [if_neg h, if_neg (by intro x; exact h ⟨by omega, x.2⟩)]; omega
theorem numAt_drop (l : List UInt8) (a : Nat) : numAt (l.drop a) 0 = numAt l a := by
  have hb := begAt_drop l a
  unfold numAt ptAt
  rw [nd_drop, hb, at0_drop, nd_drop, List.length_drop, ← Nat.add_assoc, ← Nat.add_assoc, hb]
  have e : a + (begAt (List.drop a l) 0 + nd l (begAt l a)) + 1 = begAt l a + nd l (begAt l a) + 1 := by omega
  rw [e]
  by_cases c : begAt l a + nd l (begAt l a) < l.length ∧ at0 l (begAt l a + nd l (begAt l a)) = 46 ∧ 0 < nd l (begAt l a + nd l (begAt l a) + 1)
  · rw [if_pos c, if_pos ⟨by omega, c.2⟩]; omega
  · rw [if_neg c, if_neg (by intro x; exact c ⟨by omega, x.2⟩)]
    by_cases d : nd l (begAt l a) = 0
    · rw [if_pos d, if_pos d]
    · rw [if_neg d, if_neg d]; omega

/-- a number's length, part by part -/
def numS (l : List UInt8) : Nat :=
  match (l.drop (beg l)).dropWhile isD with
  | [] => if (l.drop (beg l)).takeWhile isD = [] then 0 else beg l + ((l.drop (beg l)).takeWhile isD).length
  | c :: r => if c.toNat = 46 ∧ r.takeWhile isD ≠ [] then beg l + ((l.drop (beg l)).takeWhile isD).length + 1 + (r.takeWhile isD).length
    else if (l.drop (beg l)).takeWhile isD = [] then 0 else beg l + ((l.drop (beg l)).takeWhile isD).length
theorem numL_S (l : List UInt8) : numL l = numS l := by
  unfold numL
  rw [numAt_zero]
  have e1 : nd l (beg l) = ((l.drop (beg l)).takeWhile isD).length := rfl
  have e2 : l.drop (pt l) = (l.drop (beg l)).dropWhile isD := by
    rw [← tw_drop, List.drop_drop]; rfl
  have hz : (nd l (beg l) = 0) = ((l.drop (beg l)).takeWhile isD = []) := by rw [e1]; simp
  have hpt : pt l = beg l + ((l.drop (beg l)).takeWhile isD).length := rfl
  unfold numS
  generalize hq : (l.drop (beg l)).dropWhile isD = l2 at *
  cases l2 with
  | nil =>
    have hl : l.length ≤ pt l := by simpa using e2
    rw [if_neg (by omega)]
    simp only [hz]
    rw [hpt]
  | cons c r =>
    have hl : pt l < l.length := by
      by_cases q : pt l < l.length
      · exact q
      · rw [List.drop_of_length_le (by omega)] at e2; cases e2
    rw [List.drop_eq_getElem_cons hl] at e2
    injection e2 with e3 e4
    have e5 : nd l (pt l + 1) = (r.takeWhile isD).length := by unfold nd ds; rw [e4]
    rw [at0_eq hl, e3, e5]
    have hq : (c.toNat = 46 ∧ r.takeWhile isD ≠ []) ↔ (pt l < l.length ∧ c.toNat = 46 ∧ 0 < (r.takeWhile isD).length) := by
      constructor
      · intro x; exact ⟨hl, x.1, by have := x.2; exact List.length_pos_iff.2 this⟩
      · intro x; exact ⟨x.2.1, List.length_pos_iff.1 x.2.2⟩
    simp only []
    by_cases d : c.toNat = 46 ∧ r.takeWhile isD ≠ []
    · rw [if_pos d, if_pos (hq.1 d), hpt]
    · rw [if_neg d, if_neg (fun x => d (hq.2 x))]
      simp only [hz]
      rw [hpt]

/-- a number's parts -/
structure Num (sg D F : List UInt8) : Prop where
  sign : sg = [] ∨ sg = [43] ∨ sg = [45]
  whole : ∀ c ∈ D, isD c = true
  frac : (F = [] ∧ D ≠ []) ∨ ∃ G, F = 46 :: G ∧ G ≠ [] ∧ ∀ c ∈ G, isD c = true
/-- what may not stand behind a number -/
structure Stop (F v : List UInt8) : Prop where
  dig : ∀ c r, v = c :: r → isD c = false
  dot : F = [] → ∀ c r, v = 46 :: c :: r → isD c = false
theorem Stop.nil (F : List UInt8) : Stop F [] := ⟨(fun _ _ h => nomatch h), (fun _ _ _ h => nomatch h)⟩

theorem tw_all {p : UInt8 → Bool} {D v : List UInt8} (hD : ∀ c ∈ D, p c = true) (hv : ∀ c r, v = c :: r → p c = false) : (D ++ v).takeWhile p = D ∧ (D ++ v).dropWhile p = v := by
  have h1 : v.takeWhile p = [] ∧ v.dropWhile p = v := by
    cases v with
    | nil => exact ⟨rfl, rfl⟩
    | cons c r => have := hv c r rfl; simp [this]
  rw [List.takeWhile_append_of_pos hD, List.dropWhile_append_of_pos hD, h1.1, h1.2]
  simp
theorem Num.beg {sg D F : List UInt8} (h : Num sg D F) (v : List UInt8) : beg (sg ++ (D ++ (F ++ v))) = sg.length := by
  rcases h.sign with rfl | rfl | rfl
  · cases D with
    | nil =>
      rcases h.frac with ⟨_, h2⟩ | ⟨G, rfl, _, _⟩
      · exact absurd rfl h2
      · rfl
    | cons c D =>
      have := (isD_iff c).1 (h.whole c List.mem_cons_self)
      show (if c.toNat = 43 ∨ c.toNat = 45 then 1 else 0) = 0
      rw [if_neg (by omega)]
  · rfl
  · rfl
theorem isD_46 : isD 46 = false := by decide
theorem num_len {sg D F : List UInt8} (h : Num sg D F) {v : List UInt8} (hv : Stop F v) : numL (sg ++ (D ++ (F ++ v))) = sg.length + (D.length + F.length) := by
  rw [numL_S]
  unfold numS
  rw [h.beg v, List.drop_left]
  rcases h.frac with ⟨rfl, h2⟩ | ⟨G, rfl, h2, h3⟩
  · rw [List.nil_append]
    obtain ⟨e1, e2⟩ := tw_all h.whole hv.dig
    rw [e1, e2]
    cases v with
    | nil => simp [h2]
    | cons c r =>
      simp only []
      rw [if_neg, if_neg h2]
      · simp
      · rintro ⟨x1, x2⟩
        have e46 : c = 46 := UInt8.toNat_inj.1 x1
        subst e46
        cases r with
        | nil => simp at x2
        | cons d r' =>
          have := hv.dot rfl d r' rfl
          simp [this] at x2
  · obtain ⟨e1, e2⟩ := tw_all (v := 46 :: (G ++ v)) h.whole (fun c r x => by injection x with x1 _; subst x1; exact isD_46)
    rw [List.cons_append, e1, e2]
    obtain ⟨e3, _⟩ := tw_all h3 hv.dig
    show (if (46 : UInt8).toNat = 46 ∧ (G ++ v).takeWhile isD ≠ [] then _ else _) = _
    rw [e3, if_pos ⟨rfl, h2⟩]
    simp only [List.length_cons]; omega
theorem tw_ok (p : UInt8 → Bool) (l : List UInt8) : ∀ c ∈ l.takeWhile p, p c = true := by
  intro c hc
  have := List.all_takeWhile (p := p) (l := l)
  rw [List.all_eq_true] at this
  exact this c hc
theorem dw_ok (p : UInt8 → Bool) (l : List UInt8) : ∀ c r, l.dropWhile p = c :: r → p c = false := by
  induction l with
  | nil => intro c r h; cases h
  | cons d l ih =>
    intro c r h
    rw [List.dropWhile_cons] at h
    split at h
    · exact ih c r h
    · rename_i hd; injection h with h1 _; subst h1; simpa using hd
theorem tw_dw (p : UInt8 → Bool) (l : List UInt8) : l = l.takeWhile p ++ l.dropWhile p := List.takeWhile_append_dropWhile.symm
theorem num_parts (l : List UInt8) (h : 0 < numL l) : ∃ sg D F v, l = sg ++ (D ++ (F ++ v)) ∧ Num sg D F ∧ Stop F v ∧ numL l = sg.length + (D.length + F.length) := by
  have hsg : ∃ sg, l = sg ++ l.drop (beg l) ∧ sg.length = beg l ∧ (sg = [] ∨ sg = [43] ∨ sg = [45]) := by
    cases l with
    | nil => exact ⟨[], rfl, rfl, Or.inl rfl⟩
    | cons c r =>
      by_cases q : c.toNat = 43 ∨ c.toNat = 45
      · have e : beg (c :: r) = 1 := if_pos q
        rw [e]
        refine ⟨[c], rfl, rfl, ?_⟩
        rcases q with q | q
        · right; left; rw [show c = 43 from UInt8.toNat_inj.1 q]
        · right; right; rw [show c = 45 from UInt8.toNat_inj.1 q]
      · have e : beg (c :: r) = 0 := if_neg q
        rw [e]
        exact ⟨[], rfl, rfl, Or.inl rfl⟩
  obtain ⟨sg, e1, e2, e3⟩ := hsg
  have hs := numL_S l
  rw [hs] at h ⊢
  unfold numS at h ⊢
  generalize hl1 : l.drop (beg l) = l1 at *
  have e4 := tw_dw isD l1
  have k1 := tw_ok isD l1
  have k2 := dw_ok isD l1
  generalize l1.takeWhile isD = D at *
  generalize l1.dropWhile isD = l2 at *
  cases l2 with
  | nil =>
    simp only [] at h ⊢
    by_cases hD : D = []
    · rw [if_pos hD] at h; omega
    · refine ⟨sg, D, [], [], by rw [e1, e4]; simp, ⟨e3, k1, Or.inl ⟨rfl, hD⟩⟩, Stop.nil _, ?_⟩
      rw [if_neg hD, e2]; simp
  | cons c r =>
    simp only [] at h ⊢
    by_cases q : c.toNat = 46 ∧ r.takeWhile isD ≠ []
    · have e46 : c = 46 := UInt8.toNat_inj.1 q.1
      subst e46
      refine ⟨sg, D, 46 :: r.takeWhile isD, r.dropWhile isD, ?_, ⟨e3, k1, Or.inr ⟨_, rfl, q.2, tw_ok isD r⟩⟩, ⟨dw_ok isD r, fun x => by cases x⟩, ?_⟩
      · rw [e1, e4, List.cons_append, ← tw_dw isD r]
      · rw [if_pos q, e2]; simp only [List.length_cons]; omega
    · rw [if_neg q] at h ⊢
      by_cases hD : D = []
      · rw [if_pos hD] at h; omega
      · refine ⟨sg, D, [], c :: r, by rw [e1, e4]; simp, ⟨e3, k1, Or.inl ⟨rfl, hD⟩⟩, ⟨k2, fun _ d r' x => ?_⟩, ?_⟩
        · injection x with x1 x2
          subst x1; subst x2
          cases hd : isD d with
          | false => rfl
          | true => exact absurd ⟨rfl, by simp [hd]⟩ q
        · rw [if_neg hD, e2]; simp
/-- a number's text alone is a number's -/
theorem num_take (l : List UInt8) (h : 0 < numL l) : numL (l.take (numL l)) = numL l ∧ (l.take (numL l)).length = numL l := by
  obtain ⟨sg, D, F, v, e1, e2, e3, e4⟩ := num_parts l h
  have ht : l.take (numL l) = sg ++ (D ++ (F ++ [])) := by
    rw [e4]
    conv => lhs; rw [e1]
    have : sg ++ (D ++ (F ++ v)) = (sg ++ (D ++ F)) ++ v := by simp
    rw [this, List.take_left' (by simp)]
    simp
  rw [ht, num_len e2 (Stop.nil F), e4]
  simp
theorem parse_take (l : List UInt8) (h : 0 < numL l) : parse (l.take (numL l)) = (worth (l.take (numL l)), 0) := by
  obtain ⟨h1, h2⟩ := num_take l h
  unfold numL at h1 h2 h ⊢
  rw [parse_eq, if_neg]
  omega
end Go.Proofs.Ythfabalnioggcaa.LexP

namespace Go.Proofs.Ythfabalnioggcaa.LexP
open FixM FixP TreN

/-- a byte by itself -/
def signT (c : UInt8) : Tok := if signK c = 0 then ⟨19, [c], 0⟩ else ⟨signK c, [], 0⟩
/-- neither a comment, nor a blank, nor a quote, nor a number -/
structure Plain (c : UInt8) (r : List UInt8) : Prop where
  com : ¬ (c.toNat = 47 ∧ r.head? = some 42)
  bl : blB c = false
  quo : ¬ (c.toNat = 34 ∨ c.toNat = 39)
  num : numL (c :: r) = 0
theorem oneC_com {c : UInt8} {r : List UInt8} (h : c.toNat = 47 ∧ r.head? = some 42) : oneC c r = (none, 2 + endC (r.drop 1)) := by unfold oneC; rw [if_pos h]
theorem oneC_bl {c : UInt8} {r : List UInt8} (h : ¬ (c.toNat = 47 ∧ r.head? = some 42)) (h2 : blB c = true) : oneC c r = (some ⟨20, [], 0⟩, ((c :: r).takeWhile blB).length) := by unfold oneC; rw [if_neg h, if_pos h2]
theorem oneC_quo {c : UInt8} {r : List UInt8} (h : ¬ (c.toNat = 47 ∧ r.head? = some 42)) (h2 : blB c = false) (h3 : c.toNat = 34 ∨ c.toNat = 39) : oneC c r = some1 (quoL c r) := by unfold oneC; rw [if_neg h, if_neg (by rw [h2]; simp), if_pos h3]
theorem oneC_num {c : UInt8} {r : List UInt8} (h : ¬ (c.toNat = 47 ∧ r.head? = some 42)) (h2 : blB c = false) (h3 : ¬ (c.toNat = 34 ∨ c.toNat = 39)) (h4 : 0 < numL (c :: r)) :
    oneC c r = some1 (meaL (worth ((c :: r).take (numL (c :: r)))) (numL (c :: r)) ((c :: r).drop (numL (c :: r)))) := by unfold oneC; rw [if_neg h, if_neg (by rw [h2]; simp), if_neg h3, if_pos h4]
theorem oneC_plain {c : UInt8} {r : List UInt8} (h : Plain c r) : oneC c r =
    if c.toNat = 35 ∧ 0 < (r.takeWhile gB).length then (some ⟨4, r.takeWhile gB, 0⟩, 1 + (r.takeWhile gB).length)
    else if c.toNat = 64 ∧ startsL r = true then (some ⟨3, r.takeWhile gB, 0⟩, 1 + (r.takeWhile gB).length)
    else if startsL (c :: r) = true then
      if ((c :: r).dropWhile gB).head? = some 40 then (some ⟨2, (c :: r).takeWhile gB, 0⟩, ((c :: r).takeWhile gB).length + 1)
      else (some ⟨1, (c :: r).takeWhile gB, 0⟩, ((c :: r).takeWhile gB).length)
    else (some (signT c), 1) := by
  unfold oneC
  rw [if_neg h.com, if_neg (by rw [h.bl]; simp), if_neg h.quo, if_neg (by rw [h.num]; omega)]
  unfold signT
  by_cases h1 : c.toNat = 35 ∧ 0 < (r.takeWhile gB).length
  · rw [if_pos h1, if_pos h1]
  · rw [if_neg h1, if_neg h1]
    by_cases h2 : c.toNat = 64 ∧ startsL r = true
    · rw [if_pos h2, if_pos h2]
    · rw [if_neg h2, if_neg h2]
      by_cases h3 : startsL (c :: r) = true
      · rw [if_pos h3, if_pos h3]
      · rw [if_neg h3, if_neg h3]
        split <;> rfl
theorem starts_c {c : UInt8} {r : List UInt8} (h : startsL (c :: r) = true) : lB c = true ∨ c.toNat = 45 := by
  cases r with
  | nil =>
    have h : (decide (c.toNat ≠ 45) && lB c) = true := h
    rw [Bool.and_eq_true] at h
    exact Or.inl h.2
  | cons d r =>
    have h : (if c.toNat = 45 then lB d || decide (d.toNat = 45) else lB c) = true := h
    by_cases q : c.toNat = 45
    · exact Or.inr q
    · rw [if_neg q] at h; exact Or.inl h
theorem not_starts {c : UInt8} {r : List UInt8} (h1 : lB c = false) (h2 : ¬ c.toNat = 45) : startsL (c :: r) = false := by
  cases h : startsL (c :: r) with
  | false => rfl
  | true =>
    rcases starts_c h with x | x
    · rw [h1] at x; cases x
    · exact absurd x h2
theorem one_text (c : UInt8) (r : List UInt8) (t : Tok) (h : (oneC c r).1 = some t) : t.text.length ≤ r.length + 1 := by
  have k1 := fun p => tw_le p r
  have k2 := fun p => tw_le p (c :: r)
  unfold oneC at h
  split at h
  · cases h
  · split at h
    · injection h with h; subst h; simp
    · split at h
      · injection h with h; subst h
        have := k1 (inQ c)
        unfold quoL
        split
        · simp; omega
        · split <;> simp <;> omega
      · split at h
        · injection h with h; subst h
          unfold meaL
          have := tw_le gB ((c :: r).drop (numL (c :: r)))
          rw [List.length_drop] at this
          simp only [List.length_cons] at this
          split
          · simp
          · split
            · simp; omega
            · simp
        · split at h
          · injection h with h; subst h; have := k1 gB; simp; omega
          · split at h
            · injection h with h; subst h; have := k1 gB; simp; omega
            · split at h
              · have := k2 gB
                simp only [List.length_cons] at this
                split at h <;> (injection h with h; subst h; exact this)
              · split at h <;> (injection h with h; subst h; simp)
end Go.Proofs.Ythfabalnioggcaa.LexP

namespace Go.Proofs.Ythfabalnioggcaa.LexP
open FixM FixP TreN

theorem signK_ge (c : UInt8) (h : ¬ signK c = 0) : 10 ≤ signK c := by
  unfold signK at h ⊢
  repeat' split
  all_goals first | omega | simp_all
theorem one_kind (c : UInt8) (r : List UInt8) (t : Tok) (h : (oneC c r).1 = some t) : 1 ≤ t.kind := by
  unfold oneC at h
  split at h
  · cases h
  · split at h
    · injection h with h; subst h; simp
    · split at h
      · injection h with h; subst h
        unfold quoL
        split
        · simp
        · split <;> simp
      · split at h
        · injection h with h; subst h
          unfold meaL
          split
          · simp
          · split <;> simp
        · split at h
          · injection h with h; subst h; simp
          · split at h
            · injection h with h; subst h; simp
            · split at h
              · split at h <;> (injection h with h; subst h; simp)
              · split at h
                · injection h with h; subst h; simp
                · rename_i hz
                  injection h with h; subst h
                  have := signK_ge c hz
                  simp only []; omega
end Go.Proofs.Ythfabalnioggcaa.LexP

namespace Go.Proofs.Ythfabalnioggcaa.LexP
open Go.Proofs.Ythfabalnioggcaa FixP

/-- what is printed of the first j tokens -/
def prT (l : List Tok) : Nat → List UInt8
  | 0 => []
  | j + 1 => prT l j ++ ((if j = 0 then [] else match l[j - 1]?, l[j]? with | some a, some b => sepL a b | _, _ => []) ++ (match l[j]? with | some b => tx b | none => []))

theorem prT_zero (l : List Tok) : prT l 0 = [] := rfl
theorem prT_first (a : Tok) (l : List Tok) : prT (a :: l) 1 = tx a := rfl
theorem prT_next (l : List Tok) (j : Nat) (h : j + 1 < l.length) : prT l (j + 2) = prT l (j + 1) ++ (sepL l[j] l[j + 1] ++ tx l[j + 1]) := by
  show prT l (j + 1) ++ _ = _
  congr 1
  have e1 : l[j + 1 - 1]? = some l[j] := by rw [Nat.add_sub_cancel]; exact List.getElem?_eq_getElem (by omega)
  have e2 : l[j + 1]? = some l[j + 1] := List.getElem?_eq_getElem h
  rw [if_neg (by omega), e1, e2]

theorem prT_cons (a b : Tok) (r : List Tok) : ∀ j, j + 1 ≤ (b :: r).length → prT (a :: b :: r) (j + 2) = tx a ++ (sepL a b ++ prT (b :: r) (j + 1))
  | 0, _ => by
    rw [prT_next _ 0 (by simp)]
    rfl
  | j + 1, h => by
    rw [prT_next _ (j + 1) (by simp at h ⊢; omega), prT_cons a b r j (by simp at h ⊢; omega), prT_next (b :: r) j (by simp at h ⊢; omega)]
    simp only [List.getElem_cons_succ, List.append_assoc]

theorem prT_all : ∀ l : List Tok, prT l l.length = printL l
  | [] => rfl
  | [a] => rfl
  | a :: b :: r => by
    have h := prT_cons a b r r.length (by simp)
    have ih := prT_all (b :: r)
    show prT (a :: b :: r) (r.length + 2) = tx a ++ (sepL a b ++ printL (b :: r))
    rw [h, ← ih]
    rfl
theorem len_sepL (a b : Tok) : (sepL a b).length ≤ 4 := by
  unfold sepL
  split <;> simp
end Go.Proofs.Ythfabalnioggcaa.LexP
