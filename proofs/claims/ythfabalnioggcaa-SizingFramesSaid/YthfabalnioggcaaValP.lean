/- Layer 9, pure: cursors over tokens; words, units, values, how they are read and written. -/
import Derived.Test.YthfabalnioggcaaSynPP
namespace Go.Proofs.Ythfabalnioggcaa.ValP
open FixM FixP TreN LexP SynP

/-- the next token; what is passed -/
def zeroT : Tok := ⟨0, [], 0⟩
def nxt : List Tok → Tok
  | [] => zeroT
  | t :: _ => t
def takeP (k : Int) : List Tok → Option (Tok × List Tok)
  | [] => none
  | t :: r => if t.kind = k then some (t, r) else none
def passP (k : Int) (x : List UInt8) (l : List Tok) : Option (List Tok) :=
  if (nxt l).text = x then (takeP k l).map Prod.snd else none
def overP (l : List Tok) : Option (Tok × List Tok) := (passP 19 [47] (bs l)).bind fun r => takeP 7 (bs r)
theorem takeP_len {k : Int} {l : List Tok} {t : Tok} {r : List Tok} (h : takeP k l = some (t, r)) : l = t :: r ∧ t.kind = k := by
  cases l with
  | nil => cases h
  | cons u r' =>
    have h : (if u.kind = k then some (u, r') else none) = some (t, r) := h
    by_cases hk : u.kind = k
    · rw [if_pos hk] at h
      injection h with h; injection h with h1 h2
      subst h1; subst h2
      exact ⟨rfl, hk⟩
    · rw [if_neg hk] at h; cases h
theorem passP_len {k : Int} {x : List UInt8} {l r : List Tok} (h : passP k x l = some r) : ∃ t, l = t :: r ∧ t.kind = k ∧ t.text = x := by
  unfold passP at h
  by_cases hx : (nxt l).text = x
  · rw [if_pos hx] at h
    cases ht : takeP k l with
    | none => rw [ht] at h; cases h
    | some p =>
      obtain ⟨t, r'⟩ := p
      rw [ht] at h
      injection h with h
      have h : r' = r := h
      subst h
      obtain ⟨rfl, h2⟩ := takeP_len ht
      exact ⟨t, rfl, h2, hx⟩
  · rw [if_neg hx] at h; cases h
theorem bs_suf (l : List Tok) : bs l <:+ l := by unfold bs; exact List.dropWhile_suffix _
theorem bs_eq {l : List Tok} (h : ¬ (bs l).length < l.length) : bs l = l := (bs_suf l).eq_of_length_le (by omega)
theorem bs_head {l r : List Tok} {t : Tok} (h : bs l = t :: r) : isSp t = false := by
  induction l with
  | nil => cases h
  | cons u l ih =>
    unfold bs at h
    rw [List.dropWhile_cons] at h
    by_cases hu : isSp u = true
    · rw [if_pos hu] at h; exact ih h
    · rw [if_neg hu] at h
      injection h with h1 h2
      subst h1
      simpa using hu
theorem overP_len {l r : List Tok} {t : Tok} (h : overP l = some (t, r)) : r.length < l.length ∧ r <:+ l := by
  unfold overP at h
  cases hp : passP 19 [47] (bs l) with
  | none => rw [hp] at h; cases h
  | some p =>
    rw [hp] at h
    have h : takeP 7 (bs p) = some (t, r) := h
    obtain ⟨u, e1, _, _⟩ := passP_len hp
    obtain ⟨e2, _⟩ := takeP_len h
    have h1 := bs_len l
    have h2 := bs_len p
    rw [e1] at h1
    rw [e2] at h2
    simp at h1 h2
    refine ⟨by omega, ?_⟩
    have s1 : r <:+ bs p := by rw [e2]; exact List.suffix_cons _ _
    have s2 : p <:+ bs l := by rw [e1]; exact List.suffix_cons _ _
    exact ((s1.trans (bs_suf p)).trans s2).trans (bs_suf l)

/-- words and units -/
def wordsL : List (List UInt8) := [[97, 117, 116, 111],
  [110, 111, 110, 101],
  [98, 108, 111, 99, 107],
  [102, 108, 101, 120],
  [99, 111, 110, 116, 101, 110, 116, 45, 98, 111, 120],
  [98, 111, 114, 100, 101, 114, 45, 98, 111, 120],
  [109, 105, 110, 45, 99, 111, 110, 116, 101, 110, 116],
  [109, 97, 120, 45, 99, 111, 110, 116, 101, 110, 116],
  [102, 105, 116, 45, 99, 111, 110, 116, 101, 110, 116],
  [114, 111, 119],
  [114, 111, 119, 45, 114, 101, 118, 101, 114, 115, 101],
  [99, 111, 108, 117, 109, 110],
  [99, 111, 108, 117, 109, 110, 45, 114, 101, 118, 101, 114, 115, 101],
  [110, 111, 119, 114, 97, 112],
  [119, 114, 97, 112],
  [119, 114, 97, 112, 45, 114, 101, 118, 101, 114, 115, 101],
  [115, 116, 97, 114, 116],
  [101, 110, 100],
  [99, 101, 110, 116, 101, 114],
  [115, 116, 114, 101, 116, 99, 104],
  [115, 112, 97, 99, 101, 45, 98, 101, 116, 119, 101, 101, 110],
  [115, 112, 97, 99, 101, 45, 97, 114, 111, 117, 110, 100],
  [115, 112, 97, 99, 101, 45, 101, 118, 101, 110, 108, 121],
  [110, 111, 114, 109, 97, 108],
  [105, 110, 108, 105, 110, 101, 45, 115, 105, 122, 101],
  [115, 105, 122, 101],
  [99, 111, 110, 116, 101, 110, 116],
  [105, 110, 104, 101, 114, 105, 116],
  [105, 110, 105, 116, 105, 97, 108],
  [117, 110, 115, 101, 116]]
def unitsL : List (List UInt8) := [[112, 120], [101, 109], [99, 113, 119], [99, 113, 104], [99, 113, 105], [99, 113, 98], [99, 113, 109, 105, 110], [99, 113, 109, 97, 120]]
/-- where a text stands in a list, from k on; 0: nowhere -/
def plc : List (List UInt8) → List UInt8 → Nat → Nat
  | [], _, _ => 0
  | x :: r, s, k => if x = s then k else plc r s (k + 1)
theorem plc_bd : ∀ (l : List (List UInt8)) (s : List UInt8) (k : Nat), plc l s k = 0 ∨ (k ≤ plc l s k ∧ plc l s k < k + l.length)
  | [], _, _ => Or.inl rfl
  | x :: r, s, k => by
    unfold plc
    by_cases h : x = s
    · rw [if_pos h]; right; simp
    · rw [if_neg h]
      rcases plc_bd r s (k + 1) with h | h
      · exact Or.inl h
      · right; simp; omega
def wordP (s : List UInt8) : Nat := plc wordsL s 1
def unitP (s : List UInt8) : Nat := plc unitsL s 1
/-- the text of a number -/
def txtP (l : List (List UInt8)) (n : Int) : List UInt8 := if 1 ≤ n ∧ n ≤ l.length then l.getD (n.toNat - 1) [] else []

/-- a value -/
structure Val where
  kind : Int
  n : Int
  d : Int
  name : List UInt8
deriving DecidableEq
def zeroV : Val := ⟨0, 0, 0, []⟩
def nameL (s : List UInt8) : Bool := nameB ⟨s.toArray⟩
def heldB (n : Int) : Bool := decide (n = H n)
def rightV (v : Val) : Bool :=
  if v.kind = 1 then decide (v.d = 0 ∧ v.name = [] ∧ 1 ≤ v.n ∧ v.n ≤ 30)
  else if v.kind = 2 then decide (v.n = H v.n ∧ 1 ≤ v.d ∧ v.d ≤ 8 ∧ v.name = [])
  else if v.kind = 3 ∨ v.kind = 4 then decide (v.n = H v.n ∧ v.d = 0 ∧ v.name = [])
  else if v.kind = 5 then decide (0 ≤ v.n ∧ v.n ≤ 1073741824 ∧ 0 ≤ v.d ∧ v.d ≤ 1073741824 ∧ v.name = [])
  else if v.kind = 6 then decide (v.n = 0 ∧ v.d = 0 ∧ nameL v.name = true ∧ wordP v.name = 0)
  else false
/-- its tokens -/
def ratT (n d : Int) : List Tok := [⟨7, [], n⟩, ⟨20, [], 0⟩, ⟨19, [47], 0⟩, ⟨20, [], 0⟩, ⟨7, [], d⟩]
def tokV (v : Val) : List Tok :=
  if rightV v = true then
    if v.kind = 1 then [⟨1, txtP wordsL v.n, 0⟩]
    else if v.kind = 2 then [⟨9, txtP unitsL v.d, v.n⟩]
    else if v.kind = 3 then [⟨8, [], v.n⟩]
    else if v.kind = 4 then [⟨7, [], v.n⟩]
    else if v.kind = 5 then ratT v.n v.d
    else [⟨1, v.name, 0⟩]
  else []
/-- an Ident's value -/
def namedV (x : List UInt8) : Val := if 0 < wordP x then ⟨1, wordP x, 0, []⟩ else ⟨6, 0, 0, x⟩
/-- what is taken, right or not, and what is left -/
def rawV (l : List Tok) : Val × List Tok :=
  match l with
  | [] => (zeroV, [])
  | t :: r =>
    if t.kind = 7 then
      match overP r with
      | some (u, r2) => (⟨5, t.n, u.n, []⟩, r2)
      | none => (⟨4, t.n, 0, []⟩, r)
    else if t.kind = 8 then (⟨3, t.n, 0, []⟩, r)
    else if t.kind = 9 then (⟨2, t.n, unitP t.text, []⟩, r)
    else if t.kind = 1 then (namedV t.text, r)
    else (zeroV, t :: r)
def readV (l : List Tok) : Val × Nat := if rightV (rawV l).1 = true then ((rawV l).1, l.length - (rawV l).2.length) else (zeroV, 0)
/-- all values -/
def pv : Nat → List Tok → Option (List Val)
  | 0, _ => none
  | f + 1, l =>
    if (readV l).2 = 0 then none
    else if (bs (l.drop (readV l).2)).length < (l.drop (readV l).2).length then (pv f (bs (l.drop (readV l).2))).map ((readV l).1 :: ·)
    else if l.drop (readV l).2 = [] then some [(readV l).1] else none
def parseV (l : List Tok) : Option (List Val) := pv ((trm l).length + 1) (trm l)

theorem rawV_suf (l : List Tok) : (rawV l).2 <:+ l := by
  cases l with
  | nil => exact List.suffix_refl _
  | cons t r =>
    have hs : r <:+ t :: r := List.suffix_cons _ _
    unfold rawV
    dsimp only
    split
    · cases ho : overP r with
      | none => exact hs
      | some p =>
        obtain ⟨u, r2⟩ := p
        exact (overP_len ho).2.trans hs
    · split
      · exact hs
      · split
        · exact hs
        · split
          · exact hs
          · exact List.suffix_refl _
theorem right_zero : rightV zeroV = false := by decide
theorem readV_le (l : List Tok) : (readV l).2 ≤ l.length := by
  unfold readV
  split
  · dsimp only; omega
  · exact Nat.zero_le _
/-- what is read takes a token at least -/
theorem rawV_lt {l : List Tok} (h : rightV (rawV l).1 = true) : (rawV l).2.length < l.length := by
  cases l with
  | nil => exact absurd h (by rw [show (rawV []).1 = zeroV from rfl, right_zero]; simp)
  | cons t r =>
    unfold rawV at h ⊢
    dsimp only at h ⊢
    split at h
    · rename_i h7
      rw [if_pos h7]
      cases ho : overP r with
      | none => simp
      | some p =>
        obtain ⟨u, r2⟩ := p
        have := (overP_len ho).1
        simp; omega
    · rename_i h7
      rw [if_neg h7]
      split at h
      · rename_i h8; rw [if_pos h8]; simp
      · rename_i h8
        rw [if_neg h8]
        split at h
        · rename_i h9; rw [if_pos h9]; simp
        · rename_i h9
          rw [if_neg h9]
          split at h
          · rename_i h1; rw [if_pos h1]; simp
          · rw [right_zero] at h; cases h
theorem readV_pos {l : List Tok} (h : rightV (rawV l).1 = true) : 0 < (readV l).2 ∧ l.drop (readV l).2 = (rawV l).2 := by
  have h1 := rawV_lt h
  unfold readV
  rw [if_pos h]
  dsimp only
  refine ⟨by omega, ?_⟩
  obtain ⟨p, hp⟩ := rawV_suf l
  have hl : l.length - (rawV l).2.length = p.length := by
    have := congrArg List.length hp
    rw [List.length_append] at this; omega
  rw [hl]
  conv => lhs; rw [← hp]
  rw [List.drop_left]
theorem readV_no {l : List Tok} (h : rightV (rawV l).1 = false) : readV l = (zeroV, 0) := by unfold readV; rw [h]; rfl
theorem readV_zero {l : List Tok} : (readV l).2 = 0 ↔ rightV (rawV l).1 = false := by
  constructor
  · intro h
    cases hr : rightV (rawV l).1 with
    | false => rfl
    | true => have := (readV_pos hr).1; omega
  · intro h; rw [readV_no h]
theorem pv_same : ∀ (f : Nat) (l : List Tok) (g : Nat), l.length < f → l.length < g → pv f l = pv g l
  | 0, l, g, h, _ => by omega
  | f + 1, l, 0, _, h => by omega
  | f + 1, l, g + 1, h1, h2 => by
    unfold pv
    by_cases h0 : (readV l).2 = 0
    · rw [if_pos h0, if_pos h0]
    · rw [if_neg h0, if_neg h0]
      by_cases hb : (bs (l.drop (readV l).2)).length < (l.drop (readV l).2).length
      · rw [if_pos hb, if_pos hb]
        have h3 : (l.drop (readV l).2).length ≤ l.length := by rw [List.length_drop]; omega
        rw [pv_same f _ g (by omega) (by omega)]
      · rw [if_neg hb, if_neg hb]
theorem nameL_0 : nameL [] = false := by decide
end Go.Proofs.Ythfabalnioggcaa.ValP
