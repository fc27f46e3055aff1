/- Layer 7, pure: selectors, their weights, how they are read and written. -/
import Derived.Test.YtfbfndknhabmhaaGreatValP
namespace Go.Proofs.YtfbfndknhabmhaaGreat.SelP
open FixM FixP TreN LexP SynP ValP
set_option linter.unusedVariables false

structure Tst where
  name : List UInt8
  equal : Bool
  value : List UInt8
deriving DecidableEq
structure Prt where
  comb : Int
  tag : List UInt8
  id : List UInt8
  classes : List (List UInt8)
  tests : List Tst
  states : Int
deriving DecidableEq
def textL (s : List UInt8) : Bool := textB ⟨s.toArray⟩
def rightT (t : Tst) : Bool := nameL t.name && (if t.equal = true then textL t.value else decide (t.value = []))
def orNone (s : List UInt8) : Bool := decide (s = []) || nameL s
def rightPt (p : Prt) : Bool := decide (p.classes.length ≤ 8) && (decide (p.tests.length ≤ 8) && (orNone p.tag && (orNone p.id && (decide (0 ≤ p.states) && (decide (p.states ≤ 7) && (p.classes.all nameL && p.tests.all rightT))))))
def combB (i : Nat) (p : Prt) : Bool := if i = 0 then decide (p.comb = 0) else decide (1 ≤ p.comb) && decide (p.comb ≤ 4)
def rightF : Nat → List Prt → Bool
  | _, [] => true
  | i, p :: r => combB i p && (rightPt p && rightF (i + 1) r)
def rightS (l : List Prt) : Bool := decide (0 < l.length) && (decide (l.length ≤ 8) && rightF 0 l)
/-- how many states are asked -/
def bitsN (n : Int) : Nat := if n < 0 then 0 else n.toNat % 2 + n.toNat / 2 % 2 + n.toNat / 4 % 2
def toldN (s : List UInt8) : Nat := min s.length 1
def wP (p : Prt) : Nat × Nat × Nat := (toldN p.id, p.classes.length + p.tests.length + bitsN p.states, toldN p.tag)
def wAdd (a b : Nat × Nat × Nat) : Nat × Nat × Nat := (a.1 + b.1, a.2.1 + b.2.1, a.2.2 + b.2.2)
def wS (l : List Prt) : Nat × Nat × Nat := l.foldr (fun p s => wAdd (wP p) s) (0, 0, 0)
theorem wAdd_assoc (a b c : Nat × Nat × Nat) : wAdd (wAdd a b) c = wAdd a (wAdd b c) := by simp [wAdd, Nat.add_assoc]
theorem wAdd_zero (a : Nat × Nat × Nat) : wAdd (0, 0, 0) a = a := by simp [wAdd]
theorem wS_cons (p : Prt) (l : List Prt) : wS (p :: l) = wAdd (wP p) (wS l) := rfl
/-- P7.5 -/
theorem wS_append : ∀ (l m : List Prt), wS (l ++ m) = wAdd (wS l) (wS m)
  | [], m => (wAdd_zero _).symm
  | p :: l, m => by rw [List.cons_append, wS_cons, wS_append l m, wS_cons, wAdd_assoc]
theorem wS_cut (l : List Prt) (k : Nat) : wS l = wAdd (wS (l.take k)) (wS (l.drop k)) := by rw [← wS_append, List.take_append_drop]

/-- texts: root, first-child, last-child -/
def rootT : List UInt8 := [114, 111, 111, 116]
def firstT : List UInt8 := [102, 105, 114, 115, 116, 45, 99, 104, 105, 108, 100]
def lastT : List UInt8 := [108, 97, 115, 116, 45, 99, 104, 105, 108, 100]
def wordS (n : Int) : List UInt8 := if n = 1 then rootT else if n = 2 then firstT else lastT
def markS (n : Int) : List UInt8 := if n = 2 then [62] else if n = 3 then [43] else [126]
def hasB (n : Int) (k : Int) : Bool := decide (0 ≤ n) && decide (n.toNat / k.toNat % 2 = 1)
def orS (n k : Int) : Int := if hasB n k = true then n else n + k

/-- reading, pure -/
def valT (l : List Tok) : Option (Tok × List Tok) := match takeP 1 l with | some q => some q | none => takeP 5 l
def testE (x : List UInt8) (l : List Tok) : Option (Tst × List Tok) := match valT l with | none => none | some q => (takeP 16 (bs q.2)).map fun z => (⟨x, true, q.1.text⟩, z.2)
def testP (r : List Tok) : Option (Tst × List Tok) := match takeP 1 (bs r) with
  | none => none
  | some q => match passP 19 [61] (bs q.2) with
    | some m => testE q.1.text (bs m)
    | none => (takeP 16 (bs q.2)).map fun z => (⟨q.1.text, false, []⟩, z.2)
def stateP (n : Int) (r : List Tok) : Option (Int × List Tok) := match passP 1 rootT r with
  | some q => some (orS n 1, q)
  | none => match passP 1 firstT r with
    | some q => some (orS n 2, q)
    | none => match passP 1 lastT r with
      | some q => some (orS n 4, q)
      | none => none
def stepP (p : Prt) : List Tok → Option (Option (Prt × List Tok))
  | [] => none
  | t :: r =>
    if t.kind = 4 then some (if p.id = [] then some ({ p with id := t.text }, r) else none)
    else if t.kind = 15 then some ((testP r).map fun q => ({ p with tests := p.tests ++ [q.1] }, q.2))
    else if t.kind = 10 then some ((stateP p.states r).map fun q => ({ p with states := q.1 }, q.2))
    else if t.kind = 19 ∧ t.text = [46] then some ((takeP 1 r).map fun q => ({ p with classes := p.classes ++ [q.1.text] }, q.2))
    else none
theorem stepP_cons (p : Prt) (t : Tok) (r : List Tok) : stepP p (t :: r) = if t.kind = 4 then some (if p.id = [] then some ({ p with id := t.text }, r) else none)
    else if t.kind = 15 then some ((testP r).map fun q => ({ p with tests := p.tests ++ [q.1] }, q.2))
    else if t.kind = 10 then some ((stateP p.states r).map fun q => ({ p with states := q.1 }, q.2))
    else if t.kind = 19 ∧ t.text = [46] then some ((takeP 1 r).map fun q => ({ p with classes := p.classes ++ [q.1.text] }, q.2))
    else none := rfl
def partF : Nat → Bool → Prt → List Tok → Option (Prt × List Tok)
  | 0, _, _, _ => none
  | n + 1, b, p, l => match stepP p l with
    | none => if b = true then some (p, l) else none
    | some none => none
    | some (some q) => partF n true q.1 q.2
def bare (comb : Int) (tag : List UInt8) : Prt := ⟨comb, tag, [], [], [], 0⟩
/-- behind the tag -/
def tagP (l : List Tok) : List UInt8 × Bool × List Tok := match passP 19 [42] l with
  | some r => ([], true, r)
  | none => match takeP 1 l with
    | some q => (q.1.text, true, q.2)
    | none => ([], false, l)
def partP (comb : Int) (l : List Tok) : Option (Prt × List Tok) := partF ((tagP l).2.2.length + 1) (tagP l).2.1 (bare comb (tagP l).1) (tagP l).2.2
def combP (l : List Tok) : Int × List Tok := match passP 19 [62] (bs l) with
  | some q => (2, bs q)
  | none => match passP 19 [43] (bs l) with
    | some q => (3, bs q)
    | none => match passP 19 [126] (bs l) with
      | some q => (4, bs q)
      | none => (if (bs l).length < l.length then 1 else 0, bs l)
def readF : Nat → Int → List Prt → List Tok → Option (List Prt)
  | 0, _, _, _ => none
  | n + 1, c, acc, l => match partP c l with
    | none => none
    | some q => if q.2 = [] then (if rightS (acc ++ [q.1]) = true then some (acc ++ [q.1]) else none) else readF n (combP q.2).1 (acc ++ [q.1]) (combP q.2).2
def readS (l : List Tok) : Option (List Prt) := readF 8 0 [] l
def commaB (t : Tok) : Bool := decide (t.kind = 12)
def parseS (l : List Tok) : Option (List (List Prt)) := (spl commaB l).mapM fun x => readS (trm x)

/-- writing, pure -/
def tkI (x : List UInt8) : Tok := ⟨1, x, 0⟩
def tkD (x : List UInt8) : Tok := ⟨19, x, 0⟩
def tkS (k : Int) : Tok := ⟨k, [], 0⟩
def testT (t : Tst) : List Tok := [tkS 15, tkI t.name] ++ ((if t.equal = true then [tkD [61], ⟨5, t.value, 0⟩] else []) ++ [tkS 16])
def stateT (n k : Int) : List Tok := if hasB n k = true then [tkS 10, tkI (wordS k)] else []
def bodyT (p : Prt) : List Tok := (if p.tag = [] then [] else [tkI p.tag]) ++ ((if p.id = [] then [] else [⟨4, p.id, 0⟩]) ++ (p.classes.flatMap (fun c => [tkD [46], tkI c]) ++ (p.tests.flatMap testT ++ (stateT p.states 1 ++ (stateT p.states 2 ++ stateT p.states 4)))))
def partT (p : Prt) : List Tok := if bodyT p = [] then [tkD [42]] else bodyT p
def combT (c : Int) : List Tok := if c = 0 then [] else if c = 1 then [tkS 20] else [tkS 20, tkD (markS c), tkS 20]
def selT (s : List Prt) : List Tok := s.flatMap fun p => combT p.comb ++ partT p
def sepT (i : Nat) (s : List Prt) : List Tok := (if i = 0 then [] else [tkS 12, tkS 20]) ++ selT s
def lstF : Nat → List (List Prt) → List Tok
  | _, [] => []
  | i, s :: r => sepT i s ++ lstF (i + 1) r
def listT (l : List (List Prt)) : List Tok := lstF 0 l
theorem lstF_append : ∀ (i : Nat) (a b : List (List Prt)), lstF i (a ++ b) = lstF i a ++ lstF (i + a.length) b
  | i, [], b => by simp [lstF]
  | i, s :: a, b => by
    show sepT i s ++ lstF (i + 1) (a ++ b) = sepT i s ++ lstF (i + 1) a ++ lstF (i + (a.length + 1)) b
    rw [lstF_append (i + 1) a b, List.append_assoc]
    congr 3
    omega
theorem lstF_take {l : List (List Prt)} {k : Nat} (h : k < l.length) : lstF 0 (l.take (k + 1)) = lstF 0 (l.take k) ++ sepT k l[k] := by
  rw [List.take_succ_eq_append_getElem h, lstF_append, Nat.zero_add, List.length_take, Nat.min_eq_left (Nat.le_of_lt h)]
  simp [lstF]
def allR (l : List (List Prt)) : Bool := decide (0 < l.length) && l.all rightS

/-! ### what is written is read -/
theorem takeP_hit {k : Int} {t : Tok} {r : List Tok} (h : t.kind = k) : takeP k (t :: r) = some (t, r) := by show (if t.kind = k then _ else _) = _; rw [if_pos h]
theorem takeP_miss {k : Int} {t : Tok} {r : List Tok} (h : t.kind ≠ k) : takeP k (t :: r) = none := by show (if t.kind = k then _ else _) = _; rw [if_neg h]
theorem passP_hit {k : Int} {x : List UInt8} {t : Tok} {r : List Tok} (h : t.kind = k) (h2 : t.text = x) : passP k x (t :: r) = some r := by
  unfold passP
  have e : (nxt (t :: r)).text = x := h2
  rw [if_pos e, takeP_hit h]; rfl
theorem passP_kind {k : Int} {x : List UInt8} {t : Tok} {r : List Tok} (h : t.kind ≠ k) : passP k x (t :: r) = none := by
  unfold passP
  split
  · rw [takeP_miss h]; rfl
  · rfl
theorem passP_text {k : Int} {x : List UInt8} {t : Tok} {r : List Tok} (h : t.text ≠ x) : passP k x (t :: r) = none := by
  unfold passP
  have e : ¬ (nxt (t :: r)).text = x := h
  rw [if_neg e]
theorem passP_nil {k : Int} {x : List UInt8} : passP k x [] = none := by
  unfold passP
  split
  · rfl
  · rfl
theorem bs_hit {t : Tok} {r : List Tok} (h : t.kind ≠ 20) : bs (t :: r) = t :: r := by
  show (t :: r).dropWhile isSp = t :: r
  rw [List.dropWhile_cons, if_neg (by unfold isSp; rw [decide_eq_false h]; simp)]
theorem bs_space {t : Tok} {r : List Tok} (h : t.kind = 20) : bs (t :: r) = bs r := by
  show (t :: r).dropWhile isSp = r.dropWhile isSp
  rw [List.dropWhile_cons, if_pos (by unfold isSp; rw [decide_eq_true h])]
theorem testP_read (t : Tst) (z : List Tok) (h : rightT t = true) : testP (tkI t.name :: ((if t.equal = true then [tkD [61], ⟨5, t.value, 0⟩] else []) ++ (tkS 16 :: z))) = some (t, z) := by
  obtain ⟨n, e, v⟩ := t
  cases e with
  | true =>
    simp only [if_true, List.cons_append, List.nil_append]
    unfold testP
    rw [bs_hit (by show (1 : Int) ≠ 20; decide), takeP_hit (by rfl)]
    simp only []
    rw [bs_hit (by decide), passP_hit (by rfl) (by rfl)]
    simp only []
    rw [bs_hit (by show (5 : Int) ≠ 20; decide)]
    unfold testE valT
    rw [takeP_miss (by show (5 : Int) ≠ 1; decide), takeP_hit (by rfl)]
    simp only []
    rw [bs_hit (by decide), takeP_hit (by rfl)]
    rfl
  | false =>
    have hv : v = [] := by
      unfold rightT at h
      simp at h
      exact h.2
    subst hv
    simp only [Bool.false_eq_true, if_false, List.nil_append]
    unfold testP
    rw [bs_hit (by show (1 : Int) ≠ 20; decide), takeP_hit (by rfl)]
    simp only []
    rw [bs_hit (by decide), passP_kind (by decide), takeP_hit (by rfl)]
    rfl
end Go.Proofs.YtfbfndknhabmhaaGreat.SelP
