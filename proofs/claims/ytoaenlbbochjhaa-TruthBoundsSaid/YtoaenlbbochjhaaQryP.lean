/- Layer 8: queries: what stands for what, which may be (pure). -/
import Derived.Test.YtoaenlbbochjhaaFixAll
namespace Go.Proofs.Ytoaenlbbochjhaa.QryP
open FixM FixP TreN

structure Bd where
  op : Int
  n : Int
  d : Int
deriving DecidableEq
structure QN where
  kind : Int
  count : Int
  feat : Int
  lo : Bd
  hi : Bd
deriving DecidableEq
def Bd.zero : Bd := ⟨0, 0, 0⟩
/-- is there a bound? -/
def thrB (b : Bd) : Bool := !(decide (b.op = 0) && (decide (b.n = 0) && decide (b.d = 0)))
theorem thrB_iff (b : Bd) : thrB b = true ↔ ¬ (b.op = 0 ∧ b.n = 0 ∧ b.d = 0) := by unfold thrB; rw [← Bool.decide_and, ← Bool.decide_and, Bool.not_eq_true', decide_eq_false_iff_not]
theorem thrB_no (b : Bd) : thrB b = false ↔ (b.op = 0 ∧ b.n = 0 ∧ b.d = 0) := by unfold thrB; rw [← Bool.decide_and, ← Bool.decide_and, Bool.not_eq_false', decide_eq_true_iff]

/-- how many parts follow a node; none: it is of no kind that there is -/
def cntQ (x : QN) : Option Nat := if x.kind = 1 ∨ x.kind = 2 then some x.count.toNat else if x.kind = 3 then some 1 else if x.kind = 4 then some 0 else none
/-- how many nodes so many parts are -/
def eat : List QN → Nat → Option Nat
  | _, 0 => some 0
  | [], _ + 1 => none
  | x :: l, w + 1 => match cntQ x with | none => none | some c => (eat l (w + c)).map (· + 1)
theorem eat_zero (l : List QN) : eat l 0 = some 0 := by cases l <;> rfl
theorem eat_nil (w : Nat) : eat [] (w + 1) = none := rfl
theorem eat_cons (x : QN) (l : List QN) (w : Nat) : eat (x :: l) (w + 1) = match cntQ x with | none => none | some c => (eat l (w + c)).map (· + 1) := rfl
theorem eat_le : ∀ (l : List QN) (w n : Nat), eat l w = some n → w ≤ n ∧ n ≤ l.length
  | l, 0, n, h => by rw [eat_zero] at h; injection h with h; omega
  | [], w + 1, n, h => by rw [eat_nil] at h; cases h
  | x :: l, w + 1, n, h => by
    rw [eat_cons] at h
    cases hc : cntQ x with
    | none => rw [hc] at h; cases h
    | some c =>
      rw [hc] at h
      cases he : eat l (w + c) with
      | none => simp [he] at h
      | some m =>
        simp [he] at h
        have := eat_le l (w + c) m he
        simp only [List.length_cons]; omega
theorem eat_far {l : List QN} {w : Nat} (h : l.length < w) : eat l w = none := by
  cases he : eat l w with
  | none => rfl
  | some n => have := eat_le l w n he; omega
theorem eat_add : ∀ (l : List QN) (a b : Nat), eat l (a + b) = (eat l a).bind fun n => (eat (l.drop n) b).map (n + ·)
  | l, 0, b => by rw [eat_zero, Nat.zero_add]; simp only [Option.bind_some, List.drop_zero]; cases eat l b <;> simp
  | [], a + 1, b => by rw [show a + 1 + b = (a + b) + 1 by omega, eat_nil, eat_nil]; rfl
  | x :: l, a + 1, b => by
    rw [show a + 1 + b = (a + b) + 1 by omega, eat_cons, eat_cons]
    cases hc : cntQ x with
    | none => rfl
    | some c =>
      simp only []
      rw [show a + b + c = (a + c) + b by omega, eat_add l (a + c) b]
      cases eat l (a + c) with
      | none => rfl
      | some n =>
        simp only [Option.bind_some, Option.map_some, List.drop_succ_cons]
        cases eat (l.drop n) b with
        | none => rfl
        | some m => simp only [Option.map_some, Option.some.injEq]; omega
theorem eat_less {l : List QN} {a b : Nat} (h : a ≤ b) (hn : eat l a = none) : eat l b = none := by
  rw [show b = a + (b - a) by omega, eat_add, hn]; rfl
/-- more parts than nodes are as good as any more -/
theorem eat_cap {l : List QN} {v c m : Nat} (hm : l.length < m) : eat l (v + min c m) = eat l (v + c) := by
  by_cases h : c ≤ m
  · rw [Nat.min_eq_left h]
  · rw [Nat.min_eq_right (by omega), eat_far (by omega), eat_far (by omega)]

/-- the place behind what a node stands for; 0: there is none -/
def spanS (L : List QN) (i : Nat) : Nat := match eat (L.drop i) 1 with | some n => i + n | none => 0
theorem spanS_far {L : List QN} {i : Nat} (h : L.length ≤ i) : spanS L i = 0 := by
  unfold spanS; rw [List.drop_of_length_le h]; rfl

def bdR (f : Int) (b : Bd) : Bool :=
  decide (1 ≤ b.op ∧ b.op ≤ 5) && (if f = 6 then decide (b.op = 3 ∧ b.d = 0 ∧ (b.n = 1 ∨ b.n = 2)) else if f = 5 then decide (1 ≤ b.n ∧ 1 ≤ b.d ∧ b.n ≤ 1073741824 ∧ b.d ≤ 1073741824) else decide (b.d = 0 ∧ -1073741824 ≤ b.n ∧ b.n ≤ 1073741824))
def ftR (x : QN) : Bool :=
  decide (x.count = 0 ∧ 1 ≤ x.feat ∧ x.feat ≤ 6) && (if thrB x.hi = false then !thrB x.lo else bdR x.feat x.hi && (!thrB x.lo || (decide (x.feat ≠ 6) && (bdR x.feat x.lo && decide (x.lo.op ≤ 2 ∧ x.hi.op ≤ 2 ∨ 4 ≤ x.lo.op ∧ 4 ≤ x.hi.op)))))
def ndR (x : QN) : Bool :=
  if x.kind = 4 then ftR x else (decide (x.feat = 0) && (!thrB x.lo && !thrB x.hi)) && decide (x.kind = 3 ∧ x.count = 1 ∨ 2 ≤ x.count ∧ (x.kind = 1 ∨ x.kind = 2))
/-- as the code asks -/
def vlC (f : Int) (b : Bd) : Bool := if f = 5 then decide (1 ≤ b.n ∧ b.n ≤ 1073741824 ∧ 1 ≤ b.d ∧ b.d ≤ 1073741824) else if f = 6 then decide ((b.n = 1 ∨ b.n = 2) ∧ b.d = 0) else decide (b.n = H b.n ∧ b.d = 0)
def onC (a b : Int) : Bool := (decide (a = 1 ∨ a = 2) && decide (b = 1 ∨ b = 2)) || (decide (a = 4 ∨ a = 5) && decide (b = 4 ∨ b = 5))
def ftC (x : QN) : Bool :=
  if x.feat < 1 ∨ 6 < x.feat then false else if thrB x.hi = false then !thrB x.lo
  else if x.feat = 6 then !thrB x.lo && (decide (x.hi.op = 3) && vlC x.feat x.hi)
  else if thrB x.lo = false then decide (1 ≤ x.hi.op) && (decide (x.hi.op ≤ 5) && vlC x.feat x.hi)
  else onC x.lo.op x.hi.op && (vlC x.feat x.lo && vlC x.feat x.hi)
def ndC (x : QN) : Bool :=
  if x.kind = 4 then decide (x.count = 0) && ftC x else if ¬ x.feat = 0 ∨ thrB x.lo = true ∨ thrB x.hi = true then false else if x.kind = 3 then decide (x.count = 1) else decide (2 ≤ x.count)
theorem H_self (n : Int) : (n = H n) ↔ (-1073741824 ≤ n ∧ n ≤ 1073741824) := by unfold H; constructor <;> intro h <;> (repeat' split at h) <;> (try (repeat' split)) <;> omega
theorem dec_eq {p q : Prop} [Decidable p] [Decidable q] (h : p ↔ q) : decide p = decide q := by
  by_cases hp : p
  · rw [decide_eq_true hp, decide_eq_true (h.1 hp)]
  · rw [decide_eq_false hp, decide_eq_false (fun hq => hp (h.2 hq))]
theorem vlC_bdR (f : Int) (b : Bd) : bdR f b = (decide (1 ≤ b.op ∧ b.op ≤ 5) && ((if f = 6 then decide (b.op = 3) else true) && vlC f b)) := by
  unfold bdR vlC
  by_cases h6 : f = 6
  · subst h6; simp only [if_true, if_neg (by decide : ¬ (6 : Int) = 5)]
    congr 1
    rw [← Bool.decide_and]; exact dec_eq (by constructor <;> intro h <;> omega)
  · by_cases h5 : f = 5
    · subst h5; simp only [if_true, if_neg (by decide : ¬ (5 : Int) = 6), Bool.true_and]
      congr 1
      exact dec_eq (by constructor <;> intro h <;> omega)
    · simp only [if_neg h6, if_neg h5, Bool.true_and]
      congr 1
      exact dec_eq (by have := H_self b.n; constructor <;> intro h <;> omega)
theorem onC_eq (a b : Int) : onC a b = (decide (1 ≤ b ∧ b ≤ 5) && (decide (1 ≤ a ∧ a ≤ 5) && decide (a ≤ 2 ∧ b ≤ 2 ∨ 4 ≤ a ∧ 4 ≤ b))) := by
  unfold onC
  rw [← Bool.decide_and, ← Bool.decide_and, ← Bool.decide_or, ← Bool.decide_and, ← Bool.decide_and]
  exact dec_eq (by constructor <;> intro h <;> omega)
theorem ftC_ftR (x : QN) : (decide (x.count = 0) && ftC x) = ftR x := by
  by_cases hc : x.count = 0
  · rw [decide_eq_true hc, Bool.true_and]
    by_cases hf : x.feat < 1 ∨ 6 < x.feat
    · unfold ftR ftC
      rw [if_pos hf, decide_eq_false (by omega)]; rfl
    · have hd : decide (x.count = 0 ∧ 1 ≤ x.feat ∧ x.feat ≤ 6) = true := decide_eq_true (by omega)
      unfold ftR ftC
      rw [if_neg hf, hd, Bool.true_and]
      cases hh : thrB x.hi with
      | false => rw [if_pos rfl, if_pos rfl]
      | true =>
        rw [if_neg (show ¬ (true = false) by decide), if_neg (show ¬ (true = false) by decide), vlC_bdR, vlC_bdR]
        by_cases h6 : x.feat = 6
        · have hn : decide (x.feat ≠ 6) = false := decide_eq_false (by simp [h6])
          simp only [if_pos h6, hn, Bool.false_and, Bool.or_false]
          by_cases h3 : x.hi.op = 3
          · have h5 : decide (1 ≤ x.hi.op ∧ x.hi.op ≤ 5) = true := decide_eq_true (by omega)
            rw [decide_eq_true h3, h5]; cases thrB x.lo <;> cases vlC x.feat x.hi <;> rfl
          · rw [decide_eq_false h3]; cases thrB x.lo <;> cases vlC x.feat x.hi <;> cases decide (1 ≤ x.hi.op ∧ x.hi.op ≤ 5) <;> rfl
        · have hn : decide (x.feat ≠ 6) = true := decide_eq_true h6
          simp only [if_neg h6, hn, Bool.true_and]
          cases hl : thrB x.lo with
          | false => rw [if_pos rfl, ← Bool.and_assoc, ← Bool.decide_and]; cases (decide (1 ≤ x.hi.op ∧ x.hi.op ≤ 5) && vlC x.feat x.hi) <;> rfl
          | true =>
            rw [if_neg (show ¬ (true = false) by decide), onC_eq]
            cases vlC x.feat x.hi <;> cases vlC x.feat x.lo <;> cases decide (1 ≤ x.hi.op ∧ x.hi.op ≤ 5) <;> cases decide (1 ≤ x.lo.op ∧ x.lo.op ≤ 5) <;> cases decide (x.lo.op ≤ 2 ∧ x.hi.op ≤ 2 ∨ 4 ≤ x.lo.op ∧ 4 ≤ x.hi.op) <;> rfl
  · rw [decide_eq_false hc]
    unfold ftR
    rw [decide_eq_false (by omega)]; rfl
theorem ndC_ndR {x : QN} (h : cntQ x ≠ none) : ndC x = ndR x := by
  unfold ndC ndR
  by_cases h4 : x.kind = 4
  · rw [if_pos h4, if_pos h4, ftC_ftR]
  · rw [if_neg h4, if_neg h4]
    have hk : x.kind = 1 ∨ x.kind = 2 ∨ x.kind = 3 := by
      unfold cntQ at h
      by_cases a : x.kind = 1 ∨ x.kind = 2
      · omega
      · rw [if_neg a] at h
        by_cases b : x.kind = 3
        · omega
        · rw [if_neg b, if_neg h4] at h; exact absurd rfl h
    by_cases hf : x.feat = 0
    · cases hl : thrB x.lo with
      | true => rw [if_pos (Or.inr (Or.inl rfl))]; simp
      | false =>
        cases hh : thrB x.hi with
        | true => rw [if_pos (Or.inr (Or.inr rfl))]; simp
        | false =>
          rw [if_neg (by simp [hf]), decide_eq_true hf]
          simp only [Bool.not_false, Bool.true_and]
          by_cases h3 : x.kind = 3
          · rw [if_pos h3]; exact dec_eq (by omega)
          · rw [if_neg h3]; exact dec_eq (by omega)
    · rw [if_pos (Or.inl hf), decide_eq_false hf]; rfl
/-- all that is eaten is of a kind -/
theorem eat_kinds : ∀ (l : List QN) (w : Nat), eat l w = some l.length → ∀ x ∈ l, cntQ x ≠ none
  | [], w, h, x, hx => by cases hx
  | y :: l, 0, h, x, hx => by rw [eat_zero] at h; injection h with h; simp at h
  | y :: l, w + 1, h, x, hx => by
    rw [eat_cons] at h
    cases hc : cntQ y with
    | none => rw [hc] at h; cases h
    | some c =>
      rw [hc] at h
      cases he : eat l (w + c) with
      | none => simp [he] at h
      | some m =>
        simp [he] at h
        rcases List.mem_cons.1 hx with rfl | hx
        · rw [hc]; simp
        · exact eat_kinds l (w + c) (by rw [he, h]) x hx

def rsvL : List (List UInt8) := [[97, 110, 100], [111, 114], [110, 111, 116], [110, 111, 110, 101]]
def rsvB (s : ByteArray) : Bool := rsvL.contains s.data.toList
def nmB (s : ByteArray) : Bool := decide (s.size = 0) || (!rsvB s && nameB s)
/-- may a query be? -/
def rightQ (s : ByteArray) (L : List QN) : Bool := nmB s && (L.all ndR && decide (0 < L.length ∧ L.length ≤ 32 ∧ spanS L 0 = L.length))
def rightQC (s : ByteArray) (L : List QN) : Bool := decide (0 < L.length ∧ L.length ≤ 32 ∧ spanS L 0 = L.length) && (nmB s && L.all ndC)
theorem span_kinds {L : List QN} (h0 : 0 < L.length) (h : spanS L 0 = L.length) : eat L 1 = some L.length := by
  unfold spanS at h
  rw [List.drop_zero] at h
  cases he : eat L 1 with
  | none => rw [he] at h; simp only [] at h; omega
  | some n => rw [he] at h; simp only [] at h; congr 1; omega
theorem rightQ_eq (s : ByteArray) (L : List QN) : rightQC s L = rightQ s L := by
  unfold rightQC rightQ
  by_cases h : 0 < L.length ∧ L.length ≤ 32 ∧ spanS L 0 = L.length
  · have hk := eat_kinds L 1 (span_kinds h.1 h.2.2)
    have e : L.all ndC = L.all ndR := by
      rw [Bool.eq_iff_iff, List.all_eq_true, List.all_eq_true]
      constructor
      · intro g x hx; rw [← ndC_ndR (hk x hx)]; exact g x hx
      · intro g x hx; rw [ndC_ndR (hk x hx)]; exact g x hx
    rw [decide_eq_true h, e]; simp
  · rw [decide_eq_false h]; simp
end Go.Proofs.Ytoaenlbbochjhaa.QryP
