/- Layer 17 in numbers: what is told comes to a style. -/
import Derived.Test.YtlngipglhlhhbaaPropP
import Derived.Test.YtlngipglhlhhbaaMsr
namespace Go.Proofs.Ytlngipglhlhhbaa
open TreN LexP FixP SynP ValP PropP FixM
set_option linter.unusedVariables false

/-- a value's word; nothing, if it is none -/
def wordS (v : Val) : List UInt8 := if v.kind = 1 then txtP wordsL v.n else []
def inhT : List UInt8 := [105, 110, 104, 101, 114, 105, 116]
def iniT : List UInt8 := [105, 110, 105, 116, 105, 97, 108]
def unsT : List UInt8 := [117, 110, 115, 101, 116]
/-- what is told of a property that it takes -/
def tellS (L : List Val) (p : Nat) : Option Val :=
  match L[p - 1]? with
  | some v => if takesP p v = true then some v else none
  | none => none
def unsB (o : Option Val) : Bool := o.isNone || decide (wordS (o.getD zeroV) = unsT)
/-- what a property has of its own, of what is told of it -/
def hasO (o : Option Val) (p : Nat) : Option Val :=
  if wordS (o.getD zeroV) = inhT ∨ (unsB o = true ∧ (p = 36 ∨ p = 37)) then none
  else if wordS (o.getD zeroV) = iniT ∨ unsB o = true then some (firstZ p)
  else o
def hasS (L : List Val) (p : Nat) : Option Val := hasO (tellS L p) p
/-- what a length measures; at least 0; an em -/
def msS (v : Val) (f a b : Int) : Int := measS v.kind v.n v.d f a b
def upS (v : Val) (f a b : Int) : Int := max 0 (msS v f a b)
def fontS (v : Val) (f a b : Int) : Int := if v.kind = 3 then max 0 (PT f v.n 100000) else upS v f a b
def noneT : List UInt8 := [110, 111, 110, 101]
def minT : List UInt8 := [109, 105, 110, 45, 99, 111, 110, 116, 101, 110, 116]
def maxT : List UInt8 := [109, 97, 120, 45, 99, 111, 110, 116, 101, 110, 116]
def conT : List UInt8 := [99, 111, 110, 116, 101, 110, 116]
def fitT : List UInt8 := [102, 105, 116, 45, 99, 111, 110, 116, 101, 110, 116]
def norT : List UInt8 := [110, 111, 114, 109, 97, 108]
def borT : List UInt8 := [98, 111, 114, 100, 101, 114, 45, 98, 111, 120]
def callS (s : List UInt8) : Int := if s = noneT then 6 else if s = minT then 3 else if s = maxT ∨ s = conT then 4 else if s = fitT then 5 else if s = norT then 1 else 0
def sizK1 (v : Val) : Int := if v.kind = 2 then 1 else if v.kind = 3 then 2 else callS (wordS v)
def sizN1 (v : Val) (m : Int) : Int := if v.kind = 2 then m else if v.kind = 3 then v.n else 0
def placeS (p : Nat) (v : Val) : Int := (plc (wrdsP p) (wordS v) 1 : Nat) - 1
def ratN (v : Val) : Int := if v.kind = 4 then v.n else if v.kind = 5 then v.n else 0
def ratD (v : Val) : Int := if v.kind = 4 then 1000 else if v.kind = 5 then v.d else 0
def lineS (v : Val) : Int := if v.kind = 4 then v.n else 1200
/-- which property a cell belongs to; its first cell -/
def pofC (c : Nat) : Nat :=
  if c < 2 then c + 1 else if c < 14 then c / 2 + 2 else if c < 22 then c / 2 + 2 else if c < 30 then c / 2 + 2 else if c < 34 then c - 13 else if c < 36 then 21 else if c < 40 then c - 14
  else if c < 42 then 26 else if c < 47 then c - 15 else if c < 51 then 32 + (c - 47) / 2 else c - 17
def basC (p : Nat) : Nat :=
  if p < 3 then p - 1 else if p < 17 then 2 * p - 4 else if p < 21 then p + 13 else if p = 21 then 34 else if p < 26 then p + 14 else if p = 26 then 40 else if p < 32 then p + 15 else if p < 34 then 2 * p - 17 else p + 17
/-- the cells of a property's value -/
def outC (p : Nat) (v : Val) (em a b : Int) (j : Nat) : Value :=
  if p = 1 ∨ p = 22 ∨ p = 23 ∨ (28 ≤ p ∧ p ≤ 31) ∨ p = 34 then .int .i64 (placeS p v)
  else if p = 2 then .bool (decide (wordS v = borT))
  else if (3 ≤ p ∧ p ≤ 8) ∨ (13 ≤ p ∧ p ≤ 16) ∨ p = 26 ∨ p = 32 ∨ p = 33 then (if j = 0 then .int .i64 (sizK1 v) else .int .i64 (sizN1 v (upS v em a b)))
  else if 9 ≤ p ∧ p ≤ 12 then (if j = 0 then .int .i64 (sizK1 v) else .int .i64 (sizN1 v (msS v em a b)))
  else if 17 ≤ p ∧ p ≤ 20 then .int .i64 (upS v em a b)
  else if p = 21 then (if j = 0 then .int .i64 (ratN v) else .int .i64 (ratD v))
  else if p = 24 ∨ p = 25 then .int .i64 v.n
  else if p = 27 then .int .i64 (v.n.tdiv 1000)
  else if p = 35 then .string ⟨v.name.toArray⟩
  else .int .i64 (lineS v)
/-- the em -/
def emS (o : Option Val) (f a b : Int) : Int := match o with
  | some v => fontS v f a b
  | none => f
/-- the style, when the properties up to k have been put -/
def stS (P : Nat → Value) (G : Nat → Option Val) (em a b : Int) (k c : Nat) : Value :=
  if c = 53 then .int .i64 em
  else if pofC c ≤ k then (match G (pofC c) with
    | some v => outC (pofC c) v em a b (c - basC (pofC c))
    | none => P c)
  else P c
def twoB (p : Nat) : Bool := decide ((3 ≤ p ∧ p ≤ 16) ∨ p = 21 ∨ p = 26 ∨ p = 32 ∨ p = 33)
theorem pof_inv : ∀ c : Fin 55, c.val = basC (pofC c.val) ∨ (c.val = basC (pofC c.val) + 1 ∧ twoB (pofC c.val) = true) := by decide
theorem bas_lt : ∀ p : Fin 38, 1 ≤ p.val → basC p.val + (if twoB p.val = true then 1 else 0) < 55 ∧ pofC (basC p.val) = p.val ∧ (twoB p.val = true → pofC (basC p.val + 1) = p.val) := by decide
/-- what a style is when a property's value is put -/
def putF (cc : Nat → Value) (p : Nat) (v : Val) (em a b : Int) (c : Nat) : Value := if pofC c = p ∧ p ≠ 36 then outC p v em a b (c - basC p) else cc c
theorem cells_pof : ∀ c : Fin 55, basC (pofC c.val) ≤ c.val ∧ c.val ≤ basC (pofC c.val) + 1 ∧ 1 ≤ pofC c.val ∧ pofC c.val ≤ 37 := by decide
theorem pof_bas : ∀ p : Fin 38, 1 ≤ p.val → pofC (basC p.val) = p.val := by decide
end Go.Proofs.Ytlngipglhlhhbaa
