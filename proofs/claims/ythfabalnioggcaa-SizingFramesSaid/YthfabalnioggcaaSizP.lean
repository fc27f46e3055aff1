/- Layer 20, pure: how large a box is. -/
import Derived.Test.YthfabalnioggcaaFixWa
namespace Go.Proofs.Ythfabalnioggcaa
open Go.RowKit FixP FixM

def addZ (a b : Int) : Int := H (H a + H b)
def subZ (a b : Int) : Int := H (H a - H b)
/-- a size's worth; what it is not worth -/
def worthZ (k n av : Int) : Int := if k = 1 then H n else if k = 2 then PT av n 100000 else 0
def isZ (k : Int) : Bool := decide (k = 1 ∨ k = 2)
/-- a size as a box, a box as a size -/
def boxZ (b : Bool) (n extra : Int) : Int := if b = true then max (H n) extra else addZ (max n 0) extra
def sizZ (b : Bool) (n extra : Int) : Int := if b = true then H n else max (subZ n extra) 0
/-- a case: the style's cells, and the four numbers -/
structure Cz where
  z : Nat → Int
  b : Bool
  nm : ByteArray
  av : Int
  bs : Int
  ls : Int
  ms : Int
def Cz.pad (c : Cz) (i : Nat) : Int := max (worthZ (c.z (22 + i * 2)) (c.z (22 + i * 2 + 1)) c.av) 0
def Cz.edge (c : Cz) (i : Nat) : Int := max (H (c.z (30 + i))) 0
def Cz.mar (c : Cz) (i : Nat) : Int := worthZ (c.z (14 + i * 2)) (c.z (14 + i * 2 + 1)) c.av
def Cz.pair (c : Cz) (i j : Nat) : Int := addZ (addZ (c.pad i) (c.pad j)) (addZ (c.edge i) (c.edge j))
def Cz.x (c : Cz) : Int := c.pair 3 1
def Cz.y (c : Cz) : Int := c.pair 0 2
def Cz.rated (c : Cz) : Bool := decide (0 < c.z 34) && decide (0 < c.z 35)
def Cz.free (c : Cz) : Int := max (subZ (subZ c.av (c.mar 3)) (c.mar 1)) c.x
def Cz.least (c : Cz) : Int := max (H c.ls) 0
def Cz.most (c : Cz) : Int := max (H c.ms) 0
def Cz.fit (c : Cz) : Int := max (min c.most c.free) c.least
def Cz.says (c : Cz) (k n : Int) : Option Int :=
  if k = 1 ∨ k = 2 then some (boxZ c.b (worthZ k n c.av) c.x) else if k = 3 then some c.least else if k = 4 then some c.most else if k = 5 then some c.fit else none
def Cz.saysH (c : Cz) (k n : Int) : Option Int :=
  if k = 1 then some (boxZ c.b n c.y) else if k = 2 ∧ 0 ≤ c.bs then some (boxZ c.b (PT c.bs n 100000) c.y) else none
def betw (n : Int) (hi lo : Option Int) : Int := let m := match hi with | some h => min (H n) h | none => H n; match lo with | some l => max m l | none => m
def Cz.keepW (c : Cz) (w : Int) : Int := max (betw w (c.says (c.z 10) (c.z 11)) (c.says (c.z 6) (c.z 7))) c.x
def Cz.keepH (c : Cz) (h : Int) : Int := max (betw h (c.saysH (c.z 12) (c.z 13)) (c.saysH (c.z 8) (c.z 9))) c.y
def Cz.given (c : Cz) : Option Int := (c.saysH (c.z 4) (c.z 5)).map c.keepH
def Cz.wide0 (c : Cz) : Int := match c.says (c.z 2) (c.z 3) with
  | some w => w
  | none => match c.given with
    | some h => if c.rated = true then boxZ c.b (PT (sizZ c.b h c.y) (c.z 34) (c.z 35)) c.x else c.free
    | none => c.free
def Cz.wide (c : Cz) : Int := c.keepW c.wide0
def Cz.high0 (c : Cz) (w k : Int) : Int := match c.given with
  | some h => h
  | none => if c.rated = true then boxZ c.b (PT (sizZ c.b w c.x) (c.z 35) (c.z 34)) c.y else addZ (max k 0) c.y
theorem addZ_bd (a b : Int) : -1073741824 ≤ addZ a b ∧ addZ a b ≤ 1073741824 := H_bd _
theorem subZ_bd (a b : Int) : -1073741824 ≤ subZ a b ∧ subZ a b ≤ 1073741824 := H_bd _
end Go.Proofs.Ythfabalnioggcaa
