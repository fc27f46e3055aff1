/- Layer 19, pure: parts that are stacked. -/
import Derived.Test.YtajmmnmagbnigaaFixAll
namespace Go.Proofs.Ytajmmnmagbnigaa
open FixM

namespace StrP
def jU (a b : Int) : Int := max (H a) (H b)
def jD (a b : Int) : Int := min (H a) (H b)
def wT (u d : Int) : Int := H (H u + H d)
/-- what a stacker knows -/
structure Sk where
  hu : Int
  hd : Int
  fu : Int
  fd : Int
  hh : Int
  th : Bool
  tp : Bool
  bt : Bool
  sd : Bool
  y : Int
  lu : Int
  ld : Int
/-- a part -/
structure Pt where
  tu : Int
  td : Int
  bu : Int
  bd : Int
  h : Int
  thr : Bool
def esc (s : Sk) : Bool := s.tp && !s.sd
def plc (s : Sk) : Int := if esc s = true then s.y else H (H s.y + H (wT s.lu s.ld))
def jnd (s : Sk) (u d : Int) : Sk := { s with lu := jU s.lu u, ld := jD s.ld d }
def hed (s : Sk) : Sk := { s with hu := s.lu, hd := s.ld }
def std (s : Sk) (y u d : Int) : Sk := { s with sd := true, y := y, lu := u, ld := d }
def nxt (s : Sk) (p : Pt) : Sk :=
  if p.thr = true then (if p.bu = p.tu ∧ p.bd = p.td then jnd s p.tu p.td else jnd (jnd s p.tu p.td) p.bu p.bd)
  else std (if esc s = true then hed (jnd s p.tu p.td) else jnd s p.tu p.td) (H (H (plc (jnd s p.tu p.td)) + H p.h)) (H p.bu) (H p.bd)
def atP (s : Sk) (p : Pt) : Int := plc (jnd s p.tu p.td)
def fin (s : Sk) : Sk := if esc s = true then { s with hu := s.lu, hd := s.ld, th := s.bt } else if s.bt = true then { s with fu := s.lu, fd := s.ld, hh := max 0 s.y } else { s with hh := max 0 (plc s) }
def run (s : Sk) (l : List Pt) : Sk := l.foldl nxt s
def ats : Sk → List Pt → List Int
  | _, [] => []
  | s, p :: l => atP s p :: ats (nxt s p) l
def sk0 (top bottom : Bool) : Sk := ⟨0, 0, 0, 0, 0, false, top, bottom, false, 0, 0, 0⟩
theorem ats_length : ∀ (l : List Pt) (s : Sk), (ats s l).length = l.length
  | [], _ => rfl
  | p :: l, s => by simp [ats, ats_length l]
theorem run_snoc (s : Sk) (l : List Pt) (p : Pt) : run s (l ++ [p]) = nxt (run s l) p := by simp [run]
theorem ats_snoc : ∀ (l : List Pt) (s : Sk) (p : Pt), ats s (l ++ [p]) = ats s l ++ [atP (run s l) p]
  | [], s, p => rfl
  | q :: l, s, p => by simp [ats, ats_snoc l, run]
end StrP
end Go.Proofs.Ytajmmnmagbnigaa
