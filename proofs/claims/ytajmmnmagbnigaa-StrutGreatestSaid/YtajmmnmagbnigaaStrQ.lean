/- Layer 19, pure: what follows. -/
import Derived.Test.YtajmmnmagbnigaaStrP
namespace Go.Proofs.Ytajmmnmagbnigaa
open FixM
namespace StrP
/-- a box with neither end open -/
structure Shut (s : Sk) : Prop where
  hu : s.hu = 0
  hd : s.hd = 0
  fu : s.fu = 0
  fd : s.fd = 0
  th : s.th = false
  tp : s.tp = false
  bt : s.bt = false
theorem Shut.nxt {s : Sk} (h : Shut s) (p : Pt) : Shut (nxt s p) := by
  have he : ¬ esc s = true := by unfold esc; rw [h.tp]; simp
  unfold StrP.nxt
  split
  · split
    · exact ⟨h.hu, h.hd, h.fu, h.fd, h.th, h.tp, h.bt⟩
    · exact ⟨h.hu, h.hd, h.fu, h.fd, h.th, h.tp, h.bt⟩
  · try rw [if_neg he]
    exact ⟨h.hu, h.hd, h.fu, h.fd, h.th, h.tp, h.bt⟩
theorem Shut.run : ∀ (l : List Pt) {s : Sk}, Shut s → Shut (run s l)
  | [], _, h => h
  | p :: l, _, h => Shut.run l (h.nxt p)
theorem fin_eq {s : Sk} (h : Shut s) : fin s = { s with hh := max 0 (plc s) } := by
  have he : ¬ esc s = true := by unfold esc; rw [h.tp]; simp
  unfold fin
  exact (if_neg he).trans (if_neg (by rw [h.bt]; decide))
theorem fin_shut {s : Sk} (h : Shut s) : Shut (fin s) ∧ 0 ≤ (fin s).hh := by
  rw [fin_eq h]
  generalize plc s = z
  exact ⟨⟨h.hu, h.hd, h.fu, h.fd, h.th, h.tp, h.bt⟩, Int.le_max_left 0 z⟩
theorem run_shut (l : List Pt) : Shut (fin (run (sk0 false false) l)) ∧ 0 ≤ (fin (run (sk0 false false) l)).hh := fin_shut (Shut.run l ⟨rfl, rfl, rfl, rfl, rfl, rfl, rfl⟩)
theorem ats_get (l : List Pt) : ∀ (s : Sk) (i : Nat) (h : i < l.length), (ats s l)[i]? = some (atP (run s (l.take i)) l[i]) := by
  induction l with
  | nil => intro s i h; exact absurd h (Nat.not_lt_zero _)
  | cons p l ih =>
    intro s i h
    cases i with
    | zero => simp only [ats, run, List.take_zero, List.foldl_nil, List.getElem?_cons_zero, List.getElem_cons_zero]
    | succ i =>
      have := ih (nxt s p) i (by simpa using h)
      simp only [ats, run, List.getElem?_cons_succ, List.take_succ_cons, List.foldl_cons, List.getElem_cons_succ]
      exact this
theorem jU_H (a b : Int) : jU (H a) b = jU a b := by unfold jU; rw [H_H]
theorem jD_H (a b : Int) : jD (H a) b = jD a b := by unfold jD; rw [H_H]
/-- what lies between two parts that are not Through -/
theorem between (s : Sk) (p q : Pt) (hp : p.thr = false) : atP (nxt s p) q = H (H (H (H (atP s p) + H p.h)) + H (wT (jU p.bu q.tu) (jD p.bd q.td))) := by
  have hn : ∀ x, ¬ esc (jnd (std x (H (H (plc (jnd s p.tu p.td)) + H p.h)) (H p.bu) (H p.bd)) q.tu q.td) = true := by
    intro x
    unfold esc jnd std
    show ¬ (x.tp && !true) = true
    simp
  unfold atP nxt
  rw [if_neg (by rw [hp]; decide)]
  have h1 : ∀ z, plc (jnd (std z (H (H (plc (jnd s p.tu p.td)) + H p.h)) (H p.bu) (H p.bd)) q.tu q.td) = H (H (H (H (plc (jnd s p.tu p.td)) + H p.h)) + H (wT (jU (H p.bu) q.tu) (jD (H p.bd) q.td))) := fun z => by
    unfold plc
    exact if_neg (hn z)
  rw [h1, jU_H, jD_H]
theorem H_max (a b : Int) : H (max a b) = max (H a) (H b) := by unfold H; repeat' split <;> omega
theorem H_min (a b : Int) : H (min a b) = min (H a) (H b) := by unfold H; repeat' split <;> omega
theorem jU_comm (a b : Int) : jU a b = jU b a := by unfold jU; omega
theorem jD_comm (a b : Int) : jD a b = jD b a := by unfold jD; omega
theorem jU_assoc (a b c : Int) : jU a (jU b c) = jU (jU a b) c := by unfold jU; rw [H_max, H_max]; simp only [H_H]; omega
theorem jD_assoc (a b c : Int) : jD a (jD b c) = jD (jD a b) c := by unfold jD; rw [H_min, H_min]; simp only [H_H]; omega
end StrP
end Go.Proofs.Ytajmmnmagbnigaa
