/- Layer 14: what a container answers (pure). -/
import Derived.Test.YtoaenlbbochjhaaQryP
namespace Go.Proofs.Ytoaenlbbochjhaa.TruP
open FixM FixP TreN QryP
set_option linter.unusedVariables false

def notT (a : Int) : Int := if a = 0 then 1 else if a = 1 then 0 else 2
def andT (a b : Int) : Int := if a = 0 ∨ b = 0 then 0 else if a = 1 ∧ b = 1 then 1 else 2
def orT (a b : Int) : Int := if a = 1 ∨ b = 1 then 1 else if a = 0 ∧ b = 0 then 0 else 2
theorem orT_eq (a b : Int) : notT (andT (notT a) (notT b)) = orT a b := by
  unfold notT andT orT
  repeat' split
  all_goals first | rfl | omega
theorem morgan1 (a b : Int) : notT (andT a b) = orT (notT a) (notT b) := by
  unfold notT andT orT
  repeat' split
  all_goals first | rfl | omega
theorem morgan2 (a b : Int) : notT (orT a b) = andT (notT a) (notT b) := by
  unfold notT andT orT
  repeat' split
  all_goals first | rfl | omega
theorem andT_comm (a b : Int) : andT a b = andT b a := by
  unfold andT
  repeat' split
  all_goals first | rfl | omega
def ok3 (a : Int) : Prop := a = 0 ∨ a = 1 ∨ a = 2
theorem not_ok (a : Int) : ok3 (notT a) := by unfold notT ok3; repeat' split <;> omega
theorem and_ok (a b : Int) : ok3 (andT a b) := by unfold andT ok3; repeat' split <;> omega
theorem or_ok (a b : Int) : ok3 (orT a b) := by unfold orT ok3; repeat' split <;> omega
theorem and_one {a : Int} (h : ok3 a) : andT 1 a = a := by unfold andT; unfold ok3 at h; repeat' split <;> omega
theorem or_zero {a : Int} (h : ok3 a) : orT 0 a = a := by unfold orT; unfold ok3 at h; repeat' split <;> omega

def knT (f t : Int) : Bool := if f = 1 ∨ f = 3 then decide (t = 1 ∨ t = 2) else decide (t = 2)
def smT (f w h : Int) : Bool := if f = 1 ∨ f = 3 then w != 0 else if f = 2 ∨ f = 4 then h != 0 else if f = 5 then w != 0 && h != 0 else true
def sdA (f : Int) (b : Bd) (w h : Int) : Int := if f = 1 ∨ f = 3 then w else if f = 2 ∨ f = 4 then h else if f = 5 then w * b.d else if w ≤ h then 1 else 2
def sdB (f : Int) (b : Bd) (w h : Int) : Int := if f = 1 ∨ f = 3 then PT b.n 64 1000 else if f = 2 ∨ f = 4 then PT b.n 64 1000 else if f = 5 then b.n * h else b.n
def cmT (a op b : Int) : Bool := if op = 5 then decide (b < a) else if op = 1 then decide (a < b) else if op = 4 then decide (b ≤ a) else if op = 2 then decide (a ≤ b) else decide (a = b)
def bnT (x : QN) (w h : Int) : Bool :=
  if thrB x.hi = true then cmT (sdA x.feat x.hi w h) x.hi.op (sdB x.feat x.hi w h) && (!thrB x.lo || cmT (sdB x.feat x.lo w h) x.lo.op (sdA x.feat x.lo w h)) else smT x.feat w h
def ftT (t w h : Int) (x : QN) : Int := if knT x.feat t = true then (if bnT x w h = true then 1 else 0) else 2
theorem ft_ok (t w h : Int) (x : QN) : ok3 (ftT t w h x) := by unfold ftT ok3; repeat' split <;> omega

/-- so many parts' answers, joined -/
def jnG (ev : List QN → Int) (op : Int → Int → Int) : Nat → List QN → Int → Int
  | 0, _, a => a
  | n + 1, l, a => jnG ev op n (l.drop ((eat l 1).getD 0)) (op a (ev l))
def evT (F : QN → Int) : Nat → List QN → Int
  | 0, _ => 2
  | _ + 1, [] => 2
  | f + 1, x :: l => if x.kind = 1 then jnG (evT F f) andT x.count.toNat l 1 else if x.kind = 2 then jnG (evT F f) orT x.count.toNat l 0 else if x.kind = 3 then notT (evT F f l) else F x
def evL (F : QN → Int) (l : List QN) : Int := evT F l.length l
theorem jnG_congr {e1 e2 : List QN → Int} (op : Int → Int → Int) (m : Nat) (h : ∀ l : List QN, l.length ≤ m → e1 l = e2 l) : ∀ (n : Nat) (l : List QN) (a : Int), l.length ≤ m → jnG e1 op n l a = jnG e2 op n l a
  | 0, _, _, _ => rfl
  | n + 1, l, a, hl => by
    unfold jnG
    rw [h l hl]
    exact jnG_congr op m h n _ _ (by rw [List.length_drop]; omega)
theorem evT_fuel (F : QN → Int) : ∀ (f g : Nat) (l : List QN), l.length ≤ f → l.length ≤ g → evT F f l = evT F g l
  | 0, g, l, h1, _ => by
    have : l = [] := List.length_eq_zero_iff.1 (by omega)
    subst this
    cases g <;> rfl
  | f + 1, 0, l, _, h2 => by
    have : l = [] := List.length_eq_zero_iff.1 (by omega)
    subst this
    rfl
  | f + 1, g + 1, [], _, _ => rfl
  | f + 1, g + 1, x :: l, h1, h2 => by
    have hl1 : l.length ≤ f := by simpa using h1
    have hl2 : l.length ≤ g := by simpa using h2
    have hc : ∀ l' : List QN, l'.length ≤ l.length → evT F f l' = evT F g l' := fun l' h' => evT_fuel F f g l' (by omega) (by omega)
    unfold evT
    rw [jnG_congr andT l.length hc _ l 1 (Nat.le_refl _), jnG_congr orT l.length hc _ l 0 (Nat.le_refl _), hc l (Nat.le_refl _)]
theorem evL_cons (F : QN → Int) (x : QN) (l : List QN) : evL F (x :: l) = if x.kind = 1 then jnG (evL F) andT x.count.toNat l 1 else if x.kind = 2 then jnG (evL F) orT x.count.toNat l 0 else if x.kind = 3 then notT (evL F l) else F x := by
  have hc : ∀ l' : List QN, l'.length ≤ l.length → evT F l.length l' = evL F l' := fun l' h' => evT_fuel F _ _ l' h' (Nat.le_refl _)
  show evT F (l.length + 1) (x :: l) = _
  rw [← jnG_congr andT l.length hc _ l 1 (Nat.le_refl _), ← jnG_congr orT l.length hc _ l 0 (Nat.le_refl _)]
  rfl
theorem jnG_ok {op : Int → Int → Int} (h : ∀ a b, ok3 (op a b)) (ev : List QN → Int) : ∀ (n : Nat) (l : List QN) (a : Int), ok3 a → ok3 (jnG ev op n l a)
  | 0, _, _, ha => ha
  | n + 1, l, a, _ => jnG_ok h ev n _ _ (h _ _)
theorem evL_ok {F : QN → Int} (hF : ∀ x, ok3 (F x)) (l : List QN) : ok3 (evL F l) := by
  cases l with
  | nil => exact Or.inr (Or.inr rfl)
  | cons x l =>
    rw [evL_cons]
    split
    · exact jnG_ok and_ok _ _ _ _ (Or.inr (Or.inl rfl))
    · split
      · exact jnG_ok or_ok _ _ _ _ (Or.inl rfl)
      · split
        · exact not_ok _
        · exact hF x
theorem jnG_succ (ev : List QN → Int) (op : Int → Int → Int) (n : Nat) (l : List QN) (a : Int) : jnG ev op (n + 1) l a = jnG ev op n (l.drop ((eat l 1).getD 0)) (op a (ev l)) := rfl
/-- the first of so many parts, and the others behind it -/
theorem eat_first {l : List QN} {n m : Nat} (h : eat l (n + 1) = some m) : ∃ k, eat l 1 = some k ∧ 1 ≤ k ∧ k ≤ l.length ∧ eat (l.drop k) n = some (m - k) := by
  rw [show n + 1 = 1 + n by omega, eat_add] at h
  cases he : eat l 1 with
  | none => rw [he] at h; cases h
  | some k =>
    rw [he] at h
    simp only [Option.bind_some] at h
    have hk := eat_le l 1 k he
    cases h2 : eat (l.drop k) n with
    | none => rw [h2] at h; cases h
    | some j =>
      rw [h2] at h
      simp only [Option.map_some, Option.some.injEq] at h
      have hj : j = m - k := by omega
      exact ⟨k, rfl, hk.1, hk.2, by rw [h2, hj]⟩
/-- what follows a node that stands for something -/
theorem eat_kids {x : QN} {l : List QN} {m : Nat} (h : eat (x :: l) 1 = some m) : ∃ c, cntQ x = some c ∧ eat l c = some (m - 1) := by
  rw [show (1 : Nat) = 0 + 1 from rfl, eat_cons] at h
  cases hc : cntQ x with
  | none => rw [hc] at h; cases h
  | some c =>
    rw [hc] at h
    simp only [Nat.zero_add] at h
    cases he : eat l c with
    | none => rw [he] at h; cases h
    | some j =>
      rw [he] at h; simp only [Option.map_some, Option.some.injEq] at h
      have hj : j = m - 1 := by omega
      exact ⟨c, rfl, by rw [he, hj]⟩
/-- the whole query's answer -/
def sayQ (nm : ByteArray) (L : List QN) (t w h : Int) : Int := if rightQ nm L = true then evL (ftT t (H w) (H h)) L else 2
end Go.Proofs.Ytoaenlbbochjhaa.TruP
