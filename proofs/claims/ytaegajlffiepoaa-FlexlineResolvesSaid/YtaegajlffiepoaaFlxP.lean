/- Layer 21 in numbers: items, lines, rounds. Nothing of the program is imported. -/
import Derived.Test.YtaegajlffiepoaaFixAll
import Derived.Test.YtaegajlffiepoaaShaD3
namespace Go.Proofs.Ytaegajlffiepoaa
open FixM ShaD
set_option linter.unusedVariables false

/-- an item: Base, Least, Most, Margin, Inner, Grow, Shrink -/
structure It where
  b : Int
  l : Int
  m : Int
  g : Int
  i : Int
  gr : Int
  sh : Int
def hI (t : It) : It := ⟨H t.b, WT t.l, H t.m, H t.g, WT t.i, WT t.gr, WT t.sh⟩
def clI (t : It) (n : Int) : Int := max (if 0 ≤ t.m then min n t.m else n) t.l
def wsh (t : It) : Int := clI t t.b
def facI (g : Bool) (t : It) : Int := if g then t.gr else t.sh
def wgtI (g : Bool) (t : It) : Int := if g then t.gr else PT t.i t.sh 1000
def pastI (g : Bool) (t : It) : Bool := if g then decide (wsh t < t.b) else decide (t.b < wsh t)
def stiffI (g : Bool) (t : It) : Bool := facI g t == 0 || pastI g t

theorem clI_two (t : It) (n : Int) : clI t (clI t n) = clI t n := by unfold clI; split <;> omega
theorem clI_low (t : It) (n : Int) : t.l ≤ clI t n := by unfold clI; omega
/-- an item whose numbers are held -/
structure HeldI (t : It) : Prop where
  b0 : -1073741824 ≤ t.b
  b1 : t.b ≤ 1073741824
  l0 : 0 ≤ t.l
  l1 : t.l ≤ 1073741824
  m0 : -1073741824 ≤ t.m
  m1 : t.m ≤ 1073741824
  g0 : -1073741824 ≤ t.g
  g1 : t.g ≤ 1073741824
  i0 : 0 ≤ t.i
  i1 : t.i ≤ 1073741824
  r0 : 0 ≤ t.gr
  r1 : t.gr ≤ 1073741824
  s0 : 0 ≤ t.sh
  s1 : t.sh ≤ 1073741824
theorem held_hI (t : It) : HeldI (hI t) :=
  ⟨(H_bd _).1, (H_bd _).2, (WT_bd _).1, (WT_bd _).2, (H_bd _).1, (H_bd _).2, (H_bd _).1, (H_bd _).2, (WT_bd _).1, (WT_bd _).2, (WT_bd _).1, (WT_bd _).2, (WT_bd _).1, (WT_bd _).2⟩
theorem HeldI.cl {t : It} (h : HeldI t) {n : Int} (h0 : -1073741824 ≤ n) (h1 : n ≤ 1073741824) : 0 ≤ clI t n ∧ clI t n ≤ 1073741824 := by
  have := h.l0; have := h.l1; have := h.m1
  unfold clI; split <;> omega
theorem HeldI.wsh {t : It} (h : HeldI t) : 0 ≤ wsh t ∧ wsh t ≤ 1073741824 := h.cl h.b0 h.b1
theorem HeldI.fac {t : It} (h : HeldI t) (g : Bool) : 0 ≤ facI g t ∧ facI g t ≤ 1073741824 := by
  have := h.r0; have := h.r1; have := h.s0; have := h.s1
  unfold facI; split <;> omega

/-- a line that is being resolved: lengths of frozen items, places of the others, what is free -/
structure FSt where
  len : Nat → Int
  loose : List Nat
  free : Int
def frz (B : Nat → Int) (s : FSt) (i : Nat) (x : Int) : FSt := ⟨fun j => if j = i then x else s.len j, s.loose, s.free + (B i - x)⟩
def stay (s : FSt) (i : Nat) : FSt := ⟨s.len, s.loose ++ [i], s.free⟩
/-- an item is frozen with a length, or stays -/
def stepF (B : Nat → Int) (s : FSt) (p : Nat × Int × Bool) : FSt := if p.2.2 then frz B s p.1 p.2.1 else stay s p.1

/-- sums of the first few -/
def fsum (f : Nat → Int) : Nat → Int
  | 0 => 0
  | k + 1 => fsum f k + f k

/-- the line ahead of all rounds: the items are L 0 to L (n - 1), held -/
def free0 (L : Nat → It) (room : Int) (n : Nat) : Int := room - fsum (fun i => (L i).g + (L i).b) n
def beside0 (L : Nat → It) (room : Int) (n : Nat) : Int := room - fsum (fun i => (L i).g + wsh (L i)) n
def begin0 (L : Nat → It) (room : Int) (n : Nat) : FSt := ⟨fun _ => 0, [], free0 L room n⟩
def opens (g : Bool) (L : Nat → It) (i : Nat) : Nat × Int × Bool := (i, wsh (L i), stiffI g (L i))
def startF (g : Bool) (L : Nat → It) (room : Int) (n k : Nat) : FSt := ((List.range k).map (opens g L)).foldl (stepF (fun i => (L i).b)) (begin0 L room n)

/-- what is dealt in a round -/
def fsumL (f : Nat → Int) (l : List Nat) : Int := (l.map f).sum
def absI (x : Int) : Int := max x (-x)
def dealtF (first free fac : Int) : Int :=
  if fac < 1000 then (if absI (PT (H first) fac 1000) < absI free then H (PT (H first) fac 1000) else H free) else H free
/-- a trial: the place, the length, what clamping adds -/
def tryF (L : Nat → It) (i : Nat) (s : Int) : Nat × Int × Int :=
  let w := H (H (L i).b + H s)
  (i, clI (L i) w, clI (L i) w - w)
def endsF (all br : Int) : Bool := all == 0 || (decide (0 < all) && decide (0 < br)) || (decide (all < 0) && decide (br < 0))
/-- the shares of a round -/
def sharesF (g : Bool) (L : Nat → It) (first : Int) (s : FSt) (j : Nat) : Int :=
  shareS (dealtF first s.free (fsumL (fun i => facI g (L i)) s.loose)) (s.loose.map fun i => wgtI g (L i)) j
def trialF (g : Bool) (L : Nat → It) (first : Int) (s : FSt) (j : Nat) : Nat × Int × Int := tryF L (s.loose.getD j 0) (sharesF g L first s j)
def breachF (g : Bool) (L : Nat → It) (first : Int) (s : FSt) (k : Nat) : Int := fsum (fun j => (trialF g L first s j).2.2) k
def roundTo (g : Bool) (L : Nat → It) (first : Int) (s : FSt) (k : Nat) : FSt :=
  ((List.range k).map (fun j => ((trialF g L first s j).1, (trialF g L first s j).2.1, endsF (breachF g L first s s.loose.length) (trialF g L first s j).2.2))).foldl (stepF (fun i => (L i).b)) ⟨s.len, [], s.free⟩
def roundF (g : Bool) (L : Nat → It) (first : Int) (s : FSt) : FSt := roundTo g L first s s.loose.length
/-- so many rounds at most -/
def runF (g : Bool) (L : Nat → It) (first : Int) : Nat → FSt → FSt × Nat
  | 0, s => (s, 0)
  | f + 1, s => if s.loose = [] then (s, 0) else ((runF g L first f (roundF g L first s)).1, (runF g L first f (roundF g L first s)).2 + 1)
def growsF (L : Nat → It) (room : Int) (n : Nat) : Bool := decide (0 < beside0 L room n)
def resolveF (L : Nat → It) (room : Int) (n : Nat) : FSt × Nat :=
  let s := startF (growsF L room n) L room n n
  runF (growsF L room n) L s.free n s

theorem foldl_range_succ {α β : Type} (f : β → α → β) (h : Nat → α) (b : β) (k : Nat) : ((List.range (k + 1)).map h).foldl f b = f (((List.range k).map h).foldl f b) (h k) := by
  rw [List.range_succ, List.map_append, List.foldl_append]; rfl
theorem startF_succ (g : Bool) (L : Nat → It) (room : Int) (n k : Nat) : startF g L room n (k + 1) = stepF (fun i => (L i).b) (startF g L room n k) (opens g L k) := foldl_range_succ _ _ _ _
theorem roundTo_succ (g : Bool) (L : Nat → It) (first : Int) (s : FSt) (k : Nat) : roundTo g L first s (k + 1) = stepF (fun i => (L i).b) (roundTo g L first s k) ((trialF g L first s k).1, (trialF g L first s k).2.1, endsF (breachF g L first s s.loose.length) (trialF g L first s k).2.2) := foldl_range_succ _ _ _ _

/-- of what is dealt with a breach, one at least is frozen -/
theorem breach_some (f : Nat → Int) : ∀ n, 0 < n → ∃ j, j < n ∧ endsF (fsum f n) (f j) = true := by
  have pos : ∀ n, 0 < fsum f n → ∃ j, j < n ∧ 0 < f j := by
    intro n
    induction n with
    | zero => intro h; simp [fsum] at h
    | succ n ih =>
      intro h
      simp only [fsum] at h
      by_cases c : 0 < f n
      · exact ⟨n, by omega, c⟩
      · obtain ⟨j, hj, h2⟩ := ih (by omega)
        exact ⟨j, by omega, h2⟩
  have neg : ∀ n, fsum f n < 0 → ∃ j, j < n ∧ f j < 0 := by
    intro n
    induction n with
    | zero => intro h; simp [fsum] at h
    | succ n ih =>
      intro h
      simp only [fsum] at h
      by_cases c : f n < 0
      · exact ⟨n, by omega, c⟩
      · obtain ⟨j, hj, h2⟩ := ih (by omega)
        exact ⟨j, by omega, h2⟩
  intro n hn
  by_cases h0 : fsum f n = 0
  · exact ⟨0, hn, by unfold endsF; simp [h0]⟩
  · by_cases h1 : 0 < fsum f n
    · obtain ⟨j, hj, h2⟩ := pos n h1
      exact ⟨j, hj, by unfold endsF; simp [h1, h2]⟩
    · obtain ⟨j, hj, h2⟩ := neg n (by omega)
      exact ⟨j, hj, by unfold endsF; simp [show fsum f n < 0 by omega, h2]⟩
theorem stepF_le (B : Nat → Int) (s : FSt) (p : Nat × Int × Bool) : (stepF B s p).loose.length ≤ s.loose.length + 1 := by
  unfold stepF; split
  · simp [frz]
  · simp [stay]
theorem stepF_true (B : Nat → Int) (s : FSt) (p : Nat × Int × Bool) (h : p.2.2 = true) : (stepF B s p).loose.length = s.loose.length := by
  unfold stepF; rw [if_pos h]; rfl
theorem roundTo_le (g : Bool) (L : Nat → It) (first : Int) (s : FSt) : ∀ k, (roundTo g L first s k).loose.length ≤ k
  | 0 => by simp [roundTo]
  | k + 1 => by
    rw [roundTo_succ]
    have := stepF_le (fun i => (L i).b) (roundTo g L first s k) ((trialF g L first s k).1, (trialF g L first s k).2.1, endsF (breachF g L first s s.loose.length) (trialF g L first s k).2.2)
    have := roundTo_le g L first s k
    omega
theorem roundTo_lt (g : Bool) (L : Nat → It) (first : Int) (s : FSt) (j : Nat) (he : endsF (breachF g L first s s.loose.length) (trialF g L first s j).2.2 = true) : ∀ k, j < k → (roundTo g L first s k).loose.length < k
  | 0, h => by omega
  | k + 1, h => by
    rw [roundTo_succ]
    by_cases c : j = k
    · subst c
      rw [stepF_true _ _ _ he]
      have := roundTo_le g L first s j
      omega
    · have := stepF_le (fun i => (L i).b) (roundTo g L first s k) ((trialF g L first s k).1, (trialF g L first s k).2.1, endsF (breachF g L first s s.loose.length) (trialF g L first s k).2.2)
      have := roundTo_lt g L first s j he k (by omega)
      omega
/-- each round leaves fewer loose ones -/
theorem roundF_lt (g : Bool) (L : Nat → It) (first : Int) (s : FSt) (h : s.loose ≠ []) : (roundF g L first s).loose.length < s.loose.length := by
  have hp : 0 < s.loose.length := by cases hs : s.loose with | nil => exact absurd hs h | cons x l => simp
  obtain ⟨j, hj, he⟩ := breach_some (fun j => (trialF g L first s j).2.2) s.loose.length hp
  exact roundTo_lt g L first s j he _ hj
theorem runF_rounds (g : Bool) (L : Nat → It) (first : Int) : ∀ f s, s.loose.length ≤ f → (runF g L first f s).2 ≤ s.loose.length ∧ (runF g L first f s).1.loose = []
  | 0, s, h => by
    simp only [runF]
    exact ⟨by omega, List.eq_nil_of_length_eq_zero (by omega)⟩
  | f + 1, s, h => by
    simp only [runF]
    by_cases c : s.loose = []
    · rw [if_pos c]; exact ⟨by simp, c⟩
    · rw [if_neg c]
      have hlt := roundF_lt g L first s c
      have ih := runF_rounds g L first f (roundF g L first s) (by omega)
      exact ⟨by simp only; omega, ih.2⟩
theorem startF_le (g : Bool) (L : Nat → It) (room : Int) (n : Nat) : ∀ k, (startF g L room n k).loose.length ≤ k
  | 0 => by simp [startF, begin0]
  | k + 1 => by
    rw [startF_succ]
    have := stepF_le (fun i => (L i).b) (startF g L room n k) (opens g L k)
    have := startF_le g L room n k
    omega
/-- P21.3: there are no more rounds than items -/
theorem resolveF_rounds (L : Nat → It) (room : Int) (n : Nat) : (resolveF L room n).2 ≤ n := by
  have h := startF_le (growsF L room n) L room n n
  have := runF_rounds (growsF L room n) L (startF (growsF L room n) L room n n).free n (startF (growsF L room n) L room n n) h
  unfold resolveF
  simp only
  omega
end Go.Proofs.Ytaegajlffiepoaa
