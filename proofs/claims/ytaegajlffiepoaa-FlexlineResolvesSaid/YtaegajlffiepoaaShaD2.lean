/- Plain numbers for layer 2: what the division says, and what it leaves. Nothing of the program is imported. -/
import Derived.Test.YtaegajlffiepoaaShaD
import Derived.Test.YtaegajlffiepoaaShaM
namespace Go.Proofs.Ytaegajlffiepoaa.ShaD
open FixM ShaM

/-- what the division says of a place -/
def qs (t A : Int) (ws : List Int) (i : Nat) : Int := t * WT (ws.getD i 0) / A
/-- what it leaves out there -/
def rs (t A : Int) (ws : List Int) (i : Nat) : Int := t * WT (ws.getD i 0) % A
/-- what the division says of the first places together -/
def qsum (t A : Int) (ws : List Int) : Nat → Int
  | 0 => 0
  | k + 1 => qsum t A ws k + qs t A ws k
def rsum (t A : Int) (ws : List Int) : Nat → Int
  | 0 => 0
  | k + 1 => rsum t A ws k + rs t A ws k

theorem WT_le_wsum : ∀ (ws : List Int) (i : Nat), WT (ws.getD i 0) ≤ wsum ws
  | [], i => by
    have : ([] : List Int).getD i 0 = 0 := by simp
    rw [this]; decide
  | x :: l, 0 => by
    have h := (wsum_bd l).1
    show WT x ≤ wsum (x :: l)
    unfold wsum at *
    simp only [List.map_cons, List.sum_cons]; omega
  | x :: l, i + 1 => by
    have h := WT_le_wsum l i
    have hx := WT_bd x
    show WT (l.getD i 0) ≤ wsum (x :: l)
    unfold wsum at *
    simp only [List.map_cons, List.sum_cons]; omega
theorem prod_nonneg {t : Int} (ht : 0 ≤ t) (ht2 : t ≤ 1073741824) (x : Int) : 0 ≤ t * WT x ∧ t * WT x ≤ 1152921504606846976 := by
  have h := WT_bd x
  have h1 := Int.mul_nonneg ht h.1
  have h2 := Int.mul_le_mul_of_nonneg_left h.2 ht
  omega
theorem qs_bd {t A : Int} (ht : 0 ≤ t) (ws : List Int) (hA : A = wsum ws) (hp : 0 < A) (i : Nat) : 0 ≤ qs t A ws i ∧ qs t A ws i ≤ t := by
  have h := WT_le_wsum ws i
  have hw := WT_bd (ws.getD i 0)
  unfold qs
  refine ⟨Int.ediv_nonneg (Int.mul_nonneg ht hw.1) (by omega), ?_⟩
  rw [← hA] at h
  have h1 := Int.mul_le_mul_of_nonneg_left h ht
  exact Int.ediv_le_of_le_mul hp h1
theorem rs_bd {t A : Int} (ws : List Int) (hp : 0 < A) (i : Nat) : 0 ≤ rs t A ws i ∧ rs t A ws i < A :=
  ⟨Int.emod_nonneg _ (by omega), Int.emod_lt_of_pos _ hp⟩
theorem qsum_bd {t A : Int} (ht : 0 ≤ t) (ws : List Int) (hA : A = wsum ws) (hp : 0 < A) : ∀ k, 0 ≤ qsum t A ws k ∧ qsum t A ws k ≤ t * k
  | 0 => by simp [qsum]
  | k + 1 => by
    have h := qsum_bd ht ws hA hp k
    have g := qs_bd ht ws hA hp k
    have e : t * ((k + 1 : Nat) : Int) = t * (k : Int) + t := by rw [Int.natCast_add, Int.mul_add]; simp
    simp only [qsum]; omega
theorem sums {t A : Int} (ws : List Int) : ∀ k, k ≤ ws.length → qsum t A ws k * A + rsum t A ws k = t * wsum (ws.take k)
  | 0, _ => by simp [qsum, rsum, wsum]
  | k + 1, hk => by
    have h := sums (t := t) (A := A) ws k (by omega)
    have e := wsum_snoc ws k (by omega)
    have d := Int.mul_ediv_add_emod (t * WT (ws.getD k 0)) A
    rw [e, Int.mul_add, ← h]
    simp only [qsum, rsum]
    unfold qs rs
    rw [Int.add_mul, Int.mul_comm (t * WT (ws.getD k 0) / A) A]
    omega
theorem rsum_bd {t A : Int} (ws : List Int) (hp : 0 < A) : ∀ k : Nat, 0 ≤ rsum t A ws k ∧ (0 < k → rsum t A ws k < A * k)
  | 0 => by simp [rsum]
  | k + 1 => by
    have h := rsum_bd (t := t) ws hp k
    have g := rs_bd (t := t) ws hp k
    have e : A * ((k + 1 : Nat) : Int) = A * (k : Int) + A := by rw [Int.natCast_add, Int.mul_add]; simp
    simp only [rsum]
    refine ⟨by omega, fun _ => ?_⟩
    by_cases c : 0 < k
    · have := h.2 c; omega
    · have : k = 0 := by omega
      subst this
      simp [rsum]; exact g.2
/-- what is left is less than there are places -/
theorem left_bd {t A : Int} (ws : List Int) (hA : A = wsum ws) (hp : 0 < A) (hn : 0 < ws.length) : 0 ≤ t - qsum t A ws ws.length ∧ t - qsum t A ws ws.length < ws.length := by
  have h := sums (t := t) (A := A) ws ws.length (Nat.le_refl _)
  rw [List.take_of_length_le (Nat.le_refl _), ← hA] at h
  have g := rsum_bd (t := t) ws hp ws.length
  have g2 := g.2 hn
  obtain ⟨L, hL⟩ : ∃ L, L = t - qsum t A ws ws.length := ⟨_, rfl⟩
  rw [← hL]
  have e : L * A = rsum t A ws ws.length := by rw [hL, Int.sub_mul]; omega
  constructor
  · by_cases c : 0 ≤ L
    · exact c
    · have := Int.mul_le_mul_of_nonneg_right (show L ≤ -1 by omega) (show 0 ≤ A by omega)
      omega
  · by_cases c : L < ws.length
    · exact c
    · have := Int.mul_le_mul_of_nonneg_right (show (ws.length : Int) ≤ L by omega) (show 0 ≤ A by omega)
      rw [Int.mul_comm (ws.length : Int) A] at this
      omega

/-- which place goes ahead: of which more was left out, of equal ones the first -/
def LTo (r : Int → Int) (x y : Int) : Prop := r y < r x ∨ (r x = r y ∧ x < y)
theorem LTo_ord (r : Int → Int) : Ord (LTo r) := by
  refine ⟨fun x y z h1 h2 => ?_, fun x y h1 h2 => ?_, fun x y h => ?_⟩
  · unfold LTo at *; omega
  · unfold LTo at *; omega
  · unfold LTo; omega
theorem LTo_cmp (r : Int → Int) (x y : Int) (h : y < x) : cmp3 (r y) (r x) < 0 ↔ LTo r x y := by
  unfold cmp3 LTo
  constructor
  · intro g
    left
    by_cases c : r y < r x
    · exact c
    · rw [if_neg c] at g
      split at g <;> omega
  · intro g
    rw [if_pos (by omega)]; omega

/-- is a place among the first that were picked? -/
def pk (d : Array Int) (L i : Nat) : Int := if (List.range L).any (fun j => d[j]! == (i : Int)) = true then 1 else 0
theorem pk_zero (d : Array Int) (i : Nat) : pk d 0 i = 0 := by simp [pk]
theorem pk_bd (d : Array Int) (L i : Nat) : 0 ≤ pk d L i ∧ pk d L i ≤ 1 := by unfold pk; split <;> omega
theorem pk_iff (d : Array Int) (L i : Nat) : pk d L i = 1 ↔ ∃ j, j < L ∧ d[j]! = (i : Int) := by
  have key : ((List.range L).any fun j => d[j]! == (i : Int)) = true ↔ ∃ j, j < L ∧ d[j]! = (i : Int) := by
    rw [List.any_eq_true]
    constructor
    · rintro ⟨j, j1, j2⟩
      exact ⟨j, List.mem_range.1 j1, by simpa using j2⟩
    · rintro ⟨j, j1, j2⟩
      exact ⟨j, List.mem_range.2 j1, by simpa using j2⟩
  unfold pk
  constructor
  · intro h
    by_cases c : ((List.range L).any fun j => d[j]! == (i : Int)) = true
    · exact key.1 c
    · rw [if_neg c] at h; omega
  · intro h
    rw [if_pos (key.2 h)]
theorem pk_next (d : Array Int) (n k : Nat) (hk : k < n) (hinj : ∀ i j, i < j → j < n → d[i]! ≠ d[j]!) (i : Nat) : pk d (k + 1) i = if d[k]! = (i : Int) then pk d k i + 1 else pk d k i := by
  by_cases c : d[k]! = (i : Int)
  · rw [if_pos c]
    have h0 : pk d k i = 0 := by
      by_cases h : pk d k i = 1
      · obtain ⟨j, j1, j2⟩ := (pk_iff d k i).1 h
        exact absurd (j2.trans c.symm) (hinj j k j1 hk)
      · have := pk_bd d k i; omega
    rw [h0, (pk_iff d (k + 1) i).2 ⟨k, by omega, c⟩]; rfl
  · rw [if_neg c]
    by_cases h : pk d k i = 1
    · obtain ⟨j, j1, j2⟩ := (pk_iff d k i).1 h
      rw [h, (pk_iff d (k + 1) i).2 ⟨j, by omega, j2⟩]
    · have h1 : ¬ pk d (k + 1) i = 1 := fun g => by
        obtain ⟨j, j1, j2⟩ := (pk_iff d (k + 1) i).1 g
        by_cases e : j = k
        · rw [e] at j2; exact c j2
        · exact h ((pk_iff d k i).2 ⟨j, by omega, j2⟩)
      have := pk_bd d k i
      have := pk_bd d (k + 1) i
      omega
end Go.Proofs.Ytaegajlffiepoaa.ShaD
