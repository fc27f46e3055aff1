/- Parents, by plain numbers. Nothing of the program is imported. -/
namespace Go.Proofs.Ytjhhpilaaahicaa.TreP

/-- a node's parent, or -1 -/
def up (f : Nat → Int) (i : Nat) : Int := if 0 ≤ f i ∧ f i < (i : Int) then f i else -1
set_option maxRecDepth 100000 in
theorem up_bd (f : Nat → Int) (i : Nat) : -1 ≤ up f i ∧ up f i < (i : Int) := by unfold up; split <;> omega

/-- all that a node stands beneath, the nearest first -/
def ups (f : Nat → Int) (i : Nat) : List Nat := if _h : 0 ≤ up f i then (up f i).toNat :: ups f (up f i).toNat else []
termination_by i
decreasing_by have := up_bd f i; omega

set_option maxRecDepth 100000 in
theorem ups_none (f : Nat → Int) (i : Nat) (h : ¬ 0 ≤ up f i) : ups f i = [] := by rw [ups]; rw [dif_neg h]
set_option maxRecDepth 100000 in
theorem ups_some (f : Nat → Int) (i p : Nat) (h : up f i = (p : Int)) : ups f i = p :: ups f p := by
  rw [ups, dif_pos (by omega), h]; rfl
set_option maxRecDepth 100000 in
theorem ups_cases (f : Nat → Int) (i : Nat) : (up f i = -1 ∧ ups f i = []) ∨ ∃ p, p < i ∧ up f i = (p : Int) ∧ ups f i = p :: ups f p := by
  have hb := up_bd f i
  by_cases h : 0 ≤ up f i
  · obtain ⟨p, hp⟩ := Int.eq_ofNat_of_zero_le h
    exact Or.inr ⟨p, by omega, hp, ups_some f i p hp⟩
  · exact Or.inl ⟨by omega, ups_none f i h⟩

set_option maxRecDepth 100000 in
theorem ups_lt (f : Nat → Int) : ∀ (n i : Nat), i < n → ∀ j, j ∈ ups f i → j < i
  | 0, i, h => by omega
  | n + 1, i, h => by
    intro j hj
    rcases ups_cases f i with ⟨_, e⟩ | ⟨p, hp, _, e⟩
    · rw [e] at hj; cases hj
    · rw [e] at hj
      rcases List.mem_cons.1 hj with rfl | hj
      · exact hp
      · have := ups_lt f n p (by omega) j hj; omega
set_option maxRecDepth 100000 in
theorem ups_below (f : Nat → Int) (i j : Nat) (h : j ∈ ups f i) : j < i := ups_lt f (i + 1) i (by omega) j h

set_option maxRecDepth 100000 in
theorem ups_sorted (f : Nat → Int) : ∀ (n i : Nat), i < n → (ups f i).Pairwise (fun a b => b < a)
  | 0, i, h => by omega
  | n + 1, i, h => by
    rcases ups_cases f i with ⟨_, e⟩ | ⟨p, hp, _, e⟩
    · rw [e]; exact List.Pairwise.nil
    · rw [e]
      exact List.Pairwise.cons (fun j hj => ups_below f p j hj) (ups_sorted f n p (by omega))

set_option maxRecDepth 100000 in
theorem ups_len (f : Nat → Int) : ∀ (n i : Nat), i < n → (ups f i).length ≤ i
  | 0, i, h => by omega
  | n + 1, i, h => by
    rcases ups_cases f i with ⟨_, e⟩ | ⟨p, hp, _, e⟩
    · rw [e]; simp
    · rw [e, List.length_cons]
      have := ups_len f n p (by omega); omega
set_option maxRecDepth 100000 in
theorem ups_length (f : Nat → Int) (i : Nat) : (ups f i).length ≤ i := ups_len f (i + 1) i (by omega)

/-- the numbers below i from above, those that are asked for -/
def picks (q : Nat → Bool) : Nat → List Nat
  | 0 => []
  | k + 1 => if q k = true then k :: picks q k else picks q k

set_option maxRecDepth 100000 in
theorem picks_sorted (q : Nat → Bool) : ∀ (k : Nat) (l : List Nat), l.Pairwise (fun a b => b < a) → (∀ j, j ∈ l → j < k) → (∀ j, j < k → (q j = true ↔ j ∈ l)) → picks q k = l
  | 0, l, _, hb, _ => by
    cases l with
    | nil => rfl
    | cons x l => have := hb x (by simp); omega
  | k + 1, l, hs, hb, hq => by
    unfold picks
    by_cases h : q k = true
    · rw [if_pos h]
      have hm := (hq k (by omega)).1 h
      cases l with
      | nil => cases hm
      | cons x l =>
        have hx := hb x (by simp)
        rw [List.pairwise_cons] at hs
        have hxk : x = k := by
          rcases List.mem_cons.1 hm with e | e
          · exact e.symm
          · have := hs.1 k e; omega
        subst hxk
        rw [picks_sorted q x l hs.2 (fun j hj => hs.1 j hj) (fun j hj => by
          rw [hq j (by omega)]
          constructor
          · intro h1
            rcases List.mem_cons.1 h1 with e | e
            · omega
            · exact e
          · intro h1; exact List.mem_cons_of_mem _ h1)]
    · rw [if_neg h]
      refine picks_sorted q k l hs (fun j hj => ?_) (fun j hj => hq j (by omega))
      have h1 := hb j hj
      by_cases e : j = k
      · subst e; exact absurd ((hq j (by omega)).2 hj) h
      · omega

/-- does a node stand beneath another one? -/
def undB (f : Nat → Int) (i j : Nat) : Bool := decide (j ∈ ups f i)

set_option maxRecDepth 100000 in
theorem picks_ups (f : Nat → Int) (i : Nat) : picks (undB f i) i = ups f i :=
  picks_sorted _ i _ (ups_sorted f (i + 1) i (by omega)) (fun j hj => ups_below f i j hj) (fun j _ => by unfold undB; rw [decide_eq_true_eq])

set_option maxRecDepth 100000 in
/-- what goes through -/
theorem ups_trans (f : Nat → Int) : ∀ (n k i j : Nat), k < n → i ∈ ups f k → j ∈ ups f i → j ∈ ups f k
  | 0, k, i, j, h, _, _ => by omega
  | n + 1, k, i, j, h, h1, h2 => by
    rcases ups_cases f k with ⟨_, e⟩ | ⟨p, hp, _, e⟩
    · rw [e] at h1; cases h1
    · rw [e] at h1 ⊢
      rcases List.mem_cons.1 h1 with rfl | h1
      · exact List.mem_cons_of_mem _ h2
      · exact List.mem_cons_of_mem _ (ups_trans f n p i j (by omega) h1 h2)

/-- the end of what stands beneath: e is the first behind i that does not -/
def EndIs (f : Nat → Int) (len i e : Nat) : Prop := i < e ∧ e ≤ len ∧ (∀ k, i < k → k < e → i ∈ ups f k) ∧ (e < len → i ∉ ups f e)

set_option maxRecDepth 100000 in
/-- whose parent is i or stands behind it stands beneath it, if all between do -/
theorem und_step (f : Nat → Int) (i k : Nat) (hik : i < k) (h : ∀ j, i < j → j < k → i ∈ ups f j) : i ∈ ups f k ↔ (i : Int) ≤ up f k := by
  rcases ups_cases f k with ⟨h1, e⟩ | ⟨p, hp, h1, e⟩
  · rw [e, h1]; simp; omega
  · rw [e, h1]
    constructor
    · intro hm
      rcases List.mem_cons.1 hm with rfl | hm
      · omega
      · have := ups_below f p i hm; omega
    · intro hle
      by_cases c : p = i
      · subst c; simp
      · exact List.mem_cons_of_mem _ (h p (by omega) hp)

/-- the numbers from a on, n of them, that are asked for -/
def kidsF (q : Nat → Bool) (a : Nat) : Nat → List Nat
  | 0 => []
  | n + 1 => kidsF q a n ++ if q (a + n) = true then [a + n] else []
set_option maxRecDepth 100000 in
theorem kidsF_len (q : Nat → Bool) (a : Nat) : ∀ n, (kidsF q a n).length ≤ n
  | 0 => by simp [kidsF]
  | n + 1 => by
    unfold kidsF
    rw [List.length_append]
    have := kidsF_len q a n
    split <;> simp <;> omega
set_option maxRecDepth 100000 in
theorem kidsF_none (q : Nat → Bool) (a : Nat) : ∀ n, (∀ k, k < n → q (a + k) = false) → kidsF q a n = []
  | 0, _ => rfl
  | n + 1, h => by
    unfold kidsF
    rw [kidsF_none q a n (fun k hk => h k (by omega)), h n (by omega)]; rfl
set_option maxRecDepth 100000 in
theorem kidsF_cut (q : Nat → Bool) (a m : Nat) (h : kidsF q a m = []) : ∀ n, kidsF q a (m + n) = kidsF q (a + m) n
  | 0 => by simpa [kidsF] using h
  | n + 1 => by
    show kidsF q a (m + n) ++ (if q (a + (m + n)) = true then [a + (m + n)] else []) = kidsF q (a + m) n ++ (if q (a + m + n) = true then [a + m + n] else [])
    rw [kidsF_cut q a m h n, ← Nat.add_assoc]
/-- whose parent a node is -/
def kidB (f : Nat → Int) (i k : Nat) : Bool := decide (up f k = (i : Int))
set_option maxRecDepth 100000 in
theorem kids_eq (f : Nat → Int) (i len : Nat) (h : i < len) : kidsF (kidB f i) 0 len = kidsF (kidB f i) (i + 1) (len - (i + 1)) := by
  have h0 : kidsF (kidB f i) 0 (i + 1) = [] := kidsF_none _ _ _ (fun k hk => by
    unfold kidB
    rw [decide_eq_false]
    have := up_bd f (0 + k)
    omega)
  have := kidsF_cut (kidB f i) 0 (i + 1) h0 (len - (i + 1))
  rw [show i + 1 + (len - (i + 1)) = len by omega] at this
  rw [this, Nat.zero_add]
end Go.Proofs.Ytjhhpilaaahicaa.TreP
