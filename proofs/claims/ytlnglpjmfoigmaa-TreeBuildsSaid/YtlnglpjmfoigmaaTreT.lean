/- Trees: what stands beneath a node lies between it and its end; kids one behind the other. -/
import Derived.Test.YtlnglpjmfoigmaaTreC
import Derived.Test.YtlnglpjmfoigmaaTreW5
namespace Go.Proofs.Ytlnglpjmfoigmaa
open Go.RowKit TreN TreP

/-- each node's parent stands ahead of it as it should -/
def Tree (f : Nat → Int) (len : Nat) : Prop := ∀ k, 0 < k → k < len → ∃ p : Nat, up f k = (p : Int) ∧ p < k ∧ (p = k - 1 ∨ p ∈ ups f (k - 1))

set_option maxRecDepth 100000 in
theorem nodeS_st (L : Nat → Nd) (k : Nat) (h : nodeS L k = 0) : rightB (L k) = true ∧ stB L k = true ∧ (ups (parOf L) k).length ≤ 63 := by
  unfold nodeS at h
  by_cases c : (rightB (L k) && stB L k) = true
  · rw [if_pos c] at h
    rw [Bool.and_eq_true] at c
    by_cases d : 64 < 1 + (ups (parOf L) k).length
    · rw [if_pos d] at h; cases h
    · exact ⟨c.1, c.2, by omega⟩
  · rw [if_neg c] at h; cases h
set_option maxRecDepth 100000 in
theorem chk_all (L : Nat → Nd) : ∀ n, chkTo L n = 0 → ∀ j, j < n → nodeS L j = 0
  | 0, _, j, hj => by omega
  | n + 1, h, j, hj => by
    unfold chkTo at h
    by_cases c : chkTo L n = 0
    · rw [if_pos c] at h
      by_cases e : j = n
      · subst e; exact h
      · exact chk_all L n c j (by omega)
    · rw [if_neg c] at h; exact absurd h c
set_option maxRecDepth 100000 in
theorem check_ok (L : Nat → Nd) (len : Nat) (h : checkS L len = 0) : 0 < len ∧ len ≤ 1024 ∧ ∀ j, j < len → nodeS L j = 0 := by
  unfold checkS at h
  by_cases h0 : len = 0
  · rw [if_pos h0] at h; cases h
  · rw [if_neg h0] at h
    by_cases h1 : 1024 < len
    · rw [if_pos h1] at h; cases h
    · rw [if_neg h1] at h
      exact ⟨by omega, by omega, chk_all L len h⟩
set_option maxRecDepth 100000 in
theorem tree_of (L : Nat → Nd) (len : Nat) (h : checkS L len = 0) : Tree (parOf L) len := by
  intro k h0 hk
  obtain ⟨_, hs, _⟩ := nodeS_st L k ((check_ok L len h).2.2 k hk)
  unfold stB at hs
  rw [if_neg (by omega), Bool.and_eq_true, Bool.and_eq_true, decide_eq_true_eq, Bool.or_eq_true, decide_eq_true_eq] at hs
  obtain ⟨h1, _, h2⟩ := hs
  obtain ⟨p, hp⟩ := Int.eq_ofNat_of_zero_le h1
  have hb := up_bd (parOf L) k
  rw [hp] at h2 hb
  refine ⟨p, hp, by omega, ?_⟩
  rcases h2 with h2 | h2
  · exact Or.inl (by omega)
  · unfold undB at h2
    rw [decide_eq_true_eq, Int.toNat_natCast] at h2
    exact Or.inr h2

set_option maxRecDepth 100000 in
theorem ups_comp (f : Nat → Int) : ∀ (n x a b : Nat), x < n → a ∈ ups f x → b ∈ ups f x → a < b → a ∈ ups f b
  | 0, x, a, b, h, _, _, _ => by omega
  | n + 1, x, a, b, h, ha, hb, hab => by
    rcases ups_cases f x with ⟨_, e⟩ | ⟨p, hp, _, e⟩
    · rw [e] at ha; cases ha
    · rw [e] at ha hb
      rcases List.mem_cons.1 hb with rfl | hb
      · rcases List.mem_cons.1 ha with h1 | h1
        · omega
        · exact h1
      · have := ups_below f p b hb
        rcases List.mem_cons.1 ha with h1 | h1
        · omega
        · exact ups_comp f n p a b (by omega) h1 hb hab

set_option maxRecDepth 100000 in
/-- whose chain goes through i: its parent is not below i -/
theorem up_ge (f : Nat → Int) (i a : Nat) (h : i ∈ ups f a) : ∃ p : Nat, up f a = (p : Int) ∧ i ≤ p ∧ p < a ∧ ups f a = p :: ups f p ∧ (p = i ∨ i ∈ ups f p) := by
  rcases ups_cases f a with ⟨_, e⟩ | ⟨p, hp, h1, e⟩
  · rw [e] at h; cases h
  · rw [e] at h
    refine ⟨p, h1, ?_, hp, e, ?_⟩
    · rcases List.mem_cons.1 h with rfl | h
      · omega
      · have := ups_below f p i h; omega
    · rcases List.mem_cons.1 h with h | h
      · exact Or.inl h.symm
      · exact Or.inr h

set_option maxRecDepth 100000 in
/-- behind its end nothing stands beneath a node -/
theorem behind (f : Nat → Int) (len i e : Nat) (hT : Tree f len) (hE : EndIs f len i e) : ∀ n k, k ≤ n → e ≤ k → k < len → i ∉ ups f k
  | 0, k, hk, he, hl => by
    have := hE.1
    omega
  | n + 1, k, hk, he, hl => by
    by_cases c : k = e
    · subst c; exact hE.2.2.2 hl
    · have ih := behind f len i e hT hE n (k - 1) (by omega) (by omega) (by omega)
      have hie := hE.1
      obtain ⟨p, hp, hpk, hq⟩ := hT k (by omega) hl
      rw [ups_some f k p hp]
      intro hm
      rcases hq with rfl | hq
      · rcases List.mem_cons.1 hm with h | h
        · omega
        · exact ih h
      · rcases List.mem_cons.1 hm with h | h
        · subst h; exact ih hq
        · exact ih (ups_trans f (k - 1 + 1) (k - 1) p i (by omega) hq h)

set_option maxRecDepth 100000 in
theorem und_iff (f : Nat → Int) (len i e : Nat) (hT : Tree f len) (hE : EndIs f len i e) (k : Nat) (hk : k < len) : undB f k i = (decide (i < k) && decide (k < e)) := by
  unfold undB
  by_cases h1 : i < k
  · by_cases h2 : k < e
    · rw [decide_eq_true h1, decide_eq_true h2, decide_eq_true (hE.2.2.1 k h1 h2)]; rfl
    · rw [decide_eq_false h2, decide_eq_false (behind f len i e hT hE k k (by omega) (by omega) hk)]; simp
  · rw [decide_eq_false h1, decide_eq_false (fun hm => h1 (ups_below f k i hm))]; rfl

set_option maxRecDepth 100000 in
theorem kidsF_split (q : Nat → Bool) (a m : Nat) : ∀ n, kidsF q a (m + n) = kidsF q a m ++ kidsF q (a + m) n
  | 0 => by simp [kidsF]
  | n + 1 => by
    show kidsF q a (m + n) ++ (if q (a + (m + n)) = true then [a + (m + n)] else []) = kidsF q a m ++ (kidsF q (a + m) n ++ (if q (a + m + n) = true then [a + m + n] else []))
    rw [kidsF_split q a m n, List.append_assoc, Nat.add_assoc]
set_option maxRecDepth 100000 in
theorem kidsF_cons (q : Nat → Bool) (a n : Nat) (h : q a = true) : kidsF q a (1 + n) = a :: kidsF q (a + 1) n := by
  rw [kidsF_split q a 1 n]
  show (kidsF q a 0 ++ (if q (a + 0) = true then [a + 0] else [])) ++ _ = _
  rw [Nat.add_zero, if_pos h]; rfl

/-- where the next kid stands -/
def KidInv (f : Nat → Int) (i e a j : Nat) : Prop := i < a ∧ a ≤ e ∧ (kidsF (kidB f i) (i + 1) (a - (i + 1))).length = j ∧ (a < e → kidB f i a = true)

set_option maxRecDepth 100000 in
theorem kid_first (f : Nat → Int) (len i e : Nat) (hE : EndIs f len i e) : KidInv f i e (i + 1) 0 := by
  refine ⟨by omega, hE.1, by rw [Nat.sub_self]; rfl, fun h => ?_⟩
  obtain ⟨p, h1, h2, h3, _, _⟩ := up_ge f i (i + 1) (hE.2.2.1 (i + 1) (by omega) h)
  unfold kidB
  rw [h1, decide_eq_true_eq]; omega

set_option maxRecDepth 100000 in
theorem kid_of (f : Nat → Int) (i c : Nat) (h : kidB f i c = true) : up f c = (i : Int) := by unfold kidB at h; simpa using h

set_option maxRecDepth 100000 in
theorem kid_none (f : Nat → Int) (len i e : Nat) (hT : Tree f len) (hE : EndIs f len i e) : kidsF (kidB f i) e (len - e) = [] :=
  kidsF_none _ _ _ fun k hk => by
    unfold kidB
    rw [decide_eq_false]
    intro h
    exact behind f len i e hT hE (e + k) (e + k) (by omega) (by omega) (by omega) (by rw [ups_some f (e + k) i h]; simp)

set_option maxRecDepth 100000 in
/-- the kids, from where the next one stands -/
theorem kids_at (f : Nat → Int) (len i e a j : Nat) (hT : Tree f len) (hE : EndIs f len i e) (h : KidInv f i e a j) :
    (a < e → (kidsF (kidB f i) (i + 1) (len - (i + 1)))[j]? = some a ∧ j < (kidsF (kidB f i) (i + 1) (len - (i + 1))).length) ∧ (a = e → (kidsF (kidB f i) (i + 1) (len - (i + 1))).length = j) := by
  obtain ⟨h1, h2, h3, h4⟩ := h
  have hel := hE.2.1
  have e1 : len - (i + 1) = (a - (i + 1)) + (len - a) := by omega
  have e2 : i + 1 + (a - (i + 1)) = a := by omega
  rw [e1, kidsF_split, e2]
  constructor
  · intro ha
    have e3 : len - a = 1 + (len - a - 1) := by omega
    rw [e3, kidsF_cons _ _ _ (h4 ha)]
    constructor
    · rw [List.getElem?_append_right (by omega), h3, Nat.sub_self]; rfl
    · rw [List.length_append, List.length_cons]; omega
  · intro ha
    subst ha
    rw [kid_none f len i a hT hE, List.append_nil]; exact h3

set_option maxRecDepth 100000 in
/-- the next one stands at the end of the one before -/
theorem kid_next (f : Nat → Int) (len i e a j a' : Nat) (hT : Tree f len) (hE : EndIs f len i e) (h : KidInv f i e a j) (ha : a < e) (hA : EndIs f len a a') : KidInv f i e a' (j + 1) := by
  obtain ⟨h1, h2, h3, h4⟩ := h
  have hka := h4 ha
  have hua := kid_of f i a hka
  have hel := hE.2.1
  have hia : i ∈ ups f a := by rw [ups_some f a i hua]; simp
  have haa' := hA.1
  have hle : a' ≤ e := by
    by_cases c : a' ≤ e
    · exact c
    · exfalso
      have h5 := hA.2.2.1 e ha (by omega)
      have h6 := ups_trans f (e + 1) e a i (by omega) h5 hia
      exact hE.2.2.2 (by have := hA.2.1; omega) h6
  refine ⟨by omega, hle, ?_, fun hlt => ?_⟩
  · have e1 : a' - (i + 1) = (a - (i + 1)) + (1 + (a' - a - 1)) := by omega
    have e2 : i + 1 + (a - (i + 1)) = a := by omega
    rw [e1, kidsF_split, e2, kidsF_cons _ _ _ hka]
    have hno : kidsF (kidB f i) (a + 1) (a' - a - 1) = [] := kidsF_none _ _ _ fun k hk => by
      unfold kidB
      rw [decide_eq_false]
      intro hu
      obtain ⟨p, q1, q2, _, _, _⟩ := up_ge f a (a + 1 + k) (hA.2.2.1 (a + 1 + k) (by omega) (by omega))
      rw [q1] at hu
      omega
    rw [hno, List.length_append, h3]; rfl
  · have hi' : i ∈ ups f a' := hE.2.2.1 a' (by omega) hlt
    have hna : a ∉ ups f a' := hA.2.2.2 (by omega)
    obtain ⟨p, q1, q2, q3, q4, _⟩ := up_ge f i a' hi'
    have hpa : p = i := by
      by_cases c : p = i
      · exact c
      · exfalso
        obtain ⟨p2, r1, r2, r3⟩ := hT a' (by omega) (by omega)
        have hpp : p2 = p := by rw [q1] at r1; omega
        subst hpp
        have hna2 : p2 ≠ a := fun e2 => hna (by rw [q4, e2]; simp)
        have hna3 : a ∉ ups f p2 := fun e2 => hna (by rw [q4]; exact List.mem_cons_of_mem _ e2)
        have hac : a = a' - 1 ∨ a ∈ ups f (a' - 1) := by
          by_cases c2 : a = a' - 1
          · exact Or.inl c2
          · exact Or.inr (hA.2.2.1 (a' - 1) (by omega) (by omega))
        have hup : p2 ∈ ups f a → False := fun hm => by
          rw [ups_some f a i hua] at hm
          rcases List.mem_cons.1 hm with hm | hm
          · omega
          · have := ups_below f i p2 hm; omega
        rcases hac with hac | hac
        · rcases r3 with r3 | r3
          · omega
          · rw [← hac] at r3; exact hup r3
        · rcases r3 with r3 | r3
          · rw [← r3] at hac; exact hna3 hac
          · by_cases c3 : p2 < a
            · exact hup (ups_comp f (a' - 1 + 1) (a' - 1) p2 a (by omega) r3 hac c3)
            · exact hna3 (ups_comp f (a' - 1 + 1) (a' - 1) a p2 (by omega) hac r3 (by omega))
    unfold kidB
    rw [q1, hpa]; simp
end Go.Proofs.Ytlnglpjmfoigmaa
