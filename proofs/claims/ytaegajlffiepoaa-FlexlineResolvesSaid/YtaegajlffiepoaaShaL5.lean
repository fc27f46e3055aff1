/- The walk of a law of layer 2: the shares are the whole total. -/
import Derived.Test.YtaegajlffiepoaaShaL4
namespace Go.Proofs.Ytaegajlffiepoaa
open Go.RowKit FixM ShaD ShaM Go.Sort

/-- the first of them together -/
def ssum (f : Nat → Int) : Nat → Int
  | 0 => 0
  | k + 1 => ssum f k + f k

theorem ssum_ext {f g : Nat → Int} : ∀ n, (∀ i, i < n → f i = g i) → ssum f n = ssum g n
  | 0, _ => rfl
  | n + 1, h => by
    show ssum f n + f n = ssum g n + g n
    rw [ssum_ext n (fun i hi => h i (by omega)), h n (by omega)]
theorem ssum_add (f g : Nat → Int) : ∀ n, ssum (fun i => f i + g i) n = ssum f n + ssum g n
  | 0 => rfl
  | n + 1 => by
    show ssum (fun i => f i + g i) n + (f n + g n) = (ssum f n + f n) + (ssum g n + g n)
    rw [ssum_add f g n]; omega
theorem ssum_neg (f : Nat → Int) : ∀ n, ssum (fun i => -(f i)) n = -(ssum f n)
  | 0 => rfl
  | n + 1 => by
    show ssum (fun i => -(f i)) n + -(f n) = -(ssum f n + f n)
    rw [ssum_neg f n]; omega
theorem ssum_zero : ∀ n, ssum (fun _ => 0) n = 0
  | 0 => rfl
  | n + 1 => by
    show ssum (fun _ => 0) n + 0 = 0
    rw [ssum_zero n]; rfl
theorem ssum_bump (g : Nat → Int) (j : Nat) : ∀ n, ssum (fun i => if (j : Int) = (i : Int) then g i + 1 else g i) n = ssum g n + if j < n then 1 else 0
  | 0 => by simp [ssum]
  | n + 1 => by
    show ssum (fun i => if (j : Int) = (i : Int) then g i + 1 else g i) n + (if (j : Int) = (n : Int) then g n + 1 else g n) = (ssum g n + g n) + if j < n + 1 then 1 else 0
    rw [ssum_bump g j n]
    by_cases c : j = n
    · subst c; rw [if_neg (by omega), if_pos rfl, if_pos (by omega)]; omega
    · rw [if_neg (show ¬ (j : Int) = (n : Int) by omega)]
      by_cases c2 : j < n
      · rw [if_pos c2, if_pos (by omega)]; omega
      · rw [if_neg c2, if_neg (by omega)]; omega
theorem qsum_ssum (t A : Int) (ws : List Int) : ∀ n, ssum (qs t A ws) n = qsum t A ws n
  | 0 => rfl
  | n + 1 => by
    show ssum (qs t A ws) n + qs t A ws n = qsum t A ws n + qs t A ws n
    rw [qsum_ssum t A ws n]
theorem pk_ssum (n : Nat) (d : Array Int) (hr : Rng n d) (hinj : ∀ i j, i < j → j < n → d[i]! ≠ d[j]!) : ∀ L, L ≤ n → ssum (pk d L) n = L
  | 0, _ => by
    rw [ssum_ext (g := fun _ => 0) n (fun i _ => pk_zero d i), ssum_zero]; rfl
  | L + 1, h => by
    have ih := pk_ssum n d hr hinj L (by omega)
    have hb := hr L (by omega)
    obtain ⟨j, hj⟩ := Int.eq_ofNat_of_zero_le (show 0 ≤ d[L]! by omega)
    rw [ssum_ext (g := fun i => if (j : Int) = (i : Int) then pk d L i + 1 else pk d L i) n (fun i _ => by rw [pk_next d n L (by omega) hinj i, hj]), ssum_bump, ih, if_pos (by omega)]
    omega

theorem Shares_sum {t : Int} {ws : List Int} {f : Nat → Int} (h : Shares t ws f) : ssum f ws.length = if wsum ws = 0 then 0 else t := by
  unfold Shares at h
  by_cases hz : wsum ws = 0
  · rw [if_pos hz] at h
    rw [if_pos hz, h, ssum_zero]
  · rw [if_neg hz] at h
    rw [if_neg hz]
    obtain ⟨d, _, hr, hinj, _, hf⟩ := h
    have hp : 0 < wsum ws := by have := (wsum_bd ws).1; omega
    have hn : 0 < ws.length := by
      cases ws with
      | nil => exact absurd rfl hz
      | cons x l => simp
    by_cases c : t < 0
    · have hl := left_bd (t := -t) ws rfl hp hn
      have e : f = fun i => -(qs (-t) (wsum ws) ws i + pk d (-t - qsum (-t) (wsum ws) ws ws.length).toNat i) := by rw [hf]; simp only [c, if_true]
      rw [e, ssum_neg, ssum_add, qsum_ssum, pk_ssum ws.length d hr hinj _ (by omega)]
      omega
    · have hl := left_bd (t := t) ws rfl hp hn
      have e : f = fun i => qs t (wsum ws) ws i + pk d (t - qsum t (wsum ws) ws ws.length).toNat i := by rw [hf]; simp only [c, if_false]
      rw [e, ssum_add, qsum_ssum, pk_ssum ws.length d hr hinj _ (by omega)]
      omega

theorem ssum_bd {f : Nat → Int} : ∀ n, (∀ i, i < n → -1073741825 ≤ f i ∧ f i ≤ 1073741825) → -1073741825 * (n : Int) ≤ ssum f n ∧ ssum f n ≤ 1073741825 * (n : Int)
  | 0, _ => by simp [ssum]
  | n + 1, h => by
    have h1 := ssum_bd n (fun i hi => h i (by omega))
    have h2 := h n (by omega)
    simp only [ssum]
    omega

end Go.Proofs.Ytaegajlffiepoaa
