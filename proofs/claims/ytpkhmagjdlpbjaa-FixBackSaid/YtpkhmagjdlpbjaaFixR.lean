/- Plain lists for layer 1's texts: what the reference prints. Nothing of the program is imported. -/
import Derived.Test.YtpkhmagjdlpbjaaFixQ
namespace Go.Proofs.Ytpkhmagjdlpbjaa.FixP
open FixM

/-- the digits of a whole number (so many at the most) -/
def whl : Nat → Int → List UInt8
  | 0, _ => []
  | k + 1, n => if n < 10 then [dgc n] else whl k (n / 10) ++ [dgc (n % 10)]
theorem whl_len : ∀ (k : Nat) (n : Int), (whl k n).length ≤ k
  | 0, _ => by simp [whl]
  | k + 1, n => by
    have := whl_len k (n / 10)
    unfold whl
    split
    · simp
    · simp; omega
theorem whl_digit {n : Int} (h : n < 10) (k : Nat) : whl (k + 1) n = [dgc n] := by unfold whl; rw [if_pos h]

/-- digits of the whole part, told from the last on -/
def itr (st : Int × List UInt8) : Nat → Int × List UInt8
  | 0 => st
  | k + 1 => itr (pr2 false st) k
theorem itr_out : ∀ (k : Nat) (st : Int × List UInt8), itr (pr2 false st) k = pr2 false (itr st k)
  | 0, _ => rfl
  | k + 1, st => itr_out k (pr2 false st)
theorem pr2s_itr (st : Int × List UInt8) : ∀ k, pr2s st (k + 1) = itr (pr2 true st) k
  | 0 => rfl
  | k + 1 => by
    show pr2 (k + 1 == 0) (pr2s st (k + 1)) = itr (pr2 false (pr2 true st)) k
    rw [pr2s_itr st k, itr_out]
    rfl
theorem itr_whl : ∀ (k : Nat) (x : Int) (t : List UInt8), 0 ≤ x → x < 10 ^ k → (itr (x, t) k).2 = (if x = 0 then [] else whl k x) ++ t
  | 0, x, t, h0, h1 => by
    have : x = 0 := by simp at h1; omega
    subst this; rfl
  | k + 1, x, t, h0, h1 => by
    have h3 : x / 10 < 10 ^ k := by rw [Int.pow_succ] at h1; omega
    show (itr (pr2 false (x, t)) k).2 = _
    by_cases hx : x = 0
    · subst hx
      have : pr2 false (0, t) = (0, t) := by unfold pr2; simp
      rw [this, itr_whl k 0 t (by omega) (by simpa using h3)]
      simp
    · have : pr2 false (x, t) = (x / 10, dgc (x % 10) :: t) := by unfold pr2; simp; omega
      rw [this, itr_whl k _ _ (by omega) h3, if_neg hx]
      by_cases h10 : x < 10
      · have e1 : x / 10 = 0 := by omega
        have e2 : x % 10 = x := by omega
        rw [whl_digit h10, e1, e2]
        rfl
      · rw [if_neg (by omega)]
        show _ = (if x < 10 then [dgc x] else whl k (x / 10) ++ [dgc (x % 10)]) ++ t
        rw [if_neg h10]
        simp
theorem pr2s_whl (x : Int) (t : List UInt8) (h0 : 0 ≤ x) (h1 : x < 10000000) : (pr2s (x, t) 7).2 = whl 7 x ++ t := by
  rw [pr2s_itr]
  have : pr2 true (x, t) = (x / 10, dgc (x % 10) :: t) := by unfold pr2; simp
  rw [this, itr_whl 6 _ _ (by omega) (by show x / 10 < 1000000; omega)]
  show _ = (if x < 10 then [dgc x] else whl 6 (x / 10) ++ [dgc (x % 10)]) ++ t
  by_cases h10 : x < 10
  · have e1 : x / 10 = 0 := by omega
    have e2 : x % 10 = x := by omega
    rw [if_pos h10, e1, e2]; rfl
  · rw [if_neg h10, if_neg (by omega)]; simp

/-- behind the point, as the reference goes: what is left, by what it is divided, what is written -/
def frp (q : Int) : Nat → Int
  | 0 => q
  | 1 => q % 100
  | 2 => q % 100 % 10
  | _ => 0
def frk : Nat → Int
  | 0 => 100
  | 1 => 10
  | 2 => 1
  | _ => 0
def frs (b : List UInt8) (q : Int) : Nat → List UInt8
  | 0 => b ++ [46]
  | j + 1 => frs b q j ++ [dgc (frp q j / frk j)]
def frr (b : List UInt8) (q : Int) : List UInt8 := if q % 100 = 0 then frs b q 1 else if q % 100 % 10 = 0 then frs b q 2 else frs b q 3
theorem frs_len (b : List UInt8) (q : Int) : ∀ j, (frs b q j).length = b.length + 1 + j
  | 0 => by simp [frs]
  | j + 1 => by simp [frs, frs_len b q j]; omega

theorem prt_eq_ref (a : Int) (h0 : 0 ≤ a) (h1 : a ≤ 1073741824) : prt a = if a % 1000 = 0 then whl 7 (a / 1000) else frr (whl 7 (a / 1000)) (a % 1000) := by
  unfold prt
  have e1 : (pr1s a 3).1 = a / 1000 := by show a / 10 / 10 / 10 = _; omega
  rw [e1, pr2s_whl _ _ (by omega) (by omega)]
  obtain ⟨b, hb⟩ : ∃ b, b = whl 7 (a / 1000) := ⟨_, rfl⟩
  rw [← hb]
  have c0 : a % 1000 % 100 % 10 = a % 10 := by omega
  have c1 : a % 100 / 10 = a / 10 % 10 := by omega
  have c2 : a % 1000 / 100 = a / 10 / 10 % 10 := by omega
  have hz : a % 1000 % 100 = 0 ↔ a % 10 = 0 ∧ a / 10 % 10 = 0 := by omega
  have hq : a % 1000 = 0 ↔ a % 10 = 0 ∧ a / 10 % 10 = 0 ∧ a / 10 / 10 % 10 = 0 := by omega
  have hf : (pr1s a 3).2 = if a / 10 / 10 % 10 ≠ 0 ∨ (if a / 10 % 10 ≠ 0 ∨ (if a % 10 ≠ 0 then [dgc (a % 10)] else []) ≠ [] then dgc (a / 10 % 10) :: (if a % 10 ≠ 0 then [dgc (a % 10)] else []) else (if a % 10 ≠ 0 then [dgc (a % 10)] else [])) ≠ []
      then dgc (a / 10 / 10 % 10) :: (if a / 10 % 10 ≠ 0 ∨ (if a % 10 ≠ 0 then [dgc (a % 10)] else []) ≠ [] then dgc (a / 10 % 10) :: (if a % 10 ≠ 0 then [dgc (a % 10)] else []) else (if a % 10 ≠ 0 then [dgc (a % 10)] else []))
      else (if a / 10 % 10 ≠ 0 ∨ (if a % 10 ≠ 0 then [dgc (a % 10)] else []) ≠ [] then dgc (a / 10 % 10) :: (if a % 10 ≠ 0 then [dgc (a % 10)] else []) else (if a % 10 ≠ 0 then [dgc (a % 10)] else [])) := by
    simp [pr1s, pr1]
  have hk0 : frk 0 = 100 := rfl
  have hk1 : frk 1 = 10 := rfl
  have hk2 : frk 2 = 1 := rfl
  have hp0 : frp (a % 1000) 0 = a % 1000 := rfl
  have hp1 : frp (a % 1000) 1 = a % 1000 % 100 := rfl
  have hp2 : frp (a % 1000) 2 = a % 1000 % 100 % 10 := rfl
  rw [hf]
  unfold frr
  rw [c0]
  by_cases d0 : a % 10 = 0
  · by_cases d1 : a / 10 % 10 = 0
    · by_cases d2 : a / 10 / 10 % 10 = 0
      · rw [if_pos (hq.2 ⟨d0, d1, d2⟩)]
        simp [d0, d1, d2, prp]
      · rw [if_neg (fun h => d2 (hq.1 h).2.2), if_pos (hz.2 ⟨d0, d1⟩)]
        simp [d0, d1, d2, prp, frs, hp0, hk0, c2]
    · rw [if_neg (fun h => d1 (hq.1 h).2.1), if_neg (fun h => d1 (hz.1 h).2)]
      simp [d0, d1, prp, frs, hp0, hk0, hp1, hk1, c1, c2]
  · rw [if_neg (fun h => d0 (hq.1 h).1), if_neg (fun h => d0 (hz.1 h).1)]
    simp [d0, prp, frs, hp0, hk0, hp1, hk1, hp2, hk2, c1, c2]
theorem fr_facts (q : Int) (h0 : 0 ≤ q) (h1 : q < 1000) (j : Nat) (hj : j ≤ 2) : 0 ≤ frp q j ∧ frp q j ≤ 999 ∧ 1 ≤ frk j ∧ frk j ≤ 100 ∧ 0 ≤ frp q j / frk j ∧ frp q j / frk j < 10 ∧
    frp q j % frk j = frp q (j + 1) ∧ frk j / 10 = frk (j + 1) := by
  have : j = 0 ∨ j = 1 ∨ j = 2 := by omega
  rcases this with rfl | rfl | rfl
  · show 0 ≤ q ∧ q ≤ 999 ∧ (1 : Int) ≤ 100 ∧ (100 : Int) ≤ 100 ∧ 0 ≤ q / 100 ∧ q / 100 < 10 ∧ q % 100 = q % 100 ∧ (100 : Int) / 10 = 10; omega
  · show 0 ≤ q % 100 ∧ q % 100 ≤ 999 ∧ (1 : Int) ≤ 10 ∧ (10 : Int) ≤ 100 ∧ 0 ≤ q % 100 / 10 ∧ q % 100 / 10 < 10 ∧ q % 100 % 10 = q % 100 % 10 ∧ (10 : Int) / 10 = 1; omega
  · show 0 ≤ q % 100 % 10 ∧ q % 100 % 10 ≤ 999 ∧ (1 : Int) ≤ 1 ∧ (1 : Int) ≤ 100 ∧ 0 ≤ q % 100 % 10 / 1 ∧ q % 100 % 10 / 1 < 10 ∧ q % 100 % 10 % 1 = 0 ∧ (1 : Int) / 10 = 0; omega
theorem frr_eq (b : List UInt8) (q : Int) (h : 0 < q) (j : Nat) (hj : j ≤ 3) (hz : frp q j = 0) (hb : ∀ i, i < j → 0 < i → 0 < frp q i) : frr b q = frs b q j := by
  have h1 : frp q 1 = q % 100 := rfl
  have h2 : frp q 2 = q % 100 % 10 := rfl
  have : j = 0 ∨ j = 1 ∨ j = 2 ∨ j = 3 := by omega
  rcases this with rfl | rfl | rfl | rfl
  · have e : frp q 0 = q := rfl
    omega
  · unfold frr; rw [if_pos (by omega)]
  · have := hb 1 (by omega) (by omega)
    unfold frr; rw [if_neg (by omega), if_pos (by omega)]
  · have := hb 1 (by omega) (by omega)
    have := hb 2 (by omega) (by omega)
    unfold frr; rw [if_neg (by omega), if_neg (by omega)]
end Go.Proofs.Ytpkhmagjdlpbjaa.FixP
