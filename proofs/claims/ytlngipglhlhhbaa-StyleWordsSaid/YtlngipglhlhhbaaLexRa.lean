/- Joined texts: LexR1 LexR2 LexR3. -/
import Derived.Test.YtlngipglhlhhbaaLexWa
import Derived.Test.YtlngipglhlhhbaaLexPs
import Derived.Test.YtlngipglhlhhbaaMem
namespace Go.Proofs.Ytlngipglhlhhbaa
open Go.RowKit TreN LexP FixP

theorem piece_eq (s sub : ByteArray) (a : Nat) (h : a + sub.size ≤ s.size) : ((s.extract a (a + sub.size)).toList == sub.toList) = Lib.hasPrefix (s.data.toList.drop a) sub.data.toList := (Lib.occ_of_piece s sub a h).symm
theorem piece_no (l : List UInt8) (m : List UInt8) (h : l.length < m.length) : Lib.hasPrefix l m = false := by
  cases hp : Lib.hasPrefix l m with
  | false => rfl
  | true =>
    have := List.IsPrefix.length_le (List.isPrefixOf_iff_prefix.1 hp)
    omega

theorem endC_hit (l : List UInt8) (h : Lib.hasPrefix l [42, 47] = true) : endC l = 2 := by
  match l, h with
  | [], h => cases h
  | [a], h => simp [Lib.hasPrefix, List.isPrefixOf] at h
  | a :: b :: r, h =>
    simp only [Lib.hasPrefix, List.isPrefixOf, Bool.and_eq_true, beq_iff_eq] at h
    show (if a.toNat = 42 ∧ b.toNat = 47 then 2 else endC (b :: r) + 1) = 2
    rw [if_pos ⟨by rw [← h.1]; rfl, by rw [← h.2.1]; rfl⟩]
theorem endC_miss (c : UInt8) (r : List UInt8) (h : Lib.hasPrefix (c :: r) [42, 47] = false) : endC (c :: r) = endC r + 1 := by
  cases r with
  | nil => rfl
  | cons b r =>
    show (if c.toNat = 42 ∧ b.toNat = 47 then 2 else endC (b :: r) + 1) = _
    rw [if_neg]
    rintro ⟨h1, h2⟩
    have e1 : c = 42 := UInt8.toNat_inj.1 h1
    have e2 : b = 47 := UInt8.toNat_inj.1 h2
    subst e1; subst e2
    simp [Lib.hasPrefix, List.isPrefixOf] at h

theorem bt_at (s : ByteArray) (a : Nat) (h : a < s.size) : lB s[a] = letB (s[a].toNat : Int) := rfl
end Go.Proofs.Ytlngipglhlhhbaa

namespace Go.Proofs.Ytlngipglhlhhbaa
open Go.RowKit TreN LexP FixP

def sgs : ByteArray := ⟨#[58, 59, 44, 40, 41, 91, 93, 123, 125]⟩
theorem signK_hit (c : UInt8) (k : Nat) (hk : k < 9) (h : sgs[k]'hk = c) : signK c = 10 + (k : Int) := by
  have hk' : k = 0 ∨ k = 1 ∨ k = 2 ∨ k = 3 ∨ k = 4 ∨ k = 5 ∨ k = 6 ∨ k = 7 ∨ k = 8 := by omega
  subst h
  rcases hk' with rfl | rfl | rfl | rfl | rfl | rfl | rfl | rfl | rfl <;> (revert hk; decide)
theorem signK_miss (c : UInt8) (h : ∀ j (hj : j < 9), ¬ sgs[j]'hj = c) : signK c = 0 := by
  have e : ∀ j (hj : j < 9) (n : Nat), (sgs[j]'hj).toNat = n → ¬ c.toNat = n := fun j hj n hn x => h j hj (UInt8.toNat_inj.1 (by rw [hn, x]))
  unfold signK
  rw [if_neg (e 0 (by omega) 58 rfl), if_neg (e 1 (by omega) 59 rfl), if_neg (e 2 (by omega) 44 rfl), if_neg (e 3 (by omega) 40 rfl), if_neg (e 4 (by omega) 41 rfl), if_neg (e 5 (by omega) 91 rfl), if_neg (e 6 (by omega) 93 rfl), if_neg (e 7 (by omega) 123 rfl), if_neg (e 8 (by omega) 125 rfl)]

theorem inQ_yes {q c : UInt8} (h : inQ q c = true) : ((c.toNat : Int) != (q.toNat : Int)) = true ∧ ((c.toNat : Int) != 10) = true := by
  unfold inQ at h
  simp at h
  constructor
  · rw [bne_iff_ne]; intro x; exact h.1 (UInt8.toNat_inj.1 (by omega))
  · rw [bne_iff_ne]; intro x; exact h.2 (UInt8.toNat_inj.1 (by show c.toNat = 10; omega))
theorem inQ_no {q c : UInt8} (h : inQ q c = false) : ((c.toNat : Int) != (q.toNat : Int)) = false ∨ (((c.toNat : Int) != (q.toNat : Int)) = true ∧ ((c.toNat : Int) != 10) = false) := by
  by_cases e : c = q
  · left; rw [e]; simp
  · right
    have h2 : c = 10 := by
      unfold inQ at h
      simp at h
      exact h e
    constructor
    · rw [bne_iff_ne]; intro x; exact e (UInt8.toNat_inj.1 (by omega))
    · rw [h2]; rfl

/-- where the end of a quoted text is looked for -/
def QuoRel (s : ByteArray) (a : Nat) (w : World) (i : Value) (wr : World) : Prop :=
  ∃ k q : Nat, a + 1 + k ≤ s.size ∧ i = .int .i64 ((a + 1 + k : Nat) : Int) ∧ wr = w.drewN q ∧ Hid (∀ j, j < k → ∀ h : a + 1 + j < s.size, inQ (s.data.toList.getD a 0) s[a + 1 + j] = true)
theorem drewN_size (w : World) (q : Nat) : (w.drewN q).heap.size = w.heap.size := rfl
theorem drewN_heap (w : World) (q : Nat) : (w.drewN q).heap = w.heap := rfl
theorem below_dN (B : Nat) (w : World) (q : Nat) : Below B w (w.drewN q) := ⟨rfl, rfl, rfl, Nat.le_refl _, fun _ _ => rfl⟩
end Go.Proofs.Ytlngipglhlhhbaa

namespace Go.Proofs.Ytlngipglhlhhbaa
open Go.RowKit TreN LexP FixP

/-- how the reference ends at a quoted text's end E -/
def QuoEnd (s : ByteArray) (a E : Nat) (T : List UInt8) (X : Tok × Nat) : Prop :=
  s.extract (a + 1) E = ⟨T.toArray⟩ ∧ a + 1 ≤ E ∧ ((E = s.size ∧ X = (⟨5, T, 0⟩, E - a)) ∨ (∃ h : E < s.size, s[E].toNat = 10 ∧ X = (⟨6, T, 0⟩, E - a)) ∨ (∃ h : E < s.size, ¬ s[E].toNat = 10 ∧ X = (⟨5, T, 0⟩, E + 1 - a)))
theorem quo_end (s : ByteArray) (a k : Nat) (ha : a < s.size) (hk : a + 1 + k ≤ s.size) (h : ∀ j, j < k → ∀ hj : a + 1 + j < s.size, inQ s[a] s[a + 1 + j] = true) (he : a + 1 + k = s.size ∨ ∃ hj : a + 1 + k < s.size, inQ s[a] s[a + 1 + k] = false) :
    ∃ T, QuoEnd s a (a + 1 + k) T (quoL s[a] (s.data.toList.drop (a + 1))) := by
  have hE : a + 1 + ((s.data.toList.drop (a + 1)).takeWhile (inQ s[a])).length = a + 1 + k := by
    rw [tw_take (p := inQ s[a]) (a := a + 1) (k := k) hk h he]
  exact ⟨_, ext_tw s (a + 1) (inQ s[a]) _ hE, by omega, quo_ways s a _ s[a] hE ha⟩

end Go.Proofs.Ytlngipglhlhhbaa
