/- The walks of layer 5's reference: signs, strings. -/
import Derived.Test.YtjmjjnbpbofjhaaLexR1
import Derived.Test.YtjmjjnbpbofjhaaLexW6
namespace Go.Proofs.Ytjmjjnbpbofjhaa
open Go.RowKit TreN LexP FixP

def sgs : ByteArray := ⟨#[58, 59, 44, 40, 41, 91, 93, 123, 125]⟩
theorem signK_hit (c : UInt8) (k : Nat) (hk : k < 9) (h : sgs[k]'hk = c) : signK c = 10 + (k : Int) := by
  have hk' : k = 0 ∨ k = 1 ∨ k = 2 ∨ k = 3 ∨ k = 4 ∨ k = 5 ∨ k = 6 ∨ k = 7 ∨ k = 8 := by omega
  subst h
  rcases hk' with rfl | rfl | rfl | rfl | rfl | rfl | rfl | rfl | rfl <;> (revert hk; decide)
theorem signK_miss (c : UInt8) (h : ∀ j (hj : j < 9), ¬ sgs[j]'hj = c) : signK c = 0 := by
  have e : ∀ j (hj : j < 9) (n : Nat), (sgs[j]'hj).toNat = n → ¬ c.toNat = n := fun j hj n hn x => h j hj (UInt8.toNat_inj.1 (by rw [hn, x]))
  unfold signK
  rw [if_neg (e 0 (by omega) 58 rfl), if_neg (e 1 (by omega) 59 rfl), if_neg (e 2 (by omega) 44 rfl), if_neg (e 3 (by omega) 40 rfl), if_neg (e 4 (by omega) 41 rfl), if_neg (e 5 (by omega) 91 rfl), if_neg (e 6 (by omega) 93 rfl), if_neg (e 7 (by omega) 123 rfl), if_neg (e 8 (by omega) 125 rfl)]

set_option maxRecDepth 100000 in
set_option maxHeartbeats 2000000 in
theorem refSign_any (c : UInt8) (w : World) : Calls Try.prog 97 #[.int .u8 (c.toNat : Int)] w fun e w' => e = .returned (.int .i64 (signK c)) ∧ w = w' := by
  go_enter Try.func97, Try.ntmps97
  go_wp2_with fail
  go_loop [4] (fun i => ∃ k : Nat, k ≤ 9 ∧ i = .int .i64 (k : Int) ∧ Hid (∀ j (hj : j < 9), j < k → ¬ sgs[j]'hj = c)) (fun i => 9 - (intOf i).toNat)
  case atStart => exact ⟨0, by omega, rfl, fun j hj h => by omega⟩
  case round =>
    obtain ⟨k, hk, rfl, HJ⟩ := hrel
    by_cases hlt : k < 9
    · have hltz : (k : Int) < 9 := by omega
      by_cases hc : sgs[k]'hlt = c
      · have kb : (((⟨#[58, 59, 44, 40, 41, 91, 93, 123, 125]⟩ : ByteArray)[k]'hlt).toNat : Int) = (c.toNat : Int) := by rw [← hc]; rfl
        have kb2 : ((((⟨#[58, 59, 44, 40, 41, 91, 93, 123, 125]⟩ : ByteArray)[k]'hlt).toNat : Int) == (c.toNat : Int)) = true := by rw [beq_iff_eq]; exact kb
        have HS := Lib.hid (signK_hit c k hlt hc)
        clear hc kb
        go_wp2_with fail
        go_ret
        exact ⟨ret_int (by have := HS.out; omega), rfl⟩
      · have kb2 : ((((⟨#[58, 59, 44, 40, 41, 91, 93, 123, 125]⟩ : ByteArray)[k]'hlt).toNat : Int) == (c.toNat : Int)) = false := by
          rw [beq_eq_false_iff_ne]
          intro x
          exact hc (UInt8.toNat_inj.1 (by show ((⟨#[58, 59, 44, 40, 41, 91, 93, 123, 125]⟩ : ByteArray)[k]'hlt).toNat = _; omega))
        have HC := Lib.hid hc
        clear hc
        go_wp2_with fail
        go_round
        case rel =>
          refine ⟨k + 1, by omega, by go_num, fun j hj h => ?_⟩
          by_cases q : j = k
          · subst q; exact HC.out
          · exact HJ.out j hj (by omega)
        case measure => simp [intOf]; omega
    · have hltz : ¬ (k : Int) < 9 := by omega
      have HM := Lib.hid (signK_miss c fun j hj => HJ.out j hj (by omega))
      go_wp2_with fail
      go_ret
      exact ⟨ret_int HM.out.symm, rfl⟩

theorem inQ_yes {q c : UInt8} (h : inQ q c = true) : ((c.toNat : Int) != (q.toNat : Int)) = true ∧ ((c.toNat : Int) != 10) = true := by
  unfold inQ at h
  simp at h
  constructor
  · rw [bne_iff_ne]; intro x; exact h.1 (UInt8.toNat_inj.1 (by omega))
  · rw [bne_iff_ne]; intro x; exact h.2 (UInt8.toNat_inj.1 (by show c.toNat = 10; omega))
theorem inQ_no {q c : UInt8} (h : inQ q c = false) : ((c.toNat : Int) != (q.toNat : Int)) = false ∨ (((c.toNat : Int) != (q.toNat : Int)) = true ∧ ((c.toNat : Int) != 10) = false) := by
  by_cases e : c = q
  · left; rw [e]; simp
  · right
    have h2 : c = 10 := by
      unfold inQ at h
      simp at h
      exact h e
    constructor
    · rw [bne_iff_ne]; intro x; exact e (UInt8.toNat_inj.1 (by omega))
    · rw [h2]; rfl

/-- where the end of a quoted text is looked for -/
def QuoRel (s : ByteArray) (a : Nat) (w : World) (i : Value) (wr : World) : Prop :=
  ∃ k q : Nat, a + 1 + k ≤ s.size ∧ i = .int .i64 ((a + 1 + k : Nat) : Int) ∧ wr = w.drewN q ∧ Hid (∀ j, j < k → ∀ h : a + 1 + j < s.size, inQ (s.data.toList.getD a 0) s[a + 1 + j] = true)
theorem drewN_size (w : World) (q : Nat) : (w.drewN q).heap.size = w.heap.size := rfl
theorem drewN_heap (w : World) (q : Nat) : (w.drewN q).heap = w.heap := rfl
theorem below_dN (B : Nat) (w : World) (q : Nat) : Below B w (w.drewN q) := ⟨rfl, rfl, rfl, Nat.le_refl _, fun _ _ => rfl⟩
end Go.Proofs.Ytjmjjnbpbofjhaa
