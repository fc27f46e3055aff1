/- Layer 6's reference: Closing, Match. -/
import Derived.Test.YtoaenlbbochjhaaSynU1
namespace Go.Proofs.Ytoaenlbbochjhaa
open Go.RowKit TreN LexP FixP SynP
set_option linter.unusedVariables false

set_option maxRecDepth 100000 in
set_option maxHeartbeats 1000000 in
theorem refClosing_any (k : Int) (w : World) : Calls Try.prog 94 #[.int .i64 k] w fun e w' => e = .returned (.int .i64 (clo k)) ∧ w' = w := by
  rcases (by omega : k = 13 ∨ k = 2 ∨ k = 15 ∨ k = 17 ∨ (¬ k = 13 ∧ ¬ k = 2 ∧ ¬ k = 15 ∧ ¬ k = 17)) with rfl | rfl | rfl | rfl | ⟨h1, h2, h3, h4⟩
  · go_enter Try.func94, Try.ntmps94
    go_wp2_with fail
    go_ret
    exact ⟨rfl, rfl⟩
  · go_enter Try.func94, Try.ntmps94
    go_wp2_with fail
    go_ret
    exact ⟨rfl, rfl⟩
  · go_enter Try.func94, Try.ntmps94
    go_wp2_with fail
    go_ret
    exact ⟨rfl, rfl⟩
  · go_enter Try.func94, Try.ntmps94
    go_wp2_with fail
    go_ret
    exact ⟨rfl, rfl⟩
  · have hc : clo k = 0 := by unfold clo; rw [if_neg (by omega), if_neg (by omega), if_neg (by omega)]
    have b1 : (k == 13) = false := by rw [beq_eq_false_iff_ne]; exact h1
    have b2 : (k == 2) = false := by rw [beq_eq_false_iff_ne]; exact h2
    have b3 : (k == 15) = false := by rw [beq_eq_false_iff_ne]; exact h3
    have b4 : (k == 17) = false := by rw [beq_eq_false_iff_ne]; exact h4
    have HC := Lib.hid hc
    clear hc
    go_enter Try.func94, Try.ntmps94
    go_wp2_with fail
    go_ret
    exact ⟨by rw [HC.out]; rfl, rfl⟩

/-- where the reference's loop stands -/
def RmAt (l : List Tok) (i k : Nat) (c : Int) : Prop := (k ≤ l.length ∧ mtc l i = lpR l c k) ∨ (k = l.length + 1 ∧ mtc l i = l.length)
theorem RmAt.step {l : List Tok} {i k : Nat} {c : Int} (h : RmAt l i k c) (hk : k < l.length) (hc : clo c = 0) (hn : l[k].kind ≠ c) : RmAt l i (mtc l k + 1) c := by
  rcases h with ⟨h1, h2⟩ | ⟨h1, _⟩
  · rw [lpR_step hk hn] at h2
    have hb := mtc_bd hk
    by_cases hle : mtc l k + 1 ≤ l.length
    · rw [if_pos hle] at h2; exact Or.inl ⟨hle, h2⟩
    · rw [if_neg hle] at h2; exact Or.inr ⟨by omega, h2⟩
  · omega
theorem RmAt.hit {l : List Tok} {i k : Nat} {c : Int} (h : RmAt l i k c) (hk : k < l.length) (hc : clo c = 0) (hn : l[k].kind = c) : mtc l i = k := by
  rcases h with ⟨h1, h2⟩ | ⟨h1, _⟩
  · rw [h2, lpR_hit hk hc hn]
  · omega
theorem RmAt.over {l : List Tok} {i k : Nat} {c : Int} (h : RmAt l i k c) (hk : l.length ≤ k) : mtc l i = l.length := by
  rcases h with ⟨h1, h2⟩ | ⟨h1, h2⟩
  · rw [h2, lpR_end c hk]
  · exact h2

set_option maxRecDepth 100000 in
set_option maxHeartbeats 2000000 in
theorem refMatch_nat (a : Option Addr) (l : List Tok) (n cap : Nat) (hn : l.length = n) (hl : n ≤ 100000) : ∀ (d i : Nat) (w : World), i < n → n - i ≤ d → Tks w a l →
    Calls Try.prog 84 #[.slice a n cap, .int .i64 (i : Int)] w fun e w' => e = .returned (.int .i64 (mtc l i)) ∧ ∃ q, w' = w.drewN q := by
  intro d
  induction d with
  | zero => intro i w hi hd; omega
  | succ d ih =>
    intro i w hi hd hT
    have hil : i < l.length := by omega
    obtain ⟨b1, o1, rfl, hb1, k1⟩ := hT.get hil
    obtain ⟨t, ht⟩ : ∃ t, l[i] = t := ⟨_, rfl⟩
    rw [ht] at k1
    have d1 : w.cell? ⟨b1, o1 + i * 3, none⟩ = some (.int .i64 t.kind) := k1.kind
    have hz3 : (i : Int) < (n : Int) := by omega
    have hz4 : (0 : Int) ≤ (i : Int) := by omega
    have hz5 : ¬ (i : Int) < 0 := by omega
    have hz6 : ¬ n ≤ i := by omega
    have C := refClosing_any t.kind
    have IH := Lib.hid ih
    have HT := Lib.hid hT
    have HN := Lib.hid hn
    have HTT := Lib.hid ht
    by_cases hc : clo t.kind = 0
    · have hm : mtc l i = i := mtc_none hil (by rw [ht]; exact hc)
      rw [hm]
      rw [hc] at C
      have CC := Lib.hid C
      generalize t.kind = tk at *
      clear C hm hc hT hn ht k1 ih
      go_enter Try.func84, Try.ntmps84
      go_wp2_with fail
      refine (CC.out _).mono ?_
      rintro e w1 ⟨rfl, rfl⟩
      go_wp2_with fail
      go_ret
      exact ⟨rfl, 0, rfl⟩
    · have hst : RmAt l i (i + 1) (clo t.kind) := Or.inl ⟨by omega, by rw [mtc_lpR hil (by rw [ht]; exact hc), ht]⟩
      have hcc := clo_clo t.kind
      have hcz : (clo t.kind == 0) = false := by rw [beq_eq_false_iff_ne]; exact hc
      obtain ⟨tk, htk⟩ : ∃ x, t.kind = x := ⟨_, rfl⟩
      rw [htk] at C hst hcc hcz d1 hc
      obtain ⟨cl, hcl⟩ : ∃ x, clo tk = x := ⟨_, rfl⟩
      rw [hcl] at C hst hcc hcz
      have CC := Lib.hid C
      have HST := Lib.hid hst
      have HCL := Lib.hid hcc
      obtain ⟨R, hR⟩ : ∃ x, mtc l i = x := ⟨_, rfl⟩
      have HR := Lib.hid hR
      rw [hR]
      have hi1 : i + 1 ≤ n + 1 := by omega
      clear C hc hT hn ht k1 ih hst hcc htk hcl hR
      go_enter Try.func84, Try.ntmps84
      go_wp2_with fail
      refine (CC.out _).mono ?_
      rintro e w1 ⟨rfl, rfl⟩
      go_wp2_with fail
      clear hcz
      go_loopw [5] (fun vi wr => ∃ k q : Nat, vi = .int .i64 (k : Int) ∧ i + 1 ≤ k ∧ k ≤ n + 1 ∧ wr = w1.drewN q ∧ Hid (RmAt l i k cl)) (fun vi _ => n + 1 - (intOf vi).toNat)
      case atStart => exact ⟨i + 1, 0, by go_num, Nat.le_refl _, hi1, rfl, HST⟩
      case round =>
        obtain ⟨k, q, rfl, hik, hk, rfl, HA⟩ := hrel
        by_cases hlt : k < n
        · have hltz : (k : Int) < (n : Int) := by omega
          have hkl : k < l.length := by have := HN.out; omega
          obtain ⟨b2, o2, e, g1, k1⟩ := HT.out.get hkl
          injection e with e; injection e with e1 e2; subst e1; subst e2
          obtain ⟨u, hu⟩ : ∃ u, l[k] = u := ⟨_, rfl⟩
          rw [hu] at k1
          have e1 : (w1.drewN q).cell? ⟨b1, o1 + k * 3, none⟩ = some (.int .i64 u.kind) := k1.kind
          have d1' : (w1.drewN q).cell? ⟨b1, o1 + i * 3, none⟩ = some (.int .i64 tk) := d1
          obtain ⟨uk, huk⟩ : ∃ x, u.kind = x := ⟨_, rfl⟩
          have HUK : Hid (l[k].kind = uk) := Lib.hid (by rw [hu, huk])
          rw [huk] at e1
          have MM : Hid (∀ q2, Calls Try.prog 84 #[.slice (some ⟨b1, o1, none⟩) n cap, .int .i64 (k : Int)] (w1.drewN q2) fun e w' => e = .returned (.int .i64 (mtc l k)) ∧ ∃ q3, w' = (w1.drewN q2).drewN q3) := Lib.hid fun q2 => IH.out k (w1.drewN q2) hlt (by omega) (HT.out.below ((below_drewN2 (Below.refl _ _) q2)))
          have hbd := mtc_bd hkl
          have hln := HN.out
          generalize hwq : w1.drewN q = wq at e1 d1' ⊢
          have HW := Lib.hid hwq
          clear k1 hu huk hwq
          by_cases hkc : uk = cl
          · have hez : (uk == cl) = true := by rw [beq_iff_eq]; exact hkc
            have HF : Hid (R = k) := Lib.hid (by rw [← HR.out, HA.out.hit hkl HCL.out (by rw [HUK.out]; exact hkc)])
            clear hkc
            go_wp2_with fail
            go_quiet (first | (go_at_call 94; refine Calls.quiet_of_same (CC.out _)))
            go_wp2_with fail
            go_ret
            exact ⟨by rw [HF.out]; rfl, q + nq, by rw [← HW.out, World.drewN_drewN]⟩
          · have hez : (uk == cl) = false := by rw [beq_eq_false_iff_ne]; exact hkc
            have HS : Hid (RmAt l i (mtc l k + 1) cl) := Lib.hid (HA.out.step hkl HCL.out (by rw [HUK.out]; exact hkc))
            obtain ⟨m, hm⟩ : ∃ m, mtc l k = m := ⟨_, rfl⟩
            rw [hm] at hbd HS
            simp only [hm] at MM
            have hw : IntKind.i64.wrap ((m : Int) + 1) = ((m : Int) + 1) := IntWalk.i64_in _ (by omega)
            clear hkc hm
            go_wp2_with fail
            go_quiet (first | (go_at_call 94; refine Calls.quiet_of_same (CC.out _)))
            have MQ := Lib.hid (MM.out (q + nq))
            have hwq2 : wq.drewN nq = w1.drewN (q + nq) := by rw [← HW.out, World.drewN_drewN]
            rw [hwq2]
            go_wp2_with fail
            refine MQ.out.mono ?_
            rintro e w2 ⟨rfl, q3, rfl⟩
            go_wp2_with fail
            go_roundw
            case rel => exact ⟨m + 1, q + nq + q3, by go_num, by omega, by omega, rfl, HS⟩
            case measure => simp [intOf]; omega
        · have hltz : ¬ (k : Int) < (n : Int) := by omega
          have HF : Hid (R = n) := Lib.hid (by rw [← HR.out, HA.out.over (by have := HN.out; omega), HN.out])
          go_wp2_with fail
          go_ret
          exact ⟨by rw [HF.out]; rfl, q, rfl⟩

set_option maxRecDepth 100000 in
set_option maxHeartbeats 1000000 in
theorem refMatch_any (a : Option Addr) (l : List Tok) (cap : Nat) (i : Int) (w : World) (hl : l.length ≤ 100000) (hT : Tks w a l) :
    Calls Try.prog 84 #[.slice a l.length cap, .int .i64 i] w fun e w' => e = .returned (.int .i64 (matchS l i)) ∧ ∃ q, w' = w.drewN q := by
  unfold matchS
  by_cases h0 : i < 0
  · rw [if_neg (by omega)]
    go_enter Try.func84, Try.ntmps84
    go_wp2_with fail
    go_ret
    exact ⟨rfl, 0, rfl⟩
  · by_cases h1 : (l.length : Int) ≤ i
    · rw [if_neg (by omega)]
      go_enter Try.func84, Try.ntmps84
      go_wp2_with fail
      go_ret
      exact ⟨rfl, 0, rfl⟩
    · rw [if_pos (by omega)]
      obtain ⟨j, hj⟩ : ∃ j : Nat, i = (j : Int) := ⟨i.toNat, by omega⟩
      subst hj
      rw [show (j : Int).toNat = j by omega]
      exact refMatch_nat a l l.length cap rfl hl (l.length - j) j w (by omega) (Nat.le_refl _) hT
end Go.Proofs.Ytoaenlbbochjhaa
