/- Layer 18's other text: extremes; fixed calls; equal texts. -/
import Derived.Test.YtekmgpbolbkiaaaWdsWA
import Derived.Deep.QuietTactic
import Derived.BigQuiet
namespace Go.Proofs.Ytekmgpbolbkiaaa
open Go.RowKit FixM FixP TreN WdsP
set_option linter.unusedVariables false

set_option maxRecDepth 100000 in
set_option maxHeartbeats 8000000 in
theorem refExtremes18_any (s : ByteArray) (font : Int) (w : World) (hs : s.size ≤ 300) : Calls Try.prog 21 #[.string s, .int .i64 font] w fun e w' => e = .returned (.tuple #[.int .i64 (leastS font (wordsS s)), .int .i64 (wid font (wordsS s))]) ∧ Below w.heap.size w w' := by
  have SP := Lib.hid (refSplit18_any s w hs)
  have HSZ := Lib.hid (words_sz s)
  have hlen := words_len s
  obtain ⟨L, hL⟩ : ∃ L, wordsS s = L := ⟨_, rfl⟩
  rw [hL] at SP HSZ hlen
  rw [hL]
  obtain ⟨n, hn⟩ : ∃ n, L.length = n := ⟨_, rfl⟩
  rw [hn] at hlen
  have HN := Lib.hid hn
  obtain ⟨r1, hr1⟩ : ∃ r, leastS font L = r := ⟨_, rfl⟩
  obtain ⟨r2, hr2⟩ : ∃ r, wid font L = r := ⟨_, rfl⟩
  have HR1 := Lib.hid hr1
  have HR2 := Lib.hid hr2
  rw [hr1, hr2]
  clear hL hn hr1 hr2
  go_enter Try.func21, Try.ntmps21
  go_wp2_with fail
  refine SP.out.mono ?_
  rintro e w1 ⟨a, c, rfl, hc1, hc2, hb1, hW⟩
  rw [HN.out] at hc1 ⊢
  have HB1 := Lib.hid hb1
  have HWS := Lib.hid hW
  have hcm := hc2
  unfold maxLen at hc2
  have HX : Hid (∀ x ∈ L, x.size ≤ 1000) := Lib.hid (fun x hx => Nat.le_trans (HSZ.out x hx) (by omega))
  clear hb1 hW
  go_wp2_with fail
  go_loop [8, 7] (fun vi vm => ∃ k : Nat, vi = .int .i64 (k : Int) ∧ k ≤ n ∧ ∃ m : Int, vm = .int .i64 m ∧ Hid (m = if k = 0 then 0 else mxK font L k)) (fun vi _ => n - (intOf vi).toNat)
  case atStart => exact ⟨0, rfl, by omega, 0, rfl, Lib.hid rfl⟩
  case round =>
    obtain ⟨k, rfl, hk, m, rfl, HM⟩ := hrel
    by_cases hlt : k < n
    · have hltz : (k : Int) < (n : Int) := by omega
      have hk1 : ((k : Int) + 1) = ((k + 1 : Nat) : Int) := by omega
      have C3 := refWidth18_any a L n c k (k + 1) font w1 HN.out (by omega) (by omega) (by omega) HX.out HWS.out
      rw [← hk1] at C3
      have HMX : Hid (mxK font L (k + 1) = max (mxK font L k) (wid font (seg L k (k + 1)))) := Lib.hid rfl
      have HZ : Hid (k = 0 → mxK font L k = wid font (seg L k (k + 1))) := Lib.hid (fun e => by subst e; rfl)
      obtain ⟨v, hv⟩ : ∃ v, wid font (seg L k (k + 1)) = v := ⟨_, rfl⟩
      rw [hv] at C3 HMX HZ
      have CC3 := Lib.hid C3
      clear C3 hv hk1
      rcases (by omega : k = 0 ∨ (0 < k ∧ m < v) ∨ (0 < k ∧ v ≤ m)) with h0 | ⟨h0, hmv⟩ | ⟨h0, hmv⟩
      · have hz : ((k : Int) == 0) = true := by rw [h0]; rfl
        have HF : Hid (v = if k + 1 = 0 then 0 else mxK font L (k + 1)) := Lib.hid (by rw [if_neg (by omega), HMX.out, HZ.out h0]; omega)
        clear h0
        go_wp2_with fail
        refine CC3.out.mono ?_
        rintro e w3 ⟨rfl, rfl⟩
        go_wp2_with fail
        go_round
        case rel => exact ⟨k + 1, by go_num, by omega, v, rfl, HF⟩
        case measure => simp [intOf]; omega
      · have hz : ((k : Int) == 0) = false := by rw [beq_eq_false_iff_ne]; omega
        have HF : Hid (v = if k + 1 = 0 then 0 else mxK font L (k + 1)) := Lib.hid (by have h := HM.out; rw [if_neg (by omega)] at h; rw [if_neg (by omega), HMX.out, ← h]; omega)
        go_wp2_with fail
        refine CC3.out.mono ?_
        rintro e w3 ⟨rfl, rfl⟩
        go_wp2_with fail
        go_round
        case rel => exact ⟨k + 1, by go_num, by omega, v, rfl, HF⟩
        case measure => simp [intOf]; omega
      · have hz : ((k : Int) == 0) = false := by rw [beq_eq_false_iff_ne]; omega
        have HF : Hid (m = if k + 1 = 0 then 0 else mxK font L (k + 1)) := Lib.hid (by have h := HM.out; rw [if_neg (by omega)] at h; rw [if_neg (by omega), HMX.out, ← h]; omega)
        go_wp2_with fail
        refine CC3.out.mono ?_
        rintro e w3 ⟨rfl, rfl⟩
        go_wp2_with fail
        go_round
        case rel => exact ⟨k + 1, by go_num, by omega, m, rfl, HF⟩
        case measure => simp [intOf]; omega
    · have hke : k = n := by omega
      have hltz : ¬ (k : Int) < (n : Int) := by omega
      have HE : Hid (m = r1) := Lib.hid (by rw [HM.out, ← HR1.out, hke]; unfold leastS; rw [HN.out])
      have C4 := refWidth18_any a L n c 0 n font w1 HN.out (by omega) (by omega) (by omega) HX.out HWS.out
      have hsa : seg L 0 n = L := by rw [← HN.out]; exact seg_all L
      rw [hsa, HR2.out] at C4
      have CC4 := Lib.hid C4
      clear C4 hke hsa
      go_wp2_with fail
      refine CC4.out.mono ?_
      rintro e w3 ⟨rfl, rfl⟩
      go_wp2_with fail
      go_ret2
      exact ⟨by rw [HE.out]; rfl, HB1.out⟩

def knT : ByteArray := ⟨#[97, 98, 32, 99, 100]⟩
theorem kn_ext : leastS 1000 (wordsS knT) = 1000 ∧ wid 1000 (wordsS knT) = 2250 := by decide +kernel
theorem kn_lines : (linesS 1000 (H 2000) (wordsS knT)).length = 2 := by decide +kernel
theorem kn_tall : tallS 2 1000 1200 = 2400 := by decide +kernel

set_option maxRecDepth 100000 in
set_option maxHeartbeats 4000000 in
theorem known18_any (w : World) : Calls Try.prog 10 #[] w fun e w' => e = .returned (.bool true) ∧ Below w.heap.size w w' := by
  have C1 := fun w => Extremes18_any knT 1000 w (by decide)
  rw [kn_ext.1, kn_ext.2] at C1
  have C2 := fun w => Break18_any knT 1000 2000 w (by decide)
  unfold ToldL at C2
  rw [kn_lines] at C2
  have C3 := fun w => Tall18_any 2 1000 1200 w
  rw [kn_tall] at C3
  have CC1 := Lib.hid C1
  have CC2 := Lib.hid C2
  have CC3 := Lib.hid C3
  clear C1 C2 C3
  go_enter Try.func10, Try.ntmps10
  go_wp2_with fail
  refine (CC1.out _).mono ?_
  rintro e w1 ⟨rfl, hb1⟩
  have HB1 := Lib.hid hb1
  clear hb1
  go_wp2_with fail
  refine (CC2.out _).mono ?_
  rintro e w2 ⟨v, rfl, hr, hb2⟩
  obtain ⟨g, cap, rfl⟩ := ownsRow_succ hr
  have HB2 := Lib.hid (HB1.out.trans (hb2.mono HB1.out.size))
  clear hb2 hr
  go_wp2_with fail
  refine (CC3.out _).mono ?_
  rintro e w3 ⟨rfl, rfl⟩
  go_wp2_with fail
  go_ret
  exact ⟨rfl, HB2.out⟩

theorem str_eq18 (x : ByteArray) : (x.toList == x.toList) = true := by simp
set_option maxRecDepth 100000 in
set_option maxHeartbeats 1000000 in
theorem SameTexts18_eq (a a2 : Option Addr) (n c c2 : Nat) (L : List ByteArray) (w : World) (hn : L.length = n) (hl : n ≤ 100000) (h1 : WS w a L) (h2 : WS w a2 L) :
    Calls Try.prog 12 #[.slice a n c, .slice a2 n c2] w fun e w' => e = .returned (.bool true) ∧ ∃ q, w' = w.drewN q := by
  have H1 := Lib.hid h1
  have H2 := Lib.hid h2
  have HN := Lib.hid hn
  clear h1 h2 hn
  go_enter Try.func12, Try.ntmps12
  go_wp2_with fail
  go_loopw [5] (fun vi wr => ∃ k q : Nat, vi = .int .i64 k ∧ k ≤ n ∧ wr = w.drewN q) (fun vi _ => n - (intOf vi).toNat)
  case atStart => exact ⟨0, 0, rfl, by omega, rfl⟩
  case round =>
    obtain ⟨k, q, rfl, hk, rfl⟩ := hrel
    by_cases hlt : k < n
    · have hltz : (k : Int) < (n : Int) := by omega
      have hkl : k < L.length := by have := HN.out; omega
      obtain ⟨b1, o1, rfl, _, c1⟩ := H1.out.at_ hkl
      obtain ⟨b2, o2, rfl, _, c2'⟩ := H2.out.at_ hkl
      obtain ⟨y, hy⟩ : ∃ y, L[k] = y := ⟨_, rfl⟩
      rw [hy] at c1 c2'
      clear hy
      have d1 : (w.drewN q).cell? ⟨b1, o1 + k, none⟩ = some (.string y) := c1
      have d2 : (w.drewN q).cell? ⟨b2, o2 + k, none⟩ = some (.string y) := c2'
      clear c1 c2'
      have hse := str_eq18 y
      generalize hwq : w.drewN q = wq at d1 d2 ⊢
      have HW := Lib.hid hwq
      clear hwq
      go_wp2_with fail
      go_quiet (fail)
      go_wp2_with fail
      go_roundw
      case rel => exact ⟨k + 1, q + nq, by go_num, by omega, by rw [← HW.out, World.drewN_drewN]⟩
      case measure => simp [intOf]; omega
    · go_wp2_with fail
      go_ret
      exact ⟨rfl, q, rfl⟩
end Go.Proofs.Ytekmgpbolbkiaaa
