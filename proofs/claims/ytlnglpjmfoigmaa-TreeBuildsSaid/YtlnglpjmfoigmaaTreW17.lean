/- The walk of slices.Concat at three rows of nodes. -/
import Derived.Test.YtlnglpjmfoigmaaTreW16
namespace Go.Proofs.Ytlnglpjmfoigmaa
open Go.RowKit TreN TreP

def sumN (n : Nat → Nat) : Nat → Nat
  | 0 => 0
  | k + 1 => sumN n k + n k
def catp (C : Nat → Nat → Nd) (n : Nat → Nat) : Nat → Nat → Nd
  | 0 => C 0
  | k + 1 => cat (catp C n k) (C k) (sumN n k)
set_option maxRecDepth 100000 in
theorem ndcs_catp (C : Nat → Nat → Nd) (n : Nat → Nat) (k : Nat) : ndcs (catp C n k) (sumN n k) ++ ndcs (C k) (n k) = ndcs (catp C n (k + 1)) (sumN n (k + 1)) := ndcs_cat _ _ _ _
set_option maxRecDepth 100000 in
theorem catp_in (C : Nat → Nat → Nd) (n : Nat → Nat) (P : Nd → Prop) (k : Nat) (h : ∀ t, t < k → ∀ i, i < n t → P (C t i)) : ∀ i, i < sumN n k → P (catp C n k i) := by
  induction k with
  | zero => intro i hi; exact absurd hi (by simp [sumN])
  | succ k ih =>
    intro i hi
    unfold catp cat
    by_cases hc : i < sumN n k
    · rw [if_pos hc]
      exact ih (fun t ht => h t (by omega)) i hc
    · rw [if_neg hc]
      exact h k (by omega) _ (by unfold sumN at hi; omega)
set_option maxRecDepth 100000 in
theorem sumN_le (n : Nat → Nat) (h : ∀ t, t < 3 → n t ≤ 1100) (k : Nat) (hk : k ≤ 3) : sumN n k ≤ k * 1100 := by
  induction k with
  | zero => simp [sumN]
  | succ k ih =>
    have := ih (by omega)
    have := h k (by omega)
    unfold sumN
    omega
set_option maxRecDepth 100000 in
theorem below_grown3 {B : Nat} {w w' : World} {r : Option Nat} (h : w.grownBy w' r) (hr : ∀ g, r = some g → B ≤ g) (hs : B ≤ w.heap.size) : Below B w w' := by
  obtain ⟨h1, h2, h3, h4, h5⟩ := h
  exact ⟨h1, h2, h3, h4, fun k hk => h5 k (by omega) (fun e => by have := hr k e.symm; omega)⟩

set_option maxRecDepth 100000 in
set_option maxHeartbeats 4000000 in
theorem Concat_any (r : Nat) (g n : Nat → Nat) (C : Nat → Nat → Nd) (w : World) (hr : r < w.heap.size) (hcell : ∀ t, t < 3 → w.cell? ⟨r, t, none⟩ = some (.slice (some ⟨g t, 0, none⟩) (n t) (n t)))
    (hC : ∀ t, t < 3 → NAt w (g t) 0 (n t) (C t)) (hn : ∀ t, t < 3 → n t ≤ 1100) (h0 : 0 < n 0) :
    Calls Try.prog 54 #[.slice (some ⟨r, 0, none⟩) 3 3] w fun e w' => ∃ b cap, e = .returned (.slice (some ⟨b, 0, none⟩) (sumN n 3) cap) ∧ NAt w' b 0 (sumN n 3) (catp C n 3) ∧ Below w.heap.size w w' := by
  obtain ⟨i0, hi, hz0, hz1, hz2⟩ := info_parts info_node
  have HCE := Lib.hid hcell
  have HCC := Lib.hid hC
  have HNN := Lib.hid hn
  have hpos : 0 < sumN n 3 := by simp [sumN]; omega
  have hmax := sumN_le n hn 3 (by omega)
  have HG := Lib.hid (Grow_nil (sumN n 3) w hpos (by omega))
  clear hcell hC hn h0
  go_enter Try.func54, Try.ntmps54
  go_wp2_with fail
  go_loopw [3, 11] (fun vs vi wr => ∃ k : Nat, vs = .int .i64 (sumN n k : Nat) ∧ vi = .int .i64 k ∧ k ≤ 3 ∧ w = wr) (fun _ vi _ => 3 - (intOf vi).toNat)
  case atStart => exact ⟨0, rfl, rfl, by omega, rfl⟩
  case round =>
    obtain ⟨k, rfl, rfl, hk, rfl⟩ := hrel
    by_cases hlt : k < 3
    · have hltz : (k : Int) < 3 := by omega
      have c0 := HCE.out k hlt
      have hs : ((sumN n k : Nat) : Int) + ((n k : Nat) : Int) = ((sumN n (k + 1) : Nat) : Int) := by simp [sumN]
      have hb := sumN_le n HNN.out (k + 1) (by omega)
      have hneg : ¬ ((sumN n (k + 1) : Nat) : Int) < 0 := by omega
      have hb2 := sumN_le n HNN.out k (by omega)
      have hb3 := HNN.out k hlt
      go_wp2_with fail
      go_roundw
      case rel => exact ⟨k + 1, rfl, by go_num, by omega, trivial⟩
      case measure => simp [intOf]; omega
    · have hltz : ¬ (k : Int) < 3 := by omega
      have e : k = 3 := by omega
      subst e
      go_wp2_with fail
      clear hltz
      refine HG.out.mono ?_
      rintro e w1 ⟨c, rfl, hown, hb1⟩
      have HO := Lib.hid hown
      have HB := Lib.hid hb1
      clear hown hb1 HG
      go_wp2_with fail
      go_loopw [6, 27] (fun v vi wr => ∃ k : Nat, vi = .int .i64 k ∧ k ≤ 3 ∧ Hid (wr.ownsRow w.heap.size 39 6 v (sumN n k) (ndcs (catp C n k) (sumN n k))) ∧ Hid (Below w.heap.size w wr)) (fun _ vi _ => 3 - (intOf vi).toNat)
      case atStart => exact ⟨0, rfl, by omega, HO, HB⟩
      case round =>
        obtain ⟨k, rfl, hk, HO, HB⟩ := hrel
        by_cases hlt : k < 3
        · have hltz : (k : Int) < 3 := by omega
          have c0 := (HB.out.cell (p := ⟨r, k, none⟩) hr).trans (HCE.out k hlt)
          have hb2 := sumN_le n HNN.out k (by omega)
          have hb3 := HNN.out k hlt
          have hle := HB.out.size
          have hnews := ndcs_news (HCC.out k hlt |>.below HB.out).ndat
          go_wp2_with (at_builtin; refine wpList_append_own _ rfl _ _ 24 rfl w.heap.size 39 i0 _ 6 104 und_nodes hi hz0 hz1 hz2 rfl (by decide) _ _ _ rfl HO.out ⟨g k, 0, none⟩ (n k) (n k) (ndcs (C k) (n k)) rfl (ndcs_length _ _) hnews (ndcs_one _ _) ?c3 ?c4 ?c5 ?_)
          case c3 => unfold maxLen; omega
          case c4 => omega
          case c5 => omega
          intro v' w2 hown' hgrow _
          rw [ndcs_catp] at hown'
          have HB2 := Lib.hid (HB.out.trans (below_grown3 hgrow (fun q hq => (World.ownsRow.lt HO.out q hq).1) hle))
          have HO2 := Lib.hid hown'
          clear hgrow hown' hnews
          go_wp2_with fail
          go_roundw
          case rel => exact ⟨k + 1, by go_num, by omega, HO2, HB2⟩
          case measure => simp [intOf]; omega
        · have hltz : ¬ (k : Int) < 3 := by omega
          have e : k = 3 := by omega
          subst e
          have hown := HO.out
          obtain ⟨b, cap, rfl, hb, hbl⟩ := hown.form hpos
          have hnat : NAt wr b 0 (sumN n 3) (catp C n 3) := NAt.of hbl (ndcs_back hown) (catp_in C n (NdIn wr) 3 (fun t ht i hi => ((HCC.out t ht).below HB.out).2 i hi |>.2))
          have HNA := Lib.hid hnat
          clear hown hnat
          go_wp2_with fail
          go_ret
          exact ⟨b, ⟨cap, rfl⟩, HNA.out, HB.out⟩
end Go.Proofs.Ytlnglpjmfoigmaa
