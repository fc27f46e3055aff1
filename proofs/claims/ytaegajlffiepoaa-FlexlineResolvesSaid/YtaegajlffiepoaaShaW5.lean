/- The walks of layer 2: how the library's stable sort makes one of two sorted pieces: a piece of one number behind. -/
import Derived.Test.YtaegajlffiepoaaShaW3
import Derived.Test.YtaegajlffiepoaaShaW2
import Derived.Test.YtaegajlffiepoaaShaM3
namespace Go.Proofs.Ytaegajlffiepoaa
open Go.RowKit Go.Sort ShaM

set_option maxHeartbeats 2000000 in
set_option maxRecDepth 100000 in
/-- the second piece is one number -/
theorem symMerge_down (w : World) (blk cap a m g : Nat) (cb : Array Value) (cf : Int → Int → Int) (LT : Int → Int → Prop) (d0 d : Array Int) (m0 : Nat)
    (eg : ∀ args w, (callFunc g args).run Try.prog w = .ok (.enter g args) w) (hO : Ord LT) (hcf : ∀ x y, y < x → (cf x y < 0 ↔ LT x y)) (hc : CmpOK w blk d0.size g cb cf)
    (h0 : Holds (Value.int .i64) w blk 0 d0) (hs : d.size = d0.size) (ham : a + 1 < m) (hb : m + 1 ≤ d.size) (hsz : d.size < 4611686018427387904)
    (hr : Rng d.size d) (h2 : Two LT a m (m + 1) d) :
    Calls Try.prog 68 #[.slice (some ⟨blk, 0, none⟩) d0.size cap, .int .i64 a, .int .i64 m, .int .i64 ((m : Int) + 1), .func (.func g) #[] cb] (RW w blk d m0) fun e w' =>
      e = .returned (.tuple #[]) ∧ ∃ d' m', Mv a (m + 1) d d' ∧ Srt LT a (m + 1) d' ∧ RW w blk d' m' = w' := by
  have H0 := Lib.hid h0
  have HS := Lib.hid hs
  have HO := Lib.hid hO
  have HCF := Lib.hid hcf
  have HC := Lib.hid hc
  have HR := Lib.hid hr
  have H2 := Lib.hid h2
  clear h0 hs hO hcf hc hr h2
  have q1 : (m : Int) + 1 - (m : Int) = 1 := by omega
  have q0 : ((m : Int) - (a : Int) == 1) = false := by simp; omega
  go_enter Try.func68, Try.ntmps68
  go_wp2_with fail
  go_loopw [14, 15] (fun vi vj wr => ∃ (i j mi : Nat), vi = .int .i64 i ∧ vj = .int .i64 j ∧ a ≤ i ∧ i ≤ j ∧ j ≤ m ∧ wr = RW w blk d mi ∧ Hid (∀ k, a ≤ k → k < i → LT d[k]! d[m]!) ∧ Hid (∀ k, j ≤ k → k < m → LT d[m]! d[k]!)) (fun vi vj _ => (intOf vj).toNat - (intOf vi).toNat)
  case atStart => exact ⟨a, m, m0, rfl, rfl, by omega, by omega, by omega, rfl, fun k x y => by omega, fun k x y => by omega⟩
  case round =>
    obtain ⟨i, j, mi, rfl, rfl, hi, hij, hj, rfl, HA, HB⟩ := hrel
    by_cases hlt : i < j
    · have hltz : (i : Int) < (j : Int) := by omega
      obtain ⟨h, hh⟩ : ∃ h, h = (i + j) / 2 := ⟨_, rfl⟩
      have q2 : ((i : Int) + (j : Int)) / 2 = (h : Int) := by omega
      have hmi : a ≤ h := by omega
      have hhj : h < j := by omega
      have hih : i ≤ h := by omega
      have HH := Lib.hid hh
      clear hh
      have hyx : d[h]! < d[m]! := H2.out.less h m (by omega) (by omega) (by omega) (by omega)
      have hrp := HR.out (m) (by omega)
      have hrq := HR.out (h) (by omega)
      obtain ⟨x, hx⟩ : ∃ x, d[m]! = x := ⟨_, rfl⟩
      obtain ⟨y, hy⟩ : ∃ x, d[h]! = x := ⟨_, rfl⟩
      rw [hx, hy] at hyx
      rw [hx] at hrp
      rw [hy] at hrq
      obtain ⟨cp, fp⟩ := RW_cells H0.out HS.out mi (m) (by omega)
      obtain ⟨cq, fq⟩ := RW_cells H0.out HS.out mi (h) (by omega)
      rw [hx] at cp
      rw [hy] at cq
      have hc2 : ∀ q, Calls Try.prog g (#[.int .i64 x, .int .i64 y] ++ cb) ((RW w blk d mi).drewN q) fun e w' => e = .returned (.int .i64 (cf x y)) ∧ ∃ r, w' = ((RW w blk d mi).drewN q).drewN r := fun q => by
        rw [RW_drewN]; exact HC.out d (mi + q) x y HS.out hrq.1 hyx (by rw [← HS.out]; exact hrp.2)
      have hd0 : d0.size = d.size := HS.out.symm
      have hl1 : (((m) : Nat) : Int) < (d0.size : Int) := by rw [hd0]; omega
      have hl2 : (((h) : Nat) : Int) < (d0.size : Int) := by rw [hd0]; omega
      have HD0 := Lib.hid hd0
      have HX := Lib.hid hx
      have HY := Lib.hid hy
      have HYX := Lib.hid hyx
      clear hd0 hx hy hyx hrp hrq fp fq
      generalize hwq : RW w blk d mi = wq at cp cq hc2 ⊢
      have HWQ := Lib.hid hwq
      clear hwq
      by_cases hlv : cf x y < 0
      · have hnew : ∀ k, h ≤ k → k < m → LT d[m]! d[k]! := fun k x1 x2 => by
          have hly : LT d[m]! d[h]! := by rw [HX.out, HY.out]; exact (HCF.out x y HYX.out).1 hlv
          by_cases c : k = h
          · rw [c]; exact hly
          · exact HO.out.trans _ _ _ hly (H2.out.left h k (by omega) (by omega) x2)
        have HN := Lib.hid hnew
        clear hnew
        go_wp2_with fail
        go_quiet (first | (go_at_fn g; refine Calls.quiet_of (hc2 _)))
        go_wp2_with fail
        go_roundw
        case rel => exact ⟨i, h, _, rfl, rfl, hi, hih, by omega, by rw [← HWQ.out, RW_drewN], HA, HN⟩
        case measure => simp [intOf]; omega
      · have hnew : ∀ k, a ≤ k → k < h + 1 → LT d[k]! d[m]! := fun k x1 x2 => by
          have hly : LT d[h]! d[m]! := by
            rw [HX.out, HY.out]
            exact (HO.out.total x y (by have := HYX.out; omega)).resolve_left (fun l => hlv ((HCF.out x y HYX.out).2 l))
          by_cases c : k = h
          · rw [c]; exact hly
          · exact HO.out.trans _ _ _ (H2.out.left k h x1 (by omega) (by omega)) hly
        have HN := Lib.hid hnew
        clear hnew
        have hbn : (!decide (cf x y < 0)) = true := by simp; omega
        go_wp2_with fail
        go_quiet (first | (go_at_fn g; refine Calls.quiet_of (hc2 _)))
        go_wp2_with fail
        go_roundw
        case rel => exact ⟨h + 1, j, _, by go_num, rfl, by omega, by omega, hj, by rw [← HWQ.out, RW_drewN], HN, HB⟩
        case measure => simp [intOf]; omega
    · have hij' : j = i := by omega
      subst hij'
      have hz : ¬ (j : Int) < (j : Int) := by omega
      go_wp2_with fail
      clear hz
      go_loopw [17] (fun vk wr => ∃ (k mk : Nat) (dk : Array Int), vk = .int .i64 k ∧ j ≤ k ∧ k ≤ m ∧ wr = RW w blk dk mk ∧ Hid (dk.size = d.size) ∧ Hid (∀ p, dk[p]! = FR (fun x => d[x]!) k m (m + 1) p)) (fun vk _ => (intOf vk).toNat)
      case atStart => exact ⟨m, mi, d, rfl, hj, Nat.le_refl _, rfl, rfl, down_first d m⟩
      case round =>
        obtain ⟨k, mk, dk, rfl, hk, hkm, rfl, HSK, HF⟩ := hrel
        by_cases hlt2 : j < k
        · obtain ⟨kp, rfl⟩ : ∃ kp, k = kp + 1 := ⟨k - 1, by omega⟩
          obtain ⟨xa, hxa⟩ : ∃ x, dk[kp + 1]! = x := ⟨_, rfl⟩
          obtain ⟨xb, hxb⟩ : ∃ x, dk[kp]! = x := ⟨_, rfl⟩
          have ha := RW_cells H0.out (HSK.out.trans HS.out) mk (kp + 1) (by rw [HSK.out]; omega)
          have hb' := RW_cells H0.out (HSK.out.trans HS.out) mk kp (by rw [HSK.out]; omega)
          rw [hxa] at ha
          rw [hxb] at hb'
          have hsw := RW_swap (w := w) (blk := blk) (d := dk) mk (kp + 1) kp (by rw [HSK.out]; omega) (by rw [HSK.out]; omega)
          rw [hxa, hxb] at hsw
          have hd0 : d0.size = d.size := HS.out.symm
          obtain ⟨ca, fa⟩ := ha
          obtain ⟨cb', fb⟩ := hb'
          have hl1 : (kp : Int) + 1 < (d0.size : Int) := by rw [hd0]; omega
          have hl2 : (kp : Int) < (d0.size : Int) := by rw [hd0]; omega
          have p0 : (0 : Int) ≤ (kp : Int) + 1 := by omega
          have hwp : IntKind.i64.wrap (kp : Int) = (kp : Int) := IntWalk.i64_in _ (by omega)
          have hz2 : (j : Int) < (kp : Int) + 1 := by omega
          obtain ⟨j1, hj1⟩ : ∃ j1, j1 = kp + 1 := ⟨_, rfl⟩
          have e0 : ((kp : Int) + 1).toNat = j1 := by omega
          rw [← hj1] at ca fa
          have J1 := Lib.hid hj1
          have HSW := Lib.hid hsw
          clear hsw hxa hxb hd0 hj1
          generalize hwq : RW w blk dk mk = wq at ca fa cb' fb ⊢
          have HWQ := Lib.hid hwq
          clear hwq
          go_wp2_with fail
          go_big_region
          go_wp2_with fail
          go_roundw
          case rel =>
            refine ⟨kp, mk + 1, swp dk (kp + 1) kp, by first | rfl | go_num | (congr 1; omega), by omega, by omega, ?_, (swp_size _ _ _).trans HSK.out, step_down d dk m kp (by omega) (by rw [HSK.out]; omega) HF.out⟩
            have e := HSW.out
            rw [HWQ.out] at e
            rw [J1.out, e]
          case measure => simp [intOf]
        · have hz2 : ¬ (j : Int) < (k : Int) := by omega
          have hkj' : k = j := by omega
          have HE := Lib.hid hkj'
          clear hkj'
          go_wp2_with fail
          refine bodyPost_ret (results_none rfl _ _ _) rfl ?_
          have hf : ∀ p, dk[p]! = FR (fun x => d[x]!) j m (m + 1) p := fun p => by rw [HF.out p, HE.out]
          have hmv : Mv a (m + 1) d dk := (Mv.FR hj (by omega) HSK.out hf).mono hi (Nat.le_refl _)
          have hsr : Srt LT a (m + 1) dk := merge_down H2.out hi hj HA.out HB.out hf
          first | exact ⟨rfl, dk, mk, hmv, hsr, rfl⟩ | exact ⟨rfl, dk, hmv, hsr, mk, rfl⟩
end Go.Proofs.Ytaegajlffiepoaa
