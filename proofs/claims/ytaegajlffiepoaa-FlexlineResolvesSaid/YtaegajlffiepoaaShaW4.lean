/- The walks of layer 2: how the library's stable sort makes one of two sorted pieces: a piece of one number. -/
import Derived.Test.YtaegajlffiepoaaShaW3
import Derived.Test.YtaegajlffiepoaaShaW2
import Derived.Test.YtaegajlffiepoaaShaM3
namespace Go.Proofs.Ytaegajlffiepoaa
open Go.RowKit Go.Sort ShaM

set_option maxHeartbeats 2000000 in
set_option maxRecDepth 100000 in
/-- the first piece is one number -/
theorem symMerge_up (w : World) (blk cap a b g : Nat) (cb : Array Value) (cf : Int → Int → Int) (LT : Int → Int → Prop) (d0 d : Array Int) (m0 : Nat)
    (eg : ∀ args w, (callFunc g args).run Try.prog w = .ok (.enter g args) w) (hO : Ord LT) (hcf : ∀ x y, y < x → (cf x y < 0 ↔ LT x y)) (hc : CmpOK w blk d0.size g cb cf)
    (h0 : Holds (Value.int .i64) w blk 0 d0) (hs : d.size = d0.size) (hmb : a + 1 < b) (hb : b ≤ d.size) (hsz : d.size < 4611686018427387904)
    (hr : Rng d.size d) (h2 : Two LT a (a + 1) b d) :
    Calls Try.prog 68 #[.slice (some ⟨blk, 0, none⟩) d0.size cap, .int .i64 a, .int .i64 ((a : Int) + 1), .int .i64 b, .func (.func g) #[] cb] (RW w blk d m0) fun e w' =>
      e = .returned (.tuple #[]) ∧ ∃ d' m', Mv a b d d' ∧ Srt LT a b d' ∧ RW w blk d' m' = w' := by
  have H0 := Lib.hid h0
  have HS := Lib.hid hs
  have HO := Lib.hid hO
  have HCF := Lib.hid hcf
  have HC := Lib.hid hc
  have HR := Lib.hid hr
  have H2 := Lib.hid h2
  clear h0 hs hO hcf hc hr h2
  have q1 : (a : Int) + 1 - (a : Int) = 1 := by omega
  go_enter Try.func68, Try.ntmps68
  go_wp2_with fail
  go_loopw [10, 11] (fun vi vj wr => ∃ (i j mi : Nat), vi = .int .i64 i ∧ vj = .int .i64 j ∧ a + 1 ≤ i ∧ i ≤ j ∧ j ≤ b ∧ wr = RW w blk d mi ∧ Hid (∀ k, a + 1 ≤ k → k < i → LT d[k]! d[a]!) ∧ Hid (∀ k, j ≤ k → k < b → LT d[a]! d[k]!)) (fun vi vj _ => (intOf vj).toNat - (intOf vi).toNat)
  case atStart => exact ⟨a + 1, b, m0, by go_num, rfl, by omega, by omega, by omega, rfl, fun k x y => by omega, fun k x y => by omega⟩
  case round =>
    obtain ⟨i, j, mi, rfl, rfl, hi, hij, hj, rfl, HA, HB⟩ := hrel
    by_cases hlt : i < j
    · have hltz : (i : Int) < (j : Int) := by omega
      obtain ⟨h, hh⟩ : ∃ h, h = (i + j) / 2 := ⟨_, rfl⟩
      have q2 : ((i : Int) + (j : Int)) / 2 = (h : Int) := by omega
      have hmi : a + 1 ≤ h := by omega
      have hhj : h < j := by omega
      have hih : i ≤ h := by omega
      have HH := Lib.hid hh
      clear hh
      have hyx : d[a]! < d[h]! := H2.out.less a h (by omega) (by omega) (by omega) (by omega)
      have hrp := HR.out (h) (by omega)
      have hrq := HR.out (a) (by omega)
      obtain ⟨x, hx⟩ : ∃ x, d[h]! = x := ⟨_, rfl⟩
      obtain ⟨y, hy⟩ : ∃ x, d[a]! = x := ⟨_, rfl⟩
      rw [hx, hy] at hyx
      rw [hx] at hrp
      rw [hy] at hrq
      obtain ⟨cp, fp⟩ := RW_cells H0.out HS.out mi (h) (by omega)
      obtain ⟨cq, fq⟩ := RW_cells H0.out HS.out mi (a) (by omega)
      rw [hx] at cp
      rw [hy] at cq
      have hc2 : ∀ q, Calls Try.prog g (#[.int .i64 x, .int .i64 y] ++ cb) ((RW w blk d mi).drewN q) fun e w' => e = .returned (.int .i64 (cf x y)) ∧ ∃ r, w' = ((RW w blk d mi).drewN q).drewN r := fun q => by
        rw [RW_drewN]; exact HC.out d (mi + q) x y HS.out hrq.1 hyx (by rw [← HS.out]; exact hrp.2)
      have hd0 : d0.size = d.size := HS.out.symm
      have hl1 : (((h) : Nat) : Int) < (d0.size : Int) := by rw [hd0]; omega
      have hl2 : (((a) : Nat) : Int) < (d0.size : Int) := by rw [hd0]; omega
      have HD0 := Lib.hid hd0
      have HX := Lib.hid hx
      have HY := Lib.hid hy
      have HYX := Lib.hid hyx
      clear hd0 hx hy hyx hrp hrq fp fq
      generalize hwq : RW w blk d mi = wq at cp cq hc2 ⊢
      have HWQ := Lib.hid hwq
      clear hwq
      by_cases hlv : cf x y < 0
      · have hnew : ∀ k, a + 1 ≤ k → k < h + 1 → LT d[k]! d[a]! := fun k x1 x2 => by
          have hly : LT d[h]! d[a]! := by rw [HX.out, HY.out]; exact (HCF.out x y HYX.out).1 hlv
          by_cases c : k = h
          · rw [c]; exact hly
          · exact HO.out.trans _ _ _ (H2.out.right k h x1 (by omega) (by omega)) hly
        have HN := Lib.hid hnew
        clear hnew
        go_wp2_with fail
        go_quiet (first | (go_at_fn g; refine Calls.quiet_of (hc2 _)))
        go_wp2_with fail
        go_roundw
        case rel => exact ⟨h + 1, j, _, by go_num, rfl, by omega, by omega, hj, by rw [← HWQ.out, RW_drewN], HN, HB⟩
        case measure => simp [intOf]; omega
      · have hnew : ∀ k, h ≤ k → k < b → LT d[a]! d[k]! := fun k x1 x2 => by
          have hly : LT d[a]! d[h]! := by
            rw [HX.out, HY.out]
            exact (HO.out.total x y (by have := HYX.out; omega)).resolve_left (fun l => hlv ((HCF.out x y HYX.out).2 l))
          by_cases c : k = h
          · rw [c]; exact hly
          · exact HO.out.trans _ _ _ hly (H2.out.right h k (by omega) (by omega) x2)
        have HN := Lib.hid hnew
        clear hnew
        go_wp2_with fail
        go_quiet (first | (go_at_fn g; refine Calls.quiet_of (hc2 _)))
        go_wp2_with fail
        go_roundw
        case rel => exact ⟨i, h, _, rfl, rfl, hi, hih, by omega, by rw [← HWQ.out, RW_drewN], HA, HN⟩
        case measure => simp [intOf]; omega
    · have hij' : j = i := by omega
      subst hij'
      have hz : ¬ (j : Int) < (j : Int) := by omega
      go_wp2_with fail
      clear hz
      go_loopw [13] (fun vk wr => ∃ (k mk : Nat) (dk : Array Int), vk = .int .i64 k ∧ a ≤ k ∧ k + 1 ≤ j ∧ wr = RW w blk dk mk ∧ Hid (dk.size = d.size) ∧ Hid (∀ p, dk[p]! = FR (fun x => d[x]!) a (a + 1) (k + 1) p)) (fun vk _ => j - (intOf vk).toNat)
      case atStart => exact ⟨a, mi, d, rfl, Nat.le_refl _, hi, rfl, rfl, up_first d a⟩
      case round =>
        obtain ⟨k, mk, dk, rfl, hk, hkj, rfl, HSK, HF⟩ := hrel
        by_cases hlt2 : k + 1 < j
        · obtain ⟨xa, hxa⟩ : ∃ x, dk[k]! = x := ⟨_, rfl⟩
          obtain ⟨xb, hxb⟩ : ∃ x, dk[k + 1]! = x := ⟨_, rfl⟩
          have ha := RW_cells H0.out (HSK.out.trans HS.out) mk k (by rw [HSK.out]; omega)
          have hb' := RW_cells H0.out (HSK.out.trans HS.out) mk (k + 1) (by rw [HSK.out]; omega)
          rw [hxa] at ha
          rw [hxb] at hb'
          have hsw := RW_swap (w := w) (blk := blk) (d := dk) mk k (k + 1) (by rw [HSK.out]; omega) (by rw [HSK.out]; omega)
          rw [hxa, hxb] at hsw
          have hd0 : d0.size = d.size := HS.out.symm
          obtain ⟨k1, hk1⟩ : ∃ k1, k1 = k + 1 := ⟨_, rfl⟩
          rw [← hk1] at hb' hsw
          obtain ⟨ca, fa⟩ := ha
          obtain ⟨cb', fb⟩ := hb'
          have q3 : (k : Int) + 1 = (k1 : Int) := by omega
          have r1 : (k : Int) < (d0.size : Int) := by rw [hd0]; omega
          have r2 : (k1 : Int) < (d0.size : Int) := by rw [hd0]; omega
          have hne : k ≠ k1 := by omega
          have s2 : IntKind.i64.wrap (k1 : Int) = (k1 : Int) := IntWalk.i64_in _ (by omega)
          have hz2 : (k : Int) < (j : Int) - 1 := by omega
          have HK1 := Lib.hid hk1
          have HSW := Lib.hid hsw
          clear hk1 hsw hxa hxb hd0
          generalize hwq : RW w blk dk mk = wq at ca fa cb' fb ⊢
          have HWQ := Lib.hid hwq
          clear hwq
          go_wp2_with fail
          go_big_region
          go_wp2_with fail
          go_roundw
          case rel =>
            refine ⟨k + 1, mk + 1, swp dk k (k + 1), by first | go_num | (rw [HK1.out]), by omega, by omega, ?_, (swp_size _ _ _).trans HSK.out, step_up d dk a k hk (by rw [HSK.out]; omega) HF.out⟩
            have e := HSW.out
            rw [HWQ.out] at e
            rw [e, HK1.out]
          case measure => simp [intOf]; omega
        · have hz2 : ¬ (k : Int) < (j : Int) - 1 := by omega
          have hkj' : k + 1 = j := by omega
          have HE := Lib.hid hkj'
          clear hkj'
          go_wp2_with fail
          refine bodyPost_ret (results_none rfl _ _ _) rfl ?_
          have hf : ∀ p, dk[p]! = FR (fun x => d[x]!) a (a + 1) j p := fun p => by rw [HF.out p, HE.out]
          have hmv : Mv a b d dk := (Mv.FR (by omega) hi HSK.out hf).mono (Nat.le_refl _) hj
          have hsr : Srt LT a b dk := merge_up H2.out hi hj HA.out HB.out hf
          first | exact ⟨rfl, dk, mk, hmv, hsr, rfl⟩ | exact ⟨rfl, dk, hmv, hsr, mk, rfl⟩
end Go.Proofs.Ytaegajlffiepoaa
