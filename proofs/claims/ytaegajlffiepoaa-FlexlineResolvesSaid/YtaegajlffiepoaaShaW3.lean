/- The walks of layer 2: how the library's stable sort sorts a short piece. -/
import Derived.Test.YtaegajlffiepoaaShaW1
import Derived.Test.YtaegajlffiepoaaShaM2
import Derived.Shelf.Abstract
import Derived.Shelf.RegionOpenPlain
namespace Go.Proofs.Ytaegajlffiepoaa
open Go.RowKit Go.Sort ShaM

/-- WHAT IS ASKED OF THE FUNCTION that compares: of two places, the greater one first, it tells which goes ahead; it reads, it may draw. -/
def CmpOK (w : World) (blk n g : Nat) (cb : Array Value) (cf : Int → Int → Int) : Prop :=
  ∀ (d : Array Int) (m : Nat) (x y : Int), d.size = n → 0 ≤ y → y < x → x < n →
    Calls Try.prog g (#[.int .i64 x, .int .i64 y] ++ cb) (RW w blk d m) fun e w' => e = .returned (.int .i64 (cf x y)) ∧ ∃ q, w' = (RW w blk d m).drewN q

theorem RW_drewN (w : World) (blk : Nat) (d : Array Int) (m q : Nat) : (RW w blk d m).drewN q = RW w blk d (m + q) := by
  unfold RW; rw [World.drewN_drewN]

set_option maxRecDepth 100000 in
set_option maxHeartbeats 2000000 in
theorem insertion_any (w : World) (blk cap a b g : Nat) (cb : Array Value) (cf : Int → Int → Int) (LT : Int → Int → Prop) (d0 d : Array Int) (m0 : Nat)
    (eg : ∀ args w, (callFunc g args).run Try.prog w = .ok (.enter g args) w) (hO : Ord LT) (hcf : ∀ x y, y < x → (cf x y < 0 ↔ LT x y)) (hc : CmpOK w blk d0.size g cb cf)
    (h0 : Holds (Value.int .i64) w blk 0 d0) (hs : d.size = d0.size) (hab : a < b) (hb : b ≤ d.size) (hsz : d.size < 4611686018427387904)
    (hr : Rng d.size d) (hinc : ∀ i j, a ≤ i → i < j → j < b → d[i]! < d[j]!) :
    Calls Try.prog 67 #[.slice (some ⟨blk, 0, none⟩) d0.size cap, .int .i64 a, .int .i64 b, .func (.func g) #[] cb] (RW w blk d m0) fun e w' =>
      e = .returned (.tuple #[]) ∧ ∃ d' m', Mv a b d d' ∧ Srt LT a b d' ∧ RW w blk d' m' = w' := by
  have H0 := Lib.hid h0
  have HS := Lib.hid hs
  have HO := Lib.hid hO
  have HCF := Lib.hid hcf
  have HC := Lib.hid hc
  have HR := Lib.hid hr
  have HINC := Lib.hid hinc
  clear h0 hs hO hcf hc hr hinc
  go_enter Try.func67, Try.ntmps67
  go_wp2_with fail
  go_loopg [8] (b - a) (fun g1 vi wr => ∃ (i mi : Nat) (dk : Array Int), vi = .int .i64 i ∧ a < i ∧ i ≤ b ∧ b - i ≤ g1 ∧ wr = RW w blk dk mi ∧ Hid (Mv a i d dk) ∧ Hid (Srt LT a i dk))
  case atStart => exact ⟨a + 1, m0, d, by go_num, by omega, by omega, by omega, rfl, Mv.refl _ _ _, fun i j h1 h2 h3 => by omega⟩
  case round =>
    obtain ⟨i, mi, dk, rfl, hai, hib, hg1, rfl, HM, HSR⟩ := hrel
    by_cases hlt : i < b
    · have hltz : (i : Int) < (b : Int) := by omega
      go_wp2_with fail
      have hin := Inner.start HM.out HSR.out (fun p h1 h2 => HINC.out p i h1 h2 hlt)
      obtain ⟨x, hx⟩ : ∃ x, d[i]! = x := ⟨_, rfl⟩
      rw [hx] at hin
      have HIN := Lib.hid hin
      clear hin hx
      go_loopg [9] i (fun g2 vj wr2 => ∃ (j mj : Nat) (dj : Array Int), vj = .int .i64 j ∧ a ≤ j ∧ j ≤ i ∧ j ≤ g2 ∧ wr2 = RW w blk dj mj ∧ Hid (Inner LT a i j dk dj x))
      case atStart => exact ⟨i, mi, dk, rfl, by omega, Nat.le_refl _, Nat.le_refl _, rfl, HIN⟩
      case round =>
        obtain ⟨j, mj, dj, rfl, haj, hji, hg2, rfl, HI⟩ := hrel
        have hsj : dj.size = d.size := HI.out.mv.size.trans HM.out.size
        have HSJ := Lib.hid hsj
        clear hsj
        by_cases hja : a < j
        · obtain ⟨jp, rfl⟩ : ∃ jp, j = jp + 1 := ⟨j - 1, by omega⟩
          have hxr : dj[jp + 1]! = x := HI.out.here
          have hyx : dj[jp]! < x := HI.out.lt jp (by omega) (by omega) (by omega)
          have hrj : Rng d.size dj := HI.out.mv.rng (by omega) (HM.out.rng (by omega) HR.out)
          have hx0 := hrj (jp + 1) (by omega)
          have hy0 := hrj jp (by omega)
          rw [hxr] at hx0
          obtain ⟨y, hy⟩ : ∃ y, dj[jp]! = y := ⟨_, rfl⟩
          rw [hy] at hyx hy0
          obtain ⟨cj, fj⟩ := RW_cells H0.out (HSJ.out.trans HS.out) mj (jp + 1) (by rw [HSJ.out]; omega)
          obtain ⟨cp, fp⟩ := RW_cells H0.out (HSJ.out.trans HS.out) mj jp (by rw [HSJ.out]; omega)
          rw [hxr] at cj
          rw [hy] at cp
          have hsw := RW_swap (w := w) (blk := blk) (d := dj) mj (jp + 1) jp (by rw [HSJ.out]; omega) (by rw [HSJ.out]; omega)
          have hc1 := fun q => HC.out dj (mj + q) x y (HSJ.out.trans HS.out) hy0.1 hyx (by rw [← HS.out]; exact hx0.2)
          have hc2 : ∀ q, Calls Try.prog g (#[.int .i64 x, .int .i64 y] ++ cb) ((RW w blk dj mj).drewN q) fun e w' => e = .returned (.int .i64 (cf x y)) ∧ ∃ r, w' = ((RW w blk dj mj).drewN q).drewN r := fun q => by
            rw [RW_drewN]; exact hc1 q
          have hd0 : d0.size = d.size := HS.out.symm
          have hl1 : (jp : Int) + 1 < (d0.size : Int) := by rw [hd0]; omega
          have hl2 : (jp : Int) < (d0.size : Int) := by omega
          have hjaz : (a : Int) < (jp : Int) + 1 := by omega
          have p0 : (0 : Int) ≤ (jp : Int) + 1 := by omega
          have e0 : ((jp : Int) + 1).toNat = jp + 1 := by omega
          have hwp : IntKind.i64.wrap (jp : Int) = (jp : Int) := IntWalk.i64_in _ (by omega)
          have HSW := Lib.hid hsw
          have HD0 := Lib.hid hd0
          have HX := Lib.hid hxr
          have HY := Lib.hid hy
          have HYX := Lib.hid hyx
          clear hsw hd0 hxr hy hc1 hrj hx0 hy0 hyx
          generalize hwq : RW w blk dj mj = wq at cj fj cp fp hc2 ⊢
          have HWQ := Lib.hid hwq
          clear hwq
          by_cases hlv : cf x y < 0
          · go_wp2_with fail
            go_quiet (first | (go_at_fn g; refine Calls.quiet_of (hc2 _)))
            go_wp2_with fail
            have hw2 : wq.drewN nq = RW w blk dj (mj + nq) := by rw [← HWQ.out, RW_drewN]
            have cj2 : (wq.drewN nq).cell? ⟨blk, jp + 1, none⟩ = some (.int .i64 x) := cj
            have cp2 : (wq.drewN nq).cell? ⟨blk, jp, none⟩ = some (.int .i64 y) := cp
            have fj2 : (wq.drewN nq).frozen? ⟨blk, jp + 1, none⟩ = false := fj
            have fp2 : (wq.drewN nq).frozen? ⟨blk, jp, none⟩ = false := fp
            clear cj cp fj fp hc2
            generalize wq.drewN nq = wq2 at hw2 cj2 cp2 fj2 fp2 ⊢
            obtain ⟨j1, hj1⟩ : ∃ j1, j1 = jp + 1 := ⟨_, rfl⟩
            rw [← hj1] at cj2 fj2 e0
            have J1 := Lib.hid hj1
            have HW2 := Lib.hid hw2
            clear hj1 hw2
            go_big_region
            all_goals go_wp2
            go_roundg jp
            case measure => omega
            case rel =>
              have hsw' := RW_swap (w := w) (blk := blk) (d := dj) (mj + nq) (jp + 1) jp (by rw [HSJ.out]; omega) (by rw [HSJ.out]; omega)
              rw [HX.out, HY.out] at hsw'
              refine ⟨jp, mj + nq + 1, swp dj (jp + 1) jp, by first | rfl | go_num | (congr 1; omega), by omega, by omega, Nat.le_refl _, ?_, ?_⟩
              · rw [J1.out, HW2.out]
                exact hsw'
              · exact HI.out.step (by omega) (by omega) (by rw [HSJ.out]; omega) (by rw [HY.out]; exact (HCF.out x y HYX.out).1 hlv)
          · go_wp2_with fail
            go_quiet (first | (go_at_fn g; refine Calls.quiet_of (hc2 _)))
            go_wp2
            go_roundg (b - (i + 1))
            case measure => omega
            case rel =>
              exact ⟨i + 1, _, dj, by go_num, by omega, by omega, by omega, by rw [← HWQ.out, RW_drewN], HM.out.next HI.out.mv,
                HI.out.stop HO.out (by omega) (by omega) (Or.inr (by rw [Nat.add_sub_cancel, HY.out]; exact fun h => absurd ((HCF.out x y HYX.out).2 h) (by omega)))⟩
        · have hjaz : decide ((j : Int) > (a : Int)) = false := decide_eq_false (by omega)
          have hjaz' : ¬ (a : Int) < (j : Int) := by omega
          generalize hwq : RW w blk dj mj = wq
          have HWQ := Lib.hid hwq
          clear hwq
          go_wp2_with fail
          go_big_region
          all_goals go_wp2
          go_roundg (b - (i + 1))
          case measure => omega
          case rel =>
            exact ⟨i + 1, mj + 1, dj, by go_num, by omega, by omega, by omega, (by first | (rw [← HWQ.out]; rfl) | rfl), HM.out.next HI.out.mv, HI.out.stop HO.out (by omega) (by omega) (Or.inl (by omega))⟩
    · have hltz : ¬ (i : Int) < (b : Int) := by omega
      have hie : i = b := by omega
      have HE := Lib.hid hie
      clear hie
      go_wp2
      go_end0
      have e := HE.out
      subst e
      first | exact ⟨rfl, dk, mi, HM.out, HSR.out, rfl⟩ | exact ⟨rfl, dk, HM.out, HSR.out, mi, rfl⟩
end Go.Proofs.Ytaegajlffiepoaa
