/- Layer 19, the laws: the greatest margin counts. -/
import Derived.Test.YtajmmnmagbnigaaStrL2
namespace Go.Proofs.Ytajmmnmagbnigaa
open Go.RowKit FixM StrP Go.Sort
set_option linter.unusedVariables false

def Ints19 (W : World) (a : Option Addr) (l : List Int) : Prop := l = [] ∨ ∃ b off, a = some ⟨b, off, none⟩ ∧ b < W.heap.size ∧ ∀ j (h : j < l.length), W.cell? ⟨b, off + j, none⟩ = some (.int .i64 l[j])
/-- the strut so far -/
structure Gr (w W : World) (B : Nat) (U D : Int) : Prop where
  box : W.heap[B]? = some (.cells #[.int .i64 U, .int .i64 D] 23 (0, 0))
  bel : Below w.heap.size w W
  lo : w.heap.size ≤ B
  u0 : 0 ≤ U
  u1 : U ≤ 1073741824
  d0 : -1073741824 ≤ D
  d1 : D ≤ 0
theorem gr_u {U x : Int} (h0 : 0 ≤ U) (h1 : U ≤ 1073741824) : jU U (max 0 (H x)) = max U (H x) := by
  have := H_bd x
  unfold jU
  rw [H_id (by omega) h1, H_id (x := max 0 (H x)) (by omega) (by omega)]
  omega
theorem gr_d {D x : Int} (h0 : -1073741824 ≤ D) (h1 : D ≤ 0) : jD D (min 0 (H x)) = min D (H x) := by
  have := H_bd x
  unfold jD
  rw [H_id h0 (by omega), H_id (x := min 0 (H x)) (by omega) (by omega)]
  omega
theorem gr_w {U D : Int} (h0 : 0 ≤ U) (h1 : U ≤ 1073741824) (h2 : -1073741824 ≤ D) (h3 : D ≤ 0) : wT U D = U + D := by
  unfold wT
  rw [H_id (by omega) h1, H_id h2 (by omega), H_id (by omega) (by omega)]
theorem Gr.below {w W W' : World} {B : Nat} {U D : Int} (h : Gr w W B U D) (hb : Below W.heap.size W W') : Gr w W' B U D :=
  ⟨(hb.block _ (blk_ltS h.box)).trans h.box, h.bel.trans (hb.mono h.bel.size), h.lo, h.u0, h.u1, h.d0, h.d1⟩

theorem Gr.put {w W : World} {B : Nat} {U D : Int} (h : Gr w W B U D) (u d : Int) (u0 : 0 ≤ u) (u1 : u ≤ 1073741824) (d0 : -1073741824 ≤ d) (d1 : d ≤ 0) : Gr w ((W.setCell ⟨B, 0, none⟩ (.int .i64 u)).setCell ⟨B, 1, none⟩ (.int .i64 d)) B u d := by
  obtain ⟨p1, p2, p3, p4⟩ := put2 W B 23 _ _ (.int .i64 u) (.int .i64 d) h.box
  exact ⟨p1, p3 _ _ h.lo h.bel, h.lo, u0, u1, d0, d1⟩

set_option maxRecDepth 100000 in
set_option maxHeartbeats 4000000 in
theorem StrutGreatest_walk (a : Option Addr) (l : List Int) (n cap : Nat) (w : World) (hn : l.length = n) (hm : n ≤ 9223372036854775807) (hL : Ints19 w a l) :
    Calls Try.prog 6 #[.slice a n cap] w fun e w' => e = .returned (.bool true) ∧ Below w.heap.size w w' := by
  have HK := Lib.hid (fun w => known19_any w)
  by_cases h100 : 100 < n
  · have hz : (100 : Int) < (n : Int) := by omega
    clear hL hn
    go_enter Try.func6, Try.ntmps6
    go_wp2_with fail
    refine (HK.out _).mono ?_
    rintro e w1 ⟨rfl, hb⟩
    have HB := Lib.hid hb
    clear hb
    go_wp2_with fail
    go_ret
    exact ⟨rfl, HB.out⟩
  have hz : (n : Int) ≤ 100 := by omega
  have HL := Lib.hid hL
  have HN := Lib.hid hn
  have hG : Gr w (w.alloc (.cells #[.int .i64 0, .int .i64 0] 23)) w.heap.size 0 0 := ⟨heap_alloc_new w _, (Below.refl _ _).alloc (Nat.le_refl _) _, Nat.le_refl _, by omega, by omega, by omega, by omega⟩
  have HG := Lib.hid hG
  clear hL hn hG h100
  go_enter Try.func6, Try.ntmps6
  go_wp2_with fail
  go_loopw [4, 5, 6] (fun u d i wr => ∃ (k : Nat) (U D : Int), u = .int .i64 U ∧ d = .int .i64 D ∧ i = .int .i64 k ∧ k ≤ n ∧ Hid (Gr w wr w.heap.size U D)) (fun _ _ i _ => n - (intOf i).toNat)
  case atStart => exact ⟨0, 0, 0, rfl, rfl, rfl, Nat.zero_le _, HG⟩
  case round =>
    obtain ⟨k, U, D, rfl, rfl, rfl, hk, HR⟩ := hrel
    clear HG
    by_cases hlt : k < n
    · have hkl : k < l.length := by rw [HN.out]; exact hlt
      have hkz : (k : Int) < (n : Int) := by omega
      obtain ⟨b, off, rfl, hb, hc⟩ : ∃ b off, a = some ⟨b, off, none⟩ ∧ b < w.heap.size ∧ ∀ j (h : j < l.length), w.cell? ⟨b, off + j, none⟩ = some (.int .i64 l[j]) := by
        rcases HL.out with h | h
        · rw [h] at hkl; simp at hkl
        · exact h
      have hc := hc k hkl
      obtain ⟨x, hx⟩ : ∃ x, l[k] = x := ⟨_, rfl⟩
      rw [hx] at hc
      have HC := Lib.hid hc
      have c0 := ((HR.out.bel.drew).cell (p := ⟨b, _, none⟩) hb).trans hc
      have c1 : wr.drew.cell? ⟨w.heap.size, 0, none⟩ = some (.int .i64 U) := cell_ofS (w := wr) HR.out.box rfl
      have c2 : wr.drew.cell? ⟨w.heap.size, 1, none⟩ = some (.int .i64 D) := cell_ofS (w := wr) HR.out.box rfl
      have f1 : wr.drew.frozen? ⟨w.heap.size, 0, none⟩ = false := frz_ofS (w := wr) HR.out.box
      have f2 : wr.drew.frozen? ⟨w.heap.size, 1, none⟩ = false := frz_ofS (w := wr) HR.out.box
      have l1 := blk_ltS HR.out.box
      have l2 := Nat.lt_of_lt_of_le hb HR.out.bel.size
      have HBB := Lib.hid hb
      have CO := Lib.hid (fun W => Of19_any x W)
      obtain ⟨u0, u1, d0, d1⟩ : 0 ≤ U ∧ U ≤ 1073741824 ∧ -1073741824 ≤ D ∧ D ≤ 0 := ⟨HR.out.u0, HR.out.u1, HR.out.d0, HR.out.d1⟩
      have CJ0 := fun W => Join19_any U D (max 0 (H x)) (min 0 (H x)) W
      rw [gr_u u0 u1, gr_d d0 d1] at CJ0
      have CH0 := fun W => refHold_any x W
      have hxb := H_bd x
      generalize H x = h at CO CJ0 CH0 hxb
      obtain ⟨pu, hpu⟩ : ∃ y, max 0 h = y := ⟨_, rfl⟩
      obtain ⟨pd, hpd⟩ : ∃ y, min 0 h = y := ⟨_, rfl⟩
      obtain ⟨nu, hnu⟩ : ∃ y, max U h = y := ⟨_, rfl⟩
      obtain ⟨nd, hnd⟩ : ∃ y, min D h = y := ⟨_, rfl⟩
      rw [hpu, hpd] at CO CJ0
      rw [hnu, hnd] at CJ0
      have HNU := Lib.hid (And.intro hnu hnd)
      have CJ := Lib.hid CJ0
      have CH := Lib.hid CH0
      have HRd : Hid (Gr w wr.drew w.heap.size U D) := Lib.hid (HR.out.below (Below.drew (Below.refl _ _)))
      clear hc hx CJ0 CH0 hpu hpd hnu hnd hkl hb
      go_wp2_with fail
      go_region_with (first | (go_at_call 12; refine (CO.out _).mono ?_; rintro e wq ⟨rfl, hbq⟩; have hR1 := HRd.out.below hbq; have HR1 := Lib.hid hR1; have c0 := (hR1.bel.cell (p := ⟨b, _, none⟩) HBB.out).trans HC.out; have c1 : wq.cell? ⟨w.heap.size, 0, none⟩ = some (.int .i64 U) := cell_ofS hR1.box rfl; have c2 : wq.cell? ⟨w.heap.size, 1, none⟩ = some (.int .i64 D) := cell_ofS hR1.box rfl; have f1 : wq.frozen? ⟨w.heap.size, 0, none⟩ = false := frz_ofS hR1.box; have f2 : wq.frozen? ⟨w.heap.size, 1, none⟩ = false := frz_ofS hR1.box; have l1 := blk_ltS hR1.box; clear hbq hR1) | (go_at_call 8; refine (CJ.out _).mono ?_; rintro e ws ⟨rfl, hbs⟩; have hR2 := HR1.out.below hbs; have HR2 := Lib.hid hR2; have c0 := (hR2.bel.cell (p := ⟨b, _, none⟩) HBB.out).trans HC.out; have c1 : ws.cell? ⟨w.heap.size, 0, none⟩ = some (.int .i64 U) := cell_ofS hR2.box rfl; have c2 : ws.cell? ⟨w.heap.size, 1, none⟩ = some (.int .i64 D) := cell_ofS hR2.box rfl; have f1 : ws.frozen? ⟨w.heap.size, 0, none⟩ = false := frz_ofS hR2.box; have f2 : ws.frozen? ⟨w.heap.size, 1, none⟩ = false := frz_ofS hR2.box; have l1 := blk_ltS hR2.box; clear hbs hR2))
      all_goals
        have hR3 := HR2.out.put nu nd (by have := HNU.out.1; omega) (by have := HNU.out.1; omega) (by have := HNU.out.2; omega) (by have := HNU.out.2; omega)
        generalize (ws.setCell ⟨w.heap.size, 0, none⟩ (.int .i64 nu)).setCell ⟨w.heap.size, 1, none⟩ (.int .i64 nd) = W9 at *
        have HR3 := Lib.hid hR3
        clear c0 c1 c2 f1 f2 l1
        have c0 := (hR3.bel.cell (p := ⟨b, _, none⟩) HBB.out).trans HC.out
        have l2 := Nat.lt_of_lt_of_le HBB.out hR3.bel.size
        clear hR3
        by_cases hu : U < h
        · have hu1 : nu = h := by have := HNU.out.1; omega
          by_cases hd : h < D
          · have hd1 : nd = h := by have := HNU.out.2; omega
            have HUD := Lib.hid (And.intro hu1 hd1)
            clear hu1 hd1
            go_wp2_with (go_at_call 17; refine (CH.out _).mono ?_; rintro e w' ⟨rfl, rfl⟩)
            go_roundw
            case rel => exact ⟨k + 1, nu, nd, by rw [HUD.out.1], by rw [HUD.out.2], by go_num, by omega, HR3⟩
            case measure => simp [intOf]; omega
          · have hd1 : nd = D := by have := HNU.out.2; omega
            have hd2 : D ≤ h := by omega
            have HUD := Lib.hid (And.intro hu1 hd1)
            clear hu1 hd1
            go_wp2_with (go_at_call 17; refine (CH.out _).mono ?_; rintro e w' ⟨rfl, rfl⟩)
            go_roundw
            case rel => exact ⟨k + 1, nu, nd, by rw [HUD.out.1], by rw [HUD.out.2], by go_num, by omega, HR3⟩
            case measure => simp [intOf]; omega
        · have hu1 : nu = U := by have := HNU.out.1; omega
          have hu2 : h ≤ U := by omega
          by_cases hd : h < D
          · have hd1 : nd = h := by have := HNU.out.2; omega
            have HUD := Lib.hid (And.intro hu1 hd1)
            clear hu1 hd1
            go_wp2_with (go_at_call 17; refine (CH.out _).mono ?_; rintro e w' ⟨rfl, rfl⟩)
            go_roundw
            case rel => exact ⟨k + 1, nu, nd, by rw [HUD.out.1], by rw [HUD.out.2], by go_num, by omega, HR3⟩
            case measure => simp [intOf]; omega
          · have hd1 : nd = D := by have := HNU.out.2; omega
            have hd2 : D ≤ h := by omega
            have HUD := Lib.hid (And.intro hu1 hd1)
            clear hu1 hd1
            go_wp2_with (go_at_call 17; refine (CH.out _).mono ?_; rintro e w' ⟨rfl, rfl⟩)
            go_roundw
            case rel => exact ⟨k + 1, nu, nd, by rw [HUD.out.1], by rw [HUD.out.2], by go_num, by omega, HR3⟩
            case measure => simp [intOf]; omega
    · have hkz : (n : Int) ≤ (k : Int) := by omega
      obtain ⟨bx, bel, lo, u0, u1, d0, d1⟩ := HR.out
      have c1 : wr.cell? ⟨w.heap.size, 0, none⟩ = some (.int .i64 U) := cell_ofS bx rfl
      have c2 : wr.cell? ⟨w.heap.size, 1, none⟩ = some (.int .i64 D) := cell_ofS bx rfl
      have CW0 := fun W => Worth19_any U D W
      rw [gr_w u0 u1 d0 d1] at CW0
      have CW := Lib.hid CW0
      have HBel := Lib.hid bel
      clear CW0 bx bel
      go_wp2_with fail
      refine (CW.out _).mono ?_
      rintro e w1 ⟨rfl, hb1⟩
      have HB1 := Lib.hid (HBel.out.trans (hb1.mono HBel.out.size))
      clear hb1
      go_wp2_with fail
      refine (HK.out _).mono ?_
      rintro e w2 ⟨rfl, hb2⟩
      have HB2 := Lib.hid (HB1.out.trans (hb2.mono HB1.out.size))
      clear hb2
      go_wp2_with fail
      go_ret
      exact ⟨rfl, HB2.out⟩
end Go.Proofs.Ytajmmnmagbnigaa
