/- Layer 15: what lengths are measured by. -/
import Derived.Test.YtjhhpilaaahicaaHolC
import Derived.Test.YtjhhpilaaahicaaMem
namespace Go.Proofs.Ytjhhpilaaahicaa
open Go.RowKit TreP FixM Go.Sort
set_option linter.unusedVariables false

theorem Exts.all {w : World} {x : Option Addr} {m : Nat} {X : Nat → Ext} (h : Exts w x m X) (hm : 0 < m) : ∃ b off, x = some ⟨b, off, none⟩ ∧ ∀ W, Below w.heap.size w W → ∀ k, k < m → W.cell? ⟨b, off + k * 4 + 2, none⟩ = some (.int .i64 (X k).wd) ∧ W.cell? ⟨b, off + k * 4 + 3, none⟩ = some (.int .i64 (X k).ht) := by
  rcases h with rfl | ⟨b, off, rfl, hb, hc⟩
  · omega
  · refine ⟨b, off, rfl, fun W hW k hk => ?_⟩
    obtain ⟨_, _, h2, h3⟩ := hc k hk
    exact ⟨(hW.cell (p := ⟨b, off + k * 4 + 2, none⟩) hb).trans h2, (hW.cell (p := ⟨b, off + k * 4 + 3, none⟩) hb).trans h3⟩
theorem wide_lt {X : Nat → Ext} {m k : Nat} (h : wideB X m k = true) : k < m := by
  by_cases hk : k < m
  · exact hk
  · unfold wideB kindN at h; rw [if_neg hk] at h; simp at h
theorem whole_lt {X : Nat → Ext} {m k : Nat} (h : wholeB X m k = true) : k < m := by
  by_cases hk : k < m
  · exact hk
  · unfold wholeB kindN at h; rw [if_neg hk] at h; simp at h
def baseW (X : Nat → Ext) (m : Nat) (U : List Nat) (d : Int) : Int := match U.find? (wideB X m) with | some k => (X k).wd | none => d
def baseH (X : Nat → Ext) (m : Nat) (U : List Nat) (d : Int) : Int := match U.find? (wholeB X m) with | some k => (X k).ht | none => d

set_option maxRecDepth 100000 in
set_option maxHeartbeats 8000000 in
theorem Bases_any (a : Option Addr) (len cap : Nat) (f : Nat → Int) (i : Int) (U : List Nat) (hU : UpsIs f len i U) (hl : len ≤ 100000) (x : Option Addr) (m xc : Nat) (X : Nat → Ext) (vw vh : Int) (w : World) (hm : m ≤ 9223372036854775807) (hP : Pars w a len f) (hX : Exts w x m X) :
    Calls Try.prog 54 #[.slice a len cap, .slice x m xc, .int .i64 i, .agg #[.int .i64 vw, .int .i64 vh]] w fun e w' => e = .returned (.tuple #[.int .i64 (H (baseW X m U vw)), .int .i64 (H (baseH X m U vh))]) ∧ Below w.heap.size w w' := by
  have hmf : ∀ (fn : Fn) (first cap : Array Value) (w : World), (Instr.makeFunc fn first cap).run Try.prog w = .ok (.func fn first cap) w := fun _ _ _ _ => rfl
  have NW : Hid (∀ W, Below w.heap.size w W → Calls Try.prog 95 #[.slice a len cap, .int .i64 i, .func (.func 96) #[.slice x m xc] #[]] W fun e w' => e = .returned (.int .i64 (firstN (wideB X m) U)) ∧ Below W.heap.size W w') := Lib.hid fun W hW => nearest_wide a len cap f i U hU hl x m xc _ W (hP.below hW) fun W' hW' k => (wide_any x m xc k X W' hm (hX.below (hW.trans (hW'.mono hW.size)))).mono fun e w' h => ⟨h.1, by rw [← h.2]; exact Below.refl _ _⟩
  have NH : Hid (∀ W, Below w.heap.size w W → Calls Try.prog 95 #[.slice a len cap, .int .i64 i, .func (.func 97) #[.slice x m xc] #[]] W fun e w' => e = .returned (.int .i64 (firstN (wholeB X m) U)) ∧ Below W.heap.size W w') := Lib.hid fun W hW => nearest_whole a len cap f i U hU hl x m xc _ W (hP.below hW) fun W' hW' k => (whole_any x m xc k X W' hm (hX.below (hW.trans (hW'.mono hW.size)))).mono fun e w' h => ⟨h.1, by rw [← h.2]; exact Below.refl _ _⟩
  have c0 : (w.alloc (.cells #[.int .i64 vw, .int .i64 vh] 89)).cell? ⟨w.heap.size, 0, none⟩ = some (.int .i64 vw) := cell_of (heap_alloc_new w _) rfl
  have c1 : (w.alloc (.cells #[.int .i64 vw, .int .i64 vh] 89)).cell? ⟨w.heap.size, 1, none⟩ = some (.int .i64 vh) := cell_of (heap_alloc_new w _) rfl
  have hb1 := below_one7h w (.cells #[.int .i64 vw, .int .i64 vh] 89)
  have HX := Lib.hid hX
  unfold baseW baseH
  clear hP hU
  have EB := Lib.hid (rfl : w.heap.size = w.heap.size)
  cases hfw : U.find? (wideB X m) with
  | none =>
    cases hfh : U.find? (wholeB X m) with
    | none =>
      have fW : firstN (wideB X m) U = -1 := firstN_none hfw
      have fH : firstN (wholeB X m) U = -1 := firstN_none hfh
      rw [fW] at NW; rw [fH] at NH
      skip
      clear fW fH hfw hfh hX
      go_enter Try.func54, Try.ntmps54
      go_wp2_with fail
      generalize w.alloc (.cells #[.int .i64 vw, .int .i64 vh] 89) = w1 at *
      have k0 := cell_regrown c0
      have k1 := cell_regrown c1
      clear c0 c1
      refine wp_region_quiet_below (by kernel_rfl) (by kernel_rfl) ?_
      repeat (quiet_step (fail))
      refine wpQuiet_nil ?_
      intro _ hw'
      obtain ⟨⟨dq, osq⟩, hw''⟩ := hw'
      subst hw''
      have HB2 : Hid (Below w.heap.size w (grow (redrawn w1 dq) osq)) := Lib.hid (hb1.trans ((below_regrown w1 dq osq).mono hb1.size))
      clear k0 k1 hb1
      generalize grow (redrawn w1 dq) osq = w2 at HB2 ⊢
      go_wp2_with fail
      refine (NW.out _ HB2.out).mono ?_
      rintro e w3 ⟨rfl, hb3⟩
      have HB3 := Lib.hid (HB2.out.trans (hb3.mono HB2.out.size))
      clear hb3
      go_wp2_with fail
      refine (NH.out _ HB3.out).mono ?_
      rintro e w4 ⟨rfl, hb4⟩
      have HB4 := Lib.hid (HB3.out.trans (hb4.mono HB3.out.size))
      clear hb4
      go_wp2_with fail
      refine (Hold_any _ _).mono ?_
      rintro e w' ⟨rfl, rfl⟩
      go_wp2_with fail
      refine (Hold_any _ _).mono ?_
      rintro e w' ⟨rfl, rfl⟩
      go_wp2_with fail
      go_ret2
      exact ⟨rfl, HB4.out⟩
    | some kh =>
      have fW : firstN (wideB X m) U = -1 := firstN_none hfw
      have fH : firstN (wholeB X m) U = (kh : Int) := firstN_some hfh
      rw [fW] at NW; rw [fH] at NH
      have hkh : kh < m := whole_lt (List.find?_some hfh)
      have hkh2 : (kh : Int) < (m : Int) := by omega
      have neh : ((kh : Int) == -1) = false := by rw [beq_eq_false_iff_ne]; omega
      obtain ⟨b, off, rfl, hcs⟩ := HX.out.all (by omega)
      have HCS := Lib.hid hcs
      clear hcs
      obtain ⟨rh_, hrh⟩ : ∃ z, (X kh).ht = z := ⟨_, rfl⟩
      simp only [hrh] at ⊢
      have HRH := Lib.hid hrh
      clear fW fH hfw hfh hX hrh
      go_enter Try.func54, Try.ntmps54
      go_wp2_with fail
      generalize w.alloc (.cells #[.int .i64 vw, .int .i64 vh] 89) = w1 at *
      have k0 := cell_regrown c0
      have k1 := cell_regrown c1
      clear c0 c1
      refine wp_region_quiet_below (by kernel_rfl) (by kernel_rfl) ?_
      repeat (quiet_step (fail))
      refine wpQuiet_nil ?_
      intro _ hw'
      obtain ⟨⟨dq, osq⟩, hw''⟩ := hw'
      subst hw''
      have HB2 : Hid (Below w.heap.size w (grow (redrawn w1 dq) osq)) := Lib.hid (hb1.trans ((below_regrown w1 dq osq).mono hb1.size))
      clear k0 k1 hb1
      generalize grow (redrawn w1 dq) osq = w2 at HB2 ⊢
      go_wp2_with fail
      refine (NW.out _ HB2.out).mono ?_
      rintro e w3 ⟨rfl, hb3⟩
      have HB3 := Lib.hid (HB2.out.trans (hb3.mono HB2.out.size))
      clear hb3
      go_wp2_with fail
      refine (NH.out _ HB3.out).mono ?_
      rintro e w4 ⟨rfl, hb4⟩
      have HB4 := Lib.hid (HB3.out.trans (hb4.mono HB3.out.size))
      clear hb4
      have ch := (HCS.out w4 HB4.out kh hkh).2
      rw [HRH.out] at ch
      go_wp2_with fail
      refine (Hold_any _ _).mono ?_
      rintro e w' ⟨rfl, rfl⟩
      go_wp2_with fail
      refine (Hold_any _ _).mono ?_
      rintro e w' ⟨rfl, rfl⟩
      go_wp2_with fail
      go_ret2
      exact ⟨rfl, HB4.out⟩
  | some kw =>
    cases hfh : U.find? (wholeB X m) with
    | none =>
      have fW : firstN (wideB X m) U = (kw : Int) := firstN_some hfw
      have fH : firstN (wholeB X m) U = -1 := firstN_none hfh
      rw [fW] at NW; rw [fH] at NH
      have hkw : kw < m := wide_lt (List.find?_some hfw)
      have hkw2 : (kw : Int) < (m : Int) := by omega
      have new : ((kw : Int) == -1) = false := by rw [beq_eq_false_iff_ne]; omega
      obtain ⟨b, off, rfl, hcs⟩ := HX.out.all (by omega)
      have HCS := Lib.hid hcs
      clear hcs
      obtain ⟨rw_, hrw⟩ : ∃ z, (X kw).wd = z := ⟨_, rfl⟩
      simp only [hrw] at ⊢
      have HRW := Lib.hid hrw
      clear fW fH hfw hfh hX hrw
      go_enter Try.func54, Try.ntmps54
      go_wp2_with fail
      generalize w.alloc (.cells #[.int .i64 vw, .int .i64 vh] 89) = w1 at *
      have k0 := cell_regrown c0
      have k1 := cell_regrown c1
      clear c0 c1
      refine wp_region_quiet_below (by kernel_rfl) (by kernel_rfl) ?_
      repeat (quiet_step (fail))
      refine wpQuiet_nil ?_
      intro _ hw'
      obtain ⟨⟨dq, osq⟩, hw''⟩ := hw'
      subst hw''
      have HB2 : Hid (Below w.heap.size w (grow (redrawn w1 dq) osq)) := Lib.hid (hb1.trans ((below_regrown w1 dq osq).mono hb1.size))
      clear k0 k1 hb1
      generalize grow (redrawn w1 dq) osq = w2 at HB2 ⊢
      go_wp2_with fail
      refine (NW.out _ HB2.out).mono ?_
      rintro e w3 ⟨rfl, hb3⟩
      have HB3 := Lib.hid (HB2.out.trans (hb3.mono HB2.out.size))
      clear hb3
      have cw := (HCS.out w3 HB3.out kw hkw).1
      rw [HRW.out] at cw
      go_wp2_with fail
      refine (NH.out _ HB3.out).mono ?_
      rintro e w4 ⟨rfl, hb4⟩
      have HB4 := Lib.hid (HB3.out.trans (hb4.mono HB3.out.size))
      clear hb4
      go_wp2_with fail
      refine (Hold_any _ _).mono ?_
      rintro e w' ⟨rfl, rfl⟩
      go_wp2_with fail
      refine (Hold_any _ _).mono ?_
      rintro e w' ⟨rfl, rfl⟩
      go_wp2_with fail
      go_ret2
      exact ⟨rfl, HB4.out⟩
    | some kh =>
      have fW : firstN (wideB X m) U = (kw : Int) := firstN_some hfw
      have fH : firstN (wholeB X m) U = (kh : Int) := firstN_some hfh
      rw [fW] at NW; rw [fH] at NH
      have hkw : kw < m := wide_lt (List.find?_some hfw)
      have hkw2 : (kw : Int) < (m : Int) := by omega
      have new : ((kw : Int) == -1) = false := by rw [beq_eq_false_iff_ne]; omega
      have hkh : kh < m := whole_lt (List.find?_some hfh)
      have hkh2 : (kh : Int) < (m : Int) := by omega
      have neh : ((kh : Int) == -1) = false := by rw [beq_eq_false_iff_ne]; omega
      obtain ⟨b, off, rfl, hcs⟩ := HX.out.all (by omega)
      have HCS := Lib.hid hcs
      clear hcs
      obtain ⟨rw_, hrw⟩ : ∃ z, (X kw).wd = z := ⟨_, rfl⟩
      obtain ⟨rh_, hrh⟩ : ∃ z, (X kh).ht = z := ⟨_, rfl⟩
      simp only [hrw, hrh] at ⊢
      have HRW := Lib.hid hrw
      have HRH := Lib.hid hrh
      clear fW fH hfw hfh hX hrw hrh
      go_enter Try.func54, Try.ntmps54
      go_wp2_with fail
      generalize w.alloc (.cells #[.int .i64 vw, .int .i64 vh] 89) = w1 at *
      have k0 := cell_regrown c0
      have k1 := cell_regrown c1
      clear c0 c1
      refine wp_region_quiet_below (by kernel_rfl) (by kernel_rfl) ?_
      repeat (quiet_step (fail))
      refine wpQuiet_nil ?_
      intro _ hw'
      obtain ⟨⟨dq, osq⟩, hw''⟩ := hw'
      subst hw''
      have HB2 : Hid (Below w.heap.size w (grow (redrawn w1 dq) osq)) := Lib.hid (hb1.trans ((below_regrown w1 dq osq).mono hb1.size))
      clear k0 k1 hb1
      generalize grow (redrawn w1 dq) osq = w2 at HB2 ⊢
      go_wp2_with fail
      refine (NW.out _ HB2.out).mono ?_
      rintro e w3 ⟨rfl, hb3⟩
      have HB3 := Lib.hid (HB2.out.trans (hb3.mono HB2.out.size))
      clear hb3
      have cw := (HCS.out w3 HB3.out kw hkw).1
      rw [HRW.out] at cw
      go_wp2_with fail
      refine (NH.out _ HB3.out).mono ?_
      rintro e w4 ⟨rfl, hb4⟩
      have HB4 := Lib.hid (HB3.out.trans (hb4.mono HB3.out.size))
      clear hb4
      have ch := (HCS.out w4 HB4.out kh hkh).2
      rw [HRH.out] at ch
      go_wp2_with fail
      refine (Hold_any _ _).mono ?_
      rintro e w' ⟨rfl, rfl⟩
      go_wp2_with fail
      refine (Hold_any _ _).mono ?_
      rintro e w' ⟨rfl, rfl⟩
      go_wp2_with fail
      go_ret2
      exact ⟨rfl, HB4.out⟩
end Go.Proofs.Ytjhhpilaaahicaa
