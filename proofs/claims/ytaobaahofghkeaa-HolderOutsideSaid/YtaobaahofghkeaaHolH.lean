/- Layer 15: what lengths are measured by, by the reference; HolderBases. -/
import Derived.Test.YtaobaahofghkeaaHolG
namespace Go.Proofs.Ytaobaahofghkeaa
open Go.RowKit TreP FixM Go.Sort
set_option linter.unusedVariables false

theorem firstN_wide (X : Nat → Ext) (m : Nat) (U : List Nat) : firstN (refP X m [] 1) U = firstN (wideB X m) U := by rw [show refP X m [] 1 = wideB X m from funext (refP_wide X m)]
theorem firstN_whole (X : Nat → Ext) (m : Nat) (U : List Nat) : firstN (refP X m [] 2) U = firstN (wholeB X m) U := by rw [show refP X m [] 2 = wholeB X m from funext (refP_whole X m)]

set_option maxRecDepth 100000 in
set_option maxHeartbeats 16000000 in
theorem refBases_any (a : Option Addr) (len cap : Nat) (f : Nat → Int) (i : Int) (U : List Nat) (hU : UpsIs f len i U) (hl : len ≤ 100000) (x : Option Addr) (m xc : Nat) (X : Nat → Ext) (vw vh : Int) (w : World) (hm : m ≤ 9223372036854775807) (hP : Pars w a len f) (hX : Exts w x m X) :
    Calls Try.prog 15 #[.slice a len cap, .slice x m xc, .int .i64 i, .agg #[.int .i64 vw, .int .i64 vh]] w fun e w' => e = .returned (.tuple #[.int .i64 (H (baseW X m U vw)), .int .i64 (H (baseH X m U vh))]) ∧ Below w.heap.size w w' := by
  have NW : Hid (∀ W, Below w.heap.size w W → Calls Try.prog 21 #[.slice a len cap, .slice x m xc, .int .i64 i, .string ⟨([] : List UInt8).toArray⟩, .int .i64 1] W fun e w' => e = .returned (.int .i64 (firstN (wideB X m) U)) ∧ Below W.heap.size W w') := Lib.hid fun W hW => by
    rw [← firstN_wide]; exact refNear_any a len cap f i U hU hl x m xc X [] 1 W hm (hP.below hW) (hX.below hW)
  have NH : Hid (∀ W, Below w.heap.size w W → Calls Try.prog 21 #[.slice a len cap, .slice x m xc, .int .i64 i, .string ⟨([] : List UInt8).toArray⟩, .int .i64 2] W fun e w' => e = .returned (.int .i64 (firstN (wholeB X m) U)) ∧ Below W.heap.size W w') := Lib.hid fun W hW => by
    rw [← firstN_whole]; exact refNear_any a len cap f i U hU hl x m xc X [] 2 W hm (hP.below hW) (hX.below hW)
  have AT : Hid (∀ (k : Nat) W, Below w.heap.size w W → Calls Try.prog 23 #[.slice x m xc, .int .i64 (k : Int)] W fun e w' => e = .returned (.agg #[.int .i64 (kindN X m k), .string ⟨(nameN X m k).toArray⟩, .int .i64 (wdN X m k), .int .i64 (htN X m k)]) ∧ Below W.heap.size W w') := Lib.hid fun k W hW => refAt15_any x m xc k X W hm (hX.below hW)
  have c0 : (w.alloc (.cells #[.int .i64 vw, .int .i64 vh] 33)).cell? ⟨w.heap.size, 0, none⟩ = some (.int .i64 vw) := cell_of (heap_alloc_new w _) rfl
  have c1 : (w.alloc (.cells #[.int .i64 vw, .int .i64 vh] 33)).cell? ⟨w.heap.size, 1, none⟩ = some (.int .i64 vh) := cell_of (heap_alloc_new w _) rfl
  have hb1 := below_one7h w (.cells #[.int .i64 vw, .int .i64 vh] 33)
  unfold baseW baseH
  clear hP hU hX
  have HH := Lib.hid (fun z W => refHold_any z W)
  have hf2 : ∀ (a c d : Int) (b : ByteArray) (W : World), (Instr.field 42 (.agg #[.int .i64 a, .string b, .int .i64 c, .int .i64 d]) 2).run Try.prog W = .ok (.int .i64 c) W := fun _ _ _ _ W => by kernel_rfl
  have hf3 : ∀ (a c d : Int) (b : ByteArray) (W : World), (Instr.field 42 (.agg #[.int .i64 a, .string b, .int .i64 c, .int .i64 d]) 3).run Try.prog W = .ok (.int .i64 d) W := fun _ _ _ _ W => by kernel_rfl
  cases hfw : U.find? (wideB X m) with
  | none =>
    cases hfh : U.find? (wholeB X m) with
    | none =>
      have fW : firstN (wideB X m) U = -1 := firstN_none hfw
      have fH : firstN (wholeB X m) U = -1 := firstN_none hfh
      rw [fW] at NW; rw [fH] at NH
      dsimp only
      skip
      clear fW fH hfw hfh AT
      go_enter Try.func15, Try.ntmps15
      go_wp2_with fail
      generalize w.alloc (.cells #[.int .i64 vw, .int .i64 vh] 33) = w1 at *
      have k0 := cell_regrown c0
      have k1 := cell_regrown c1
      clear c0 c1
      have cA : ∀ dd os, Calls Try.prog 28 #[.int .i64 vw] (grow (redrawn w1 dd) os) fun e w'' => e = .returned (.int .i64 (H vw)) ∧ ∃ p : Regrown, w'' = grow (redrawn w1 p.d) p.os := fun dd os => Calls.regrown_of ((HH.out vw _).mono fun e w' h => ⟨h.1, by rw [← h.2]; exact Below.refl _ _⟩)
      have cB : ∀ dd os, Calls Try.prog 28 #[.int .i64 vh] (grow (redrawn w1 dd) os) fun e w'' => e = .returned (.int .i64 (H vh)) ∧ ∃ p : Regrown, w'' = grow (redrawn w1 p.d) p.os := fun dd os => Calls.regrown_of ((HH.out vh _).mono fun e w' h => ⟨h.1, by rw [← h.2]; exact Below.refl _ _⟩)
      refine wp_region_quiet_below (by kernel_rfl) (by kernel_rfl) ?_
      repeat (quiet_step (first | with_reducible exact cA _ _ | with_reducible exact cB _ _))
      refine wpQuiet_nil ?_
      intro _ hw'
      obtain ⟨⟨dq, osq⟩, hw''⟩ := hw'
      subst hw''
      have HB2 : Hid (Below w.heap.size w (grow (redrawn w1 dq) osq)) := Lib.hid (hb1.trans ((below_regrown w1 dq osq).mono hb1.size))
      clear k0 k1 hb1 cA cB
      generalize grow (redrawn w1 dq) osq = w2 at HB2 ⊢
      go_wp2_with fail
      refine (NW.out _ HB2.out).mono ?_
      rintro e w3 ⟨rfl, hb3⟩
      have HB3 := Lib.hid (HB2.out.trans (hb3.mono HB2.out.size))
      clear hb3
      go_wp2_with fail
      refine (NH.out _ HB3.out).mono ?_
      rintro e w4 ⟨rfl, hb4⟩
      have HB4 := Lib.hid (HB3.out.trans (hb4.mono HB3.out.size))
      clear hb4
      go_wp2_with fail
      go_ret2
      exact ⟨rfl, HB4.out⟩
    | some kh =>
      have fW : firstN (wideB X m) U = -1 := firstN_none hfw
      have fH : firstN (wholeB X m) U = (kh : Int) := firstN_some hfh
      rw [fW] at NW; rw [fH] at NH
      dsimp only
      have hkh : kh < m := whole_lt (List.find?_some hfh)
      have AH := Lib.hid (AT.out kh)
      have eh : htN X m kh = (X kh).ht := by unfold htN; rw [if_pos hkh]
      rw [eh] at AH
      generalize (X kh).ht = zh at AH ⊢
      generalize kindN X m kh = t1 at AH
      generalize nameN X m kh = s1 at AH
      generalize wdN X m kh = t3 at AH
      skip
      clear fW fH hfw hfh AT eh
      go_enter Try.func15, Try.ntmps15
      go_wp2_with fail
      generalize w.alloc (.cells #[.int .i64 vw, .int .i64 vh] 33) = w1 at *
      have k0 := cell_regrown c0
      have k1 := cell_regrown c1
      clear c0 c1
      have cA : ∀ dd os, Calls Try.prog 28 #[.int .i64 vw] (grow (redrawn w1 dd) os) fun e w'' => e = .returned (.int .i64 (H vw)) ∧ ∃ p : Regrown, w'' = grow (redrawn w1 p.d) p.os := fun dd os => Calls.regrown_of ((HH.out vw _).mono fun e w' h => ⟨h.1, by rw [← h.2]; exact Below.refl _ _⟩)
      have cB : ∀ dd os, Calls Try.prog 28 #[.int .i64 vh] (grow (redrawn w1 dd) os) fun e w'' => e = .returned (.int .i64 (H vh)) ∧ ∃ p : Regrown, w'' = grow (redrawn w1 p.d) p.os := fun dd os => Calls.regrown_of ((HH.out vh _).mono fun e w' h => ⟨h.1, by rw [← h.2]; exact Below.refl _ _⟩)
      refine wp_region_quiet_below (by kernel_rfl) (by kernel_rfl) ?_
      repeat (quiet_step (first | with_reducible exact cA _ _ | with_reducible exact cB _ _))
      refine wpQuiet_nil ?_
      intro _ hw'
      obtain ⟨⟨dq, osq⟩, hw''⟩ := hw'
      subst hw''
      have HB2 : Hid (Below w.heap.size w (grow (redrawn w1 dq) osq)) := Lib.hid (hb1.trans ((below_regrown w1 dq osq).mono hb1.size))
      clear k0 k1 hb1 cA cB
      generalize grow (redrawn w1 dq) osq = w2 at HB2 ⊢
      go_wp2_with fail
      refine (NW.out _ HB2.out).mono ?_
      rintro e w3 ⟨rfl, hb3⟩
      have HB3 := Lib.hid (HB2.out.trans (hb3.mono HB2.out.size))
      clear hb3
      go_wp2_with fail
      refine (NH.out _ HB3.out).mono ?_
      rintro e w4 ⟨rfl, hb4⟩
      have HB4 := Lib.hid (HB3.out.trans (hb4.mono HB3.out.size))
      clear hb4
      go_wp2_with fail
      refine (AH.out _ HB4.out).mono ?_
      rintro e w6 ⟨rfl, hb6⟩
      have HB6 := Lib.hid (HB4.out.trans (hb6.mono HB4.out.size))
      clear hb6
      go_wp2_with fail
      refine (HH.out _ _).mono ?_
      rintro e w' ⟨rfl, rfl⟩
      go_wp2_with fail
      go_ret2
      exact ⟨rfl, HB6.out⟩
  | some kw =>
    cases hfh : U.find? (wholeB X m) with
    | none =>
      have fW : firstN (wideB X m) U = (kw : Int) := firstN_some hfw
      have fH : firstN (wholeB X m) U = -1 := firstN_none hfh
      rw [fW] at NW; rw [fH] at NH
      dsimp only
      have hkw : kw < m := wide_lt (List.find?_some hfw)
      have AW := Lib.hid (AT.out kw)
      have ew : wdN X m kw = (X kw).wd := by unfold wdN; rw [if_pos hkw]
      rw [ew] at AW
      generalize (X kw).wd = zw at AW ⊢
      generalize kindN X m kw = z1 at AW
      generalize nameN X m kw = y1 at AW
      generalize htN X m kw = z3 at AW
      skip
      clear fW fH hfw hfh AT ew
      go_enter Try.func15, Try.ntmps15
      go_wp2_with fail
      generalize w.alloc (.cells #[.int .i64 vw, .int .i64 vh] 33) = w1 at *
      have k0 := cell_regrown c0
      have k1 := cell_regrown c1
      clear c0 c1
      have cA : ∀ dd os, Calls Try.prog 28 #[.int .i64 vw] (grow (redrawn w1 dd) os) fun e w'' => e = .returned (.int .i64 (H vw)) ∧ ∃ p : Regrown, w'' = grow (redrawn w1 p.d) p.os := fun dd os => Calls.regrown_of ((HH.out vw _).mono fun e w' h => ⟨h.1, by rw [← h.2]; exact Below.refl _ _⟩)
      have cB : ∀ dd os, Calls Try.prog 28 #[.int .i64 vh] (grow (redrawn w1 dd) os) fun e w'' => e = .returned (.int .i64 (H vh)) ∧ ∃ p : Regrown, w'' = grow (redrawn w1 p.d) p.os := fun dd os => Calls.regrown_of ((HH.out vh _).mono fun e w' h => ⟨h.1, by rw [← h.2]; exact Below.refl _ _⟩)
      refine wp_region_quiet_below (by kernel_rfl) (by kernel_rfl) ?_
      repeat (quiet_step (first | with_reducible exact cA _ _ | with_reducible exact cB _ _))
      refine wpQuiet_nil ?_
      intro _ hw'
      obtain ⟨⟨dq, osq⟩, hw''⟩ := hw'
      subst hw''
      have HB2 : Hid (Below w.heap.size w (grow (redrawn w1 dq) osq)) := Lib.hid (hb1.trans ((below_regrown w1 dq osq).mono hb1.size))
      clear k0 k1 hb1 cA cB
      generalize grow (redrawn w1 dq) osq = w2 at HB2 ⊢
      go_wp2_with fail
      refine (NW.out _ HB2.out).mono ?_
      rintro e w3 ⟨rfl, hb3⟩
      have HB3 := Lib.hid (HB2.out.trans (hb3.mono HB2.out.size))
      clear hb3
      go_wp2_with fail
      refine (AW.out _ HB3.out).mono ?_
      rintro e w5 ⟨rfl, hb5⟩
      have HB5 := Lib.hid (HB3.out.trans (hb5.mono HB3.out.size))
      clear hb5
      go_wp2_with fail
      refine (HH.out _ _).mono ?_
      rintro e w' ⟨rfl, rfl⟩
      go_wp2_with fail
      refine (NH.out _ HB5.out).mono ?_
      rintro e w4 ⟨rfl, hb4⟩
      have HB4 := Lib.hid (HB5.out.trans (hb4.mono HB5.out.size))
      clear hb4
      go_wp2_with fail
      go_ret2
      exact ⟨rfl, HB4.out⟩
    | some kh =>
      have fW : firstN (wideB X m) U = (kw : Int) := firstN_some hfw
      have fH : firstN (wholeB X m) U = (kh : Int) := firstN_some hfh
      rw [fW] at NW; rw [fH] at NH
      dsimp only
      have hkw : kw < m := wide_lt (List.find?_some hfw)
      have AW := Lib.hid (AT.out kw)
      have ew : wdN X m kw = (X kw).wd := by unfold wdN; rw [if_pos hkw]
      rw [ew] at AW
      generalize (X kw).wd = zw at AW ⊢
      generalize kindN X m kw = z1 at AW
      generalize nameN X m kw = y1 at AW
      generalize htN X m kw = z3 at AW
      have hkh : kh < m := whole_lt (List.find?_some hfh)
      have AH := Lib.hid (AT.out kh)
      have eh : htN X m kh = (X kh).ht := by unfold htN; rw [if_pos hkh]
      rw [eh] at AH
      generalize (X kh).ht = zh at AH ⊢
      generalize kindN X m kh = t1 at AH
      generalize nameN X m kh = s1 at AH
      generalize wdN X m kh = t3 at AH
      skip
      clear fW fH hfw hfh AT ew eh
      go_enter Try.func15, Try.ntmps15
      go_wp2_with fail
      generalize w.alloc (.cells #[.int .i64 vw, .int .i64 vh] 33) = w1 at *
      have k0 := cell_regrown c0
      have k1 := cell_regrown c1
      clear c0 c1
      have cA : ∀ dd os, Calls Try.prog 28 #[.int .i64 vw] (grow (redrawn w1 dd) os) fun e w'' => e = .returned (.int .i64 (H vw)) ∧ ∃ p : Regrown, w'' = grow (redrawn w1 p.d) p.os := fun dd os => Calls.regrown_of ((HH.out vw _).mono fun e w' h => ⟨h.1, by rw [← h.2]; exact Below.refl _ _⟩)
      have cB : ∀ dd os, Calls Try.prog 28 #[.int .i64 vh] (grow (redrawn w1 dd) os) fun e w'' => e = .returned (.int .i64 (H vh)) ∧ ∃ p : Regrown, w'' = grow (redrawn w1 p.d) p.os := fun dd os => Calls.regrown_of ((HH.out vh _).mono fun e w' h => ⟨h.1, by rw [← h.2]; exact Below.refl _ _⟩)
      refine wp_region_quiet_below (by kernel_rfl) (by kernel_rfl) ?_
      repeat (quiet_step (first | with_reducible exact cA _ _ | with_reducible exact cB _ _))
      refine wpQuiet_nil ?_
      intro _ hw'
      obtain ⟨⟨dq, osq⟩, hw''⟩ := hw'
      subst hw''
      have HB2 : Hid (Below w.heap.size w (grow (redrawn w1 dq) osq)) := Lib.hid (hb1.trans ((below_regrown w1 dq osq).mono hb1.size))
      clear k0 k1 hb1 cA cB
      generalize grow (redrawn w1 dq) osq = w2 at HB2 ⊢
      go_wp2_with fail
      refine (NW.out _ HB2.out).mono ?_
      rintro e w3 ⟨rfl, hb3⟩
      have HB3 := Lib.hid (HB2.out.trans (hb3.mono HB2.out.size))
      clear hb3
      go_wp2_with fail
      refine (AW.out _ HB3.out).mono ?_
      rintro e w5 ⟨rfl, hb5⟩
      have HB5 := Lib.hid (HB3.out.trans (hb5.mono HB3.out.size))
      clear hb5
      go_wp2_with fail
      refine (HH.out _ _).mono ?_
      rintro e w' ⟨rfl, rfl⟩
      go_wp2_with fail
      refine (NH.out _ HB5.out).mono ?_
      rintro e w4 ⟨rfl, hb4⟩
      have HB4 := Lib.hid (HB5.out.trans (hb4.mono HB5.out.size))
      clear hb4
      go_wp2_with fail
      refine (AH.out _ HB4.out).mono ?_
      rintro e w6 ⟨rfl, hb6⟩
      have HB6 := Lib.hid (HB4.out.trans (hb6.mono HB4.out.size))
      clear hb6
      go_wp2_with fail
      refine (HH.out _ _).mono ?_
      rintro e w' ⟨rfl, rfl⟩
      go_wp2_with fail
      go_ret2
      exact ⟨rfl, HB6.out⟩

theorem upsIs_any (f : Nat → Int) (len : Nat) (i : Int) : ∃ U, UpsIs f len i U := by
  by_cases h : i < 0 ∨ (len : Int) ≤ i
  · exact ⟨[], Or.inr ⟨h, rfl⟩⟩
  · obtain ⟨k, rfl⟩ := Int.eq_ofNat_of_zero_le (show 0 ≤ i by omega)
    exact ⟨_, Or.inl ⟨k, rfl, by omega, rfl⟩⟩

set_option maxRecDepth 100000 in
theorem few15_any (a : Option Addr) (len cap : Nat) (w : World) : Calls Try.prog 8 #[.slice a len cap] w fun e w' => e = .returned (.bool (decide ((len : Int) ≤ 100))) ∧ w = w' := by
  go_enter Try.func8, Try.ntmps8
  go_wp2_with fail
  go_ret
  exact ⟨rfl, rfl⟩

set_option maxRecDepth 100000 in
set_option maxHeartbeats 4000000 in
theorem HolderBases_walk (a : Option Addr) (len cap : Nat) (f : Nat → Int) (i : Int) (x : Option Addr) (m xc : Nat) (X : Nat → Ext) (vw vh : Int) (w : World) (hm : m ≤ 9223372036854775807) (hP : Pars w a len f) (hX : Exts w x m X) :
    Calls Try.prog 4 #[.slice a len cap, .slice x m xc, .int .i64 i, .agg #[.int .i64 vw, .int .i64 vh]] w fun e w' => e = .returned (.bool true) ∧ Below w.heap.size w w' := by
  obtain ⟨U, hU⟩ := upsIs_any f len i
  have K := Lib.hid (fun W => known15_any W)
  have F := Lib.hid (fun W => few15_any a len cap W)
  have c0 : (w.alloc (.cells #[.int .i64 vw, .int .i64 vh] 33)).cell? ⟨w.heap.size, 0, none⟩ = some (.int .i64 vw) := cell_of (heap_alloc_new w _) rfl
  have c1 : (w.alloc (.cells #[.int .i64 vw, .int .i64 vh] 33)).cell? ⟨w.heap.size, 1, none⟩ = some (.int .i64 vh) := cell_of (heap_alloc_new w _) rfl
  have hb1 := below_one7h w (.cells #[.int .i64 vw, .int .i64 vh] 33)
  have hlt : w.heap.size < (w.alloc (.cells #[.int .i64 vw, .int .i64 vh] 33)).heap.size := by simp
  by_cases hl : (len : Int) ≤ 100
  · rw [decide_eq_true hl] at F
    have C := Lib.hid (fun W hW => Bases_any a len cap f i U hU (by omega) x m xc X vw vh W hm (hP.below hW) (hX.below hW))
    have D := Lib.hid (fun W hW => refBases_any a len cap f i U hU (by omega) x m xc X vw vh W hm (hP.below hW) (hX.below hW))
    generalize H (baseW X m U vw) = z1 at C D
    generalize H (baseH X m U vh) = z2 at C D
    clear hP hX hU hl
    go_enter Try.func4, Try.ntmps4
    go_wp2_with fail
    generalize w.alloc (.cells #[.int .i64 vw, .int .i64 vh] 33) = w1 at *
    have HB := Lib.hid hb1
    refine (F.out _).mono ?_
    rintro e w' ⟨rfl, rfl⟩
    go_wp2_with fail
    refine (C.out _ HB.out).mono ?_
    rintro e w2 ⟨rfl, hb2⟩
    have d0 := (hb2.cell (p := ⟨w.heap.size, 0, none⟩) hlt).trans c0
    have d1 := (hb2.cell (p := ⟨w.heap.size, 1, none⟩) hlt).trans c1
    have HB2 := Lib.hid (HB.out.trans (hb2.mono HB.out.size))
    clear hb2 hb1
    go_wp2_with fail
    refine (D.out _ HB2.out).mono ?_
    rintro e w3 ⟨rfl, hb3⟩
    have HB3 := Lib.hid (HB2.out.trans (hb3.mono HB2.out.size))
    clear hb3
    go_wp2_with fail
    refine (K.out _).mono ?_
    rintro e w4 ⟨rfl, hb4⟩
    have HB4 := Lib.hid (HB3.out.trans (hb4.mono HB3.out.size))
    clear hb4
    go_wp2_with fail
    go_ret
    exact ⟨rfl, HB4.out⟩
  · rw [decide_eq_false hl] at F
    clear hP hX hU hl
    go_enter Try.func4, Try.ntmps4
    go_wp2_with fail
    generalize w.alloc (.cells #[.int .i64 vw, .int .i64 vh] 33) = w1 at *
    have HB := Lib.hid hb1
    refine (F.out _).mono ?_
    rintro e w' ⟨rfl, rfl⟩
    go_wp2_with fail
    refine (K.out _).mono ?_
    rintro e w4 ⟨rfl, hb4⟩
    have HB4 := Lib.hid (HB.out.trans (hb4.mono HB.out.size))
    clear hb4
    go_wp2_with fail
    go_ret
    exact ⟨rfl, HB4.out⟩
end Go.Proofs.Ytaobaahofghkeaa
