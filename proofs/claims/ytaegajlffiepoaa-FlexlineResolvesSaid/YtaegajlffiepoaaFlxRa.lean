/- Joined texts: FlxR3 FlxR4 FlxR5 FlxR6. -/
import Derived.Test.YtaegajlffiepoaaFlxR2
import Derived.Test.YtaegajlffiepoaaFlxQx
namespace Go.Proofs.Ytaegajlffiepoaa
open Go.RowKit FixM ShaD ShaM Go.Sort
set_option linter.unusedVariables false

set_option maxRecDepth 100000 in
set_option maxHeartbeats 1000000 in
theorem refFactor21_any (t : It) (g : Bool) (w : World) : Calls Try.prog 44 #[.agg #[.int .i64 t.b, .int .i64 t.l, .int .i64 t.m, .int .i64 t.g, .int .i64 t.i, .int .i64 t.gr, .int .i64 t.sh], .bool g] w fun e w' => e = .returned (.int .i64 (facI g t)) ∧ Below w.heap.size w w' := by
  obtain ⟨tb, tl, tm, tg, ti, tgr, tsh⟩ := t
  cases g
  · have hz : facI false ⟨tb, tl, tm, tg, ti, tgr, tsh⟩ = tsh := if_neg Bool.false_ne_true
    rw [hz]
    go_enter Try.func44, Try.ntmps44
    go_wp2_with fail
    go_ret
    exact ⟨rfl, below_one21 _ _⟩
  · have hz : facI true ⟨tb, tl, tm, tg, ti, tgr, tsh⟩ = tgr := if_pos rfl
    rw [hz]
    go_enter Try.func44, Try.ntmps44
    go_wp2_with fail
    go_ret
    exact ⟨rfl, below_one21 _ _⟩

set_option maxRecDepth 100000 in
set_option maxHeartbeats 1000000 in
theorem refWeight21_any (t : It) (g : Bool) (w : World) : Calls Try.prog 26 #[.agg #[.int .i64 t.b, .int .i64 t.l, .int .i64 t.m, .int .i64 t.g, .int .i64 t.i, .int .i64 t.gr, .int .i64 t.sh], .bool g] w fun e w' => e = .returned (.int .i64 (wgtI g t)) ∧ Below w.heap.size w w' := by
  have C : ∀ W : World, Calls Try.prog 45 #[.int .i64 t.i, .int .i64 t.sh, .int .i64 1000] W fun e w' => e = .returned (.int .i64 (PT t.i t.sh 1000)) ∧ w' = W := fun W => (refPart_any _ _ _ W).mono fun e w' h => ⟨h.1, h.2.symm⟩
  have CC := Lib.hid C
  clear C
  obtain ⟨tb, tl, tm, tg, ti, tgr, tsh⟩ := t
  have HB := Lib.hid (below_one21 w)
  cases g
  · have hz : wgtI false ⟨tb, tl, tm, tg, ti, tgr, tsh⟩ = PT ti tsh 1000 := if_neg Bool.false_ne_true
    rw [hz]
    obtain ⟨x, hx⟩ : ∃ x, PT ti tsh 1000 = x := ⟨_, rfl⟩
    simp only at CC
    rw [hx] at CC ⊢
    clear hz hx
    go_enter Try.func26, Try.ntmps26
    go_wp2_with (go_at_call 45; refine (CC.out _).mono ?_; rintro e w' ⟨rfl, rfl⟩)
    go_ret
    exact ⟨rfl, HB.out _⟩
  · have hz : wgtI true ⟨tb, tl, tm, tg, ti, tgr, tsh⟩ = tgr := if_pos rfl
    rw [hz]
    go_enter Try.func26, Try.ntmps26
    go_wp2_with fail
    go_ret
    exact ⟨rfl, HB.out _⟩

set_option maxRecDepth 100000 in
set_option maxHeartbeats 1000000 in
theorem refAbs21_any (n : Int) (w : World) (h0 : -4611686018427387904 ≤ n) (h1 : n ≤ 4611686018427387904) : Calls Try.prog 47 #[.int .i64 n] w fun e w' => e = .returned (.int .i64 (absI n)) ∧ w' = w := by
  have hz : absI n = max n (-n) := rfl
  by_cases h : n < 0
  · have : absI n = -n := by omega
    rw [this]
    go_enter Try.func47, Try.ntmps47
    go_wp2_with fail
    go_ret
    exact ⟨ret_intF (by omega), rfl⟩
  · have : absI n = n := by omega
    rw [this]
    go_enter Try.func47, Try.ntmps47
    go_wp2_with fail
    go_ret
    exact ⟨rfl, rfl⟩

set_option maxRecDepth 100000 in
set_option maxHeartbeats 1000000 in
theorem refStiff21_any (t : It) (g : Bool) (w : World) : Calls Try.prog 24 #[.agg #[.int .i64 t.b, .int .i64 t.l, .int .i64 t.m, .int .i64 t.g, .int .i64 t.i, .int .i64 t.gr, .int .i64 t.sh], .bool g] w fun e w' => e = .returned (.bool (stiffI g t)) ∧ Below w.heap.size w w' := by
  have C1 := Lib.hid (fun W => refFactor21_any t g W)
  have C2 := Lib.hid (fun W => refWish21_any t W)
  have hz : stiffI g t = (decide (facI g t = 0) || if g then decide (wsh t < t.b) else decide (t.b < wsh t)) := by
    unfold stiffI pastI
    congr 1
  rw [hz]
  have HB := Lib.hid (below_one21 w)
  obtain ⟨x, hx⟩ : ∃ x, facI g t = x := ⟨_, rfl⟩
  obtain ⟨y, hy⟩ : ∃ y, wsh t = y := ⟨_, rfl⟩
  rw [hx] at C1 ⊢
  rw [hy] at C2 ⊢
  clear hz hx hy
  obtain ⟨tb, tl, tm, tg, ti, tgr, tsh⟩ := t
  simp only at C1 C2 ⊢
  by_cases h : x = 0
  · subst h
    rw [decide_eq_true rfl, Bool.true_or]
    go_enter Try.func24, Try.ntmps24
    go_wp2_with fail
    refine (C1.out _).mono ?_
    rintro e w' ⟨rfl, hb⟩
    have HB2 := Lib.hid ((HB.out _).trans (hb.mono (by simp)))
    clear hb
    go_wp2_with fail
    go_ret
    exact ⟨rfl, HB2.out⟩
  · rw [decide_eq_false h, Bool.false_or]
    cases g
    · go_enter Try.func24, Try.ntmps24
      go_wp2_with fail
      refine (C1.out _).mono ?_
      rintro e w' ⟨rfl, hb⟩
      have HB2 := Lib.hid ((HB.out _).trans (hb.mono (by simp)))
      have c0 : w'.cell? ⟨w.heap.size, 0, none⟩ = some (.int .i64 tb) := (hb.cell (by simp)).trans (by rw [World.cell?_alloc_at _ _ _ _ rfl]; rfl)
      have c1 : w'.cell? ⟨w.heap.size, 1, none⟩ = some (.int .i64 tl) := (hb.cell (by simp)).trans (by rw [World.cell?_alloc_at _ _ _ _ rfl]; rfl)
      have c2 : w'.cell? ⟨w.heap.size, 2, none⟩ = some (.int .i64 tm) := (hb.cell (by simp)).trans (by rw [World.cell?_alloc_at _ _ _ _ rfl]; rfl)
      have c3 : w'.cell? ⟨w.heap.size, 3, none⟩ = some (.int .i64 tg) := (hb.cell (by simp)).trans (by rw [World.cell?_alloc_at _ _ _ _ rfl]; rfl)
      have c4 : w'.cell? ⟨w.heap.size, 4, none⟩ = some (.int .i64 ti) := (hb.cell (by simp)).trans (by rw [World.cell?_alloc_at _ _ _ _ rfl]; rfl)
      have c5 : w'.cell? ⟨w.heap.size, 5, none⟩ = some (.int .i64 tgr) := (hb.cell (by simp)).trans (by rw [World.cell?_alloc_at _ _ _ _ rfl]; rfl)
      have c6 : w'.cell? ⟨w.heap.size, 6, none⟩ = some (.int .i64 tsh) := (hb.cell (by simp)).trans (by rw [World.cell?_alloc_at _ _ _ _ rfl]; rfl)
      have cW := fun (dd : Nat) (os : Array Obj) => Calls.regrown_of (C2.out (grow (redrawn w' dd) os))
      clear hb
      go_upto_region 5 with fail
      have k0 := cell_regrown c0
      have k1 := cell_regrown c1
      have k2 := cell_regrown c2
      have k3 := cell_regrown c3
      have k4 := cell_regrown c4
      have k5 := cell_regrown c5
      have k6 := cell_regrown c6
      clear c0 c1 c2 c3 c4 c5 c6
      refine wp_region_quiet_below (by kernel_rfl) (by kernel_rfl) ?_
      repeat (quiet_step (first | with_reducible exact cW _ _))
      refine wpQuiet_nil ?_
      intro _ hw'
      obtain ⟨⟨dq, osq⟩, hw''⟩ := hw'
      subst hw''
      have hbX := below_regrown w' dq osq
      have HX := Lib.hid (HB2.out.trans (hbX.mono HB2.out.size))
      clear k0 k1 k2 k3 k4 k5 k6 cW hbX
      go_wp2_with fail
      go_ret
      exact ⟨by simp, HX.out⟩
    · go_enter Try.func24, Try.ntmps24
      go_wp2_with fail
      refine (C1.out _).mono ?_
      rintro e w' ⟨rfl, hb⟩
      have HB2 := Lib.hid ((HB.out _).trans (hb.mono (by simp)))
      have c0 : w'.cell? ⟨w.heap.size, 0, none⟩ = some (.int .i64 tb) := (hb.cell (by simp)).trans (by rw [World.cell?_alloc_at _ _ _ _ rfl]; rfl)
      have c1 : w'.cell? ⟨w.heap.size, 1, none⟩ = some (.int .i64 tl) := (hb.cell (by simp)).trans (by rw [World.cell?_alloc_at _ _ _ _ rfl]; rfl)
      have c2 : w'.cell? ⟨w.heap.size, 2, none⟩ = some (.int .i64 tm) := (hb.cell (by simp)).trans (by rw [World.cell?_alloc_at _ _ _ _ rfl]; rfl)
      have c3 : w'.cell? ⟨w.heap.size, 3, none⟩ = some (.int .i64 tg) := (hb.cell (by simp)).trans (by rw [World.cell?_alloc_at _ _ _ _ rfl]; rfl)
      have c4 : w'.cell? ⟨w.heap.size, 4, none⟩ = some (.int .i64 ti) := (hb.cell (by simp)).trans (by rw [World.cell?_alloc_at _ _ _ _ rfl]; rfl)
      have c5 : w'.cell? ⟨w.heap.size, 5, none⟩ = some (.int .i64 tgr) := (hb.cell (by simp)).trans (by rw [World.cell?_alloc_at _ _ _ _ rfl]; rfl)
      have c6 : w'.cell? ⟨w.heap.size, 6, none⟩ = some (.int .i64 tsh) := (hb.cell (by simp)).trans (by rw [World.cell?_alloc_at _ _ _ _ rfl]; rfl)
      have cW := fun (dd : Nat) (os : Array Obj) => Calls.regrown_of (C2.out (grow (redrawn w' dd) os))
      clear hb
      go_upto_region 4 with fail
      have k0 := cell_regrown c0
      have k1 := cell_regrown c1
      have k2 := cell_regrown c2
      have k3 := cell_regrown c3
      have k4 := cell_regrown c4
      have k5 := cell_regrown c5
      have k6 := cell_regrown c6
      clear c0 c1 c2 c3 c4 c5 c6
      refine wp_region_quiet_below (by kernel_rfl) (by kernel_rfl) ?_
      repeat (quiet_step (first | with_reducible exact cW _ _))
      refine wpQuiet_nil ?_
      intro _ hw'
      obtain ⟨⟨dq, osq⟩, hw''⟩ := hw'
      subst hw''
      have hbX := below_regrown w' dq osq
      have HX := Lib.hid (HB2.out.trans (hbX.mono HB2.out.size))
      clear k0 k1 k2 k3 k4 k5 k6 cW hbX
      go_wp2_with fail
      go_ret
      exact ⟨by simp, HX.out⟩
end Go.Proofs.Ytaegajlffiepoaa

namespace Go.Proofs.Ytaegajlffiepoaa
open Go.RowKit FixM ShaD ShaM Go.Sort
set_option linter.unusedVariables false

/-- a row of truths that may be written -/
def Bow (w : World) (b n : Nat) (f : Nat → Bool) : Prop := ∀ i, i < n → w.cell? ⟨b, i, none⟩ = some (.bool (f i)) ∧ w.frozen? ⟨b, i, none⟩ = false
theorem Bow.set {w : World} {b n k : Nat} {f : Nat → Bool} (h : Bow w b n f) (hk : k < n) (v : Bool) : Bow (w.setCell ⟨b, k, none⟩ (.bool v)) b n (fun i => if i = k then v else f i) := by
  intro i hi
  refine ⟨?_, by rw [World.frozen?_setCell]; exact (h i hi).2⟩
  by_cases c : i = k
  · subst c; rw [World.cell?_setCell_same (h := (h i hi).1)]; simp
  · rw [World.cell?_setCell_other (h := by intro e; injection e; omega)]
    simp only [c, if_false]
    exact (h i hi).1
theorem Bow.other {w : World} {b n b' k : Nat} {f : Nat → Bool} (h : Bow w b n f) (hb : b' ≠ b) (v : Value) : Bow (w.setCell ⟨b', k, none⟩ v) b n f := by
  intro i hi
  refine ⟨?_, by rw [World.frozen?_setCell]; exact (h i hi).2⟩
  rw [World.cell?_setCell_other (h := by intro e; injection e; omega)]
  exact (h i hi).1
theorem Bow.ext {w : World} {b n : Nat} {f g : Nat → Bool} (h : Bow w b n f) (e : ∀ i, i < n → f i = g i) : Bow w b n g := fun i hi => by rw [← e i hi]; exact h i hi
theorem Bow.below {w w' : World} {b n B : Nat} {f : Nat → Bool} (h : Bow w b n f) (hb : Below B w w') (hB : b < B) : Bow w' b n f := by
  intro i hi
  rw [hb.cell (p := ⟨b, i, none⟩) hB, hb.frozen (p := ⟨b, i, none⟩) hB]
  exact h i hi
def mkB (w : World) (n : Nat) : World := w.alloc (.cells (madeCells #[.bool false] n) 4)
theorem info_bool21 : (Try.prog.info? 4).map (fun i => (i.zero, i.size, i.bytes)) = some (some (.bool false), 1, 1) := by kernel_rfl
theorem make_bools (n : Nat) (h : n ≤ 1000) (u : World) : (Instr.makeSlice 48 (.int .i64 (n : Int)) (.int .i64 (n : Int))).run Try.prog u = .ok (.slice (some ⟨u.heap.size, 0, none⟩) n n) (mkB u n) := by
  obtain ⟨i0, hi, hz0, hz1, hz2⟩ := info_parts info_bool21
  have h := run_make (P := Try.prog) u 48 4 i0 (.bool false) Try.underlying48 hi hz0 .i64 .i64 (n : Int) (n : Int) (by omega) (Int.le_refl _) (by rw [hz2]; omega) (by omega)
  simpa [hz1, Value.cells, mkB] using h
theorem bow_mkB (w : World) (n : Nat) : Bow (mkB w n) w.heap.size n (fun _ => false) := by
  intro i hi
  unfold mkB
  refine ⟨?_, by simp⟩
  rw [World.cell?_alloc_at _ _ _ _ rfl]
  unfold madeCells
  simp [hi, Nat.mod_one]
theorem below_mkB (w : World) (n : Nat) : Below w.heap.size w (mkB w n) := (Below.refl _ _).alloc (Nat.le_refl _) _

set_option maxRecDepth 100000 in
set_option maxHeartbeats 4000000 in
theorem refFree21_any (a : Option Addr) (n cap bo bf : Nat) (L : Nat → It) (U : Nat → Bool) (out : Nat → Int) (room : Int) (w : World) (hn : n ≤ 62) (hA : ItA w a n L) (hH : ∀ i, HeldI (L i))
    (hO : Row w bo n out) (hF : Bow w bf n (fun i => !U i)) (hob : ∀ i, i < n → -1073741824 ≤ out i ∧ out i ≤ 1073741824) :
    Calls Try.prog 25 #[.slice a n cap, .slice (some ⟨bo, 0, none⟩) n n, .slice (some ⟨bf, 0, none⟩) n n, .int .i64 room] w fun e w' => e = .returned (.int .i64 (freeR L (H room) U out n)) ∧ w' = w := by
  have hsb : ∀ k, k ≤ n → -137438953472 ≤ freeR L (H room) U out k ∧ freeR L (H room) U out k ≤ 137438953472 := fun k hk => by
    have := fsum_bd (f := fun i => (L i).g + (if U i = true then (L i).b else out i)) (c := 2147483648) (by omega) k (fun i hi => by
      have h := hH i; have := h.g0; have := h.g1; have := h.b0; have := h.b1; have := hob i (by omega)
      split <;> omega)
    have := H_bd room
    unfold freeR
    omega
  have HSB := Lib.hid hsb
  have HHH := Lib.hid hH
  have HA := Lib.hid hA
  have HO := Lib.hid hO
  have HF := Lib.hid hF
  have HOB := Lib.hid hob
  have RH := Lib.hid (refHold_any room)
  have hst : ∀ F : Int, freeR L F U out 0 = F := fun F => by unfold freeR; simp [fsum]
  have hnx0 : ∀ (F : Int) k, freeR L F U out (k + 1) = freeR L F U out k - (L k).g - (if U k = true then (L k).b else out k) := fun F k => by unfold freeR; simp only [fsum]; omega
  obtain ⟨F, hFF⟩ : ∃ F, H room = F := ⟨_, rfl⟩
  rw [hFF] at RH HSB ⊢
  have h0 := hst F
  have NX := Lib.hid (hnx0 F)
  have hF0 := HSB.out 0 (by omega)
  rw [h0] at hF0
  have HS0 := Lib.hid h0
  clear hsb hH hA hO hF hob hst hnx0 hFF h0
  go_enter Try.func25, Try.ntmps25
  go_wp2_with fail
  refine (RH.out _).mono ?_
  rintro e w2 ⟨rfl, rfl⟩
  go_wp2_with fail
  go_loopw [9, 10] (fun vs vi wr => ∃ k : Nat, vi = .int .i64 k ∧ k ≤ n ∧ vs = .int .i64 (freeR L F U out k) ∧ Hid (wr = w)) (fun _ vi _ => n - (intOf vi).toNat)
  case atStart => exact ⟨0, rfl, by omega, by rw [HS0.out], rfl⟩
  case round =>
    obtain ⟨k, rfl, hk, rfl, HB⟩ := hrel
    have hwr := HB.out
    subst hwr
    have hs := HSB.out k hk
    by_cases hlt : k < n
    · have hnx := NX.out k
      have hs2 := HSB.out (k + 1) (by omega)
      have hltz : (k : Int) < (n : Int) := by omega
      rcases HA.out with h0 | ⟨b, off, ha, hbl, hI2⟩
      · omega
      · subst ha
        obtain ⟨q0, q1, q2, q3, q4, q5, q6⟩ := hI2 k hlt
        have ho := (HO.out k hlt).1
        have hf := (HF.out k hlt).1
        have hh := HHH.out k
        have hg0 := hh.g0; have hg1 := hh.g1; have hb0 := hh.b0; have hb1 := hh.b1
        have hob := HOB.out k hlt
        clear hI2 hh
        cases hu : U k
        · rw [hu] at hnx
          simp only [hu, Bool.not_false] at hf
          rw [if_neg (by decide)] at hnx
          obtain ⟨sk, hsk⟩ : ∃ x, freeR L F U out k = x := ⟨_, rfl⟩
          rw [hsk] at hs hnx ⊢
          obtain ⟨ok, hok⟩ : ∃ x, out k = x := ⟨_, rfl⟩
          rw [hok] at ho hob hnx
          have NK := Lib.hid hnx
          have s0 := hs.1; have s1 := hs.2; have o0 := hob.1; have o1 := hob.2
          clear hs2 hnx hsk hs hob hok hu
          go_wp2_with fail
          go_roundw
          case rel =>
            refine ⟨k + 1, by go_num, by omega, ?_, by first | exact trivial | exact rfl⟩
            rw [NK.out]
          case measure => simp [intOf] <;> omega
        · rw [hu] at hnx
          simp only [hu, Bool.not_true] at hf
          rw [if_pos rfl] at hnx
          obtain ⟨sk, hsk⟩ : ∃ x, freeR L F U out k = x := ⟨_, rfl⟩
          rw [hsk] at hs hnx ⊢
          have NK := Lib.hid hnx
          have s0 := hs.1; have s1 := hs.2
          clear hs2 hnx hsk hs hob hu
          go_wp2_with fail
          go_roundw
          case rel =>
            refine ⟨k + 1, by go_num, by omega, ?_, by first | exact trivial | exact rfl⟩
            rw [NK.out]
          case measure => simp [intOf] <;> omega
    · have hkn : n = k := by omega
      subst hkn
      go_wp2_with fail
      go_ret
      exact ⟨rfl, rfl⟩
end Go.Proofs.Ytaegajlffiepoaa

namespace Go.Proofs.Ytaegajlffiepoaa
open Go.RowKit FixM ShaD ShaM Go.Sort
set_option linter.unusedVariables false

def dealV (first now fac : Int) : Int := if fac < 1000 then (if absI (PT first fac 1000) < absI now then PT first fac 1000 else now) else now
theorem H_dealV (first now fac : Int) : H (dealV first now fac) = dealtF first now fac := by
  have e : PT (H first) fac 1000 = PT first fac 1000 := by unfold PT; rw [H_H]
  unfold dealV dealtF
  rw [e]
  split
  · split <;> rfl
  · rfl

set_option maxRecDepth 100000 in
set_option maxHeartbeats 4000000 in
theorem refDealt21_any (a : Option Addr) (n cap bf : Nat) (g : Bool) (L : Nat → It) (U : Nat → Bool) (first now : Int) (w : World) (hn : n ≤ 62) (hA : ItA w a n L) (hH : ∀ i, HeldI (L i))
    (hF : Bow w bf n (fun i => !U i)) (hbf : bf < w.heap.size) (h0 : -4611686018427387904 ≤ now) (h1 : now ≤ 4611686018427387904) :
    Calls Try.prog 28 #[.slice a n cap, .slice (some ⟨bf, 0, none⟩) n n, .bool g, .int .i64 first, .int .i64 now] w fun e w' => e = .returned (.int .i64 (dealV first now (facR g L U n))) ∧ Below w.heap.size w w' := by
  have hsb : ∀ k, k ≤ n → 0 ≤ facR g L U k ∧ facR g L U k ≤ 137438953472 := fun k hk => by
    have h2 : ∀ k, 0 ≤ facR g L U k ∧ facR g L U k ≤ 1073741824 * (k : Int) := fun k => by
      induction k with
      | zero => simp [facR, fsum]
      | succ k ih =>
        have h := (hH k).fac g
        unfold facR at ih ⊢
        simp only [fsum]
        split <;> omega
    have := h2 k
    omega
  have HSB := Lib.hid hsb
  have HA := Lib.hid hA
  have HF := Lib.hid hF
  have HFB := Lib.hid (fun i => (hH i).fac g)
  have CP := fun fac => Lib.hid (fun W => (refPart_any first fac 1000 W).mono fun e w' (h : e = .returned (.int .i64 (PT first fac 1000)) ∧ W = w') => (⟨h.1, h.2.symm⟩ : e = .returned (.int .i64 (PT first fac 1000)) ∧ w' = W))
  have CA1 := fun fac => Lib.hid (fun W => refAbs21_any (PT first fac 1000) W (by have := PT_bd22f first fac 1000; omega) (by have := PT_bd22f first fac 1000; omega))
  have CA2 := Lib.hid (fun W => refAbs21_any now W h0 h1)
  have hst : facR g L U 0 = 0 := by unfold facR; simp [fsum]
  have hnx0 : ∀ k, facR g L U (k + 1) = facR g L U k + (if U k = true then facI g (L k) else 0) := fun k => by unfold facR; simp only [fsum]
  have HS0 := Lib.hid hst
  have NX := Lib.hid hnx0
  clear hsb hA hF hH hst hnx0
  go_enter Try.func28, Try.ntmps28
  go_wp2_with fail
  go_loopw [11, 12] (fun vs vi wr => ∃ k : Nat, vi = .int .i64 k ∧ k ≤ n ∧ vs = .int .i64 (facR g L U k) ∧ Hid (Below w.heap.size w wr)) (fun _ vi _ => n - (intOf vi).toNat)
  case atStart => exact ⟨0, rfl, by omega, by rw [HS0.out], Below.refl _ _⟩
  case round =>
    obtain ⟨k, rfl, hk, rfl, HB⟩ := hrel
    have hs := HSB.out k hk
    by_cases hlt : k < n
    · have hnx := NX.out k
      have hltz : (k : Int) < (n : Int) := by omega
      have hf := (HF.out.below HB.out hbf k hlt).1
      cases hu : U k
      · rw [hu, if_neg (by decide)] at hnx
        simp only [hu, Bool.not_false] at hf
        have NK := Lib.hid hnx
        obtain ⟨sk, hsk⟩ : ∃ x, facR g L U k = x := ⟨_, rfl⟩
        rw [hsk] at hs NK ⊢
        clear hnx hsk hu hs
        go_wp2_with fail
        go_roundw
        case rel => exact ⟨k + 1, by go_num, by omega, by rw [NK.out]; simp, HB⟩
        case measure => (simp [intOf] <;> omega)
      · rw [hu, if_pos rfl] at hnx
        simp only [hu, Bool.not_true] at hf
        rcases HA.out.below HB.out with h0 | ⟨b, off, ha, hbl, hI2⟩
        · omega
        · subst ha
          have S7 := hI2 k hlt
          have hfb := HFB.out k
          have C := fun W => refFactor21_any (L k) g W
          obtain ⟨t, ht⟩ : ∃ t, L k = t := ⟨_, rfl⟩
          rw [ht] at S7 hnx C hfb
          obtain ⟨q0, q1, q2, q3, q4, q5, q6⟩ := S7
          obtain ⟨x, hx⟩ : ∃ x, facI g t = x := ⟨_, rfl⟩
          rw [hx] at hnx C hfb
          have NK := Lib.hid hnx
          have CC := Lib.hid C
          obtain ⟨sk, hsk⟩ : ∃ x, facR g L U k = x := ⟨_, rfl⟩
          rw [hsk] at hs NK ⊢
          have s0 := hs.1; have s1 := hs.2; have x0 := hfb.1; have x1 := hfb.2
          clear hnx hsk hu C hI2 ht hx hfb hs
          go_wp2_with fail
          refine (CC.out _).mono ?_
          rintro e w2 ⟨rfl, hb2⟩
          have HB2 := Lib.hid (HB.out.trans (hb2.mono HB.out.size))
          clear hb2
          go_wp2_with fail
          go_roundw
          case rel => exact ⟨k + 1, by go_num, by omega, by rw [NK.out], HB2⟩
          case measure => (simp [intOf] <;> omega)
    · have hkn : n = k := by omega
      subst hkn
      obtain ⟨fac, hfac⟩ : ∃ x, facR g L U n = x := ⟨_, rfl⟩
      rw [hfac]
      have HFAC := Lib.hid hfac
      have C1 := CP fac
      have C2 := CA1 fac
      have hz : dealV first now fac = if fac < 1000 then (if absI (PT first fac 1000) < absI now then PT first fac 1000 else now) else now := rfl
      obtain ⟨y, hy⟩ : ∃ y, PT first fac 1000 = y := ⟨_, rfl⟩
      rw [hy] at C1 C2 hz
      obtain ⟨p, hp⟩ : ∃ p, absI y = p := ⟨_, rfl⟩
      obtain ⟨q, hq⟩ : ∃ q, absI now = q := ⟨_, rfl⟩
      rw [hp] at C2 hz
      rw [hq] at CA2 hz
      clear CP CA1 hs hfac hy hp hq
      by_cases c : fac < 1000
      · rw [if_pos c] at hz
        by_cases d : p < q
        · rw [if_pos d] at hz
          have HZ := Lib.hid hz
          clear hz
          go_wp2_with fail
          refine (C1.out _).mono ?_
          rintro e w2 ⟨rfl, rfl⟩
          go_wp2_with fail
          refine (C2.out _).mono ?_
          rintro e w2 ⟨rfl, rfl⟩
          go_wp2_with fail
          refine (CA2.out _).mono ?_
          rintro e w2 ⟨rfl, rfl⟩
          go_wp2_with fail
          go_ret
          exact ⟨by rw [HFAC.out, HZ.out]; rfl, HB.out⟩
        · rw [if_neg d] at hz
          have HZ := Lib.hid hz
          clear hz
          go_wp2_with fail
          refine (C1.out _).mono ?_
          rintro e w2 ⟨rfl, rfl⟩
          go_wp2_with fail
          refine (C2.out _).mono ?_
          rintro e w2 ⟨rfl, rfl⟩
          go_wp2_with fail
          refine (CA2.out _).mono ?_
          rintro e w2 ⟨rfl, rfl⟩
          go_wp2_with fail
          go_ret
          exact ⟨by rw [HFAC.out, HZ.out]; rfl, HB.out⟩
      · rw [if_neg c] at hz
        have HZ := Lib.hid hz
        clear hz
        go_wp2_with fail
        go_ret
        exact ⟨by rw [HFAC.out, HZ.out]; rfl, HB.out⟩
end Go.Proofs.Ytaegajlffiepoaa

namespace Go.Proofs.Ytaegajlffiepoaa
open Go.RowKit FixM ShaD ShaM Go.Sort
set_option linter.unusedVariables false

theorem loose_len_succ (U : Nat → Bool) (k : Nat) : ((looseU U (k + 1)).length : Int) = ((looseU U k).length : Int) + if U k = true then 1 else 0 := by
  rw [looseU_succ]
  split <;> simp
theorem loose_len_le (U : Nat → Bool) (k : Nat) : (looseU U k).length ≤ k := by
  unfold looseU
  have := List.length_filter_le U (List.range k)
  simpa using this
/-- the rounds from here on -/
structure Rest (n : Nat) (g : Bool) (L : Nat → It) (room first : Int) (fin : Nat → Int) (N r : Nat) (U : Nat → Bool) (out : Nat → Int) : Prop where
  ex : ∃ s, RelF n L room U out s ∧ (runF g L first (n - r) s).1.len = fin ∧ (runF g L first (n - r) s).2 + r = N
  le : (looseU U n).length + r ≤ n
  bd : ∀ i, i < n → 0 ≤ out i ∧ out i ≤ 1073741824
theorem Rest.start {n : Nat} {g : Bool} {L : Nat → It} {room : Int} (hL : ∀ i, HeldI (L i)) (hg : growsF L room n = g) :
    Rest n g L room (freeR L room (openU g L) (openO g L) n) (resolveF L room n).1.len (resolveF L room n).2 0 (openU g L) (openO g L) := by
  have h := start_same g L room n
  refine ⟨⟨_, h, ?_, ?_⟩, loose_len_le _ _, fun i _ => ?_⟩
  · rw [← h.fr]; unfold resolveF; simp only [hg]; rfl
  · rw [← h.fr]; unfold resolveF; simp only [hg]; rfl
  · have := (hL i).wsh
    unfold openO; split <;> omega
theorem Rest.done {n : Nat} {g : Bool} {L : Nat → It} {room first : Int} {fin : Nat → Int} {N r : Nat} {U : Nat → Bool} {out : Nat → Int} (h : Rest n g L room first fin N r U out) (h0 : (looseU U n).length = 0) :
    N = r ∧ ∀ i, i < n → out i = fin i := by
  obtain ⟨s, hs, h1, h2⟩ := h.ex
  have e : s.loose = [] := by rw [hs.lo]; exact List.eq_nil_of_length_eq_zero h0
  have er : runF g L first (n - r) s = (s, 0) := by
    cases n - r with
    | zero => rfl
    | succ f => simp only [runF]; rw [if_pos e]
  rw [er] at h1 h2
  exact ⟨by simpa using h2.symm, fun i hi => by rw [← hs.le i hi, ← h1]⟩
theorem Rest.next {n : Nat} {g : Bool} {L : Nat → It} {room first : Int} {fin : Nat → Int} {N r : Nat} {U : Nat → Bool} {out : Nat → Int} (hL : ∀ i, HeldI (L i)) (h : Rest n g L room first fin N r U out) (h0 : 0 < (looseU U n).length) :
    Rest n g L room first fin N (r + 1) (nextU L U (shR g L room first U out n) n) (nextO L U (shR g L room first U out n) out n) := by
  obtain ⟨s, hs, h1, h2⟩ := h.ex
  have hne : s.loose ≠ [] := by rw [hs.lo]; intro e; rw [e] at h0; simp at h0
  have hle := h.le
  obtain ⟨f, hf⟩ : ∃ f, n - r = f + 1 := ⟨n - r - 1, by omega⟩
  have hf2 : n - (r + 1) = f := by omega
  rw [hf] at h1 h2
  simp only [runF] at h1 h2
  rw [if_neg hne] at h1 h2
  have hr := round_same g first hL hs
  have hlt := roundF_lt g L first s hne
  refine ⟨⟨_, hr, ?_, ?_⟩, ?_, fun i hi => ?_⟩
  · rw [hf2]; exact h1
  · rw [hf2]; simp only at h2; omega
  · rw [← hr.lo]; rw [hs.lo] at hlt; omega
  · unfold nextO
    split
    · have hb := H_bd ((L i).b + shR g L room first U out n i)
      exact (hL i).cl hb.1 hb.2
    · exact h.bd i hi
theorem brR_bd {n : Nat} {L : Nat → It} (hL : ∀ i, HeldI (L i)) (U : Nat → Bool) (sh : Nat → Int) (i : Nat) : -1073741824 ≤ brR L U sh i ∧ brR L U sh i ≤ 2147483648 := by
  unfold brR lenR
  have hb := H_bd ((L i).b + sh i)
  have := (hL i).cl hb.1 hb.2
  split <;> omega
end Go.Proofs.Ytaegajlffiepoaa
