/- Layer 7: weights held against each other. -/
import Derived.Test.YtfbfndknhabmhaaGreatSelKa
import Derived.Deep.QuietTactic
import Derived.BigQuiet
namespace Go.Proofs.YtfbfndknhabmhaaGreat
open Go.RowKit TreN LexP FixP SynP ValP SelP FixM
set_option linter.unusedVariables false

def c1 (x y : Int) : Int := if x < y then -1 else if y < x then 1 else 0
def cmpT (a b : Int × Int × Int) : Int := if a.1 ≠ b.1 then c1 a.1 b.1 else if a.2.1 ≠ b.2.1 then c1 a.2.1 b.2.1 else c1 a.2.2 b.2.2
theorem c1_neg (x y : Int) : c1 y x = -c1 x y := by
  unfold c1
  repeat' split
  all_goals omega
theorem cmpT_neg (a b : Int × Int × Int) : cmpT b a = -cmpT a b := by
  unfold cmpT c1
  repeat' split
  all_goals omega
theorem c1_bd (x y : Int) : -1 ≤ c1 x y ∧ c1 x y ≤ 1 := by unfold c1; split; omega; split <;> omega
theorem cmpT_bd (a b : Int × Int × Int) : -1 ≤ cmpT a b ∧ cmpT a b ≤ 1 := by unfold cmpT; split; exact c1_bd _ _; split <;> exact c1_bd _ _
theorem arr_any7 (a b c a' b' c' : Int) (W : World) : (Op.equalIn 10000 25 (.agg #[.int .i64 a, .int .i64 b, .int .i64 c]) (.agg #[.int .i64 a', .int .i64 b', .int .i64 c'])).run Tryz.prog W = .ok (decide (a = a' ∧ b = b' ∧ c = c')) W := by
  obtain ⟨i, hi⟩ : ∃ i, Tryz.prog.info? 3 = some i := Option.isSome_iff_exists.1 (by kernel_rfl)
  have hc : Tryz.prog.cellsOf 3 = 1 := by kernel_rfl
  have p0 : ∀ (a b c : Int) (w : World), (part 3 #[.int .i64 a, .int .i64 b, .int .i64 c] 0).run Tryz.prog w = .ok (.int .i64 a) w := fun _ _ _ w => by kernel_rfl
  have p1 : ∀ (a b c : Int) (w : World), (part 3 #[.int .i64 a, .int .i64 b, .int .i64 c] 1).run Tryz.prog w = .ok (.int .i64 b) w := fun _ _ _ w => by kernel_rfl
  have p2 : ∀ (a b c : Int) (w : World), (part 3 #[.int .i64 a, .int .i64 b, .int .i64 c] 2).run Tryz.prog w = .ok (.int .i64 c) w := fun _ _ _ w => by kernel_rfl
  rw [run_equalIn_array W 9999 (e := 3) (n := 3) _ _ Tryz.underlying25 hi, hc]
  have hr : List.range 3 = [0, 1, 2] := rfl
  rw [hr]
  have q := fun (x y : Int) (w : World) => run_equalIn_int w 9998 3 .i64 .i64 x y Tryz.underlying3
  simp only [Op.eqItems, Sem.run_ite, Sem.run_bind, Nat.mul_one, p0, p1, p2, Result.andThen_ok, q, Sem.run_pure]
  by_cases h1 : a = a' <;> by_cases h2 : b = b' <;> by_cases h3 : c = c' <;> simp [h1, h2, h3]
set_option maxRecDepth 100000 in
theorem cmpI_any (x y : Int) (w : World) : Calls Tryz.prog 21 #[.int .i64 x, .int .i64 y] w fun e w' => e = .returned (.int .i64 (c1 x y)) ∧ w = w' := by
  have N : ∀ (z : Int) (W : World), Calls Tryz.prog 41 #[.int .i64 z] W fun e w' => e = .returned (.bool false) ∧ W = w' := by
    intro z W
    go_enter Tryz.func41, Tryz.ntmps41
    go_wp2_with fail
    go_ret
    exact ⟨ret_bool (by simp), rfl⟩
  have NN := Lib.hid N
  clear N
  unfold c1
  by_cases h1 : x < y
  · rw [if_pos h1]
    go_enter Tryz.func21, Tryz.ntmps21
    go_wp2_with (go_at_call 41; refine (NN.out _ _).mono ?_; rintro e w' ⟨rfl, rfl⟩)
    go_ret
    exact ⟨rfl, rfl⟩
  · rw [if_neg h1]
    by_cases h2 : y < x
    · rw [if_pos h2]
      go_enter Tryz.func21, Tryz.ntmps21
      go_wp2_with (go_at_call 41; refine (NN.out _ _).mono ?_; rintro e w' ⟨rfl, rfl⟩)
      go_ret
      exact ⟨rfl, rfl⟩
    · rw [if_neg h2]
      go_enter Tryz.func21, Tryz.ntmps21
      go_wp2_with (go_at_call 41; refine (NN.out _ _).mono ?_; rintro e w' ⟨rfl, rfl⟩)
      go_ret
      exact ⟨rfl, rfl⟩

theorem below_drewE7 {B : Nat} {a w : World} (h : Below B a w) (q : Nat) : Below B a (w.drewN q) := ⟨h.os, h.tape, h.output, h.size, h.block⟩
def CmpAt (wb : World) (A B : Nat) (a b c a' b' c' : Int) : Prop := SumAt wb A a b c ∧ SumAt wb B a' b' c'
theorem cmp_boxes (w : World) (a b c a' b' c' : Int) : SumAt ((w.alloc (.cells #[.int .i64 a, .int .i64 b, .int .i64 c] 25)).alloc (.cells #[.int .i64 a', .int .i64 b', .int .i64 c'] 25)) w.heap.size a b c ∧ SumAt ((w.alloc (.cells #[.int .i64 a, .int .i64 b, .int .i64 c] 25)).alloc (.cells #[.int .i64 a', .int .i64 b', .int .i64 c'] 25)) (w.heap.size + 1) a' b' c' ∧ Below w.heap.size w ((w.alloc (.cells #[.int .i64 a, .int .i64 b, .int .i64 c] 25)).alloc (.cells #[.int .i64 a', .int .i64 b', .int .i64 c'] 25)) := by
  refine ⟨((below_one7 _ _).block w.heap.size (by simp)).trans (heap_alloc_new w _), ?_, (below_one7 w _).alloc (by simp) _⟩
  have := heap_alloc_new (w.alloc (.cells #[.int .i64 a, .int .i64 b, .int .i64 c] 25)) (.cells #[.int .i64 a', .int .i64 b', .int .i64 c'] 25)
  rwa [show (w.alloc (.cells #[.int .i64 a, .int .i64 b, .int .i64 c] 25)).heap.size = w.heap.size + 1 by simp] at this
set_option maxRecDepth 100000 in
set_option maxHeartbeats 2000000 in
theorem Compare7_any (a b c a' b' c' : Int) (w : World) : Calls Tryz.prog 9 #[.agg #[.int .i64 a, .int .i64 b, .int .i64 c], .agg #[.int .i64 a', .int .i64 b', .int .i64 c']] w fun e w' => e = .returned (.int .i64 (cmpT (a, b, c) (a', b', c'))) ∧ Below w.heap.size w w' := by
  obtain ⟨hA, hB, hbel⟩ := cmp_boxes w a b c a' b' c'
  obtain ⟨wb, hwb⟩ : ∃ wb, (w.alloc (.cells #[.int .i64 a, .int .i64 b, .int .i64 c] 25)).alloc (.cells #[.int .i64 a', .int .i64 b', .int .i64 c'] 25) = wb := ⟨_, rfl⟩
  rw [hwb] at hA hB hbel
  have HA := Lib.hid hA
  have HB := Lib.hid hB
  have HBEL := Lib.hid hbel
  have aeq := fun W => arr_any7 a b c a' b' c' W
  clear hA hB hbel
  have d0 : wb.cell? ⟨w.heap.size, 0, none⟩ = some (.int .i64 a) := cell_of HA.out rfl
  have d1 : wb.cell? ⟨w.heap.size, 1, none⟩ = some (.int .i64 b) := cell_of HA.out rfl
  have d2 : wb.cell? ⟨w.heap.size, 2, none⟩ = some (.int .i64 c) := cell_of HA.out rfl
  have f0 : wb.cell? ⟨w.heap.size + 1, 0, none⟩ = some (.int .i64 a') := cell_of HB.out rfl
  have f1 : wb.cell? ⟨w.heap.size + 1, 1, none⟩ = some (.int .i64 b') := cell_of HB.out rfl
  have f2 : wb.cell? ⟨w.heap.size + 1, 2, none⟩ = some (.int .i64 c') := cell_of HB.out rfl
  by_cases hall : a = a' ∧ b = b' ∧ c = c'
  · obtain ⟨rfl, rfl, rfl⟩ := hall
    rw [show decide (a = a ∧ b = b ∧ c = c) = true from by simp] at aeq
    have e : cmpT (a, b, c) (a, b, c) = 0 := by unfold cmpT c1; simp
    rw [e]
    clear e
    go_enter Tryz.func9, Tryz.ntmps9
    go_wp2_with fail
    go_ret
    exact ⟨rfl, HBEL.out⟩
  · rw [decide_eq_false hall] at aeq
    by_cases hk : a = a'
    · subst hk
      by_cases hk : b = b'
      · subst hk
        have hk : c ≠ c' := fun e => hall ⟨rfl, rfl, e⟩
        have e : cmpT (a, b, c) (a, b, c') = c1 c c' := by unfold cmpT; simp
        rw [e]
        have C := Lib.hid (fun W => cmpI_any c c' W)
        have hkz : (c == c') = false := by rw [beq_eq_false_iff_ne]; exact hk
        clear e hk hall
        go_enter Tryz.func9, Tryz.ntmps9
        go_wp2_with fail
        clear hwb d0 d1 d2 f0 f1 f2 aeq
        go_loopw [5] (fun i wr => ∃ (k q : Nat), i = .int .i64 (k : Int) ∧ k ≤ 2 ∧ wr = wb.drewN q) (fun i _ => 2 - (intOf i).toNat)
        case atStart => exact ⟨0, 0, rfl, by omega, rfl⟩
        case round =>
          obtain ⟨k, q, rfl, hk, rfl⟩ := hrel
          have HA2 : Hid (SumAt (wb.drewN q) w.heap.size a b c) := HA
          have HB2 : Hid (SumAt (wb.drewN q) (w.heap.size + 1) a b c') := HB
          have HBL := Lib.hid (below_drewE7 HBEL.out q)
          generalize hwq : wb.drewN q = wq at *
          have HW := Lib.hid hwq
          clear hwq
          have d0 : wq.cell? ⟨w.heap.size, 0, none⟩ = some (.int .i64 a) := cell_of HA2.out rfl
          have f0 : wq.cell? ⟨w.heap.size + 1, 0, none⟩ = some (.int .i64 a) := cell_of HB2.out rfl
          have d1 : wq.cell? ⟨w.heap.size, 1, none⟩ = some (.int .i64 b) := cell_of HA2.out rfl
          have f1 : wq.cell? ⟨w.heap.size + 1, 1, none⟩ = some (.int .i64 b) := cell_of HB2.out rfl
          have d2 : wq.cell? ⟨w.heap.size, 2, none⟩ = some (.int .i64 c) := cell_of HA2.out rfl
          have f2 : wq.cell? ⟨w.heap.size + 1, 2, none⟩ = some (.int .i64 c') := cell_of HB2.out rfl
          obtain rfl | rfl | rfl := (by omega : k = 0 ∨ k = 1 ∨ k = 2)
          · have hjz : (a == a) = true := by simp
            go_wp2_with fail
            go_quiet (fail)
            go_wp2_with fail
            go_roundw
            case rel => exact ⟨1, q + nq, rfl, by omega, by rw [← HW.out, World.drewN_drewN]⟩
            case measure => simp [intOf]
          · have hjz : (b == b) = true := by simp
            go_wp2_with fail
            go_quiet (fail)
            go_wp2_with fail
            go_roundw
            case rel => exact ⟨2, q + nq, rfl, by omega, by rw [← HW.out, World.drewN_drewN]⟩
            case measure => simp [intOf]
          · go_wp2_with fail
            go_quiet (fail)
            go_wp2_with fail
            have HA3 : Hid (SumAt (wq.drewN nq) w.heap.size a b c) := HA2
            have HB3 : Hid (SumAt (wq.drewN nq) (w.heap.size + 1) a b c') := HB2
            have HBL3 := Lib.hid (below_drewE7 HBL.out nq)
            generalize wq.drewN nq = w3 at *
            have d0' : w3.cell? ⟨w.heap.size, 0, none⟩ = some (.int .i64 a) := cell_of HA3.out rfl
            have f0' : w3.cell? ⟨w.heap.size + 1, 0, none⟩ = some (.int .i64 a) := cell_of HB3.out rfl
            have d1' : w3.cell? ⟨w.heap.size, 1, none⟩ = some (.int .i64 b) := cell_of HA3.out rfl
            have f1' : w3.cell? ⟨w.heap.size + 1, 1, none⟩ = some (.int .i64 b) := cell_of HB3.out rfl
            have d2' : w3.cell? ⟨w.heap.size, 2, none⟩ = some (.int .i64 c) := cell_of HA3.out rfl
            have f2' : w3.cell? ⟨w.heap.size + 1, 2, none⟩ = some (.int .i64 c') := cell_of HB3.out rfl
            go_quiet ((go_at_call 21; exact Calls.quiet_of_same ((C.out _).mono fun e w' h => ⟨h.1, h.2.symm⟩)))
            go_wp2_with fail
            go_ret
            exact ⟨rfl, below_drewE7 HBL3.out _⟩
      · have e : cmpT (a, b, c) (a, b', c') = c1 b b' := by unfold cmpT; simp [hk]
        rw [e]
        have C := Lib.hid (fun W => cmpI_any b b' W)
        have hkz : (b == b') = false := by rw [beq_eq_false_iff_ne]; exact hk
        clear e hk hall
        go_enter Tryz.func9, Tryz.ntmps9
        go_wp2_with fail
        clear hwb d0 d1 d2 f0 f1 f2 aeq
        go_loopw [5] (fun i wr => ∃ (k q : Nat), i = .int .i64 (k : Int) ∧ k ≤ 1 ∧ wr = wb.drewN q) (fun i _ => 1 - (intOf i).toNat)
        case atStart => exact ⟨0, 0, rfl, by omega, rfl⟩
        case round =>
          obtain ⟨k, q, rfl, hk, rfl⟩ := hrel
          have HA2 : Hid (SumAt (wb.drewN q) w.heap.size a b c) := HA
          have HB2 : Hid (SumAt (wb.drewN q) (w.heap.size + 1) a b' c') := HB
          have HBL := Lib.hid (below_drewE7 HBEL.out q)
          generalize hwq : wb.drewN q = wq at *
          have HW := Lib.hid hwq
          clear hwq
          have d0 : wq.cell? ⟨w.heap.size, 0, none⟩ = some (.int .i64 a) := cell_of HA2.out rfl
          have f0 : wq.cell? ⟨w.heap.size + 1, 0, none⟩ = some (.int .i64 a) := cell_of HB2.out rfl
          have d1 : wq.cell? ⟨w.heap.size, 1, none⟩ = some (.int .i64 b) := cell_of HA2.out rfl
          have f1 : wq.cell? ⟨w.heap.size + 1, 1, none⟩ = some (.int .i64 b') := cell_of HB2.out rfl
          have d2 : wq.cell? ⟨w.heap.size, 2, none⟩ = some (.int .i64 c) := cell_of HA2.out rfl
          have f2 : wq.cell? ⟨w.heap.size + 1, 2, none⟩ = some (.int .i64 c') := cell_of HB2.out rfl
          obtain rfl | rfl := (by omega : k = 0 ∨ k = 1)
          · have hjz : (a == a) = true := by simp
            go_wp2_with fail
            go_quiet (fail)
            go_wp2_with fail
            go_roundw
            case rel => exact ⟨1, q + nq, rfl, by omega, by rw [← HW.out, World.drewN_drewN]⟩
            case measure => simp [intOf]
          · go_wp2_with fail
            go_quiet (fail)
            go_wp2_with fail
            have HA3 : Hid (SumAt (wq.drewN nq) w.heap.size a b c) := HA2
            have HB3 : Hid (SumAt (wq.drewN nq) (w.heap.size + 1) a b' c') := HB2
            have HBL3 := Lib.hid (below_drewE7 HBL.out nq)
            generalize wq.drewN nq = w3 at *
            have d0' : w3.cell? ⟨w.heap.size, 0, none⟩ = some (.int .i64 a) := cell_of HA3.out rfl
            have f0' : w3.cell? ⟨w.heap.size + 1, 0, none⟩ = some (.int .i64 a) := cell_of HB3.out rfl
            have d1' : w3.cell? ⟨w.heap.size, 1, none⟩ = some (.int .i64 b) := cell_of HA3.out rfl
            have f1' : w3.cell? ⟨w.heap.size + 1, 1, none⟩ = some (.int .i64 b') := cell_of HB3.out rfl
            have d2' : w3.cell? ⟨w.heap.size, 2, none⟩ = some (.int .i64 c) := cell_of HA3.out rfl
            have f2' : w3.cell? ⟨w.heap.size + 1, 2, none⟩ = some (.int .i64 c') := cell_of HB3.out rfl
            go_quiet ((go_at_call 21; exact Calls.quiet_of_same ((C.out _).mono fun e w' h => ⟨h.1, h.2.symm⟩)))
            go_wp2_with fail
            go_ret
            exact ⟨rfl, below_drewE7 HBL3.out _⟩
    · have e : cmpT (a, b, c) (a', b', c') = c1 a a' := by unfold cmpT; simp [hk]
      rw [e]
      have C := Lib.hid (fun W => cmpI_any a a' W)
      have hkz : (a == a') = false := by rw [beq_eq_false_iff_ne]; exact hk
      clear e hk hall
      go_enter Tryz.func9, Tryz.ntmps9
      go_wp2_with fail
      clear hwb d0 d1 d2 f0 f1 f2 aeq
      go_loopw [5] (fun i wr => ∃ (k q : Nat), i = .int .i64 (k : Int) ∧ k ≤ 0 ∧ wr = wb.drewN q) (fun i _ => 0 - (intOf i).toNat)
      case atStart => exact ⟨0, 0, rfl, by omega, rfl⟩
      case round =>
        obtain ⟨k, q, rfl, hk, rfl⟩ := hrel
        have HA2 : Hid (SumAt (wb.drewN q) w.heap.size a b c) := HA
        have HB2 : Hid (SumAt (wb.drewN q) (w.heap.size + 1) a' b' c') := HB
        have HBL := Lib.hid (below_drewE7 HBEL.out q)
        generalize hwq : wb.drewN q = wq at *
        have HW := Lib.hid hwq
        clear hwq
        have d0 : wq.cell? ⟨w.heap.size, 0, none⟩ = some (.int .i64 a) := cell_of HA2.out rfl
        have f0 : wq.cell? ⟨w.heap.size + 1, 0, none⟩ = some (.int .i64 a') := cell_of HB2.out rfl
        have d1 : wq.cell? ⟨w.heap.size, 1, none⟩ = some (.int .i64 b) := cell_of HA2.out rfl
        have f1 : wq.cell? ⟨w.heap.size + 1, 1, none⟩ = some (.int .i64 b') := cell_of HB2.out rfl
        have d2 : wq.cell? ⟨w.heap.size, 2, none⟩ = some (.int .i64 c) := cell_of HA2.out rfl
        have f2 : wq.cell? ⟨w.heap.size + 1, 2, none⟩ = some (.int .i64 c') := cell_of HB2.out rfl
        obtain rfl : k = 0 := by omega
        go_wp2_with fail
        go_quiet (fail)
        go_wp2_with fail
        have HA3 : Hid (SumAt (wq.drewN nq) w.heap.size a b c) := HA2
        have HB3 : Hid (SumAt (wq.drewN nq) (w.heap.size + 1) a' b' c') := HB2
        have HBL3 := Lib.hid (below_drewE7 HBL.out nq)
        generalize wq.drewN nq = w3 at *
        have d0' : w3.cell? ⟨w.heap.size, 0, none⟩ = some (.int .i64 a) := cell_of HA3.out rfl
        have f0' : w3.cell? ⟨w.heap.size + 1, 0, none⟩ = some (.int .i64 a') := cell_of HB3.out rfl
        have d1' : w3.cell? ⟨w.heap.size, 1, none⟩ = some (.int .i64 b) := cell_of HA3.out rfl
        have f1' : w3.cell? ⟨w.heap.size + 1, 1, none⟩ = some (.int .i64 b') := cell_of HB3.out rfl
        have d2' : w3.cell? ⟨w.heap.size, 2, none⟩ = some (.int .i64 c) := cell_of HA3.out rfl
        have f2' : w3.cell? ⟨w.heap.size + 1, 2, none⟩ = some (.int .i64 c') := cell_of HB3.out rfl
        go_quiet ((go_at_call 21; exact Calls.quiet_of_same ((C.out _).mono fun e w' h => ⟨h.1, h.2.symm⟩)))
        go_wp2_with fail
        go_ret
        exact ⟨rfl, below_drewE7 HBL3.out _⟩
end Go.Proofs.YtfbfndknhabmhaaGreat
