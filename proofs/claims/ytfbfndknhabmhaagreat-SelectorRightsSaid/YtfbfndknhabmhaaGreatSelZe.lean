/- Layer 7's reference: weights. -/
import Derived.Test.YtfbfndknhabmhaaGreatSelZd
import Derived.OpenShut
namespace Go.Proofs.YtfbfndknhabmhaaGreat
open Go.RowKit TreN LexP FixP SynP ValP SelP FixM
set_option linter.unusedVariables false

set_option maxRecDepth 100000 in
set_option maxHeartbeats 2000000 in
theorem refCompare7 (a b c a' b' c' : Int) (w : World) : Calls Tryz.prog 10 #[.agg #[.int .i64 a, .int .i64 b, .int .i64 c], .agg #[.int .i64 a', .int .i64 b', .int .i64 c']] w fun e w' => e = .returned (.int .i64 (cmpT (a, b, c) (a', b', c'))) ∧ Below w.heap.size w w' := by
  obtain ⟨hA, hB, hbel⟩ := cmp_boxes w a b c a' b' c'
  obtain ⟨wb, hwb⟩ : ∃ wb, (w.alloc (.cells #[.int .i64 a, .int .i64 b, .int .i64 c] 25)).alloc (.cells #[.int .i64 a', .int .i64 b', .int .i64 c'] 25) = wb := ⟨_, rfl⟩
  rw [hwb] at hA hB hbel
  have HA := Lib.hid hA
  have HB := Lib.hid hB
  have HBEL := Lib.hid hbel
  clear hA hB hbel
  by_cases hk : a = a'
  · subst hk
    by_cases hk : b = b'
    · subst hk
      by_cases hk : c = c'
      · subst hk
        have e : cmpT (a, b, c) (a, b, c) = 0 := by unfold cmpT c1; simp
        rw [e]
        clear e
        go_enter Tryz.func10, Tryz.ntmps10
        go_wp2_with fail
        clear hwb
        go_loopw [5] (fun i wr => ∃ (k q : Nat), i = .int .i64 (k : Int) ∧ k ≤ 3 ∧ wr = wb.drewN q) (fun i _ => 3 - (intOf i).toNat)
        case atStart => exact ⟨0, 0, rfl, by omega, rfl⟩
        case round =>
          obtain ⟨k, q, rfl, hk, rfl⟩ := hrel
          have HA2 : Hid (SumAt (wb.drewN q) w.heap.size a b c) := HA
          have HB2 : Hid (SumAt (wb.drewN q) (w.heap.size + 1) a b c) := HB
          have HBL := Lib.hid (below_drewE7 HBEL.out q)
          generalize hwq : wb.drewN q = wq at *
          have HW := Lib.hid hwq
          clear hwq
          have H2A := HA2
          have H2B := HB2
          have d0 : wq.cell? ⟨w.heap.size, 0, none⟩ = some (.int .i64 a) := cell_of H2A.out rfl
          have f0 : wq.cell? ⟨w.heap.size + 1, 0, none⟩ = some (.int .i64 a) := cell_of H2B.out rfl
          have d1 : wq.cell? ⟨w.heap.size, 1, none⟩ = some (.int .i64 b) := cell_of H2A.out rfl
          have f1 : wq.cell? ⟨w.heap.size + 1, 1, none⟩ = some (.int .i64 b) := cell_of H2B.out rfl
          have d2 : wq.cell? ⟨w.heap.size, 2, none⟩ = some (.int .i64 c) := cell_of H2A.out rfl
          have f2 : wq.cell? ⟨w.heap.size + 1, 2, none⟩ = some (.int .i64 c) := cell_of H2B.out rfl
          obtain rfl | rfl | rfl | rfl := (by omega : k = 0 ∨ k = 1 ∨ k = 2 ∨ k = 3)
          · have hl : ¬ a < a := by omega
            go_wp2_with fail
            go_quiet (fail)
            go_wp2_with fail
            have H3A : Hid (SumAt (wq.drewN nq) w.heap.size a b c) := H2A
            have H3B : Hid (SumAt (wq.drewN nq) (w.heap.size + 1) a b c) := H2B
            have HBL3 := Lib.hid (below_drewE7 HBL.out nq)
            obtain ⟨q3, hq3⟩ : ∃ z, wq.drewN nq = wb.drewN z := ⟨q + nq, by rw [← HW.out, World.drewN_drewN]⟩
            have HW3 := Lib.hid hq3
            clear hq3
            generalize wq.drewN nq = w3 at *
            have d0' : w3.cell? ⟨w.heap.size, 0, none⟩ = some (.int .i64 a) := cell_of H3A.out rfl
            have f0' : w3.cell? ⟨w.heap.size + 1, 0, none⟩ = some (.int .i64 a) := cell_of H3B.out rfl
            have d1' : w3.cell? ⟨w.heap.size, 1, none⟩ = some (.int .i64 b) := cell_of H3A.out rfl
            have f1' : w3.cell? ⟨w.heap.size + 1, 1, none⟩ = some (.int .i64 b) := cell_of H3B.out rfl
            have d2' : w3.cell? ⟨w.heap.size, 2, none⟩ = some (.int .i64 c) := cell_of H3A.out rfl
            have f2' : w3.cell? ⟨w.heap.size + 1, 2, none⟩ = some (.int .i64 c) := cell_of H3B.out rfl
            clear d0 d1 d2 f0 f1 f2
            go_wp2_with fail
            go_quiet (fail)
            go_wp2_with fail
            go_roundw
            case rel => exact ⟨1, q3 + nq, rfl, by omega, by rw [HW3.out, World.drewN_drewN]⟩
            case measure => simp [intOf]
          · have hl : ¬ b < b := by omega
            go_wp2_with fail
            go_quiet (fail)
            go_wp2_with fail
            have H3A : Hid (SumAt (wq.drewN nq) w.heap.size a b c) := H2A
            have H3B : Hid (SumAt (wq.drewN nq) (w.heap.size + 1) a b c) := H2B
            have HBL3 := Lib.hid (below_drewE7 HBL.out nq)
            obtain ⟨q3, hq3⟩ : ∃ z, wq.drewN nq = wb.drewN z := ⟨q + nq, by rw [← HW.out, World.drewN_drewN]⟩
            have HW3 := Lib.hid hq3
            clear hq3
            generalize wq.drewN nq = w3 at *
            have d0' : w3.cell? ⟨w.heap.size, 0, none⟩ = some (.int .i64 a) := cell_of H3A.out rfl
            have f0' : w3.cell? ⟨w.heap.size + 1, 0, none⟩ = some (.int .i64 a) := cell_of H3B.out rfl
            have d1' : w3.cell? ⟨w.heap.size, 1, none⟩ = some (.int .i64 b) := cell_of H3A.out rfl
            have f1' : w3.cell? ⟨w.heap.size + 1, 1, none⟩ = some (.int .i64 b) := cell_of H3B.out rfl
            have d2' : w3.cell? ⟨w.heap.size, 2, none⟩ = some (.int .i64 c) := cell_of H3A.out rfl
            have f2' : w3.cell? ⟨w.heap.size + 1, 2, none⟩ = some (.int .i64 c) := cell_of H3B.out rfl
            clear d0 d1 d2 f0 f1 f2
            go_wp2_with fail
            go_quiet (fail)
            go_wp2_with fail
            go_roundw
            case rel => exact ⟨2, q3 + nq, rfl, by omega, by rw [HW3.out, World.drewN_drewN]⟩
            case measure => simp [intOf]
          · have hl : ¬ c < c := by omega
            go_wp2_with fail
            go_quiet (fail)
            go_wp2_with fail
            have H3A : Hid (SumAt (wq.drewN nq) w.heap.size a b c) := H2A
            have H3B : Hid (SumAt (wq.drewN nq) (w.heap.size + 1) a b c) := H2B
            have HBL3 := Lib.hid (below_drewE7 HBL.out nq)
            obtain ⟨q3, hq3⟩ : ∃ z, wq.drewN nq = wb.drewN z := ⟨q + nq, by rw [← HW.out, World.drewN_drewN]⟩
            have HW3 := Lib.hid hq3
            clear hq3
            generalize wq.drewN nq = w3 at *
            have d0' : w3.cell? ⟨w.heap.size, 0, none⟩ = some (.int .i64 a) := cell_of H3A.out rfl
            have f0' : w3.cell? ⟨w.heap.size + 1, 0, none⟩ = some (.int .i64 a) := cell_of H3B.out rfl
            have d1' : w3.cell? ⟨w.heap.size, 1, none⟩ = some (.int .i64 b) := cell_of H3A.out rfl
            have f1' : w3.cell? ⟨w.heap.size + 1, 1, none⟩ = some (.int .i64 b) := cell_of H3B.out rfl
            have d2' : w3.cell? ⟨w.heap.size, 2, none⟩ = some (.int .i64 c) := cell_of H3A.out rfl
            have f2' : w3.cell? ⟨w.heap.size + 1, 2, none⟩ = some (.int .i64 c) := cell_of H3B.out rfl
            clear d0 d1 d2 f0 f1 f2
            go_wp2_with fail
            go_quiet (fail)
            go_wp2_with fail
            go_roundw
            case rel => exact ⟨3, q3 + nq, rfl, by omega, by rw [HW3.out, World.drewN_drewN]⟩
            case measure => simp [intOf]
          · go_wp2_with fail
            go_ret
            exact ⟨rfl, HBL.out⟩
      · skip
        by_cases hlt : c < c'
        · have e : cmpT (a, b, c) (a, b, c') = -1 := by unfold cmpT c1; simp [hlt]
          rw [e]
          clear e
          go_enter Tryz.func10, Tryz.ntmps10
          go_wp2_with fail
          clear hwb
          go_loopw [5] (fun i wr => ∃ (k q : Nat), i = .int .i64 (k : Int) ∧ k ≤ 2 ∧ wr = wb.drewN q) (fun i _ => 2 - (intOf i).toNat)
          case atStart => exact ⟨0, 0, rfl, by omega, rfl⟩
          case round =>
            obtain ⟨k, q, rfl, hk, rfl⟩ := hrel
            have HA2 : Hid (SumAt (wb.drewN q) w.heap.size a b c) := HA
            have HB2 : Hid (SumAt (wb.drewN q) (w.heap.size + 1) a b c') := HB
            have HBL := Lib.hid (below_drewE7 HBEL.out q)
            generalize hwq : wb.drewN q = wq at *
            have HW := Lib.hid hwq
            clear hwq
            have H2A := HA2
            have H2B := HB2
            have d0 : wq.cell? ⟨w.heap.size, 0, none⟩ = some (.int .i64 a) := cell_of H2A.out rfl
            have f0 : wq.cell? ⟨w.heap.size + 1, 0, none⟩ = some (.int .i64 a) := cell_of H2B.out rfl
            have d1 : wq.cell? ⟨w.heap.size, 1, none⟩ = some (.int .i64 b) := cell_of H2A.out rfl
            have f1 : wq.cell? ⟨w.heap.size + 1, 1, none⟩ = some (.int .i64 b) := cell_of H2B.out rfl
            have d2 : wq.cell? ⟨w.heap.size, 2, none⟩ = some (.int .i64 c) := cell_of H2A.out rfl
            have f2 : wq.cell? ⟨w.heap.size + 1, 2, none⟩ = some (.int .i64 c') := cell_of H2B.out rfl
            obtain rfl | rfl | rfl := (by omega : k = 0 ∨ k = 1 ∨ k = 2)
            · have hl : ¬ a < a := by omega
              go_wp2_with fail
              go_quiet (fail)
              go_wp2_with fail
              have H3A : Hid (SumAt (wq.drewN nq) w.heap.size a b c) := H2A
              have H3B : Hid (SumAt (wq.drewN nq) (w.heap.size + 1) a b c') := H2B
              have HBL3 := Lib.hid (below_drewE7 HBL.out nq)
              obtain ⟨q3, hq3⟩ : ∃ z, wq.drewN nq = wb.drewN z := ⟨q + nq, by rw [← HW.out, World.drewN_drewN]⟩
              have HW3 := Lib.hid hq3
              clear hq3
              generalize wq.drewN nq = w3 at *
              have d0' : w3.cell? ⟨w.heap.size, 0, none⟩ = some (.int .i64 a) := cell_of H3A.out rfl
              have f0' : w3.cell? ⟨w.heap.size + 1, 0, none⟩ = some (.int .i64 a) := cell_of H3B.out rfl
              have d1' : w3.cell? ⟨w.heap.size, 1, none⟩ = some (.int .i64 b) := cell_of H3A.out rfl
              have f1' : w3.cell? ⟨w.heap.size + 1, 1, none⟩ = some (.int .i64 b) := cell_of H3B.out rfl
              have d2' : w3.cell? ⟨w.heap.size, 2, none⟩ = some (.int .i64 c) := cell_of H3A.out rfl
              have f2' : w3.cell? ⟨w.heap.size + 1, 2, none⟩ = some (.int .i64 c') := cell_of H3B.out rfl
              clear d0 d1 d2 f0 f1 f2
              go_wp2_with fail
              go_quiet (fail)
              go_wp2_with fail
              go_roundw
              case rel => exact ⟨1, q3 + nq, rfl, by omega, by rw [HW3.out, World.drewN_drewN]⟩
              case measure => simp [intOf]
            · have hl : ¬ b < b := by omega
              go_wp2_with fail
              go_quiet (fail)
              go_wp2_with fail
              have H3A : Hid (SumAt (wq.drewN nq) w.heap.size a b c) := H2A
              have H3B : Hid (SumAt (wq.drewN nq) (w.heap.size + 1) a b c') := H2B
              have HBL3 := Lib.hid (below_drewE7 HBL.out nq)
              obtain ⟨q3, hq3⟩ : ∃ z, wq.drewN nq = wb.drewN z := ⟨q + nq, by rw [← HW.out, World.drewN_drewN]⟩
              have HW3 := Lib.hid hq3
              clear hq3
              generalize wq.drewN nq = w3 at *
              have d0' : w3.cell? ⟨w.heap.size, 0, none⟩ = some (.int .i64 a) := cell_of H3A.out rfl
              have f0' : w3.cell? ⟨w.heap.size + 1, 0, none⟩ = some (.int .i64 a) := cell_of H3B.out rfl
              have d1' : w3.cell? ⟨w.heap.size, 1, none⟩ = some (.int .i64 b) := cell_of H3A.out rfl
              have f1' : w3.cell? ⟨w.heap.size + 1, 1, none⟩ = some (.int .i64 b) := cell_of H3B.out rfl
              have d2' : w3.cell? ⟨w.heap.size, 2, none⟩ = some (.int .i64 c) := cell_of H3A.out rfl
              have f2' : w3.cell? ⟨w.heap.size + 1, 2, none⟩ = some (.int .i64 c') := cell_of H3B.out rfl
              clear d0 d1 d2 f0 f1 f2
              go_wp2_with fail
              go_quiet (fail)
              go_wp2_with fail
              go_roundw
              case rel => exact ⟨2, q3 + nq, rfl, by omega, by rw [HW3.out, World.drewN_drewN]⟩
              case measure => simp [intOf]
            · go_wp2_with fail
              go_quiet (fail)
              go_wp2_with fail
              go_ret
              exact ⟨rfl, below_drewE7 HBL.out _⟩
        · have hgt : c' < c := by omega
          have e : cmpT (a, b, c) (a, b, c') = 1 := by unfold cmpT c1; simp [hlt, hgt]
          rw [e]
          clear e
          go_enter Tryz.func10, Tryz.ntmps10
          go_wp2_with fail
          clear hwb
          go_loopw [5] (fun i wr => ∃ (k q : Nat), i = .int .i64 (k : Int) ∧ k ≤ 2 ∧ wr = wb.drewN q) (fun i _ => 2 - (intOf i).toNat)
          case atStart => exact ⟨0, 0, rfl, by omega, rfl⟩
          case round =>
            obtain ⟨k, q, rfl, hk, rfl⟩ := hrel
            have HA2 : Hid (SumAt (wb.drewN q) w.heap.size a b c) := HA
            have HB2 : Hid (SumAt (wb.drewN q) (w.heap.size + 1) a b c') := HB
            have HBL := Lib.hid (below_drewE7 HBEL.out q)
            generalize hwq : wb.drewN q = wq at *
            have HW := Lib.hid hwq
            clear hwq
            have H2A := HA2
            have H2B := HB2
            have d0 : wq.cell? ⟨w.heap.size, 0, none⟩ = some (.int .i64 a) := cell_of H2A.out rfl
            have f0 : wq.cell? ⟨w.heap.size + 1, 0, none⟩ = some (.int .i64 a) := cell_of H2B.out rfl
            have d1 : wq.cell? ⟨w.heap.size, 1, none⟩ = some (.int .i64 b) := cell_of H2A.out rfl
            have f1 : wq.cell? ⟨w.heap.size + 1, 1, none⟩ = some (.int .i64 b) := cell_of H2B.out rfl
            have d2 : wq.cell? ⟨w.heap.size, 2, none⟩ = some (.int .i64 c) := cell_of H2A.out rfl
            have f2 : wq.cell? ⟨w.heap.size + 1, 2, none⟩ = some (.int .i64 c') := cell_of H2B.out rfl
            obtain rfl | rfl | rfl := (by omega : k = 0 ∨ k = 1 ∨ k = 2)
            · have hl : ¬ a < a := by omega
              go_wp2_with fail
              go_quiet (fail)
              go_wp2_with fail
              have H3A : Hid (SumAt (wq.drewN nq) w.heap.size a b c) := H2A
              have H3B : Hid (SumAt (wq.drewN nq) (w.heap.size + 1) a b c') := H2B
              have HBL3 := Lib.hid (below_drewE7 HBL.out nq)
              obtain ⟨q3, hq3⟩ : ∃ z, wq.drewN nq = wb.drewN z := ⟨q + nq, by rw [← HW.out, World.drewN_drewN]⟩
              have HW3 := Lib.hid hq3
              clear hq3
              generalize wq.drewN nq = w3 at *
              have d0' : w3.cell? ⟨w.heap.size, 0, none⟩ = some (.int .i64 a) := cell_of H3A.out rfl
              have f0' : w3.cell? ⟨w.heap.size + 1, 0, none⟩ = some (.int .i64 a) := cell_of H3B.out rfl
              have d1' : w3.cell? ⟨w.heap.size, 1, none⟩ = some (.int .i64 b) := cell_of H3A.out rfl
              have f1' : w3.cell? ⟨w.heap.size + 1, 1, none⟩ = some (.int .i64 b) := cell_of H3B.out rfl
              have d2' : w3.cell? ⟨w.heap.size, 2, none⟩ = some (.int .i64 c) := cell_of H3A.out rfl
              have f2' : w3.cell? ⟨w.heap.size + 1, 2, none⟩ = some (.int .i64 c') := cell_of H3B.out rfl
              clear d0 d1 d2 f0 f1 f2
              go_wp2_with fail
              go_quiet (fail)
              go_wp2_with fail
              go_roundw
              case rel => exact ⟨1, q3 + nq, rfl, by omega, by rw [HW3.out, World.drewN_drewN]⟩
              case measure => simp [intOf]
            · have hl : ¬ b < b := by omega
              go_wp2_with fail
              go_quiet (fail)
              go_wp2_with fail
              have H3A : Hid (SumAt (wq.drewN nq) w.heap.size a b c) := H2A
              have H3B : Hid (SumAt (wq.drewN nq) (w.heap.size + 1) a b c') := H2B
              have HBL3 := Lib.hid (below_drewE7 HBL.out nq)
              obtain ⟨q3, hq3⟩ : ∃ z, wq.drewN nq = wb.drewN z := ⟨q + nq, by rw [← HW.out, World.drewN_drewN]⟩
              have HW3 := Lib.hid hq3
              clear hq3
              generalize wq.drewN nq = w3 at *
              have d0' : w3.cell? ⟨w.heap.size, 0, none⟩ = some (.int .i64 a) := cell_of H3A.out rfl
              have f0' : w3.cell? ⟨w.heap.size + 1, 0, none⟩ = some (.int .i64 a) := cell_of H3B.out rfl
              have d1' : w3.cell? ⟨w.heap.size, 1, none⟩ = some (.int .i64 b) := cell_of H3A.out rfl
              have f1' : w3.cell? ⟨w.heap.size + 1, 1, none⟩ = some (.int .i64 b) := cell_of H3B.out rfl
              have d2' : w3.cell? ⟨w.heap.size, 2, none⟩ = some (.int .i64 c) := cell_of H3A.out rfl
              have f2' : w3.cell? ⟨w.heap.size + 1, 2, none⟩ = some (.int .i64 c') := cell_of H3B.out rfl
              clear d0 d1 d2 f0 f1 f2
              go_wp2_with fail
              go_quiet (fail)
              go_wp2_with fail
              go_roundw
              case rel => exact ⟨2, q3 + nq, rfl, by omega, by rw [HW3.out, World.drewN_drewN]⟩
              case measure => simp [intOf]
            · have hl : ¬ c < c' := by omega
              go_wp2_with fail
              go_quiet (fail)
              go_wp2_with fail
              have H3A : Hid (SumAt (wq.drewN nq) w.heap.size a b c) := H2A
              have H3B : Hid (SumAt (wq.drewN nq) (w.heap.size + 1) a b c') := H2B
              have HBL3 := Lib.hid (below_drewE7 HBL.out nq)
              generalize wq.drewN nq = w3 at *
              have d0' : w3.cell? ⟨w.heap.size, 0, none⟩ = some (.int .i64 a) := cell_of H3A.out rfl
              have f0' : w3.cell? ⟨w.heap.size + 1, 0, none⟩ = some (.int .i64 a) := cell_of H3B.out rfl
              have d1' : w3.cell? ⟨w.heap.size, 1, none⟩ = some (.int .i64 b) := cell_of H3A.out rfl
              have f1' : w3.cell? ⟨w.heap.size + 1, 1, none⟩ = some (.int .i64 b) := cell_of H3B.out rfl
              have d2' : w3.cell? ⟨w.heap.size, 2, none⟩ = some (.int .i64 c) := cell_of H3A.out rfl
              have f2' : w3.cell? ⟨w.heap.size + 1, 2, none⟩ = some (.int .i64 c') := cell_of H3B.out rfl
              clear d0 d1 d2 f0 f1 f2
              go_wp2_with fail
              go_quiet (fail)
              go_wp2_with fail
              go_ret
              exact ⟨rfl, below_drewE7 HBL3.out _⟩
    · skip
      by_cases hlt : b < b'
      · have e : cmpT (a, b, c) (a, b', c') = -1 := by unfold cmpT c1; simp [hk, hlt]
        rw [e]
        clear e
        go_enter Tryz.func10, Tryz.ntmps10
        go_wp2_with fail
        clear hwb
        go_loopw [5] (fun i wr => ∃ (k q : Nat), i = .int .i64 (k : Int) ∧ k ≤ 1 ∧ wr = wb.drewN q) (fun i _ => 1 - (intOf i).toNat)
        case atStart => exact ⟨0, 0, rfl, by omega, rfl⟩
        case round =>
          obtain ⟨k, q, rfl, hk, rfl⟩ := hrel
          have HA2 : Hid (SumAt (wb.drewN q) w.heap.size a b c) := HA
          have HB2 : Hid (SumAt (wb.drewN q) (w.heap.size + 1) a b' c') := HB
          have HBL := Lib.hid (below_drewE7 HBEL.out q)
          generalize hwq : wb.drewN q = wq at *
          have HW := Lib.hid hwq
          clear hwq
          have H2A := HA2
          have H2B := HB2
          have d0 : wq.cell? ⟨w.heap.size, 0, none⟩ = some (.int .i64 a) := cell_of H2A.out rfl
          have f0 : wq.cell? ⟨w.heap.size + 1, 0, none⟩ = some (.int .i64 a) := cell_of H2B.out rfl
          have d1 : wq.cell? ⟨w.heap.size, 1, none⟩ = some (.int .i64 b) := cell_of H2A.out rfl
          have f1 : wq.cell? ⟨w.heap.size + 1, 1, none⟩ = some (.int .i64 b') := cell_of H2B.out rfl
          have d2 : wq.cell? ⟨w.heap.size, 2, none⟩ = some (.int .i64 c) := cell_of H2A.out rfl
          have f2 : wq.cell? ⟨w.heap.size + 1, 2, none⟩ = some (.int .i64 c') := cell_of H2B.out rfl
          obtain rfl | rfl := (by omega : k = 0 ∨ k = 1)
          · have hl : ¬ a < a := by omega
            go_wp2_with fail
            go_quiet (fail)
            go_wp2_with fail
            have H3A : Hid (SumAt (wq.drewN nq) w.heap.size a b c) := H2A
            have H3B : Hid (SumAt (wq.drewN nq) (w.heap.size + 1) a b' c') := H2B
            have HBL3 := Lib.hid (below_drewE7 HBL.out nq)
            obtain ⟨q3, hq3⟩ : ∃ z, wq.drewN nq = wb.drewN z := ⟨q + nq, by rw [← HW.out, World.drewN_drewN]⟩
            have HW3 := Lib.hid hq3
            clear hq3
            generalize wq.drewN nq = w3 at *
            have d0' : w3.cell? ⟨w.heap.size, 0, none⟩ = some (.int .i64 a) := cell_of H3A.out rfl
            have f0' : w3.cell? ⟨w.heap.size + 1, 0, none⟩ = some (.int .i64 a) := cell_of H3B.out rfl
            have d1' : w3.cell? ⟨w.heap.size, 1, none⟩ = some (.int .i64 b) := cell_of H3A.out rfl
            have f1' : w3.cell? ⟨w.heap.size + 1, 1, none⟩ = some (.int .i64 b') := cell_of H3B.out rfl
            have d2' : w3.cell? ⟨w.heap.size, 2, none⟩ = some (.int .i64 c) := cell_of H3A.out rfl
            have f2' : w3.cell? ⟨w.heap.size + 1, 2, none⟩ = some (.int .i64 c') := cell_of H3B.out rfl
            clear d0 d1 d2 f0 f1 f2
            go_wp2_with fail
            go_quiet (fail)
            go_wp2_with fail
            go_roundw
            case rel => exact ⟨1, q3 + nq, rfl, by omega, by rw [HW3.out, World.drewN_drewN]⟩
            case measure => simp [intOf]
          · go_wp2_with fail
            go_quiet (fail)
            go_wp2_with fail
            go_ret
            exact ⟨rfl, below_drewE7 HBL.out _⟩
      · have hgt : b' < b := by omega
        have e : cmpT (a, b, c) (a, b', c') = 1 := by unfold cmpT c1; simp [hk, hlt, hgt]
        rw [e]
        clear e
        go_enter Tryz.func10, Tryz.ntmps10
        go_wp2_with fail
        clear hwb
        go_loopw [5] (fun i wr => ∃ (k q : Nat), i = .int .i64 (k : Int) ∧ k ≤ 1 ∧ wr = wb.drewN q) (fun i _ => 1 - (intOf i).toNat)
        case atStart => exact ⟨0, 0, rfl, by omega, rfl⟩
        case round =>
          obtain ⟨k, q, rfl, hk, rfl⟩ := hrel
          have HA2 : Hid (SumAt (wb.drewN q) w.heap.size a b c) := HA
          have HB2 : Hid (SumAt (wb.drewN q) (w.heap.size + 1) a b' c') := HB
          have HBL := Lib.hid (below_drewE7 HBEL.out q)
          generalize hwq : wb.drewN q = wq at *
          have HW := Lib.hid hwq
          clear hwq
          have H2A := HA2
          have H2B := HB2
          have d0 : wq.cell? ⟨w.heap.size, 0, none⟩ = some (.int .i64 a) := cell_of H2A.out rfl
          have f0 : wq.cell? ⟨w.heap.size + 1, 0, none⟩ = some (.int .i64 a) := cell_of H2B.out rfl
          have d1 : wq.cell? ⟨w.heap.size, 1, none⟩ = some (.int .i64 b) := cell_of H2A.out rfl
          have f1 : wq.cell? ⟨w.heap.size + 1, 1, none⟩ = some (.int .i64 b') := cell_of H2B.out rfl
          have d2 : wq.cell? ⟨w.heap.size, 2, none⟩ = some (.int .i64 c) := cell_of H2A.out rfl
          have f2 : wq.cell? ⟨w.heap.size + 1, 2, none⟩ = some (.int .i64 c') := cell_of H2B.out rfl
          obtain rfl | rfl := (by omega : k = 0 ∨ k = 1)
          · have hl : ¬ a < a := by omega
            go_wp2_with fail
            go_quiet (fail)
            go_wp2_with fail
            have H3A : Hid (SumAt (wq.drewN nq) w.heap.size a b c) := H2A
            have H3B : Hid (SumAt (wq.drewN nq) (w.heap.size + 1) a b' c') := H2B
            have HBL3 := Lib.hid (below_drewE7 HBL.out nq)
            obtain ⟨q3, hq3⟩ : ∃ z, wq.drewN nq = wb.drewN z := ⟨q + nq, by rw [← HW.out, World.drewN_drewN]⟩
            have HW3 := Lib.hid hq3
            clear hq3
            generalize wq.drewN nq = w3 at *
            have d0' : w3.cell? ⟨w.heap.size, 0, none⟩ = some (.int .i64 a) := cell_of H3A.out rfl
            have f0' : w3.cell? ⟨w.heap.size + 1, 0, none⟩ = some (.int .i64 a) := cell_of H3B.out rfl
            have d1' : w3.cell? ⟨w.heap.size, 1, none⟩ = some (.int .i64 b) := cell_of H3A.out rfl
            have f1' : w3.cell? ⟨w.heap.size + 1, 1, none⟩ = some (.int .i64 b') := cell_of H3B.out rfl
            have d2' : w3.cell? ⟨w.heap.size, 2, none⟩ = some (.int .i64 c) := cell_of H3A.out rfl
            have f2' : w3.cell? ⟨w.heap.size + 1, 2, none⟩ = some (.int .i64 c') := cell_of H3B.out rfl
            clear d0 d1 d2 f0 f1 f2
            go_wp2_with fail
            go_quiet (fail)
            go_wp2_with fail
            go_roundw
            case rel => exact ⟨1, q3 + nq, rfl, by omega, by rw [HW3.out, World.drewN_drewN]⟩
            case measure => simp [intOf]
          · have hl : ¬ b < b' := by omega
            go_wp2_with fail
            go_quiet (fail)
            go_wp2_with fail
            have H3A : Hid (SumAt (wq.drewN nq) w.heap.size a b c) := H2A
            have H3B : Hid (SumAt (wq.drewN nq) (w.heap.size + 1) a b' c') := H2B
            have HBL3 := Lib.hid (below_drewE7 HBL.out nq)
            generalize wq.drewN nq = w3 at *
            have d0' : w3.cell? ⟨w.heap.size, 0, none⟩ = some (.int .i64 a) := cell_of H3A.out rfl
            have f0' : w3.cell? ⟨w.heap.size + 1, 0, none⟩ = some (.int .i64 a) := cell_of H3B.out rfl
            have d1' : w3.cell? ⟨w.heap.size, 1, none⟩ = some (.int .i64 b) := cell_of H3A.out rfl
            have f1' : w3.cell? ⟨w.heap.size + 1, 1, none⟩ = some (.int .i64 b') := cell_of H3B.out rfl
            have d2' : w3.cell? ⟨w.heap.size, 2, none⟩ = some (.int .i64 c) := cell_of H3A.out rfl
            have f2' : w3.cell? ⟨w.heap.size + 1, 2, none⟩ = some (.int .i64 c') := cell_of H3B.out rfl
            clear d0 d1 d2 f0 f1 f2
            go_wp2_with fail
            go_quiet (fail)
            go_wp2_with fail
            go_ret
            exact ⟨rfl, below_drewE7 HBL3.out _⟩
  · skip
    by_cases hlt : a < a'
    · have e : cmpT (a, b, c) (a', b', c') = -1 := by unfold cmpT c1; simp [hk, hlt]
      rw [e]
      clear e
      go_enter Tryz.func10, Tryz.ntmps10
      go_wp2_with fail
      clear hwb
      go_loopw [5] (fun i wr => ∃ (k q : Nat), i = .int .i64 (k : Int) ∧ k ≤ 0 ∧ wr = wb.drewN q) (fun i _ => 0 - (intOf i).toNat)
      case atStart => exact ⟨0, 0, rfl, by omega, rfl⟩
      case round =>
        obtain ⟨k, q, rfl, hk, rfl⟩ := hrel
        have HA2 : Hid (SumAt (wb.drewN q) w.heap.size a b c) := HA
        have HB2 : Hid (SumAt (wb.drewN q) (w.heap.size + 1) a' b' c') := HB
        have HBL := Lib.hid (below_drewE7 HBEL.out q)
        generalize hwq : wb.drewN q = wq at *
        have HW := Lib.hid hwq
        clear hwq
        have H2A := HA2
        have H2B := HB2
        have d0 : wq.cell? ⟨w.heap.size, 0, none⟩ = some (.int .i64 a) := cell_of H2A.out rfl
        have f0 : wq.cell? ⟨w.heap.size + 1, 0, none⟩ = some (.int .i64 a') := cell_of H2B.out rfl
        have d1 : wq.cell? ⟨w.heap.size, 1, none⟩ = some (.int .i64 b) := cell_of H2A.out rfl
        have f1 : wq.cell? ⟨w.heap.size + 1, 1, none⟩ = some (.int .i64 b') := cell_of H2B.out rfl
        have d2 : wq.cell? ⟨w.heap.size, 2, none⟩ = some (.int .i64 c) := cell_of H2A.out rfl
        have f2 : wq.cell? ⟨w.heap.size + 1, 2, none⟩ = some (.int .i64 c') := cell_of H2B.out rfl
        obtain rfl : k = 0 := by omega
        go_wp2_with fail
        go_quiet (fail)
        go_wp2_with fail
        go_ret
        exact ⟨rfl, below_drewE7 HBL.out _⟩
    · have hgt : a' < a := by omega
      have e : cmpT (a, b, c) (a', b', c') = 1 := by unfold cmpT c1; simp [hk, hlt, hgt]
      rw [e]
      clear e
      go_enter Tryz.func10, Tryz.ntmps10
      go_wp2_with fail
      clear hwb
      go_loopw [5] (fun i wr => ∃ (k q : Nat), i = .int .i64 (k : Int) ∧ k ≤ 0 ∧ wr = wb.drewN q) (fun i _ => 0 - (intOf i).toNat)
      case atStart => exact ⟨0, 0, rfl, by omega, rfl⟩
      case round =>
        obtain ⟨k, q, rfl, hk, rfl⟩ := hrel
        have HA2 : Hid (SumAt (wb.drewN q) w.heap.size a b c) := HA
        have HB2 : Hid (SumAt (wb.drewN q) (w.heap.size + 1) a' b' c') := HB
        have HBL := Lib.hid (below_drewE7 HBEL.out q)
        generalize hwq : wb.drewN q = wq at *
        have HW := Lib.hid hwq
        clear hwq
        have H2A := HA2
        have H2B := HB2
        have d0 : wq.cell? ⟨w.heap.size, 0, none⟩ = some (.int .i64 a) := cell_of H2A.out rfl
        have f0 : wq.cell? ⟨w.heap.size + 1, 0, none⟩ = some (.int .i64 a') := cell_of H2B.out rfl
        have d1 : wq.cell? ⟨w.heap.size, 1, none⟩ = some (.int .i64 b) := cell_of H2A.out rfl
        have f1 : wq.cell? ⟨w.heap.size + 1, 1, none⟩ = some (.int .i64 b') := cell_of H2B.out rfl
        have d2 : wq.cell? ⟨w.heap.size, 2, none⟩ = some (.int .i64 c) := cell_of H2A.out rfl
        have f2 : wq.cell? ⟨w.heap.size + 1, 2, none⟩ = some (.int .i64 c') := cell_of H2B.out rfl
        obtain rfl : k = 0 := by omega
        have hl : ¬ a < a' := by omega
        go_wp2_with fail
        go_quiet (fail)
        go_wp2_with fail
        have H3A : Hid (SumAt (wq.drewN nq) w.heap.size a b c) := H2A
        have H3B : Hid (SumAt (wq.drewN nq) (w.heap.size + 1) a' b' c') := H2B
        have HBL3 := Lib.hid (below_drewE7 HBL.out nq)
        generalize wq.drewN nq = w3 at *
        have d0' : w3.cell? ⟨w.heap.size, 0, none⟩ = some (.int .i64 a) := cell_of H3A.out rfl
        have f0' : w3.cell? ⟨w.heap.size + 1, 0, none⟩ = some (.int .i64 a') := cell_of H3B.out rfl
        have d1' : w3.cell? ⟨w.heap.size, 1, none⟩ = some (.int .i64 b) := cell_of H3A.out rfl
        have f1' : w3.cell? ⟨w.heap.size + 1, 1, none⟩ = some (.int .i64 b') := cell_of H3B.out rfl
        have d2' : w3.cell? ⟨w.heap.size, 2, none⟩ = some (.int .i64 c) := cell_of H3A.out rfl
        have f2' : w3.cell? ⟨w.heap.size + 1, 2, none⟩ = some (.int .i64 c') := cell_of H3B.out rfl
        clear d0 d1 d2 f0 f1 f2
        go_wp2_with fail
        go_quiet (fail)
        go_wp2_with fail
        go_ret
        exact ⟨rfl, below_drewE7 HBL3.out _⟩

set_option maxRecDepth 100000 in
set_option maxHeartbeats 1000000 in
theorem has7_gen (n k : Int) (hw : (Lit.int .i64 n).wf = true) (hk : k = 1 ∨ k = 2 ∨ k = 4) (w : World) : Calls Tryz.prog 40 #[.int .i64 n, .int .i64 k] w fun e w' => e = .returned (.bool (hasB n k)) ∧ w = w' := by
  obtain ⟨R, hR⟩ : ∃ R, hasB n k = R := ⟨_, rfl⟩
  rw [hR]
  have HR := Lib.hid hR
  clear hR
  have hb := bounds_i64 hw
  by_cases h0 : 0 ≤ n
  · rcases hk with rfl | rfl | rfl
    all_goals
      go_enter Tryz.func40, Tryz.ntmps40
      go_wp2_with fail
      go_ret
      refine ⟨ret_bool ?_, rfl⟩
      have := HR.out
      unfold hasB at this
      rw [decide_eq_true h0, Bool.true_and] at this
      rw [← this]
      refine decide_eq_decide.2 ?_
      have e : (n.toNat : Int) = n := by omega
      have e1 : (1 : Int).toNat = 1 := rfl
      have e2 : (2 : Int).toNat = 2 := rfl
      have e4 : (4 : Int).toNat = 4 := rfl
      first | rw [e1] | rw [e2] | rw [e4]
      omega
  · have HF : Hid (R = false) := Lib.hid (by rw [← HR.out]; unfold hasB; rw [decide_eq_false h0]; rfl)
    have h0z : decide (0 ≤ n) = false := decide_eq_false h0
    clear h0
    rcases hk with rfl | rfl | rfl
    all_goals
      go_enter Tryz.func40, Tryz.ntmps40
      go_wp2_with fail
      go_ret
      exact ⟨ret_bool HF.out.symm, rfl⟩
end Go.Proofs.YtfbfndknhabmhaaGreat
