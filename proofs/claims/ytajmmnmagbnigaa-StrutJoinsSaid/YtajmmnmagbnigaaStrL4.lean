/- Layer 19, the laws: struts are joined in whichever order and grouping. -/
import Derived.Test.YtajmmnmagbnigaaStrS
import Derived.Test.YtajmmnmagbnigaaStrQ
namespace Go.Proofs.Ytajmmnmagbnigaa
open Go.RowKit FixM StrP Go.Sort
set_option linter.unusedVariables false

/-- three boxes -/
structure J3 (w W : World) (x y z : Array Value) (T : TypeId) : Prop where
  b0 : W.heap[w.heap.size]? = some (.cells x T (0, 0))
  b1 : W.heap[w.heap.size + 1]? = some (.cells y T (0, 0))
  b2 : W.heap[w.heap.size + 1 + 1]? = some (.cells z T (0, 0))
  bel : Below w.heap.size w W

set_option maxRecDepth 100000 in
set_option maxHeartbeats 8000000 in
theorem StrutJoins_walk (u d u2 d2 u3 d3 m : Int) (w : World) :
    Calls Try.prog 3 #[.agg #[.int .i64 u, .int .i64 d], .agg #[.int .i64 u2, .int .i64 d2], .agg #[.int .i64 u3, .int .i64 d3], .int .i64 m] w fun e w' => e = .returned (.bool true) ∧ Below w.heap.size w w' := by
  have hJ := Jn.start w #[.int .i64 u, .int .i64 d] #[.int .i64 u2, .int .i64 d2] #[.int .i64 u3, .int .i64 d3] 23
  generalize hW : ((w.alloc (.cells #[.int .i64 u, .int .i64 d] 23)).alloc (.cells #[.int .i64 u2, .int .i64 d2] 23)).alloc (.cells #[.int .i64 u3, .int .i64 d3] 23) = W at hJ
  have HB := Lib.hid hJ.bel
  have HJ := Lib.hid hJ
  have c0 : W.cell? ⟨w.heap.size, 0, none⟩ = some (.int .i64 u) := cell_ofS hJ.b0 rfl
  have c1 : W.cell? ⟨w.heap.size, 1, none⟩ = some (.int .i64 d) := cell_ofS hJ.b0 rfl
  have c2 : W.cell? ⟨w.heap.size + 1, 0, none⟩ = some (.int .i64 u2) := cell_ofS hJ.b1 rfl
  have c3 : W.cell? ⟨w.heap.size + 1, 1, none⟩ = some (.int .i64 d2) := cell_ofS hJ.b1 rfl
  have c4 : W.cell? ⟨w.heap.size + 1 + 1, 0, none⟩ = some (.int .i64 u3) := cell_ofS hJ.b2 rfl
  have c5 : W.cell? ⟨w.heap.size + 1 + 1, 1, none⟩ = some (.int .i64 d3) := cell_ofS hJ.b2 rfl
  have l0 := blk_ltS hJ.b0
  have l1 := blk_ltS hJ.b1
  have l2 := blk_ltS hJ.b2
  clear hJ
  have J12 := fun w => Join19_any u d u2 d2 w
  have J21 := fun w => Join19_any u2 d2 u d w
  have J23 := fun w => Join19_any u2 d2 u3 d3 w
  have J1_23 := fun w => Join19_any u d (jU u2 u3) (jD d2 d3) w
  have J12_3 := fun w => Join19_any (jU u u2) (jD d d2) u3 d3 w
  have R12 := fun w => refJoin19_any u d u2 d2 w
  rw [jU_comm u2 u, jD_comm d2 d] at J21
  rw [jU_assoc, jD_assoc] at J1_23
  have T1 := fun w => two19_any u d w
  have T2 := fun w => two19_any u2 d2 w
  have T12 := fun w => two19_any (jU u u2) (jD d d2) w
  have W1 := fun w => Worth19_any u d w
  have V1 := fun w => refWorth19_any u d w
  have O1 := fun w => Of19_any m w
  have Q1 := fun w => refOf19_any m w
  have TO := fun w => two19_any (max 0 (H m)) (min 0 (H m)) w
  generalize max 0 (H m) = ou at O1 Q1 TO
  generalize min 0 (H m) = od at O1 Q1 TO
  generalize wT u d = wo at W1 V1
  generalize jU (jU u u2) u3 = xu at J1_23 J12_3
  generalize jD (jD d d2) d3 = xd at J1_23 J12_3
  generalize jU u u2 = ju at J12 J21 J12_3 R12 T12
  generalize jD d d2 = jd at J12 J21 J12_3 R12 T12
  generalize jU u2 u3 = ku at J23 J1_23
  generalize jD d2 d3 = kd at J23 J1_23
  have KK := fun w => known19_any w
  have HJ12 := Lib.hid J12
  have HJ21 := Lib.hid J21
  have HJ23 := Lib.hid J23
  have HJ1_23 := Lib.hid J1_23
  have HJ12_3 := Lib.hid J12_3
  have HKK := Lib.hid KK
  have a1 : ∀ W : World, (Op.equalIn 10000 25 (.agg #[.int .i64 ju, .int .i64 jd]) (.agg #[.int .i64 ju, .int .i64 jd])).run Try.prog W = .ok true W := fun W => ar_self19 ju jd W
  have a2 : ∀ W : World, (Op.equalIn 10000 25 (.agg #[.int .i64 ou, .int .i64 od]) (.agg #[.int .i64 ou, .int .i64 od])).run Try.prog W = .ok true W := fun W => ar_self19 ou od W
  have cJ12 := fun (dd : Nat) (os : Array Obj) => Calls.regrown_of (J12 (grow (redrawn W dd) os))
  have cR12 := fun (dd : Nat) (os : Array Obj) => Calls.regrown_of (R12 (grow (redrawn W dd) os))
  have cT1 := fun (dd : Nat) (os : Array Obj) => Calls.regrown_of (T1 (grow (redrawn W dd) os))
  have cT2 := fun (dd : Nat) (os : Array Obj) => Calls.regrown_of (T2 (grow (redrawn W dd) os))
  have cT12 := fun (dd : Nat) (os : Array Obj) => Calls.regrown_of (T12 (grow (redrawn W dd) os))
  have cTO := fun (dd : Nat) (os : Array Obj) => Calls.regrown_of (TO (grow (redrawn W dd) os))
  have cW1 := fun (dd : Nat) (os : Array Obj) => Calls.regrown_of (W1 (grow (redrawn W dd) os))
  have cV1 := fun (dd : Nat) (os : Array Obj) => Calls.regrown_of (V1 (grow (redrawn W dd) os))
  have cO1 := fun (dd : Nat) (os : Array Obj) => Calls.regrown_of (O1 (grow (redrawn W dd) os))
  have cQ1 := fun (dd : Nat) (os : Array Obj) => Calls.regrown_of (Q1 (grow (redrawn W dd) os))
  clear J12 J21 J23 J1_23 J12_3 R12 T1 T2 T12 TO W1 V1 O1 Q1 KK
  go_enter Try.func3, Try.ntmps3
  go_wp2_with fail
  have k0 := cell_regrown c0
  have k1 := cell_regrown c1
  have k2 := cell_regrown c2
  have k3 := cell_regrown c3
  clear c0 c1 c2 c3 c4 c5
  refine wp_region_quiet_below (by kernel_rfl) (by kernel_rfl) ?_
  repeat (quiet_step (first | with_reducible exact cJ12 _ _ | with_reducible exact cR12 _ _ | with_reducible exact cT12 _ _ | with_reducible exact cT1 _ _ | with_reducible exact cT2 _ _ | with_reducible exact cTO _ _ | with_reducible exact cW1 _ _ | with_reducible exact cV1 _ _ | with_reducible exact cO1 _ _ | with_reducible exact cQ1 _ _))
  refine wpQuiet_nil ?_
  intro _ hw'
  obtain ⟨⟨dq, osq⟩, hw''⟩ := hw'
  subst hw''
  have hbX := below_regrown W dq osq
  generalize grow (redrawn W dq) osq = X at *
  have HJX := Lib.hid (HJ.out.below hbX)
  have HBX := Lib.hid (HB.out.trans (hbX.mono HB.out.size))
  clear k0 k1 k2 k3 cJ12 cR12 cT1 cT2 cT12 cTO cW1 cV1 cO1 cQ1 a1 a2 hbX l0 l1 l2
  have b1 : ∀ W : World, (binOp .eql 23 (.agg #[.int .i64 ju, .int .i64 jd]) (.agg #[.int .i64 ju, .int .i64 jd])).run Try.prog W = .ok (.bool true) W := fun W => by rw [sr_eql, decide_eq_true ⟨rfl, rfl⟩]
  have b2 : ∀ W : World, (binOp .eql 23 (.agg #[.int .i64 xu, .int .i64 xd]) (.agg #[.int .i64 xu, .int .i64 xd])).run Try.prog W = .ok (.bool true) W := fun W => by rw [sr_eql, decide_eq_true ⟨rfl, rfl⟩]
  have c0 : X.cell? ⟨w.heap.size, 0, none⟩ = some (.int .i64 u) := cell_ofS HJX.out.b0 rfl
  have c1 : X.cell? ⟨w.heap.size, 1, none⟩ = some (.int .i64 d) := cell_ofS HJX.out.b0 rfl
  have c2 : X.cell? ⟨w.heap.size + 1, 0, none⟩ = some (.int .i64 u2) := cell_ofS HJX.out.b1 rfl
  have c3 : X.cell? ⟨w.heap.size + 1, 1, none⟩ = some (.int .i64 d2) := cell_ofS HJX.out.b1 rfl
  have c4 : X.cell? ⟨w.heap.size + 1 + 1, 0, none⟩ = some (.int .i64 u3) := cell_ofS HJX.out.b2 rfl
  have c5 : X.cell? ⟨w.heap.size + 1 + 1, 1, none⟩ = some (.int .i64 d3) := cell_ofS HJX.out.b2 rfl
  have l0 := blk_ltS HJX.out.b0
  have l1 := blk_ltS HJX.out.b1
  have l2 := blk_ltS HJX.out.b2
  go_wp2_with fail
  have k0 := cell_regrown c0
  have k1 := cell_regrown c1
  have k2 := cell_regrown c2
  have k3 := cell_regrown c3
  have k4 := cell_regrown c4
  have k5 := cell_regrown c5
  have d12 := fun (dd : Nat) (os : Array Obj) => Calls.regrown_of (HJ12.out (grow (redrawn X dd) os))
  have d21 := fun (dd : Nat) (os : Array Obj) => Calls.regrown_of (HJ21.out (grow (redrawn X dd) os))
  have d23 := fun (dd : Nat) (os : Array Obj) => Calls.regrown_of (HJ23.out (grow (redrawn X dd) os))
  have d1_23 := fun (dd : Nat) (os : Array Obj) => Calls.regrown_of (HJ1_23.out (grow (redrawn X dd) os))
  have d12_3 := fun (dd : Nat) (os : Array Obj) => Calls.regrown_of (HJ12_3.out (grow (redrawn X dd) os))
  have dK := fun (dd : Nat) (os : Array Obj) => Calls.regrown_of (HKK.out (grow (redrawn X dd) os))
  clear c0 c1 c2 c3 c4 c5
  refine wp_region_quiet_below (by kernel_rfl) (by kernel_rfl) ?_
  repeat (quiet_step (first | with_reducible exact d12 _ _ | with_reducible exact d21 _ _ | with_reducible exact d23 _ _ | with_reducible exact d1_23 _ _ | with_reducible exact d12_3 _ _ | with_reducible exact dK _ _))
  refine wpQuiet_nil ?_
  intro _ hw'
  obtain ⟨⟨dq2, osq2⟩, hw''⟩ := hw'
  subst hw''
  go_wp2_with fail
  go_ret
  exact ⟨rfl, HBX.out.trans ((below_regrown X dq2 osq2).mono HBX.out.size)⟩
end Go.Proofs.Ytajmmnmagbnigaa
