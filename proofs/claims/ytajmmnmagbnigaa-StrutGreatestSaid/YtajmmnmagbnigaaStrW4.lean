/- Layer 19: a stacker's end. -/
import Derived.Test.YtajmmnmagbnigaaStrW3
import Derived.BigQuiet
namespace Go.Proofs.Ytajmmnmagbnigaa
open Go.RowKit FixM StrP Go.Sort
set_option linter.unusedVariables false

theorem run_imax19 {P : Program} (w : World) (ts : Array TypeId) (t : TypeId) (x y z : Int) (h : (if x < y then y else x) = z) :
    (Builtin.max_ ts t #[.int .i64 x, .int .i64 y]).run P w = .ok (.int .i64 z) w := by
  subst h
  by_cases h : x < y <;> simp [Builtin.max_, Builtin.max2, go_sem, h]
def Finished (w : World) (K : Nat) (nv : Value) (s : Sk) (e : Ending) (w' : World) : Prop :=
  e = .returned (.tuple #[]) ∧ w.grownBy w' (some K) ∧ w'.heap[K]? = some (.cells (skc nv s) 49 (0, 0))
/-- the stacker alone -/
structure Sv (w0 W : World) (K : Nat) (nv : Value) (s : Sk) : Prop where
  k : W.heap[K]? = some (.cells (skc nv s) 49 (0, 0))
  g : w0.grownBy W (some K)
theorem Sv.below {w0 W W' : World} {K : Nat} {nv : Value} {s : Sk} (h : Sv w0 W K nv s) (hb : Below W.heap.size W W') : Sv w0 W' K nv s :=
  ⟨(hb.block _ (blk_ltS h.k)).trans h.k, grown_then h.g (hb.mono h.g.size)⟩
theorem Sv.drew {w0 W : World} {K : Nat} {nv : Value} {s : Sk} (h : Sv w0 W K nv s) : Sv w0 W.drew K nv s := ⟨h.k, ⟨h.g.os, h.g.tape, h.g.output, h.g.size, h.g.block⟩⟩
theorem Sv.put {w0 W : World} {K : Nat} {nv nv' : Value} {s s' : Sk} (h : Sv w0 W K nv s) (k : Nat) (v : Value) (e : (skc nv s).setIfInBounds k v = skc nv' s') : Sv w0 (W.setCell ⟨K, k, none⟩ v) K nv' s' :=
  ⟨by rw [← e]; exact heap_setCell_same _ K k _ _ v h.k, grown_set h.g k v⟩

set_option maxRecDepth 100000 in
set_option maxHeartbeats 4000000 in
theorem finish_any (K : Nat) (nv : Value) (s : Sk) (w : World) (h : w.heap[K]? = some (.cells (skc nv s) 49 (0, 0))) : Calls Try.prog 24 #[.pointer (some ⟨K, 0, none⟩)] w (Finished w K nv (fin s)) := by
  have hV : Sv w w K nv s := ⟨h, ⟨rfl, rfl, rfl, Nat.le_refl _, fun _ _ _ => rfl⟩⟩
  have HV := Lib.hid hV
  have HVd := Lib.hid hV.drew
  have HE := Lib.hid (escapes_any K nv s w h)
  have HP := Lib.hid (place_any K nv s w h)
  obtain ⟨n1, hn1⟩ : ∃ x, fin s = x := ⟨_, rfl⟩
  rw [hn1]
  have HN1 := Lib.hid hn1
  have lk := blk_ltS h
  have c1 : w.cell? ⟨K, 1, none⟩ = some (.int .i64 s.hu) := cell_ofS h rfl
  have c2 : w.cell? ⟨K, 2, none⟩ = some (.int .i64 s.hd) := cell_ofS h rfl
  have c3 : w.cell? ⟨K, 3, none⟩ = some (.int .i64 s.fu) := cell_ofS h rfl
  have c4 : w.cell? ⟨K, 4, none⟩ = some (.int .i64 s.fd) := cell_ofS h rfl
  have c5 : w.cell? ⟨K, 5, none⟩ = some (.int .i64 s.hh) := cell_ofS h rfl
  have c6 : w.cell? ⟨K, 6, none⟩ = some (.bool s.th) := cell_ofS h rfl
  have c8 : w.cell? ⟨K, 8, none⟩ = some (.bool s.bt) := cell_ofS h rfl
  have c10 : w.cell? ⟨K, 10, none⟩ = some (.int .i64 s.y) := cell_ofS h rfl
  have c11 : w.cell? ⟨K, 11, none⟩ = some (.int .i64 s.lu) := cell_ofS h rfl
  have c12 : w.cell? ⟨K, 12, none⟩ = some (.int .i64 s.ld) := cell_ofS h rfl
  have f1 : w.frozen? ⟨K, 1, none⟩ = false := frz_ofS h
  have f2 : w.frozen? ⟨K, 2, none⟩ = false := frz_ofS h
  have f3 : w.frozen? ⟨K, 3, none⟩ = false := frz_ofS h
  have f4 : w.frozen? ⟨K, 4, none⟩ = false := frz_ofS h
  have f5 : w.frozen? ⟨K, 5, none⟩ = false := frz_ofS h
  have f6 : w.frozen? ⟨K, 6, none⟩ = false := frz_ofS h
  clear hn1 hV h
  obtain ⟨b, hb⟩ : ∃ b, esc s = b := ⟨_, rfl⟩
  rw [hb] at HE
  have HB := Lib.hid hb
  clear hb
  cases b
  · obtain ⟨b2, hb2⟩ : ∃ b, s.bt = b := ⟨_, rfl⟩
    rw [hb2] at c8
    have HB2 := Lib.hid hb2
    clear hb2
    cases b2
    · have HN2 : Hid (n1 = { s with hh := max 0 (plc s) }) := Lib.hid (by rw [← HN1.out]; unfold fin; rw [if_neg (by rw [HB.out]; decide), if_neg (by rw [HB2.out]; decide)])
      obtain ⟨q, hq⟩ : ∃ q, plc s = q := ⟨_, rfl⟩
      rw [hq] at HP HN2
      obtain ⟨m, hm⟩ : ∃ m, max 0 q = m := ⟨_, rfl⟩
      rw [hm] at HN2
      have HM := Lib.hid hm
      clear hq
      have r1 : ∀ (W : World) (ts : Array TypeId) (t : TypeId), (Builtin.max_ ts t #[.int .i64 0, .int .i64 q]).run Try.prog W = .ok (.int .i64 m) W := fun W ts t => run_imax19 W ts t _ _ _ (by rw [← hm, Int.max_def]; split <;> split <;> omega)
      clear hm
      go_enter Try.func24, Try.ntmps24
      go_wp2_with fail
      refine HE.out.mono ?_
      rintro e w' ⟨rfl, rfl⟩
      go_wp2_with fail
      refine HP.out.mono ?_
      rintro e w2 ⟨rfl, hb2⟩
      have hV2 := HV.out.below hb2
      have c5 : w2.cell? ⟨K, 5, none⟩ = some (.int .i64 s.hh) := cell_ofS hV2.k rfl
      have f5 : w2.frozen? ⟨K, 5, none⟩ = false := frz_ofS hV2.k
      have lk := blk_ltS hV2.k
      have HV3 := Lib.hid (hV2.put (s' := { s with hh := m }) 5 (.int .i64 m) rfl)
      clear hb2 hV2
      go_wp2_with fail
      refine bodyPost_ret (results_none rfl _ _ _) rfl ?_
      exact ⟨rfl, HV3.out.g, by rw [HN2.out]; exact HV3.out.k⟩
    · have HN2 : Hid (n1 = { s with fu := s.lu, fd := s.ld, hh := max 0 s.y }) := Lib.hid (by rw [← HN1.out]; unfold fin; rw [if_neg (by rw [HB.out]; decide), if_pos HB2.out])
      obtain ⟨m, hm⟩ : ∃ m, max 0 s.y = m := ⟨_, rfl⟩
      rw [hm] at HN2
      have r1 : ∀ (W : World) (ts : Array TypeId) (t : TypeId), (Builtin.max_ ts t #[.int .i64 0, .int .i64 s.y]).run Try.prog W = .ok (.int .i64 m) W := fun W ts t => run_imax19 W ts t _ _ _ (by rw [← hm, Int.max_def]; split <;> split <;> omega)
      clear hm
      have HV3 := Lib.hid (((HVd.out.put (s' := { s with fu := s.lu }) 3 (.int .i64 s.lu) rfl).put (s' := { s with fu := s.lu, fd := s.ld }) 4 (.int .i64 s.ld) rfl).put (s' := { s with fu := s.lu, fd := s.ld, hh := m }) 5 (.int .i64 m) rfl)
      go_enter Try.func24, Try.ntmps24
      go_wp2_with fail
      refine HE.out.mono ?_
      rintro e w' ⟨rfl, rfl⟩
      go_wp2_with fail
      go_big_region
      all_goals go_wp2_with fail
      all_goals refine bodyPost_ret (results_none rfl _ _ _) rfl ?_
      all_goals exact ⟨rfl, HV3.out.g, by rw [HN2.out]; exact HV3.out.k⟩
  · have HN2 : Hid (n1 = { s with hu := s.lu, hd := s.ld, th := s.bt }) := Lib.hid (by rw [← HN1.out]; unfold fin; rw [if_pos HB.out])
    have HV3 := Lib.hid (((HVd.out.put (s' := { s with hu := s.lu }) 1 (.int .i64 s.lu) rfl).put (s' := { s with hu := s.lu, hd := s.ld }) 2 (.int .i64 s.ld) rfl).put (s' := { s with hu := s.lu, hd := s.ld, th := s.bt }) 6 (.bool s.bt) rfl)
    go_enter Try.func24, Try.ntmps24
    go_wp2_with fail
    refine HE.out.mono ?_
    rintro e w' ⟨rfl, rfl⟩
    go_wp2_with fail
    go_big_region
    all_goals go_wp2_with fail
    all_goals refine bodyPost_ret (results_none rfl _ _ _) rfl ?_
    all_goals exact ⟨rfl, HV3.out.g, by rw [HN2.out]; exact HV3.out.k⟩
end Go.Proofs.Ytajmmnmagbnigaa
