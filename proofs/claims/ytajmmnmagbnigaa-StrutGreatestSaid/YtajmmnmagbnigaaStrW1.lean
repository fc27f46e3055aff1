/- Layer 19: struts that are held, joined, worth something. -/
import Derived.Test.YtajmmnmagbnigaaFixA
import Derived.Test.YtajmmnmagbnigaaStrP
import Derived.StillTailTactics
import Derived.Deep.RegionWith
import Derived.Outline
import Derived.Laws.StructEq
import Derived.Below
namespace Go.Proofs.Ytajmmnmagbnigaa
open Go.RowKit FixM StrP
set_option linter.unusedVariables false

theorem cell_ofS {w : World} {B k : Nat} {a : Array Value} {T : TypeId} {v : Value} (h : w.heap[B]? = some (.cells a T (0, 0))) (hv : a[k]? = some v) : w.cell? ⟨B, k, none⟩ = some v := by
  unfold World.cell?; rw [h]; exact hv
theorem frz_ofS {w : World} {B k : Nat} {a : Array Value} {T : TypeId} (h : w.heap[B]? = some (.cells a T (0, 0))) : w.frozen? ⟨B, k, none⟩ = false := by
  unfold World.frozen?; rw [h]; rfl
theorem blk_ltS {w : World} {B : Nat} {o : Obj} (h : w.heap[B]? = some o) : B < w.heap.size := (Array.getElem?_eq_some_iff.1 h).1

theorem Hold_st (x : Int) (w : World) : Calls Try.prog 20 #[.int .i64 x] w fun e w' => e = .returned (.int .i64 (H x)) ∧ w' = w := (Hold_any x w).mono fun e w' h => ⟨h.1, h.2.symm⟩
set_option maxRecDepth 100000 in
set_option maxHeartbeats 1000000 in
theorem hold19_any (u d : Int) (w : World) : Calls Try.prog 18 #[.agg #[.int .i64 u, .int .i64 d]] w fun e w' => e = .returned (.agg #[.int .i64 (H u), .int .i64 (H d)]) ∧ Below w.heap.size w w' := by
  go_enter Try.func18, Try.ntmps18
  go_wp2_with fail
  go_region_with (go_at_call 20; refine (Hold_any _ _).mono ?_; rintro e wq ⟨rfl, rfl⟩)
  all_goals go_wp2_with fail
  all_goals exact bodyPost_ret (v := .agg #[.int .i64 (H u), .int .i64 (H d)]) (by simp [results, Try.results18, go_sem]) rfl ⟨rfl, (((Below.refl _ _).alloc (Nat.le_refl _) _).alloc (by simp) _).drew⟩
/-- two cells stored -/
theorem put2 (W : World) (B : Nat) (T : TypeId) (x0 y0 x y : Value) (h : W.heap[B]? = some (.cells #[x0, y0] T (0, 0))) :
    ((W.setCell ⟨B, 0, none⟩ x).setCell ⟨B, 1, none⟩ y).heap[B]? = some (.cells #[x, y] T (0, 0)) ∧ (∀ k, k ≠ B → ((W.setCell ⟨B, 0, none⟩ x).setCell ⟨B, 1, none⟩ y).heap[k]? = W.heap[k]?) ∧ (∀ n w, n ≤ B → Below n w W → Below n w ((W.setCell ⟨B, 0, none⟩ x).setCell ⟨B, 1, none⟩ y)) ∧ ((W.setCell ⟨B, 0, none⟩ x).setCell ⟨B, 1, none⟩ y).heap.size = W.heap.size := by
  refine ⟨heap_setCell_same _ B 1 _ T y (heap_setCell_same _ B 0 _ T x h), fun k hk => ?_, fun n w hn hb => (hb.setCell (p := ⟨B, 0, none⟩) hn x).setCell (p := ⟨B, 1, none⟩) hn y, ?_⟩
  · rw [heap_setCell_other _ _ _ _ hk, heap_setCell_other _ _ _ _ hk]
  · simp [World.setCell]

/-- two boxes and what is answered -/
structure Jn (w W : World) (a b c : Obj) : Prop where
  b0 : W.heap[w.heap.size]? = some a
  b1 : W.heap[w.heap.size + 1]? = some b
  b2 : W.heap[w.heap.size + 1 + 1]? = some c
  bel : Below w.heap.size w W
theorem Jn.below {w W W' : World} {a b c : Obj} (h : Jn w W a b c) (hb : Below W.heap.size W W') : Jn w W' a b c :=
  ⟨(hb.block _ (blk_ltS h.b0)).trans h.b0, (hb.block _ (blk_ltS h.b1)).trans h.b1, (hb.block _ (blk_ltS h.b2)).trans h.b2, h.bel.trans (hb.mono h.bel.size)⟩
theorem Jn.drew {w W : World} {a b c : Obj} (h : Jn w W a b c) : Jn w W.drew a b c := ⟨h.b0, h.b1, h.b2, h.bel.drew⟩
theorem Jn.start (w : World) (a b c : Array Value) (T : TypeId) : Jn w (((w.alloc (.cells a T)).alloc (.cells b T)).alloc (.cells c T)) (.cells a T (0, 0)) (.cells b T (0, 0)) (.cells c T (0, 0)) := by
  have s1 : (w.alloc (.cells a T)).heap.size = w.heap.size + 1 := by simp
  have s2 : ((w.alloc (.cells a T)).alloc (.cells b T)).heap.size = w.heap.size + 2 := by simp
  have b1 : Below w.heap.size w (w.alloc (.cells a T)) := (Below.refl _ _).alloc (Nat.le_refl _) _
  have b2 : Below (w.heap.size + 1) (w.alloc (.cells a T)) ((w.alloc (.cells a T)).alloc (.cells b T)) := (Below.refl _ _).alloc (Nat.le_of_eq s1.symm) _
  have b3 : Below (w.heap.size + 2) ((w.alloc (.cells a T)).alloc (.cells b T)) (((w.alloc (.cells a T)).alloc (.cells b T)).alloc (.cells c T)) := (Below.refl _ _).alloc (Nat.le_of_eq s2.symm) _
  have n0 := heap_alloc_new w (.cells a T)
  have n1 := heap_alloc_new (w.alloc (.cells a T)) (.cells b T)
  have n2 := heap_alloc_new ((w.alloc (.cells a T)).alloc (.cells b T)) (.cells c T)
  rw [s1] at n1
  rw [s2] at n2
  refine ⟨?_, ?_, n2, b1.trans ((b2.mono (by omega)).trans (b3.mono (by omega)))⟩
  · rw [b3.block _ (by omega), b2.block _ (by omega)]; exact n0
  · rw [b3.block _ (by omega)]; exact n1

theorem Jn.put {w W : World} {x0 y0 z0 t0 : Value} {T U : TypeId} {c : Obj} (h : Jn w W (.cells #[x0, y0] T (0, 0)) (.cells #[z0, t0] U (0, 0)) c) (x y z t : Value) :
    Jn w ((((W.setCell ⟨w.heap.size, 0, none⟩ x).setCell ⟨w.heap.size, 1, none⟩ y).setCell ⟨w.heap.size + 1, 0, none⟩ z).setCell ⟨w.heap.size + 1, 1, none⟩ t) (.cells #[x, y] T (0, 0)) (.cells #[z, t] U (0, 0)) c := by
  obtain ⟨p1, p2, p3, p4⟩ := put2 W w.heap.size T x0 y0 x y h.b0
  obtain ⟨q1, q2, q3, q4⟩ := put2 ((W.setCell ⟨w.heap.size, 0, none⟩ x).setCell ⟨w.heap.size, 1, none⟩ y) (w.heap.size + 1) U z0 t0 z t ((p2 _ (by omega)).trans h.b1)
  exact ⟨(q2 _ (by omega)).trans p1, q1, (q2 _ (by omega)).trans ((p2 _ (by omega)).trans h.b2), q3 _ _ (by omega) (p3 _ _ (Nat.le_refl _) h.bel)⟩
set_option maxRecDepth 100000 in
set_option maxHeartbeats 2000000 in
theorem Join19_any (u d u2 d2 : Int) (w : World) : Calls Try.prog 8 #[.agg #[.int .i64 u, .int .i64 d], .agg #[.int .i64 u2, .int .i64 d2]] w fun e w' => e = .returned (.agg #[.int .i64 (jU u u2), .int .i64 (jD d d2)]) ∧ Below w.heap.size w w' := by
  have hJ := Jn.start w #[.int .i64 u, .int .i64 d] #[.int .i64 u2, .int .i64 d2] #[.int .i64 0, .int .i64 0] 23
  generalize hW : ((w.alloc (.cells #[.int .i64 u, .int .i64 d] 23)).alloc (.cells #[.int .i64 u2, .int .i64 d2] 23)).alloc (.cells #[.int .i64 0, .int .i64 0] 23) = W at hJ
  have HJ0 := Lib.hid hJ.drew
  obtain ⟨b0, b1, b2, hb⟩ := hJ
  have hs := hb.size
  have c0 := cell_ofS (k := 0) b0 rfl
  have c1 := cell_ofS (k := 1) b0 rfl
  have c2 := cell_ofS (k := 0) b1 rfl
  have c3 := cell_ofS (k := 1) b1 rfl
  clear b0 b1 b2 hb
  go_enter Try.func8, Try.ntmps8
  go_wp2_with fail
  go_region_with (go_at_call 18; refine (hold19_any _ _ _).mono ?_; rintro e wq ⟨rfl, hbq⟩; have hJ1 := (by first | exact HJ1.out | exact HJ0.out : Jn w _ _ _ _).below hbq; have HJ1 := Lib.hid hJ1; obtain ⟨b0, b1, b2, hb⟩ := hJ1; clear hb c0 c1 c2 c3; have c0 := cell_ofS (k := 0) b0 rfl; have c1 := cell_ofS (k := 1) b0 rfl; have c2 := cell_ofS (k := 0) b1 rfl; have c3 := cell_ofS (k := 1) b1 rfl; have f0 := frz_ofS (k := 0) b0; have f1 := frz_ofS (k := 1) b0; have f2 := frz_ofS (k := 0) b1; have f3 := frz_ofS (k := 1) b1; have l0 := blk_ltS b0; have l1 := blk_ltS b1; clear b0 b1 b2 hbq)
  all_goals (have hJ9 := HJ1.out.put (.int .i64 (H u)) (.int .i64 (H d)) (.int .i64 (H u2)) (.int .i64 (H d2)))
  all_goals (generalize (((wq.setCell ⟨w.heap.size, 0, none⟩ (.int .i64 (H u))).setCell ⟨w.heap.size, 1, none⟩ (.int .i64 (H d))).setCell ⟨w.heap.size + 1, 0, none⟩ (.int .i64 (H u2))).setCell ⟨w.heap.size + 1, 1, none⟩ (.int .i64 (H d2)) = W9 at *)
  all_goals (have HJ9 := Lib.hid hJ9; obtain ⟨b0, b1, b2, hb⟩ := hJ9; clear c0 c1 c2 c3 f0 f1 f2 f3 l0 l1; have c0 := cell_ofS (k := 0) b0 rfl; have c1 := cell_ofS (k := 1) b0 rfl; have c2 := cell_ofS (k := 0) b1 rfl; have c3 := cell_ofS (k := 1) b1 rfl; have f0 := frz_ofS (k := 0) b2; have f1 := frz_ofS (k := 1) b2; have l2 := blk_ltS b2; have g0 := cell_ofS (k := 0) b2 rfl; have g1 := cell_ofS (k := 1) b2 rfl; clear b0 b1 b2 hb)
  all_goals go_wp2_with fail
  all_goals
    have hP := fun x y => put2 W9 (w.heap.size + 1 + 1) 23 (.int .i64 0) (.int .i64 0) x y HJ9.out.b2
    have hfin : ∀ x y : Int, x = jU u u2 → y = jD d d2 → ∀ (f : Act), f.tmps[4]? = some (.pointer (some ⟨w.heap.size + 1 + 1, 0, none⟩)) → f.defers = [] → bodyPost Try.prog Try.f8 (fun e w' => e = .returned (.agg #[.int .i64 (jU u u2), .int .i64 (jD d d2)]) ∧ Below w.heap.size w w') .ret f ((W9.setCell ⟨w.heap.size + 1 + 1, 0, none⟩ (.int .i64 x)).setCell ⟨w.heap.size + 1 + 1, 1, none⟩ (.int .i64 y)) := by
      intro x y hx hy f hf hdf
      subst hx; subst hy
      have q0 := cell_ofS (k := 0) (hP (.int .i64 (jU u u2)) (.int .i64 (jD d d2))).1 rfl
      have q1 := cell_ofS (k := 1) (hP (.int .i64 (jU u u2)) (.int .i64 (jD d d2))).1 rfl
      have q2 := (hP (.int .i64 (jU u u2)) (.int .i64 (jD d d2))).2.2.1 w.heap.size w (by omega) HJ9.out.bel
      refine bodyPost_ret (v := .agg #[.int .i64 (jU u u2), .int .i64 (jD d d2)]) (by simp [results, Try.results8, go_sem, hf, q0, q1]) hdf ⟨rfl, q2⟩
    first
    | exact hfin (H u) (H d) (by unfold jU; omega) (by unfold jD; omega) _ rfl rfl
    | exact hfin (H u2) (H d) (by unfold jU; omega) (by unfold jD; omega) _ rfl rfl
    | exact hfin (H u) (H d2) (by unfold jU; omega) (by unfold jD; omega) _ rfl rfl
    | exact hfin (H u2) (H d2) (by unfold jU; omega) (by unfold jD; omega) _ rfl rfl
set_option maxRecDepth 100000 in
set_option maxHeartbeats 2000000 in
theorem Worth19_any (u d : Int) (w : World) : Calls Try.prog 10 #[.agg #[.int .i64 u, .int .i64 d]] w fun e w' => e = .returned (.int .i64 (wT u d)) ∧ Below w.heap.size w w' := by
  go_enter Try.func10, Try.ntmps10
  go_wp2_with (go_at_call 19; refine (Add_any _ _ _).mono ?_; rintro e w' ⟨rfl, rfl⟩)
  go_ret
  exact ⟨rfl, (Below.refl _ _).alloc (Nat.le_refl _) _⟩
set_option maxRecDepth 100000 in
set_option maxHeartbeats 2000000 in
theorem Of19_any (m : Int) (w : World) : Calls Try.prog 12 #[.int .i64 m] w fun e w' => e = .returned (.agg #[.int .i64 (max 0 (H m)), .int .i64 (min 0 (H m))]) ∧ Below w.heap.size w w' := by
  go_enter Try.func12, Try.ntmps12
  go_wp2_with (go_at_call 20; refine (Hold_any _ _).mono ?_; rintro e w' ⟨rfl, rfl⟩)
  all_goals
    have hfin : ∀ x y : Int, x = max 0 (H m) → y = min 0 (H m) → ∀ (f : Act) (W : World), f.tmps[2]? = some (.pointer (some ⟨w.heap.size, 0, none⟩)) → f.defers = [] → W = w.alloc (.cells #[.int .i64 x, .int .i64 y] 23) → bodyPost Try.prog Try.f12 (fun e w' => e = .returned (.agg #[.int .i64 (max 0 (H m)), .int .i64 (min 0 (H m))]) ∧ Below w.heap.size w w') .ret f W := by
      intro x y hx hy f W hf hdf hW
      subst hx; subst hy; subst hW
      exact bodyPost_ret (v := .agg #[.int .i64 (max 0 (H m)), .int .i64 (min 0 (H m))]) (by simp [results, Try.results12, go_sem, hf]) hdf ⟨rfl, (Below.refl _ _).alloc (Nat.le_refl _) _⟩
    first
    | exact hfin 0 (H m) (by omega) (by omega) _ _ rfl rfl rfl
    | exact hfin (H m) 0 (by omega) (by omega) _ _ rfl rfl rfl
    | exact hfin 0 0 (by omega) (by omega) _ _ rfl rfl rfl
set_option maxRecDepth 100000 in
theorem sr_eqIn (k1 k2 n1 n2 : Int) (w : World) : (Op.equalIn 10000 23 (.agg #[.int .i64 k1, .int .i64 n1]) (.agg #[.int .i64 k2, .int .i64 n2])).run Try.prog w = .ok (decide (k1 = k2 ∧ n1 = n2)) w := by
  rw [run_equalIn_agg w 9999 23 _ _ (by kernel_rfl) (by kernel_rfl)]
  have hf : Try.prog.fieldsOf 23 = (match Try.prog.underlying 23 with | some (.struct fs) => fs | _ => #[]) := rfl
  rw [hf, Try.underlying23]
  have p1 : ∀ (k : Int) (n : Int) (w : World), (part 3 #[.int .i64 k, .int .i64 n] 0).run Try.prog w = .ok (.int .i64 k) w := fun _ _ w => by kernel_rfl
  have p3 : ∀ (k : Int) (n : Int) (w : World), (part 3 #[.int .i64 k, .int .i64 n] 1).run Try.prog w = .ok (.int .i64 n) w := fun _ _ w => by kernel_rfl
  simp only [Op.eqFields, Sem.run_ite, Sem.run_bind, p1, p3, Result.andThen_ok, run_equalIn_int w 9998 3 .i64 .i64 k1 k2 Try.underlying3, run_equalIn_int w 9998 3 .i64 .i64 n1 n2 Try.underlying3]
  by_cases h1 : k1 = k2
  · subst h1
    by_cases h3 : n1 = n2
    · subst h3; simp
    · have e3 : (n1 == n2) = false := by rw [beq_eq_false_iff_ne]; exact h3
      simp [h3, e3]
  · have e1 : (k1 == k2) = false := by rw [beq_eq_false_iff_ne]; exact h1
    simp [h1, e1]
theorem sr_eql (k1 k2 n1 n2 : Int) (w : World) : (binOp .eql 23 (.agg #[.int .i64 k1, .int .i64 n1]) (.agg #[.int .i64 k2, .int .i64 n2])).run Try.prog w = .ok (.bool (decide (k1 = k2 ∧ n1 = n2))) w := by
  rw [run_eql_struct, sr_eqIn]; rfl
theorem sr_neq (k1 k2 n1 n2 : Int) (w : World) : (binOp .neq 23 (.agg #[.int .i64 k1, .int .i64 n1]) (.agg #[.int .i64 k2, .int .i64 n2])).run Try.prog w = .ok (.bool (!decide (k1 = k2 ∧ n1 = n2))) w := by
  rw [run_neq_struct, sr_eqIn]; rfl
end Go.Proofs.Ytajmmnmagbnigaa
