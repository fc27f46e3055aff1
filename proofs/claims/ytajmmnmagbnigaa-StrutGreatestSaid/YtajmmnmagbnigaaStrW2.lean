/- Layer 19: a stacker. -/
import Derived.Test.YtajmmnmagbnigaaStrW1
import Derived.OwnWalk
import Derived.Lib.QuietBelow
import Derived.Deep.QuietTactic
import Derived.Deep.RegionLaw
import Derived.Deep.AppendLies
namespace Go.Proofs.Ytajmmnmagbnigaa
open Go.RowKit FixM StrP Go.Sort
set_option linter.unusedVariables false

def skc (nv : Value) (s : Sk) : Array Value := #[nv, .int .i64 s.hu, .int .i64 s.hd, .int .i64 s.fu, .int .i64 s.fd, .int .i64 s.hh, .bool s.th, .bool s.tp, .bool s.bt, .bool s.sd, .int .i64 s.y, .int .i64 s.lu, .int .i64 s.ld]
def ptc (p : Pt) : Array Value := #[.int .i64 p.tu, .int .i64 p.td, .int .i64 p.bu, .int .i64 p.bd, .int .i64 p.h, .bool p.thr]
/-- the stacker at K, and a part's box -/
structure Sw (w0 W : World) (K : Nat) (nv : Value) (s : Sk) (p : Pt) : Prop where
  k : W.heap[K]? = some (.cells (skc nv s) 49 (0, 0))
  p : W.heap[w0.heap.size]? = some (.cells (ptc p) 37 (0, 0))
  g : w0.grownBy W (some K)
  lt : K < w0.heap.size
theorem grown_below {w w' : World} (row : Option Nat) (hb : Below w.heap.size w w') : w.grownBy w' row := ⟨hb.os, hb.tape, hb.output, hb.size, fun k hk _ => hb.block k hk⟩
theorem grown_then {w wx x : World} {row : Option Nat} (h : w.grownBy wx row) (k : Below w.heap.size wx x) : w.grownBy x row := ⟨k.os.trans h.os, k.tape.trans h.tape, k.output.trans h.output, Nat.le_trans h.size k.size, fun i hi hn => (k.block i hi).trans (h.block i hi hn)⟩
theorem grown_set {w W : World} {P : Nat} (h : w.grownBy W (some P)) (k : Nat) (v : Value) : w.grownBy (W.setCell ⟨P, k, none⟩ v) (some P) := ⟨h.os, h.tape, h.output, by simp [World.setCell]; exact h.size, fun i hi hn => by
  rw [heap_setCell_other _ _ _ _ (fun e => hn (by rw [e]))]; exact h.block i hi hn⟩
theorem Sw.below {w0 W W' : World} {K : Nat} {nv : Value} {s : Sk} {p : Pt} (h : Sw w0 W K nv s p) (hb : Below W.heap.size W W') : Sw w0 W' K nv s p :=
  ⟨(hb.block _ (blk_ltS h.k)).trans h.k, (hb.block _ (blk_ltS h.p)).trans h.p, grown_then h.g (hb.mono h.g.size), h.lt⟩
theorem Sw.drew {w0 W : World} {K : Nat} {nv : Value} {s : Sk} {p : Pt} (h : Sw w0 W K nv s p) : Sw w0 W.drew K nv s p := ⟨h.k, h.p, ⟨h.g.os, h.g.tape, h.g.output, h.g.size, h.g.block⟩, h.lt⟩
theorem Sw.put {w0 W : World} {K : Nat} {nv nv' : Value} {s s' : Sk} {p : Pt} (h : Sw w0 W K nv s p) (k : Nat) (v : Value) (e : (skc nv s).setIfInBounds k v = skc nv' s') : Sw w0 (W.setCell ⟨K, k, none⟩ v) K nv' s' p := by
  refine ⟨?_, ?_, grown_set h.g k v, h.lt⟩
  · rw [← e]; exact heap_setCell_same _ K k _ _ v h.k
  · rw [heap_setCell_other _ _ _ _ (Nat.ne_of_gt h.lt)]; exact h.p
theorem Sw.put_lu {w0 W : World} {K : Nat} {nv : Value} {s : Sk} {p : Pt} (h : Sw w0 W K nv s p) (u d : Int) : Sw w0 ((W.setCell ⟨K, 11, none⟩ (.int .i64 (jU s.lu u))).setCell ⟨K, 12, none⟩ (.int .i64 (jD s.ld d))) K nv (jnd s u d) p :=
  (h.put (s' := { s with lu := jU s.lu u }) 11 _ rfl).put 12 _ rfl
structure Swc (W : World) (K n : Nat) (nv : Value) (s : Sk) (p : Pt) : Prop where
  c0 : W.cell? ⟨K, 0, none⟩ = some nv
  c1 : W.cell? ⟨K, 1, none⟩ = some (.int .i64 s.hu)
  c2 : W.cell? ⟨K, 2, none⟩ = some (.int .i64 s.hd)
  c7 : W.cell? ⟨K, 7, none⟩ = some (.bool s.tp)
  c8 : W.cell? ⟨K, 8, none⟩ = some (.bool s.bt)
  c9 : W.cell? ⟨K, 9, none⟩ = some (.bool s.sd)
  c10 : W.cell? ⟨K, 10, none⟩ = some (.int .i64 s.y)
  c11 : W.cell? ⟨K, 11, none⟩ = some (.int .i64 s.lu)
  c12 : W.cell? ⟨K, 12, none⟩ = some (.int .i64 s.ld)
  p0 : W.cell? ⟨n, 0, none⟩ = some (.int .i64 p.tu)
  p1 : W.cell? ⟨n, 1, none⟩ = some (.int .i64 p.td)
  p2 : W.cell? ⟨n, 2, none⟩ = some (.int .i64 p.bu)
  p3 : W.cell? ⟨n, 3, none⟩ = some (.int .i64 p.bd)
  p4 : W.cell? ⟨n, 4, none⟩ = some (.int .i64 p.h)
  p5 : W.cell? ⟨n, 5, none⟩ = some (.bool p.thr)
  f : ∀ k, W.frozen? ⟨K, k, none⟩ = false
  lk : K < W.heap.size
  ln : n < W.heap.size
theorem Sw.cells {w0 W : World} {K : Nat} {nv : Value} {s : Sk} {p : Pt} (h : Sw w0 W K nv s p) : Swc W K w0.heap.size nv s p :=
  ⟨cell_ofS h.k rfl, cell_ofS h.k rfl, cell_ofS h.k rfl, cell_ofS h.k rfl, cell_ofS h.k rfl, cell_ofS h.k rfl, cell_ofS h.k rfl, cell_ofS h.k rfl, cell_ofS h.k rfl, cell_ofS h.p rfl, cell_ofS h.p rfl, cell_ofS h.p rfl, cell_ofS h.p rfl, cell_ofS h.p rfl, cell_ofS h.p rfl, fun _ => frz_ofS h.k, blk_ltS h.k, blk_ltS h.p⟩

set_option maxRecDepth 100000 in
set_option maxHeartbeats 2000000 in
theorem escapes_any (K : Nat) (nv : Value) (s : Sk) (W : World) (h : W.heap[K]? = some (.cells (skc nv s) 49 (0, 0))) : Calls Try.prog 27 #[.pointer (some ⟨K, 0, none⟩)] W fun e w' => e = .returned (.bool (esc s)) ∧ W = w' := by
  have c7 : W.cell? ⟨K, 7, none⟩ = some (.bool s.tp) := cell_ofS h rfl
  have c9 : W.cell? ⟨K, 9, none⟩ = some (.bool s.sd) := cell_ofS h rfl
  unfold esc
  generalize s.tp = t at *
  generalize s.sd = d at *
  clear h
  cases t <;> cases d
  all_goals
    go_enter Try.func27, Try.ntmps27
    go_wp2_with fail
    go_ret
    exact ⟨rfl, rfl⟩

set_option maxRecDepth 100000 in
set_option maxHeartbeats 2000000 in
theorem place_any (K : Nat) (nv : Value) (s : Sk) (W : World) (h : W.heap[K]? = some (.cells (skc nv s) 49 (0, 0))) : Calls Try.prog 26 #[.pointer (some ⟨K, 0, none⟩)] W fun e w' => e = .returned (.int .i64 (plc s)) ∧ Below W.heap.size W w' := by
  have C := Lib.hid (fun W h => escapes_any K nv s W h)
  have c10 : W.cell? ⟨K, 10, none⟩ = some (.int .i64 s.y) := cell_ofS h rfl
  have c11 : W.cell? ⟨K, 11, none⟩ = some (.int .i64 s.lu) := cell_ofS h rfl
  have c12 : W.cell? ⟨K, 12, none⟩ = some (.int .i64 s.ld) := cell_ofS h rfl
  have HH := Lib.hid h
  obtain ⟨r, hr⟩ : ∃ r, plc s = r := ⟨_, rfl⟩
  have HR := Lib.hid hr
  obtain ⟨b, hb⟩ : ∃ b, esc s = b := ⟨_, rfl⟩
  rw [hb] at C
  rw [hr]
  have HB := Lib.hid hb
  have lk := blk_ltS h
  clear hb hr h
  cases b
  · have hF : r = H (H s.y + H (wT s.lu s.ld)) := by rw [← HR.out]; unfold plc; rw [HB.out]; exact if_neg (by decide)
    have CW0 := fun w => Worth19_any s.lu s.ld w
    have CA0 := fun w => Add_any s.y (wT s.lu s.ld) w
    rw [← hF] at CA0
    generalize wT s.lu s.ld = z at CW0 CA0
    have CW := Lib.hid CW0
    have CA := Lib.hid CA0
    clear hF CW0 CA0
    go_enter Try.func26, Try.ntmps26
    go_wp2_with fail
    refine (C.out _ HH.out).mono ?_
    rintro e w' ⟨rfl, rfl⟩
    go_wp2_with fail
    have k10 := cell_regrown c10
    have k11 := cell_regrown c11
    have k12 := cell_regrown c12
    have cW : ∀ d os, Calls Try.prog 10 #[.agg #[.int .i64 s.lu, .int .i64 s.ld]] (grow (redrawn W d) os) fun e w'' => e = .returned (.int .i64 z) ∧ ∃ p : Regrown, w'' = grow (redrawn W p.d) p.os := fun d os => Calls.regrown_of (CW.out _)
    have cA : ∀ d os, Calls Try.prog 19 #[.int .i64 s.y, .int .i64 z] (grow (redrawn W d) os) fun e w'' => e = .returned (.int .i64 r) ∧ ∃ p : Regrown, w'' = grow (redrawn W p.d) p.os := fun d os => Calls.regrown_of ((CA.out _).mono fun e w' h => ⟨h.1, by rw [← h.2]; exact Below.refl _ _⟩)
    clear c10 c11 c12
    refine wp_region_quiet_below (by kernel_rfl) (by kernel_rfl) ?_
    repeat (quiet_step (first | exact cW _ _ | exact cA _ _))
    refine wpQuiet_nil ?_
    intro _ hw'
    obtain ⟨⟨dq, osq⟩, hw''⟩ := hw'
    subst hw''
    go_wp2_with fail
    go_ret
    exact ⟨rfl, below_regrown W dq osq⟩
  · have HF : Hid (r = s.y) := Lib.hid (by rw [← HR.out]; unfold plc; rw [HB.out]; exact if_pos rfl)
    go_enter Try.func26, Try.ntmps26
    go_wp2_with fail
    refine (C.out _ HH.out).mono ?_
    rintro e w' ⟨rfl, rfl⟩
    go_wp2_with fail
    go_ret
    exact ⟨ret_intF HF.out.symm, Below.refl _ _⟩
end Go.Proofs.Ytajmmnmagbnigaa
