/- Layer 18: runs of texts. -/
import Derived.Test.YtekmgpbolbkiaaaWdsW1
import Derived.Test.YtekmgpbolbkiaaaMem
import Derived.StillTailTactics
import Derived.Laws.Rows
import Derived.Deep.LoopGhost
namespace Go.Proofs.Ytekmgpbolbkiaaa
open Go.RowKit FixM FixP TreN WdsP
set_option linter.unusedVariables false

theorem below_drewW {B : Nat} {a w : World} (h : Below B a w) (q : Nat) : Below B a (w.drewN q) := h.trans ⟨rfl, rfl, rfl, Nat.le_refl _, fun _ _ => rfl⟩
theorem flip_world {P : Program} {f : Nat} {args : Array Value} {w : World} {v : Value} (h : Calls P f args w fun e w' => e = .returned v ∧ w = w') : Calls P f args w fun e w' => e = .returned v ∧ w' = w := h.mono fun _ _ ⟨a, b⟩ => ⟨a, b.symm⟩

set_option maxRecDepth 100000 in
set_option maxHeartbeats 4000000 in
/-- a run lies in block b -/
theorem advance18_any (b : Nat) (a c : Int) (w : World) (h : w.cell? ⟨b, 1, none⟩ = some (.int .i64 a)) (hf : w.frozen? ⟨b, 1, none⟩ = false) :
    Calls Try.prog 31 #[.pointer (some ⟨b, 0, none⟩), .int .u8 c] w fun e w' => e = .returned (.tuple #[]) ∧ ∃ q, w' = (w.drewN q).setCell ⟨b, 1, none⟩ (.int .i64 (H (H a + H (advB c)))) := by
  obtain ⟨d, hd⟩ : ∃ d, advB c = d := ⟨_, rfl⟩
  have C1 : ∀ w, _ := fun w => flip_world (Advance18_any c w)
  rw [hd] at C1 ⊢
  have CC := Lib.hid C1
  have AA := Lib.hid (fun w => flip_world (Add_any a d w))
  clear C1 hd
  go_enter Try.func31, Try.ntmps31
  go_wp2_with fail
  refine wp_region_still_tail 10 (by kernel_rfl) (by kernel_rfl) ?_
  simp only [List.take_succ_cons, List.take_zero, List.drop_succ_cons, List.drop_zero]
  repeat (first | still_step | still_call (CC.out _) | still_call (AA.out _))
  refine wpStill_nil ?_
  change wpList _ _ _ _ _ w.drew
  go_wp2_with fail
  go_end0
  exact ⟨rfl, 1, rfl⟩

/-- a run in block n, and what is answered behind it -/
structure RunAt (w W : World) (t A : Int) : Prop where
  here : W.heap[w.heap.size]? = some (.cells #[.int .i64 t, .int .i64 A] 45 (0, 0))
  next : W.heap[w.heap.size + 1]? = some (.cells #[.int .i64 0, .int .i64 0] 45 (0, 0))
  bel : Below w.heap.size w W
theorem RunAt.step {w W : World} {t A : Int} (h : RunAt w W t A) (q : Nat) (B : Int) : RunAt w ((W.drewN q).setCell ⟨w.heap.size, 1, none⟩ (.int .i64 B)) t B := by
  refine ⟨?_, ?_, ?_⟩
  · have e : (W.drewN q).heap[w.heap.size]? = _ := h.here
    rw [setCell_here _ e]; rfl
  · rw [setCell_there _ (by simp)]; exact h.next
  · exact (below_drewW h.bel q).setCell (p := ⟨w.heap.size, 1, none⟩) (Nat.le_refl _) _
theorem RunAt.start (w : World) (t A : Int) : RunAt w ((w.alloc (.cells #[.int .i64 t, .int .i64 A] 45)).alloc (.cells #[.int .i64 0, .int .i64 0] 45)) t A := by
  refine ⟨?_, ?_, ((Below.refl _ _).alloc (Nat.le_refl _) _).alloc (by simp) _⟩
  · rw [Below.heap_alloc _ _ _ (by simp)]; exact heap_alloc_new w _
  · have := heap_alloc_new (w.alloc (.cells #[.int .i64 t, .int .i64 A] 45)) (.cells #[.int .i64 0, .int .i64 0] 45); rwa [World.size_alloc] at this
theorem RunAt.adv {w W : World} {t : Int} {a : Int} (h : RunAt w W t (H a)) (ha : 0 ≤ a) (c : Int) :
    Calls Try.prog 31 #[.pointer (some ⟨w.heap.size, 0, none⟩), .int .u8 c] W fun e w' => e = .returned (.tuple #[]) ∧ RunAt w w' t (H (a + advB c)) := by
  refine (advance18_any w.heap.size (H a) c W (cell_of h.here rfl) (unfrozen_of h.here)).mono ?_
  rintro e w' ⟨rfl, q, rfl⟩
  rw [H_add ha (advB_bd c).1]
  exact ⟨rfl, h.step q _⟩

theorem RunAt.fin {w W : World} {t A : Int} (h : RunAt w W t A) : ∃ x1 x2 x3,
    (W.cell? ⟨w.heap.size, 0, none⟩ = some (.int .i64 t) ∧ W.frozen? ⟨w.heap.size, 0, none⟩ = false ∧ W.setCell ⟨w.heap.size, 0, none⟩ (.int .i64 (t + 1)) = x1) ∧
    (x1.cell? ⟨w.heap.size, 0, none⟩ = some (.int .i64 (t + 1)) ∧ x1.cell? ⟨w.heap.size, 1, none⟩ = some (.int .i64 A)) ∧
    (x1.cell? ⟨w.heap.size + 1, 0, none⟩ = some (.int .i64 0) ∧ x1.frozen? ⟨w.heap.size + 1, 0, none⟩ = false ∧ x1.setCell ⟨w.heap.size + 1, 0, none⟩ (.int .i64 (t + 1)) = x2) ∧
    (x2.cell? ⟨w.heap.size + 1, 1, none⟩ = some (.int .i64 0) ∧ x2.frozen? ⟨w.heap.size + 1, 1, none⟩ = false ∧ x2.setCell ⟨w.heap.size + 1, 1, none⟩ (.int .i64 A) = x3) ∧
    (x3.cell? ⟨w.heap.size + 1, 0, none⟩ = some (.int .i64 (t + 1)) ∧ x3.cell? ⟨w.heap.size + 1, 1, none⟩ = some (.int .i64 A)) ∧ Below w.heap.size w x3 := by
  have h1 := setCell_here (k := 0) (.int .i64 (t + 1)) h.here
  have h2 : (W.setCell ⟨w.heap.size, 0, none⟩ (.int .i64 (t + 1))).heap[w.heap.size + 1]? = _ := (setCell_there _ (by omega)).trans h.next
  have h3 := setCell_here (k := 0) (.int .i64 (t + 1)) h2
  have h4 := setCell_here (k := 1) (.int .i64 A) h3
  exact ⟨_, _, _, ⟨cell_of h.here rfl, unfrozen_of h.here, rfl⟩, ⟨cell_of h1 rfl, cell_of h1 rfl⟩, ⟨cell_of h2 rfl, unfrozen_of h2, rfl⟩, ⟨cell_of h3 rfl, unfrozen_of h3, rfl⟩, ⟨cell_of h4 rfl, cell_of h4 rfl⟩,
    ((h.bel.setCell (p := ⟨w.heap.size, 0, none⟩) (Nat.le_refl _) _).setCell (p := ⟨w.heap.size + 1, 0, none⟩) (by simp) _).setCell (p := ⟨w.heap.size + 1, 1, none⟩) (by simp) _⟩

set_option maxRecDepth 100000 in
set_option maxHeartbeats 4000000 in
theorem with18_any (t : Nat) (a : Int) (x : ByteArray) (w : World) (ht : t ≤ 1000000) (ha : 0 ≤ a) (hx : x.size ≤ maxLen) :
    Calls Try.prog 24 #[.agg #[.int .i64 (t : Int), .int .i64 (H a)], .string x] w fun e w' => e = .returned (.agg #[.int .i64 ((t : Int) + 1), .int .i64 (H (a + (if t = 0 then 0 else 250) + aw x))]) ∧ Below w.heap.size w w' := by
  unfold maxLen at hx
  obtain ⟨a1, ha1⟩ : ∃ a1, a + (if t = 0 then 0 else 250) = a1 := ⟨_, rfl⟩
  rw [ha1]
  have ha1n : 0 ≤ a1 := by rw [← ha1]; split <;> omega
  have R0 := Lib.hid (RunAt.start w (t : Int) (H a))
  have RA := Lib.hid (RunAt.adv (RunAt.start w (t : Int) (H a)) ha 32)
  have c0 := cell_of (k := 0) R0.out.here rfl
  have HA1 := Lib.hid ha1
  have HEND : Hid (aw x = awK x x.size) := Lib.hid rfl
  clear ha1
  generalize hav : aw x = av at *
  obtain ⟨A, hA⟩ : ∃ A, H (a1 + av) = A := ⟨_, rfl⟩
  rw [hA]
  have HA := Lib.hid hA
  clear hav hA
  obtain h0 | htz : (0 : Int) < (t : Int) ∨ ¬ (0 : Int) < (t : Int) := Decidable.em _
  all_goals
    go_enter Try.func24, Try.ntmps24
    go_wp2_with fail
  all_goals first
    | (refine RA.out.mono ?_
       rintro e w1 ⟨rfl, hr1⟩
       have HW : Hid (RunAt w w1 (t : Int) (H (a1 + awK x 0))) := Lib.hid (by
         have e : a + advB 32 = a1 := by rw [← HA1.out, if_neg (by omega)]; rfl
         rw [e] at hr1; simpa [awK] using hr1)
       clear hr1 R0 RA c0 HA1
       go_wp2_with fail)
    | (have HW : Hid (RunAt w ((w.alloc (.cells #[.int .i64 t, .int .i64 (H a)] 45)).alloc (.cells #[.int .i64 0, .int .i64 0] 45)) (t : Int) (H (a1 + awK x 0))) := Lib.hid (by
         have e : a = a1 := by rw [← HA1.out, if_pos (by omega)]; omega
         have := R0.out; rw [e] at this; rw [e]; simpa [awK] using this)
       clear R0 RA c0 HA1
       generalize (w.alloc (.cells #[.int .i64 t, .int .i64 (H a)] 45)).alloc (.cells #[.int .i64 0, .int .i64 0] 45) = w1 at *)
  all_goals
    go_loopw [12] (fun vi wr => ∃ k : Nat, vi = .int .i64 (k : Int) ∧ k ≤ x.size ∧ Hid (RunAt w wr (t : Int) (H (a1 + awK x k)))) (fun vi _ => x.size - (intOf vi).toNat)
    case atStart => exact ⟨0, rfl, by omega, HW⟩
    case round =>
      obtain ⟨k, rfl, hk, HR⟩ := hrel
      by_cases hlt : k < x.size
      · have hk0 := awK_bd x k
        have RB := Lib.hid (RunAt.adv HR.out (by omega) (x[k].toNat : Int))
        go_wp2_with fail
        refine RB.out.mono ?_
        rintro e w2 ⟨rfl, hr2⟩
        have HR2 : Hid (RunAt w w2 (t : Int) (H (a1 + awK x (k + 1)))) := Lib.hid (by
          have e : a1 + awK x k + advB (x[k].toNat : Int) = a1 + awK x (k + 1) := by rw [← bt_eq x k hlt]; simp only [awK]; omega
          rw [e] at hr2; exact hr2)
        clear hr2 RB
        go_wp2_with fail
        go_roundw
        case rel => exact ⟨k + 1, by go_num, by omega, HR2⟩
        case measure => simp [intOf]; omega
      · have hke : k = x.size := by omega
        have HF : Hid (RunAt w wr (t : Int) A) := Lib.hid (by rw [← HA.out, HEND.out, ← hke]; exact HR.out)
        obtain ⟨x1, x2, x3, ⟨p0, p1, p2⟩, ⟨q0, q1⟩, ⟨r0, r1, r2⟩, ⟨s0, s1, s2⟩, ⟨u0, u1⟩, hb⟩ := HF.out.fin
        have HB := Lib.hid hb
        clear hb hke HR HEND HF HA
        go_wp2_with fail
        exact bodyPost_ret (v := .agg #[.int .i64 ((t : Int) + 1), .int .i64 A]) (by simp [results, Try.results24, go_sem, u0, u1]) rfl ⟨rfl, HB.out⟩
end Go.Proofs.Ytekmgpbolbkiaaa
