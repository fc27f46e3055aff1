/- The walks of layer 5: touch. -/
import Derived.Test.YtipmgoejdkpknaaLexC3
import Derived.Deep.RegionHeld3
namespace Go.Proofs.Ytipmgoejdkpknaa
open Go.RowKit TreN LexP FixP
set_option linter.unusedVariables false

theorem blk_keep {W w2 : World} {b : Nat} {o : Obj} (hb : Below W.heap.size W w2) (h : W.heap[b]? = some o) : w2.heap[b]? = some o := by
  obtain ⟨hlt, _⟩ := Array.getElem?_eq_some_iff.1 h
  exact (hb.block b hlt).trans h
theorem cell_keep {W w2 : World} {p : Addr} {v : Value} (hb : Below W.heap.size W w2) (h : W.cell? p = some v) : w2.cell? p = some v :=
  (hb.cell (World.block_lt_of_cell? W _ h)).trans h

theorem tkB_two {W : World} {b : Nat} {k n k' n' : Int} {x x' : List UInt8} (h : W.heap[b]? = some (.cells #[.int .i64 k, .string ⟨x.toArray⟩, .int .i64 n, .int .i64 k', .string ⟨x'.toArray⟩, .int .i64 n'] 23 (0, 0))) : TkB W.heap.size W (some ⟨b, 0, none⟩) [⟨k, x, n⟩, ⟨k', x', n'⟩] := by
  refine Or.inr ⟨b, 0, rfl, ?_, ?_⟩
  · obtain ⟨hlt, _⟩ := Array.getElem?_eq_some_iff.1 h
    exact hlt
  · intro i hi
    have hi : i < 2 := hi
    rcases (by omega : i = 0 ∨ i = 1) with e | e
    · subst e
      exact ⟨cell_of h rfl, cell_of h rfl, cell_of h rfl⟩
    · subst e
      exact ⟨cell_of h rfl, cell_of h rfl, cell_of h rfl⟩

theorem isCut_two (w0 : World) (s : List UInt8) (k n k' n' : Int) (x x' : List UInt8) (h : Has0 w0) (hs : s.length ≤ 40000) (b : Nat) (W : World) (hb : Below w0.heap.size w0 W) (hx : W.heap[b]? = some (.cells #[.int .i64 k, .string ⟨x.toArray⟩, .int .i64 n, .int .i64 k', .string ⟨x'.toArray⟩, .int .i64 n'] 23 (0, 0))) :
    Calls Try.prog 18 #[.string ⟨s.toArray⟩, .slice (some ⟨b, 0, none⟩) 2 2] W fun e w' => e = .returned (.bool (decide (cut s = [⟨k, x, n⟩, ⟨k', x', n'⟩]))) ∧ Below W.heap.size W w' := by
  have := isCut_any ⟨s.toArray⟩ (some ⟨b, 0, none⟩) [⟨k, x, n⟩, ⟨k', x', n'⟩] 2 W (h.below hb) (by show s.toArray.size ≤ 40000; simp; omega) (by simp) (by simp) (tkB_two hx)
  rw [size_tx] at this
  refine this.mono ?_
  rintro e w' ⟨rfl, h1⟩
  exact ⟨rfl, h1⟩

theorem cell_drew_of {W : World} {p : Addr} {v : Value} (h : W.cell? p = some v) : W.drew.cell? p = some v := h

set_option maxRecDepth 100000 in
set_option maxHeartbeats 4000000 in
theorem touch_any (t u : Tok) (w : World) (h : Has0 w) (hx : t.text.length ≤ 30000) (hux : u.text.length ≤ 30000) (htx : (tx t).length + (tx u).length ≤ 40000) : Calls Try.prog 21 #[t.val, u.val] w fun e w' => e = .returned (.bool (decide (cut (tx t ++ tx u) = [t, u]))) ∧ Below w.heap.size w w' := by
  have CA := Lib.hid fun W => text_any t W (by omega)
  have CB := Lib.hid fun W => text_any u W (by omega)
  obtain ⟨k, x, n⟩ := t
  obtain ⟨k', x', n'⟩ := u
  have D := Lib.hid (isCut_two w (tx ⟨k, x, n⟩ ++ tx ⟨k', x', n'⟩) k n k' n' x x' h (by rw [List.length_append]; exact htx))
  unfold LexP.Tok.val at CA CB ⊢
  generalize tx ⟨k, x, n⟩ = z at *
  generalize tx ⟨k', x', n'⟩ = z' at *
  have a1 : ∀ W : World, (Op.stringOp .add ⟨z.toArray⟩ ⟨z'.toArray⟩).run Try.prog W = .ok (.string ⟨(z ++ z').toArray⟩) W := fun W => add_any W z z' (by omega) (by omega)
  clear h htx hx hux
  obtain ⟨tf, htf⟩ : ∃ tf, decide (cut (z ++ z') = [⟨k, x, n⟩, ⟨k', x', n'⟩]) = tf := ⟨_, rfl⟩
  rw [htf] at D ⊢
  clear htf
  have hi := info_token
  have hun := und_tokens
  go_enter Try.func21, Try.ntmps21
  go_wp2_with fail
  generalize hw1 : (w.alloc (.cells #[.int .i64 k, .string ⟨x.toArray⟩, .int .i64 n] 23)).alloc (.cells #[.int .i64 k', .string ⟨x'.toArray⟩, .int .i64 n'] 23) = w1
  obtain ⟨Bx, hBx⟩ : ∃ Bx, w.heap.size = Bx := ⟨_, rfl⟩
  have hx1 : w1.heap[Bx]? = some (.cells #[.int .i64 k, .string ⟨x.toArray⟩, .int .i64 n] 23 (0, 0)) := by rw [← hw1, ← hBx, Below.heap_alloc _ _ _ (by simp)]; exact heap_alloc_new w _
  have hx2 : w1.heap[Bx + 1]? = some (.cells #[.int .i64 k', .string ⟨x'.toArray⟩, .int .i64 n'] 23 (0, 0)) := by
    rw [← hw1, ← hBx]
    have := heap_alloc_new (w.alloc (.cells #[.int .i64 k, .string ⟨x.toArray⟩, .int .i64 n] 23)) (.cells #[.int .i64 k', .string ⟨x'.toArray⟩, .int .i64 n'] 23)
    simpa using this
  have hbw1 : Below w.heap.size w w1 := by rw [← hw1]; exact ((Below.refl _ _).alloc (Nat.le_refl _) _).alloc (by simp) _
  have c0 : w1.cell? ⟨Bx, 0, none⟩ = some (.int .i64 k) := cell_of hx1 rfl
  have c1 : w1.cell? ⟨Bx, 1, none⟩ = some (.string ⟨x.toArray⟩) := cell_of hx1 rfl
  have c2 : w1.cell? ⟨Bx, 2, none⟩ = some (.int .i64 n) := cell_of hx1 rfl
  have c3 : w1.cell? ⟨Bx + 1, 0, none⟩ = some (.int .i64 k') := cell_of hx2 rfl
  have c4 : w1.cell? ⟨Bx + 1, 1, none⟩ = some (.string ⟨x'.toArray⟩) := cell_of hx2 rfl
  have c5 : w1.cell? ⟨Bx + 1, 2, none⟩ = some (.int .i64 n') := cell_of hx2 rfl
  obtain ⟨By, hBy⟩ : ∃ By, Bx + 1 = By := ⟨_, rfl⟩
  rw [hBy] at c3 c4 c5
  rw [hBx]
  simp only [hBy]
  have HB1 := Lib.hid hbw1
  clear hw1 hx1 hx2
  go_region_held3 (fun w' => Below w.heap.size w w' ∧ w'.cell? ⟨Bx, 0, none⟩ = some (.int .i64 k) ∧ w'.cell? ⟨Bx, 1, none⟩ = some (.string ⟨x.toArray⟩) ∧ w'.cell? ⟨Bx, 2, none⟩ = some (.int .i64 n) ∧ w'.cell? ⟨By, 0, none⟩ = some (.int .i64 k') ∧ w'.cell? ⟨By, 1, none⟩ = some (.string ⟨x'.toArray⟩) ∧ w'.cell? ⟨By, 2, none⟩ = some (.int .i64 n'))
    ((refine ⟨?_, ?_, ?_, ?_, ?_, ?_, ?_⟩ <;> first
      | assumption
      | exact Below.drew (by assumption)
      | exact Below.alloc (by assumption) (Below.size (by assumption)) _
      | exact Below.drew (Below.alloc HB1.out (Below.size HB1.out) _)
      | exact cell_drew_of (by assumption)
      | exact cell_keep ((Below.refl _ _).alloc (Nat.le_refl _) _) (by assumption)
      | exact cell_drew_of (cell_keep ((Below.refl _ _).alloc (Nat.le_refl _) _) (by assumption))))
    ((first
    | (go_at_call_of 19 (Value.agg #[Value.int .i64 k, Value.string ⟨x.toArray⟩, Value.int .i64 n]); refine (CA.out _).mono ?_; rintro e w2 ⟨rfl, hb⟩; (try go_split_ands); have d0 := cell_keep (p := ⟨Bx, 0, none⟩) (v := .int .i64 k) hb (by assumption); have d1 := cell_keep (p := ⟨Bx, 1, none⟩) (v := .string ⟨x.toArray⟩) hb (by assumption); have d2 := cell_keep (p := ⟨Bx, 2, none⟩) (v := .int .i64 n) hb (by assumption); have d3 := cell_keep (p := ⟨By, 0, none⟩) (v := .int .i64 k') hb (by assumption); have d4 := cell_keep (p := ⟨By, 1, none⟩) (v := .string ⟨x'.toArray⟩) hb (by assumption); have d5 := cell_keep (p := ⟨By, 2, none⟩) (v := .int .i64 n') hb (by assumption); have d6 : Below w.heap.size w w2 := Below.trans (by assumption) (hb.mono (Below.size (by assumption))); (first | have HZ := Lib.hid (blk_keep hb HZ.out) | have HZ := Lib.hid (blk_keep hb (heap_alloc_new _ _)) | skip); clear hb)
    | (go_at_call_of 19 (Value.agg #[Value.int .i64 k', Value.string ⟨x'.toArray⟩, Value.int .i64 n']); refine (CB.out _).mono ?_; rintro e w2 ⟨rfl, hb⟩; (try go_split_ands); have d0 := cell_keep (p := ⟨Bx, 0, none⟩) (v := .int .i64 k) hb (by assumption); have d1 := cell_keep (p := ⟨Bx, 1, none⟩) (v := .string ⟨x.toArray⟩) hb (by assumption); have d2 := cell_keep (p := ⟨Bx, 2, none⟩) (v := .int .i64 n) hb (by assumption); have d3 := cell_keep (p := ⟨By, 0, none⟩) (v := .int .i64 k') hb (by assumption); have d4 := cell_keep (p := ⟨By, 1, none⟩) (v := .string ⟨x'.toArray⟩) hb (by assumption); have d5 := cell_keep (p := ⟨By, 2, none⟩) (v := .int .i64 n') hb (by assumption); have d6 : Below w.heap.size w w2 := Below.trans (by assumption) (hb.mono (Below.size (by assumption))); (first | have HZ := Lib.hid (blk_keep hb HZ.out) | have HZ := Lib.hid (blk_keep hb (heap_alloc_new _ _)) | skip); clear hb)
    | (go_at_call 18; (try go_split_ands); refine (D.out _ _ (by assumption) ?_).mono ?_; (first | exact HZ.out | exact heap_alloc_new _ _); rintro e w2 ⟨rfl, hb⟩; have d0 := cell_keep (p := ⟨Bx, 0, none⟩) (v := .int .i64 k) hb (by assumption); have d1 := cell_keep (p := ⟨Bx, 1, none⟩) (v := .string ⟨x.toArray⟩) hb (by assumption); have d2 := cell_keep (p := ⟨Bx, 2, none⟩) (v := .int .i64 n) hb (by assumption); have d3 := cell_keep (p := ⟨By, 0, none⟩) (v := .int .i64 k') hb (by assumption); have d4 := cell_keep (p := ⟨By, 1, none⟩) (v := .string ⟨x'.toArray⟩) hb (by assumption); have d5 := cell_keep (p := ⟨By, 2, none⟩) (v := .int .i64 n') hb (by assumption); have d6 : Below w.heap.size w w2 := Below.trans (by assumption) (hb.mono (Below.size (by assumption))); have HF := Lib.hid d6; clear hb)))
  all_goals
    go_wp2_with fail
    go_ret
    exact ⟨rfl, HF.out⟩
end Go.Proofs.Ytipmgoejdkpknaa
