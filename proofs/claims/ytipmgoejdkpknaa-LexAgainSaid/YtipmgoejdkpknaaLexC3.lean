/- The walks of layer 5: Right. -/
import Derived.Test.YtipmgoejdkpknaaLexC2
import Derived.Test.YtipmgoejdkpknaaLexT3
import Derived.Deep.RegionWith
namespace Go.Proofs.Ytipmgoejdkpknaa
open Go.RowKit TreN LexP FixP
set_option linter.unusedVariables false

theorem tkB_one {W : World} {b : Nat} {k n : Int} {x : List UInt8} (h : W.heap[b]? = some (.cells #[.int .i64 k, .string ⟨x.toArray⟩, .int .i64 n] 23 (0, 0))) : TkB W.heap.size W (some ⟨b, 0, none⟩) [⟨k, x, n⟩] := by
  refine Or.inr ⟨b, 0, rfl, ?_, ?_⟩
  · obtain ⟨hlt, _⟩ := Array.getElem?_eq_some_iff.1 h
    exact hlt
  · intro i hi
    have hi : i < 1 := hi
    have e : i = 0 := by omega
    subst e
    exact ⟨cell_of h rfl, cell_of h rfl, cell_of h rfl⟩

theorem size_tx (l : List UInt8) : (⟨l.toArray⟩ : ByteArray).data.toList = l := by simp

/-- what isCut answers of a text and one token, whatever block the list lies in -/
theorem isCut_one (w0 : World) (s : List UInt8) (k n : Int) (x : List UInt8) (h : Has0 w0) (hs : s.length ≤ 40000) (b : Nat) (W : World) (hb : Below w0.heap.size w0 W) (hx : W.heap[b]? = some (.cells #[.int .i64 k, .string ⟨x.toArray⟩, .int .i64 n] 23 (0, 0))) :
    Calls Try.prog 18 #[.string ⟨s.toArray⟩, .slice (some ⟨b, 0, none⟩) 1 1] W fun e w' => e = .returned (.bool (decide (cut s = [⟨k, x, n⟩]))) ∧ Below w0.heap.size w0 w' := by
  have := isCut_any ⟨s.toArray⟩ (some ⟨b, 0, none⟩) [⟨k, x, n⟩] 1 W (h.below hb) (by show s.toArray.size ≤ 40000; simp; omega) (by simp) (by simp) (tkB_one hx)
  rw [size_tx] at this
  refine this.mono ?_
  rintro e w' ⟨rfl, h1⟩
  exact ⟨rfl, hb.trans (h1.mono hb.size)⟩

set_option maxRecDepth 100000 in
set_option maxHeartbeats 1000000 in
theorem Right_any (t : Tok) (w : World) (h : Has0 w) (hx : t.text.length ≤ 30000) (htx : (tx t).length ≤ 40000) : Calls Try.prog 9 #[t.val] w fun e w' => e = .returned (.bool (decide (cut (tx t) = [t]))) ∧ Below w.heap.size w w' := by
  have C := Lib.hid fun W => text_any t W (by omega)
  obtain ⟨k, x, n⟩ := t
  have D := Lib.hid (isCut_one w (tx ⟨k, x, n⟩) k n x h htx)
  unfold LexP.Tok.val at C ⊢
  generalize tx ⟨k, x, n⟩ = z at *
  clear h htx hx
  obtain ⟨tf, htf⟩ : ∃ tf, decide (cut z = [⟨k, x, n⟩]) = tf := ⟨_, rfl⟩
  rw [htf] at D ⊢
  clear htf
  have hi := info_token
  have hun := und_tokens
  go_enter Try.func9, Try.ntmps9
  go_wp2_with fail
  generalize hw1 : w.alloc (.cells #[.int .i64 k, .string ⟨x.toArray⟩, .int .i64 n] 23) = w1
  obtain ⟨Bx, hBx⟩ : ∃ Bx, w.heap.size = Bx := ⟨_, rfl⟩
  have hx1 : w1.heap[Bx]? = some (.cells #[.int .i64 k, .string ⟨x.toArray⟩, .int .i64 n] 23 (0, 0)) := by rw [← hw1, ← hBx]; exact heap_alloc_new w _
  have hBL : Bx < w1.heap.size := by rw [← hw1, ← hBx]; simp
  have hbw1 : Below w.heap.size w w1 := by rw [← hw1]; exact (Below.refl _ _).alloc (Nat.le_refl _) _
  have c0 : w1.cell? ⟨Bx, 0, none⟩ = some (.int .i64 k) := cell_of hx1 rfl
  have c1 : w1.cell? ⟨Bx, 1, none⟩ = some (.string ⟨x.toArray⟩) := cell_of hx1 rfl
  have c2 : w1.cell? ⟨Bx, 2, none⟩ = some (.int .i64 n) := cell_of hx1 rfl
  rw [hBx]
  have HX1 := Lib.hid hx1
  have HBW1 := Lib.hid hbw1
  have HBL := Lib.hid hBL
  clear hw1 hx1 hbw1
  go_region_with (first
    | (go_at_call 19; refine (C.out _).mono ?_; rintro e w2 ⟨rfl, hb⟩; have d0 := hb.cell (p := ⟨Bx, 0, none⟩) (by have := HBL.out; simp; omega); have d1 := hb.cell (p := ⟨Bx, 1, none⟩) (by have := HBL.out; simp; omega); have d2 := hb.cell (p := ⟨Bx, 2, none⟩) (by have := HBL.out; simp; omega); have hb2 := Below.trans (B := w.heap.size) (by first | exact HBW1.out.drew | exact HBW1.out.drew.alloc HBW1.out.size _) (hb.mono (by have := HBW1.out.size; simp; omega)); have HBW2 := Lib.hid hb2; have HB2 := Lib.hid hb; clear hb hb2)
    | (go_at_call 18; refine (D.out _ _ ?_ ?_).mono ?_; (first | exact HBW2.out | exact HBW2.out.alloc HBW2.out.size _); (first | exact heap_alloc_new _ _ | exact (HB2.out.block _ (by simp)).trans (heap_alloc_new _ _)); rintro e w3 ⟨rfl, hb⟩; have HF := Lib.hid hb; clear hb))
  all_goals
    go_wp2_with fail
    go_ret
    exact ⟨rfl, HF.out⟩
end Go.Proofs.Ytipmgoejdkpknaa
