/- The law LexRights. -/
import Derived.Test.YtipmgoejdkpknaaLexDK
import Derived.Test.YtipmgoejdkpknaaLexR7
import Derived.Lib.QuietBelow
import Derived.BigQuiet
namespace Go.Proofs.Ytipmgoejdkpknaa
open Go.RowKit TreN LexP FixP FixM Go.Sort
set_option linter.unusedVariables false

theorem len_quoT (x : List UInt8) : (quoT x).length = x.length + 2 := by
  unfold quoT
  split <;> simp
theorem len_if {c : Prop} [Decidable c] {a b : List UInt8} {n : Nat} (ha : a.length ≤ n) (hb : b.length ≤ n) : (if c then a else b).length ≤ n := by
  split
  · exact ha
  · exact hb
theorem len_tx (t : Tok) : (tx t).length ≤ t.text.length + 40 := by
  have hp := prn_len t.n
  unfold tx
  generalize prn (H t.n) = y at hp ⊢
  repeat' apply len_if
  all_goals try simp only [List.length_append, List.length_cons, List.length_nil]
  all_goals omega

set_option maxRecDepth 100000 in
set_option maxHeartbeats 4000000 in
theorem LexRights_walk (t : Tok) (w : World) (h : Has0 w) : Calls Try.prog 3 #[t.val] w fun e w' => e = .returned (.bool true) ∧ Below w.heap.size w w' := by
  have hk : ∀ W : World, Below w.heap.size w W → Calls Try.prog 8 #[] W fun e w' => e = .returned (.bool true) ∧ Below W.heap.size W w' := fun W hW => known5_any W (h.below hW)
  have hr : t.text.length ≤ 300 → ∀ W : World, Below w.heap.size w W → Calls Try.prog 9 #[t.val] W fun e w' => e = .returned (.bool (right t)) ∧ Below W.heap.size W w' := fun hx W hW => Right_any t W (h.below hW) (by omega) (by have := len_tx t; omega)
  have hs : t.text.length ≤ 300 → ∀ W : World, Calls Try.prog 10 #[t.val] W fun e w' => e = .returned (.bool (right t)) ∧ Below W.heap.size W w' := fun hx W => refRight_any t W (by omega) (by have := len_tx t; omega)
  generalize right t = tf at hr hs
  obtain ⟨k, x, n⟩ := t
  have KN := Lib.hid hk
  change x.length ≤ 300 → _ at hr
  change x.length ≤ 300 → _ at hs
  unfold LexP.Tok.val at hr hs ⊢
  clear hk h
  go_enter Try.func3, Try.ntmps3
  go_wp2_with fail
  generalize hw1 : w.alloc (.cells #[.int .i64 k, .string ⟨x.toArray⟩, .int .i64 n] 23) = w1
  obtain ⟨Bx, hBx⟩ : ∃ Bx, w.heap.size = Bx := ⟨_, rfl⟩
  have hx1 : w1.heap[Bx]? = some (.cells #[.int .i64 k, .string ⟨x.toArray⟩, .int .i64 n] 23 (0, 0)) := by rw [← hw1, ← hBx]; exact heap_alloc_new w _
  have hbw1 : Below w.heap.size w w1 := by rw [← hw1]; exact (Below.refl _ _).alloc (Nat.le_refl _) _
  have c0 : w1.cell? ⟨Bx, 0, none⟩ = some (.int .i64 k) := cell_of hx1 rfl
  have c1 : w1.cell? ⟨Bx, 1, none⟩ = some (.string ⟨x.toArray⟩) := cell_of hx1 rfl
  have c2 : w1.cell? ⟨Bx, 2, none⟩ = some (.int .i64 n) := cell_of hx1 rfl
  have HB1 := Lib.hid hbw1
  have k0 := cell_regrown c0
  have k1 := cell_regrown c1
  have k2 := cell_regrown c2
  have bel : ∀ d os, Below w.heap.size w (grow (redrawn w1 d) os) := fun d os => HB1.out.trans ((below_regrown w1 d os).mono HB1.out.size)
  have cK : ∀ d os, Calls Try.prog 8 #[] (grow (redrawn w1 d) os) fun e w'' => e = .returned (.bool true) ∧ ∃ p : Regrown, w'' = grow (redrawn w1 p.d) p.os := fun d os => Calls.regrown_of (KN.out _ (bel d os))
  rw [hBx]
  clear hw1 hx1 hbw1
  by_cases hx : x.length ≤ 300
  · have cR : ∀ d os, Calls Try.prog 9 #[.agg #[.int .i64 k, .string ⟨x.toArray⟩, .int .i64 n]] (grow (redrawn w1 d) os) fun e w'' => e = .returned (.bool tf) ∧ ∃ p : Regrown, w'' = grow (redrawn w1 p.d) p.os := fun d os => Calls.regrown_of (hr hx _ (bel d os))
    have cS : ∀ d os, Calls Try.prog 10 #[.agg #[.int .i64 k, .string ⟨x.toArray⟩, .int .i64 n]] (grow (redrawn w1 d) os) fun e w'' => e = .returned (.bool tf) ∧ ∃ p : Regrown, w'' = grow (redrawn w1 p.d) p.os := fun d os => Calls.regrown_of (hs hx _)
    have hz : ¬ (300 : Int) < (x.length : Int) := by omega
    have hzd : decide (300 < x.length) = false := by simp; omega
    clear hr hs hx bel c0 c1 c2
    refine wp_region_quiet_below (by kernel_rfl) (by kernel_rfl) ?_
    repeat (quiet_step (first | exact cK _ _ | exact cR _ _ | exact cS _ _))
    refine wpQuiet_nil ?_
    intro _ hw'
    obtain ⟨⟨dq, osq⟩, hw''⟩ := hw'
    subst hw''
    go_wp2_with fail
    go_ret
    have hfin : Below w.heap.size w (grow (redrawn w1 dq) osq) := HB1.out.trans ((below_regrown w1 dq osq).mono HB1.out.size)
    exact ⟨rfl, by first | exact hfin | (rw [← hBx]; exact hfin)⟩
  · have hz : (300 : Int) < (x.length : Int) := by omega
    have hzd : decide (300 < x.length) = true := by simp; omega
    clear hr hs hx bel c0 c1 c2
    refine wp_region_quiet_below (by kernel_rfl) (by kernel_rfl) ?_
    repeat (quiet_step (first | exact cK _ _))
    refine wpQuiet_nil ?_
    intro _ hw'
    obtain ⟨⟨dq, osq⟩, hw''⟩ := hw'
    subst hw''
    go_wp2_with fail
    go_ret
    have hfin : Below w.heap.size w (grow (redrawn w1 dq) osq) := HB1.out.trans ((below_regrown w1 dq osq).mono HB1.out.size)
    exact ⟨rfl, by first | exact hfin | (rw [← hBx]; exact hfin)⟩
end Go.Proofs.Ytipmgoejdkpknaa
