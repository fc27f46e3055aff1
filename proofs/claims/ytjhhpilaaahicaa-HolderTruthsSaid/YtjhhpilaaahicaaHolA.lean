/- Layer 15: extents, and who tells of them. -/
import Derived.Test.YtjhhpilaaahicaaKinV
import Derived.Lib.QuietBelow
import Derived.BigQuiet
import Derived.Deep.QuietTactic
namespace Go.Proofs.Ytjhhpilaaahicaa
open Go.RowKit TreP Go.Sort
set_option linter.unusedVariables false

/-- what is known of a node -/
structure Ext where
  kind : Int
  name : List UInt8
  wd : Int
  ht : Int
/-- a list of extents lies in memory -/
def Exts (W : World) (x : Option Addr) (m : Nat) (X : Nat → Ext) : Prop := m = 0 ∨ ∃ b off, x = some ⟨b, off, none⟩ ∧ b < W.heap.size ∧ ∀ j, j < m → W.cell? ⟨b, off + j * 4, none⟩ = some (.int .i64 (X j).kind) ∧ W.cell? ⟨b, off + j * 4 + 1, none⟩ = some (.string ⟨(X j).name.toArray⟩) ∧ W.cell? ⟨b, off + j * 4 + 2, none⟩ = some (.int .i64 (X j).wd) ∧ W.cell? ⟨b, off + j * 4 + 3, none⟩ = some (.int .i64 (X j).ht)
theorem Exts.below {w w' : World} {x : Option Addr} {m : Nat} {X : Nat → Ext} (h : Exts w x m X) (hb : Below w.heap.size w w') : Exts w' x m X := by
  rcases h with rfl | ⟨b, off, e, hbs, hc⟩
  · exact Or.inl rfl
  · refine Or.inr ⟨b, off, e, Nat.lt_of_lt_of_le hbs hb.size, fun j hj => ?_⟩
    obtain ⟨h0, h1, h2, h3⟩ := hc j hj
    exact ⟨(hb.cell (p := ⟨b, off + j * 4, none⟩) hbs).trans h0, (hb.cell (p := ⟨b, off + j * 4 + 1, none⟩) hbs).trans h1, (hb.cell (p := ⟨b, off + j * 4 + 2, none⟩) hbs).trans h2, (hb.cell (p := ⟨b, off + j * 4 + 3, none⟩) hbs).trans h3⟩
theorem Exts.at_ {w : World} {x : Option Addr} {m : Nat} {X : Nat → Ext} (h : Exts w x m X) {j : Nat} (hj : j < m) : ∃ b off, x = some ⟨b, off, none⟩ ∧ w.cell? ⟨b, off + j * 4, none⟩ = some (.int .i64 (X j).kind) ∧ w.cell? ⟨b, off + j * 4 + 1, none⟩ = some (.string ⟨(X j).name.toArray⟩) ∧ w.cell? ⟨b, off + j * 4 + 2, none⟩ = some (.int .i64 (X j).wd) ∧ w.cell? ⟨b, off + j * 4 + 3, none⟩ = some (.int .i64 (X j).ht) := by
  rcases h with rfl | ⟨b, off, e, _, hc⟩
  · omega
  · obtain ⟨h0, h1, h2, h3⟩ := hc j hj
    exact ⟨b, off, e, h0, h1, h2, h3⟩
def kindN (X : Nat → Ext) (m k : Nat) : Int := if k < m then (X k).kind else 0
def wholeB (X : Nat → Ext) (m k : Nat) : Bool := kindN X m k == 2
def wideB (X : Nat → Ext) (m k : Nat) : Bool := kindN X m k == 1 || kindN X m k == 2
def callB (X : Nat → Ext) (m : Nat) (nm : List UInt8) (k : Nat) : Bool := wideB X m k && ((X k).name == nm)

set_option maxRecDepth 100000 in
set_option maxHeartbeats 1000000 in
theorem kind_any (x : Option Addr) (m cap k : Nat) (X : Nat → Ext) (w : World) (hm : m ≤ 9223372036854775807) (h : Exts w x m X) : Calls Try.prog 133 #[.slice x m cap, .int .i64 (k : Int)] w fun e w' => e = .returned (.int .i64 (kindN X m k)) ∧ w = w' := by
  by_cases hk : k < m
  · obtain ⟨b, off, rfl, c0, _⟩ := h.at_ hk
    have hz : (k : Int) < (m : Int) := by omega
    have hz2 : ¬ (m : Int) ≤ (k : Int) := by omega
    have hu : kindN X m k = (X k).kind := by unfold kindN; rw [if_pos hk]
    obtain ⟨z, hzz⟩ : ∃ z, (X k).kind = z := ⟨_, rfl⟩
    rw [hu]
    rw [hzz] at c0 ⊢
    clear hu hzz h
    go_enter Try.func133, Try.ntmps133
    go_wp2_with fail
    go_ret
    exact ⟨rfl, rfl⟩
  · have hz : (m : Int) ≤ (k : Int) := by omega
    have hu : kindN X m k = 0 := by unfold kindN; rw [if_neg hk]
    rw [hu]
    clear hu h
    go_enter Try.func133, Try.ntmps133
    go_wp2_with fail
    go_ret
    exact ⟨rfl, rfl⟩

set_option maxRecDepth 100000 in
set_option maxHeartbeats 1000000 in
theorem whole_any (x : Option Addr) (m cap k : Nat) (X : Nat → Ext) (w : World) (hm : m ≤ 9223372036854775807) (h : Exts w x m X) : Calls Try.prog 97 #[.slice x m cap, .int .i64 (k : Int)] w fun e w' => e = .returned (.bool (wholeB X m k)) ∧ w = w' := by
  have C := Lib.hid (kind_any x m cap k X w hm h)
  unfold wholeB
  generalize kindN X m k = z at C ⊢
  clear h
  go_enter Try.func97, Try.ntmps97
  go_wp2_with fail
  refine C.out.mono ?_
  rintro e w' ⟨rfl, rfl⟩
  go_wp2_with fail
  go_ret
  exact ⟨rfl, rfl⟩

set_option maxRecDepth 100000 in
set_option maxHeartbeats 1000000 in
theorem wide_any (x : Option Addr) (m cap k : Nat) (X : Nat → Ext) (w : World) (hm : m ≤ 9223372036854775807) (h : Exts w x m X) : Calls Try.prog 96 #[.slice x m cap, .int .i64 (k : Int)] w fun e w' => e = .returned (.bool (wideB X m k)) ∧ w = w' := by
  have C := Lib.hid (kind_any x m cap k X w hm h)
  have D := Lib.hid (whole_any x m cap k X w hm h)
  unfold wideB
  unfold wholeB at D
  generalize kindN X m k = z at C D ⊢
  clear h
  by_cases h1 : z = 1
  · subst h1
    go_enter Try.func96, Try.ntmps96
    go_wp2_with fail
    refine C.out.mono ?_
    rintro e w' ⟨rfl, rfl⟩
    go_wp2_with fail
    go_ret
    exact ⟨rfl, rfl⟩
  · have hz : (z == 1) = false := by rw [beq_eq_false_iff_ne]; exact h1
    generalize hz2 : (z == 2) = t at D ⊢
    clear hz2
    rw [hz, Bool.false_or]
    go_enter Try.func96, Try.ntmps96
    go_wp2_with fail
    refine C.out.mono ?_
    rintro e w' ⟨rfl, rfl⟩
    go_wp2_with fail
    refine D.out.mono ?_
    rintro e w' ⟨rfl, rfl⟩
    go_wp2_with fail
    go_ret
    exact ⟨rfl, rfl⟩

set_option maxRecDepth 100000 in
set_option maxHeartbeats 2000000 in
theorem named_any (x : Option Addr) (m cap k Bx Bn : Nat) (X : Nat → Ext) (nm : List UInt8) (w : World) (hm : m ≤ 9223372036854775807) (h : Exts w x m X) (c1 : w.cell? ⟨Bx, 0, none⟩ = some (.slice x m cap)) (c2 : w.cell? ⟨Bn, 0, none⟩ = some (.string ⟨nm.toArray⟩)) : Calls Try.prog 134 #[.int .i64 (k : Int), .pointer (some ⟨Bx, 0, none⟩), .pointer (some ⟨Bn, 0, none⟩)] w fun e w' => e = .returned (.bool (callB X m nm k)) ∧ Below w.heap.size w w' := by
  have C : ∀ W, Exts W x m X → Calls Try.prog 96 #[.slice x m cap, .int .i64 (k : Int)] W fun e w' => e = .returned (.bool (wideB X m k)) ∧ Below W.heap.size W w' := fun W hW => (wide_any x m cap k X W hm hW).mono fun e w' h => ⟨h.1, by rw [← h.2]; exact Below.refl _ _⟩
  have HC := Lib.hid C
  have bel : ∀ d os, Below w.heap.size w (grow (redrawn w d) os) := fun d os => below_regrown w d os
  have HE := Lib.hid fun d os => h.below (bel d os)
  have k1 := cell_regrown c1
  have k2 := cell_regrown c2
  obtain ⟨b, hb⟩ : ∃ b, wideB X m k = b := ⟨_, rfl⟩
  rw [hb] at C
  unfold callB
  rw [hb]
  cases b with
  | false =>
    rw [Bool.false_and]
    have cW : ∀ d os, Calls Try.prog 96 #[.slice x m cap, .int .i64 (k : Int)] (grow (redrawn w d) os) fun e w'' => e = .returned (.bool false) ∧ ∃ p : Regrown, w'' = grow (redrawn w p.d) p.os := fun d os => Calls.regrown_of (C _ (HE.out d os))
    clear C hb h c1 c2 bel
    go_enter Try.func134, Try.ntmps134
    go_wp2_with fail
    refine wp_region_quiet_below (by kernel_rfl) (by kernel_rfl) ?_
    repeat (quiet_step (with_reducible exact cW _ _))
    refine wpQuiet_nil ?_
    intro _ hw'
    obtain ⟨⟨dq, osq⟩, hw''⟩ := hw'
    subst hw''
    go_wp2_with fail
    go_ret
    exact ⟨rfl, below_regrown w dq osq⟩
  | true =>
    rw [Bool.true_and]
    have hk : k < m := by
      by_cases hk : k < m
      · exact hk
      · unfold wideB kindN at hb; rw [if_neg hk] at hb; simp at hb
    obtain ⟨bb, off, rfl, _, d1, _⟩ := h.at_ hk
    have hz : (k : Int) < (m : Int) := by omega
    have k3 := cell_regrown d1
    have cW : ∀ d os, Calls Try.prog 96 #[.slice (some ⟨bb, off, none⟩) m cap, .int .i64 (k : Int)] (grow (redrawn w d) os) fun e w'' => e = .returned (.bool true) ∧ ∃ p : Regrown, w'' = grow (redrawn w p.d) p.os := fun d os => Calls.regrown_of (C _ (HE.out d os))
    obtain ⟨y, hy⟩ : ∃ y, (X k).name = y := ⟨_, rfl⟩
    rw [hy] at k3 ⊢
    clear C hb h c1 c2 bel d1 hy hk
    go_enter Try.func134, Try.ntmps134
    go_wp2_with fail
    refine wp_region_quiet_below (by kernel_rfl) (by kernel_rfl) ?_
    repeat (quiet_step (with_reducible exact cW _ _))
    refine wpQuiet_nil ?_
    intro _ hw'
    obtain ⟨⟨dq, osq⟩, hw''⟩ := hw'
    subst hw''
    go_wp2_with fail
    go_ret
    exact ⟨rfl, below_regrown w dq osq⟩
end Go.Proofs.Ytjhhpilaaahicaa
