/- kin.Ups: what stands above a node, told one by one; and slices.Collect of it. -/
import Derived.Test.YtjhhpilaaahicaaKinP
import Derived.RangeFuncBox
import Derived.RangeFuncLeaves
import Derived.Shelf.Abstract
import Derived.WalkKit
import Derived.OwnWalkIn
import Derived.TacticsInMore
import Derived.LoopNIn
import Derived.LoopIn
import Derived.Maps.AppendAt
namespace Go.Proofs.Ytjhhpilaaahicaa
open Go.RowKit TreP Go.Shelf
attribute [local go_sem] Oper.semAt_some
set_option linter.unusedVariables false

set_option maxRecDepth 100000 in
set_option maxHeartbeats 4000000 in
/-- the told ones, whatever the rounds do, if they keep what lay below n₀ -/
theorem kups1_in (n : Nat) (hn : 2 ≤ n) (l Bl Bi n₀ : Nat) (a : Option Addr) (len cap : Nat) (f : Nat → Int) (i : Nat) (h : i < len) (J Jx : List Nat → World → Prop)
    (hY : ∀ pre (x : Nat) W, J pre W → pre.length < (ups f i).length → YieldAt Fence.wide (n - 1) Try.prog l #[.int .i64 (x : Int)] W fun e W' =>
      (e = .returned (.bool true) ∧ J (pre ++ [x]) W' ∧ Below n₀ W W') ∨ (e = .returned (.bool false) ∧ Jx (pre ++ [x]) W'))
    (W : World) (hBl : Bl < n₀) (hBi : Bi < n₀) (c1 : W.cell? ⟨Bl, 0, none⟩ = some (.slice a len cap)) (c2 : W.cell? ⟨Bi, 0, none⟩ = some (.int .i64 (i : Int))) (hP : ∀ W', Below n₀ W W' → Pars W' a len f) (h0 : J [] W) :
    CallsIn Fence.wide n Try.prog 158 #[.func (.yield l) #[] #[], .pointer (some ⟨Bl, 0, none⟩), .pointer (some ⟨Bi, 0, none⟩)] W fun e W' => (∃ v, e = .returned v) ∧
      ((∃ ys, ys = ups f i ∧ J ys W') ∨ (∃ pre, pre <+: ups f i ∧ Jx pre W')) := by
  have hd1 : 1 ≤ n := by omega
  have hd2 : 1 ≤ n - 1 := by omega
  have HP := Lib.hid hP
  have HY := Lib.hid hY
  have hf1 : Fence.wide.fn 159 := trivial
  have hf2 : Fence.wide.fn 160 := trivial
  have C1 := has_yes a len cap i W h
  have C2 := parent_any a len cap f i W h (hP W (Below.refl _ _))
  have HK1 : Hid (∀ W', Below n₀ W W' → W'.cell? ⟨Bl, 0, none⟩ = some (.slice a len cap)) := Lib.hid fun W' hb => (hb.cell (p := ⟨Bl, 0, none⟩) hBl).trans c1
  clear hP hY
  refine callsIn_of_wp Try.func158 rfl trivial ?_ rfl
  simp only [Try.ntmps158, List.size_toArray, List.length_cons, List.length_nil, Nat.reduceAdd, Nat.reduceSub, Array.replicate_succ, Array.replicate_zero, List.push_toArray, List.append_toArray, List.nil_append, List.cons_append]
  gi_wp2_with (first
    | (gi_at_call 159; refine (callsIn_wide.2 C1).mono ?_; rintro e w' ⟨rfl, rfl⟩)
    | (gi_at_call 160; refine (callsIn_wide.2 C2).mono ?_; rintro e w' ⟨rfl, rfl⟩))
  gi_loopw [4] (fun u wr => ∃ (done rest : List Nat) (z : Int), u = .int .i64 z ∧ ups f i = done ++ rest ∧ ((z = -1 ∧ rest = []) ∨ ∃ p : Nat, z = (p : Int) ∧ p < i ∧ rest = p :: ups f p) ∧ J done wr ∧ Below n₀ W wr)
    (fun u _ => (intOf u + 1).toNat)
  case atStart =>
    rcases ups_cases f i with ⟨h1, h2⟩ | ⟨p, hp, h1, h2⟩
    · exact ⟨[], [], -1, by rw [h1], by rw [h2]; rfl, Or.inl ⟨rfl, rfl⟩, h0, Below.refl _ _⟩
    · exact ⟨[], p :: ups f p, p, by rw [h1], by rw [h2]; rfl, Or.inr ⟨p, rfl, hp, rfl⟩, h0, Below.refl _ _⟩
  case round =>
    obtain ⟨done, rest, z, rfl, hd, hz, hJs, hbel⟩ := hrel
    have HD := Lib.hid hd
    have HB := Lib.hid hbel
    clear hd
    rcases hz with ⟨rfl, rfl⟩ | ⟨p, rfl, hp, rfl⟩
    · have hd := HD.out
      rw [List.append_nil] at hd
      clear HK1 HP HY
      gi_wp2
      refine ⟨fun _ h => (by cases h), ?_⟩
      gi_wp2
      go_end0
      exact ⟨⟨_, rfl⟩, .inl ⟨done, hd.symm, hJs⟩⟩
    · have hlt : done.length < (ups f i).length := by rw [HD.out]; simp
      obtain ⟨fn, tmps, assign, body, hy, hR⟩ := HY.out _ p wr hJs hlt
      have hne : ((p : Int) == -1) = false := by rw [beq_eq_false_iff_ne]; omega
      gi_wp2
      refine hR.mono ?_
      rintro e W3 (⟨rfl, hJ3, hk3⟩ | ⟨rfl, hJx3⟩)
      · have HB3 := Lib.hid (HB.out.trans hk3)
        have c3 := HK1.out _ HB3.out
        have C3 := parent_any a len cap f p W3 (by omega) (HP.out _ HB3.out)
        gi_wp2_with (gi_at_call 160; refine (callsIn_wide.2 C3).mono ?_; rintro e w' ⟨rfl, rfl⟩)
        go_roundw
        case rel =>
          refine ⟨done ++ [p], ups f p, up f p, rfl, by rw [HD.out, List.append_assoc]; rfl, ?_, hJ3, HB3.out⟩
          rcases ups_cases f p with ⟨h1, h2⟩ | ⟨p2, hp2, h1, h2⟩
          · exact Or.inl ⟨h1, h2⟩
          · exact Or.inr ⟨p2, h1, by omega, h2⟩
        case measure =>
          have := up_bd f p
          simp [intOf]; omega
      · gi_wp2
        go_end0
        exact ⟨⟨_, rfl⟩, .inr ⟨done ++ [p], ⟨ups f p, by rw [HD.out]; simp⟩, hJx3⟩⟩

set_option maxRecDepth 100000 in
set_option maxHeartbeats 4000000 in
/-- no such node: none is told -/
theorem kups1_no (n : Nat) (hn : 2 ≤ n) (l Bl Bi : Nat) (a : Option Addr) (len cap : Nat) (i : Int) (h : i < 0 ∨ (len : Int) ≤ i) (J : List Nat → World → Prop)
    (W : World) (c1 : W.cell? ⟨Bl, 0, none⟩ = some (.slice a len cap)) (c2 : W.cell? ⟨Bi, 0, none⟩ = some (.int .i64 i)) (h0 : J [] W) :
    CallsIn Fence.wide n Try.prog 158 #[.func (.yield l) #[] #[], .pointer (some ⟨Bl, 0, none⟩), .pointer (some ⟨Bi, 0, none⟩)] W fun e W' => (∃ v, e = .returned v) ∧ J [] W' := by
  have hd1 : 1 ≤ n := by omega
  have hf1 : Fence.wide.fn 159 := trivial
  have C1 := has_no a len cap i W h
  clear h
  refine callsIn_of_wp Try.func158 rfl trivial ?_ rfl
  simp only [Try.ntmps158, List.size_toArray, List.length_cons, List.length_nil, Nat.reduceAdd, Nat.reduceSub, Array.replicate_succ, Array.replicate_zero, List.push_toArray, List.append_toArray, List.nil_append, List.cons_append]
  gi_wp2_with (gi_at_call 159; refine (callsIn_wide.2 C1).mono ?_; rintro e w' ⟨rfl, rfl⟩)
  refine bodyPost_ret (results_none rfl _ _ _) rfl ?_
  exact ⟨⟨_, rfl⟩, h0⟩

/-- what kin.Ups tells of: all above the node, or none, if there is no such node -/
def UpsIs (f : Nat → Int) (len : Nat) (i : Int) (U : List Nat) : Prop := (∃ k : Nat, i = (k : Int) ∧ k < len ∧ U = ups f k) ∨ ((i < 0 ∨ (len : Int) ≤ i) ∧ U = [])

theorem kups_stops (n : Nat) (hn : 2 ≤ n) (Bl Bi n₀ : Nat) (a : Option Addr) (len cap : Nat) (f : Nat → Int) (i : Int) (U : List Nat) (hU : UpsIs f len i U) (w : World) (hn₀ : n₀ ≤ w.heap.size) (hBl : Bl < n₀) (hBi : Bi < n₀)
    (c1 : w.cell? ⟨Bl, 0, none⟩ = some (.slice a len cap)) (c2 : w.cell? ⟨Bi, 0, none⟩ = some (.int .i64 i)) (hP : ∀ W', Below n₀ w W' → Pars W' a len f) :
    SeqStopsK Fence.wide n Try.prog 158 #[.pointer (some ⟨Bl, 0, none⟩), .pointer (some ⟨Bi, 0, none⟩)] (fun x : Nat => #[Value.int .i64 (x : Int)]) (Below n₀) (fun ys => ys = U) (fun pre => pre <+: U) U.length w := fun l J Jx W hW _ _ hY h0 => by
  have d1 := (hW.cell (p := ⟨Bl, 0, none⟩) (Nat.lt_of_lt_of_le hBl hn₀)).trans c1
  have d2 := (hW.cell (p := ⟨Bi, 0, none⟩) (Nat.lt_of_lt_of_le hBi hn₀)).trans c2
  rcases hU with ⟨k, rfl, hk, rfl⟩ | ⟨hi, rfl⟩
  · exact kups1_in n hn l Bl Bi n₀ a len cap f k hk J Jx hY W hBl hBi d1 d2 (fun W' h => hP W' ((hW.mono hn₀).trans h)) h0
  · exact (kups1_no n hn l Bl Bi a len cap i hi J W d1 d2 h0).mono fun e w' h => ⟨h.1, .inl ⟨[], rfl, h.2⟩⟩
end Go.Proofs.Ytjhhpilaaahicaa
