/- The walks of layer 4: kids and ends; the reference's. -/
import Derived.Test.YtjhhpilaaahicaaTreW4
namespace Go.Proofs.Ytjhhpilaaahicaa
open Go.RowKit TreP

/-- what a call that answers an end comes to -/
def ToldEnd (f : Nat → Int) (len i : Nat) (w : World) (e : Ending) (w' : World) : Prop := ∃ k : Nat, e = .returned (.int .i64 (k : Int)) ∧ EndIs f len i k ∧ w = w'
set_option maxRecDepth 100000 in
theorem EndIs.uniq {f : Nat → Int} {len i e e' : Nat} (h : EndIs f len i e) (h' : EndIs f len i e') : e = e' := by
  obtain ⟨h1, h2, h3, h4⟩ := h
  obtain ⟨g1, g2, g3, g4⟩ := h'
  by_cases c : e < e'
  · exact absurd (g3 e h1 c) (h4 (by omega))
  · by_cases c2 : e' < e
    · exact absurd (h3 e' g1 c2) (g4 (by omega))
    · omega

/-- how far a gathering of kids has come -/
def KidRel (f : Nat → Int) (i b len : Nat) (w : World) (v u : Value) (wr : World) : Prop :=
  ∃ k : Nat, u = .int .i64 ((b + k : Nat) : Int) ∧ b + k ≤ len ∧ wr.ownsRow w.heap.size 3 1 v (kidsF (kidB f i) b k).length (ints (kidsF (kidB f i) b k)) ∧ Below w.heap.size w wr
set_option maxRecDepth 100000 in
theorem kidsF_yes (f : Nat → Int) (i b k : Nat) (h : up f (b + k) = (i : Int)) : kidsF (kidB f i) b (k + 1) = kidsF (kidB f i) b k ++ [b + k] := by
  show _ ++ (if kidB f i (b + k) = true then [b + k] else []) = _
  rw [if_pos (by unfold kidB; rw [h]; simp)]
set_option maxRecDepth 100000 in
theorem kidsF_no (f : Nat → Int) (i b k : Nat) (h : ¬ up f (b + k) = (i : Int)) : kidsF (kidB f i) b (k + 1) = kidsF (kidB f i) b k := by
  show _ ++ (if kidB f i (b + k) = true then [b + k] else []) = _
  rw [if_neg (by unfold kidB; simpa using h), List.append_nil]

set_option maxRecDepth 100000 in
set_option maxHeartbeats 400000 in
theorem refUp_any (a : Option Addr) (len cap : Nat) (f : Nat → Int) (i : Nat) (w : World) (h : i < len) (hP : Pars w a len f) :
    Calls Try.prog 136 #[.slice a len cap, .int .i64 (i : Int)] w fun e w' => e = .returned (.int .i64 (up f i)) ∧ w = w' := by
  obtain ⟨b, off, rfl, hc⟩ := hP.at_ h
  have hz : (i : Int) < (len : Int) := by omega
  have hu : up f i = if 0 ≤ f i ∧ f i < (i : Int) then f i else -1 := rfl
  obtain ⟨x, hx⟩ : ∃ x, f i = x := ⟨_, rfl⟩
  rw [hx] at hc hu
  have hw : x < 0 ∨ (0 ≤ x ∧ x < (i : Int)) ∨ (0 ≤ x ∧ ¬ x < (i : Int)) := by omega
  have HU := Lib.hid hu
  clear hu hx
  rcases hw with h1 | ⟨h1, h2⟩ | ⟨h1, h2⟩
  all_goals
    go_enter Try.func136, Try.ntmps136
    go_wp2_with fail
    go_ret
    refine ⟨ret_int ?_, rfl⟩
    rw [HU.out]
    first | rw [if_pos (by omega)] | rw [if_neg (by omega)]

set_option maxRecDepth 100000 in
set_option maxHeartbeats 1000000 in
theorem refUnder_any (a : Option Addr) (len cap : Nat) (f : Nat → Int) (i j : Nat) (w : World) (h : i < len) (hP : Pars w a len f) :
    Calls Try.prog 102 #[.slice a len cap, .int .i64 (i : Int), .int .i64 (j : Int)] w fun e w' => e = .returned (.bool (undB f i j)) ∧ w = w' := by
  have HP := Lib.hid hP
  clear hP
  go_enter Try.func102, Try.ntmps102
  go_wp2_with fail
  refine (refUp_any a len cap f i w h HP.out).mono ?_
  rintro e w' ⟨rfl, rfl⟩
  go_wp2_with fail
  go_loop [7] (fun u => ∃ (z : Int) (rest : List Nat), u = .int .i64 z ∧ Hid (undB f i j = decide (j ∈ rest)) ∧ ((z = -1 ∧ rest = []) ∨ ∃ p : Nat, z = (p : Int) ∧ p < i ∧ rest = p :: ups f p)) (fun u => (intOf u + 1).toNat)
  case atStart =>
    rcases ups_cases f i with ⟨h1, h2⟩ | ⟨p, hp, h1, h2⟩
    · exact ⟨-1, [], by rw [h1], by unfold undB; rw [h2]; exact rfl, Or.inl ⟨rfl, rfl⟩⟩
    · exact ⟨p, p :: ups f p, by rw [h1], by unfold undB; rw [h2]; exact rfl, Or.inr ⟨p, rfl, hp, rfl⟩⟩
  case round =>
    obtain ⟨z, rest, rfl, HU, hz⟩ := hrel
    rcases hz with ⟨rfl, rfl⟩ | ⟨p, rfl, hp, rfl⟩
    · go_wp2_with fail
      go_ret
      exact ⟨ret_bool (by rw [HU.out]; simp), rfl⟩
    · by_cases hc : p = j
      · subst hc
        go_wp2_with fail
        go_ret
        exact ⟨ret_bool (by rw [HU.out]; simp), rfl⟩
      · have hc' : ((p : Int) == (j : Int)) = false := by rw [beq_eq_false_iff_ne]; omega
        have hm : undB f i j = decide (j ∈ ups f p) := by
          rw [HU.out]
          simp only [List.mem_cons]
          have : ¬ j = p := fun e => hc e.symm
          simp [this]
        have HM := Lib.hid hm
        clear hm
        go_wp2_with fail
        refine (refUp_any a len cap f p w (by omega) HP.out).mono ?_
        rintro e w' ⟨rfl, rfl⟩
        go_wp2_with fail
        go_round
        case rel =>
          rcases ups_cases f p with ⟨h1, h2⟩ | ⟨p2, hp2, h1, h2⟩
          · exact ⟨-1, [], by rw [h1], by rw [HM.out, h2]; exact rfl, Or.inl ⟨rfl, rfl⟩⟩
          · exact ⟨p2, p2 :: ups f p2, by rw [h1], by rw [HM.out, h2]; exact rfl, Or.inr ⟨p2, rfl, by omega, rfl⟩⟩
        case measure =>
          have := up_bd f p
          simp [intOf]; omega

set_option maxRecDepth 100000 in
theorem not_there (len : Nat) (i : Int) (h : i < 0 ∨ (len : Int) ≤ i) : i < 0 ∨ (0 ≤ i ∧ (len : Int) ≤ i) := by omega

/-- how far the reference's 'Ups' has come -/
def RupsRel (f : Nat → Int) (i : Nat) (w : World) (v u : Value) (wr : World) : Prop :=
  ∃ (k : Nat) (D : List Nat), u = .int .i64 ((k : Int) - 1) ∧ k ≤ i ∧ ups f i = D ++ picks (undB f i) k ∧ wr.ownsRow w.heap.size 3 1 v D.length (ints D) ∧ Below w.heap.size w wr

end Go.Proofs.Ytjhhpilaaahicaa
