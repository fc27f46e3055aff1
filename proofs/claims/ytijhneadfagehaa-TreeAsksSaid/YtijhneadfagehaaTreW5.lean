/- The walks of layer 4: kids and ends; the reference's. -/
import Derived.Test.YtijhneadfagehaaTreW4
namespace Go.Proofs.Ytijhneadfagehaa
open Go.RowKit TreP

/-- what a call that answers an end comes to -/
def ToldEnd (f : Nat → Int) (len i : Nat) (w : World) (e : Ending) (w' : World) : Prop := ∃ k : Nat, e = .returned (.int .i64 (k : Int)) ∧ EndIs f len i k ∧ w = w'
set_option maxRecDepth 100000 in
theorem EndIs.uniq {f : Nat → Int} {len i e e' : Nat} (h : EndIs f len i e) (h' : EndIs f len i e') : e = e' := by
  obtain ⟨h1, h2, h3, h4⟩ := h
  obtain ⟨g1, g2, g3, g4⟩ := h'
  by_cases c : e < e'
  · exact absurd (g3 e h1 c) (h4 (by omega))
  · by_cases c2 : e' < e
    · exact absurd (h3 e' g1 c2) (g4 (by omega))
    · omega

set_option maxRecDepth 100000 in
set_option maxHeartbeats 1000000 in
theorem End_any (a : Option Addr) (len cap : Nat) (f : Nat → Int) (i : Nat) (w : World) (hl : len ≤ 100000) (h : i < len) (hP : Pars w a len f) :
    Calls Try.prog 12 #[.slice a len cap, .int .i64 (i : Int)] w (ToldEnd f len i w) := by
  have HP := Lib.hid hP
  clear hP
  go_enter Try.func12, Try.ntmps12
  go_wp2_with fail
  refine (has_yes a len cap i w h).mono ?_
  rintro e w' ⟨rfl, rfl⟩
  go_wp2_with fail
  go_loop [5] (fun u => ∃ k : Nat, u = .int .i64 k ∧ i < k ∧ k ≤ len ∧ Hid (∀ j, i < j → j < k → i ∈ ups f j)) (fun u => len - (intOf u).toNat)
  case atStart => exact ⟨i + 1, by go_num, by omega, by omega, fun j h1 h2 => by omega⟩
  case round =>
    obtain ⟨k, rfl, hik, hk, HI⟩ := hrel
    by_cases hlt : k < len
    · have hltz : (k : Int) < (len : Int) := by omega
      have hs := und_step f i k hik HI.out
      obtain ⟨z, hz⟩ : ∃ z, up f k = z := ⟨_, rfl⟩
      rw [hz] at hs
      have HS := Lib.hid hs
      have HZ := Lib.hid hz
      clear hs hz
      by_cases hc : z < (i : Int)
      · go_wp2_with fail
        refine (parent_any a len cap f k w hlt HP.out).mono ?_
        rintro e w' ⟨rfl, rfl⟩
        rw [HZ.out]
        go_wp2_with fail
        go_ret
        exact ⟨k, rfl, ⟨hik, by omega, HI.out, fun _ hm => by have := HS.out.1 hm; omega⟩, rfl⟩
      · go_wp2_with fail
        refine (parent_any a len cap f k w hlt HP.out).mono ?_
        rintro e w' ⟨rfl, rfl⟩
        rw [HZ.out]
        go_wp2_with fail
        go_round
        case rel =>
          refine ⟨k + 1, by go_num, by omega, by omega, fun j h1 h2 => ?_⟩
          by_cases c : j = k
          · subst c; exact HS.out.2 (by omega)
          · exact HI.out j h1 (by omega)
        case measure => simp [intOf]; omega
    · have hke : k = len := by omega
      have HE : Hid (EndIs f len i k) := ⟨hik, hk, HI.out, fun hh => absurd hh (by omega)⟩
      have HKE := Lib.hid hke
      clear hke
      go_wp2_with fail
      go_ret
      exact ⟨k, ret_int (by rw [HKE.out]), HE.out, rfl⟩

set_option maxRecDepth 100000 in
set_option maxHeartbeats 400000 in
theorem End_no (a : Option Addr) (len cap : Nat) (i : Int) (w : World) (h : i < 0 ∨ (len : Int) ≤ i) :
    Calls Try.prog 12 #[.slice a len cap, .int .i64 i] w fun e w' => e = .returned (.int .i64 0) ∧ w = w' := by
  have C := Lib.hid (has_no a len cap i w h)
  clear h
  go_enter Try.func12, Try.ntmps12
  go_wp2_with fail
  refine C.out.mono ?_
  rintro e w' ⟨rfl, rfl⟩
  go_wp2_with fail
  go_ret
  exact ⟨rfl, rfl⟩

set_option maxRecDepth 100000 in
set_option maxHeartbeats 400000 in
theorem Kids_no (a : Option Addr) (len cap : Nat) (i : Int) (w : World) (h : i < 0 ∨ (len : Int) ≤ i) :
    Calls Try.prog 10 #[.slice a len cap, .int .i64 i] w fun e w' => e = .returned (.slice none 0 0) ∧ w = w' := by
  have C := Lib.hid (has_no a len cap i w h)
  clear h
  go_enter Try.func10, Try.ntmps10
  go_wp2_with fail
  refine C.out.mono ?_
  rintro e w' ⟨rfl, rfl⟩
  go_wp2_with fail
  go_ret
  exact ⟨rfl, rfl⟩

/-- how far a gathering of kids has come -/
def KidRel (f : Nat → Int) (i b len : Nat) (w : World) (v u : Value) (wr : World) : Prop :=
  ∃ k : Nat, u = .int .i64 ((b + k : Nat) : Int) ∧ b + k ≤ len ∧ wr.ownsRow w.heap.size 3 1 v (kidsF (kidB f i) b k).length (ints (kidsF (kidB f i) b k)) ∧ Below w.heap.size w wr
set_option maxRecDepth 100000 in
theorem kidsF_yes (f : Nat → Int) (i b k : Nat) (h : up f (b + k) = (i : Int)) : kidsF (kidB f i) b (k + 1) = kidsF (kidB f i) b k ++ [b + k] := by
  show _ ++ (if kidB f i (b + k) = true then [b + k] else []) = _
  rw [if_pos (by unfold kidB; rw [h]; simp)]
set_option maxRecDepth 100000 in
theorem kidsF_no (f : Nat → Int) (i b k : Nat) (h : ¬ up f (b + k) = (i : Int)) : kidsF (kidB f i) b (k + 1) = kidsF (kidB f i) b k := by
  show _ ++ (if kidB f i (b + k) = true then [b + k] else []) = _
  rw [if_neg (by unfold kidB; simpa using h), List.append_nil]

set_option maxRecDepth 100000 in
set_option maxHeartbeats 2000000 in
theorem Kids_any (a : Option Addr) (len cap : Nat) (f : Nat → Int) (i : Nat) (w : World) (hl : len ≤ 100000) (h : i < len) (hP : Pars w a len f) :
    Calls Try.prog 10 #[.slice a len cap, .int .i64 (i : Int)] w (Told w (kidsF (kidB f i) (i + 1) (len - (i + 1)))) := by
  obtain ⟨i0, hi, hz0, hz1, hz2⟩ := info_parts info_int3
  have HP := Lib.hid hP
  clear hP
  go_enter Try.func10, Try.ntmps10
  go_wp2_with fail
  refine (has_yes a len cap i w h).mono ?_
  rintro e w' ⟨rfl, rfl⟩
  go_wp2_with fail
  go_loopw [5, 6] (fun v u wr => KidRel f i (i + 1) len w v u wr) (fun _ u _ => len - (intOf u).toNat)
  case atStart => exact ⟨0, by go_num, by omega, World.ownsRow_nil _ _ _ _, Below.refl _ _⟩
  case round =>
    obtain ⟨k, rfl, hk, hown, hbel⟩ := hrel
    have hkl := kidsF_len (kidB f i) (i + 1) k
    obtain ⟨m, hm⟩ : ∃ m, i + 1 + k = m := ⟨_, rfl⟩
    have hyes := kidsF_yes f i (i + 1) k
    have hno := kidsF_no f i (i + 1) k
    rw [hm] at hk hyes hno ⊢
    have HM := Lib.hid hm
    have HY := Lib.hid hyes
    have HN := Lib.hid hno
    clear hm hyes hno
    obtain ⟨D, hD⟩ : ∃ D, kidsF (kidB f i) (i + 1) k = D := ⟨_, rfl⟩
    rw [hD] at hown hkl
    have HD := Lib.hid hD
    clear hD
    have hDm : D.length ≤ m := by have := HM.out; omega
    have HB := Lib.hid hbel
    have hsz := hbel.size
    clear hbel hkl
    by_cases hlt : m < len
    · have hltz : (m : Int) < (len : Int) := by omega
      obtain ⟨z, hz⟩ : ∃ z, up f m = z := ⟨_, rfl⟩
      have hzb := up_bd f m
      rw [hz] at hzb
      have HZ := Lib.hid hz
      clear hz
      have C := Lib.hid (parent_any a len cap f m wr hlt (HP.out.below HB.out))
      by_cases hc : z = (i : Int)
      · subst hc
        go_wp2_with fail
        refine C.out.mono ?_
        rintro e w' ⟨rfl, rfl⟩
        rw [HZ.out]
        go_wp2_with (at_builtin; refine wpList_append_own _ rfl _ _ 26 rfl w.heap.size 3 i0 (.int .i64 0) 1 8 Try.underlying26 hi hz0 hz1 hz2 rfl (by decide) _ _ _ rfl (hown.alloc _) ⟨wr.heap.size, 0, none⟩ 1 1 [.int .i64 ((m : Nat) : Int)] rfl rfl ?c1 ?c2 ?c3 ?c4 ?c5 ?_)
        case c1 =>
          intro j u hj
          match j, hj with
          | 0, hj => simp at hj; subst hj; simp [Addr.add]
        case c2 => intro u hu; simp at hu; subst hu; rfl
        case c3 => unfold maxLen; omega
        case c4 => omega
        case c5 => simp; omega
        intro v' w1 hown' hgrow _
        have hb1 : Below w.heap.size w w1 := (HB.out.alloc hsz _).trans (below_grown hgrow (fun g hg => (World.ownsRow.lt hown g hg).1) (by simp; omega))
        clear hgrow hown
        have HB1 := Lib.hid hb1
        clear hb1
        go_wp2_with fail
        go_roundw
        case rel =>
          refine ⟨k + 1, congrArg (Value.int .i64) (by have := HM.out; omega), by have := HM.out; omega, ?_, HB1.out⟩
          rw [HY.out HZ.out, HD.out]
          exact by
            have e1 : (D ++ [m]).length = D.length + 1 := by simp
            have e2 : ints (D ++ [m]) = ints D ++ [.int .i64 (m : Int)] := by unfold ints; simp
            rw [e1, e2]; exact hown'
        case measure => simp [intOf]; omega
      · have hc' : (z == (i : Int)) = false := by rw [beq_eq_false_iff_ne]; exact hc
        go_wp2_with fail
        refine C.out.mono ?_
        rintro e w' ⟨rfl, rfl⟩
        rw [HZ.out]
        go_wp2_with fail
        go_roundw
        case rel =>
          refine ⟨k + 1, congrArg (Value.int .i64) (by have := HM.out; omega), by have := HM.out; omega, ?_, HB.out⟩
          rw [HN.out (by rw [HZ.out]; exact hc), HD.out]
          exact hown
        case measure => simp [intOf]; omega
    · have hke : k = len - (i + 1) := by have := HM.out; omega
      have HKE := Lib.hid hke
      clear hke
      go_wp2_with fail
      go_ret
      have hd := HD.out
      rw [HKE.out] at hd
      obtain ⟨ad, c, rfl⟩ := own_slice hown
      rw [hd]
      exact ⟨ad, c, rfl, HB.out, NL_own hown⟩

set_option maxRecDepth 100000 in
set_option maxHeartbeats 400000 in
theorem refUp_any (a : Option Addr) (len cap : Nat) (f : Nat → Int) (i : Nat) (w : World) (h : i < len) (hP : Pars w a len f) :
    Calls Try.prog 18 #[.slice a len cap, .int .i64 (i : Int)] w fun e w' => e = .returned (.int .i64 (up f i)) ∧ w = w' := by
  obtain ⟨b, off, rfl, hc⟩ := hP.at_ h
  have hz : (i : Int) < (len : Int) := by omega
  have hu : up f i = if 0 ≤ f i ∧ f i < (i : Int) then f i else -1 := rfl
  obtain ⟨x, hx⟩ : ∃ x, f i = x := ⟨_, rfl⟩
  rw [hx] at hc hu
  have hw : x < 0 ∨ (0 ≤ x ∧ x < (i : Int)) ∨ (0 ≤ x ∧ ¬ x < (i : Int)) := by omega
  have HU := Lib.hid hu
  clear hu hx
  rcases hw with h1 | ⟨h1, h2⟩ | ⟨h1, h2⟩
  all_goals
    go_enter Try.func18, Try.ntmps18
    go_wp2_with fail
    go_ret
    refine ⟨ret_int ?_, rfl⟩
    rw [HU.out]
    first | rw [if_pos (by omega)] | rw [if_neg (by omega)]

set_option maxRecDepth 100000 in
set_option maxHeartbeats 1000000 in
theorem refUnder_any (a : Option Addr) (len cap : Nat) (f : Nat → Int) (i j : Nat) (w : World) (h : i < len) (hP : Pars w a len f) :
    Calls Try.prog 21 #[.slice a len cap, .int .i64 (i : Int), .int .i64 (j : Int)] w fun e w' => e = .returned (.bool (undB f i j)) ∧ w = w' := by
  have HP := Lib.hid hP
  clear hP
  go_enter Try.func21, Try.ntmps21
  go_wp2_with fail
  refine (refUp_any a len cap f i w h HP.out).mono ?_
  rintro e w' ⟨rfl, rfl⟩
  go_wp2_with fail
  go_loop [7] (fun u => ∃ (z : Int) (rest : List Nat), u = .int .i64 z ∧ Hid (undB f i j = decide (j ∈ rest)) ∧ ((z = -1 ∧ rest = []) ∨ ∃ p : Nat, z = (p : Int) ∧ p < i ∧ rest = p :: ups f p)) (fun u => (intOf u + 1).toNat)
  case atStart =>
    rcases ups_cases f i with ⟨h1, h2⟩ | ⟨p, hp, h1, h2⟩
    · exact ⟨-1, [], by rw [h1], by unfold undB; rw [h2]; exact rfl, Or.inl ⟨rfl, rfl⟩⟩
    · exact ⟨p, p :: ups f p, by rw [h1], by unfold undB; rw [h2]; exact rfl, Or.inr ⟨p, rfl, hp, rfl⟩⟩
  case round =>
    obtain ⟨z, rest, rfl, HU, hz⟩ := hrel
    rcases hz with ⟨rfl, rfl⟩ | ⟨p, rfl, hp, rfl⟩
    · go_wp2_with fail
      go_ret
      exact ⟨ret_bool (by rw [HU.out]; simp), rfl⟩
    · by_cases hc : p = j
      · subst hc
        go_wp2_with fail
        go_ret
        exact ⟨ret_bool (by rw [HU.out]; simp), rfl⟩
      · have hc' : ((p : Int) == (j : Int)) = false := by rw [beq_eq_false_iff_ne]; omega
        have hm : undB f i j = decide (j ∈ ups f p) := by
          rw [HU.out]
          simp only [List.mem_cons]
          have : ¬ j = p := fun e => hc e.symm
          simp [this]
        have HM := Lib.hid hm
        clear hm
        go_wp2_with fail
        refine (refUp_any a len cap f p w (by omega) HP.out).mono ?_
        rintro e w' ⟨rfl, rfl⟩
        go_wp2_with fail
        go_round
        case rel =>
          rcases ups_cases f p with ⟨h1, h2⟩ | ⟨p2, hp2, h1, h2⟩
          · exact ⟨-1, [], by rw [h1], by rw [HM.out, h2]; exact rfl, Or.inl ⟨rfl, rfl⟩⟩
          · exact ⟨p2, p2 :: ups f p2, by rw [h1], by rw [HM.out, h2]; exact rfl, Or.inr ⟨p2, rfl, by omega, rfl⟩⟩
        case measure =>
          have := up_bd f p
          simp [intOf]; omega

set_option maxRecDepth 100000 in
set_option maxHeartbeats 1000000 in
theorem refDepth_ind (a : Option Addr) (len cap : Nat) (f : Nat → Int) (w : World) (hl : len ≤ 100000) (hP : Pars w a len f) : ∀ n i : Nat, i < n → i < len →
    Calls Try.prog 6 #[.slice a len cap, .int .i64 (i : Int)] w fun e w' => e = .returned (.int .i64 (1 + (ups f i).length)) ∧ w = w'
  | 0, i, h, _ => absurd h (by omega)
  | n + 1, i, hn, h => by
    have HIH := Lib.hid (refDepth_ind a len cap f w hl hP n)
    have C := Lib.hid (refUp_any a len cap f i w h hP)
    have hz : ¬ (len : Int) ≤ (i : Int) := by omega
    have hle := ups_length f i
    clear hP
    rcases ups_cases f i with ⟨h1, h2⟩ | ⟨p, hp, h1, h2⟩
    · have H1 := Lib.hid h1
      have H2 := Lib.hid h2
      clear h1 h2 hle
      go_enter Try.func6, Try.ntmps6
      go_wp2_with fail
      refine C.out.mono ?_
      rintro e w' ⟨rfl, rfl⟩
      rw [H1.out]
      go_wp2_with fail
      go_ret
      exact ⟨ret_int (by rw [H2.out]; rfl), rfl⟩
    · have IH := Lib.hid (HIH.out p (by omega) (by omega))
      have hlp := ups_length f p
      have H1 := Lib.hid h1
      have H2 := Lib.hid h2
      obtain ⟨x, hx⟩ : ∃ x, (ups f p).length = x := ⟨_, rfl⟩
      rw [hx] at IH hlp
      have HX := Lib.hid hx
      clear h1 h2 hle hx HIH
      go_enter Try.func6, Try.ntmps6
      go_wp2_with fail
      refine C.out.mono ?_
      rintro e w' ⟨rfl, rfl⟩
      rw [H1.out]
      go_wp2_with fail
      refine C.out.mono ?_
      rintro e w' ⟨rfl, rfl⟩
      rw [H1.out]
      go_wp2_with fail
      refine IH.out.mono ?_
      rintro e w' ⟨rfl, rfl⟩
      go_wp2_with fail
      go_ret
      exact ⟨ret_int (by rw [H2.out, List.length_cons, HX.out]; omega), rfl⟩
set_option maxRecDepth 100000 in
theorem refDepth_any (a : Option Addr) (len cap : Nat) (f : Nat → Int) (i : Nat) (w : World) (hl : len ≤ 100000) (h : i < len) (hP : Pars w a len f) :
    Calls Try.prog 6 #[.slice a len cap, .int .i64 (i : Int)] w fun e w' => e = .returned (.int .i64 (1 + (ups f i).length)) ∧ w = w' := refDepth_ind a len cap f w hl hP (i + 1) i (by omega) h

set_option maxRecDepth 100000 in
theorem not_there (len : Nat) (i : Int) (h : i < 0 ∨ (len : Int) ≤ i) : i < 0 ∨ (0 ≤ i ∧ (len : Int) ≤ i) := by omega

set_option maxRecDepth 100000 in
set_option maxHeartbeats 400000 in
theorem refDepth_no (a : Option Addr) (len cap : Nat) (i : Int) (w : World) (h : i < 0 ∨ (len : Int) ≤ i) :
    Calls Try.prog 6 #[.slice a len cap, .int .i64 i] w fun e w' => e = .returned (.int .i64 0) ∧ w = w' := by
  rcases not_there len i h with h | ⟨h, h2⟩
  all_goals
    go_enter Try.func6, Try.ntmps6
    go_wp2_with fail
    go_ret
    exact ⟨rfl, rfl⟩

set_option maxRecDepth 100000 in
set_option maxHeartbeats 400000 in
theorem refUps_no (a : Option Addr) (len cap : Nat) (i : Int) (w : World) (h : i < 0 ∨ (len : Int) ≤ i) :
    Calls Try.prog 9 #[.slice a len cap, .int .i64 i] w fun e w' => e = .returned (.slice none 0 0) ∧ w = w' := by
  rcases not_there len i h with h | ⟨h, h2⟩
  all_goals
    go_enter Try.func9, Try.ntmps9
    go_wp2_with fail
    go_ret
    exact ⟨rfl, rfl⟩

set_option maxRecDepth 100000 in
set_option maxHeartbeats 400000 in
theorem refEnd_no (a : Option Addr) (len cap : Nat) (i : Int) (w : World) (h : i < 0 ∨ (len : Int) ≤ i) :
    Calls Try.prog 13 #[.slice a len cap, .int .i64 i] w fun e w' => e = .returned (.int .i64 0) ∧ w = w' := by
  rcases not_there len i h with h | ⟨h, h2⟩
  all_goals
    go_enter Try.func13, Try.ntmps13
    go_wp2_with fail
    go_ret
    exact ⟨rfl, rfl⟩

/-- how far the reference's 'Ups' has come -/
def RupsRel (f : Nat → Int) (i : Nat) (w : World) (v u : Value) (wr : World) : Prop :=
  ∃ (k : Nat) (D : List Nat), u = .int .i64 ((k : Int) - 1) ∧ k ≤ i ∧ ups f i = D ++ picks (undB f i) k ∧ wr.ownsRow w.heap.size 3 1 v D.length (ints D) ∧ Below w.heap.size w wr

set_option maxRecDepth 100000 in
set_option maxHeartbeats 2000000 in
theorem refUps_any (a : Option Addr) (len cap : Nat) (f : Nat → Int) (i : Nat) (w : World) (hl : len ≤ 100000) (h : i < len) (hP : Pars w a len f) :
    Calls Try.prog 9 #[.slice a len cap, .int .i64 (i : Int)] w (Told w (ups f i)) := by
  obtain ⟨i0, hi, hz0, hz1, hz2⟩ := info_parts info_int3
  have HP := Lib.hid hP
  have hz : ¬ (len : Int) ≤ (i : Int) := by omega
  clear hP
  go_enter Try.func9, Try.ntmps9
  go_wp2_with fail
  go_loopw [5, 6] (fun v u wr => RupsRel f i w v u wr) (fun _ u _ => (intOf u + 1).toNat)
  case atStart => exact ⟨i, [], rfl, by omega, by rw [picks_ups]; rfl, World.ownsRow_nil _ _ _ _, Below.refl _ _⟩
  case round =>
    obtain ⟨k, D, rfl, hk, hd, hown, hbel⟩ := hrel
    have hDl : D.length ≤ i := by
      have h1 := ups_length f i
      rw [hd, List.length_append] at h1
      omega
    have HD := Lib.hid hd
    have HB := Lib.hid hbel
    have hsz := hbel.size
    clear hd hbel
    cases k with
    | zero =>
      go_wp2_with fail
      go_ret
      have hd := HD.out
      have e : picks (undB f i) 0 = [] := rfl
      rw [e, List.append_nil] at hd
      obtain ⟨ad, c, rfl⟩ := own_slice hown
      rw [hd]
      exact ⟨ad, c, rfl, HB.out, NL_own hown⟩
    | succ k =>
      have hke : ((k + 1 : Nat) : Int) - 1 = (k : Int) := by omega
      rw [hke]
      clear hke
      have C := Lib.hid (refUnder_any a len cap f i k wr h (HP.out.below HB.out))
      have hpk : picks (undB f i) (k + 1) = if undB f i k = true then k :: picks (undB f i) k else picks (undB f i) k := rfl
      cases hu : undB f i k with
      | true =>
        rw [hu] at hpk
        have hd2 : ups f i = (D ++ [k]) ++ picks (undB f i) k := by rw [HD.out, hpk, List.append_assoc]; rfl
        have hDl2 : D.length + 1 ≤ i := by
          have h1 := ups_length f i
          rw [hd2, List.length_append, List.length_append] at h1
          simp at h1
          omega
        have HD2 := Lib.hid hd2
        have HU := Lib.hid hu
        clear hd2 hpk hu
        go_wp2_with fail
        refine C.out.mono ?_
        rintro e w' ⟨rfl, rfl⟩
        rw [HU.out]
        go_wp2_with (at_builtin; refine wpList_append_own _ rfl _ _ 26 rfl w.heap.size 3 i0 (.int .i64 0) 1 8 Try.underlying26 hi hz0 hz1 hz2 rfl (by decide) _ _ _ rfl (hown.alloc _) ⟨wr.heap.size, 0, none⟩ 1 1 [.int .i64 ((k : Nat) : Int)] rfl rfl ?c1 ?c2 ?c3 ?c4 ?c5 ?_)
        case c1 =>
          intro j u hj
          match j, hj with
          | 0, hj => simp at hj; subst hj; simp [Addr.add]
        case c2 => intro u hu; simp at hu; subst hu; rfl
        case c3 => unfold maxLen; omega
        case c4 => omega
        case c5 => simp; omega
        intro v' w1 hown' hgrow _
        have hb1 : Below w.heap.size w w1 := (HB.out.alloc hsz _).trans (below_grown hgrow (fun g hg => (World.ownsRow.lt hown g hg).1) (by simp; omega))
        clear hgrow hown
        have HB1 := Lib.hid hb1
        clear hb1
        go_wp2_with fail
        go_roundw
        case rel =>
          refine ⟨k, D ++ [k], rfl, by omega, HD2.out, ?_, HB1.out⟩
          exact by
            have e1 : (D ++ [k]).length = D.length + 1 := by simp
            have e2 : ints (D ++ [k]) = ints D ++ [.int .i64 (k : Int)] := by unfold ints; simp
            rw [e1, e2]; exact hown'
        case measure => simp [intOf]
      | false =>
        rw [hu] at hpk
        have hd2 : ups f i = D ++ picks (undB f i) k := by rw [HD.out, hpk]; rfl
        have HD2 := Lib.hid hd2
        have HU := Lib.hid hu
        clear hd2 hpk hu
        go_wp2_with fail
        refine C.out.mono ?_
        rintro e w' ⟨rfl, rfl⟩
        rw [HU.out]
        go_wp2_with fail
        go_roundw
        case rel => exact ⟨k, D, rfl, by omega, HD2.out, hown, HB.out⟩
        case measure => simp [intOf]

end Go.Proofs.Ytijhneadfagehaa
