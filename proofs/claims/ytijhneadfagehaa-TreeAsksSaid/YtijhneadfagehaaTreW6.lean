/- The walks of layer 4's reference: kids and ends; lists held against each other. -/
import Derived.Test.YtijhneadfagehaaTreW5
namespace Go.Proofs.Ytijhneadfagehaa
open Go.RowKit TreP

set_option maxRecDepth 100000 in
set_option maxHeartbeats 2000000 in
theorem refKids_any (a : Option Addr) (len cap : Nat) (f : Nat → Int) (i : Nat) (w : World) (hl : len ≤ 100000) (hP : Pars w a len f) :
    Calls Try.prog 11 #[.slice a len cap, .int .i64 (i : Int)] w (Told w (kidsF (kidB f i) (0) (len - (0)))) := by
  obtain ⟨i0, hi, hz0, hz1, hz2⟩ := info_parts info_int3
  have HP := Lib.hid hP
  clear hP
  go_enter Try.func11, Try.ntmps11
  go_wp2_with fail
  go_loopw [5, 6] (fun v u wr => KidRel f i (0) len w v u wr) (fun _ u _ => len - (intOf u).toNat)
  case atStart => exact ⟨0, rfl, by omega, World.ownsRow_nil _ _ _ _, Below.refl _ _⟩
  case round =>
    obtain ⟨k, rfl, hk, hown, hbel⟩ := hrel
    have hkl := kidsF_len (kidB f i) (0) k
    obtain ⟨m, hm⟩ : ∃ m, 0 + k = m := ⟨_, rfl⟩
    have hyes := kidsF_yes f i (0) k
    have hno := kidsF_no f i (0) k
    rw [hm] at hk hyes hno ⊢
    have HM := Lib.hid hm
    have HY := Lib.hid hyes
    have HN := Lib.hid hno
    clear hm hyes hno
    obtain ⟨D, hD⟩ : ∃ D, kidsF (kidB f i) (0) k = D := ⟨_, rfl⟩
    rw [hD] at hown hkl
    have HD := Lib.hid hD
    clear hD
    have hDm : D.length ≤ m := by have := HM.out; omega
    have HB := Lib.hid hbel
    have hsz := hbel.size
    clear hbel hkl
    by_cases hlt : m < len
    · have hltz : (m : Int) < (len : Int) := by omega
      obtain ⟨z, hz⟩ : ∃ z, up f m = z := ⟨_, rfl⟩
      have hzb := up_bd f m
      rw [hz] at hzb
      have HZ := Lib.hid hz
      clear hz
      have C := Lib.hid (refUp_any a len cap f m wr hlt (HP.out.below HB.out))
      by_cases hc : z = (i : Int)
      · subst hc
        go_wp2_with fail
        refine C.out.mono ?_
        rintro e w' ⟨rfl, rfl⟩
        rw [HZ.out]
        go_wp2_with (at_builtin; refine wpList_append_own _ rfl _ _ 26 rfl w.heap.size 3 i0 (.int .i64 0) 1 8 Try.underlying26 hi hz0 hz1 hz2 rfl (by decide) _ _ _ rfl (hown.alloc _) ⟨wr.heap.size, 0, none⟩ 1 1 [.int .i64 ((m : Nat) : Int)] rfl rfl ?c1 ?c2 ?c3 ?c4 ?c5 ?_)
        case c1 =>
          intro j u hj
          match j, hj with
          | 0, hj => simp at hj; subst hj; simp [Addr.add]
        case c2 => intro u hu; simp at hu; subst hu; rfl
        case c3 => unfold maxLen; omega
        case c4 => omega
        case c5 => simp; omega
        intro v' w1 hown' hgrow _
        have hb1 : Below w.heap.size w w1 := (HB.out.alloc hsz _).trans (below_grown hgrow (fun g hg => (World.ownsRow.lt hown g hg).1) (by simp; omega))
        clear hgrow hown
        have HB1 := Lib.hid hb1
        clear hb1
        go_wp2_with fail
        go_roundw
        case rel =>
          refine ⟨k + 1, congrArg (Value.int .i64) (by have := HM.out; omega), by have := HM.out; omega, ?_, HB1.out⟩
          rw [HY.out HZ.out, HD.out]
          exact by
            have e1 : (D ++ [m]).length = D.length + 1 := by simp
            have e2 : ints (D ++ [m]) = ints D ++ [.int .i64 (m : Int)] := by unfold ints; simp
            rw [e1, e2]; exact hown'
        case measure => simp [intOf]; omega
      · have hc' : (z == (i : Int)) = false := by rw [beq_eq_false_iff_ne]; exact hc
        go_wp2_with fail
        refine C.out.mono ?_
        rintro e w' ⟨rfl, rfl⟩
        rw [HZ.out]
        go_wp2_with fail
        go_roundw
        case rel =>
          refine ⟨k + 1, congrArg (Value.int .i64) (by have := HM.out; omega), by have := HM.out; omega, ?_, HB.out⟩
          rw [HN.out (by rw [HZ.out]; exact hc), HD.out]
          exact hown
        case measure => simp [intOf]; omega
    · have hke : k = len - (0) := by have := HM.out; omega
      have HKE := Lib.hid hke
      clear hke
      go_wp2_with fail
      go_ret
      have hd := HD.out
      rw [HKE.out] at hd
      obtain ⟨ad, c, rfl⟩ := own_slice hown
      rw [hd]
      exact ⟨ad, c, rfl, HB.out, NL_own hown⟩

set_option maxRecDepth 100000 in
set_option maxHeartbeats 1000000 in
theorem refKids_no (a : Option Addr) (len cap : Nat) (f : Nat → Int) (i : Int) (w : World) (hl : len ≤ 100000) (h : i < 0) (hP : Pars w a len f) :
    Calls Try.prog 11 #[.slice a len cap, .int .i64 i] w fun e w' => e = .returned (.slice none 0 0) ∧ w = w' := by
  have HP := Lib.hid hP
  clear hP
  go_enter Try.func11, Try.ntmps11
  go_wp2_with fail
  go_loop [5, 6] (fun v u => ∃ k : Nat, v = .slice none 0 0 ∧ u = .int .i64 k ∧ k ≤ len) (fun _ u => len - (intOf u).toNat)
  case atStart => exact ⟨0, rfl, rfl, by omega⟩
  case round =>
    obtain ⟨k, rfl, rfl, hk⟩ := hrel
    by_cases hlt : k < len
    · have hltz : (k : Int) < (len : Int) := by omega
      have C := Lib.hid (refUp_any a len cap f k w hlt HP.out)
      obtain ⟨z, hz⟩ : ∃ z, up f k = z := ⟨_, rfl⟩
      rw [hz] at C
      clear hz
      have hi : ¬ 0 ≤ i := by omega
      cases hc : (z == i) with
      | true =>
        go_wp2_with fail
        refine C.out.mono ?_
        rintro e w' ⟨rfl, rfl⟩
        go_wp2_with fail
        go_round
        case rel => exact ⟨k + 1, rfl, by go_num, by omega⟩
        case measure => simp [intOf]; omega
      | false =>
        go_wp2_with fail
        refine C.out.mono ?_
        rintro e w' ⟨rfl, rfl⟩
        go_wp2_with fail
        go_round
        case rel => exact ⟨k + 1, rfl, by go_num, by omega⟩
        case measure => simp [intOf]; omega
    · go_wp2_with fail
      go_ret
      exact ⟨rfl, rfl⟩

set_option maxRecDepth 100000 in
set_option maxHeartbeats 1000000 in
theorem refEnd_any (a : Option Addr) (len cap : Nat) (f : Nat → Int) (i : Nat) (w : World) (hl : len ≤ 100000) (h : i < len) (hP : Pars w a len f) :
    Calls Try.prog 13 #[.slice a len cap, .int .i64 (i : Int)] w (ToldEnd f len i w) := by
  have HP := Lib.hid hP
  have hz : ¬ (len : Int) ≤ (i : Int) := by omega
  clear hP
  go_enter Try.func13, Try.ntmps13
  go_wp2_with fail
  go_loop [5] (fun u => ∃ k : Nat, u = .int .i64 k ∧ i < k ∧ k ≤ len ∧ Hid (∀ j, i < j → j < k → i ∈ ups f j)) (fun u => len - (intOf u).toNat)
  case atStart => exact ⟨i + 1, by go_num, by omega, by omega, fun j h1 h2 => by omega⟩
  case round =>
    obtain ⟨k, rfl, hik, hk, HI⟩ := hrel
    by_cases hlt : k < len
    · have hltz : (k : Int) < (len : Int) := by omega
      have C := Lib.hid (refUnder_any a len cap f k i w hlt HP.out)
      cases hu : undB f k i with
      | true =>
        have HU := Lib.hid hu
        have hm : i ∈ ups f k := by unfold undB at hu; simpa using hu
        have HM := Lib.hid hm
        clear hu hm
        go_wp2_with fail
        refine C.out.mono ?_
        rintro e w' ⟨rfl, rfl⟩
        rw [HU.out]
        go_wp2_with fail
        go_round
        case rel =>
          refine ⟨k + 1, by go_num, by omega, by omega, fun j h1 h2 => ?_⟩
          by_cases c : j = k
          · subst c; exact HM.out
          · exact HI.out j h1 (by omega)
        case measure => simp [intOf]; omega
      | false =>
        have HU := Lib.hid hu
        have hm : i ∉ ups f k := by unfold undB at hu; simpa using hu
        have HM := Lib.hid hm
        clear hu hm
        go_wp2_with fail
        refine C.out.mono ?_
        rintro e w' ⟨rfl, rfl⟩
        rw [HU.out]
        go_wp2_with fail
        go_ret
        exact ⟨k, rfl, ⟨hik, by omega, HI.out, fun _ => HM.out⟩, rfl⟩
    · have hke : k = len := by omega
      have HE : Hid (EndIs f len i k) := ⟨hik, hk, HI.out, fun hh => absurd hh (by omega)⟩
      have hltz : ¬ (k : Int) < (len : Int) := by omega
      clear hke
      go_wp2_with fail
      go_ret
      exact ⟨k, rfl, HE.out, rfl⟩

set_option maxRecDepth 100000 in
set_option maxHeartbeats 1000000 in
theorem Ints_lst (a a2 : Option Addr) (c c2 : Nat) (xs : List Nat) (w : World) (hl : xs.length ≤ 100000) (h1 : NL w a xs) (h2 : NL w a2 xs) :
    Calls Try.prog 7 #[.slice a xs.length c, .slice a2 xs.length c2] w fun e w' => e = .returned (.bool true) ∧ ∃ q, w' = w.drewN q := by
  have H1 := Lib.hid h1
  have H2 := Lib.hid h2
  obtain ⟨n, hn⟩ : ∃ n, xs.length = n := ⟨_, rfl⟩
  rw [hn] at hl ⊢
  have HN := Lib.hid hn
  clear h1 h2 hn
  go_enter Try.func7, Try.ntmps7
  go_wp2_with fail
  go_loopw [5] (fun vi wr => ∃ k q : Nat, vi = .int .i64 k ∧ k ≤ n ∧ wr = w.drewN q) (fun vi _ => n - (intOf vi).toNat)
  case atStart => exact ⟨0, 0, rfl, by omega, rfl⟩
  case round =>
    obtain ⟨k, q, rfl, hk, rfl⟩ := hrel
    by_cases hlt : k < n
    · have hltz : (k : Int) < (n : Int) := by omega
      have hkx : k < xs.length := by rw [HN.out]; exact hlt
      have hx : xs[k]? = some xs[k] := List.getElem?_eq_getElem hkx
      obtain ⟨g1, rfl, c1⟩ : ∃ g, a = some ⟨g, 0, none⟩ ∧ w.cell? ⟨g, k, none⟩ = some (.int .i64 ((xs[k] : Nat) : Int)) := by
        rcases H1.out with e | ⟨g, e, _, hc⟩
        · rw [e] at hkx; simp at hkx
        · exact ⟨g, e, hc k _ hx⟩
      obtain ⟨g2, rfl, c2'⟩ : ∃ g, a2 = some ⟨g, 0, none⟩ ∧ w.cell? ⟨g, k, none⟩ = some (.int .i64 ((xs[k] : Nat) : Int)) := by
        rcases H2.out with e | ⟨g, e, _, hc⟩
        · rw [e] at hkx; simp at hkx
        · exact ⟨g, e, hc k _ hx⟩
      clear hx
      obtain ⟨y, hy⟩ : ∃ y, xs[k] = y := ⟨_, rfl⟩
      rw [hy] at c1 c2'
      clear hy
      have d1 : (w.drewN q).cell? ⟨g1, k, none⟩ = some (.int .i64 (y : Int)) := c1
      have d2 : (w.drewN q).cell? ⟨g2, k, none⟩ = some (.int .i64 (y : Int)) := c2'
      clear c1 c2'
      generalize hwq : w.drewN q = wq at d1 d2 ⊢
      have HW := Lib.hid hwq
      clear hwq
      go_wp2_with fail
      go_quiet (fail)
      go_wp2_with fail
      go_roundw
      case rel => exact ⟨k + 1, q + nq, by go_num, by omega, by rw [← HW.out, World.drewN_drewN]⟩
      case measure => simp [intOf]; omega
    · go_wp2_with fail
      go_ret
      exact ⟨rfl, q, rfl⟩
end Go.Proofs.Ytijhneadfagehaa
