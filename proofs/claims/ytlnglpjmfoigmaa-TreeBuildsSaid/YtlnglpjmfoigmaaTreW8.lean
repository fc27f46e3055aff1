/- The walks of layer 4's reference: is a node right? -/
import Derived.Test.YtlnglpjmfoigmaaTreW7
namespace Go.Proofs.Ytlnglpjmfoigmaa
open Go.RowKit TreN TreP

set_option maxRecDepth 100000 in
set_option maxHeartbeats 4000000 in
theorem refRight_w1 (n : Nd) (w : World) (hn : NdIn w n) (ht : emB n.tag = true) (hi : emB n.id = false) : Calls Try.prog 33 #[.agg n.val] w fun e w' => e = .returned (.bool false) ∧ Below w.heap.size w w' := by
  have HN := Lib.hid hn
  have hcl := hn.scl
  have hal := hn.sal
  unfold maxLen at hcl hal
  rw [Nd.val_eq]
  clear hn
  unfold emB at ht hi
  have hbx : (w.alloc (.cells #[.int .i64 n.par, .string n.tag, .string n.id, .slice n.ca n.cl n.cc, .slice n.aa n.al n.ac, .string n.tx] 39)) = boxed w n := rfl
  obtain ⟨c0, c1, c2, c3, c4, c5⟩ := boxed_box w n
  have H0 := Lib.hid (boxed_below w n)
  go_enter Try.func33, Try.ntmps33
  go_wp2_with fail
  go_ret
  exact ⟨rfl, H0.out⟩

set_option maxRecDepth 100000 in
set_option maxHeartbeats 4000000 in
theorem refRight_w2 (n : Nd) (w : World) (hn : NdIn w n) (ht : emB n.tag = true) (hi : emB n.id = true) (hc : ¬ n.cl = 0) : Calls Try.prog 33 #[.agg n.val] w fun e w' => e = .returned (.bool false) ∧ Below w.heap.size w w' := by
  have HN := Lib.hid hn
  have hcl := hn.scl
  have hal := hn.sal
  unfold maxLen at hcl hal
  rw [Nd.val_eq]
  clear hn
  unfold emB at ht hi
  have hcz : ((n.cl : Int) == 0) = false := by rw [beq_eq_false_iff_ne]; omega
  have hbx : (w.alloc (.cells #[.int .i64 n.par, .string n.tag, .string n.id, .slice n.ca n.cl n.cc, .slice n.aa n.al n.ac, .string n.tx] 39)) = boxed w n := rfl
  obtain ⟨c0, c1, c2, c3, c4, c5⟩ := boxed_box w n
  have H0 := Lib.hid (boxed_below w n)
  go_enter Try.func33, Try.ntmps33
  go_wp2_with fail
  go_ret
  exact ⟨rfl, H0.out⟩

set_option maxRecDepth 100000 in
set_option maxHeartbeats 4000000 in
theorem refRight_w3 (n : Nd) (w : World) (hn : NdIn w n) (ht : emB n.tag = true) (hi : emB n.id = true) (hc : n.cl = 0) (ha : ¬ n.al = 0) : Calls Try.prog 33 #[.agg n.val] w fun e w' => e = .returned (.bool false) ∧ Below w.heap.size w w' := by
  have HN := Lib.hid hn
  have hcl := hn.scl
  have hal := hn.sal
  unfold maxLen at hcl hal
  rw [Nd.val_eq]
  clear hn
  unfold emB at ht hi
  have hcz : ((n.cl : Int) == 0) = true := by rw [beq_iff_eq, hc]; rfl
  have haz : ((n.al : Int) == 0) = false := by rw [beq_eq_false_iff_ne]; omega
  clear hc
  have hbx : (w.alloc (.cells #[.int .i64 n.par, .string n.tag, .string n.id, .slice n.ca n.cl n.cc, .slice n.aa n.al n.ac, .string n.tx] 39)) = boxed w n := rfl
  obtain ⟨c0, c1, c2, c3, c4, c5⟩ := boxed_box w n
  have H0 := Lib.hid (boxed_below w n)
  go_enter Try.func33, Try.ntmps33
  go_wp2_with fail
  go_ret
  exact ⟨rfl, H0.out⟩

set_option maxRecDepth 100000 in
set_option maxHeartbeats 4000000 in
theorem refRight_w4 (n : Nd) (w : World) (hn : NdIn w n) (ht : emB n.tag = true) (hi : emB n.id = true) (hc : n.cl = 0) (ha : n.al = 0) : Calls Try.prog 33 #[.agg n.val] w fun e w' => e = .returned (.bool (textB n.tx)) ∧ Below w.heap.size w w' := by
  have HN := Lib.hid hn
  have hcl := hn.scl
  have hal := hn.sal
  unfold maxLen at hcl hal
  rw [Nd.val_eq]
  clear hn
  unfold emB at ht hi
  have hcz : ((n.cl : Int) == 0) = true := by rw [beq_iff_eq, hc]; rfl
  have haz : ((n.al : Int) == 0) = true := by rw [beq_iff_eq, ha]; rfl
  clear hc ha
  have hbx : (w.alloc (.cells #[.int .i64 n.par, .string n.tag, .string n.id, .slice n.ca n.cl n.cc, .slice n.aa n.al n.ac, .string n.tx] 39)) = boxed w n := rfl
  obtain ⟨c0, c1, c2, c3, c4, c5⟩ := boxed_box w n
  have H0 := Lib.hid (boxed_below w n)
  go_enter Try.func33, Try.ntmps33
  go_wp2_with (go_at_call 13; refine (refText_any _ HN.out.stx _).mono ?_; rintro e w' ⟨rfl, rfl⟩)
  go_ret
  exact ⟨rfl, H0.out⟩

set_option maxRecDepth 100000 in
theorem range_next (p : Nat → Bool) (k : Nat) : (List.range (k + 1)).all p = ((List.range k).all p && p k) := by
  rw [List.range_succ, List.all_append]; simp
set_option maxRecDepth 100000 in
theorem all_cut (v : Bool) (p : Nat → Bool) {k n : Nat} (hk : k ≤ n) (h : (v && (List.range k).all p) = false) : (v && (List.range n).all p) = false := by
  cases v with
  | false => rfl
  | true =>
    rw [Bool.true_and] at h ⊢
    rw [List.all_eq_false] at h ⊢
    obtain ⟨x, hx, hp⟩ := h
    exact ⟨x, List.mem_range.2 (by have := List.mem_range.1 hx; omega), hp⟩
set_option maxRecDepth 100000 in
theorem fin_yes (v0 v : Bool) (A B : Bool) (h : v = (v0 && A)) {v2 : Bool} (h2 : v2 = (v && B)) : (v0 && (A && B)) = v2 := by rw [h2, h, Bool.and_assoc]
set_option maxRecDepth 100000 in
theorem fin_no (v0 v : Bool) (A : Bool) (p : Nat → Bool) {k n : Nat} (h : v = (v0 && A)) (h2 : v = false ∨ (k ≤ n ∧ (v && (List.range k).all p) = false)) : (v0 && (A && (List.range n).all p)) = false := by
  rw [← Bool.and_assoc, ← h]
  rcases h2 with h2 | ⟨hk, h2⟩
  · rw [h2]; rfl
  · exact all_cut v p hk h2

set_option maxRecDepth 100000 in
set_option maxHeartbeats 4000000 in
theorem refRight_e1 (n : Nd) (w : World) (hn : NdIn w n) (ht : emB n.tag = false) (hg : nameB n.tag = false) (hr : rightB n = (false && ((List.range n.cl).all (fun i => nameB (n.cs i)) && (List.range n.al).all (fun i => nameB (n.an i) && textB (n.av i))))) : Calls Try.prog 33 #[.agg n.val] w fun e w' => e = .returned (.bool (rightB n)) ∧ Below w.heap.size w w' := by
  have HN := Lib.hid hn
  have hcl := hn.scl
  have hal := hn.sal
  unfold maxLen at hcl hal
  rw [Nd.val_eq]
  clear hn
  obtain ⟨v0, hv0⟩ : ∃ v0 : Bool, v0 = false := ⟨_, rfl⟩
  rw [← hv0] at hr
  have HV0 := Lib.hid hv0
  have HR := Lib.hid hr
  clear hv0 hr
  have HG := Lib.hid hg
  clear hg
  unfold emB at ht
  have hbx : (w.alloc (.cells #[.int .i64 n.par, .string n.tag, .string n.id, .slice n.ca n.cl n.cc, .slice n.aa n.al n.ac, .string n.tx] 39)) = boxed w n := rfl
  obtain ⟨c0, c1, c2, c3, c4, c5⟩ := boxed_box w n
  have H0 := Lib.hid (boxed_below w n)
  go_enter Try.func33, Try.ntmps33
  go_wp2_with (go_at_call 11; refine (refName_any n.tag HN.out.stag _).mono ?_; rintro e w' ⟨rfl, rfl⟩; rw [HG.out])
  clear hbx c0 c1 c2 c5
  have H3 := Lib.hid c3
  have H4 := Lib.hid c4
  generalize boxed w n = wb at H0 H3 H4 c3 c4 ⊢
  go_loop [3, 4] (fun o u => ∃ (k : Nat) (v : Bool), o = .bool v ∧ u = .int .i64 k ∧ k ≤ n.cl ∧ Hid (v = (v0 && (List.range k).all (fun i => nameB (n.cs i))))) (fun _ u => n.cl - (intOf u).toNat)
  case atStart => exact ⟨0, v0, by rw [HV0.out], rfl, by omega, by simp [Hid]⟩
  case round =>
    obtain ⟨k, v, rfl, rfl, hk, HV⟩ := hrel
    by_cases hlt : k < n.cl
    · have hltz : (k : Int) < (n.cl : Int) := by omega
      cases hv : v with
      | true =>
        have HF := Lib.hid hv
        clear hv
        obtain ⟨b, off, hca, d0⟩ : ∃ b off, n.ca = some ⟨b, off, none⟩ ∧ wb.cell? ⟨b, off + k, none⟩ = some (.string (n.cs k)) := by
          rcases HN.out.hc with e | ⟨b, off, e, hbs, hc⟩
          · omega
          · exact ⟨b, off, e, by rw [H0.out.cell (p := ⟨b, off + k, none⟩) hbs]; exact hc k hlt⟩
        have e3 := H3.out
        rw [hca] at e3
        clear hca c3
        have CN := Lib.hid (refName_any (n.cs k) (HN.out.scs k hlt) wb)
        go_wp2_with fail
        refine CN.out.mono ?_
        rintro e w' ⟨rfl, rfl⟩
        go_wp2_with fail
        go_round
        case rel => exact ⟨k + 1, nameB (n.cs k), rfl, by go_num, by omega, by rw [range_next, ← Bool.and_assoc, ← HV.out, HF.out]; simp [Hid]⟩
        case measure => simp [intOf]; omega
      | false =>
        have HV1 : Hid (false = (v0 && (List.range n.cl).all (fun i => nameB (n.cs i)))) := (all_cut v0 _ hk (by rw [← HV.out, hv])).symm
        clear hv HV
        go_wp2_with fail
        go_loop [3, 5] (fun o u => ∃ (k2 : Nat) (v2 : Bool), o = .bool v2 ∧ u = .int .i64 k2 ∧ k2 ≤ n.al ∧ Hid (v2 = (false && (List.range k2).all (fun i => nameB (n.an i) && textB (n.av i))))) (fun _ u => n.al - (intOf u).toNat)
        case atStart => exact ⟨0, false, rfl, rfl, by omega, by simp [Hid]⟩
        case round =>
          obtain ⟨k2, v2, rfl, rfl, hk2, HV2⟩ := hrel
          by_cases hlt2 : k2 < n.al
          · have hltz2 : (k2 : Int) < (n.al : Int) := by omega
            cases hv2 : v2 with
            | false =>
              have HF2 := Lib.hid hv2
              clear hv2
              go_wp2_with fail
              go_ret
              refine ⟨ret_bool ?_, H0.out⟩
              have e1 := HV2.out
              rw [HF2.out] at e1
              rw [HR.out, fin_no v0 false _ _ HV1.out (Or.inr ⟨hk2, e1.symm⟩)]
            | true =>
              have HF2 := Lib.hid hv2
              clear hv2
              obtain ⟨b, off, haa, d0, d1⟩ : ∃ b off, n.aa = some ⟨b, off, none⟩ ∧ wb.cell? ⟨b, off + k2 * 2, none⟩ = some (.string (n.an k2)) ∧ wb.cell? ⟨b, off + k2 * 2 + 1, none⟩ = some (.string (n.av k2)) := by
                rcases HN.out.ha with e | ⟨b, off, e, hbs, hc⟩
                · omega
                · exact ⟨b, off, e, by rw [H0.out.cell (p := ⟨b, off + k2 * 2, none⟩) hbs]; exact (hc k2 hlt2).1, by rw [H0.out.cell (p := ⟨b, off + k2 * 2 + 1, none⟩) hbs]; exact (hc k2 hlt2).2⟩
              have e4 := H4.out
              rw [haa] at e4
              clear haa c4
              have CN := Lib.hid (refName_any (n.an k2) (HN.out.san k2 hlt2) wb)
              have CT := Lib.hid (refText_any (n.av k2) (HN.out.sav k2 hlt2) wb)
              cases hq : nameB (n.an k2) with
              | false =>
                have HQ := Lib.hid hq
                clear hq
                go_wp2_with fail
                refine CN.out.mono ?_
                rintro e w' ⟨rfl, rfl⟩
                rw [HQ.out]
                go_wp2_with fail
                go_round
                case rel => exact ⟨k2 + 1, false, rfl, by go_num, by omega, by rw [range_next, ← Bool.and_assoc, ← HV2.out, HQ.out]; simp [Hid]⟩
                case measure => simp [intOf]; omega
              | true =>
                have HQ := Lib.hid hq
                clear hq
                go_wp2_with fail
                refine CN.out.mono ?_
                rintro e w' ⟨rfl, rfl⟩
                rw [HQ.out]
                go_wp2_with fail
                refine CT.out.mono ?_
                rintro e w' ⟨rfl, rfl⟩
                go_wp2_with fail
                go_round
                case rel => exact ⟨k2 + 1, textB (n.av k2), rfl, by go_num, by omega, by rw [range_next, ← Bool.and_assoc, ← HV2.out, HQ.out, HF2.out]; simp [Hid]⟩
                case measure => simp [intOf]; omega
          · have hke2 : k2 = n.al := by omega
            have h2e : v2 = (false && (List.range n.al).all (fun i => nameB (n.an i) && textB (n.av i))) := by rw [← hke2]; exact HV2.out
            have hfin : rightB n = v2 := by rw [HR.out, fin_yes v0 false _ _ HV1.out h2e]
            clear h2e
            have hltz2 : ¬ (k2 : Int) < (n.al : Int) := by omega
            have HFIN := Lib.hid hfin
            clear hke2 hfin
            go_wp2_with fail
            go_ret
            exact ⟨ret_bool HFIN.out.symm, H0.out⟩
    · have hke : k = n.cl := by omega
      have hltz : ¬ (k : Int) < (n.cl : Int) := by omega
      have HV1 : Hid (v = (v0 && (List.range n.cl).all (fun i => nameB (n.cs i)))) := by rw [← hke]; exact HV
      clear hke HV
      go_wp2_with fail
      go_loop [3, 5] (fun o u => ∃ (k2 : Nat) (v2 : Bool), o = .bool v2 ∧ u = .int .i64 k2 ∧ k2 ≤ n.al ∧ Hid (v2 = (v && (List.range k2).all (fun i => nameB (n.an i) && textB (n.av i))))) (fun _ u => n.al - (intOf u).toNat)
      case atStart => exact ⟨0, v, rfl, rfl, by omega, by simp [Hid]⟩
      case round =>
        obtain ⟨k2, v2, rfl, rfl, hk2, HV2⟩ := hrel
        by_cases hlt2 : k2 < n.al
        · have hltz2 : (k2 : Int) < (n.al : Int) := by omega
          cases hv2 : v2 with
          | false =>
            have HF2 := Lib.hid hv2
            clear hv2
            go_wp2_with fail
            go_ret
            refine ⟨ret_bool ?_, H0.out⟩
            have e1 := HV2.out
            rw [HF2.out] at e1
            rw [HR.out, fin_no v0 v _ _ HV1.out (Or.inr ⟨hk2, e1.symm⟩)]
          | true =>
            have HF2 := Lib.hid hv2
            clear hv2
            obtain ⟨b, off, haa, d0, d1⟩ : ∃ b off, n.aa = some ⟨b, off, none⟩ ∧ wb.cell? ⟨b, off + k2 * 2, none⟩ = some (.string (n.an k2)) ∧ wb.cell? ⟨b, off + k2 * 2 + 1, none⟩ = some (.string (n.av k2)) := by
              rcases HN.out.ha with e | ⟨b, off, e, hbs, hc⟩
              · omega
              · exact ⟨b, off, e, by rw [H0.out.cell (p := ⟨b, off + k2 * 2, none⟩) hbs]; exact (hc k2 hlt2).1, by rw [H0.out.cell (p := ⟨b, off + k2 * 2 + 1, none⟩) hbs]; exact (hc k2 hlt2).2⟩
            have e4 := H4.out
            rw [haa] at e4
            clear haa c4
            have CN := Lib.hid (refName_any (n.an k2) (HN.out.san k2 hlt2) wb)
            have CT := Lib.hid (refText_any (n.av k2) (HN.out.sav k2 hlt2) wb)
            cases hq : nameB (n.an k2) with
            | false =>
              have HQ := Lib.hid hq
              clear hq
              go_wp2_with fail
              refine CN.out.mono ?_
              rintro e w' ⟨rfl, rfl⟩
              rw [HQ.out]
              go_wp2_with fail
              go_round
              case rel => exact ⟨k2 + 1, false, rfl, by go_num, by omega, by rw [range_next, ← Bool.and_assoc, ← HV2.out, HQ.out]; simp [Hid]⟩
              case measure => simp [intOf]; omega
            | true =>
              have HQ := Lib.hid hq
              clear hq
              go_wp2_with fail
              refine CN.out.mono ?_
              rintro e w' ⟨rfl, rfl⟩
              rw [HQ.out]
              go_wp2_with fail
              refine CT.out.mono ?_
              rintro e w' ⟨rfl, rfl⟩
              go_wp2_with fail
              go_round
              case rel => exact ⟨k2 + 1, textB (n.av k2), rfl, by go_num, by omega, by rw [range_next, ← Bool.and_assoc, ← HV2.out, HQ.out, HF2.out]; simp [Hid]⟩
              case measure => simp [intOf]; omega
        · have hke2 : k2 = n.al := by omega
          have h2e : v2 = (v && (List.range n.al).all (fun i => nameB (n.an i) && textB (n.av i))) := by rw [← hke2]; exact HV2.out
          have hfin : rightB n = v2 := by rw [HR.out, fin_yes v0 v _ _ HV1.out h2e]
          clear h2e
          have hltz2 : ¬ (k2 : Int) < (n.al : Int) := by omega
          have HFIN := Lib.hid hfin
          clear hke2 hfin
          go_wp2_with fail
          go_ret
          exact ⟨ret_bool HFIN.out.symm, H0.out⟩

set_option maxRecDepth 100000 in
set_option maxHeartbeats 4000000 in
theorem refRight_e2 (n : Nd) (w : World) (hn : NdIn w n) (ht : emB n.tag = false) (hg : nameB n.tag = true) (he : emB n.id = false) (hi : nameB n.id = false) (hr : rightB n = (false && ((List.range n.cl).all (fun i => nameB (n.cs i)) && (List.range n.al).all (fun i => nameB (n.an i) && textB (n.av i))))) : Calls Try.prog 33 #[.agg n.val] w fun e w' => e = .returned (.bool (rightB n)) ∧ Below w.heap.size w w' := by
  have HN := Lib.hid hn
  have hcl := hn.scl
  have hal := hn.sal
  unfold maxLen at hcl hal
  rw [Nd.val_eq]
  clear hn
  obtain ⟨v0, hv0⟩ : ∃ v0 : Bool, v0 = false := ⟨_, rfl⟩
  rw [← hv0] at hr
  have HV0 := Lib.hid hv0
  have HR := Lib.hid hr
  clear hv0 hr
  have HG := Lib.hid hg
  have HI := Lib.hid hi
  clear hg hi
  unfold emB at ht he
  have hbx : (w.alloc (.cells #[.int .i64 n.par, .string n.tag, .string n.id, .slice n.ca n.cl n.cc, .slice n.aa n.al n.ac, .string n.tx] 39)) = boxed w n := rfl
  obtain ⟨c0, c1, c2, c3, c4, c5⟩ := boxed_box w n
  have H0 := Lib.hid (boxed_below w n)
  go_enter Try.func33, Try.ntmps33
  go_wp2_with (go_at_call 11; first | (with_reducible refine (refName_any n.tag HN.out.stag _).mono ?_; rintro e w' ⟨rfl, rfl⟩; rw [HG.out]) | (with_reducible refine (refName_any n.id HN.out.sid _).mono ?_; rintro e w' ⟨rfl, rfl⟩; rw [HI.out]))
  clear hbx c0 c1 c2 c5
  have H3 := Lib.hid c3
  have H4 := Lib.hid c4
  generalize boxed w n = wb at H0 H3 H4 c3 c4 ⊢
  go_loop [3, 4] (fun o u => ∃ (k : Nat) (v : Bool), o = .bool v ∧ u = .int .i64 k ∧ k ≤ n.cl ∧ Hid (v = (v0 && (List.range k).all (fun i => nameB (n.cs i))))) (fun _ u => n.cl - (intOf u).toNat)
  case atStart => exact ⟨0, v0, by rw [HV0.out], rfl, by omega, by simp [Hid]⟩
  case round =>
    obtain ⟨k, v, rfl, rfl, hk, HV⟩ := hrel
    by_cases hlt : k < n.cl
    · have hltz : (k : Int) < (n.cl : Int) := by omega
      cases hv : v with
      | true =>
        have HF := Lib.hid hv
        clear hv
        obtain ⟨b, off, hca, d0⟩ : ∃ b off, n.ca = some ⟨b, off, none⟩ ∧ wb.cell? ⟨b, off + k, none⟩ = some (.string (n.cs k)) := by
          rcases HN.out.hc with e | ⟨b, off, e, hbs, hc⟩
          · omega
          · exact ⟨b, off, e, by rw [H0.out.cell (p := ⟨b, off + k, none⟩) hbs]; exact hc k hlt⟩
        have e3 := H3.out
        rw [hca] at e3
        clear hca c3
        have CN := Lib.hid (refName_any (n.cs k) (HN.out.scs k hlt) wb)
        go_wp2_with fail
        refine CN.out.mono ?_
        rintro e w' ⟨rfl, rfl⟩
        go_wp2_with fail
        go_round
        case rel => exact ⟨k + 1, nameB (n.cs k), rfl, by go_num, by omega, by rw [range_next, ← Bool.and_assoc, ← HV.out, HF.out]; simp [Hid]⟩
        case measure => simp [intOf]; omega
      | false =>
        have HV1 : Hid (false = (v0 && (List.range n.cl).all (fun i => nameB (n.cs i)))) := (all_cut v0 _ hk (by rw [← HV.out, hv])).symm
        clear hv HV
        go_wp2_with fail
        go_loop [3, 5] (fun o u => ∃ (k2 : Nat) (v2 : Bool), o = .bool v2 ∧ u = .int .i64 k2 ∧ k2 ≤ n.al ∧ Hid (v2 = (false && (List.range k2).all (fun i => nameB (n.an i) && textB (n.av i))))) (fun _ u => n.al - (intOf u).toNat)
        case atStart => exact ⟨0, false, rfl, rfl, by omega, by simp [Hid]⟩
        case round =>
          obtain ⟨k2, v2, rfl, rfl, hk2, HV2⟩ := hrel
          by_cases hlt2 : k2 < n.al
          · have hltz2 : (k2 : Int) < (n.al : Int) := by omega
            cases hv2 : v2 with
            | false =>
              have HF2 := Lib.hid hv2
              clear hv2
              go_wp2_with fail
              go_ret
              refine ⟨ret_bool ?_, H0.out⟩
              have e1 := HV2.out
              rw [HF2.out] at e1
              rw [HR.out, fin_no v0 false _ _ HV1.out (Or.inr ⟨hk2, e1.symm⟩)]
            | true =>
              have HF2 := Lib.hid hv2
              clear hv2
              obtain ⟨b, off, haa, d0, d1⟩ : ∃ b off, n.aa = some ⟨b, off, none⟩ ∧ wb.cell? ⟨b, off + k2 * 2, none⟩ = some (.string (n.an k2)) ∧ wb.cell? ⟨b, off + k2 * 2 + 1, none⟩ = some (.string (n.av k2)) := by
                rcases HN.out.ha with e | ⟨b, off, e, hbs, hc⟩
                · omega
                · exact ⟨b, off, e, by rw [H0.out.cell (p := ⟨b, off + k2 * 2, none⟩) hbs]; exact (hc k2 hlt2).1, by rw [H0.out.cell (p := ⟨b, off + k2 * 2 + 1, none⟩) hbs]; exact (hc k2 hlt2).2⟩
              have e4 := H4.out
              rw [haa] at e4
              clear haa c4
              have CN := Lib.hid (refName_any (n.an k2) (HN.out.san k2 hlt2) wb)
              have CT := Lib.hid (refText_any (n.av k2) (HN.out.sav k2 hlt2) wb)
              cases hq : nameB (n.an k2) with
              | false =>
                have HQ := Lib.hid hq
                clear hq
                go_wp2_with fail
                refine CN.out.mono ?_
                rintro e w' ⟨rfl, rfl⟩
                rw [HQ.out]
                go_wp2_with fail
                go_round
                case rel => exact ⟨k2 + 1, false, rfl, by go_num, by omega, by rw [range_next, ← Bool.and_assoc, ← HV2.out, HQ.out]; simp [Hid]⟩
                case measure => simp [intOf]; omega
              | true =>
                have HQ := Lib.hid hq
                clear hq
                go_wp2_with fail
                refine CN.out.mono ?_
                rintro e w' ⟨rfl, rfl⟩
                rw [HQ.out]
                go_wp2_with fail
                refine CT.out.mono ?_
                rintro e w' ⟨rfl, rfl⟩
                go_wp2_with fail
                go_round
                case rel => exact ⟨k2 + 1, textB (n.av k2), rfl, by go_num, by omega, by rw [range_next, ← Bool.and_assoc, ← HV2.out, HQ.out, HF2.out]; simp [Hid]⟩
                case measure => simp [intOf]; omega
          · have hke2 : k2 = n.al := by omega
            have h2e : v2 = (false && (List.range n.al).all (fun i => nameB (n.an i) && textB (n.av i))) := by rw [← hke2]; exact HV2.out
            have hfin : rightB n = v2 := by rw [HR.out, fin_yes v0 false _ _ HV1.out h2e]
            clear h2e
            have hltz2 : ¬ (k2 : Int) < (n.al : Int) := by omega
            have HFIN := Lib.hid hfin
            clear hke2 hfin
            go_wp2_with fail
            go_ret
            exact ⟨ret_bool HFIN.out.symm, H0.out⟩
    · have hke : k = n.cl := by omega
      have hltz : ¬ (k : Int) < (n.cl : Int) := by omega
      have HV1 : Hid (v = (v0 && (List.range n.cl).all (fun i => nameB (n.cs i)))) := by rw [← hke]; exact HV
      clear hke HV
      go_wp2_with fail
      go_loop [3, 5] (fun o u => ∃ (k2 : Nat) (v2 : Bool), o = .bool v2 ∧ u = .int .i64 k2 ∧ k2 ≤ n.al ∧ Hid (v2 = (v && (List.range k2).all (fun i => nameB (n.an i) && textB (n.av i))))) (fun _ u => n.al - (intOf u).toNat)
      case atStart => exact ⟨0, v, rfl, rfl, by omega, by simp [Hid]⟩
      case round =>
        obtain ⟨k2, v2, rfl, rfl, hk2, HV2⟩ := hrel
        by_cases hlt2 : k2 < n.al
        · have hltz2 : (k2 : Int) < (n.al : Int) := by omega
          cases hv2 : v2 with
          | false =>
            have HF2 := Lib.hid hv2
            clear hv2
            go_wp2_with fail
            go_ret
            refine ⟨ret_bool ?_, H0.out⟩
            have e1 := HV2.out
            rw [HF2.out] at e1
            rw [HR.out, fin_no v0 v _ _ HV1.out (Or.inr ⟨hk2, e1.symm⟩)]
          | true =>
            have HF2 := Lib.hid hv2
            clear hv2
            obtain ⟨b, off, haa, d0, d1⟩ : ∃ b off, n.aa = some ⟨b, off, none⟩ ∧ wb.cell? ⟨b, off + k2 * 2, none⟩ = some (.string (n.an k2)) ∧ wb.cell? ⟨b, off + k2 * 2 + 1, none⟩ = some (.string (n.av k2)) := by
              rcases HN.out.ha with e | ⟨b, off, e, hbs, hc⟩
              · omega
              · exact ⟨b, off, e, by rw [H0.out.cell (p := ⟨b, off + k2 * 2, none⟩) hbs]; exact (hc k2 hlt2).1, by rw [H0.out.cell (p := ⟨b, off + k2 * 2 + 1, none⟩) hbs]; exact (hc k2 hlt2).2⟩
            have e4 := H4.out
            rw [haa] at e4
            clear haa c4
            have CN := Lib.hid (refName_any (n.an k2) (HN.out.san k2 hlt2) wb)
            have CT := Lib.hid (refText_any (n.av k2) (HN.out.sav k2 hlt2) wb)
            cases hq : nameB (n.an k2) with
            | false =>
              have HQ := Lib.hid hq
              clear hq
              go_wp2_with fail
              refine CN.out.mono ?_
              rintro e w' ⟨rfl, rfl⟩
              rw [HQ.out]
              go_wp2_with fail
              go_round
              case rel => exact ⟨k2 + 1, false, rfl, by go_num, by omega, by rw [range_next, ← Bool.and_assoc, ← HV2.out, HQ.out]; simp [Hid]⟩
              case measure => simp [intOf]; omega
            | true =>
              have HQ := Lib.hid hq
              clear hq
              go_wp2_with fail
              refine CN.out.mono ?_
              rintro e w' ⟨rfl, rfl⟩
              rw [HQ.out]
              go_wp2_with fail
              refine CT.out.mono ?_
              rintro e w' ⟨rfl, rfl⟩
              go_wp2_with fail
              go_round
              case rel => exact ⟨k2 + 1, textB (n.av k2), rfl, by go_num, by omega, by rw [range_next, ← Bool.and_assoc, ← HV2.out, HQ.out, HF2.out]; simp [Hid]⟩
              case measure => simp [intOf]; omega
        · have hke2 : k2 = n.al := by omega
          have h2e : v2 = (v && (List.range n.al).all (fun i => nameB (n.an i) && textB (n.av i))) := by rw [← hke2]; exact HV2.out
          have hfin : rightB n = v2 := by rw [HR.out, fin_yes v0 v _ _ HV1.out h2e]
          clear h2e
          have hltz2 : ¬ (k2 : Int) < (n.al : Int) := by omega
          have HFIN := Lib.hid hfin
          clear hke2 hfin
          go_wp2_with fail
          go_ret
          exact ⟨ret_bool HFIN.out.symm, H0.out⟩

set_option maxRecDepth 100000 in
set_option maxHeartbeats 4000000 in
theorem refRight_xa (n : Nd) (w : World) (hn : NdIn w n) (ht : emB n.tag = false) (hg : nameB n.tag = true) (he : emB n.id = true) (hx : emB n.tx = false) (hr : rightB n = (false && ((List.range n.cl).all (fun i => nameB (n.cs i)) && (List.range n.al).all (fun i => nameB (n.an i) && textB (n.av i))))) : Calls Try.prog 33 #[.agg n.val] w fun e w' => e = .returned (.bool (rightB n)) ∧ Below w.heap.size w w' := by
  have HN := Lib.hid hn
  have hcl := hn.scl
  have hal := hn.sal
  unfold maxLen at hcl hal
  rw [Nd.val_eq]
  clear hn
  obtain ⟨v0, hv0⟩ : ∃ v0 : Bool, v0 = false := ⟨_, rfl⟩
  rw [← hv0] at hr
  have HV0 := Lib.hid hv0
  have HR := Lib.hid hr
  clear hv0 hr
  have HG := Lib.hid hg
  clear hg
  unfold emB at ht he hx
  have hbx : (w.alloc (.cells #[.int .i64 n.par, .string n.tag, .string n.id, .slice n.ca n.cl n.cc, .slice n.aa n.al n.ac, .string n.tx] 39)) = boxed w n := rfl
  obtain ⟨c0, c1, c2, c3, c4, c5⟩ := boxed_box w n
  have H0 := Lib.hid (boxed_below w n)
  go_enter Try.func33, Try.ntmps33
  go_wp2_with (go_at_call 11; refine (refName_any n.tag HN.out.stag _).mono ?_; rintro e w' ⟨rfl, rfl⟩; rw [HG.out])
  clear hbx c0 c1 c2 c5
  have H3 := Lib.hid c3
  have H4 := Lib.hid c4
  generalize boxed w n = wb at H0 H3 H4 c3 c4 ⊢
  go_loop [3, 4] (fun o u => ∃ (k : Nat) (v : Bool), o = .bool v ∧ u = .int .i64 k ∧ k ≤ n.cl ∧ Hid (v = (v0 && (List.range k).all (fun i => nameB (n.cs i))))) (fun _ u => n.cl - (intOf u).toNat)
  case atStart => exact ⟨0, v0, by rw [HV0.out], rfl, by omega, by simp [Hid]⟩
  case round =>
    obtain ⟨k, v, rfl, rfl, hk, HV⟩ := hrel
    by_cases hlt : k < n.cl
    · have hltz : (k : Int) < (n.cl : Int) := by omega
      cases hv : v with
      | true =>
        have HF := Lib.hid hv
        clear hv
        obtain ⟨b, off, hca, d0⟩ : ∃ b off, n.ca = some ⟨b, off, none⟩ ∧ wb.cell? ⟨b, off + k, none⟩ = some (.string (n.cs k)) := by
          rcases HN.out.hc with e | ⟨b, off, e, hbs, hc⟩
          · omega
          · exact ⟨b, off, e, by rw [H0.out.cell (p := ⟨b, off + k, none⟩) hbs]; exact hc k hlt⟩
        have e3 := H3.out
        rw [hca] at e3
        clear hca c3
        have CN := Lib.hid (refName_any (n.cs k) (HN.out.scs k hlt) wb)
        go_wp2_with fail
        refine CN.out.mono ?_
        rintro e w' ⟨rfl, rfl⟩
        go_wp2_with fail
        go_round
        case rel => exact ⟨k + 1, nameB (n.cs k), rfl, by go_num, by omega, by rw [range_next, ← Bool.and_assoc, ← HV.out, HF.out]; simp [Hid]⟩
        case measure => simp [intOf]; omega
      | false =>
        have HV1 : Hid (false = (v0 && (List.range n.cl).all (fun i => nameB (n.cs i)))) := (all_cut v0 _ hk (by rw [← HV.out, hv])).symm
        clear hv HV
        go_wp2_with fail
        go_loop [3, 5] (fun o u => ∃ (k2 : Nat) (v2 : Bool), o = .bool v2 ∧ u = .int .i64 k2 ∧ k2 ≤ n.al ∧ Hid (v2 = (false && (List.range k2).all (fun i => nameB (n.an i) && textB (n.av i))))) (fun _ u => n.al - (intOf u).toNat)
        case atStart => exact ⟨0, false, rfl, rfl, by omega, by simp [Hid]⟩
        case round =>
          obtain ⟨k2, v2, rfl, rfl, hk2, HV2⟩ := hrel
          by_cases hlt2 : k2 < n.al
          · have hltz2 : (k2 : Int) < (n.al : Int) := by omega
            cases hv2 : v2 with
            | false =>
              have HF2 := Lib.hid hv2
              clear hv2
              go_wp2_with fail
              go_ret
              refine ⟨ret_bool ?_, H0.out⟩
              have e1 := HV2.out
              rw [HF2.out] at e1
              rw [HR.out, fin_no v0 false _ _ HV1.out (Or.inr ⟨hk2, e1.symm⟩)]
            | true =>
              have HF2 := Lib.hid hv2
              clear hv2
              obtain ⟨b, off, haa, d0, d1⟩ : ∃ b off, n.aa = some ⟨b, off, none⟩ ∧ wb.cell? ⟨b, off + k2 * 2, none⟩ = some (.string (n.an k2)) ∧ wb.cell? ⟨b, off + k2 * 2 + 1, none⟩ = some (.string (n.av k2)) := by
                rcases HN.out.ha with e | ⟨b, off, e, hbs, hc⟩
                · omega
                · exact ⟨b, off, e, by rw [H0.out.cell (p := ⟨b, off + k2 * 2, none⟩) hbs]; exact (hc k2 hlt2).1, by rw [H0.out.cell (p := ⟨b, off + k2 * 2 + 1, none⟩) hbs]; exact (hc k2 hlt2).2⟩
              have e4 := H4.out
              rw [haa] at e4
              clear haa c4
              have CN := Lib.hid (refName_any (n.an k2) (HN.out.san k2 hlt2) wb)
              have CT := Lib.hid (refText_any (n.av k2) (HN.out.sav k2 hlt2) wb)
              cases hq : nameB (n.an k2) with
              | false =>
                have HQ := Lib.hid hq
                clear hq
                go_wp2_with fail
                refine CN.out.mono ?_
                rintro e w' ⟨rfl, rfl⟩
                rw [HQ.out]
                go_wp2_with fail
                go_round
                case rel => exact ⟨k2 + 1, false, rfl, by go_num, by omega, by rw [range_next, ← Bool.and_assoc, ← HV2.out, HQ.out]; simp [Hid]⟩
                case measure => simp [intOf]; omega
              | true =>
                have HQ := Lib.hid hq
                clear hq
                go_wp2_with fail
                refine CN.out.mono ?_
                rintro e w' ⟨rfl, rfl⟩
                rw [HQ.out]
                go_wp2_with fail
                refine CT.out.mono ?_
                rintro e w' ⟨rfl, rfl⟩
                go_wp2_with fail
                go_round
                case rel => exact ⟨k2 + 1, textB (n.av k2), rfl, by go_num, by omega, by rw [range_next, ← Bool.and_assoc, ← HV2.out, HQ.out, HF2.out]; simp [Hid]⟩
                case measure => simp [intOf]; omega
          · have hke2 : k2 = n.al := by omega
            have h2e : v2 = (false && (List.range n.al).all (fun i => nameB (n.an i) && textB (n.av i))) := by rw [← hke2]; exact HV2.out
            have hfin : rightB n = v2 := by rw [HR.out, fin_yes v0 false _ _ HV1.out h2e]
            clear h2e
            have hltz2 : ¬ (k2 : Int) < (n.al : Int) := by omega
            have HFIN := Lib.hid hfin
            clear hke2 hfin
            go_wp2_with fail
            go_ret
            exact ⟨ret_bool HFIN.out.symm, H0.out⟩
    · have hke : k = n.cl := by omega
      have hltz : ¬ (k : Int) < (n.cl : Int) := by omega
      have HV1 : Hid (v = (v0 && (List.range n.cl).all (fun i => nameB (n.cs i)))) := by rw [← hke]; exact HV
      clear hke HV
      go_wp2_with fail
      go_loop [3, 5] (fun o u => ∃ (k2 : Nat) (v2 : Bool), o = .bool v2 ∧ u = .int .i64 k2 ∧ k2 ≤ n.al ∧ Hid (v2 = (v && (List.range k2).all (fun i => nameB (n.an i) && textB (n.av i))))) (fun _ u => n.al - (intOf u).toNat)
      case atStart => exact ⟨0, v, rfl, rfl, by omega, by simp [Hid]⟩
      case round =>
        obtain ⟨k2, v2, rfl, rfl, hk2, HV2⟩ := hrel
        by_cases hlt2 : k2 < n.al
        · have hltz2 : (k2 : Int) < (n.al : Int) := by omega
          cases hv2 : v2 with
          | false =>
            have HF2 := Lib.hid hv2
            clear hv2
            go_wp2_with fail
            go_ret
            refine ⟨ret_bool ?_, H0.out⟩
            have e1 := HV2.out
            rw [HF2.out] at e1
            rw [HR.out, fin_no v0 v _ _ HV1.out (Or.inr ⟨hk2, e1.symm⟩)]
          | true =>
            have HF2 := Lib.hid hv2
            clear hv2
            obtain ⟨b, off, haa, d0, d1⟩ : ∃ b off, n.aa = some ⟨b, off, none⟩ ∧ wb.cell? ⟨b, off + k2 * 2, none⟩ = some (.string (n.an k2)) ∧ wb.cell? ⟨b, off + k2 * 2 + 1, none⟩ = some (.string (n.av k2)) := by
              rcases HN.out.ha with e | ⟨b, off, e, hbs, hc⟩
              · omega
              · exact ⟨b, off, e, by rw [H0.out.cell (p := ⟨b, off + k2 * 2, none⟩) hbs]; exact (hc k2 hlt2).1, by rw [H0.out.cell (p := ⟨b, off + k2 * 2 + 1, none⟩) hbs]; exact (hc k2 hlt2).2⟩
            have e4 := H4.out
            rw [haa] at e4
            clear haa c4
            have CN := Lib.hid (refName_any (n.an k2) (HN.out.san k2 hlt2) wb)
            have CT := Lib.hid (refText_any (n.av k2) (HN.out.sav k2 hlt2) wb)
            cases hq : nameB (n.an k2) with
            | false =>
              have HQ := Lib.hid hq
              clear hq
              go_wp2_with fail
              refine CN.out.mono ?_
              rintro e w' ⟨rfl, rfl⟩
              rw [HQ.out]
              go_wp2_with fail
              go_round
              case rel => exact ⟨k2 + 1, false, rfl, by go_num, by omega, by rw [range_next, ← Bool.and_assoc, ← HV2.out, HQ.out]; simp [Hid]⟩
              case measure => simp [intOf]; omega
            | true =>
              have HQ := Lib.hid hq
              clear hq
              go_wp2_with fail
              refine CN.out.mono ?_
              rintro e w' ⟨rfl, rfl⟩
              rw [HQ.out]
              go_wp2_with fail
              refine CT.out.mono ?_
              rintro e w' ⟨rfl, rfl⟩
              go_wp2_with fail
              go_round
              case rel => exact ⟨k2 + 1, textB (n.av k2), rfl, by go_num, by omega, by rw [range_next, ← Bool.and_assoc, ← HV2.out, HQ.out, HF2.out]; simp [Hid]⟩
              case measure => simp [intOf]; omega
        · have hke2 : k2 = n.al := by omega
          have h2e : v2 = (v && (List.range n.al).all (fun i => nameB (n.an i) && textB (n.av i))) := by rw [← hke2]; exact HV2.out
          have hfin : rightB n = v2 := by rw [HR.out, fin_yes v0 v _ _ HV1.out h2e]
          clear h2e
          have hltz2 : ¬ (k2 : Int) < (n.al : Int) := by omega
          have HFIN := Lib.hid hfin
          clear hke2 hfin
          go_wp2_with fail
          go_ret
          exact ⟨ret_bool HFIN.out.symm, H0.out⟩

set_option maxRecDepth 100000 in
set_option maxHeartbeats 4000000 in
theorem refRight_ca (n : Nd) (w : World) (hn : NdIn w n) (ht : emB n.tag = false) (hg : nameB n.tag = true) (he : emB n.id = true) (hx : emB n.tx = true) (hc8 : ¬ n.cl ≤ 8) (hr : rightB n = (false && ((List.range n.cl).all (fun i => nameB (n.cs i)) && (List.range n.al).all (fun i => nameB (n.an i) && textB (n.av i))))) : Calls Try.prog 33 #[.agg n.val] w fun e w' => e = .returned (.bool (rightB n)) ∧ Below w.heap.size w w' := by
  have HN := Lib.hid hn
  have hcl := hn.scl
  have hal := hn.sal
  unfold maxLen at hcl hal
  rw [Nd.val_eq]
  clear hn
  obtain ⟨v0, hv0⟩ : ∃ v0 : Bool, v0 = false := ⟨_, rfl⟩
  rw [← hv0] at hr
  have HV0 := Lib.hid hv0
  have HR := Lib.hid hr
  clear hv0 hr
  have HG := Lib.hid hg
  clear hg
  unfold emB at ht he hx
  have z1 : ¬ (n.cl : Int) ≤ 8 := by omega
  have hbx : (w.alloc (.cells #[.int .i64 n.par, .string n.tag, .string n.id, .slice n.ca n.cl n.cc, .slice n.aa n.al n.ac, .string n.tx] 39)) = boxed w n := rfl
  obtain ⟨c0, c1, c2, c3, c4, c5⟩ := boxed_box w n
  have H0 := Lib.hid (boxed_below w n)
  go_enter Try.func33, Try.ntmps33
  go_wp2_with (go_at_call 11; refine (refName_any n.tag HN.out.stag _).mono ?_; rintro e w' ⟨rfl, rfl⟩; rw [HG.out])
  clear hbx c0 c1 c2 c5
  have H3 := Lib.hid c3
  have H4 := Lib.hid c4
  generalize boxed w n = wb at H0 H3 H4 c3 c4 ⊢
  go_loop [3, 4] (fun o u => ∃ (k : Nat) (v : Bool), o = .bool v ∧ u = .int .i64 k ∧ k ≤ n.cl ∧ Hid (v = (v0 && (List.range k).all (fun i => nameB (n.cs i))))) (fun _ u => n.cl - (intOf u).toNat)
  case atStart => exact ⟨0, v0, by rw [HV0.out], rfl, by omega, by simp [Hid]⟩
  case round =>
    obtain ⟨k, v, rfl, rfl, hk, HV⟩ := hrel
    by_cases hlt : k < n.cl
    · have hltz : (k : Int) < (n.cl : Int) := by omega
      cases hv : v with
      | true =>
        have HF := Lib.hid hv
        clear hv
        obtain ⟨b, off, hca, d0⟩ : ∃ b off, n.ca = some ⟨b, off, none⟩ ∧ wb.cell? ⟨b, off + k, none⟩ = some (.string (n.cs k)) := by
          rcases HN.out.hc with e | ⟨b, off, e, hbs, hc⟩
          · omega
          · exact ⟨b, off, e, by rw [H0.out.cell (p := ⟨b, off + k, none⟩) hbs]; exact hc k hlt⟩
        have e3 := H3.out
        rw [hca] at e3
        clear hca c3
        have CN := Lib.hid (refName_any (n.cs k) (HN.out.scs k hlt) wb)
        go_wp2_with fail
        refine CN.out.mono ?_
        rintro e w' ⟨rfl, rfl⟩
        go_wp2_with fail
        go_round
        case rel => exact ⟨k + 1, nameB (n.cs k), rfl, by go_num, by omega, by rw [range_next, ← Bool.and_assoc, ← HV.out, HF.out]; simp [Hid]⟩
        case measure => simp [intOf]; omega
      | false =>
        have HV1 : Hid (false = (v0 && (List.range n.cl).all (fun i => nameB (n.cs i)))) := (all_cut v0 _ hk (by rw [← HV.out, hv])).symm
        clear hv HV
        go_wp2_with fail
        go_loop [3, 5] (fun o u => ∃ (k2 : Nat) (v2 : Bool), o = .bool v2 ∧ u = .int .i64 k2 ∧ k2 ≤ n.al ∧ Hid (v2 = (false && (List.range k2).all (fun i => nameB (n.an i) && textB (n.av i))))) (fun _ u => n.al - (intOf u).toNat)
        case atStart => exact ⟨0, false, rfl, rfl, by omega, by simp [Hid]⟩
        case round =>
          obtain ⟨k2, v2, rfl, rfl, hk2, HV2⟩ := hrel
          by_cases hlt2 : k2 < n.al
          · have hltz2 : (k2 : Int) < (n.al : Int) := by omega
            cases hv2 : v2 with
            | false =>
              have HF2 := Lib.hid hv2
              clear hv2
              go_wp2_with fail
              go_ret
              refine ⟨ret_bool ?_, H0.out⟩
              have e1 := HV2.out
              rw [HF2.out] at e1
              rw [HR.out, fin_no v0 false _ _ HV1.out (Or.inr ⟨hk2, e1.symm⟩)]
            | true =>
              have HF2 := Lib.hid hv2
              clear hv2
              obtain ⟨b, off, haa, d0, d1⟩ : ∃ b off, n.aa = some ⟨b, off, none⟩ ∧ wb.cell? ⟨b, off + k2 * 2, none⟩ = some (.string (n.an k2)) ∧ wb.cell? ⟨b, off + k2 * 2 + 1, none⟩ = some (.string (n.av k2)) := by
                rcases HN.out.ha with e | ⟨b, off, e, hbs, hc⟩
                · omega
                · exact ⟨b, off, e, by rw [H0.out.cell (p := ⟨b, off + k2 * 2, none⟩) hbs]; exact (hc k2 hlt2).1, by rw [H0.out.cell (p := ⟨b, off + k2 * 2 + 1, none⟩) hbs]; exact (hc k2 hlt2).2⟩
              have e4 := H4.out
              rw [haa] at e4
              clear haa c4
              have CN := Lib.hid (refName_any (n.an k2) (HN.out.san k2 hlt2) wb)
              have CT := Lib.hid (refText_any (n.av k2) (HN.out.sav k2 hlt2) wb)
              cases hq : nameB (n.an k2) with
              | false =>
                have HQ := Lib.hid hq
                clear hq
                go_wp2_with fail
                refine CN.out.mono ?_
                rintro e w' ⟨rfl, rfl⟩
                rw [HQ.out]
                go_wp2_with fail
                go_round
                case rel => exact ⟨k2 + 1, false, rfl, by go_num, by omega, by rw [range_next, ← Bool.and_assoc, ← HV2.out, HQ.out]; simp [Hid]⟩
                case measure => simp [intOf]; omega
              | true =>
                have HQ := Lib.hid hq
                clear hq
                go_wp2_with fail
                refine CN.out.mono ?_
                rintro e w' ⟨rfl, rfl⟩
                rw [HQ.out]
                go_wp2_with fail
                refine CT.out.mono ?_
                rintro e w' ⟨rfl, rfl⟩
                go_wp2_with fail
                go_round
                case rel => exact ⟨k2 + 1, textB (n.av k2), rfl, by go_num, by omega, by rw [range_next, ← Bool.and_assoc, ← HV2.out, HQ.out, HF2.out]; simp [Hid]⟩
                case measure => simp [intOf]; omega
          · have hke2 : k2 = n.al := by omega
            have h2e : v2 = (false && (List.range n.al).all (fun i => nameB (n.an i) && textB (n.av i))) := by rw [← hke2]; exact HV2.out
            have hfin : rightB n = v2 := by rw [HR.out, fin_yes v0 false _ _ HV1.out h2e]
            clear h2e
            have hltz2 : ¬ (k2 : Int) < (n.al : Int) := by omega
            have HFIN := Lib.hid hfin
            clear hke2 hfin
            go_wp2_with fail
            go_ret
            exact ⟨ret_bool HFIN.out.symm, H0.out⟩
    · have hke : k = n.cl := by omega
      have hltz : ¬ (k : Int) < (n.cl : Int) := by omega
      have HV1 : Hid (v = (v0 && (List.range n.cl).all (fun i => nameB (n.cs i)))) := by rw [← hke]; exact HV
      clear hke HV
      go_wp2_with fail
      go_loop [3, 5] (fun o u => ∃ (k2 : Nat) (v2 : Bool), o = .bool v2 ∧ u = .int .i64 k2 ∧ k2 ≤ n.al ∧ Hid (v2 = (v && (List.range k2).all (fun i => nameB (n.an i) && textB (n.av i))))) (fun _ u => n.al - (intOf u).toNat)
      case atStart => exact ⟨0, v, rfl, rfl, by omega, by simp [Hid]⟩
      case round =>
        obtain ⟨k2, v2, rfl, rfl, hk2, HV2⟩ := hrel
        by_cases hlt2 : k2 < n.al
        · have hltz2 : (k2 : Int) < (n.al : Int) := by omega
          cases hv2 : v2 with
          | false =>
            have HF2 := Lib.hid hv2
            clear hv2
            go_wp2_with fail
            go_ret
            refine ⟨ret_bool ?_, H0.out⟩
            have e1 := HV2.out
            rw [HF2.out] at e1
            rw [HR.out, fin_no v0 v _ _ HV1.out (Or.inr ⟨hk2, e1.symm⟩)]
          | true =>
            have HF2 := Lib.hid hv2
            clear hv2
            obtain ⟨b, off, haa, d0, d1⟩ : ∃ b off, n.aa = some ⟨b, off, none⟩ ∧ wb.cell? ⟨b, off + k2 * 2, none⟩ = some (.string (n.an k2)) ∧ wb.cell? ⟨b, off + k2 * 2 + 1, none⟩ = some (.string (n.av k2)) := by
              rcases HN.out.ha with e | ⟨b, off, e, hbs, hc⟩
              · omega
              · exact ⟨b, off, e, by rw [H0.out.cell (p := ⟨b, off + k2 * 2, none⟩) hbs]; exact (hc k2 hlt2).1, by rw [H0.out.cell (p := ⟨b, off + k2 * 2 + 1, none⟩) hbs]; exact (hc k2 hlt2).2⟩
            have e4 := H4.out
            rw [haa] at e4
            clear haa c4
            have CN := Lib.hid (refName_any (n.an k2) (HN.out.san k2 hlt2) wb)
            have CT := Lib.hid (refText_any (n.av k2) (HN.out.sav k2 hlt2) wb)
            cases hq : nameB (n.an k2) with
            | false =>
              have HQ := Lib.hid hq
              clear hq
              go_wp2_with fail
              refine CN.out.mono ?_
              rintro e w' ⟨rfl, rfl⟩
              rw [HQ.out]
              go_wp2_with fail
              go_round
              case rel => exact ⟨k2 + 1, false, rfl, by go_num, by omega, by rw [range_next, ← Bool.and_assoc, ← HV2.out, HQ.out]; simp [Hid]⟩
              case measure => simp [intOf]; omega
            | true =>
              have HQ := Lib.hid hq
              clear hq
              go_wp2_with fail
              refine CN.out.mono ?_
              rintro e w' ⟨rfl, rfl⟩
              rw [HQ.out]
              go_wp2_with fail
              refine CT.out.mono ?_
              rintro e w' ⟨rfl, rfl⟩
              go_wp2_with fail
              go_round
              case rel => exact ⟨k2 + 1, textB (n.av k2), rfl, by go_num, by omega, by rw [range_next, ← Bool.and_assoc, ← HV2.out, HQ.out, HF2.out]; simp [Hid]⟩
              case measure => simp [intOf]; omega
        · have hke2 : k2 = n.al := by omega
          have h2e : v2 = (v && (List.range n.al).all (fun i => nameB (n.an i) && textB (n.av i))) := by rw [← hke2]; exact HV2.out
          have hfin : rightB n = v2 := by rw [HR.out, fin_yes v0 v _ _ HV1.out h2e]
          clear h2e
          have hltz2 : ¬ (k2 : Int) < (n.al : Int) := by omega
          have HFIN := Lib.hid hfin
          clear hke2 hfin
          go_wp2_with fail
          go_ret
          exact ⟨ret_bool HFIN.out.symm, H0.out⟩

set_option maxRecDepth 100000 in
set_option maxHeartbeats 4000000 in
theorem refRight_da (n : Nd) (w : World) (hn : NdIn w n) (ht : emB n.tag = false) (hg : nameB n.tag = true) (he : emB n.id = true) (hx : emB n.tx = true) (hc8 : n.cl ≤ 8) (ha8 : ¬ n.al ≤ 8) (hr : rightB n = (false && ((List.range n.cl).all (fun i => nameB (n.cs i)) && (List.range n.al).all (fun i => nameB (n.an i) && textB (n.av i))))) : Calls Try.prog 33 #[.agg n.val] w fun e w' => e = .returned (.bool (rightB n)) ∧ Below w.heap.size w w' := by
  have HN := Lib.hid hn
  have hcl := hn.scl
  have hal := hn.sal
  unfold maxLen at hcl hal
  rw [Nd.val_eq]
  clear hn
  obtain ⟨v0, hv0⟩ : ∃ v0 : Bool, v0 = false := ⟨_, rfl⟩
  rw [← hv0] at hr
  have HV0 := Lib.hid hv0
  have HR := Lib.hid hr
  clear hv0 hr
  have HG := Lib.hid hg
  clear hg
  unfold emB at ht he hx
  have z1 : (n.cl : Int) ≤ 8 := by omega
  have z2 : decide ((n.al : Int) ≤ 8) = false := decide_eq_false (by omega)
  have hbx : (w.alloc (.cells #[.int .i64 n.par, .string n.tag, .string n.id, .slice n.ca n.cl n.cc, .slice n.aa n.al n.ac, .string n.tx] 39)) = boxed w n := rfl
  obtain ⟨c0, c1, c2, c3, c4, c5⟩ := boxed_box w n
  have H0 := Lib.hid (boxed_below w n)
  go_enter Try.func33, Try.ntmps33
  go_wp2_with (go_at_call 11; refine (refName_any n.tag HN.out.stag _).mono ?_; rintro e w' ⟨rfl, rfl⟩; rw [HG.out])
  clear hbx c0 c1 c2 c5
  have H3 := Lib.hid c3
  have H4 := Lib.hid c4
  generalize boxed w n = wb at H0 H3 H4 c3 c4 ⊢
  go_loop [3, 4] (fun o u => ∃ (k : Nat) (v : Bool), o = .bool v ∧ u = .int .i64 k ∧ k ≤ n.cl ∧ Hid (v = (v0 && (List.range k).all (fun i => nameB (n.cs i))))) (fun _ u => n.cl - (intOf u).toNat)
  case atStart => exact ⟨0, v0, by rw [HV0.out], rfl, by omega, by simp [Hid]⟩
  case round =>
    obtain ⟨k, v, rfl, rfl, hk, HV⟩ := hrel
    by_cases hlt : k < n.cl
    · have hltz : (k : Int) < (n.cl : Int) := by omega
      cases hv : v with
      | true =>
        have HF := Lib.hid hv
        clear hv
        obtain ⟨b, off, hca, d0⟩ : ∃ b off, n.ca = some ⟨b, off, none⟩ ∧ wb.cell? ⟨b, off + k, none⟩ = some (.string (n.cs k)) := by
          rcases HN.out.hc with e | ⟨b, off, e, hbs, hc⟩
          · omega
          · exact ⟨b, off, e, by rw [H0.out.cell (p := ⟨b, off + k, none⟩) hbs]; exact hc k hlt⟩
        have e3 := H3.out
        rw [hca] at e3
        clear hca c3
        have CN := Lib.hid (refName_any (n.cs k) (HN.out.scs k hlt) wb)
        go_wp2_with fail
        refine CN.out.mono ?_
        rintro e w' ⟨rfl, rfl⟩
        go_wp2_with fail
        go_round
        case rel => exact ⟨k + 1, nameB (n.cs k), rfl, by go_num, by omega, by rw [range_next, ← Bool.and_assoc, ← HV.out, HF.out]; simp [Hid]⟩
        case measure => simp [intOf]; omega
      | false =>
        have HV1 : Hid (false = (v0 && (List.range n.cl).all (fun i => nameB (n.cs i)))) := (all_cut v0 _ hk (by rw [← HV.out, hv])).symm
        clear hv HV
        go_wp2_with fail
        go_loop [3, 5] (fun o u => ∃ (k2 : Nat) (v2 : Bool), o = .bool v2 ∧ u = .int .i64 k2 ∧ k2 ≤ n.al ∧ Hid (v2 = (false && (List.range k2).all (fun i => nameB (n.an i) && textB (n.av i))))) (fun _ u => n.al - (intOf u).toNat)
        case atStart => exact ⟨0, false, rfl, rfl, by omega, by simp [Hid]⟩
        case round =>
          obtain ⟨k2, v2, rfl, rfl, hk2, HV2⟩ := hrel
          by_cases hlt2 : k2 < n.al
          · have hltz2 : (k2 : Int) < (n.al : Int) := by omega
            cases hv2 : v2 with
            | false =>
              have HF2 := Lib.hid hv2
              clear hv2
              go_wp2_with fail
              go_ret
              refine ⟨ret_bool ?_, H0.out⟩
              have e1 := HV2.out
              rw [HF2.out] at e1
              rw [HR.out, fin_no v0 false _ _ HV1.out (Or.inr ⟨hk2, e1.symm⟩)]
            | true =>
              have HF2 := Lib.hid hv2
              clear hv2
              obtain ⟨b, off, haa, d0, d1⟩ : ∃ b off, n.aa = some ⟨b, off, none⟩ ∧ wb.cell? ⟨b, off + k2 * 2, none⟩ = some (.string (n.an k2)) ∧ wb.cell? ⟨b, off + k2 * 2 + 1, none⟩ = some (.string (n.av k2)) := by
                rcases HN.out.ha with e | ⟨b, off, e, hbs, hc⟩
                · omega
                · exact ⟨b, off, e, by rw [H0.out.cell (p := ⟨b, off + k2 * 2, none⟩) hbs]; exact (hc k2 hlt2).1, by rw [H0.out.cell (p := ⟨b, off + k2 * 2 + 1, none⟩) hbs]; exact (hc k2 hlt2).2⟩
              have e4 := H4.out
              rw [haa] at e4
              clear haa c4
              have CN := Lib.hid (refName_any (n.an k2) (HN.out.san k2 hlt2) wb)
              have CT := Lib.hid (refText_any (n.av k2) (HN.out.sav k2 hlt2) wb)
              cases hq : nameB (n.an k2) with
              | false =>
                have HQ := Lib.hid hq
                clear hq
                go_wp2_with fail
                refine CN.out.mono ?_
                rintro e w' ⟨rfl, rfl⟩
                rw [HQ.out]
                go_wp2_with fail
                go_round
                case rel => exact ⟨k2 + 1, false, rfl, by go_num, by omega, by rw [range_next, ← Bool.and_assoc, ← HV2.out, HQ.out]; simp [Hid]⟩
                case measure => simp [intOf]; omega
              | true =>
                have HQ := Lib.hid hq
                clear hq
                go_wp2_with fail
                refine CN.out.mono ?_
                rintro e w' ⟨rfl, rfl⟩
                rw [HQ.out]
                go_wp2_with fail
                refine CT.out.mono ?_
                rintro e w' ⟨rfl, rfl⟩
                go_wp2_with fail
                go_round
                case rel => exact ⟨k2 + 1, textB (n.av k2), rfl, by go_num, by omega, by rw [range_next, ← Bool.and_assoc, ← HV2.out, HQ.out, HF2.out]; simp [Hid]⟩
                case measure => simp [intOf]; omega
          · have hke2 : k2 = n.al := by omega
            have h2e : v2 = (false && (List.range n.al).all (fun i => nameB (n.an i) && textB (n.av i))) := by rw [← hke2]; exact HV2.out
            have hfin : rightB n = v2 := by rw [HR.out, fin_yes v0 false _ _ HV1.out h2e]
            clear h2e
            have hltz2 : ¬ (k2 : Int) < (n.al : Int) := by omega
            have HFIN := Lib.hid hfin
            clear hke2 hfin
            go_wp2_with fail
            go_ret
            exact ⟨ret_bool HFIN.out.symm, H0.out⟩
    · have hke : k = n.cl := by omega
      have hltz : ¬ (k : Int) < (n.cl : Int) := by omega
      have HV1 : Hid (v = (v0 && (List.range n.cl).all (fun i => nameB (n.cs i)))) := by rw [← hke]; exact HV
      clear hke HV
      go_wp2_with fail
      go_loop [3, 5] (fun o u => ∃ (k2 : Nat) (v2 : Bool), o = .bool v2 ∧ u = .int .i64 k2 ∧ k2 ≤ n.al ∧ Hid (v2 = (v && (List.range k2).all (fun i => nameB (n.an i) && textB (n.av i))))) (fun _ u => n.al - (intOf u).toNat)
      case atStart => exact ⟨0, v, rfl, rfl, by omega, by simp [Hid]⟩
      case round =>
        obtain ⟨k2, v2, rfl, rfl, hk2, HV2⟩ := hrel
        by_cases hlt2 : k2 < n.al
        · have hltz2 : (k2 : Int) < (n.al : Int) := by omega
          cases hv2 : v2 with
          | false =>
            have HF2 := Lib.hid hv2
            clear hv2
            go_wp2_with fail
            go_ret
            refine ⟨ret_bool ?_, H0.out⟩
            have e1 := HV2.out
            rw [HF2.out] at e1
            rw [HR.out, fin_no v0 v _ _ HV1.out (Or.inr ⟨hk2, e1.symm⟩)]
          | true =>
            have HF2 := Lib.hid hv2
            clear hv2
            obtain ⟨b, off, haa, d0, d1⟩ : ∃ b off, n.aa = some ⟨b, off, none⟩ ∧ wb.cell? ⟨b, off + k2 * 2, none⟩ = some (.string (n.an k2)) ∧ wb.cell? ⟨b, off + k2 * 2 + 1, none⟩ = some (.string (n.av k2)) := by
              rcases HN.out.ha with e | ⟨b, off, e, hbs, hc⟩
              · omega
              · exact ⟨b, off, e, by rw [H0.out.cell (p := ⟨b, off + k2 * 2, none⟩) hbs]; exact (hc k2 hlt2).1, by rw [H0.out.cell (p := ⟨b, off + k2 * 2 + 1, none⟩) hbs]; exact (hc k2 hlt2).2⟩
            have e4 := H4.out
            rw [haa] at e4
            clear haa c4
            have CN := Lib.hid (refName_any (n.an k2) (HN.out.san k2 hlt2) wb)
            have CT := Lib.hid (refText_any (n.av k2) (HN.out.sav k2 hlt2) wb)
            cases hq : nameB (n.an k2) with
            | false =>
              have HQ := Lib.hid hq
              clear hq
              go_wp2_with fail
              refine CN.out.mono ?_
              rintro e w' ⟨rfl, rfl⟩
              rw [HQ.out]
              go_wp2_with fail
              go_round
              case rel => exact ⟨k2 + 1, false, rfl, by go_num, by omega, by rw [range_next, ← Bool.and_assoc, ← HV2.out, HQ.out]; simp [Hid]⟩
              case measure => simp [intOf]; omega
            | true =>
              have HQ := Lib.hid hq
              clear hq
              go_wp2_with fail
              refine CN.out.mono ?_
              rintro e w' ⟨rfl, rfl⟩
              rw [HQ.out]
              go_wp2_with fail
              refine CT.out.mono ?_
              rintro e w' ⟨rfl, rfl⟩
              go_wp2_with fail
              go_round
              case rel => exact ⟨k2 + 1, textB (n.av k2), rfl, by go_num, by omega, by rw [range_next, ← Bool.and_assoc, ← HV2.out, HQ.out, HF2.out]; simp [Hid]⟩
              case measure => simp [intOf]; omega
        · have hke2 : k2 = n.al := by omega
          have h2e : v2 = (v && (List.range n.al).all (fun i => nameB (n.an i) && textB (n.av i))) := by rw [← hke2]; exact HV2.out
          have hfin : rightB n = v2 := by rw [HR.out, fin_yes v0 v _ _ HV1.out h2e]
          clear h2e
          have hltz2 : ¬ (k2 : Int) < (n.al : Int) := by omega
          have HFIN := Lib.hid hfin
          clear hke2 hfin
          go_wp2_with fail
          go_ret
          exact ⟨ret_bool HFIN.out.symm, H0.out⟩

set_option maxRecDepth 100000 in
set_option maxHeartbeats 4000000 in
theorem refRight_ya (n : Nd) (w : World) (hn : NdIn w n) (ht : emB n.tag = false) (hg : nameB n.tag = true) (he : emB n.id = true) (hx : emB n.tx = true) (hc8 : n.cl ≤ 8) (ha8 : n.al ≤ 8) (hr : rightB n = (true && ((List.range n.cl).all (fun i => nameB (n.cs i)) && (List.range n.al).all (fun i => nameB (n.an i) && textB (n.av i))))) : Calls Try.prog 33 #[.agg n.val] w fun e w' => e = .returned (.bool (rightB n)) ∧ Below w.heap.size w w' := by
  have HN := Lib.hid hn
  have hcl := hn.scl
  have hal := hn.sal
  unfold maxLen at hcl hal
  rw [Nd.val_eq]
  clear hn
  obtain ⟨v0, hv0⟩ : ∃ v0 : Bool, v0 = true := ⟨_, rfl⟩
  rw [← hv0] at hr
  have HV0 := Lib.hid hv0
  have HR := Lib.hid hr
  clear hv0 hr
  have HG := Lib.hid hg
  clear hg
  unfold emB at ht he hx
  have z1 : (n.cl : Int) ≤ 8 := by omega
  have z2 : (n.al : Int) ≤ 8 := by omega
  have hbx : (w.alloc (.cells #[.int .i64 n.par, .string n.tag, .string n.id, .slice n.ca n.cl n.cc, .slice n.aa n.al n.ac, .string n.tx] 39)) = boxed w n := rfl
  obtain ⟨c0, c1, c2, c3, c4, c5⟩ := boxed_box w n
  have H0 := Lib.hid (boxed_below w n)
  go_enter Try.func33, Try.ntmps33
  go_wp2_with (go_at_call 11; refine (refName_any n.tag HN.out.stag _).mono ?_; rintro e w' ⟨rfl, rfl⟩; rw [HG.out])
  clear hbx c0 c1 c2 c5
  have H3 := Lib.hid c3
  have H4 := Lib.hid c4
  generalize boxed w n = wb at H0 H3 H4 c3 c4 ⊢
  go_loop [3, 4] (fun o u => ∃ (k : Nat) (v : Bool), o = .bool v ∧ u = .int .i64 k ∧ k ≤ n.cl ∧ Hid (v = (v0 && (List.range k).all (fun i => nameB (n.cs i))))) (fun _ u => n.cl - (intOf u).toNat)
  case atStart => exact ⟨0, v0, by rw [HV0.out], rfl, by omega, by simp [Hid]⟩
  case round =>
    obtain ⟨k, v, rfl, rfl, hk, HV⟩ := hrel
    by_cases hlt : k < n.cl
    · have hltz : (k : Int) < (n.cl : Int) := by omega
      cases hv : v with
      | true =>
        have HF := Lib.hid hv
        clear hv
        obtain ⟨b, off, hca, d0⟩ : ∃ b off, n.ca = some ⟨b, off, none⟩ ∧ wb.cell? ⟨b, off + k, none⟩ = some (.string (n.cs k)) := by
          rcases HN.out.hc with e | ⟨b, off, e, hbs, hc⟩
          · omega
          · exact ⟨b, off, e, by rw [H0.out.cell (p := ⟨b, off + k, none⟩) hbs]; exact hc k hlt⟩
        have e3 := H3.out
        rw [hca] at e3
        clear hca c3
        have CN := Lib.hid (refName_any (n.cs k) (HN.out.scs k hlt) wb)
        go_wp2_with fail
        refine CN.out.mono ?_
        rintro e w' ⟨rfl, rfl⟩
        go_wp2_with fail
        go_round
        case rel => exact ⟨k + 1, nameB (n.cs k), rfl, by go_num, by omega, by rw [range_next, ← Bool.and_assoc, ← HV.out, HF.out]; simp [Hid]⟩
        case measure => simp [intOf]; omega
      | false =>
        have HV1 : Hid (false = (v0 && (List.range n.cl).all (fun i => nameB (n.cs i)))) := (all_cut v0 _ hk (by rw [← HV.out, hv])).symm
        clear hv HV
        go_wp2_with fail
        go_loop [3, 5] (fun o u => ∃ (k2 : Nat) (v2 : Bool), o = .bool v2 ∧ u = .int .i64 k2 ∧ k2 ≤ n.al ∧ Hid (v2 = (false && (List.range k2).all (fun i => nameB (n.an i) && textB (n.av i))))) (fun _ u => n.al - (intOf u).toNat)
        case atStart => exact ⟨0, false, rfl, rfl, by omega, by simp [Hid]⟩
        case round =>
          obtain ⟨k2, v2, rfl, rfl, hk2, HV2⟩ := hrel
          by_cases hlt2 : k2 < n.al
          · have hltz2 : (k2 : Int) < (n.al : Int) := by omega
            cases hv2 : v2 with
            | false =>
              have HF2 := Lib.hid hv2
              clear hv2
              go_wp2_with fail
              go_ret
              refine ⟨ret_bool ?_, H0.out⟩
              have e1 := HV2.out
              rw [HF2.out] at e1
              rw [HR.out, fin_no v0 false _ _ HV1.out (Or.inr ⟨hk2, e1.symm⟩)]
            | true =>
              have HF2 := Lib.hid hv2
              clear hv2
              obtain ⟨b, off, haa, d0, d1⟩ : ∃ b off, n.aa = some ⟨b, off, none⟩ ∧ wb.cell? ⟨b, off + k2 * 2, none⟩ = some (.string (n.an k2)) ∧ wb.cell? ⟨b, off + k2 * 2 + 1, none⟩ = some (.string (n.av k2)) := by
                rcases HN.out.ha with e | ⟨b, off, e, hbs, hc⟩
                · omega
                · exact ⟨b, off, e, by rw [H0.out.cell (p := ⟨b, off + k2 * 2, none⟩) hbs]; exact (hc k2 hlt2).1, by rw [H0.out.cell (p := ⟨b, off + k2 * 2 + 1, none⟩) hbs]; exact (hc k2 hlt2).2⟩
              have e4 := H4.out
              rw [haa] at e4
              clear haa c4
              have CN := Lib.hid (refName_any (n.an k2) (HN.out.san k2 hlt2) wb)
              have CT := Lib.hid (refText_any (n.av k2) (HN.out.sav k2 hlt2) wb)
              cases hq : nameB (n.an k2) with
              | false =>
                have HQ := Lib.hid hq
                clear hq
                go_wp2_with fail
                refine CN.out.mono ?_
                rintro e w' ⟨rfl, rfl⟩
                rw [HQ.out]
                go_wp2_with fail
                go_round
                case rel => exact ⟨k2 + 1, false, rfl, by go_num, by omega, by rw [range_next, ← Bool.and_assoc, ← HV2.out, HQ.out]; simp [Hid]⟩
                case measure => simp [intOf]; omega
              | true =>
                have HQ := Lib.hid hq
                clear hq
                go_wp2_with fail
                refine CN.out.mono ?_
                rintro e w' ⟨rfl, rfl⟩
                rw [HQ.out]
                go_wp2_with fail
                refine CT.out.mono ?_
                rintro e w' ⟨rfl, rfl⟩
                go_wp2_with fail
                go_round
                case rel => exact ⟨k2 + 1, textB (n.av k2), rfl, by go_num, by omega, by rw [range_next, ← Bool.and_assoc, ← HV2.out, HQ.out, HF2.out]; simp [Hid]⟩
                case measure => simp [intOf]; omega
          · have hke2 : k2 = n.al := by omega
            have h2e : v2 = (false && (List.range n.al).all (fun i => nameB (n.an i) && textB (n.av i))) := by rw [← hke2]; exact HV2.out
            have hfin : rightB n = v2 := by rw [HR.out, fin_yes v0 false _ _ HV1.out h2e]
            clear h2e
            have hltz2 : ¬ (k2 : Int) < (n.al : Int) := by omega
            have HFIN := Lib.hid hfin
            clear hke2 hfin
            go_wp2_with fail
            go_ret
            exact ⟨ret_bool HFIN.out.symm, H0.out⟩
    · have hke : k = n.cl := by omega
      have hltz : ¬ (k : Int) < (n.cl : Int) := by omega
      have HV1 : Hid (v = (v0 && (List.range n.cl).all (fun i => nameB (n.cs i)))) := by rw [← hke]; exact HV
      clear hke HV
      go_wp2_with fail
      go_loop [3, 5] (fun o u => ∃ (k2 : Nat) (v2 : Bool), o = .bool v2 ∧ u = .int .i64 k2 ∧ k2 ≤ n.al ∧ Hid (v2 = (v && (List.range k2).all (fun i => nameB (n.an i) && textB (n.av i))))) (fun _ u => n.al - (intOf u).toNat)
      case atStart => exact ⟨0, v, rfl, rfl, by omega, by simp [Hid]⟩
      case round =>
        obtain ⟨k2, v2, rfl, rfl, hk2, HV2⟩ := hrel
        by_cases hlt2 : k2 < n.al
        · have hltz2 : (k2 : Int) < (n.al : Int) := by omega
          cases hv2 : v2 with
          | false =>
            have HF2 := Lib.hid hv2
            clear hv2
            go_wp2_with fail
            go_ret
            refine ⟨ret_bool ?_, H0.out⟩
            have e1 := HV2.out
            rw [HF2.out] at e1
            rw [HR.out, fin_no v0 v _ _ HV1.out (Or.inr ⟨hk2, e1.symm⟩)]
          | true =>
            have HF2 := Lib.hid hv2
            clear hv2
            obtain ⟨b, off, haa, d0, d1⟩ : ∃ b off, n.aa = some ⟨b, off, none⟩ ∧ wb.cell? ⟨b, off + k2 * 2, none⟩ = some (.string (n.an k2)) ∧ wb.cell? ⟨b, off + k2 * 2 + 1, none⟩ = some (.string (n.av k2)) := by
              rcases HN.out.ha with e | ⟨b, off, e, hbs, hc⟩
              · omega
              · exact ⟨b, off, e, by rw [H0.out.cell (p := ⟨b, off + k2 * 2, none⟩) hbs]; exact (hc k2 hlt2).1, by rw [H0.out.cell (p := ⟨b, off + k2 * 2 + 1, none⟩) hbs]; exact (hc k2 hlt2).2⟩
            have e4 := H4.out
            rw [haa] at e4
            clear haa c4
            have CN := Lib.hid (refName_any (n.an k2) (HN.out.san k2 hlt2) wb)
            have CT := Lib.hid (refText_any (n.av k2) (HN.out.sav k2 hlt2) wb)
            cases hq : nameB (n.an k2) with
            | false =>
              have HQ := Lib.hid hq
              clear hq
              go_wp2_with fail
              refine CN.out.mono ?_
              rintro e w' ⟨rfl, rfl⟩
              rw [HQ.out]
              go_wp2_with fail
              go_round
              case rel => exact ⟨k2 + 1, false, rfl, by go_num, by omega, by rw [range_next, ← Bool.and_assoc, ← HV2.out, HQ.out]; simp [Hid]⟩
              case measure => simp [intOf]; omega
            | true =>
              have HQ := Lib.hid hq
              clear hq
              go_wp2_with fail
              refine CN.out.mono ?_
              rintro e w' ⟨rfl, rfl⟩
              rw [HQ.out]
              go_wp2_with fail
              refine CT.out.mono ?_
              rintro e w' ⟨rfl, rfl⟩
              go_wp2_with fail
              go_round
              case rel => exact ⟨k2 + 1, textB (n.av k2), rfl, by go_num, by omega, by rw [range_next, ← Bool.and_assoc, ← HV2.out, HQ.out, HF2.out]; simp [Hid]⟩
              case measure => simp [intOf]; omega
        · have hke2 : k2 = n.al := by omega
          have h2e : v2 = (v && (List.range n.al).all (fun i => nameB (n.an i) && textB (n.av i))) := by rw [← hke2]; exact HV2.out
          have hfin : rightB n = v2 := by rw [HR.out, fin_yes v0 v _ _ HV1.out h2e]
          clear h2e
          have hltz2 : ¬ (k2 : Int) < (n.al : Int) := by omega
          have HFIN := Lib.hid hfin
          clear hke2 hfin
          go_wp2_with fail
          go_ret
          exact ⟨ret_bool HFIN.out.symm, H0.out⟩

set_option maxRecDepth 100000 in
set_option maxHeartbeats 4000000 in
theorem refRight_xb (n : Nd) (w : World) (hn : NdIn w n) (ht : emB n.tag = false) (hg : nameB n.tag = true) (he : emB n.id = false) (hi : nameB n.id = true) (hx : emB n.tx = false) (hr : rightB n = (false && ((List.range n.cl).all (fun i => nameB (n.cs i)) && (List.range n.al).all (fun i => nameB (n.an i) && textB (n.av i))))) : Calls Try.prog 33 #[.agg n.val] w fun e w' => e = .returned (.bool (rightB n)) ∧ Below w.heap.size w w' := by
  have HN := Lib.hid hn
  have hcl := hn.scl
  have hal := hn.sal
  unfold maxLen at hcl hal
  rw [Nd.val_eq]
  clear hn
  obtain ⟨v0, hv0⟩ : ∃ v0 : Bool, v0 = false := ⟨_, rfl⟩
  rw [← hv0] at hr
  have HV0 := Lib.hid hv0
  have HR := Lib.hid hr
  clear hv0 hr
  have HG := Lib.hid hg
  have HI := Lib.hid hi
  clear hi
  clear hg
  unfold emB at ht he hx
  have hbx : (w.alloc (.cells #[.int .i64 n.par, .string n.tag, .string n.id, .slice n.ca n.cl n.cc, .slice n.aa n.al n.ac, .string n.tx] 39)) = boxed w n := rfl
  obtain ⟨c0, c1, c2, c3, c4, c5⟩ := boxed_box w n
  have H0 := Lib.hid (boxed_below w n)
  go_enter Try.func33, Try.ntmps33
  go_wp2_with (go_at_call 11; first | (with_reducible refine (refName_any n.tag HN.out.stag _).mono ?_; rintro e w' ⟨rfl, rfl⟩; rw [HG.out]) | (with_reducible refine (refName_any n.id HN.out.sid _).mono ?_; rintro e w' ⟨rfl, rfl⟩; rw [HI.out]))
  clear hbx c0 c1 c2 c5
  have H3 := Lib.hid c3
  have H4 := Lib.hid c4
  generalize boxed w n = wb at H0 H3 H4 c3 c4 ⊢
  go_loop [3, 4] (fun o u => ∃ (k : Nat) (v : Bool), o = .bool v ∧ u = .int .i64 k ∧ k ≤ n.cl ∧ Hid (v = (v0 && (List.range k).all (fun i => nameB (n.cs i))))) (fun _ u => n.cl - (intOf u).toNat)
  case atStart => exact ⟨0, v0, by rw [HV0.out], rfl, by omega, by simp [Hid]⟩
  case round =>
    obtain ⟨k, v, rfl, rfl, hk, HV⟩ := hrel
    by_cases hlt : k < n.cl
    · have hltz : (k : Int) < (n.cl : Int) := by omega
      cases hv : v with
      | true =>
        have HF := Lib.hid hv
        clear hv
        obtain ⟨b, off, hca, d0⟩ : ∃ b off, n.ca = some ⟨b, off, none⟩ ∧ wb.cell? ⟨b, off + k, none⟩ = some (.string (n.cs k)) := by
          rcases HN.out.hc with e | ⟨b, off, e, hbs, hc⟩
          · omega
          · exact ⟨b, off, e, by rw [H0.out.cell (p := ⟨b, off + k, none⟩) hbs]; exact hc k hlt⟩
        have e3 := H3.out
        rw [hca] at e3
        clear hca c3
        have CN := Lib.hid (refName_any (n.cs k) (HN.out.scs k hlt) wb)
        go_wp2_with fail
        refine CN.out.mono ?_
        rintro e w' ⟨rfl, rfl⟩
        go_wp2_with fail
        go_round
        case rel => exact ⟨k + 1, nameB (n.cs k), rfl, by go_num, by omega, by rw [range_next, ← Bool.and_assoc, ← HV.out, HF.out]; simp [Hid]⟩
        case measure => simp [intOf]; omega
      | false =>
        have HV1 : Hid (false = (v0 && (List.range n.cl).all (fun i => nameB (n.cs i)))) := (all_cut v0 _ hk (by rw [← HV.out, hv])).symm
        clear hv HV
        go_wp2_with fail
        go_loop [3, 5] (fun o u => ∃ (k2 : Nat) (v2 : Bool), o = .bool v2 ∧ u = .int .i64 k2 ∧ k2 ≤ n.al ∧ Hid (v2 = (false && (List.range k2).all (fun i => nameB (n.an i) && textB (n.av i))))) (fun _ u => n.al - (intOf u).toNat)
        case atStart => exact ⟨0, false, rfl, rfl, by omega, by simp [Hid]⟩
        case round =>
          obtain ⟨k2, v2, rfl, rfl, hk2, HV2⟩ := hrel
          by_cases hlt2 : k2 < n.al
          · have hltz2 : (k2 : Int) < (n.al : Int) := by omega
            cases hv2 : v2 with
            | false =>
              have HF2 := Lib.hid hv2
              clear hv2
              go_wp2_with fail
              go_ret
              refine ⟨ret_bool ?_, H0.out⟩
              have e1 := HV2.out
              rw [HF2.out] at e1
              rw [HR.out, fin_no v0 false _ _ HV1.out (Or.inr ⟨hk2, e1.symm⟩)]
            | true =>
              have HF2 := Lib.hid hv2
              clear hv2
              obtain ⟨b, off, haa, d0, d1⟩ : ∃ b off, n.aa = some ⟨b, off, none⟩ ∧ wb.cell? ⟨b, off + k2 * 2, none⟩ = some (.string (n.an k2)) ∧ wb.cell? ⟨b, off + k2 * 2 + 1, none⟩ = some (.string (n.av k2)) := by
                rcases HN.out.ha with e | ⟨b, off, e, hbs, hc⟩
                · omega
                · exact ⟨b, off, e, by rw [H0.out.cell (p := ⟨b, off + k2 * 2, none⟩) hbs]; exact (hc k2 hlt2).1, by rw [H0.out.cell (p := ⟨b, off + k2 * 2 + 1, none⟩) hbs]; exact (hc k2 hlt2).2⟩
              have e4 := H4.out
              rw [haa] at e4
              clear haa c4
              have CN := Lib.hid (refName_any (n.an k2) (HN.out.san k2 hlt2) wb)
              have CT := Lib.hid (refText_any (n.av k2) (HN.out.sav k2 hlt2) wb)
              cases hq : nameB (n.an k2) with
              | false =>
                have HQ := Lib.hid hq
                clear hq
                go_wp2_with fail
                refine CN.out.mono ?_
                rintro e w' ⟨rfl, rfl⟩
                rw [HQ.out]
                go_wp2_with fail
                go_round
                case rel => exact ⟨k2 + 1, false, rfl, by go_num, by omega, by rw [range_next, ← Bool.and_assoc, ← HV2.out, HQ.out]; simp [Hid]⟩
                case measure => simp [intOf]; omega
              | true =>
                have HQ := Lib.hid hq
                clear hq
                go_wp2_with fail
                refine CN.out.mono ?_
                rintro e w' ⟨rfl, rfl⟩
                rw [HQ.out]
                go_wp2_with fail
                refine CT.out.mono ?_
                rintro e w' ⟨rfl, rfl⟩
                go_wp2_with fail
                go_round
                case rel => exact ⟨k2 + 1, textB (n.av k2), rfl, by go_num, by omega, by rw [range_next, ← Bool.and_assoc, ← HV2.out, HQ.out, HF2.out]; simp [Hid]⟩
                case measure => simp [intOf]; omega
          · have hke2 : k2 = n.al := by omega
            have h2e : v2 = (false && (List.range n.al).all (fun i => nameB (n.an i) && textB (n.av i))) := by rw [← hke2]; exact HV2.out
            have hfin : rightB n = v2 := by rw [HR.out, fin_yes v0 false _ _ HV1.out h2e]
            clear h2e
            have hltz2 : ¬ (k2 : Int) < (n.al : Int) := by omega
            have HFIN := Lib.hid hfin
            clear hke2 hfin
            go_wp2_with fail
            go_ret
            exact ⟨ret_bool HFIN.out.symm, H0.out⟩
    · have hke : k = n.cl := by omega
      have hltz : ¬ (k : Int) < (n.cl : Int) := by omega
      have HV1 : Hid (v = (v0 && (List.range n.cl).all (fun i => nameB (n.cs i)))) := by rw [← hke]; exact HV
      clear hke HV
      go_wp2_with fail
      go_loop [3, 5] (fun o u => ∃ (k2 : Nat) (v2 : Bool), o = .bool v2 ∧ u = .int .i64 k2 ∧ k2 ≤ n.al ∧ Hid (v2 = (v && (List.range k2).all (fun i => nameB (n.an i) && textB (n.av i))))) (fun _ u => n.al - (intOf u).toNat)
      case atStart => exact ⟨0, v, rfl, rfl, by omega, by simp [Hid]⟩
      case round =>
        obtain ⟨k2, v2, rfl, rfl, hk2, HV2⟩ := hrel
        by_cases hlt2 : k2 < n.al
        · have hltz2 : (k2 : Int) < (n.al : Int) := by omega
          cases hv2 : v2 with
          | false =>
            have HF2 := Lib.hid hv2
            clear hv2
            go_wp2_with fail
            go_ret
            refine ⟨ret_bool ?_, H0.out⟩
            have e1 := HV2.out
            rw [HF2.out] at e1
            rw [HR.out, fin_no v0 v _ _ HV1.out (Or.inr ⟨hk2, e1.symm⟩)]
          | true =>
            have HF2 := Lib.hid hv2
            clear hv2
            obtain ⟨b, off, haa, d0, d1⟩ : ∃ b off, n.aa = some ⟨b, off, none⟩ ∧ wb.cell? ⟨b, off + k2 * 2, none⟩ = some (.string (n.an k2)) ∧ wb.cell? ⟨b, off + k2 * 2 + 1, none⟩ = some (.string (n.av k2)) := by
              rcases HN.out.ha with e | ⟨b, off, e, hbs, hc⟩
              · omega
              · exact ⟨b, off, e, by rw [H0.out.cell (p := ⟨b, off + k2 * 2, none⟩) hbs]; exact (hc k2 hlt2).1, by rw [H0.out.cell (p := ⟨b, off + k2 * 2 + 1, none⟩) hbs]; exact (hc k2 hlt2).2⟩
            have e4 := H4.out
            rw [haa] at e4
            clear haa c4
            have CN := Lib.hid (refName_any (n.an k2) (HN.out.san k2 hlt2) wb)
            have CT := Lib.hid (refText_any (n.av k2) (HN.out.sav k2 hlt2) wb)
            cases hq : nameB (n.an k2) with
            | false =>
              have HQ := Lib.hid hq
              clear hq
              go_wp2_with fail
              refine CN.out.mono ?_
              rintro e w' ⟨rfl, rfl⟩
              rw [HQ.out]
              go_wp2_with fail
              go_round
              case rel => exact ⟨k2 + 1, false, rfl, by go_num, by omega, by rw [range_next, ← Bool.and_assoc, ← HV2.out, HQ.out]; simp [Hid]⟩
              case measure => simp [intOf]; omega
            | true =>
              have HQ := Lib.hid hq
              clear hq
              go_wp2_with fail
              refine CN.out.mono ?_
              rintro e w' ⟨rfl, rfl⟩
              rw [HQ.out]
              go_wp2_with fail
              refine CT.out.mono ?_
              rintro e w' ⟨rfl, rfl⟩
              go_wp2_with fail
              go_round
              case rel => exact ⟨k2 + 1, textB (n.av k2), rfl, by go_num, by omega, by rw [range_next, ← Bool.and_assoc, ← HV2.out, HQ.out, HF2.out]; simp [Hid]⟩
              case measure => simp [intOf]; omega
        · have hke2 : k2 = n.al := by omega
          have h2e : v2 = (v && (List.range n.al).all (fun i => nameB (n.an i) && textB (n.av i))) := by rw [← hke2]; exact HV2.out
          have hfin : rightB n = v2 := by rw [HR.out, fin_yes v0 v _ _ HV1.out h2e]
          clear h2e
          have hltz2 : ¬ (k2 : Int) < (n.al : Int) := by omega
          have HFIN := Lib.hid hfin
          clear hke2 hfin
          go_wp2_with fail
          go_ret
          exact ⟨ret_bool HFIN.out.symm, H0.out⟩

set_option maxRecDepth 100000 in
set_option maxHeartbeats 4000000 in
theorem refRight_cb (n : Nd) (w : World) (hn : NdIn w n) (ht : emB n.tag = false) (hg : nameB n.tag = true) (he : emB n.id = false) (hi : nameB n.id = true) (hx : emB n.tx = true) (hc8 : ¬ n.cl ≤ 8) (hr : rightB n = (false && ((List.range n.cl).all (fun i => nameB (n.cs i)) && (List.range n.al).all (fun i => nameB (n.an i) && textB (n.av i))))) : Calls Try.prog 33 #[.agg n.val] w fun e w' => e = .returned (.bool (rightB n)) ∧ Below w.heap.size w w' := by
  have HN := Lib.hid hn
  have hcl := hn.scl
  have hal := hn.sal
  unfold maxLen at hcl hal
  rw [Nd.val_eq]
  clear hn
  obtain ⟨v0, hv0⟩ : ∃ v0 : Bool, v0 = false := ⟨_, rfl⟩
  rw [← hv0] at hr
  have HV0 := Lib.hid hv0
  have HR := Lib.hid hr
  clear hv0 hr
  have HG := Lib.hid hg
  have HI := Lib.hid hi
  clear hi
  clear hg
  unfold emB at ht he hx
  have z1 : ¬ (n.cl : Int) ≤ 8 := by omega
  have hbx : (w.alloc (.cells #[.int .i64 n.par, .string n.tag, .string n.id, .slice n.ca n.cl n.cc, .slice n.aa n.al n.ac, .string n.tx] 39)) = boxed w n := rfl
  obtain ⟨c0, c1, c2, c3, c4, c5⟩ := boxed_box w n
  have H0 := Lib.hid (boxed_below w n)
  go_enter Try.func33, Try.ntmps33
  go_wp2_with (go_at_call 11; first | (with_reducible refine (refName_any n.tag HN.out.stag _).mono ?_; rintro e w' ⟨rfl, rfl⟩; rw [HG.out]) | (with_reducible refine (refName_any n.id HN.out.sid _).mono ?_; rintro e w' ⟨rfl, rfl⟩; rw [HI.out]))
  clear hbx c0 c1 c2 c5
  have H3 := Lib.hid c3
  have H4 := Lib.hid c4
  generalize boxed w n = wb at H0 H3 H4 c3 c4 ⊢
  go_loop [3, 4] (fun o u => ∃ (k : Nat) (v : Bool), o = .bool v ∧ u = .int .i64 k ∧ k ≤ n.cl ∧ Hid (v = (v0 && (List.range k).all (fun i => nameB (n.cs i))))) (fun _ u => n.cl - (intOf u).toNat)
  case atStart => exact ⟨0, v0, by rw [HV0.out], rfl, by omega, by simp [Hid]⟩
  case round =>
    obtain ⟨k, v, rfl, rfl, hk, HV⟩ := hrel
    by_cases hlt : k < n.cl
    · have hltz : (k : Int) < (n.cl : Int) := by omega
      cases hv : v with
      | true =>
        have HF := Lib.hid hv
        clear hv
        obtain ⟨b, off, hca, d0⟩ : ∃ b off, n.ca = some ⟨b, off, none⟩ ∧ wb.cell? ⟨b, off + k, none⟩ = some (.string (n.cs k)) := by
          rcases HN.out.hc with e | ⟨b, off, e, hbs, hc⟩
          · omega
          · exact ⟨b, off, e, by rw [H0.out.cell (p := ⟨b, off + k, none⟩) hbs]; exact hc k hlt⟩
        have e3 := H3.out
        rw [hca] at e3
        clear hca c3
        have CN := Lib.hid (refName_any (n.cs k) (HN.out.scs k hlt) wb)
        go_wp2_with fail
        refine CN.out.mono ?_
        rintro e w' ⟨rfl, rfl⟩
        go_wp2_with fail
        go_round
        case rel => exact ⟨k + 1, nameB (n.cs k), rfl, by go_num, by omega, by rw [range_next, ← Bool.and_assoc, ← HV.out, HF.out]; simp [Hid]⟩
        case measure => simp [intOf]; omega
      | false =>
        have HV1 : Hid (false = (v0 && (List.range n.cl).all (fun i => nameB (n.cs i)))) := (all_cut v0 _ hk (by rw [← HV.out, hv])).symm
        clear hv HV
        go_wp2_with fail
        go_loop [3, 5] (fun o u => ∃ (k2 : Nat) (v2 : Bool), o = .bool v2 ∧ u = .int .i64 k2 ∧ k2 ≤ n.al ∧ Hid (v2 = (false && (List.range k2).all (fun i => nameB (n.an i) && textB (n.av i))))) (fun _ u => n.al - (intOf u).toNat)
        case atStart => exact ⟨0, false, rfl, rfl, by omega, by simp [Hid]⟩
        case round =>
          obtain ⟨k2, v2, rfl, rfl, hk2, HV2⟩ := hrel
          by_cases hlt2 : k2 < n.al
          · have hltz2 : (k2 : Int) < (n.al : Int) := by omega
            cases hv2 : v2 with
            | false =>
              have HF2 := Lib.hid hv2
              clear hv2
              go_wp2_with fail
              go_ret
              refine ⟨ret_bool ?_, H0.out⟩
              have e1 := HV2.out
              rw [HF2.out] at e1
              rw [HR.out, fin_no v0 false _ _ HV1.out (Or.inr ⟨hk2, e1.symm⟩)]
            | true =>
              have HF2 := Lib.hid hv2
              clear hv2
              obtain ⟨b, off, haa, d0, d1⟩ : ∃ b off, n.aa = some ⟨b, off, none⟩ ∧ wb.cell? ⟨b, off + k2 * 2, none⟩ = some (.string (n.an k2)) ∧ wb.cell? ⟨b, off + k2 * 2 + 1, none⟩ = some (.string (n.av k2)) := by
                rcases HN.out.ha with e | ⟨b, off, e, hbs, hc⟩
                · omega
                · exact ⟨b, off, e, by rw [H0.out.cell (p := ⟨b, off + k2 * 2, none⟩) hbs]; exact (hc k2 hlt2).1, by rw [H0.out.cell (p := ⟨b, off + k2 * 2 + 1, none⟩) hbs]; exact (hc k2 hlt2).2⟩
              have e4 := H4.out
              rw [haa] at e4
              clear haa c4
              have CN := Lib.hid (refName_any (n.an k2) (HN.out.san k2 hlt2) wb)
              have CT := Lib.hid (refText_any (n.av k2) (HN.out.sav k2 hlt2) wb)
              cases hq : nameB (n.an k2) with
              | false =>
                have HQ := Lib.hid hq
                clear hq
                go_wp2_with fail
                refine CN.out.mono ?_
                rintro e w' ⟨rfl, rfl⟩
                rw [HQ.out]
                go_wp2_with fail
                go_round
                case rel => exact ⟨k2 + 1, false, rfl, by go_num, by omega, by rw [range_next, ← Bool.and_assoc, ← HV2.out, HQ.out]; simp [Hid]⟩
                case measure => simp [intOf]; omega
              | true =>
                have HQ := Lib.hid hq
                clear hq
                go_wp2_with fail
                refine CN.out.mono ?_
                rintro e w' ⟨rfl, rfl⟩
                rw [HQ.out]
                go_wp2_with fail
                refine CT.out.mono ?_
                rintro e w' ⟨rfl, rfl⟩
                go_wp2_with fail
                go_round
                case rel => exact ⟨k2 + 1, textB (n.av k2), rfl, by go_num, by omega, by rw [range_next, ← Bool.and_assoc, ← HV2.out, HQ.out, HF2.out]; simp [Hid]⟩
                case measure => simp [intOf]; omega
          · have hke2 : k2 = n.al := by omega
            have h2e : v2 = (false && (List.range n.al).all (fun i => nameB (n.an i) && textB (n.av i))) := by rw [← hke2]; exact HV2.out
            have hfin : rightB n = v2 := by rw [HR.out, fin_yes v0 false _ _ HV1.out h2e]
            clear h2e
            have hltz2 : ¬ (k2 : Int) < (n.al : Int) := by omega
            have HFIN := Lib.hid hfin
            clear hke2 hfin
            go_wp2_with fail
            go_ret
            exact ⟨ret_bool HFIN.out.symm, H0.out⟩
    · have hke : k = n.cl := by omega
      have hltz : ¬ (k : Int) < (n.cl : Int) := by omega
      have HV1 : Hid (v = (v0 && (List.range n.cl).all (fun i => nameB (n.cs i)))) := by rw [← hke]; exact HV
      clear hke HV
      go_wp2_with fail
      go_loop [3, 5] (fun o u => ∃ (k2 : Nat) (v2 : Bool), o = .bool v2 ∧ u = .int .i64 k2 ∧ k2 ≤ n.al ∧ Hid (v2 = (v && (List.range k2).all (fun i => nameB (n.an i) && textB (n.av i))))) (fun _ u => n.al - (intOf u).toNat)
      case atStart => exact ⟨0, v, rfl, rfl, by omega, by simp [Hid]⟩
      case round =>
        obtain ⟨k2, v2, rfl, rfl, hk2, HV2⟩ := hrel
        by_cases hlt2 : k2 < n.al
        · have hltz2 : (k2 : Int) < (n.al : Int) := by omega
          cases hv2 : v2 with
          | false =>
            have HF2 := Lib.hid hv2
            clear hv2
            go_wp2_with fail
            go_ret
            refine ⟨ret_bool ?_, H0.out⟩
            have e1 := HV2.out
            rw [HF2.out] at e1
            rw [HR.out, fin_no v0 v _ _ HV1.out (Or.inr ⟨hk2, e1.symm⟩)]
          | true =>
            have HF2 := Lib.hid hv2
            clear hv2
            obtain ⟨b, off, haa, d0, d1⟩ : ∃ b off, n.aa = some ⟨b, off, none⟩ ∧ wb.cell? ⟨b, off + k2 * 2, none⟩ = some (.string (n.an k2)) ∧ wb.cell? ⟨b, off + k2 * 2 + 1, none⟩ = some (.string (n.av k2)) := by
              rcases HN.out.ha with e | ⟨b, off, e, hbs, hc⟩
              · omega
              · exact ⟨b, off, e, by rw [H0.out.cell (p := ⟨b, off + k2 * 2, none⟩) hbs]; exact (hc k2 hlt2).1, by rw [H0.out.cell (p := ⟨b, off + k2 * 2 + 1, none⟩) hbs]; exact (hc k2 hlt2).2⟩
            have e4 := H4.out
            rw [haa] at e4
            clear haa c4
            have CN := Lib.hid (refName_any (n.an k2) (HN.out.san k2 hlt2) wb)
            have CT := Lib.hid (refText_any (n.av k2) (HN.out.sav k2 hlt2) wb)
            cases hq : nameB (n.an k2) with
            | false =>
              have HQ := Lib.hid hq
              clear hq
              go_wp2_with fail
              refine CN.out.mono ?_
              rintro e w' ⟨rfl, rfl⟩
              rw [HQ.out]
              go_wp2_with fail
              go_round
              case rel => exact ⟨k2 + 1, false, rfl, by go_num, by omega, by rw [range_next, ← Bool.and_assoc, ← HV2.out, HQ.out]; simp [Hid]⟩
              case measure => simp [intOf]; omega
            | true =>
              have HQ := Lib.hid hq
              clear hq
              go_wp2_with fail
              refine CN.out.mono ?_
              rintro e w' ⟨rfl, rfl⟩
              rw [HQ.out]
              go_wp2_with fail
              refine CT.out.mono ?_
              rintro e w' ⟨rfl, rfl⟩
              go_wp2_with fail
              go_round
              case rel => exact ⟨k2 + 1, textB (n.av k2), rfl, by go_num, by omega, by rw [range_next, ← Bool.and_assoc, ← HV2.out, HQ.out, HF2.out]; simp [Hid]⟩
              case measure => simp [intOf]; omega
        · have hke2 : k2 = n.al := by omega
          have h2e : v2 = (v && (List.range n.al).all (fun i => nameB (n.an i) && textB (n.av i))) := by rw [← hke2]; exact HV2.out
          have hfin : rightB n = v2 := by rw [HR.out, fin_yes v0 v _ _ HV1.out h2e]
          clear h2e
          have hltz2 : ¬ (k2 : Int) < (n.al : Int) := by omega
          have HFIN := Lib.hid hfin
          clear hke2 hfin
          go_wp2_with fail
          go_ret
          exact ⟨ret_bool HFIN.out.symm, H0.out⟩

set_option maxRecDepth 100000 in
set_option maxHeartbeats 4000000 in
theorem refRight_db (n : Nd) (w : World) (hn : NdIn w n) (ht : emB n.tag = false) (hg : nameB n.tag = true) (he : emB n.id = false) (hi : nameB n.id = true) (hx : emB n.tx = true) (hc8 : n.cl ≤ 8) (ha8 : ¬ n.al ≤ 8) (hr : rightB n = (false && ((List.range n.cl).all (fun i => nameB (n.cs i)) && (List.range n.al).all (fun i => nameB (n.an i) && textB (n.av i))))) : Calls Try.prog 33 #[.agg n.val] w fun e w' => e = .returned (.bool (rightB n)) ∧ Below w.heap.size w w' := by
  have HN := Lib.hid hn
  have hcl := hn.scl
  have hal := hn.sal
  unfold maxLen at hcl hal
  rw [Nd.val_eq]
  clear hn
  obtain ⟨v0, hv0⟩ : ∃ v0 : Bool, v0 = false := ⟨_, rfl⟩
  rw [← hv0] at hr
  have HV0 := Lib.hid hv0
  have HR := Lib.hid hr
  clear hv0 hr
  have HG := Lib.hid hg
  have HI := Lib.hid hi
  clear hi
  clear hg
  unfold emB at ht he hx
  have z1 : (n.cl : Int) ≤ 8 := by omega
  have z2 : decide ((n.al : Int) ≤ 8) = false := decide_eq_false (by omega)
  have hbx : (w.alloc (.cells #[.int .i64 n.par, .string n.tag, .string n.id, .slice n.ca n.cl n.cc, .slice n.aa n.al n.ac, .string n.tx] 39)) = boxed w n := rfl
  obtain ⟨c0, c1, c2, c3, c4, c5⟩ := boxed_box w n
  have H0 := Lib.hid (boxed_below w n)
  go_enter Try.func33, Try.ntmps33
  go_wp2_with (go_at_call 11; first | (with_reducible refine (refName_any n.tag HN.out.stag _).mono ?_; rintro e w' ⟨rfl, rfl⟩; rw [HG.out]) | (with_reducible refine (refName_any n.id HN.out.sid _).mono ?_; rintro e w' ⟨rfl, rfl⟩; rw [HI.out]))
  clear hbx c0 c1 c2 c5
  have H3 := Lib.hid c3
  have H4 := Lib.hid c4
  generalize boxed w n = wb at H0 H3 H4 c3 c4 ⊢
  go_loop [3, 4] (fun o u => ∃ (k : Nat) (v : Bool), o = .bool v ∧ u = .int .i64 k ∧ k ≤ n.cl ∧ Hid (v = (v0 && (List.range k).all (fun i => nameB (n.cs i))))) (fun _ u => n.cl - (intOf u).toNat)
  case atStart => exact ⟨0, v0, by rw [HV0.out], rfl, by omega, by simp [Hid]⟩
  case round =>
    obtain ⟨k, v, rfl, rfl, hk, HV⟩ := hrel
    by_cases hlt : k < n.cl
    · have hltz : (k : Int) < (n.cl : Int) := by omega
      cases hv : v with
      | true =>
        have HF := Lib.hid hv
        clear hv
        obtain ⟨b, off, hca, d0⟩ : ∃ b off, n.ca = some ⟨b, off, none⟩ ∧ wb.cell? ⟨b, off + k, none⟩ = some (.string (n.cs k)) := by
          rcases HN.out.hc with e | ⟨b, off, e, hbs, hc⟩
          · omega
          · exact ⟨b, off, e, by rw [H0.out.cell (p := ⟨b, off + k, none⟩) hbs]; exact hc k hlt⟩
        have e3 := H3.out
        rw [hca] at e3
        clear hca c3
        have CN := Lib.hid (refName_any (n.cs k) (HN.out.scs k hlt) wb)
        go_wp2_with fail
        refine CN.out.mono ?_
        rintro e w' ⟨rfl, rfl⟩
        go_wp2_with fail
        go_round
        case rel => exact ⟨k + 1, nameB (n.cs k), rfl, by go_num, by omega, by rw [range_next, ← Bool.and_assoc, ← HV.out, HF.out]; simp [Hid]⟩
        case measure => simp [intOf]; omega
      | false =>
        have HV1 : Hid (false = (v0 && (List.range n.cl).all (fun i => nameB (n.cs i)))) := (all_cut v0 _ hk (by rw [← HV.out, hv])).symm
        clear hv HV
        go_wp2_with fail
        go_loop [3, 5] (fun o u => ∃ (k2 : Nat) (v2 : Bool), o = .bool v2 ∧ u = .int .i64 k2 ∧ k2 ≤ n.al ∧ Hid (v2 = (false && (List.range k2).all (fun i => nameB (n.an i) && textB (n.av i))))) (fun _ u => n.al - (intOf u).toNat)
        case atStart => exact ⟨0, false, rfl, rfl, by omega, by simp [Hid]⟩
        case round =>
          obtain ⟨k2, v2, rfl, rfl, hk2, HV2⟩ := hrel
          by_cases hlt2 : k2 < n.al
          · have hltz2 : (k2 : Int) < (n.al : Int) := by omega
            cases hv2 : v2 with
            | false =>
              have HF2 := Lib.hid hv2
              clear hv2
              go_wp2_with fail
              go_ret
              refine ⟨ret_bool ?_, H0.out⟩
              have e1 := HV2.out
              rw [HF2.out] at e1
              rw [HR.out, fin_no v0 false _ _ HV1.out (Or.inr ⟨hk2, e1.symm⟩)]
            | true =>
              have HF2 := Lib.hid hv2
              clear hv2
              obtain ⟨b, off, haa, d0, d1⟩ : ∃ b off, n.aa = some ⟨b, off, none⟩ ∧ wb.cell? ⟨b, off + k2 * 2, none⟩ = some (.string (n.an k2)) ∧ wb.cell? ⟨b, off + k2 * 2 + 1, none⟩ = some (.string (n.av k2)) := by
                rcases HN.out.ha with e | ⟨b, off, e, hbs, hc⟩
                · omega
                · exact ⟨b, off, e, by rw [H0.out.cell (p := ⟨b, off + k2 * 2, none⟩) hbs]; exact (hc k2 hlt2).1, by rw [H0.out.cell (p := ⟨b, off + k2 * 2 + 1, none⟩) hbs]; exact (hc k2 hlt2).2⟩
              have e4 := H4.out
              rw [haa] at e4
              clear haa c4
              have CN := Lib.hid (refName_any (n.an k2) (HN.out.san k2 hlt2) wb)
              have CT := Lib.hid (refText_any (n.av k2) (HN.out.sav k2 hlt2) wb)
              cases hq : nameB (n.an k2) with
              | false =>
                have HQ := Lib.hid hq
                clear hq
                go_wp2_with fail
                refine CN.out.mono ?_
                rintro e w' ⟨rfl, rfl⟩
                rw [HQ.out]
                go_wp2_with fail
                go_round
                case rel => exact ⟨k2 + 1, false, rfl, by go_num, by omega, by rw [range_next, ← Bool.and_assoc, ← HV2.out, HQ.out]; simp [Hid]⟩
                case measure => simp [intOf]; omega
              | true =>
                have HQ := Lib.hid hq
                clear hq
                go_wp2_with fail
                refine CN.out.mono ?_
                rintro e w' ⟨rfl, rfl⟩
                rw [HQ.out]
                go_wp2_with fail
                refine CT.out.mono ?_
                rintro e w' ⟨rfl, rfl⟩
                go_wp2_with fail
                go_round
                case rel => exact ⟨k2 + 1, textB (n.av k2), rfl, by go_num, by omega, by rw [range_next, ← Bool.and_assoc, ← HV2.out, HQ.out, HF2.out]; simp [Hid]⟩
                case measure => simp [intOf]; omega
          · have hke2 : k2 = n.al := by omega
            have h2e : v2 = (false && (List.range n.al).all (fun i => nameB (n.an i) && textB (n.av i))) := by rw [← hke2]; exact HV2.out
            have hfin : rightB n = v2 := by rw [HR.out, fin_yes v0 false _ _ HV1.out h2e]
            clear h2e
            have hltz2 : ¬ (k2 : Int) < (n.al : Int) := by omega
            have HFIN := Lib.hid hfin
            clear hke2 hfin
            go_wp2_with fail
            go_ret
            exact ⟨ret_bool HFIN.out.symm, H0.out⟩
    · have hke : k = n.cl := by omega
      have hltz : ¬ (k : Int) < (n.cl : Int) := by omega
      have HV1 : Hid (v = (v0 && (List.range n.cl).all (fun i => nameB (n.cs i)))) := by rw [← hke]; exact HV
      clear hke HV
      go_wp2_with fail
      go_loop [3, 5] (fun o u => ∃ (k2 : Nat) (v2 : Bool), o = .bool v2 ∧ u = .int .i64 k2 ∧ k2 ≤ n.al ∧ Hid (v2 = (v && (List.range k2).all (fun i => nameB (n.an i) && textB (n.av i))))) (fun _ u => n.al - (intOf u).toNat)
      case atStart => exact ⟨0, v, rfl, rfl, by omega, by simp [Hid]⟩
      case round =>
        obtain ⟨k2, v2, rfl, rfl, hk2, HV2⟩ := hrel
        by_cases hlt2 : k2 < n.al
        · have hltz2 : (k2 : Int) < (n.al : Int) := by omega
          cases hv2 : v2 with
          | false =>
            have HF2 := Lib.hid hv2
            clear hv2
            go_wp2_with fail
            go_ret
            refine ⟨ret_bool ?_, H0.out⟩
            have e1 := HV2.out
            rw [HF2.out] at e1
            rw [HR.out, fin_no v0 v _ _ HV1.out (Or.inr ⟨hk2, e1.symm⟩)]
          | true =>
            have HF2 := Lib.hid hv2
            clear hv2
            obtain ⟨b, off, haa, d0, d1⟩ : ∃ b off, n.aa = some ⟨b, off, none⟩ ∧ wb.cell? ⟨b, off + k2 * 2, none⟩ = some (.string (n.an k2)) ∧ wb.cell? ⟨b, off + k2 * 2 + 1, none⟩ = some (.string (n.av k2)) := by
              rcases HN.out.ha with e | ⟨b, off, e, hbs, hc⟩
              · omega
              · exact ⟨b, off, e, by rw [H0.out.cell (p := ⟨b, off + k2 * 2, none⟩) hbs]; exact (hc k2 hlt2).1, by rw [H0.out.cell (p := ⟨b, off + k2 * 2 + 1, none⟩) hbs]; exact (hc k2 hlt2).2⟩
            have e4 := H4.out
            rw [haa] at e4
            clear haa c4
            have CN := Lib.hid (refName_any (n.an k2) (HN.out.san k2 hlt2) wb)
            have CT := Lib.hid (refText_any (n.av k2) (HN.out.sav k2 hlt2) wb)
            cases hq : nameB (n.an k2) with
            | false =>
              have HQ := Lib.hid hq
              clear hq
              go_wp2_with fail
              refine CN.out.mono ?_
              rintro e w' ⟨rfl, rfl⟩
              rw [HQ.out]
              go_wp2_with fail
              go_round
              case rel => exact ⟨k2 + 1, false, rfl, by go_num, by omega, by rw [range_next, ← Bool.and_assoc, ← HV2.out, HQ.out]; simp [Hid]⟩
              case measure => simp [intOf]; omega
            | true =>
              have HQ := Lib.hid hq
              clear hq
              go_wp2_with fail
              refine CN.out.mono ?_
              rintro e w' ⟨rfl, rfl⟩
              rw [HQ.out]
              go_wp2_with fail
              refine CT.out.mono ?_
              rintro e w' ⟨rfl, rfl⟩
              go_wp2_with fail
              go_round
              case rel => exact ⟨k2 + 1, textB (n.av k2), rfl, by go_num, by omega, by rw [range_next, ← Bool.and_assoc, ← HV2.out, HQ.out, HF2.out]; simp [Hid]⟩
              case measure => simp [intOf]; omega
        · have hke2 : k2 = n.al := by omega
          have h2e : v2 = (v && (List.range n.al).all (fun i => nameB (n.an i) && textB (n.av i))) := by rw [← hke2]; exact HV2.out
          have hfin : rightB n = v2 := by rw [HR.out, fin_yes v0 v _ _ HV1.out h2e]
          clear h2e
          have hltz2 : ¬ (k2 : Int) < (n.al : Int) := by omega
          have HFIN := Lib.hid hfin
          clear hke2 hfin
          go_wp2_with fail
          go_ret
          exact ⟨ret_bool HFIN.out.symm, H0.out⟩

set_option maxRecDepth 100000 in
set_option maxHeartbeats 4000000 in
theorem refRight_yb (n : Nd) (w : World) (hn : NdIn w n) (ht : emB n.tag = false) (hg : nameB n.tag = true) (he : emB n.id = false) (hi : nameB n.id = true) (hx : emB n.tx = true) (hc8 : n.cl ≤ 8) (ha8 : n.al ≤ 8) (hr : rightB n = (true && ((List.range n.cl).all (fun i => nameB (n.cs i)) && (List.range n.al).all (fun i => nameB (n.an i) && textB (n.av i))))) : Calls Try.prog 33 #[.agg n.val] w fun e w' => e = .returned (.bool (rightB n)) ∧ Below w.heap.size w w' := by
  have HN := Lib.hid hn
  have hcl := hn.scl
  have hal := hn.sal
  unfold maxLen at hcl hal
  rw [Nd.val_eq]
  clear hn
  obtain ⟨v0, hv0⟩ : ∃ v0 : Bool, v0 = true := ⟨_, rfl⟩
  rw [← hv0] at hr
  have HV0 := Lib.hid hv0
  have HR := Lib.hid hr
  clear hv0 hr
  have HG := Lib.hid hg
  have HI := Lib.hid hi
  clear hi
  clear hg
  unfold emB at ht he hx
  have z1 : (n.cl : Int) ≤ 8 := by omega
  have z2 : (n.al : Int) ≤ 8 := by omega
  have hbx : (w.alloc (.cells #[.int .i64 n.par, .string n.tag, .string n.id, .slice n.ca n.cl n.cc, .slice n.aa n.al n.ac, .string n.tx] 39)) = boxed w n := rfl
  obtain ⟨c0, c1, c2, c3, c4, c5⟩ := boxed_box w n
  have H0 := Lib.hid (boxed_below w n)
  go_enter Try.func33, Try.ntmps33
  go_wp2_with (go_at_call 11; first | (with_reducible refine (refName_any n.tag HN.out.stag _).mono ?_; rintro e w' ⟨rfl, rfl⟩; rw [HG.out]) | (with_reducible refine (refName_any n.id HN.out.sid _).mono ?_; rintro e w' ⟨rfl, rfl⟩; rw [HI.out]))
  clear hbx c0 c1 c2 c5
  have H3 := Lib.hid c3
  have H4 := Lib.hid c4
  generalize boxed w n = wb at H0 H3 H4 c3 c4 ⊢
  go_loop [3, 4] (fun o u => ∃ (k : Nat) (v : Bool), o = .bool v ∧ u = .int .i64 k ∧ k ≤ n.cl ∧ Hid (v = (v0 && (List.range k).all (fun i => nameB (n.cs i))))) (fun _ u => n.cl - (intOf u).toNat)
  case atStart => exact ⟨0, v0, by rw [HV0.out], rfl, by omega, by simp [Hid]⟩
  case round =>
    obtain ⟨k, v, rfl, rfl, hk, HV⟩ := hrel
    by_cases hlt : k < n.cl
    · have hltz : (k : Int) < (n.cl : Int) := by omega
      cases hv : v with
      | true =>
        have HF := Lib.hid hv
        clear hv
        obtain ⟨b, off, hca, d0⟩ : ∃ b off, n.ca = some ⟨b, off, none⟩ ∧ wb.cell? ⟨b, off + k, none⟩ = some (.string (n.cs k)) := by
          rcases HN.out.hc with e | ⟨b, off, e, hbs, hc⟩
          · omega
          · exact ⟨b, off, e, by rw [H0.out.cell (p := ⟨b, off + k, none⟩) hbs]; exact hc k hlt⟩
        have e3 := H3.out
        rw [hca] at e3
        clear hca c3
        have CN := Lib.hid (refName_any (n.cs k) (HN.out.scs k hlt) wb)
        go_wp2_with fail
        refine CN.out.mono ?_
        rintro e w' ⟨rfl, rfl⟩
        go_wp2_with fail
        go_round
        case rel => exact ⟨k + 1, nameB (n.cs k), rfl, by go_num, by omega, by rw [range_next, ← Bool.and_assoc, ← HV.out, HF.out]; simp [Hid]⟩
        case measure => simp [intOf]; omega
      | false =>
        have HV1 : Hid (false = (v0 && (List.range n.cl).all (fun i => nameB (n.cs i)))) := (all_cut v0 _ hk (by rw [← HV.out, hv])).symm
        clear hv HV
        go_wp2_with fail
        go_loop [3, 5] (fun o u => ∃ (k2 : Nat) (v2 : Bool), o = .bool v2 ∧ u = .int .i64 k2 ∧ k2 ≤ n.al ∧ Hid (v2 = (false && (List.range k2).all (fun i => nameB (n.an i) && textB (n.av i))))) (fun _ u => n.al - (intOf u).toNat)
        case atStart => exact ⟨0, false, rfl, rfl, by omega, by simp [Hid]⟩
        case round =>
          obtain ⟨k2, v2, rfl, rfl, hk2, HV2⟩ := hrel
          by_cases hlt2 : k2 < n.al
          · have hltz2 : (k2 : Int) < (n.al : Int) := by omega
            cases hv2 : v2 with
            | false =>
              have HF2 := Lib.hid hv2
              clear hv2
              go_wp2_with fail
              go_ret
              refine ⟨ret_bool ?_, H0.out⟩
              have e1 := HV2.out
              rw [HF2.out] at e1
              rw [HR.out, fin_no v0 false _ _ HV1.out (Or.inr ⟨hk2, e1.symm⟩)]
            | true =>
              have HF2 := Lib.hid hv2
              clear hv2
              obtain ⟨b, off, haa, d0, d1⟩ : ∃ b off, n.aa = some ⟨b, off, none⟩ ∧ wb.cell? ⟨b, off + k2 * 2, none⟩ = some (.string (n.an k2)) ∧ wb.cell? ⟨b, off + k2 * 2 + 1, none⟩ = some (.string (n.av k2)) := by
                rcases HN.out.ha with e | ⟨b, off, e, hbs, hc⟩
                · omega
                · exact ⟨b, off, e, by rw [H0.out.cell (p := ⟨b, off + k2 * 2, none⟩) hbs]; exact (hc k2 hlt2).1, by rw [H0.out.cell (p := ⟨b, off + k2 * 2 + 1, none⟩) hbs]; exact (hc k2 hlt2).2⟩
              have e4 := H4.out
              rw [haa] at e4
              clear haa c4
              have CN := Lib.hid (refName_any (n.an k2) (HN.out.san k2 hlt2) wb)
              have CT := Lib.hid (refText_any (n.av k2) (HN.out.sav k2 hlt2) wb)
              cases hq : nameB (n.an k2) with
              | false =>
                have HQ := Lib.hid hq
                clear hq
                go_wp2_with fail
                refine CN.out.mono ?_
                rintro e w' ⟨rfl, rfl⟩
                rw [HQ.out]
                go_wp2_with fail
                go_round
                case rel => exact ⟨k2 + 1, false, rfl, by go_num, by omega, by rw [range_next, ← Bool.and_assoc, ← HV2.out, HQ.out]; simp [Hid]⟩
                case measure => simp [intOf]; omega
              | true =>
                have HQ := Lib.hid hq
                clear hq
                go_wp2_with fail
                refine CN.out.mono ?_
                rintro e w' ⟨rfl, rfl⟩
                rw [HQ.out]
                go_wp2_with fail
                refine CT.out.mono ?_
                rintro e w' ⟨rfl, rfl⟩
                go_wp2_with fail
                go_round
                case rel => exact ⟨k2 + 1, textB (n.av k2), rfl, by go_num, by omega, by rw [range_next, ← Bool.and_assoc, ← HV2.out, HQ.out, HF2.out]; simp [Hid]⟩
                case measure => simp [intOf]; omega
          · have hke2 : k2 = n.al := by omega
            have h2e : v2 = (false && (List.range n.al).all (fun i => nameB (n.an i) && textB (n.av i))) := by rw [← hke2]; exact HV2.out
            have hfin : rightB n = v2 := by rw [HR.out, fin_yes v0 false _ _ HV1.out h2e]
            clear h2e
            have hltz2 : ¬ (k2 : Int) < (n.al : Int) := by omega
            have HFIN := Lib.hid hfin
            clear hke2 hfin
            go_wp2_with fail
            go_ret
            exact ⟨ret_bool HFIN.out.symm, H0.out⟩
    · have hke : k = n.cl := by omega
      have hltz : ¬ (k : Int) < (n.cl : Int) := by omega
      have HV1 : Hid (v = (v0 && (List.range n.cl).all (fun i => nameB (n.cs i)))) := by rw [← hke]; exact HV
      clear hke HV
      go_wp2_with fail
      go_loop [3, 5] (fun o u => ∃ (k2 : Nat) (v2 : Bool), o = .bool v2 ∧ u = .int .i64 k2 ∧ k2 ≤ n.al ∧ Hid (v2 = (v && (List.range k2).all (fun i => nameB (n.an i) && textB (n.av i))))) (fun _ u => n.al - (intOf u).toNat)
      case atStart => exact ⟨0, v, rfl, rfl, by omega, by simp [Hid]⟩
      case round =>
        obtain ⟨k2, v2, rfl, rfl, hk2, HV2⟩ := hrel
        by_cases hlt2 : k2 < n.al
        · have hltz2 : (k2 : Int) < (n.al : Int) := by omega
          cases hv2 : v2 with
          | false =>
            have HF2 := Lib.hid hv2
            clear hv2
            go_wp2_with fail
            go_ret
            refine ⟨ret_bool ?_, H0.out⟩
            have e1 := HV2.out
            rw [HF2.out] at e1
            rw [HR.out, fin_no v0 v _ _ HV1.out (Or.inr ⟨hk2, e1.symm⟩)]
          | true =>
            have HF2 := Lib.hid hv2
            clear hv2
            obtain ⟨b, off, haa, d0, d1⟩ : ∃ b off, n.aa = some ⟨b, off, none⟩ ∧ wb.cell? ⟨b, off + k2 * 2, none⟩ = some (.string (n.an k2)) ∧ wb.cell? ⟨b, off + k2 * 2 + 1, none⟩ = some (.string (n.av k2)) := by
              rcases HN.out.ha with e | ⟨b, off, e, hbs, hc⟩
              · omega
              · exact ⟨b, off, e, by rw [H0.out.cell (p := ⟨b, off + k2 * 2, none⟩) hbs]; exact (hc k2 hlt2).1, by rw [H0.out.cell (p := ⟨b, off + k2 * 2 + 1, none⟩) hbs]; exact (hc k2 hlt2).2⟩
            have e4 := H4.out
            rw [haa] at e4
            clear haa c4
            have CN := Lib.hid (refName_any (n.an k2) (HN.out.san k2 hlt2) wb)
            have CT := Lib.hid (refText_any (n.av k2) (HN.out.sav k2 hlt2) wb)
            cases hq : nameB (n.an k2) with
            | false =>
              have HQ := Lib.hid hq
              clear hq
              go_wp2_with fail
              refine CN.out.mono ?_
              rintro e w' ⟨rfl, rfl⟩
              rw [HQ.out]
              go_wp2_with fail
              go_round
              case rel => exact ⟨k2 + 1, false, rfl, by go_num, by omega, by rw [range_next, ← Bool.and_assoc, ← HV2.out, HQ.out]; simp [Hid]⟩
              case measure => simp [intOf]; omega
            | true =>
              have HQ := Lib.hid hq
              clear hq
              go_wp2_with fail
              refine CN.out.mono ?_
              rintro e w' ⟨rfl, rfl⟩
              rw [HQ.out]
              go_wp2_with fail
              refine CT.out.mono ?_
              rintro e w' ⟨rfl, rfl⟩
              go_wp2_with fail
              go_round
              case rel => exact ⟨k2 + 1, textB (n.av k2), rfl, by go_num, by omega, by rw [range_next, ← Bool.and_assoc, ← HV2.out, HQ.out, HF2.out]; simp [Hid]⟩
              case measure => simp [intOf]; omega
        · have hke2 : k2 = n.al := by omega
          have h2e : v2 = (v && (List.range n.al).all (fun i => nameB (n.an i) && textB (n.av i))) := by rw [← hke2]; exact HV2.out
          have hfin : rightB n = v2 := by rw [HR.out, fin_yes v0 v _ _ HV1.out h2e]
          clear h2e
          have hltz2 : ¬ (k2 : Int) < (n.al : Int) := by omega
          have HFIN := Lib.hid hfin
          clear hke2 hfin
          go_wp2_with fail
          go_ret
          exact ⟨ret_bool HFIN.out.symm, H0.out⟩

set_option maxRecDepth 100000 in
theorem refRight_any (n : Nd) (w : World) (hn : NdIn w n) : Calls Try.prog 33 #[.agg n.val] w fun e w' => e = .returned (.bool (rightB n)) ∧ Below w.heap.size w w' := by
  cases ht : emB n.tag with
  | true =>
    rw [rightB_w n ht]
    cases hi : emB n.id with
    | false => rw [Bool.false_and, Bool.and_false]; exact refRight_w1 n w hn ht hi
    | true =>
      by_cases hc : n.cl = 0
      · by_cases ha : n.al = 0
        · rw [decide_eq_true hc, decide_eq_true ha, Bool.and_self, Bool.and_self, Bool.and_true]; exact refRight_w4 n w hn ht hi hc ha
        · rw [decide_eq_false ha, Bool.and_false, Bool.and_false, Bool.and_false]; exact refRight_w3 n w hn ht hi hc ha
      · rw [decide_eq_false hc, Bool.false_and, Bool.and_false, Bool.and_false]; exact refRight_w2 n w hn ht hi hc
  | false =>
    have hr := rightB_e n ht
    unfold mkB at hr
    cases hg : nameB n.tag with
    | false => exact refRight_e1 n w hn ht hg (by rw [hr, hg]; rfl)
    | true =>
      cases he : emB n.id with
      | true =>
        cases hx : emB n.tx with
        | false => exact refRight_xa n w hn ht hg he hx (by rw [hr, hx]; simp)
        | true =>
          by_cases hc8 : n.cl ≤ 8
          · by_cases ha8 : n.al ≤ 8
            · exact refRight_ya n w hn ht hg he hx hc8 ha8 (by rw [hr, hg, he, hx, decide_eq_true hc8, decide_eq_true ha8]; simp)
            · exact refRight_da n w hn ht hg he hx hc8 ha8 (by rw [hr, decide_eq_false ha8]; simp)
          · exact refRight_ca n w hn ht hg he hx hc8 (by rw [hr, decide_eq_false hc8]; simp)
      | false =>
        cases hi : nameB n.id with
        | false => exact refRight_e2 n w hn ht hg he hi (by rw [hr, he, hi]; simp)
        | true =>
          cases hx : emB n.tx with
          | false => exact refRight_xb n w hn ht hg he hi hx (by rw [hr, hx]; simp)
          | true =>
            by_cases hc8 : n.cl ≤ 8
            · by_cases ha8 : n.al ≤ 8
              · exact refRight_yb n w hn ht hg he hi hx hc8 ha8 (by rw [hr, hg, hi, hx, decide_eq_true hc8, decide_eq_true ha8]; simp)
              · exact refRight_db n w hn ht hg he hi hx hc8 ha8 (by rw [hr, decide_eq_false ha8]; simp)
            · exact refRight_cb n w hn ht hg he hi hx hc8 (by rw [hr, decide_eq_false hc8]; simp)
end Go.Proofs.Ytlnglpjmfoigmaa
