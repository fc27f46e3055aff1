/- Layer 21: each length lies between its item's ends. -/
import Derived.Test.YtlcncjfgalnfoaaFlxR1
import Derived.Test.YtlcncjfgalnfoaaFlxQb
namespace Go.Proofs.Ytlcncjfgalnfoaa
open Go.RowKit FixM ShaD ShaM Go.Sort
set_option linter.unusedVariables false

set_option maxRecDepth 100000 in
set_option maxHeartbeats 4000000 in
theorem FlexlineWithin_walk (a : Option Addr) (n cap : Nat) (L0 : Nat → It) (room : Int) (w : World) (hA : ItA w a n L0) :
    Calls Try.prog 5 #[.slice a n cap, .int .i64 room] w fun e w' => e = .returned (.bool true) ∧ Below w.heap.size w w' := by
  have F := Lib.hid (few21_any a n cap w)
  by_cases hn : n ≤ 60
  · have RC := Lib.hid (Resolve_any a n cap L0 (fun i => hI (L0 i)) room w (by omega) hA (fun _ => rfl))
    have hcl := fun i hi => resolveF_within (fun i => hI (L0 i)) (H room) n i hi
    obtain ⟨rn, hrn⟩ : ∃ rn, resolveF (fun i => hI (L0 i)) (H room) n = rn := ⟨_, rfl⟩
    rw [hrn] at RC
    rw [hrn] at hcl
    obtain ⟨ln, hln⟩ : ∃ ln, rn.1.len = ln := ⟨_, rfl⟩
    rw [hln] at RC hcl
    rw [decide_eq_true hn] at F
    have HCL := Lib.hid hcl
    have HA := Lib.hid hA
    clear hA hrn hln hcl
    go_enter Try.func5, Try.ntmps5
    go_wp2_with fail
    refine F.out.mono ?_
    rintro e w' ⟨rfl, rfl⟩
    go_wp2_with fail
    refine RC.out.mono ?_
    rintro e w1 ⟨rfl, hb1, hr1⟩
    obtain ⟨S, hS⟩ : ∃ S, w.heap.size = S := ⟨_, rfl⟩
    rw [hS] at hr1 ⊢
    have HB1 := Lib.hid hb1
    have HR1 := Lib.hid hr1
    have HS := Lib.hid hS
    clear hb1 hr1 RC hS
    go_wp2_with fail
    go_loopw [7] (fun vi wr => ∃ k : Nat, vi = .int .i64 k ∧ k ≤ n ∧ Hid (Below w.heap.size w wr) ∧ Hid (Row wr S n ln)) (fun vi _ => n - (intOf vi).toNat)
    case atStart => exact ⟨0, rfl, by omega, HB1, HR1⟩
    case round =>
      clear HB1 HR1
      obtain ⟨k, rfl, hk, HB, HR⟩ := hrel
      by_cases hlt : k < n
      · have hltz : (k : Int) < (n : Int) := by omega
        have hSr : S < wr.heap.size := Row_lt HR.out (by omega)
        have c0 : wr.cell? ⟨S, k, none⟩ = some (.int .i64 (ln k)) := (HR.out k hlt).1
        have hcl := HCL.out k hlt
        have OF := Lib.hid (of21_any a n cap L0 wr.drew (by omega) ((HA.out.below HB.out).below (Below.drew (Below.refl _ _))))
        unfold OfIs at OF
        have HL := Lib.hid (fun W => refHeld21_any (L0 k) W)
        have CL := Lib.hid (fun W => refClamp21_any (hI (L0 k)) (ln k) W)
        rw [hcl] at CL
        have hbd : Below w.heap.size w wr.drew := HB.out.drew
        have HBD := Lib.hid hbd
        have HRD : Hid (Row wr.drew S n ln) := HR.out
        obtain ⟨x, hx⟩ : ∃ x, ln k = x := ⟨_, rfl⟩
        rw [hx] at c0 CL
        have HX := Lib.hid hx
        obtain ⟨t, ht⟩ : ∃ t, L0 k = t := ⟨_, rfl⟩
        rw [ht] at HL CL
        have HT := Lib.hid ht
        clear hcl hx hbd ht
        go_upto_region 9 with fail
        go_region_with (first
          | (go_at_call 13; refine OF.out.mono ?_; rintro e w5 ⟨ra, rc, rfl, hb5, hit⟩; obtain ⟨g, hra, hg0, hg1, hI⟩ := hit (by omega); subst hra; have S7 := hI k hlt; rw [Nat.zero_add, HT.out] at S7; obtain ⟨q0, q1, q2, q3, q4, q5, q6⟩ := S7; have c5 : w5.cell? ⟨S, k, none⟩ = some (.int .i64 x) := (hb5.cell (p := ⟨S, k, none⟩) hSr).trans c0; have hs5 := hb5.size; have hS5 : S < w5.heap.size := Nat.lt_of_lt_of_le hSr hs5; have HR5 := Lib.hid (HRD.out.below hb5 hSr); have HB5 := Lib.hid (HBD.out.trans (hb5.mono HBD.out.size)); clear hb5 hit hI hs5)
          | (go_at_call 16; refine (HL.out _).mono ?_; rintro e w6 ⟨rfl, hb6⟩; have c6 : w6.cell? ⟨S, k, none⟩ = some (.int .i64 x) := (hb6.cell (p := ⟨S, k, none⟩) hS5).trans c5; have hS6 : S < w6.heap.size := Nat.lt_of_lt_of_le hS5 hb6.size; have HR6 := Lib.hid (HR5.out.below hb6 hS5); have HB6 := Lib.hid (HB5.out.trans (hb6.mono HB5.out.size)); clear hb6)
          | (go_at_call 18; refine (CL.out _).mono ?_; rintro e w7 ⟨rfl, hb7⟩; have c7 : w7.cell? ⟨S, k, none⟩ = some (.int .i64 x) := (hb7.cell (p := ⟨S, k, none⟩) hS6).trans c6; have HR7 := Lib.hid (HR6.out.below hb7 hS6); have HB7 := Lib.hid (HB6.out.trans (hb7.mono HB6.out.size)); clear hb7))
        all_goals go_wp2_with fail
        all_goals go_roundw
        all_goals first
          | exact ⟨k + 1, by go_num, by omega, HB7, HR7⟩
          | (simp [intOf]; omega)
      · have hkz : (n : Int) ≤ (k : Int) := by omega
        go_wp2_with fail
        refine (known21_any wr).mono ?_
        rintro e w2 ⟨rfl, hb2⟩
        have HB2 := Lib.hid (HB.out.trans (hb2.mono HB.out.size))
        clear hb2
        go_wp2_with fail
        go_ret
        exact ⟨rfl, HB2.out⟩
  · rw [decide_eq_false hn] at F
    clear hA
    go_enter Try.func5, Try.ntmps5
    go_wp2_with fail
    refine F.out.mono ?_
    rintro e w' ⟨rfl, rfl⟩
    go_wp2_with fail
    refine (known21_any w).mono ?_
    rintro e w2 ⟨rfl, hb2⟩
    have HB2 := Lib.hid hb2
    clear hb2
    go_wp2_with fail
    go_ret
    exact ⟨rfl, HB2.out⟩
end Go.Proofs.Ytlcncjfgalnfoaa
