/- The walk of a law of layer 2: a total below 0 is dealt as its opposite. -/
import Derived.Test.YtpkhmagjdlpbjaaShaL1
namespace Go.Proofs.Ytpkhmagjdlpbjaa
open Go.RowKit FixM ShaD ShaM Go.Sort

set_option maxHeartbeats 1000000 in
theorem ShareTurned_walk (t : Int) (a : Option Addr) (cap : Nat) (ws : List Int) (w : World) (hL : Lst w a ws) :
    Calls Try.prog 14 #[.int .i64 t, .slice a ws.length cap] w fun e w' => e = .returned (.bool true) ∧ Below w.heap.size w w' := by
  by_cases hfew : ws.length ≤ 300
  · have F := Lib.hid (few_yes a ws.length cap w hfew)
    obtain ⟨v, hv⟩ : ∃ v, H t = v := ⟨_, rfl⟩
    have hvb := H_bd t
    rw [hv] at hvb
    have v0 : -1073741824 ≤ v := hvb.1
    have v1 : v ≤ 1073741824 := hvb.2
    have HV := Lib.hid hv
    have D1 := Lib.hid (Deal_told v a cap ws w (by omega) hL)
    have D2 : ∀ w1, Below w.heap.size w w1 → Calls Try.prog 32 #[.int .i64 (-v), .slice a ws.length cap] w1 fun e w' =>
      e = .returned (.slice (some ⟨w1.heap.size, 0, none⟩) ws.length ws.length) ∧ Below w1.heap.size w1 w' ∧ Row w' w1.heap.size ws.length (shareS (H (-v)) ws) := fun w1 hb => by
        refine Deal_told (-v) a cap ws w1 (by omega) ?_
        rcases hL with rfl | ⟨b, off, rfl, hbs, hc⟩
        · exact Or.inl rfl
        · exact Or.inr ⟨b, off, rfl, by have := hb.size; omega, fun i hi => by rw [hb.cell (p := ⟨b, off + i, none⟩) hbs]; exact hc i hi⟩
    have D2 := Lib.hid D2
    have hne : ∀ i, shareS (H v) ws i = -(shareS (H (-v)) ws i) := fun i => by rw [H_neg, shareS_neg, Int.neg_neg]
    have hbd : ∀ i, -1073741825 ≤ shareS (H (-v)) ws i ∧ shareS (H (-v)) ws i ≤ 1073741825 := fun i => shareS_bd _ _ _
    have NE := Lib.hid hne
    have BD := Lib.hid hbd
    have FEW := Lib.hid hfew
    clear hL hv hvb hne hbd
    obtain ⟨f, hf⟩ : ∃ f, shareS (H v) ws = f := ⟨_, rfl⟩
    obtain ⟨g, hg⟩ : ∃ g, shareS (H (-v)) ws = g := ⟨_, rfl⟩
    rw [hf] at D1 NE
    rw [hg] at D2 NE BD
    clear hf hg
    obtain ⟨n, hn⟩ : ∃ n, ws.length = n := ⟨_, rfl⟩
    rw [hn] at F D1 D2 FEW hfew ⊢
    clear hn
    go_enter Try.func14, Try.ntmps14
    go_wp2_with fail
    refine F.out.mono ?_
    rintro e w' ⟨rfl, rfl⟩
    go_wp2_with fail
    refine (refHold_any _ _).mono ?_
    rintro e w' ⟨rfl, rfl⟩
    rw [HV.out]
    go_wp2_with fail
    refine D1.out.mono ?_
    rintro e w1 ⟨rfl, hb1, hr1⟩
    have DD := Lib.hid (D2.out w1 hb1)
    obtain ⟨S1, hS1⟩ : ∃ S, S = w.heap.size := ⟨_, rfl⟩
    obtain ⟨S2, hS2⟩ : ∃ S, S = w1.heap.size := ⟨_, rfl⟩
    rw [← hS1] at hb1 hr1 ⊢
    rw [← hS2] at DD
    have HB1 := Lib.hid hb1
    have HR1 := Lib.hid hr1
    have HS1 := Lib.hid hS1
    have HS2 := Lib.hid hS2
    clear hb1 hr1 hS1 hS2 D1 D2
    go_wp2_with fail
    refine DD.out.mono ?_
    rintro e w2 ⟨rfl, hb2, hr2⟩
    have hr1' : Row w2 S1 n f := by
      by_cases c : 0 < n
      · exact HR1.out.below hb2 (by have := Row_lt HR1.out c; have := HS2.out; omega)
      · intro i hi; omega
    have hbb : Below S1 w w2 := HB1.out.trans (hb2.mono (by have := HB1.out.size; have := HS2.out; have := HS1.out; omega))
    have HR1' := Lib.hid hr1'
    have HR2 := Lib.hid hr2
    have HBB := Lib.hid hbb
    clear hb2 hr2 hr1' hbb HB1 HR1 DD
    go_wp2_with fail
    go_loopw [8] (fun vi wr => ∃ k q : Nat, vi = .int .i64 k ∧ k ≤ n ∧ wr = w2.drewN q) (fun vi _ => n - (intOf vi).toNat)
    case atStart => exact ⟨0, 0, rfl, by omega, rfl⟩
    case round =>
      obtain ⟨k, q, rfl, hk, rfl⟩ := hrel
      by_cases hlt : k < n
      · have hltz : (k : Int) < (n : Int) := by omega
        have c1 := (HR1'.out k hlt).1
        have c2 := (HR2.out k hlt).1
        have hb := BD.out k
        rw [NE.out k] at c1
        obtain ⟨x, hx⟩ : ∃ x, g k = x := ⟨_, rfl⟩
        rw [hx] at c1 c2 hb
        have x0 : -1073741825 ≤ x := hb.1
        have x1 : x ≤ 1073741825 := hb.2
        have c1' : (w2.drewN q).cell? ⟨S1, k, none⟩ = some (.int .i64 (-x)) := c1
        have c2' : (w2.drewN q).cell? ⟨S2, k, none⟩ = some (.int .i64 x) := c2
        clear c1 c2 hb hx
        generalize hwq : w2.drewN q = wq at c1' c2' ⊢
        have HW := Lib.hid hwq
        clear hwq
        go_wp2_with fail
        go_quiet (fail)
        go_wp2_with fail
        go_roundw
        case rel => exact ⟨k + 1, q + nq, by go_num, by omega, by rw [← HW.out, World.drewN_drewN]⟩
        case measure => simp [intOf]; omega
      · have hbq : Below S1 w (w2.drewN q) := below_drewN' HBB.out q
        generalize w2.drewN q = w3 at hbq ⊢
        have HBQ := Lib.hid hbq
        clear hbq
        go_wp2_with fail
        refine (known2_any _).mono ?_
        rintro e w4 ⟨rfl, hb4⟩
        have hfin : Below S1 w w4 := HBQ.out.trans (hb4.mono (by have := HBQ.out.size; have := HS1.out; omega))
        have HFIN := Lib.hid hfin
        clear hfin hb4
        go_wp2_with fail
        go_ret
        have := HS1.out
        rw [← this]
        exact ⟨rfl, HFIN.out⟩
  · have F := Lib.hid (few_no a ws.length cap w hfew)
    clear hL
    obtain ⟨n, hn⟩ : ∃ n, ws.length = n := ⟨_, rfl⟩
    rw [hn] at F ⊢
    clear hn hfew
    go_enter Try.func14, Try.ntmps14
    go_wp2_with fail
    refine F.out.mono ?_
    rintro e w' ⟨rfl, rfl⟩
    go_wp2_with fail
    refine (known2_any _).mono ?_
    rintro e w4 ⟨rfl, hb4⟩
    have HFIN := Lib.hid hb4
    clear hb4
    go_wp2_with fail
    go_ret
    exact ⟨rfl, HFIN.out⟩
end Go.Proofs.Ytpkhmagjdlpbjaa
