/- Layer 21: any line has the lengths, after as many rounds, that the other text says. -/
import Derived.Test.YtaegajlffiepoaaFlxR7
namespace Go.Proofs.Ytaegajlffiepoaa
open Go.RowKit FixM ShaD ShaM Go.Sort
set_option linter.unusedVariables false

set_option maxRecDepth 100000 in
set_option maxHeartbeats 4000000 in
theorem FlexlineResolves_walk (a : Option Addr) (n cap : Nat) (L0 : Nat → It) (room : Int) (w : World) (hA : ItA w a n L0) :
    Calls Try.prog 3 #[.slice a n cap, .int .i64 room] w fun e w' => e = .returned (.bool true) ∧ Below w.heap.size w w' := by
  have F := Lib.hid (few21_any a n cap w)
  by_cases hn : n ≤ 60
  · have RC := Lib.hid (Resolve_any a n cap L0 (fun i => hI (L0 i)) room w (by omega) hA (fun _ => rfl))
    have CR := Lib.hid (fun (ra : Option Addr) (rc : Nat) (W : World) (h : ItA W ra n L0) => refResolve21_any ra n rc L0 (fun i => hI (L0 i)) room W (by omega) h (fun _ => rfl))
    obtain ⟨ln, hln⟩ : ∃ ln, (resolveF (fun i => hI (L0 i)) (H room) n).1.len = ln := ⟨_, rfl⟩
    obtain ⟨rn, hrn⟩ : ∃ rn, (resolveF (fun i => hI (L0 i)) (H room) n).2 = rn := ⟨_, rfl⟩
    have hr := resolveF_rounds (fun i => hI (L0 i)) (H room) n
    rw [hln, hrn] at RC CR
    rw [hrn] at hr
    have hrz : (rn : Int) ≤ (n : Int) := by omega
    rw [decide_eq_true hn] at F
    have CO := Lib.hid (fun (W : World) (h : ItA W a n L0) => of21_any a n cap L0 W (by omega) h)
    have HA := Lib.hid hA
    clear hA hln hrn
    go_enter Try.func3, Try.ntmps3
    go_wp2_with fail
    refine F.out.mono ?_
    rintro e w' ⟨rfl, rfl⟩
    go_wp2_with fail
    refine RC.out.mono ?_
    rintro e w1 ⟨rfl, hb1, hr1⟩
    obtain ⟨S, hS⟩ : ∃ S, w.heap.size = S := ⟨_, rfl⟩
    rw [hS] at hr1 ⊢
    have HB1 := Lib.hid hb1
    have HR1 := Lib.hid hr1
    have HS := Lib.hid hS
    have OF := Lib.hid (CO.out w1 (HA.out.below hb1))
    unfold OfIs at OF
    clear hb1 hr1 RC hS
    go_wp2_with fail
    refine OF.out.mono ?_
    rintro e w2 ⟨ra, rc, rfl, hb2, hit⟩
    have CRR := Lib.hid (CR.out ra rc w2 (OfIs.ita hit))
    have HB2 := Lib.hid (HB1.out.trans (hb2.mono HB1.out.size))
    have h01 : 0 < n → S < w1.heap.size := fun hp => Row_lt HR1.out hp
    have HR2 : Hid (0 < n → Row w2 S n ln) := fun hp => HR1.out.below hb2 (h01 hp)
    clear hb2 hit OF h01
    go_wp2_with fail
    refine CRR.out.mono ?_
    rintro e w3 ⟨bo, hbo, rfl, hb3, hr3⟩
    have c4 := Ints_yes n S 0 n bo 0 n ln ln w3 (by omega)
      (fun i hi => by
        have hp : 0 < n := by omega
        have hR := HR2.out hp
        rw [Nat.zero_add, hb3.cell (p := ⟨S, i, none⟩) (Row_lt hR hp)]
        exact (hR i hi).1)
      (fun i hi => by rw [Nat.zero_add]; exact (hr3 i hi).1) (fun _ _ => rfl)
    have C4 := Lib.hid c4
    have HB3 := Lib.hid (HB2.out.trans (hb3.mono HB2.out.size))
    clear c4 hb3 hr3 CRR hbo
    go_wp2_with fail
    refine C4.out.mono ?_
    rintro e w4 ⟨rfl, q, rfl⟩
    have hbc := below_drewNS' HB3.out q
    generalize w3.drewN q = w4 at hbc ⊢
    have HBC := Lib.hid hbc
    clear hbc
    go_wp2_with fail
    refine (known21_any _).mono ?_
    rintro e w5 ⟨rfl, hb⟩
    have HBD := Lib.hid (HBC.out.trans (hb.mono HBC.out.size))
    clear hb
    go_wp2_with fail
    go_ret
    exact ⟨rfl, HBD.out⟩
  · rw [decide_eq_false hn] at F
    clear hA
    go_enter Try.func3, Try.ntmps3
    go_wp2_with fail
    refine F.out.mono ?_
    rintro e w' ⟨rfl, rfl⟩
    go_wp2_with fail
    refine (known21_any w).mono ?_
    rintro e w2 ⟨rfl, hb2⟩
    have HB2 := Lib.hid hb2
    clear hb2
    go_wp2_with fail
    go_ret
    exact ⟨rfl, HB2.out⟩
end Go.Proofs.Ytaegajlffiepoaa
