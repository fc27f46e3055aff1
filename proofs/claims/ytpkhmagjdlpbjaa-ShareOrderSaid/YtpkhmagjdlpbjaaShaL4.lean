/- The walk of a law of layer 2: each share is what the division says, or one more. -/
import Derived.Test.YtpkhmagjdlpbjaaShaL3
namespace Go.Proofs.Ytpkhmagjdlpbjaa
open Go.RowKit FixM ShaD ShaM Go.Sort

theorem Lst_of2 {w : World} {a : Option Addr} {len cap : Nat} {zs : List Int}
    (h : (a = none ∧ len = 0 ∧ cap = 0 ∧ zs = []) ∨ ∃ x, a = some x ∧ len ≤ cap ∧ cap ≤ maxLen ∧ zs.length = cap ∧ (∀ i, i < zs.length → w.cell? (x.add i) = some (.int .i64 (zs.getD i 0))) ∧ ∀ n ∈ zs, (Lit.int .i64 n).wf = true) :
    ∃ ws : List Int, ws.length = len ∧ ws.length ≤ maxLen ∧ Lst w a ws := by
  obtain ⟨ws, h1, h2⟩ := Lst_of h
  refine ⟨ws, h1, ?_, h2⟩
  rcases h with ⟨_, h, _⟩ | ⟨_, _, h3, h4, _⟩ <;> omega

/-- known, called with nothing else done -/
theorem Lst_below {w w1 : World} {a : Option Addr} {ws : List Int} (hL : Lst w a ws) (hb : Below w.heap.size w w1) : Lst w1 a ws := by
  rcases hL with rfl | ⟨b, off, rfl, hbs, hc⟩
  · exact Or.inl rfl
  · exact Or.inr ⟨b, off, rfl, by have := hb.size; omega, fun i hi => by rw [hb.cell (p := ⟨b, off + i, none⟩) hbs]; exact hc i hi⟩

set_option maxHeartbeats 2000000 in
theorem ShareNear_walk (t : Int) (a : Option Addr) (cap : Nat) (ws : List Int) (w : World) (hmax : ws.length ≤ maxLen) (hL : Lst w a ws) :
    Calls Try.prog 12 #[.int .i64 t, .slice a ws.length cap] w fun e w' => e = .returned (.bool true) ∧ Below w.heap.size w w' := by
  obtain ⟨v, hv⟩ : ∃ v, H t = v := ⟨_, rfl⟩
  have hvb := H_bd t
  rw [hv] at hvb
  have v0 : -1073741824 ≤ v := hvb.1
  have v1 : v ≤ 1073741824 := hvb.2
  have HV := Lib.hid hv
  by_cases hfew : ws.length ≤ 300
  · have F := Lib.hid (few_yes a ws.length cap w hfew)
    have WW := Lib.hid (refWeights_any a cap ws w (by omega) hL)
    have D1 := Lib.hid (Deal_told t a cap ws w (by omega) hL)
    rw [hv] at D1
    obtain ⟨A, hA⟩ : ∃ A, wsum ws = A := ⟨_, rfl⟩
    have hA1 := wsum_bd ws
    rw [hA] at WW hA1
    have A0 : 0 ≤ A := hA1.1
    have A1 : A ≤ 1073741824000 := by omega
    by_cases hstop : v < 0 ∨ A = 0
    · clear hL hv hvb hA1 D1
      have hA' := Lib.hid hA
      clear hA
      obtain ⟨n, hn⟩ : ∃ n, ws.length = n := ⟨_, rfl⟩
      rw [hn] at F WW ⊢
      clear hn
      go_enter Try.func12, Try.ntmps12
      go_wp2_with fail
      refine (refHold_any _ _).mono ?_
      rintro e w' ⟨rfl, rfl⟩
      rw [HV.out]
      go_wp2_with fail
      refine WW.out.mono ?_
      rintro e w' ⟨rfl, rfl⟩
      by_cases hneg : v < 0
      · go_wp2_with fail
        refine F.out.mono ?_
        rintro e w' ⟨rfl, rfl⟩
        go_wp2_with fail
        refine (known2_any _).mono ?_
        rintro e w4 ⟨rfl, hb4⟩
        have HFIN := Lib.hid hb4
        clear hb4
        go_wp2_with fail
        go_ret
        exact ⟨rfl, HFIN.out⟩
      · have hz : A = 0 := by omega
        subst hz
        go_wp2_with fail
        refine F.out.mono ?_
        rintro e w' ⟨rfl, rfl⟩
        go_wp2_with fail
        refine (known2_any _).mono ?_
        rintro e w4 ⟨rfl, hb4⟩
        have HFIN := Lib.hid hb4
        clear hb4
        go_wp2_with fail
        go_ret
        exact ⟨rfl, HFIN.out⟩
    · have v0' : 0 ≤ v := by omega
      have hp : 0 < A := by omega
      have bA : (A == 0) = false := by simp; omega
      have hnear : ∀ k, 0 ≤ v * WT (ws.getD k 0) ∧ v * WT (ws.getD k 0) ≤ 1152921504606846976 ∧ 0 ≤ v * WT (ws.getD k 0) / A ∧ v * WT (ws.getD k 0) / A ≤ 1073741824 ∧ (shareS v ws k = v * WT (ws.getD k 0) / A ∨ shareS v ws k = v * WT (ws.getD k 0) / A + 1) := fun k => by
        have h1 := prod_nonneg v0' v1 (ws.getD k 0)
        have h2 := qs_bd v0' ws hA.symm hp k
        have h3 : qs v A ws k = v * WT (ws.getD k 0) / A := rfl
        refine ⟨h1.1, h1.2, by omega, by omega, ?_⟩
        unfold shareS share0
        rw [if_neg (by omega), hA, if_neg (by omega), h3]
        split
        · exact Or.inr rfl
        · exact Or.inl (by omega)
      have hcell : ∀ w1, Below w.heap.size w w1 → ∀ k, k < ws.length → ∃ b off, a = some ⟨b, off, none⟩ ∧ w1.cell? ⟨b, off + k, none⟩ = some (.int .i64 (ws.getD k 0)) := fun w1 hb k hk => by
        rcases hL with h | ⟨b, off, h1, h3, h2⟩
        · rw [h] at hk; simp at hk
        · exact ⟨b, off, h1, by rw [hb.cell (p := ⟨b, off + k, none⟩) h3]; exact h2 k hk⟩
      have NEAR := Lib.hid hnear
      have CELL := Lib.hid hcell
      clear hL hv hvb hA1 hA hnear hcell
      obtain ⟨n, hn⟩ : ∃ n, ws.length = n := ⟨_, rfl⟩
      rw [hn] at F WW D1 CELL hfew ⊢
      clear hn
      go_enter Try.func12, Try.ntmps12
      go_wp2_with fail
      refine (refHold_any _ _).mono ?_
      rintro e w' ⟨rfl, rfl⟩
      rw [HV.out]
      go_wp2_with fail
      refine WW.out.mono ?_
      rintro e w' ⟨rfl, rfl⟩
      go_wp2_with fail
      refine F.out.mono ?_
      rintro e w' ⟨rfl, rfl⟩
      go_wp2_with fail
      refine D1.out.mono ?_
      rintro e w1 ⟨rfl, hb1, hr1⟩
      obtain ⟨S1, hS1⟩ : ∃ S, S = w.heap.size := ⟨_, rfl⟩
      rw [← hS1] at hb1 hr1 CELL ⊢
      have CC := Lib.hid (CELL.out w1 hb1)
      have HB1 := Lib.hid hb1
      have HR1 := Lib.hid hr1
      have HS1 := Lib.hid hS1
      clear hb1 hr1 hS1 D1 CELL
      go_wp2_with fail
      go_loop [8, 9] (fun vi _ => ∃ k : Nat, vi = .int .i64 k ∧ k ≤ n) (fun vi _ => n - (intOf vi).toNat)
      case atStart => exact ⟨0, rfl, by omega⟩
      case round =>
        obtain ⟨k, rfl, hk⟩ := hrel
        by_cases hlt : k < n
        · have hltz : (k : Int) < (n : Int) := by omega
          obtain ⟨b, off, rfl, c1⟩ := CC.out k hlt
          have c2 := (HR1.out k hlt).1
          have hb := NEAR.out k
          obtain ⟨x, hx⟩ : ∃ x, ws.getD k 0 = x := ⟨_, rfl⟩
          rw [hx] at c1 hb
          obtain ⟨y, hy⟩ : ∃ y, WT x = y := ⟨_, rfl⟩
          have hyb := WT_bd x
          rw [hy] at hb hyb
          have y0 : 0 ≤ y := hyb.1
          have y1 : y ≤ 1073741824 := hyb.2
          obtain ⟨P, hP⟩ : ∃ P, v * y = P := ⟨_, rfl⟩
          rw [hP] at hb
          obtain ⟨P0, P1, g0, g1, hsh⟩ := hb
          have HY := Lib.hid hy
          clear hx hy hyb
          rcases hsh with hsh | hsh
          · rw [hsh] at c2
            clear hsh
            go_wp2_with fail
            refine (refWeight_any _ _).mono ?_
            rintro e w' ⟨rfl, rfl⟩
            rw [HY.out]
            go_wp2_with fail
            go_round
            case rel => exact ⟨k + 1, by go_num, by omega⟩
            case measure => simp [intOf]; omega
          · rw [hsh] at c2
            clear hsh
            go_wp2_with fail
            refine (refWeight_any _ _).mono ?_
            rintro e w' ⟨rfl, rfl⟩
            rw [HY.out]
            go_wp2_with fail
            go_round
            case rel => exact ⟨k + 1, by go_num, by omega⟩
            case measure => simp [intOf]; omega
        · go_wp2_with fail
          refine (known2_any _).mono ?_
          rintro e w4 ⟨rfl, hb4⟩
          have hfin : Below S1 w w4 := HB1.out.trans (hb4.mono (by have := HB1.out.size; have := HS1.out; omega))
          have HFIN := Lib.hid hfin
          clear hfin hb4
          go_wp2_with fail
          go_ret
          have := HS1.out
          rw [← this]
          exact ⟨rfl, HFIN.out⟩
  · have F := Lib.hid (few_no a ws.length cap w hfew)
    have WW := Lib.hid (refWeights_wide a cap ws w hmax hL)
    clear hL hv hvb
    obtain ⟨n, hn⟩ : ∃ n, ws.length = n := ⟨_, rfl⟩
    rw [hn] at F WW ⊢
    clear hn hfew hmax
    go_enter Try.func12, Try.ntmps12
    go_wp2_with fail
    refine (refHold_any _ _).mono ?_
    rintro e w' ⟨rfl, rfl⟩
    rw [HV.out]
    go_wp2_with fail
    refine WW.out.mono ?_
    rintro e w' ⟨⟨u, rfl⟩, rfl⟩
    go_wp2_with fail
    refine F.out.mono ?_
    rintro e w' ⟨rfl, rfl⟩
    go_wp2_with fail
    refine (known2_any _).mono ?_
    rintro e w4 ⟨rfl, hb4⟩
    have HFIN := Lib.hid hb4
    clear hb4
    go_wp2_with fail
    go_ret
    exact ⟨rfl, HFIN.out⟩
end Go.Proofs.Ytpkhmagjdlpbjaa
