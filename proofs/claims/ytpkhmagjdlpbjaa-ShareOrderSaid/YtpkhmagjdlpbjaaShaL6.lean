/- The walk of a law of layer 2: who weighs more gets no less. -/
import Derived.Test.YtpkhmagjdlpbjaaShaL5
import Derived.Test.YtpkhmagjdlpbjaaShaD4
import Derived.Deep.RegionWith
namespace Go.Proofs.Ytpkhmagjdlpbjaa
open Go.RowKit FixM ShaD ShaM Go.Sort

theorem below_undrew {B q : Nat} {a w : World} (h : Below B (a.drewN q) w) : Below B a w := ⟨h.os, h.tape, h.output, h.size, h.block⟩
set_option maxHeartbeats 2000000 in
theorem ShareOrder_out (t : Int) (a : Option Addr) (cap n : Nat) (i j : Int) (w : World) (hn : n ≤ 300) (hout : t < 0 ∨ i < 0 ∨ (n : Int) ≤ i ∨ j < 0 ∨ (n : Int) ≤ j) :
    Calls Try.prog 13 #[.int .i64 t, .slice a n cap, .int .i64 i, .int .i64 j] w fun e w' => e = .returned (.bool true) ∧ Below w.heap.size w w' := by
  have F := Lib.hid (few_yes a n cap w hn)
  go_enter Try.func13, Try.ntmps13
  go_wp2_with fail
  refine F.out.mono ?_
  rintro e w' ⟨rfl, rfl⟩
  by_cases h1 : t < 0
  · go_wp2_with fail
    refine (known2_any _).mono ?_
    rintro e w4 ⟨rfl, hb4⟩
    have HFIN := Lib.hid hb4
    clear hb4
    go_wp2_with fail
    go_ret
    exact ⟨rfl, HFIN.out⟩
  by_cases h2 : i < 0
  · go_wp2_with fail
    refine (known2_any _).mono ?_
    rintro e w4 ⟨rfl, hb4⟩
    have HFIN := Lib.hid hb4
    clear hb4
    go_wp2_with fail
    go_ret
    exact ⟨rfl, HFIN.out⟩
  by_cases h3 : (n : Int) ≤ i
  · go_wp2_with fail
    refine (known2_any _).mono ?_
    rintro e w4 ⟨rfl, hb4⟩
    have HFIN := Lib.hid hb4
    clear hb4
    go_wp2_with fail
    go_ret
    exact ⟨rfl, HFIN.out⟩
  by_cases h4 : j < 0
  · go_wp2_with fail
    refine (known2_any _).mono ?_
    rintro e w4 ⟨rfl, hb4⟩
    have HFIN := Lib.hid hb4
    clear hb4
    go_wp2_with fail
    go_ret
    exact ⟨rfl, HFIN.out⟩
  have h5 : (n : Int) ≤ j := by omega
  go_wp2_with fail
  refine (known2_any _).mono ?_
  rintro e w4 ⟨rfl, hb4⟩
  have HFIN := Lib.hid hb4
  clear hb4
  go_wp2_with fail
  go_ret
  exact ⟨rfl, HFIN.out⟩

set_option maxHeartbeats 2000000 in
theorem ShareOrder_many (t : Int) (a : Option Addr) (cap n : Nat) (i j : Int) (w : World) (hn : ¬ n ≤ 300) :
    Calls Try.prog 13 #[.int .i64 t, .slice a n cap, .int .i64 i, .int .i64 j] w fun e w' => e = .returned (.bool true) ∧ Below w.heap.size w w' := by
  have F := Lib.hid (few_no a n cap w hn)
  clear hn
  go_enter Try.func13, Try.ntmps13
  go_wp2_with fail
  refine F.out.mono ?_
  rintro e w' ⟨rfl, rfl⟩
  go_wp2_with fail
  refine (known2_any _).mono ?_
  rintro e w4 ⟨rfl, hb4⟩
  have HFIN := Lib.hid hb4
  clear hb4
  go_wp2_with fail
  go_ret
  exact ⟨rfl, HFIN.out⟩

set_option maxHeartbeats 2000000 in
theorem ShareOrder_in (t : Int) (a : Option Addr) (cap : Nat) (ws : List Int) (p q : Nat) (w : World) (hL : Lst w a ws) (hfew : ws.length ≤ 300) (ht : 0 ≤ t) (hp : p < ws.length) (hq : q < ws.length) :
    Calls Try.prog 13 #[.int .i64 t, .slice a ws.length cap, .int .i64 p, .int .i64 q] w fun e w' => e = .returned (.bool true) ∧ Below w.heap.size w w' := by
  have F := Lib.hid (few_yes a ws.length cap w hfew)
  have D1 := Lib.hid (Deal_told t a cap ws w (by omega) hL)
  have htH : 0 ≤ H t := by
    have h1 := H_mono ht
    have h2 : H 0 = 0 := by decide
    rw [h2] at h1; exact h1
  have hord : WT (ws.getD q 0) < WT (ws.getD p 0) ∨ (WT (ws.getD p 0) = WT (ws.getD q 0) ∧ p < q) → shareS (H t) ws q ≤ shareS (H t) ws p := fun h => shareS_order htH ws p q h
  have hbp := shareS_bd t ws p
  have hbq := shareS_bd t ws q
  have hcell : ∃ b off, a = some ⟨b, off, none⟩ ∧ b < w.heap.size ∧ w.cell? ⟨b, off + p, none⟩ = some (.int .i64 (ws.getD p 0)) ∧ w.cell? ⟨b, off + q, none⟩ = some (.int .i64 (ws.getD q 0)) := by
    rcases hL with h | ⟨b, off, h1, h3, h2⟩
    · rw [h] at hp; simp at hp
    · exact ⟨b, off, h1, h3, h2 p hp, h2 q hq⟩
  obtain ⟨b, off, rfl, hbs, hcp, hcq⟩ := hcell
  clear hL
  obtain ⟨f, hf⟩ : ∃ f, shareS (H t) ws = f := ⟨_, rfl⟩
  rw [hf] at D1 hord hbp hbq
  obtain ⟨x, hx⟩ : ∃ x, ws.getD p 0 = x := ⟨_, rfl⟩
  obtain ⟨y, hy⟩ : ∃ y, ws.getD q 0 = y := ⟨_, rfl⟩
  rw [hx] at hord hcp
  rw [hy] at hord hcq
  obtain ⟨u, hu⟩ : ∃ u, WT x = u := ⟨_, rfl⟩
  obtain ⟨v, hv⟩ : ∃ v, WT y = v := ⟨_, rfl⟩
  rw [hu, hv] at hord
  obtain ⟨g, hg⟩ : ∃ g, f p = g := ⟨_, rfl⟩
  obtain ⟨h, hh⟩ : ∃ h, f q = h := ⟨_, rfl⟩
  rw [hg] at hord hbp
  rw [hh] at hord hbq
  have HU := Lib.hid hu
  have HVV := Lib.hid hv
  have HG := Lib.hid hg
  have HH := Lib.hid hh
  have ORD := Lib.hid hord
  have CP := Lib.hid hcp
  have CQ := Lib.hid hcq
  clear hf hx hy hu hv hg hh hord hcp hcq
  obtain ⟨n, hn⟩ : ∃ n, ws.length = n := ⟨_, rfl⟩
  rw [hn] at F D1 hfew hp hq ⊢
  clear hn
  have hpz : (p : Int) < (n : Int) := by omega
  have hqz : (q : Int) < (n : Int) := by omega
  have htn : ¬ t < 0 := by omega
  have W1 : ∀ w, Calls Try.prog 35 #[.int .i64 x] w fun e w' => e = .returned (.int .i64 u) ∧ w' = w := fun w => by have h := refWeight_any x w; rw [HU.out] at h; exact h.mono (fun _ _ z => ⟨z.1, z.2.symm⟩)
  have W2 : ∀ w, Calls Try.prog 35 #[.int .i64 y] w fun e w' => e = .returned (.int .i64 v) ∧ w' = w := fun w => by have h := refWeight_any y w; rw [HVV.out] at h; exact h.mono (fun _ _ z => ⟨z.1, z.2.symm⟩)
  go_enter Try.func13, Try.ntmps13
  go_wp2_with fail
  refine F.out.mono ?_
  rintro e w' ⟨rfl, rfl⟩
  go_wp2_with fail
  refine D1.out.mono ?_
  rintro e w1 ⟨rfl, hb1, hr1⟩
  have c1 : w1.cell? ⟨b, off + p, none⟩ = some (.int .i64 x) := by rw [hb1.cell (p := ⟨b, off + p, none⟩) hbs]; exact CP.out
  have c2 : w1.cell? ⟨b, off + q, none⟩ = some (.int .i64 y) := by rw [hb1.cell (p := ⟨b, off + q, none⟩) hbs]; exact CQ.out
  obtain ⟨S1, hS1⟩ : ∃ S, S = w.heap.size := ⟨_, rfl⟩
  rw [← hS1] at hb1 hr1 ⊢
  have c3 : w1.cell? ⟨S1, p, none⟩ = some (.int .i64 g) := by have := (hr1 p hp).1; rwa [HG.out] at this
  have c4 : w1.cell? ⟨S1, q, none⟩ = some (.int .i64 h) := by have := (hr1 q hq).1; rwa [HH.out] at this
  have HB1 := Lib.hid hb1
  have HS1 := Lib.hid hS1
  have C3 := Lib.hid c3
  have C4 := Lib.hid c4
  clear hb1 hS1 D1 hr1 c3 c4
  go_wp2_with fail
  go_quiet (first | (go_at_call 35; refine Calls.quiet_of_same (W1 _)) | (go_at_call 35; refine Calls.quiet_of_same (W2 _)))
  have hbn : Below S1 w (w1.drewN nq) := below_drewN' HB1.out nq
  have c3 : (w1.drewN nq).cell? ⟨S1, p, none⟩ = some (.int .i64 g) := C3.out
  have c4 : (w1.drewN nq).cell? ⟨S1, q, none⟩ = some (.int .i64 h) := C4.out
  clear c1 c2
  generalize w1.drewN nq = w2 at hbn c3 c4 ⊢
  have HBN := Lib.hid hbn
  clear hbn
  have fin : ∀ w3 w4, Below S1 w w3 → Below w3.heap.size w3 w4 → Below w.heap.size w w4 := fun w3 w4 b1 b2 => by
    have e := HS1.out
    rw [← e]
    exact b1.trans (b2.mono (by have := b1.size; omega))
  have FIN := Lib.hid fin
  clear fin
  by_cases hgt : v < u
  · have hge : h ≤ g := ORD.out (Or.inl hgt)
    go_wp2_with fail
    go_region_with (go_at_call 30; refine (known2_any _).mono ?_; rintro e w4 ⟨rfl, hb4⟩; have HFIN := Lib.hid hb4; clear hb4)
    all_goals (go_wp2_with fail; go_ret; exact ⟨rfl, FIN.out _ _ HBN.out (below_undrew HFIN.out)⟩)
  · by_cases heq : v = u
    · subst heq
      by_cases hpq : p < q
      · have hge : h ≤ g := ORD.out (Or.inr ⟨rfl, hpq⟩)
        have hpqz : (p : Int) < (q : Int) := by omega
        go_wp2_with fail
        go_region_with (go_at_call 30; refine (known2_any _).mono ?_; rintro e w4 ⟨rfl, hb4⟩; have HFIN := Lib.hid hb4; clear hb4)
        all_goals (go_wp2_with fail; go_ret; exact ⟨rfl, FIN.out _ _ HBN.out (below_undrew HFIN.out)⟩)
      · have hpqz : decide ((p : Int) < (q : Int)) = false := by simp; omega
        go_wp2_with fail
        refine (known2_any _).mono ?_
        rintro e w4 ⟨rfl, hb4⟩
        have HFIN := Lib.hid hb4
        clear hb4
        go_wp2_with fail
        go_ret
        exact ⟨rfl, FIN.out _ _ HBN.out HFIN.out⟩
    · have bne : (u == v) = false := by simp; omega
      go_wp2_with fail
      refine (known2_any _).mono ?_
      rintro e w4 ⟨rfl, hb4⟩
      have HFIN := Lib.hid hb4
      clear hb4
      go_wp2_with fail
      go_ret
      exact ⟨rfl, FIN.out _ _ HBN.out HFIN.out⟩

theorem ShareOrder_walk (t : Int) (a : Option Addr) (cap : Nat) (ws : List Int) (i j : Int) (w : World) (hL : Lst w a ws) :
    Calls Try.prog 13 #[.int .i64 t, .slice a ws.length cap, .int .i64 i, .int .i64 j] w fun e w' => e = .returned (.bool true) ∧ Below w.heap.size w w' := by
  by_cases hn : ws.length ≤ 300
  · by_cases hout : t < 0 ∨ i < 0 ∨ (ws.length : Int) ≤ i ∨ j < 0 ∨ (ws.length : Int) ≤ j
    · exact ShareOrder_out t a cap ws.length i j w hn hout
    · obtain ⟨p, rfl⟩ := Int.eq_ofNat_of_zero_le (show 0 ≤ i by omega)
      obtain ⟨q, rfl⟩ := Int.eq_ofNat_of_zero_le (show 0 ≤ j by omega)
      exact ShareOrder_in t a cap ws p q w hL hn (by omega) (by omega) (by omega)
  · exact ShareOrder_many t a cap ws.length i j w hn
end Go.Proofs.Ytpkhmagjdlpbjaa
