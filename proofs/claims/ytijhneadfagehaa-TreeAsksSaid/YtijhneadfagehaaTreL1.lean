/- The walks of layer 4's laws: names, checks, what is asked of nodes. -/
import Derived.Test.YtijhneadfagehaaTreK
import Derived.Test.YtijhneadfagehaaTreO
namespace Go.Proofs.Ytijhneadfagehaa
open Go.RowKit TreN TreP

set_option maxRecDepth 100000 in
set_option maxHeartbeats 1000000 in
theorem TreeAsks_many (a : Option Addr) (len cap : Nat) (i : Int) (w : World) (h : 200 < len) :
    Calls Try.prog 3 #[.slice a len cap, .int .i64 i] w fun e w' => e = .returned (.bool true) ∧ Below w.heap.size w w' := by
  have hz : (200 : Int) < (len : Int) := by omega
  go_enter Try.func3, Try.ntmps3
  go_wp2_with fail
  refine (known4_any _).mono ?_
  rintro e w3 ⟨rfl, hb3⟩
  have H3 := Lib.hid hb3
  clear hb3
  go_wp2_with fail
  go_ret
  exact ⟨rfl, H3.out⟩

set_option maxRecDepth 100000 in
set_option maxHeartbeats 4000000 in
theorem TreeAsks_yes (a : Option Addr) (len cap : Nat) (L : Nat → Nd) (i : Nat) (w : World) (hl : len ≤ 200) (h : i < len) (hN : Nods w a len L) :
    Calls Try.prog 3 #[.slice a len cap, .int .i64 (i : Int)] w fun e w' => e = .returned (.bool true) ∧ Below w.heap.size w w' := by
  have hz : ¬ (200 : Int) < (len : Int) := by omega
  have HN := Lib.hid hN
  have hul := ups_length (parOf L) i
  obtain ⟨U, hU⟩ : ∃ U, ups (parOf L) i = U := ⟨_, rfl⟩
  have HU := Lib.hid hU
  rw [hU] at hul
  clear hN hU
  go_enter Try.func3, Try.ntmps3
  go_wp2_with fail
  refine (Depth_any a len cap (parOf L) i w (by omega) h HN.out.pars).mono ?_
  rintro e w1 ⟨rfl, hb1⟩
  rw [HU.out]
  have HN1 := Lib.hid (HN.out.below hb1)
  have H1 := Lib.hid hb1
  clear hb1
  go_wp2_with fail
  refine (refDepth_any a len cap (parOf L) i w1 (by omega) h HN1.out.pars).mono ?_
  rintro e w' ⟨rfl, rfl⟩
  rw [HU.out]
  go_wp2_with fail
  refine (Ups_any a len cap (parOf L) i w1 (by omega) h HN1.out.pars).mono ?_
  rintro e w2 ⟨a1, c1, rfl, hb2, hn1⟩
  rw [HU.out] at hn1 ⊢
  have HN2 := Lib.hid (HN1.out.below hb2)
  have H2 := Lib.hid (H1.out.trans (hb2.mono H1.out.size))
  have HL1 := Lib.hid hn1
  clear hb2 hn1
  go_wp2_with fail
  refine (refUps_any a len cap (parOf L) i w2 (by omega) h HN2.out.pars).mono ?_
  rintro e w3 ⟨a2, c2, rfl, hb3, hn2⟩
  rw [HU.out] at hn2 ⊢
  have HN3 := Lib.hid (HN2.out.below hb3)
  have H3 := Lib.hid (H2.out.trans (hb3.mono H2.out.size))
  have CI := Lib.hid (Ints_lst a1 a2 c1 c2 U w3 (by omega) (HL1.out.below hb3) hn2)
  clear hb3 hn2
  go_wp2_with fail
  refine CI.out.mono ?_
  rintro e w4 ⟨rfl, q, rfl⟩
  have HN4 : Hid (Nods (w3.drewN q) a len L) := Lib.hid (HN3.out.below (below_drewN' (Below.refl _ _) q))
  have H4 := Lib.hid (below_drewN' H3.out q)
  generalize w3.drewN q = w4 at HN4 H4 ⊢
  clear CI
  go_wp2_with fail
  have hK := Kids_any a len cap (parOf L) i w4 (by omega) h HN4.out.pars
  rw [← kids_eq (parOf L) i len h] at hK
  have hkl := kidsF_len (kidB (parOf L) i) 0 len
  obtain ⟨K, hKK⟩ : ∃ K, kidsF (kidB (parOf L) i) 0 len = K := ⟨_, rfl⟩
  rw [hKK] at hK hkl
  have HKK := Lib.hid hKK
  refine hK.mono ?_
  clear hK hKK
  rintro e w5 ⟨a3, c3, rfl, hb5, hn3⟩
  have HN5 := Lib.hid (HN4.out.below hb5)
  have H5 := Lib.hid (H4.out.trans (hb5.mono H4.out.size))
  have HL3 := Lib.hid hn3
  clear hb5 hn3
  go_wp2_with fail
  have hK := refKids_any a len cap (parOf L) i w5 (by omega) HN5.out.pars
  rw [Nat.sub_zero, HKK.out] at hK
  refine hK.mono ?_
  clear hK
  rintro e w6 ⟨a4, c4, rfl, hb6, hn4⟩
  have HN6 := Lib.hid (HN5.out.below hb6)
  have H6 := Lib.hid (H5.out.trans (hb6.mono H5.out.size))
  have CI := Lib.hid (Ints_lst a3 a4 c3 c4 K w6 (by omega) (HL3.out.below hb6) hn4)
  clear hb6 hn4
  go_wp2_with fail
  refine CI.out.mono ?_
  rintro e w7 ⟨rfl, q2, rfl⟩
  have HN7 : Hid (Nods (w6.drewN q2) a len L) := Lib.hid (HN6.out.below (below_drewN' (Below.refl _ _) q2))
  have H7 := Lib.hid (below_drewN' H6.out q2)
  generalize w6.drewN q2 = w7 at HN7 H7 ⊢
  clear CI
  go_wp2_with fail
  refine (End_any a len cap (parOf L) i w7 (by omega) h HN7.out.pars).mono ?_
  rintro e w' ⟨k1, rfl, hk1, rfl⟩
  have HK1 : Hid (EndIs (parOf L) len i k1) := hk1
  clear hk1
  go_wp2_with fail
  refine (refEnd_any a len cap (parOf L) i w7 (by omega) h HN7.out.pars).mono ?_
  rintro e w' ⟨k2, rfl, hk2, rfl⟩
  obtain rfl : k1 = k2 := EndIs.uniq HK1.out hk2
  clear hk2
  go_wp2_with fail
  refine (known4_any _).mono ?_
  rintro e w8 ⟨rfl, hb8⟩
  have H8 := Lib.hid (H7.out.trans (hb8.mono H7.out.size))
  clear hb8
  go_wp2_with fail
  go_ret
  exact ⟨rfl, H8.out⟩

set_option maxRecDepth 100000 in
/-- what the reference's 'Kids' comes to, if there is no such node -/
theorem refKids_out (a : Option Addr) (len cap : Nat) (f : Nat → Int) (i : Int) (w : World) (hl : len ≤ 100000) (h : i < 0 ∨ (len : Int) ≤ i) (hP : Pars w a len f) :
    Calls Try.prog 11 #[.slice a len cap, .int .i64 i] w (Told w []) := by
  by_cases h0 : i < 0
  · refine (refKids_no a len cap f i w hl h0 hP).mono ?_
    rintro e w' ⟨rfl, rfl⟩
    exact ⟨none, 0, rfl, Below.refl _ _, Or.inl rfl⟩
  · obtain ⟨k, rfl⟩ := Int.eq_ofNat_of_zero_le (show 0 ≤ i by omega)
    have hk := refKids_any a len cap f k w hl hP
    have e : kidsF (kidB f k) 0 (len - 0) = [] := kidsF_none _ _ _ fun j hj => by
      unfold kidB
      rw [decide_eq_false]
      have := up_bd f (0 + j)
      omega
    rw [e] at hk
    exact hk

set_option maxRecDepth 100000 in
set_option maxHeartbeats 4000000 in
theorem TreeAsks_no (a : Option Addr) (len cap : Nat) (L : Nat → Nd) (i : Int) (w : World) (hl : len ≤ 200) (h : i < 0 ∨ (len : Int) ≤ i) (hN : Nods w a len L) :
    Calls Try.prog 3 #[.slice a len cap, .int .i64 i] w fun e w' => e = .returned (.bool true) ∧ Below w.heap.size w w' := by
  have hz : ¬ (200 : Int) < (len : Int) := by omega
  have HN := Lib.hid hN
  have HH := Lib.hid h
  clear hN h
  go_enter Try.func3, Try.ntmps3
  go_wp2_with fail
  refine (Depth_no a len cap i w HH.out).mono ?_
  rintro e w' ⟨rfl, rfl⟩
  go_wp2_with fail
  refine (refDepth_no a len cap i w HH.out).mono ?_
  rintro e w' ⟨rfl, rfl⟩
  go_wp2_with fail
  refine (Ups_no a len cap (parOf L) i w (by omega) HH.out HN.out.pars).mono ?_
  rintro e w1 ⟨a1, c1, rfl, hb1, hn1⟩
  have HN1 := Lib.hid (HN.out.below hb1)
  have H1 := Lib.hid hb1
  have CI := Lib.hid (Ints_lst a1 none c1 0 [] w1 (by simp) hn1 (Or.inl rfl))
  clear hb1 hn1
  go_wp2_with fail
  refine (refUps_no a len cap i w1 HH.out).mono ?_
  rintro e w' ⟨rfl, rfl⟩
  go_wp2_with fail
  refine CI.out.mono ?_
  rintro e w4 ⟨rfl, q, rfl⟩
  have HN4 : Hid (Nods (w1.drewN q) a len L) := Lib.hid (HN1.out.below (below_drewN' (Below.refl _ _) q))
  have H4 := Lib.hid (below_drewN' H1.out q)
  clear CI
  generalize w1.drewN q = w4 at HN4 H4 ⊢
  go_wp2_with fail
  refine (Kids_no a len cap i w4 HH.out).mono ?_
  rintro e w' ⟨rfl, rfl⟩
  go_wp2_with fail
  refine (refKids_out a len cap (parOf L) i w4 (by omega) HH.out HN4.out.pars).mono ?_
  rintro e w5 ⟨a5, c5, rfl, hb5, hn5⟩
  have H5 := Lib.hid (H4.out.trans (hb5.mono H4.out.size))
  have CI := Lib.hid (Ints_lst none a5 0 c5 [] w5 (by simp) (Or.inl rfl) hn5)
  clear hb5 hn5
  go_wp2_with fail
  refine CI.out.mono ?_
  rintro e w6 ⟨rfl, q2, rfl⟩
  have H6 := Lib.hid (below_drewN' H5.out q2)
  generalize w5.drewN q2 = w6 at H6 ⊢
  clear CI
  go_wp2_with fail
  refine (End_no a len cap i w6 HH.out).mono ?_
  rintro e w' ⟨rfl, rfl⟩
  go_wp2_with fail
  refine (refEnd_no a len cap i w6 HH.out).mono ?_
  rintro e w' ⟨rfl, rfl⟩
  go_wp2_with fail
  refine (known4_any _).mono ?_
  rintro e w8 ⟨rfl, hb8⟩
  have H8 := Lib.hid (H6.out.trans (hb8.mono H6.out.size))
  clear hb8
  go_wp2_with fail
  go_ret
  exact ⟨rfl, H8.out⟩

set_option maxRecDepth 100000 in
theorem TreeAsks_walk (a : Option Addr) (len cap : Nat) (L : Nat → Nd) (i : Int) (w : World) (hN : Nods w a len L) :
    Calls Try.prog 3 #[.slice a len cap, .int .i64 i] w fun e w' => e = .returned (.bool true) ∧ Below w.heap.size w w' := by
  by_cases hl : len ≤ 200
  · by_cases h : i < 0 ∨ (len : Int) ≤ i
    · exact TreeAsks_no a len cap L i w hl h hN
    · obtain ⟨k, rfl⟩ := Int.eq_ofNat_of_zero_le (show 0 ≤ i by omega)
      exact TreeAsks_yes a len cap L k w hl (by omega) hN
  · exact TreeAsks_many a len cap i w (by omega)
end Go.Proofs.Ytijhneadfagehaa
