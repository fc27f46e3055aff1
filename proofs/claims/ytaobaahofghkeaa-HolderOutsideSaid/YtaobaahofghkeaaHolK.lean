/- Layer 15: HolderOutside. -/
import Derived.Test.YtaobaahofghkeaaHolJ
namespace Go.Proofs.Ytaobaahofghkeaa
open Go.RowKit TreP FixM Go.Sort
set_option linter.unusedVariables false

theorem info_extH : (Try.prog.info? 42).map (fun i => (i.zero, i.size, i.bytes)) = some (some (.agg #[.int .i64 0, .string ⟨#[]⟩, .int .i64 0, .int .i64 0]), 4, 40) := by kernel_rfl

set_option maxRecDepth 100000 in
set_option maxHeartbeats 16000000 in
theorem HolderOutside_walk (a : Option Addr) (len cap : Nat) (f : Nat → Int) (i k : Int) (x : Option Addr) (m xc : Nat) (X : Nat → Ext) (ek : Int) (en : List UInt8) (ew eh : Int) (vw vh : Int) (w : World) (hm : m ≤ 9223372036854775807) (hmb : m * 40 ≤ 140737488355328) (hP : Pars w a len f) (hX : Exts w x m X) :
    Calls Try.prog 6 #[.slice a len cap, .slice x m xc, .int .i64 i, .int .i64 k, .agg #[.int .i64 ek, .string ⟨en.toArray⟩, .int .i64 ew, .int .i64 eh], .agg #[.int .i64 vw, .int .i64 vh]] w fun e w' => e = .returned (.bool true) ∧ Below w.heap.size w w' := by
  have K := Lib.hid (fun W => known15_any W)
  have F := Lib.hid (fun W => few15_any a len cap W)
  obtain ⟨WE, hWE⟩ : ∃ WE, w.alloc (.cells #[.int .i64 ek, .string ⟨en.toArray⟩, .int .i64 ew, .int .i64 eh] 42) = WE := ⟨_, rfl⟩
  have hE0 := heap_alloc_new w (.cells #[.int .i64 ek, .string ⟨en.toArray⟩, .int .i64 ew, .int .i64 eh] 42)
  have hsE : WE.heap.size = w.heap.size + 1 := by rw [← hWE]; simp
  have hbE : Below w.heap.size w WE := by rw [← hWE]; exact below_one7h w _
  rw [hWE] at hE0
  have hb0 := below_one7h WE (.cells #[.int .i64 vw, .int .i64 vh] 33)
  have hE : (WE.alloc (.cells #[.int .i64 vw, .int .i64 vh] 33)).heap[w.heap.size]? = some (.cells #[.int .i64 ek, .string ⟨en.toArray⟩, .int .i64 ew, .int .i64 eh] 42 (0, 0)) := (hb0.block w.heap.size (by omega)).trans hE0
  have hV : (WE.alloc (.cells #[.int .i64 vw, .int .i64 vh] 33)).heap[w.heap.size + 1]? = some (.cells #[.int .i64 vw, .int .i64 vh] 33 (0, 0)) := by
    have h := heap_alloc_new WE (.cells #[.int .i64 vw, .int .i64 vh] 33)
    rwa [hsE] at h
  have hb1 : Below w.heap.size w (WE.alloc (.cells #[.int .i64 vw, .int .i64 vh] 33)) := hbE.trans (hb0.mono hbE.size)
  have hs1 : (WE.alloc (.cells #[.int .i64 vw, .int .i64 vh] 33)).heap.size = w.heap.size + 2 := by simp; omega
  have HWE := Lib.hid hWE
  clear hb0 hE0 hbE hWE hsE
  by_cases hl : (len : Int) ≤ 100
  · rw [decide_eq_true hl] at F
    by_cases hk0 : k < 0
    · clear hP hX hl
      go_enter Try.func6, Try.ntmps6
      go_wp2_with fail
      rw [HWE.out]
      generalize WE.alloc (.cells #[.int .i64 vw, .int .i64 vh] 33) = w1 at *
      have HB := Lib.hid hb1
      refine (F.out _).mono ?_
      rintro e w' ⟨rfl, rfl⟩
      clear hb1 hE hV hs1
      go_wp2_with fail
      refine (K.out _).mono ?_
      rintro e w4 ⟨rfl, hb4⟩
      have HB4 := Lib.hid (HB.out.trans (hb4.mono HB.out.size))
      clear hb4
      go_wp2_with fail
      go_ret
      exact ⟨rfl, HB4.out⟩
    · by_cases hkm : (m : Int) ≤ k
      · clear hP hX hl
        go_enter Try.func6, Try.ntmps6
        go_wp2_with fail
        rw [HWE.out]
        generalize WE.alloc (.cells #[.int .i64 vw, .int .i64 vh] 33) = w1 at *
        have HB := Lib.hid hb1
        refine (F.out _).mono ?_
        rintro e w' ⟨rfl, rfl⟩
        clear hb1 hE hV hs1
        go_wp2_with fail
        refine (K.out _).mono ?_
        rintro e w4 ⟨rfl, hb4⟩
        have HB4 := Lib.hid (HB.out.trans (hb4.mono HB.out.size))
        clear hb4
        go_wp2_with fail
        go_ret
        exact ⟨rfl, HB4.out⟩
      · by_cases hi0 : i < 0
        · clear hP hX hl
          go_enter Try.func6, Try.ntmps6
          go_wp2_with fail
          rw [HWE.out]
          generalize WE.alloc (.cells #[.int .i64 vw, .int .i64 vh] 33) = w1 at *
          have HB := Lib.hid hb1
          refine (F.out _).mono ?_
          rintro e w' ⟨rfl, rfl⟩
          clear hb1 hE hV hs1
          go_wp2_with fail
          refine (K.out _).mono ?_
          rintro e w4 ⟨rfl, hb4⟩
          have HB4 := Lib.hid (HB.out.trans (hb4.mono HB.out.size))
          clear hb4
          go_wp2_with fail
          go_ret
          exact ⟨rfl, HB4.out⟩
        · by_cases hil : (len : Int) ≤ i
          · clear hP hX hl
            go_enter Try.func6, Try.ntmps6
            go_wp2_with fail
            rw [HWE.out]
            generalize WE.alloc (.cells #[.int .i64 vw, .int .i64 vh] 33) = w1 at *
            have HB := Lib.hid hb1
            refine (F.out _).mono ?_
            rintro e w' ⟨rfl, rfl⟩
            clear hb1 hE hV hs1
            go_wp2_with fail
            refine (K.out _).mono ?_
            rintro e w4 ⟨rfl, hb4⟩
            have HB4 := Lib.hid (HB.out.trans (hb4.mono HB.out.size))
            clear hb4
            go_wp2_with fail
            go_ret
            exact ⟨rfl, HB4.out⟩
          · obtain ⟨kk, rfl⟩ := Int.eq_ofNat_of_zero_le (show 0 ≤ k by omega)
            obtain ⟨ii, rfl⟩ := Int.eq_ofNat_of_zero_le (show 0 ≤ i by omega)
            have hiz : ii < len := by omega
            have hkz : kk < m := by omega
            have hkz2 : (kk : Int) < (m : Int) := by omega
            have HX := Lib.hid hX
            have UN := Lib.hid (fun W hW => refUnder_any a len cap f ii kk W hiz (hP.below (w' := W) hW))
            have hU : UpsIs f len (ii : Int) (ups f ii) := Or.inl ⟨ii, rfl, hiz, rfl⟩
            have BX := Lib.hid (fun W hW => Bases_any a len cap f ii (ups f ii) hU (by omega) x m xc X vw vh W hm (hP.below hW) (hX.below hW))
            have BY := Lib.hid (fun W g cp hW (hY : Exts W (some ⟨g, 0, none⟩) m (updX X kk ⟨ek, en, ew, eh⟩)) => Bases_any a len cap f ii (ups f ii) hU (by omega) (some ⟨g, 0, none⟩) m cp (updX X kk ⟨ek, en, ew, eh⟩) vw vh W hm (hP.below hW) hY)
            have NX : Hid (∀ W, Below w.heap.size w W → Calls Try.prog 19 #[.slice a len cap, .slice x m xc, .int .i64 (ii : Int), .string ⟨#[]⟩] W fun e w' => e = .returned (.int .i64 (nearS X m [] (ups f ii))) ∧ Below W.heap.size W w') := Lib.hid (fun W hW => Nearest_any a len cap f ii (ups f ii) hU (by omega) x m xc X [] W hm (hP.below hW) (hX.below hW))
            have NY : Hid (∀ W g cp, Below w.heap.size w W → Exts W (some ⟨g, 0, none⟩) m (updX X kk ⟨ek, en, ew, eh⟩) → Calls Try.prog 19 #[.slice a len cap, .slice (some ⟨g, 0, none⟩) m cp, .int .i64 (ii : Int), .string ⟨#[]⟩] W fun e w' => e = .returned (.int .i64 (nearS (updX X kk ⟨ek, en, ew, eh⟩) m [] (ups f ii))) ∧ Below W.heap.size W w') := Lib.hid (fun W g cp hW hY => Nearest_any a len cap f ii (ups f ii) hU (by omega) (some ⟨g, 0, none⟩) m cp (updX X kk ⟨ek, en, ew, eh⟩) [] W hm (hP.below hW) hY)
            have hlow := (ups_desc f (ii + 1) ii (by omega)).2
            by_cases hkl : kk < len
            · obtain ⟨ub, hub⟩ : ∃ b, undB f ii kk = b := ⟨_, rfl⟩
              rw [hub] at UN
              have hkl2 : (kk : Int) < (len : Int) := by omega
              cases ub with
              | true =>
                clear hP hX hl hU BX BY NX NY hub hlow
                go_enter Try.func6, Try.ntmps6
                go_wp2_with fail
                rw [HWE.out]
                generalize WE.alloc (.cells #[.int .i64 vw, .int .i64 vh] 33) = w1 at *
                have HB := Lib.hid hb1
                refine (F.out _).mono ?_
                rintro e w' ⟨rfl, rfl⟩
                clear hb1 hE hV hs1
                go_wp2_with fail
                refine (UN.out _ HB.out).mono ?_
                rintro e w' ⟨rfl, rfl⟩
                go_wp2_with fail
                refine (K.out _).mono ?_
                rintro e w4 ⟨rfl, hb4⟩
                have HB4 := Lib.hid (HB.out.trans (hb4.mono HB.out.size))
                clear hb4
                go_wp2_with fail
                go_ret
                exact ⟨rfl, HB4.out⟩
              | false =>
                have hnk : kk ∉ ups f ii := of_decide_eq_false hub
                rw [baseW_upd X kk _ m hnk, baseH_upd X kk _ m hnk] at BY
                rw [near_upd X kk _ m hnk] at NY
                generalize H (baseW X m (ups f ii) vw) = z1 at BX BY
                generalize H (baseH X m (ups f ii) vh) = z2 at BX BY
                generalize nearS X m [] (ups f ii) = z3 at NX NY
                clear hP hX hl hU hub hlow hnk
                obtain ⟨bx, off, rfl, _⟩ := HX.out.all (show 0 < m by omega)
                obtain ⟨i0, hi, hz0, hz1, hz2⟩ := info_parts info_extH
                go_enter Try.func6, Try.ntmps6
                go_wp2_with fail
                rw [HWE.out]
                generalize WE.alloc (.cells #[.int .i64 vw, .int .i64 vh] 33) = w1 at *
                have HB := Lib.hid hb1
                refine (F.out _).mono ?_
                rintro e w' ⟨rfl, rfl⟩
                have HHE := Lib.hid hE
                have HHV := Lib.hid hV
                have HS1 := Lib.hid hs1
                clear hb1 hE hV hs1
                go_wp2_with fail
                refine (UN.out _ HB.out).mono ?_
                rintro e w' ⟨rfl, rfl⟩
                go_wp2_with (at_builtin; refine wpList_append_own _ rfl _ _ 23 rfl w1.heap.size 42 i0 (.agg #[.int .i64 0, .string ⟨#[]⟩, .int .i64 0, .int .i64 0]) 4 40 Try.underlying23 hi hz0 hz1 hz2 rfl (by decide) (.slice none 0 0) 0 [] rfl (World.ownsRow_nil _ _ _ _) ⟨bx, off, none⟩ m xc (newsE X m) rfl ?c0 ?c1 ?c2 ?c3 ?c4 ?c5 ?_)
                case c0 => exact newsE_len X m
                case c1 => exact newsE_cells (HX.out.below HB.out)
                case c2 => exact newsE_one X m
                case c3 => unfold maxLen; omega
                case c4 => omega
                case c5 => exact Nat.le_refl _
                intro v' w2 hown' hgrow _
                have hb2 : Below w1.heap.size w1 w2 := below_grown hgrow (fun g hg => by cases hg) (Nat.le_refl _)
                clear hgrow
                rcases hown'.2 with ⟨_, h0⟩ | ⟨g, cp, cur, rfl, hbg, hgb, hc1, hc2, hcs, htk⟩
                · omega
                have htk2 : cur.toList.take (m * 4) = newsE X m := htk
                clear hown' htk
                have lE : w.heap.size < w1.heap.size := by have := HS1.out; omega
                have lV : w.heap.size + 1 < w1.heap.size := by have := HS1.out; omega
                have e0 := (hb2.cell (p := ⟨w.heap.size, 0, none⟩) lE).trans (cell_of (k := 0) HHE.out rfl)
                have e1 := (hb2.cell (p := ⟨w.heap.size, 1, none⟩) lE).trans (cell_of (k := 1) HHE.out rfl)
                have e2 := (hb2.cell (p := ⟨w.heap.size, 2, none⟩) lE).trans (cell_of (k := 2) HHE.out rfl)
                have e3 := (hb2.cell (p := ⟨w.heap.size, 3, none⟩) lE).trans (cell_of (k := 3) HHE.out rfl)
                obtain ⟨x1, x2, x3, x4, v0, v1, v2, v3, ⟨p0, q0, r0⟩, ⟨p1, q1, r1⟩, ⟨p2, q2, r2⟩, ⟨p3, q3, r3⟩, h4, hb4⟩ := four_storeH w2 g 42 cur (kk * 4) (.int .i64 ek) (.string ⟨en.toArray⟩) (.int .i64 ew) (.int .i64 eh) hgb (by omega)
                have HY : Hid (Exts x4 (some ⟨g, 0, none⟩) m (updX X kk ⟨ek, en, ew, eh⟩)) := Lib.hid (exts_upd (E := ⟨ek, en, ew, eh⟩) (by omega) (by omega) htk2 h4)
                have HB4 := Lib.hid (hb4 w1.heap.size w1 hbg hb2)
                have HW4 := Lib.hid (HB.out.trans ((hb4 w1.heap.size w1 hbg hb2).mono HB.out.size))
                have y0 := (HB4.out.cell (p := ⟨w.heap.size + 1, 0, none⟩) lV).trans (cell_of (k := 0) HHV.out rfl)
                have y1 := (HB4.out.cell (p := ⟨w.heap.size + 1, 1, none⟩) lV).trans (cell_of (k := 1) HHV.out rfl)
                clear hb4 h4 htk2 hgb hbg hb2
                go_wp2_with fail
                refine (BX.out _ HW4.out).mono ?_
                rintro e w5 ⟨rfl, hb5⟩
                have HB5 := Lib.hid (HB4.out.trans (hb5.mono HB4.out.size))
                have HW5 := Lib.hid (HW4.out.trans (hb5.mono HW4.out.size))
                have HY5 := Lib.hid (HY.out.below hb5)
                clear hb5
                have s0 := (HB5.out.cell (p := ⟨w.heap.size + 1, 0, none⟩) lV).trans (cell_of (k := 0) HHV.out rfl)
                have s1 := (HB5.out.cell (p := ⟨w.heap.size + 1, 1, none⟩) lV).trans (cell_of (k := 1) HHV.out rfl)
                go_wp2_with fail
                refine (BY.out _ _ _ HW5.out HY5.out).mono ?_
                rintro e w6 ⟨rfl, hb6⟩
                have HW6 := Lib.hid (HW5.out.trans (hb6.mono HW5.out.size))
                have HY6 := Lib.hid (HY5.out.below hb6)
                clear hb6
                go_wp2_with fail
                refine (NX.out _ HW6.out).mono ?_
                rintro e w7 ⟨rfl, hb7⟩
                have HW7 := Lib.hid (HW6.out.trans (hb7.mono HW6.out.size))
                have HY7 := Lib.hid (HY6.out.below hb7)
                clear hb7
                go_wp2_with fail
                refine (NY.out _ _ _ HW7.out HY7.out).mono ?_
                rintro e w8 ⟨rfl, hb8⟩
                have HW8 := Lib.hid (HW7.out.trans (hb8.mono HW7.out.size))
                clear hb8
                go_wp2_with fail
                refine (K.out _).mono ?_
                rintro e w9 ⟨rfl, hb9⟩
                have HW9 := Lib.hid (HW8.out.trans (hb9.mono HW8.out.size))
                clear hb9
                go_wp2_with fail
                go_ret
                exact ⟨rfl, HW9.out⟩
            · have hkl2 : ¬ (kk : Int) < (len : Int) := by omega
              have hnk : kk ∉ ups f ii := fun h => by have := hlow kk h; omega
              rw [baseW_upd X kk _ m hnk, baseH_upd X kk _ m hnk] at BY
              rw [near_upd X kk _ m hnk] at NY
              generalize H (baseW X m (ups f ii) vw) = z1 at BX BY
              generalize H (baseH X m (ups f ii) vh) = z2 at BX BY
              generalize nearS X m [] (ups f ii) = z3 at NX NY
              clear hP hX hl hU hlow hnk UN
              obtain ⟨bx, off, rfl, _⟩ := HX.out.all (show 0 < m by omega)
              obtain ⟨i0, hi, hz0, hz1, hz2⟩ := info_parts info_extH
              go_enter Try.func6, Try.ntmps6
              go_wp2_with fail
              rw [HWE.out]
              generalize WE.alloc (.cells #[.int .i64 vw, .int .i64 vh] 33) = w1 at *
              have HB := Lib.hid hb1
              refine (F.out _).mono ?_
              rintro e w' ⟨rfl, rfl⟩
              have HHE := Lib.hid hE
              have HHV := Lib.hid hV
              have HS1 := Lib.hid hs1
              clear hb1 hE hV hs1
              go_wp2_with (at_builtin; refine wpList_append_own _ rfl _ _ 23 rfl w1.heap.size 42 i0 (.agg #[.int .i64 0, .string ⟨#[]⟩, .int .i64 0, .int .i64 0]) 4 40 Try.underlying23 hi hz0 hz1 hz2 rfl (by decide) (.slice none 0 0) 0 [] rfl (World.ownsRow_nil _ _ _ _) ⟨bx, off, none⟩ m xc (newsE X m) rfl ?c0 ?c1 ?c2 ?c3 ?c4 ?c5 ?_)
              case c0 => exact newsE_len X m
              case c1 => exact newsE_cells (HX.out.below HB.out)
              case c2 => exact newsE_one X m
              case c3 => unfold maxLen; omega
              case c4 => omega
              case c5 => exact Nat.le_refl _
              intro v' w2 hown' hgrow _
              have hb2 : Below w1.heap.size w1 w2 := below_grown hgrow (fun g hg => by cases hg) (Nat.le_refl _)
              clear hgrow
              rcases hown'.2 with ⟨_, h0⟩ | ⟨g, cp, cur, rfl, hbg, hgb, hc1, hc2, hcs, htk⟩
              · omega
              have htk2 : cur.toList.take (m * 4) = newsE X m := htk
              clear hown' htk
              have lE : w.heap.size < w1.heap.size := by have := HS1.out; omega
              have lV : w.heap.size + 1 < w1.heap.size := by have := HS1.out; omega
              have e0 := (hb2.cell (p := ⟨w.heap.size, 0, none⟩) lE).trans (cell_of (k := 0) HHE.out rfl)
              have e1 := (hb2.cell (p := ⟨w.heap.size, 1, none⟩) lE).trans (cell_of (k := 1) HHE.out rfl)
              have e2 := (hb2.cell (p := ⟨w.heap.size, 2, none⟩) lE).trans (cell_of (k := 2) HHE.out rfl)
              have e3 := (hb2.cell (p := ⟨w.heap.size, 3, none⟩) lE).trans (cell_of (k := 3) HHE.out rfl)
              obtain ⟨x1, x2, x3, x4, v0, v1, v2, v3, ⟨p0, q0, r0⟩, ⟨p1, q1, r1⟩, ⟨p2, q2, r2⟩, ⟨p3, q3, r3⟩, h4, hb4⟩ := four_storeH w2 g 42 cur (kk * 4) (.int .i64 ek) (.string ⟨en.toArray⟩) (.int .i64 ew) (.int .i64 eh) hgb (by omega)
              have HY : Hid (Exts x4 (some ⟨g, 0, none⟩) m (updX X kk ⟨ek, en, ew, eh⟩)) := Lib.hid (exts_upd (E := ⟨ek, en, ew, eh⟩) (by omega) (by omega) htk2 h4)
              have HB4 := Lib.hid (hb4 w1.heap.size w1 hbg hb2)
              have HW4 := Lib.hid (HB.out.trans ((hb4 w1.heap.size w1 hbg hb2).mono HB.out.size))
              have y0 := (HB4.out.cell (p := ⟨w.heap.size + 1, 0, none⟩) lV).trans (cell_of (k := 0) HHV.out rfl)
              have y1 := (HB4.out.cell (p := ⟨w.heap.size + 1, 1, none⟩) lV).trans (cell_of (k := 1) HHV.out rfl)
              clear hb4 h4 htk2 hgb hbg hb2
              go_wp2_with fail
              refine (BX.out _ HW4.out).mono ?_
              rintro e w5 ⟨rfl, hb5⟩
              have HB5 := Lib.hid (HB4.out.trans (hb5.mono HB4.out.size))
              have HW5 := Lib.hid (HW4.out.trans (hb5.mono HW4.out.size))
              have HY5 := Lib.hid (HY.out.below hb5)
              clear hb5
              have s0 := (HB5.out.cell (p := ⟨w.heap.size + 1, 0, none⟩) lV).trans (cell_of (k := 0) HHV.out rfl)
              have s1 := (HB5.out.cell (p := ⟨w.heap.size + 1, 1, none⟩) lV).trans (cell_of (k := 1) HHV.out rfl)
              go_wp2_with fail
              refine (BY.out _ _ _ HW5.out HY5.out).mono ?_
              rintro e w6 ⟨rfl, hb6⟩
              have HW6 := Lib.hid (HW5.out.trans (hb6.mono HW5.out.size))
              have HY6 := Lib.hid (HY5.out.below hb6)
              clear hb6
              go_wp2_with fail
              refine (NX.out _ HW6.out).mono ?_
              rintro e w7 ⟨rfl, hb7⟩
              have HW7 := Lib.hid (HW6.out.trans (hb7.mono HW6.out.size))
              have HY7 := Lib.hid (HY6.out.below hb7)
              clear hb7
              go_wp2_with fail
              refine (NY.out _ _ _ HW7.out HY7.out).mono ?_
              rintro e w8 ⟨rfl, hb8⟩
              have HW8 := Lib.hid (HW7.out.trans (hb8.mono HW7.out.size))
              clear hb8
              go_wp2_with fail
              refine (K.out _).mono ?_
              rintro e w9 ⟨rfl, hb9⟩
              have HW9 := Lib.hid (HW8.out.trans (hb9.mono HW8.out.size))
              clear hb9
              go_wp2_with fail
              go_ret
              exact ⟨rfl, HW9.out⟩
  · rw [decide_eq_false hl] at F
    clear hP hX hl
    go_enter Try.func6, Try.ntmps6
    go_wp2_with fail
    rw [HWE.out]
    generalize WE.alloc (.cells #[.int .i64 vw, .int .i64 vh] 33) = w1 at *
    have HB := Lib.hid hb1
    refine (F.out _).mono ?_
    rintro e w' ⟨rfl, rfl⟩
    clear hb1 hE hV hs1
    go_wp2_with fail
    refine (K.out _).mono ?_
    rintro e w4 ⟨rfl, hb4⟩
    have HB4 := Lib.hid (HB.out.trans (hb4.mono HB.out.size))
    clear hb4
    go_wp2_with fail
    go_ret
    exact ⟨rfl, HB4.out⟩
end Go.Proofs.Ytaobaahofghkeaa
