/- Layer 10's law PropSides. -/
import Derived.Test.YtbodmfbpmeapoaaPropYa
import Derived.IntWalk
namespace Go.Proofs.Ytbodmfbpmeapoaa
open Go.RowKit TreN LexP FixP SynP ValP PropP FixM
set_option linter.unusedVariables false

set_option maxRecDepth 100000 in
set_option maxHeartbeats 8000000 in
theorem PropSides_0 (a : Option Addr) (l : List Val) (n cap : Nat) (w : World) (hn : l.length = n) (h0 : 1 ≤ n) (h5 : n ≤ 5) (hT : Vs w a l) (hx : ∀ v ∈ l, v.name.length ≤ maxLen) :
    Calls Try.prog 5 #[.int .i64 0, .slice a n cap] w fun e w' => e = .returned (.bool true) ∧ Below w.heap.size w w' := by
  have KN := Lib.hid (fun W => known10_any W)
  obtain ⟨w1, hw1⟩ : ∃ w1, w.alloc (.cells #[.string ⟨#[109, 97, 114, 103, 105, 110]⟩, .string ⟨#[112, 97, 100, 100, 105, 110, 103]⟩, .string ⟨#[98, 111, 114, 100, 101, 114, 45, 119, 105, 100, 116, 104]⟩] 9) = w1 := ⟨_, rfl⟩
  have HBW1 : Hid (Below w.heap.size w w1) := Lib.hid (by rw [← hw1]; exact below_oneP _ _)
  have hx1 : w1.heap[w.heap.size]? = some (.cells #[.string ⟨#[109, 97, 114, 103, 105, 110]⟩, .string ⟨#[112, 97, 100, 100, 105, 110, 103]⟩, .string ⟨#[98, 111, 114, 100, 101, 114, 45, 119, 105, 100, 116, 104]⟩] 9 (0, 0)) := by rw [← hw1]; exact heap_alloc_new w _
  have HX1 := Lib.hid hx1
  have HW1 := Lib.hid hw1
  have HV := Lib.hid hT
  have HN := Lib.hid hn
  have HNM := Lib.hid hx
  obtain ⟨i0, hi0, hz0, hz1, hz2⟩ := info_parts info_token
  have h0z : (0 : Int) < (n : Int) := by omega
  have z0 : ((n : Int) == 0) = false := by rw [beq_eq_false_iff_ne]; omega
  have h5z : (n : Int) ≤ 5 := by omega
  clear hw1 hx1 hT hn hx
  go_enter Try.func5, Try.ntmps5
  go_upto_region 2 with (fail)
  rw [HW1.out]
  go_wp2_with fail
  go_loopw [6, 7] (fun v6 v7 wr => ∃ k : Nat, v7 = .int .i64 (k : Int) ∧ k ≤ n ∧ wr.ownsRow w1.heap.size 39 3 v6 (joinS (l.take k)).length (tkcs (joinS (l.take k))) ∧ Hid (Below w1.heap.size w1 wr) ∧ Hid (∀ j (hj : j < l.length), j < k → rightV l[j] = true ∧ (1 < n → genB l[j] = false))) (fun _ v7 _ => n - (intOf v7).toNat)
  case atStart => exact ⟨0, rfl, by omega, World.ownsRow_nil _ _ _ 3, Lib.hid (Below.refl _ _), Lib.hid fun j hj h => by omega⟩
  case round =>
    obtain ⟨k, rfl, hk, hown, HB, HJ⟩ := hrel
    have HO := Lib.hid hown
    clear hown
    by_cases hlt : k < n
    · have hltz : (k : Int) < (n : Int) := by omega
      have hkl : k < l.length := by have := HN.out; omega
      obtain ⟨b, o, rfl, hb, d0, d1, d2, d3⟩ := HV.out.get hkl
      obtain ⟨⟨vk, vn, vd, vx⟩, hv⟩ : ∃ v, l[k] = v := ⟨_, rfl⟩
      rw [hv] at d0 d1 d2 d3
      have hsx : vx.length ≤ maxLen := by have := HNM.out _ (List.getElem_mem hkl); rw [hv] at this; exact this
      have RG := fun W => refRight9_any vk vn vd vx W hsx
      have GL := fun W => GlobalM_any vk vn vd vx W
      have TK := fun W => refTokens9_any vk vn vd vx W hsx
      unfold ToldCap at TK
      have HBX : Hid (Below w.heap.size w wr) := Lib.hid (HBW1.out.trans (HB.out.mono HBW1.out.size))
      have c0 : wr.cell? ⟨b, o + k * 4, none⟩ = some (.int .i64 vk) := (HBX.out.cell (p := ⟨b, o + k * 4, none⟩) hb).trans d0
      have c1 : wr.cell? ⟨b, o + k * 4 + 1, none⟩ = some (.int .i64 vn) := (HBX.out.cell (p := ⟨b, o + k * 4 + 1, none⟩) hb).trans d1
      have c2 : wr.cell? ⟨b, o + k * 4 + 2, none⟩ = some (.int .i64 vd) := (HBX.out.cell (p := ⟨b, o + k * 4 + 2, none⟩) hb).trans d2
      have c3 : wr.cell? ⟨b, o + k * 4 + 3, none⟩ = some (.string ⟨vx.toArray⟩) := (HBX.out.cell (p := ⟨b, o + k * 4 + 3, none⟩) hb).trans d3
      have hk0 : (0 : Int) ≤ (k : Int) := by omega
      cases hr : rightV ⟨vk, vn, vd, vx⟩ with
      | false =>
          rw [hr] at RG
          have RGH := Lib.hid RG
          clear RG GL TK hr hv hsx d0 d1 d2 d3
          go_wp2_with fail
          refine (RGH.out _).mono ?_
          rintro e w2 ⟨rfl, hb2⟩
          have HB2 := Lib.hid (HB.out.trans (hb2.mono HB.out.size))
          clear hb2 c0 c1 c2 c3

          go_wp2_with fail
          refine (KN.out _).mono ?_
          rintro e w9 ⟨rfl, hb9⟩
          have HB9 := Lib.hid (HBW1.out.trans ((HB2.out.trans (hb9.mono HB2.out.size)).mono HBW1.out.size))
          clear hb9
          go_wp2_with fail
          go_ret
          exact ⟨rfl, HB9.out⟩
      | true =>
        rw [hr] at RG
        have RGH := Lib.hid RG
        obtain ⟨TT, hTT⟩ : ∃ T, tokV ⟨vk, vn, vd, vx⟩ = T := ⟨_, rfl⟩
        obtain ⟨m, hm⟩ : ∃ m, TT.length = m := ⟨_, rfl⟩
        have hm5 : m ≤ 5 := by rw [← hm, ← hTT]; exact tokV_le _
        have hm0 : 0 < m := by
          obtain ⟨t, r, e, _, _⟩ := tok_head (rv_of hr)
          rw [← hm, ← hTT, e]; simp
        have HTT0 := Lib.hid hTT
        have HJS : Hid (joinS (l.take (k + 1)) = joinS (l.take k) ++ TT ++ [spc]) := Lib.hid (by
          rw [List.take_succ_eq_append_getElem hkl, hv, joinS_snoc, hTT])
        have HJL : Hid ((joinS (l.take k)).length ≤ 30) := Lib.hid (by
          have h1 := joinS_len (l.take k) (fun v hv2 => by
            obtain ⟨j, hj, e⟩ := List.getElem_of_mem hv2
            rw [List.length_take] at hj
            rw [List.getElem_take] at e
            rw [← e]; exact (HJ.out j (by omega) (by omega)).1)
          rw [List.length_take] at h1
          omega)
        rw [hTT] at TK
        simp only [hm] at TK
        have TKV := Lib.hid TK
        have HTM := Lib.hid hm
        have HTL : Hid ((tkcs TT).length = m * 3) := Lib.hid (by rw [tkcs_length, hm])
        have HTT : Hid (([spc] : List Tok).length = 1) := Lib.hid rfl
        clear TK hTT hm hsx RG
        rcases (by omega : n ≤ 1 ∨ 1 < n) with h1 | h1
        · have h1z : ¬ (1 : Int) < (n : Int) := by omega
          have HJJ : Hid (∀ j (hj : j < l.length), j < k + 1 → rightV l[j] = true ∧ (1 < n → genB l[j] = false)) := Lib.hid fun j hj h => by
            refine ⟨?_, fun h => by omega⟩
            by_cases c : j = k
            · subst c; rw [hv]; exact hr
            · exact (HJ.out j hj (by omega)).1
          clear GL hr hv
          go_wp2_with fail
          refine (RGH.out _).mono ?_
          rintro e w2 ⟨rfl, hb2⟩
          have HB2 := Lib.hid (HB.out.trans (hb2.mono HB.out.size))
          have HO2 := Lib.hid (ownsRow_below HO.out hb2)
          have HBX := Lib.hid (HBX.out.trans (hb2.mono HBX.out.size))
          clear hb2 c0 c1 c2 c3
          have e0 : w2.cell? ⟨b, o + k * 4, none⟩ = some (.int .i64 vk) := (HBX.out.cell (p := ⟨b, o + k * 4, none⟩) hb).trans d0
          have e1 : w2.cell? ⟨b, o + k * 4 + 1, none⟩ = some (.int .i64 vn) := (HBX.out.cell (p := ⟨b, o + k * 4 + 1, none⟩) hb).trans d1
          have e2 : w2.cell? ⟨b, o + k * 4 + 2, none⟩ = some (.int .i64 vd) := (HBX.out.cell (p := ⟨b, o + k * 4 + 2, none⟩) hb).trans d2
          have e3 : w2.cell? ⟨b, o + k * 4 + 3, none⟩ = some (.string ⟨vx.toArray⟩) := (HBX.out.cell (p := ⟨b, o + k * 4 + 3, none⟩) hb).trans d3
          clear d0 d1 d2 d3

          -- the value's tokens and a Space go behind the others
          go_wp2_with fail
          refine (TKV.out _).mono ?_
          rintro e w3 ⟨ta, tc, rfl, hT3, hb3, g1, g2⟩
          obtain ⟨b3, o3, rfl, hb3l, hcc⟩ := hT3.get (i := 0) (by rw [HTM.out]; exact hm0)
          clear hcc
          have hO3 := ownsRow_below HO2.out hb3
          have news3 := tks_news hT3
          have HB3 := Lib.hid (HB2.out.trans (hb3.mono HB2.out.size))
          clear hT3 hb3 g1 g2 e0 e1 e2 e3
          go_wp2_with (at_builtin; refine wpList_append_own _ rfl _ _ 35 rfl w1.heap.size 39 i0 _ 3 32 und_tokens hi0 hz0 hz1 hz2 rfl (by decide) _ _ _ rfl hO3 ⟨b3, o3, none⟩ m tc (tkcs TT) rfl HTL.out news3 ?cA1 ?cA2 ?cA3 ?cA4 ?_)
          case cA1 => intro u hu; exact tkcs_one _ u hu
          case cA2 => have := HJL.out; unfold maxLen; omega
          case cA3 => have := HJL.out; omega
          case cA4 => exact HB3.out.size
          intro v4 w4 hown4 hgrow4 _
          have HB4 : Hid (Below w1.heap.size w1 w4) := Lib.hid (HB3.out.grown hgrow4 HB3.out.size (fun q hq => (World.ownsRow.lt hO3 q hq).1))
          clear hgrow4 hO3 news3
          go_wp2_with (at_builtin; refine wpList_append_own _ rfl _ _ 35 rfl w1.heap.size 39 i0 _ 3 32 und_tokens hi0 hz0 hz1 hz2 rfl (by decide) _ _ _ rfl (hown4.alloc _) ⟨w4.heap.size, 0, none⟩ 1 1 (tkcs [spc]) rfl rfl ?cB0 ?cB1 ?cB2 ?cB3 ?cB4 ?_)
          case cB0 => exact tkcs_news [spc] _ _ (heap_alloc_new w4 _) rfl
          case cB1 => intro u hu; exact tkcs_one _ u hu
          case cB2 => have := HJL.out; unfold maxLen; omega
          case cB3 => have := HJL.out; omega
          case cB4 => have := HB4.out.size; simp; omega
          intro v5 w5 hown5 hgrow5 _
          have HB5 : Hid (Below w1.heap.size w1 w5) := Lib.hid ((HB4.out.alloc HB4.out.size _).grown hgrow5 (by have := HB4.out.size; simp; omega) (fun q hq => (World.ownsRow.lt hown4 q hq).1))
          have HO5 : Hid (w5.ownsRow w1.heap.size 39 3 v5 (joinS (l.take (k + 1))).length (tkcs (joinS (l.take (k + 1))))) := Lib.hid (by
            rw [HJS.out, tkcs_append, tkcs_append, List.length_append, List.length_append, HTM.out, HTT.out, List.append_assoc]
            exact hown5)
          clear hown4 hown5 hgrow5
          go_wp2_with fail
          go_roundw
          case rel => first | exact ⟨k + 1, by go_num, by omega, HO5.out, HB5, HJJ⟩ | ((repeat apply Exists.intro); exact ⟨⟨k + 1, by go_num, by omega, HO5.out, HB5, HJJ⟩, rfl⟩)
          case measure => simp [intOf]; omega
        · have h1z : (1 : Int) < (n : Int) := by omega
          cases hg : genB ⟨vk, vn, vd, vx⟩ with
          | true =>
            rw [hg] at GL
            have GLH := Lib.hid GL
            clear GL hr hv hg
            go_wp2_with fail
            refine (RGH.out _).mono ?_
            rintro e w2 ⟨rfl, hb2⟩
            have HB2 := Lib.hid (HB.out.trans (hb2.mono HB.out.size))
            have HBX := Lib.hid (HBX.out.trans (hb2.mono HBX.out.size))
            clear hb2 c0 c1 c2 c3
            have e0 : w2.cell? ⟨b, o + k * 4, none⟩ = some (.int .i64 vk) := (HBX.out.cell (p := ⟨b, o + k * 4, none⟩) hb).trans d0
            have e1 : w2.cell? ⟨b, o + k * 4 + 1, none⟩ = some (.int .i64 vn) := (HBX.out.cell (p := ⟨b, o + k * 4 + 1, none⟩) hb).trans d1
            have e2 : w2.cell? ⟨b, o + k * 4 + 2, none⟩ = some (.int .i64 vd) := (HBX.out.cell (p := ⟨b, o + k * 4 + 2, none⟩) hb).trans d2
            have e3 : w2.cell? ⟨b, o + k * 4 + 3, none⟩ = some (.string ⟨vx.toArray⟩) := (HBX.out.cell (p := ⟨b, o + k * 4 + 3, none⟩) hb).trans d3
            clear d0 d1 d2 d3
            go_wp2_with fail
            refine (GLH.out _).mono ?_
            rintro e w8 ⟨rfl, hb8⟩
            have HB2 := Lib.hid (HB2.out.trans (hb8.mono HB2.out.size))
            clear hb8 e0 e1 e2 e3

            go_wp2_with fail
            refine (KN.out _).mono ?_
            rintro e w9 ⟨rfl, hb9⟩
            have HB9 := Lib.hid (HBW1.out.trans ((HB2.out.trans (hb9.mono HB2.out.size)).mono HBW1.out.size))
            clear hb9
            go_wp2_with fail
            go_ret
            exact ⟨rfl, HB9.out⟩
          | false =>
            rw [hg] at GL
            have GLH := Lib.hid GL
            have HJJ : Hid (∀ j (hj : j < l.length), j < k + 1 → rightV l[j] = true ∧ (1 < n → genB l[j] = false)) := Lib.hid fun j hj h => by
              by_cases c : j = k
              · subst c; rw [hv]; exact ⟨hr, fun _ => hg⟩
              · exact HJ.out j hj (by omega)
            clear GL hr hv hg
            go_wp2_with fail
            refine (RGH.out _).mono ?_
            rintro e w6 ⟨rfl, hb6⟩
            have HB6 := Lib.hid (HB.out.trans (hb6.mono HB.out.size))
            have HO6 := Lib.hid (ownsRow_below HO.out hb6)
            have HBX6 := Lib.hid (HBX.out.trans (hb6.mono HBX.out.size))
            clear hb6 c0 c1 c2 c3
            have e0 : w6.cell? ⟨b, o + k * 4, none⟩ = some (.int .i64 vk) := (HBX6.out.cell (p := ⟨b, o + k * 4, none⟩) hb).trans d0
            have e1 : w6.cell? ⟨b, o + k * 4 + 1, none⟩ = some (.int .i64 vn) := (HBX6.out.cell (p := ⟨b, o + k * 4 + 1, none⟩) hb).trans d1
            have e2 : w6.cell? ⟨b, o + k * 4 + 2, none⟩ = some (.int .i64 vd) := (HBX6.out.cell (p := ⟨b, o + k * 4 + 2, none⟩) hb).trans d2
            have e3 : w6.cell? ⟨b, o + k * 4 + 3, none⟩ = some (.string ⟨vx.toArray⟩) := (HBX6.out.cell (p := ⟨b, o + k * 4 + 3, none⟩) hb).trans d3
            go_wp2_with fail
            refine (GLH.out _).mono ?_
            rintro e w2 ⟨rfl, hb2⟩
            have HB2 := Lib.hid (HB6.out.trans (hb2.mono HB6.out.size))
            have HO2 := Lib.hid (ownsRow_below HO6.out hb2)
            have HBX := Lib.hid (HBX6.out.trans (hb2.mono HBX6.out.size))
            clear hb2 e0 e1 e2 e3
            have e0 : w2.cell? ⟨b, o + k * 4, none⟩ = some (.int .i64 vk) := (HBX.out.cell (p := ⟨b, o + k * 4, none⟩) hb).trans d0
            have e1 : w2.cell? ⟨b, o + k * 4 + 1, none⟩ = some (.int .i64 vn) := (HBX.out.cell (p := ⟨b, o + k * 4 + 1, none⟩) hb).trans d1
            have e2 : w2.cell? ⟨b, o + k * 4 + 2, none⟩ = some (.int .i64 vd) := (HBX.out.cell (p := ⟨b, o + k * 4 + 2, none⟩) hb).trans d2
            have e3 : w2.cell? ⟨b, o + k * 4 + 3, none⟩ = some (.string ⟨vx.toArray⟩) := (HBX.out.cell (p := ⟨b, o + k * 4 + 3, none⟩) hb).trans d3
            clear d0 d1 d2 d3

            -- the value's tokens and a Space go behind the others
            go_wp2_with fail
            refine (TKV.out _).mono ?_
            rintro e w3 ⟨ta, tc, rfl, hT3, hb3, g1, g2⟩
            obtain ⟨b3, o3, rfl, hb3l, hcc⟩ := hT3.get (i := 0) (by rw [HTM.out]; exact hm0)
            clear hcc
            have hO3 := ownsRow_below HO2.out hb3
            have news3 := tks_news hT3
            have HB3 := Lib.hid (HB2.out.trans (hb3.mono HB2.out.size))
            clear hT3 hb3 g1 g2 e0 e1 e2 e3
            go_wp2_with (at_builtin; refine wpList_append_own _ rfl _ _ 35 rfl w1.heap.size 39 i0 _ 3 32 und_tokens hi0 hz0 hz1 hz2 rfl (by decide) _ _ _ rfl hO3 ⟨b3, o3, none⟩ m tc (tkcs TT) rfl HTL.out news3 ?cA1 ?cA2 ?cA3 ?cA4 ?_)
            case cA1 => intro u hu; exact tkcs_one _ u hu
            case cA2 => have := HJL.out; unfold maxLen; omega
            case cA3 => have := HJL.out; omega
            case cA4 => exact HB3.out.size
            intro v4 w4 hown4 hgrow4 _
            have HB4 : Hid (Below w1.heap.size w1 w4) := Lib.hid (HB3.out.grown hgrow4 HB3.out.size (fun q hq => (World.ownsRow.lt hO3 q hq).1))
            clear hgrow4 hO3 news3
            go_wp2_with (at_builtin; refine wpList_append_own _ rfl _ _ 35 rfl w1.heap.size 39 i0 _ 3 32 und_tokens hi0 hz0 hz1 hz2 rfl (by decide) _ _ _ rfl (hown4.alloc _) ⟨w4.heap.size, 0, none⟩ 1 1 (tkcs [spc]) rfl rfl ?cB0 ?cB1 ?cB2 ?cB3 ?cB4 ?_)
            case cB0 => exact tkcs_news [spc] _ _ (heap_alloc_new w4 _) rfl
            case cB1 => intro u hu; exact tkcs_one _ u hu
            case cB2 => have := HJL.out; unfold maxLen; omega
            case cB3 => have := HJL.out; omega
            case cB4 => have := HB4.out.size; simp; omega
            intro v5 w5 hown5 hgrow5 _
            have HB5 : Hid (Below w1.heap.size w1 w5) := Lib.hid ((HB4.out.alloc HB4.out.size _).grown hgrow5 (by have := HB4.out.size; simp; omega) (fun q hq => (World.ownsRow.lt hown4 q hq).1))
            have HO5 : Hid (w5.ownsRow w1.heap.size 39 3 v5 (joinS (l.take (k + 1))).length (tkcs (joinS (l.take (k + 1))))) := Lib.hid (by
              rw [HJS.out, tkcs_append, tkcs_append, List.length_append, List.length_append, HTM.out, HTT.out, List.append_assoc]
              exact hown5)
            clear hown4 hown5 hgrow5
            go_wp2_with fail
            go_roundw
            case rel => first | exact ⟨k + 1, by go_num, by omega, HO5.out, HB5, HJJ⟩ | ((repeat apply Exists.intro); exact ⟨⟨k + 1, by go_num, by omega, HO5.out, HB5, HJJ⟩, rfl⟩)
            case measure => simp [intOf]; omega
    · have hltz : ¬ (k : Int) < (n : Int) := by omega
      have hkn : k = n := by omega
      subst hkn
      have hlk : l.length = k := HN.out
      have htk : l.take k = l := List.take_of_length_le (by omega)
      have HRI : Hid (∀ v ∈ l, rightV v = true) := Lib.hid fun v hv2 => by
        obtain ⟨j, hj, e⟩ := List.getElem_of_mem hv2
        rw [← e]; exact (HJ.out j hj (by omega)).1
      have HGE : Hid (1 < l.length → ∀ v ∈ l, genS v = false) := Lib.hid fun h v hv2 => by
        obtain ⟨j, hj, e⟩ := List.getElem_of_mem hv2
        obtain ⟨j1, j2⟩ := HJ.out j hj (by omega)
        rw [← e, gen_genS j1]; exact j2 (by omega)
      have hO := HO.out
      rw [htk] at hO
      obtain ⟨a2, c2, rfl, hT2, g1, g2⟩ := Tks_ownC hO
      have hjl := joinS_len l HRI.out
      have hne : l ≠ [] := by intro e; rw [e] at hlk; simp at hlk; omega
      have P1 := Parse10_plain marginT a2 (joinS l) (joinS l).length c2 false wr rfl g1 g2 (by omega) hT2 (joinS_texts l HRI.out) (by decide) (fun _ _ _ => Or.inr (by decide))
      rw [parse_joinS hne HRI.out, parseP_four (p := 9) (by decide) (by decide) l (by omega) HGE.out] at P1
      obtain ⟨⟨code, ds⟩, hr⟩ : ∃ r, (if l.length ≤ 4 ∧ (declP 9 l 4).all takesD = true then ((0 : Int), declP 9 l 4) else (22, [])) = r := ⟨_, rfl⟩
      rw [hr] at P1
      have HRE := Lib.hid hr
      obtain ⟨N, hNN⟩ : ∃ N, (joinS l).length = N := ⟨_, rfl⟩
      rw [hNN] at P1 ⊢
      unfold marginT at P1
      have P1H := Lib.hid P1
      have hx2 := (HB.out.block _ (blk_ltP HX1.out)).trans HX1.out
      have d1 : wr.cell? ⟨w.heap.size, 0, none⟩ = some (.string ⟨#[109, 97, 114, 103, 105, 110]⟩) := cell_of hx2 rfl
      have HLK := Lib.hid hlk
      have HNE := Lib.hid hne
      clear hO hT2 g1 g2 hjl hne P1 hr hNN htk hlk hx2 HJ HO
      go_wp2_with fail
      (with_reducible refine P1H.out.mono ?_)
      rintro e w2 ⟨⟨a4, c4, rfl, hd⟩, hb2⟩
      have HD2 : Hid (Ds w2 a4 ds) := Lib.hid hd
      have HB2 := Lib.hid (HB.out.trans (hb2.mono HB.out.size))
      have AR := Lib.hid (Around_any a l k cap w2 HLK.out h0 h5 (HV.out.below (HBW1.out.trans (HB2.out.mono HBW1.out.size))))
      obtain ⟨dl, hdl⟩ : ∃ d, ds.length = d := ⟨_, rfl⟩
      have hdl2 : ((code, ds) : Int × List Dec10).2.length = dl := hdl
      rw [hdl2]
      have HDL := Lib.hid hdl
      clear hd hb2 hdl hdl2 d1
      go_wp2_with fail
      refine AR.out.mono ?_
      rintro e w3 ⟨⟨a5, c5, rfl, hv5⟩, hb3⟩
      have HV5 := Lib.hid hv5
      have HB3 := Lib.hid (HB2.out.trans (hb3.mono HB2.out.size))
      have HD3 := Lib.hid (HD2.out.below hb3)
      clear hv5 hb3 AR
      by_cases h4 : k ≤ 4
      · have HAL : Hid ((arP l).length = 4) := Lib.hid (arP_len (by rw [HLK.out]; exact h4))
        rw [HAL.out]
        obtain ⟨i9, hi9, hy0, hy1, hy2⟩ := info_parts info_decl10
        have HW3 : Hid (Below w.heap.size w w3) := Lib.hid (HBW1.out.trans (HB3.out.mono HBW1.out.size))
        go_wp2_with fail
        go_loopw [11, 12] (fun v11 v12 wr => ∃ i : Nat, v12 = .int .i64 (i : Int) ∧ i ≤ 4 ∧ wr.ownsRow w3.heap.size 52 6 v11 i (dcs10 (declP 9 l i)) ∧ Hid (Below w3.heap.size w3 wr) ∧ Hid ((declP 9 l i).all takesD = true)) (fun _ v12 _ => 4 - (intOf v12).toNat)
        case atStart => exact ⟨0, rfl, by omega, World.ownsRow_nil _ _ _ 6, Lib.hid (Below.refl _ _), Lib.hid rfl⟩
        case round =>
          obtain ⟨i, rfl, hi, hown, HQ, HA⟩ := hrel
          have HO := Lib.hid hown
          clear hown
          by_cases hi4 : i < 4
          · have hi4z : (i : Int) < 4 := by omega
            have hial : i < (arP l).length := by rw [HAL.out]; exact hi4
            obtain ⟨b, o, rfl, hb, f0, f1, f2, f3⟩ := (HV5.out.below HQ.out).get hial
            have hsd : (arP l)[i] = sideP l i := arP_get (by rw [HLK.out]; exact h0) (by rw [HLK.out]; exact h4) i hial
            obtain ⟨⟨vk, vn, vd, vx⟩, hv⟩ : ∃ v, sideP l i = v := ⟨_, rfl⟩
            rw [hsd, hv] at f0 f1 f2 f3
            have hvr : rightV ⟨vk, vn, vd, vx⟩ = true := by
              rw [← hv]
              refine HRI.out _ ?_
              unfold sideP
              rw [List.getD_eq_getElem?_getD, List.getElem?_eq_getElem (sIx_lt (by rw [HLK.out]; omega) i), Option.getD_some]
              exact List.getElem_mem _
            have hsucc := declP_succ 9 l i
            rw [hv] at hsucc
            have PO := fun W a m c hm g1 g2 hT => Parse_own (9 + i) (by omega) (by omega) ⟨vk, vn, vd, vx⟩ hvr false W a m c hm g1 g2 hT
            have TK := fun W => refTokens9_any vk vn vd vx W (right_name hvr)
            have NA := Lib.hid (fun W : World => names_atM W (9 + i) (by omega) (by omega))
            have NR := Lib.hid (fun W => NamesM_any W)
            unfold ToldCap at TK
            obtain ⟨m, hm⟩ : ∃ m, (tokV ⟨vk, vn, vd, vx⟩).length = m := ⟨_, rfl⟩
            simp only [hm] at TK
            have TKH := Lib.hid TK
            have hcast : (((9 + i : Nat)) : Int) = 9 + (i : Int) := by omega
            rw [hcast] at PO NA
            obtain ⟨X, hX⟩ : ∃ X, txtP namesL (9 + (i : Int)) = X := ⟨_, rfl⟩
            rw [hX] at PO NA
            have HSU := Lib.hid hsucc
            have hi0z : (0 : Int) ≤ (i : Int) := by omega
            have hq1 : (0 : Int) ≤ 9 + (i : Int) := by omega
            have hq2 : (9 + (i : Int)) < 38 := by omega
            have hq3 : (9 + (i : Int)).toNat = 9 + i := by omega
            have hbq : b < wr.heap.size := hb
            have HM := Lib.hid hm
            have hq0 : IntKind.i64.wrap (9 + (i : Int)) = 9 + (i : Int) := IntWalk.i64_in _ (by omega)
            have hqa : IntKind.i64.wrap (4 * 0) = 4 * 0 := by decide
            have hqb : IntKind.i64.wrap (9 + 4 * 0) = 9 := by decide
            have hqc : IntKind.i64.wrap 0 = 0 := by decide
            have hqd : IntKind.i64.wrap 9 = 9 := by decide
            obtain ⟨tk, htk⟩ : ∃ t, takesP (9 + (i : Int)) ⟨vk, vn, vd, vx⟩ = t := ⟨_, rfl⟩
            rw [htk] at PO
            have HTK := Lib.hid htk
            clear hsd hv hvr hsucc TK hm hcast hX htk
            cases tk with
            | false =>
              have POH : Hid (∀ W a c, m ≤ c → c ≤ maxLen → Tks W a (tokV ⟨vk, vn, vd, vx⟩) → Calls Try.prog 20 #[.agg #[.string ⟨X.toArray⟩, .slice a m c, .bool false]] W fun e w' => ∃ a6 c6, e = .returned (.tuple #[.slice a6 0 c6, .int .i64 22]) ∧ Below W.heap.size W w') := Lib.hid fun W a c g1 g2 hT => (PO W a m c HM.out g1 g2 hT).mono fun e w' h => by
                obtain ⟨⟨a6, c6, he, hd6⟩, hb6⟩ := h
                exact ⟨a6, c6, he, hb6⟩
              have hcd : code = 22 ∧ dl = 0 := by
                have h1 := HRE.out
                have h2 : (declP 9 l 4).all takesD = false := not_all (k := i) (by rw [declP_len]; exact hi4) (by
                  rw [declP_get]
                  have := HSU.out
                  have e2 : sideP l i = ⟨vk, vn, vd, vx⟩ := by
                    rw [declP_succ] at this
                    have := (List.append_inj' this rfl).2
                    simpa using this
                  rw [e2]; exact HTK.out)
                rw [h2, if_neg (by simp)] at h1
                injection h1 with h1 h3
                exact ⟨h1.symm, by rw [← HDL.out, ← h3]; rfl⟩
              obtain ⟨rfl, rfl⟩ := hcd
              clear PO
              go_upto_region 19 with (fail)
              go_region_with (first
                | (go_at_call 7
                   refine (NR.out _).mono ?_
                   rintro e wn ⟨rfl, hwn⟩
                   have n1 : wn.cell? ⟨wr.heap.size, 9 + i, none⟩ = some (.string ⟨X.toArray⟩) := by rw [hwn]; exact NA.out _
                   have hbn : Below wr.heap.size wr wn := by rw [hwn]; exact (Below.refl _ _).drew.alloc (Nat.le_refl _) _
                   have hnl : wr.heap.size < wn.heap.size := by rw [hwn]; simp
                   have HBN := Lib.hid hbn
                   have f4 := (hbn.cell (p := ⟨b, o + i * 4, none⟩) hbq).trans f0
                   have f5 := (hbn.cell (p := ⟨b, o + i * 4 + 1, none⟩) hbq).trans f1
                   have f6 := (hbn.cell (p := ⟨b, o + i * 4 + 2, none⟩) hbq).trans f2
                   have f7 := (hbn.cell (p := ⟨b, o + i * 4 + 3, none⟩) hbq).trans f3
                   have hbn2 : b < wn.heap.size := Nat.lt_trans hbq hnl
                   clear hwn hbn)
                | (go_at_call 19
                   refine (TKH.out _).mono ?_
                   rintro e wt ⟨ta, tc, rfl, hTt, hbt, g1, g2⟩
                   have t1 : wt.cell? ⟨wr.heap.size, 9 + i, none⟩ = some (.string ⟨X.toArray⟩) := (hbt.cell (p := ⟨wr.heap.size, 9 + i, none⟩) hnl).trans n1
                   have HBT := Lib.hid (HBN.out.trans (hbt.mono HBN.out.size))
                   have CP := Lib.hid (POH.out wt ta tc g1 g2 hTt)
                   clear hTt hbt g1 g2)
                | (go_at_call 20
                   refine CP.out.mono ?_
                   rintro e wp ⟨a6, c6, rfl, hb6⟩
                   have HBP := Lib.hid (HW3.out.trans ((HQ.out.trans ((HBT.out.trans (hb6.mono HBT.out.size)).mono HQ.out.size)).mono HW3.out.size))
                   clear hb6))
              all_goals
                clear n1 t1 hq0 hqa hqb hqc hqd hq1 hq2 hq3 f0 f1 f2 f3
                go_wp2_with fail
                refine (KN.out _).mono ?_
                rintro e w9 ⟨rfl, hb9⟩
                have HB9 := Lib.hid (HBP.out.trans (hb9.mono HBP.out.size))
                clear hb9
                go_wp2_with fail
                go_ret
                exact ⟨rfl, HB9.out⟩
            | true =>
              have POH : Hid (∀ W a c, m ≤ c → c ≤ maxLen → Tks W a (tokV ⟨vk, vn, vd, vx⟩) → Calls Try.prog 20 #[.agg #[.string ⟨X.toArray⟩, .slice a m c, .bool false]] W fun e w' => ∃ a6 c6, e = .returned (.tuple #[.slice (some ⟨a6, 0, none⟩) 1 c6, .int .i64 0]) ∧ Hid (Ds w' (some ⟨a6, 0, none⟩) [⟨9 + (i : Int), ⟨vk, vn, vd, vx⟩, false⟩] ∧ Below W.heap.size W w')) := Lib.hid fun W a c g1 g2 hT => (PO W a m c HM.out g1 g2 hT).mono fun e w' h => by
                obtain ⟨⟨a6, c6, he, hd6⟩, hb6⟩ := h
                have hd6 : Ds w' a6 [⟨9 + (i : Int), ⟨vk, vn, vd, vx⟩, false⟩] := hd6
                obtain ⟨b6, rfl, _⟩ := hd6.get (i := 0) (by simp)
                exact ⟨b6, c6, he, hd6, hb6⟩
              clear PO
              go_upto_region 19 with (fail)
              go_region_with (first
                | (go_at_call 7
                   refine (NR.out _).mono ?_
                   rintro e wn ⟨rfl, hwn⟩
                   have n1 : wn.cell? ⟨wr.heap.size, 9 + i, none⟩ = some (.string ⟨X.toArray⟩) := by rw [hwn]; exact NA.out _
                   have hbn : Below wr.heap.size wr wn := by rw [hwn]; exact (Below.refl _ _).drew.alloc (Nat.le_refl _) _
                   have hnl : wr.heap.size < wn.heap.size := by rw [hwn]; simp
                   have HBN := Lib.hid hbn
                   have f4 := (hbn.cell (p := ⟨b, o + i * 4, none⟩) hbq).trans f0
                   have f5 := (hbn.cell (p := ⟨b, o + i * 4 + 1, none⟩) hbq).trans f1
                   have f6 := (hbn.cell (p := ⟨b, o + i * 4 + 2, none⟩) hbq).trans f2
                   have f7 := (hbn.cell (p := ⟨b, o + i * 4 + 3, none⟩) hbq).trans f3
                   have hbn2 : b < wn.heap.size := Nat.lt_trans hbq hnl
                   clear hwn hbn)
                | (go_at_call 19
                   refine (TKH.out _).mono ?_
                   rintro e wt ⟨ta, tc, rfl, hTt, hbt, g1, g2⟩
                   have t1 : wt.cell? ⟨wr.heap.size, 9 + i, none⟩ = some (.string ⟨X.toArray⟩) := (hbt.cell (p := ⟨wr.heap.size, 9 + i, none⟩) hnl).trans n1
                   have HBT := Lib.hid (HBN.out.trans (hbt.mono HBN.out.size))
                   have CP := Lib.hid (POH.out wt ta tc g1 g2 hTt)
                   clear hTt hbt g1 g2)
                | (go_at_call 20
                   refine CP.out.mono ?_
                   rintro e wp ⟨a6, c6, rfl, HFP⟩
                   have HBQ := Lib.hid (HBT.out.trans (HFP.out.2.mono HBT.out.size))
                   have HQP := Lib.hid (HQ.out.trans (HBQ.out.mono HQ.out.size))))
              all_goals
                have hO6 := ownsRow_below HO.out HBQ.out
                have news6 := ds_news HFP.out.1
                clear n1 t1 hq0 hqa hqb hqc hqd hq1 hq2 hq3 f0 f1 f2 f3
                go_wp2_with (at_builtin; refine wpList_append_own _ rfl _ _ 40 rfl w3.heap.size 52 i9 _ 6 56 und_decls10 hi9 hy0 hy1 hy2 rfl (by decide) _ _ _ rfl hO6 ⟨a6, 0, none⟩ 1 c6 (dc10 ⟨9 + (i : Int), ⟨vk, vn, vd, vx⟩, false⟩) rfl rfl news6 ?cD1 ?cD2 ?cD3 ?cD4 ?_)
                case cD1 => intro u hu; exact dcs10_one [⟨9 + (i : Int), ⟨vk, vn, vd, vx⟩, false⟩] u (by simpa [dcs10] using hu)
                case cD2 => unfold maxLen; omega
                case cD3 => omega
                case cD4 => exact HQP.out.size
                intro v7 w7 hown7 hgrow7 _
                have HB7 : Hid (Below w3.heap.size w3 w7) := Lib.hid (HQP.out.grown hgrow7 HQP.out.size (fun r hr => (World.ownsRow.lt hO6 r hr).1))
                have HO7 : Hid (w7.ownsRow w3.heap.size 52 6 v7 (i + 1) (dcs10 (declP 9 l (i + 1)))) := Lib.hid (by rw [HSU.out, dcs10_append]; simpa [dcs10] using hown7)
                have HA7 : Hid ((declP 9 l (i + 1)).all takesD = true) := Lib.hid (by
                  rw [HSU.out, List.all_append, HA.out]
                  simp only [List.all_cons, List.all_nil, Bool.and_true, Bool.true_and]
                  exact HTK.out)
                clear hown7 hgrow7 hO6 news6
                go_wp2_with fail
                go_roundw
                case rel => first | exact ⟨i + 1, by go_num, by omega, HO7.out, HB7, HA7⟩ | ((repeat apply Exists.intro); exact ⟨⟨i + 1, by go_num, by omega, HO7.out, HB7, HA7⟩, rfl⟩)
                case measure => simp [intOf]; omega
          · have hi4z : ¬ (i : Int) < 4 := by omega
            have hi44 : i = 4 := by omega
            subst hi44
            have hcd : code = 0 ∧ ds = declP 9 l 4 := by
              have h1 := HRE.out
              rw [if_pos ⟨by rw [HLK.out]; exact h4, HA.out⟩] at h1
              injection h1 with h1 h3
              exact ⟨h1.symm, h3.symm⟩
            obtain ⟨rfl, hds⟩ := hcd
            have hdl4 : dl = 4 := by rw [← HDL.out, hds]; exact declP_len _ _ _
            subst hdl4
            have hO := HO.out
            obtain ⟨g, cp, rfl, hg1, hg2⟩ := hO.form (by omega)
            have hD2 := ds_own (declP_len 9 l 4) hg2 hO
            have hD1 := HD3.out.below HQ.out
            rw [hds] at hD1
            have SM := Lib.hid (refSame10_eq a4 (some ⟨g, 0, none⟩) c4 cp (declP 9 l 4) 4 wr (declP_len _ _ _) (by omega) hD1 hD2)
            clear hO hD1 hD2 hds
            go_wp2_with fail
            refine SM.out.mono ?_
            rintro e w6 ⟨rfl, q6, hq6⟩
            have HB6 : Hid (Below w.heap.size w w6) := Lib.hid (by rw [hq6]; exact HW3.out.trans ((below_drewN2 HQ.out q6).mono HW3.out.size))
            clear hq6
            go_wp2_with fail
            refine (KN.out _).mono ?_
            rintro e w9 ⟨rfl, hb9⟩
            have HB9 := Lib.hid (HB6.out.trans (hb9.mono HB6.out.size))
            clear hb9
            go_wp2_with fail
            go_ret
            exact ⟨rfl, HB9.out⟩
      · have hk5 : k = 5 := by omega
        have hal : (arP l).length = 5 := by
          unfold arP
          rw [if_neg (by rw [HLK.out]; omega), HLK.out, hk5]
        have hcd : code = 22 := by
          have h1 := HRE.out
          rw [if_neg (by rw [HLK.out]; omega)] at h1
          injection h1 with h1 _
          exact h1.symm
        subst hcd
        rw [hal]
        clear hal hk5
        go_wp2_with fail
        refine (KN.out _).mono ?_
        rintro e w9 ⟨rfl, hb9⟩
        have HB9 := Lib.hid (HBW1.out.trans ((HB3.out.trans (hb9.mono HB3.out.size)).mono HBW1.out.size))
        clear hb9
        go_wp2_with fail
        go_ret
        exact ⟨rfl, HB9.out⟩
end Go.Proofs.Ytbodmfbpmeapoaa
