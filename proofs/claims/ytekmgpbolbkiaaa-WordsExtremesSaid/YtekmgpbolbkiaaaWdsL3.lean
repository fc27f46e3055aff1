/- Layer 18's laws: extremes; what lines hold. -/
import Derived.Test.YtekmgpbolbkiaaaWdsL2
namespace Go.Proofs.Ytekmgpbolbkiaaa
open Go.RowKit FixM FixP TreN WdsP
set_option linter.unusedVariables false

set_option maxRecDepth 100000 in
set_option maxHeartbeats 8000000 in
theorem WordsExtremes_walk (s : ByteArray) (font tn line : Int) (w : World) : Calls Try.prog 8 #[.string s, .int .i64 font, .int .i64 tn, .int .i64 line] w fun e w' => e = .returned (.bool true) ∧ Below w.heap.size w w' := by
  have F := few18_any s
  by_cases h : s.size ≤ 300
  · rw [decide_eq_true h] at F
    have FF := Lib.hid F
    have C1 := fun w => Extremes18_any s font w h
    have C2 := fun w => refExtremes18_any s font w h
    have T1 := fun w => Tall18_any tn font line w
    have T2 := fun w => refTall18_any tn font line w
    have hlb := least_bd font (wordsS s)
    have hwb := wid_bd font (wordsS s)
    have hlen := words_len s
    have B1 := fun w => Break18_any s font (leastS font (wordsS s)) w h
    have B2 := fun w => Break18_any s font (wid font (wordsS s)) w h
    rw [H_id hlb.1 hlb.2] at B1
    rw [H_id hwb.1 hwb.2] at B2
    have hle : 0 ≤ font → leastS font (wordsS s) ≤ wid font (wordsS s) := fun hf => least_le hf _
    have hm : 0 ≤ font → (linesS font (wid font (wordsS s)) (wordsS s)).length ≤ 1 := fun hf => lines_most hf _
    have hll0 := lines_least font (wordsS s)
    have hln := linesAt_len font (leastS font (wordsS s)) (wordsS s) (wordsS s).length
    change (linesS font (leastS font (wordsS s)) (wordsS s)).length ≤ _ at hln
    unfold ToldL at B1 B2
    obtain ⟨l1, hl1⟩ : ∃ l, linesS font (leastS font (wordsS s)) (wordsS s) = l := ⟨_, rfl⟩
    obtain ⟨l2, hl2⟩ : ∃ l, linesS font (wid font (wordsS s)) (wordsS s) = l := ⟨_, rfl⟩
    rw [hl1] at B1 hln
    rw [hl2] at B2 hm
    simp only [hl1] at hll0
    obtain ⟨ls, hls⟩ : ∃ x, leastS font (wordsS s) = x := ⟨_, rfl⟩
    obtain ⟨ms, hms⟩ : ∃ x, wid font (wordsS s) = x := ⟨_, rfl⟩
    rw [hls, hms] at C1 C2
    rw [hls] at B1
    have hll : ∀ j (h : j < l1.length), l1[j].2.2 ≤ ls := fun j h => by have := hll0 j h; omega
    rw [hms] at B2
    rw [hls, hms] at hle
    obtain ⟨tv, htv⟩ : ∃ x, tallS tn font line = x := ⟨_, rfl⟩
    rw [htv] at T1 T2
    obtain ⟨n1, hn1⟩ : ∃ n, l1.length = n := ⟨_, rfl⟩
    obtain ⟨n2, hn2⟩ : ∃ n, l2.length = n := ⟨_, rfl⟩
    rw [hn1] at hln
    rw [hn2] at hm
    have hnb : n1 ≤ 400 := by omega
    have HN1 := Lib.hid hn1
    have HN2 := Lib.hid hn2
    have CC1 := Lib.hid C1
    have CC2 := Lib.hid C2
    have TT1 := Lib.hid T1
    have TT2 := Lib.hid T2
    have BB1 := Lib.hid B1
    have BB2 := Lib.hid B2
    have HLL := Lib.hid hll
    have HLE := Lib.hid (And.intro hle hm)
    clear F C1 C2 T1 T2 B1 B2 hll hll0 hle hm hlb hwb hlen hln hl1 hl2 hls hms htv hn1 hn2
    have hfz : (0 ≤ font) ∨ ¬ 0 ≤ font := Decidable.em _
    rcases hfz with hf | hf
    · have hf2 : ¬ font < 0 := by omega
      obtain ⟨hle, hm⟩ := HLE.out.imp (fun g => g hf) (fun g => g hf)
      go_enter Try.func8, Try.ntmps8
      go_wp2_with fail
      refine (FF.out _).mono ?_
      rintro e w0 ⟨rfl, rfl⟩
      go_wp2_with fail
      refine (CC1.out _).mono ?_
      rintro e w1 ⟨rfl, hb1⟩
      have HB1 := Lib.hid hb1
      clear hb1
      go_wp2_with fail
      refine (CC2.out _).mono ?_
      rintro e w2 ⟨rfl, hb2⟩
      have HB2 := Lib.hid (HB1.out.trans (hb2.mono HB1.out.size))
      clear hb2
      go_wp2_with fail
      refine (TT1.out _).mono ?_
      rintro e w3 ⟨rfl, rfl⟩
      go_wp2_with fail
      refine (TT2.out _).mono ?_
      rintro e w3 ⟨rfl, rfl⟩
      go_wp2_with fail
      refine (BB1.out _).mono ?_
      rintro e w4 ⟨v4, rfl, hr4, hb4⟩
      obtain ⟨a4, c4, rfl, hA4⟩ := ln_own hr4
      rw [HN1.out]
      have HB4 := Lib.hid (HB2.out.trans (hb4.mono HB2.out.size))
      have HA4 := Lib.hid hA4
      clear hr4 hb4 hA4
      go_wp2_with fail
      go_loop [14] (fun vi => ∃ k : Nat, vi = .int .i64 (k : Int) ∧ k ≤ n1) (fun vi => n1 - (intOf vi).toNat)
      case atStart => exact ⟨0, rfl, by omega⟩
      case round =>
        obtain ⟨k, rfl, hk⟩ := hrel
        by_cases hlt : k < n1
        · have hltz : (k : Int) < (n1 : Int) := by omega
          have hkl : k < l1.length := by have := HN1.out; omega
          obtain ⟨g1, rfl, p0, p1, p2⟩ := HA4.out.at_ hkl
          have hk2 := HLL.out k hkl
          obtain ⟨x2, hx2⟩ : ∃ x : Int, l1[k].2.2 = x := ⟨_, rfl⟩
          rw [hx2] at p2 hk2
          have hk3 : ¬ ls < x2 := by omega
          clear hx2 p0 p1
          go_wp2_with fail
          go_round
          case rel => exact ⟨k + 1, by go_num, by omega⟩
          case measure => simp [intOf]; omega
        · have hltz : ¬ (k : Int) < (n1 : Int) := by omega
          go_wp2_with fail
          refine (BB2.out _).mono ?_
          rintro e w5 ⟨v5, rfl, hr5, hb5⟩
          obtain ⟨a5, c5, rfl, _⟩ := ln_own hr5
          rw [HN2.out]
          have HB5 := Lib.hid (HB4.out.trans (hb5.mono HB4.out.size))
          have hmz : (n2 : Int) ≤ 1 := by omega
          clear hr5 hb5
          go_wp2_with fail
          refine (known18_any _).mono ?_
          rintro e w9 ⟨rfl, hb9⟩
          have HB9 := Lib.hid (HB5.out.trans (hb9.mono HB5.out.size))
          clear hb9
          go_wp2_with fail
          go_ret
          exact ⟨rfl, HB9.out⟩
    · have hf2 : font < 0 := by omega
      go_enter Try.func8, Try.ntmps8
      go_wp2_with fail
      refine (FF.out _).mono ?_
      rintro e w0 ⟨rfl, rfl⟩
      go_wp2_with fail
      refine (CC1.out _).mono ?_
      rintro e w1 ⟨rfl, hb1⟩
      have HB1 := Lib.hid hb1
      clear hb1
      go_wp2_with fail
      refine (CC2.out _).mono ?_
      rintro e w2 ⟨rfl, hb2⟩
      have HB2 := Lib.hid (HB1.out.trans (hb2.mono HB1.out.size))
      clear hb2
      go_wp2_with fail
      refine (TT1.out _).mono ?_
      rintro e w3 ⟨rfl, rfl⟩
      go_wp2_with fail
      refine (TT2.out _).mono ?_
      rintro e w3 ⟨rfl, rfl⟩
      go_wp2_with fail
      refine (known18_any _).mono ?_
      rintro e w9 ⟨rfl, hb9⟩
      have HB9 := Lib.hid (HB2.out.trans (hb9.mono HB2.out.size))
      clear hb9
      go_wp2_with fail
      go_ret
      exact ⟨rfl, HB9.out⟩
  · rw [decide_eq_false h] at F
    have FF := Lib.hid F
    clear F
    go_enter Try.func8, Try.ntmps8
    go_wp2_with fail
    refine (FF.out _).mono ?_
    rintro e w0 ⟨rfl, rfl⟩
    go_wp2_with fail
    refine (known18_any _).mono ?_
    rintro e w9 ⟨rfl, hb9⟩
    have HB9 := Lib.hid hb9
    clear hb9
    go_wp2_with fail
    go_ret
    exact ⟨rfl, HB9.out⟩

set_option maxRecDepth 100000 in
set_option maxHeartbeats 8000000 in
theorem WordsLies_walk (s : ByteArray) (font room : Int) (w : World) : Calls Try.prog 6 #[.string s, .int .i64 font, .int .i64 room] w fun e w' => e = .returned (.bool true) ∧ Below w.heap.size w w' := by
  have F := few18_any s
  by_cases h : s.size ≤ 300
  · rw [decide_eq_true h] at F
    have FF := Lib.hid F
    by_cases hroom : -1073741824 ≤ room ∧ room ≤ 1073741824
    · obtain ⟨hr1, hr2⟩ := hroom
      have C1 := Lib.hid (fun w => Split18_any s w h)
      have C2 := fun w => Break18_any s font room w h
      rw [H_id hr1 hr2] at C2
      have hok := lines_ok font room (wordsS s)
      have HSZ := words_sz s
      have hlen := words_len s
      have hll := linesAt_len font room (wordsS s) (wordsS s).length
      change (linesS font room (wordsS s)).length ≤ _ at hll
      unfold ToldL at C2
      obtain ⟨L, hL⟩ : ∃ L, wordsS s = L := ⟨_, rfl⟩
      rw [hL] at C1 C2 HSZ hlen hll hok
      obtain ⟨l, hl⟩ : ∃ l, linesS font room L = l := ⟨_, rfl⟩
      rw [hl] at C2 hll hok
      obtain ⟨n, hn⟩ : ∃ n, L.length = n := ⟨_, rfl⟩
      obtain ⟨m, hm⟩ : ∃ m, l.length = m := ⟨_, rfl⟩
      have HN := Lib.hid hn
      have HM := Lib.hid hm
      have CC2 := Lib.hid C2
      have HOK := Lib.hid hok
      have HX : Hid (∀ x ∈ L, x.size ≤ maxLen) := Lib.hid (fun x hx => by have := HSZ x hx; unfold maxLen; omega)
      rw [hn] at hlen hll
      rw [hm] at hll
      have hnb : n ≤ 400 := by omega
      have hmb : m ≤ 400 := by omega
      have HEND : Hid (endA l m = n) := Lib.hid (by have := hok.2; rw [hm, hn] at this; exact this)
      have hr1z : ¬ room < -1073741824 := by omega
      have hr2z : ¬ 1073741824 < room := by omega
      clear F C2 hok HSZ hL hl hn hm hlen hll hr1 hr2
      go_enter Try.func6, Try.ntmps6
      go_wp2_with fail
      refine (FF.out _).mono ?_
      rintro e w0 ⟨rfl, rfl⟩
      go_wp2_with fail
      refine (C1.out _).mono ?_
      rintro e w1 ⟨a, c, rfl, hc1, hc2, hb1, hW1⟩
      rw [HN.out] at hc1 ⊢
      have HB1 := Lib.hid hb1
      have HW1 := Lib.hid hW1
      have hcm := hc2
      unfold maxLen at hc2
      clear hb1 hW1
      go_wp2_with fail
      refine (CC2.out _).mono ?_
      rintro e w2 ⟨v2, rfl, hr2, hb2⟩
      obtain ⟨a2, c2, rfl, hA2⟩ := ln_own hr2
      rw [HM.out]
      have HB2 := Lib.hid (HB1.out.trans (hb2.mono HB1.out.size))
      have HW2 := Lib.hid (HW1.out.below hb2)
      have HA2 := Lib.hid hA2
      clear hr2 hb2 hA2
      go_wp2_with fail
      go_loopw [10, 9] (fun vi va wr => ∃ k A : Nat, vi = .int .i64 (k : Int) ∧ va = .int .i64 (A : Int) ∧ k ≤ m ∧ A ≤ n ∧ Hid (endA l k = A) ∧ Hid (Below w2.heap.size w2 wr)) (fun vi _ _ => m - (intOf vi).toNat)
      case atStart => exact ⟨0, 0, rfl, rfl, by omega, by omega, Lib.hid rfl, Lib.hid (Below.refl _ _)⟩
      case round =>
        obtain ⟨k, A, rfl, rfl, hk, hAn, HA, HB⟩ := hrel
        by_cases hlt : k < m
        · have hltz : (k : Int) < (m : Int) := by omega
          have hkl : k < l.length := by have := HM.out; omega
          obtain ⟨g1, rfl, p0, p1, p2⟩ := (HA2.out.below HB.out).at_ hkl
          obtain ⟨o1, o2, o3, o4, o5, o6⟩ := HOK.out.1 k hkl
          rw [HA.out] at o1 o2 o4 o5 o6
          rw [HN.out] at o3 o6
          have HE1 : Hid (endA l (k + 1) = l[k].2.1) := Lib.hid (by show (l.getD k (0, 0, 0)).2.1 = _; rw [List.getD_eq_getElem?_getD, List.getElem?_eq_getElem hkl]; rfl)
          rw [o1] at p0
          obtain ⟨B, hB⟩ : ∃ B, l[k].2.1 = B := ⟨_, rfl⟩
          obtain ⟨u, hu⟩ : ∃ u, l[k].2.2 = u := ⟨_, rfl⟩
          rw [hB] at p1 o2 o3 o4 o5 o6 HE1
          rw [hu] at p2 o4 o5
          have HA2k := Lib.hid (And.intro o4 o6)
          have t1 : (A : Int) < (B : Int) := by omega
          have t2 : ¬ (B : Int) ≤ (A : Int) := by omega
          have t3 : ¬ (n : Int) < (B : Int) := by omega
          have t4 : (1 < (B : Int) - (A : Int) ∧ ¬ room < u) ∨ ¬ 1 < (B : Int) - (A : Int) := by
            by_cases q : A + 1 < B
            · have := o5 q; exact Or.inl ⟨by omega, by omega⟩
            · exact Or.inr (by omega)
          clear o1 o4 o5 o6 hB hu
          by_cases hBn : B < n
          · have hBz : (B : Int) < (n : Int) := by omega
            obtain ⟨a3, sl3, hS3⟩ := ws_mid a L c n A (B + 1) HN.out (A : Int) ((B : Int) + 1) rfl (by omega) (by omega) (by omega) hc1 hcm
            have C3 := Width18_any a3 (seg L A (B + 1)) (B + 1 - A) (c - A) font wr (by rw [seg_len (by have := HN.out; omega)]) (by omega) (fun x hx => HX.out x (seg_mem hx)) (hS3 wr (HW2.out.below HB.out))
            have hgt := HA2k.out.2 hBn
            obtain ⟨v3, hv3⟩ : ∃ v, wid font (seg L A (B + 1)) = v := ⟨_, rfl⟩
            rw [hv3] at C3 hgt
            have CC3 := Lib.hid C3
            have z1 : (0 : Int) ≤ (A : Int) := by omega
            have z2 : (A : Int) ≤ (B : Int) + 1 := by omega
            have z3 : (B : Int) + 1 ≤ (c : Int) := by omega
            have hgt2 : ¬ v3 ≤ room := by omega
            clear C3 hS3 hv3
            rcases t4 with ⟨t4, t5⟩ | t4
            all_goals
              go_wp2_with fail
              refine CC3.out.mono ?_
              rintro e w3 ⟨rfl, hb3⟩
              have HB3 := Lib.hid (HB.out.trans (hb3.mono HB.out.size))
              clear hb3
              go_wp2_with fail
              go_roundw
              case rel => exact ⟨k + 1, B, by go_num, rfl, by omega, by omega, HE1, HB3⟩
              case measure => simp [intOf]; omega
          · have hBz : ¬ (B : Int) < (n : Int) := by omega
            rcases t4 with ⟨t4, t5⟩ | t4
            all_goals
              go_wp2_with fail
              go_roundw
              case rel => exact ⟨k + 1, B, by go_num, rfl, by omega, by omega, HE1, HB⟩
              case measure => simp [intOf]; omega
        · have hltz : ¬ (k : Int) < (m : Int) := by omega
          have hAe : ((A : Int) == (n : Int)) = true := by
            have h1 := HEND.out
            have h2 := HA.out
            have e : k = m := by omega
            rw [e, h1] at h2
            rw [h2]; simp
          go_wp2_with fail
          refine (known18_any _).mono ?_
          rintro e w9 ⟨rfl, hb9⟩
          have HB9 := Lib.hid ((HB2.out.trans (HB.out.mono HB2.out.size)).trans (hb9.mono (HB2.out.trans (HB.out.mono HB2.out.size)).size))
          clear hb9
          go_wp2_with fail
          go_ret
          exact ⟨rfl, HB9.out⟩
    · have hz : 1073741824 < room ∨ (¬ 1073741824 < room ∧ room < -1073741824) := by omega
      clear F hroom
      rcases hz with hz | ⟨hz1, hz⟩
      all_goals
        go_enter Try.func6, Try.ntmps6
        go_wp2_with fail
        refine (FF.out _).mono ?_
        rintro e w0 ⟨rfl, rfl⟩
        go_wp2_with fail
        refine (known18_any _).mono ?_
        rintro e w9 ⟨rfl, hb9⟩
        have HB9 := Lib.hid hb9
        clear hb9
        go_wp2_with fail
        go_ret
        exact ⟨rfl, HB9.out⟩
  · rw [decide_eq_false h] at F
    have FF := Lib.hid F
    clear F
    go_enter Try.func6, Try.ntmps6
    go_wp2_with fail
    refine (FF.out _).mono ?_
    rintro e w0 ⟨rfl, rfl⟩
    go_wp2_with fail
    refine (known18_any _).mono ?_
    rintro e w9 ⟨rfl, hb9⟩
    have HB9 := Lib.hid hb9
    clear hb9
    go_wp2_with fail
    go_ret
    exact ⟨rfl, HB9.out⟩
end Go.Proofs.Ytekmgpbolbkiaaa
