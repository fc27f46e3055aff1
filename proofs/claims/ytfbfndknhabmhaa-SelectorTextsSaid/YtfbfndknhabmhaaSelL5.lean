/- Layer 7: SelectorTexts: the walk. -/
import Derived.Test.YtfbfndknhabmhaaSelL4
import Derived.Test.YtfbfndknhabmhaaSelPv
import Derived.Test.YtfbfndknhabmhaaLexPg
namespace Go.Proofs.Ytfbfndknhabmhaa
open Go.RowKit TreN LexP FixP SynP ValP SelP FixM
set_option linter.unusedVariables false

/-- what is known of what a text's selectors are written as -/
theorem texts_facts {s : List UInt8} {L : List (List Prt)} (hs : s.length ≤ 1000) (h : parseS (cut s) = some L) :
    allR L = true ∧ (listT L).length ≤ 3200 ∧ Tx256 (listT L) ∧ (∀ j, j ≤ (listT L).length → (prT (listT L) j).length ≤ 20000) ∧ (printL (listT L)).length ≤ 20000 ∧ cut (printL (listT L)) = listT L ∧ parseS (listT L) = some L := by
  obtain ⟨h1, h2⟩ := parse_K h
  have h3 := cut_K _ s (Nat.le_refl _)
  have hr : L.all rightS = true := by unfold allR at h2; rw [Bool.and_eq_true] at h2; exact h2.2
  have h4 := len_K (listT L)
  have h5 := tot_K (listT L) (sk_list L 0)
  have hp : ∀ j, j ≤ (listT L).length → (prT (listT L) j).length ≤ 20000 := fun j hj => by have := prT_le (listT L) j hj; omega
  refine ⟨h2, by omega, (lst_bd7 L 0 hr).2, hp, ?_, print_cut_nil _ (shp_list L 0 hr), list_read h2⟩
  have := hp (listT L).length (Nat.le_refl _)
  rwa [prT_all] at this

set_option maxRecDepth 100000 in
set_option maxHeartbeats 4000000 in
theorem SelectorTexts_walk (s : List UInt8) (w : World) : Calls Try.prog 4 #[.string ⟨s.toArray⟩] w fun e w' => e = .returned (.bool true) ∧ Below w.heap.size w w' := by
  have KN := Lib.hid (fun W => known7_any W)
  by_cases hs : s.length ≤ 1000
  · have hsz : ¬ (1000 : Int) < (s.length : Int) := by omega
    have CX := Lib.hid (fun W => show Calls Try.prog 14 #[.string ⟨s.toArray⟩] W (ToldCap W (cut s)) from refCut_cap ⟨s.toArray⟩ W (by show s.toArray.size ≤ 40000; simp; omega))
    have HXL : Hid ((cut s).length ≤ 1000) := Lib.hid (Nat.le_trans (cut_texts _ s (Nat.le_refl _)).1 hs)
    have HXT := Lib.hid (txOk_cut7 s (by omega))
    cases hp : parseS (cut s) with
    | none =>
      obtain ⟨X, hX⟩ : ∃ X, cut s = X := ⟨_, rfl⟩
      rw [hX] at CX HXL HXT hp
      obtain ⟨nx, hnx⟩ : ∃ n, X.length = n := ⟨_, rfl⟩
      have HNX := Lib.hid hnx
      have HP := Lib.hid hp
      unfold ToldCap at CX
      rw [hnx] at CX
      clear hX hs hnx hp
      go_enter Try.func4, Try.ntmps4
      go_wp2_with fail
      refine (CX.out _).mono ?_
      rintro e w1 ⟨a1, c1, rfl, hT1, hb1, h11, h12⟩
      have PN := Lib.hid (Parse7_no a1 X nx c1 w1 HNX.out h11 h12 (by have := HXL.out; have := HNX.out; omega) hT1 HXT.out HP.out)
      have HB1 := Lib.hid hb1
      clear hT1 hb1 h11 h12
      go_wp2_with fail
      refine PN.out.mono ?_
      rintro e w2 ⟨rfl, hb2⟩
      have HB2 := Lib.hid (HB1.out.trans (hb2.mono HB1.out.size))
      clear hb2 PN
      go_wp2_with fail
      refine (KN.out _).mono ?_
      rintro e w3 ⟨rfl, hb3⟩
      have HB3 := Lib.hid (HB2.out.trans (hb3.mono HB2.out.size))
      clear hb3
      go_wp2_with fail
      go_ret
      exact ⟨rfl, HB3.out⟩
    | some L =>
      obtain ⟨f1, f2, f3, f4, f5, f6, f7⟩ := texts_facts hs hp
      obtain ⟨X, hX⟩ : ∃ X, cut s = X := ⟨_, rfl⟩
      rw [hX] at CX HXL HXT hp
      obtain ⟨nx, hnx⟩ : ∃ n, X.length = n := ⟨_, rfl⟩
      have hLl := parse_len7 hp
      have HLL : Hid (L.length ≤ 1001) := Lib.hid (by have := HXL.out; omega)
      have HNX := Lib.hid hnx
      have HP := Lib.hid hp
      unfold ToldCap at CX
      rw [hnx] at CX
      obtain ⟨T, hT⟩ : ∃ T, listT L = T := ⟨_, rfl⟩
      have HLT := Lib.hid hT
      rw [hT] at f2 f3 f4 f5 f6 f7
      obtain ⟨q, hq⟩ : ∃ q, T.length = q := ⟨_, rfl⟩
      obtain ⟨pt, hpt⟩ : ∃ p, printL T = p := ⟨_, rfl⟩
      have CT := Lib.hid (fun W => show Calls Try.prog 14 #[.string ⟨pt.toArray⟩] W (ToldCap W T) from by
        have := refCut_cap ⟨pt.toArray⟩ W (by show pt.toArray.size ≤ 40000; rw [← hpt]; simp; omega)
        have e : (⟨pt.toArray⟩ : ByteArray).data.toList = pt := by simp
        rw [e, ← hpt, f6] at this
        rw [← hpt]
        exact this)
      unfold ToldCap at CT
      rw [hq] at CT
      have PRT := Lib.hid (fun (a : Option Addr) (c : Nat) (W : World) (hc : q ≤ c) (hT : Tks W a T) => show Calls Try.prog 15 #[.slice a q c] W fun e w' => e = .returned (.string ⟨pt.toArray⟩) ∧ Below W.heap.size W w' from by
        have := refPrG_any a T c W (by omega) (by rw [hq]; exact hc) hT (fun t ht => by have := f3 t ht; omega) f4
        rw [hq, hpt] at this
        exact this)
      have HQ := Lib.hid hq
      have HF1 := Lib.hid f1
      have HQ3 : Hid (q ≤ 3200) := Lib.hid (by omega)
      have HF3 := Lib.hid f3
      have HF7 := Lib.hid f7
      clear hX hs hnx hp hT f1 f2 f3 f4 f5 f6 f7 hq hpt hLl
      go_enter Try.func4, Try.ntmps4
      go_wp2_with fail
      refine (CX.out _).mono ?_
      rintro e w1 ⟨a1, c1, rfl, hT1, hb1, h11, h12⟩
      have PN := Lib.hid (Parse7_yes a1 X nx c1 w1 L HNX.out h11 h12 (by have := HXL.out; have := HNX.out; omega) hT1 HXT.out HP.out)
      unfold SelsAre at PN
      have HB1 := Lib.hid hb1
      clear hT1 hb1 h11 h12
      go_wp2_with fail
      refine PN.out.mono ?_
      rintro e w2 ⟨g2, d2, n2, S2, rfl, hS2, hn2, hd2, hm2, hL2, hb2⟩
      have HB2 := Lib.hid (HB1.out.trans (hb2.mono HB1.out.size))
      have hln : n2 ≤ 1001 := by have := HLL.out; rw [← hS2, List.length_map] at this; omega
      have PR := Lib.hid (by
        have := Print_any (some ⟨g2, 0, none⟩) S2 d2 w2 (by omega) hL2
        rw [hS2, hn2] at this
        exact this)
      unfold PrIs at PR
      rw [HF1.out, HLT.out, HQ.out] at PR
      have PP := Lib.hid (PR.out.mono (R' := fun e w' => ∃ a c, e = .returned (.tuple #[.slice a q c, .int .i64 0]) ∧ Tks w' a T ∧ q ≤ c ∧ c ≤ maxLen ∧ Below w2.heap.size w2 w') fun e w' h => by
        obtain ⟨⟨a, c, h1, h2, h3, h4⟩, h5⟩ := h
        exact ⟨a, c, h1, h2, h3, h4, h5⟩)
      have HS2 := Lib.hid (And.intro hS2 (And.intro hn2 (And.intro hd2 (And.intro hm2 hL2))))
      have HN2 := Lib.hid hln
      clear hS2 hn2 hd2 hm2 hL2 hb2 PN PR hln
      go_wp2_with fail
      refine PP.out.mono ?_
      rintro e w3 ⟨a3, c3, rfl, hT3, h31, h32, hb3⟩
      have HB3 := Lib.hid (HB2.out.trans (hb3.mono HB2.out.size))
      have HL3 := Lib.hid (HS2.out.2.2.2.2.below hb3)
      have AL : Hid (Calls Try.prog 9 #[.slice (some ⟨g2, 0, none⟩) n2 d2] w3 fun e w' => e = .returned (.bool true) ∧ Below w3.heap.size w3 w') := Lib.hid (by
        have := refAll7 (some ⟨g2, 0, none⟩) S2 n2 d2 w3 HS2.out.2.1 (by have := HN2.out; unfold maxLen; omega) HL3.out
        rw [HS2.out.1, HF1.out] at this
        exact this)
      have HT3 := Lib.hid hT3
      have HC3 := Lib.hid (And.intro h31 h32)
      clear hT3 h31 h32 hb3 PP
      go_wp2_with fail
      refine AL.out.mono ?_
      rintro e w4 ⟨rfl, hb4⟩
      have HB4 := Lib.hid (HB3.out.trans (hb4.mono HB3.out.size))
      have HL4 := Lib.hid (HL3.out.below hb4)
      have PT := Lib.hid (PRT.out a3 c3 w4 HC3.out.1 (HT3.out.below hb4))
      clear hb4 AL HL3 HT3
      go_wp2_with fail
      refine PT.out.mono ?_
      rintro e w5 ⟨rfl, hb5⟩
      have HB5 := Lib.hid (HB4.out.trans (hb5.mono HB4.out.size))
      have HL5 := Lib.hid (HL4.out.below hb5)
      clear hb5 PT HL4
      go_wp2_with fail
      refine (CT.out _).mono ?_
      rintro e w6 ⟨a6, c6, rfl, hT6, hb6, h61, h62⟩
      have HB6 := Lib.hid (HB5.out.trans (hb6.mono HB5.out.size))
      have HL6 := Lib.hid (HL5.out.below hb6)
      have PN := Lib.hid (Parse7_yes a6 T q c6 w6 L HQ.out h61 h62 (by have := HQ3.out; omega) hT6 HF3.out.ok HF7.out)
      unfold SelsAre at PN
      clear hT6 hb6 h61 h62 HL5
      go_wp2_with fail
      refine PN.out.mono ?_
      rintro e w7 ⟨g7, d7, n7, S7, rfl, hS7, hn7, hd7, hm7, hL7, hb7⟩
      have HB7 := Lib.hid (HB6.out.trans (hb7.mono HB6.out.size))
      have SM : Hid (Calls Try.prog 13 #[.slice (some ⟨g7, 0, none⟩) n7 d7, .slice (some ⟨g2, 0, none⟩) n2 d2] w7 fun e w' => e = .returned (.bool true) ∧ Below w7.heap.size w7 w') := Lib.hid (by
        have e : n7 = n2 := by
          have := congrArg List.length (hS7.trans HS2.out.1.symm)
          simp only [List.length_map] at this
          have := HS2.out.2.1
          omega
        have := refSame_eq7 (some ⟨g7, 0, none⟩) (some ⟨g2, 0, none⟩) S7 S2 n7 d7 d2 w7 hn7 (by omega) (hS7.trans HS2.out.1.symm) hL7 (HL6.out.below hb7)
        rw [← e]
        exact this)
      clear hS7 hn7 hd7 hm7 hL7 hb7 PN HL6
      go_wp2_with fail
      refine SM.out.mono ?_
      rintro e w8 ⟨rfl, hb8⟩
      have HB8 := Lib.hid (HB7.out.trans (hb8.mono HB7.out.size))
      clear hb8 SM
      go_wp2_with fail
      refine (KN.out _).mono ?_
      rintro e w9 ⟨rfl, hb9⟩
      have HB9 := Lib.hid (HB8.out.trans (hb9.mono HB8.out.size))
      clear hb9
      go_wp2_with fail
      go_ret
      exact ⟨rfl, HB9.out⟩
  · have hsz : (1000 : Int) < (s.length : Int) := by omega
    clear hs
    go_enter Try.func4, Try.ntmps4
    go_wp2_with fail
    refine (KN.out _).mono ?_
    rintro e w1 ⟨rfl, hb1⟩
    have HB1 := Lib.hid hb1
    clear hb1
    go_wp2_with fail
    go_ret
    exact ⟨rfl, HB1.out⟩
end Go.Proofs.Ytfbfndknhabmhaa
