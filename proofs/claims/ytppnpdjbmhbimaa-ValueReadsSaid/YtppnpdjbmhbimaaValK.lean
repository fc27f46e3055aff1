/- Layer 9: fixed calls. -/
import Derived.Test.YtppnpdjbmhbimaaValR3
import Derived.Test.YtppnpdjbmhbimaaLexR6
namespace Go.Proofs.Ytppnpdjbmhbimaa
open Go.RowKit TreN LexP FixP SynP ValP FixM
set_option linter.unusedVariables false

theorem text_eq9 (s : ByteArray) : ∃ x : List UInt8, s = ⟨x.toArray⟩ := ⟨s.data.toList, by cases s; simp⟩
def nineT : List UInt8 := [49, 46, 53, 101, 109, 32, 97, 117, 116, 111, 32, 49, 54, 47, 57]
def nineV : List Val := [⟨2, 1500, 2, []⟩, ⟨1, 1, 0, []⟩, ⟨5, 16000, 9000, []⟩]
theorem nine_len : (cut nineT).length = 7 := by decide +kernel
theorem nine_parse : parseV (cut nineT) = some nineV := by decide +kernel
theorem nine_ok : TxOk (cut nineT) := by
  have h : ∀ t ∈ cut nineT, t.text.length ≤ 100 := by decide +kernel
  intro t ht
  have := h t ht
  unfold maxLen; omega
theorem nine_word : txtP wordsL 30 = [117, 110, 115, 101, 116] := by decide +kernel
theorem vs_made (W : World) (l : List Val) : Vs (W.alloc (.cells (vcs l).toArray 30)) (some ⟨W.heap.size, 0, none⟩) l := by
  have hb : (W.alloc (.cells (vcs l).toArray 30)).heap[W.heap.size]? = some (.cells (vcs l).toArray 30 (0, 0)) := heap_alloc_new W _
  refine Or.inr ⟨W.heap.size, 0, rfl, by simp, fun i hi => ?_⟩
  obtain ⟨k1, k2, k3, k4⟩ := vcs_get l i hi
  rw [Nat.zero_add]
  exact ⟨cell_of hb (by simpa using k1), cell_of hb (by simpa using k2), cell_of hb (by simpa using k3), cell_of hb (by simpa using k4)⟩

set_option maxRecDepth 100000 in
set_option maxHeartbeats 2000000 in
theorem known9_any (w : World) : Calls Try.prog 14 #[] w fun e w' => e = .returned (.bool true) ∧ Below w.heap.size w w' := by
  have C := refCut_cap ⟨nineT.toArray⟩ w (by decide)
  unfold ToldCap at C
  simp only [nine_len] at C
  have CC := Lib.hid C
  have TX := Lib.hid (fun W => Text9_any 30 W)
  rw [nine_word] at TX
  clear C
  go_enter Try.func14, Try.ntmps14
  go_wp2_with fail
  refine (CC.out).mono ?_
  rintro e w1 ⟨a1, c1, rfl, hT, hb, hc1, hc2⟩
  have R := Parse9_any a1 (cut nineT) c1 w1 (by rw [nine_len]; exact hc1) hc2 (by rw [nine_len]; omega) hT nine_ok
  rw [nine_len, nine_parse] at R
  have R2 : Hid (Calls Try.prog 23 #[.slice a1 7 c1] w1 fun e w' => ∃ a c, e = .returned (.tuple #[.slice a 3 c, .int .i64 0]) ∧ Hid (Vs w' a nineV ∧ Below w1.heap.size w1 w')) := Lib.hid (R.mono fun e w' h => by
    obtain ⟨⟨v, h1, h2⟩, h3⟩ := h
    obtain ⟨a, c, h4, h5, _⟩ := h2.vs
    subst h4
    exact ⟨a, c, h1, h5, h3⟩)
  have HB := Lib.hid hb
  clear hT hb R
  go_wp2_with fail
  refine (R2.out).mono ?_
  rintro e w2 ⟨a2, c2, rfl, HF⟩
  have HB2 := Lib.hid (HB.out.trans (HF.out.2.mono HB.out.size))
  have S := Lib.hid (refSame9_eq a2 (some ⟨w2.heap.size, 0, none⟩) c2 3 nineV 3 (w2.alloc (.cells (vcs nineV).toArray 30)) rfl (by omega) (HF.out.1.below ((Below.refl _ _).alloc (Nat.le_refl _) _)) (vs_made w2 nineV))
  go_wp2_with fail
  refine (S.out).mono ?_
  rintro e w3 ⟨rfl, q, rfl⟩
  have HB3 := Lib.hid (below_drewN2 (HB2.out.alloc HB2.out.size (.cells (vcs nineV).toArray 30)) q)
  generalize (w2.alloc (.cells (vcs nineV).toArray 30)).drewN q = w3 at *
  go_wp2_with fail
  refine (TX.out _).mono ?_
  rintro e w4 ⟨rfl, hb4⟩
  have HB4 := Lib.hid (HB3.out.trans (hb4.mono HB3.out.size))
  clear hb4
  go_wp2_with fail
  go_ret
  exact ⟨rfl, HB4.out⟩

set_option maxRecDepth 100000 in
set_option maxHeartbeats 4000000 in
theorem ValueWords_walk (s : List UInt8) (n : Int) (w : World) :
    Calls Try.prog 3 #[.string ⟨s.toArray⟩, .int .i64 n] w fun e w' => e = .returned (.bool true) ∧ Below w.heap.size w w' := by
  have KN := Lib.hid known9_any
  have WD := Lib.hid (fun W => Word_any s W)
  have UT := Lib.hid (fun W => Unit_any s W)
  have WW := Lib.hid (fun (W : World) => (refWords_any W).mono (R' := fun e w' => ∃ b, e = .returned (.slice (some ⟨b, 0, none⟩) 31 31) ∧ Hid (TxAt w' b wL ∧ b < w'.heap.size ∧ Below W.heap.size W w')) fun e w' h => ⟨_, h.1, by rw [h.2]; exact ⟨TxAt.made W wL, by simp, below_one9 _ _⟩⟩)
  have UU := Lib.hid (fun (W : World) => (refUnits_any W).mono (R' := fun e w' => ∃ b, e = .returned (.slice (some ⟨b, 0, none⟩) 9 9) ∧ Hid (TxAt w' b uL ∧ b < w'.heap.size ∧ Below W.heap.size W w')) fun e w' h => ⟨_, h.1, by rw [h.2]; exact ⟨TxAt.made W uL, by simp, below_one9 _ _⟩⟩)
  have PLW := Lib.hid (fun (b : Nat) (W : World) (hW : TxAt W b wL) => refPlace_any b wordsL 31 31 s W rfl (by omega) hW)
  have PLU := Lib.hid (fun (b : Nat) (W : World) (hW : TxAt W b uL) => refPlace_any b unitsL 9 9 s W rfl (by omega) hW)
  have TX := Lib.hid (fun W => Text9_any n W)
  have e1 : plc wordsL s 1 = wordP s := rfl
  have e2 : plc unitsL s 1 = unitP s := rfl
  rw [e1] at PLW
  rw [e2] at PLU
  have hin : (1 ≤ n ∧ n ≤ 30 ∧ ∃ k : Nat, n = (k : Int) ∧ ∃ h : k < wL.length, wL[k] = txtP wordsL n) ∨ (n < 1 ∧ txtP wordsL n = []) ∨ (1 ≤ n ∧ 30 < n ∧ txtP wordsL n = []) := by
    by_cases h1 : 1 ≤ n
    · by_cases h2 : n ≤ 30
      · left
        obtain ⟨k, rfl⟩ : ∃ k : Nat, n = (k : Int) + 1 := ⟨(n - 1).toNat, by omega⟩
        refine ⟨h1, h2, k + 1, by omega, by show k + 1 < 31; omega, ?_⟩
        show wordsL[k]'(by rw [words_len]; omega) = _
        unfold txtP
        rw [if_pos ⟨h1, by rw [words_len]; omega⟩]
        have : ((k : Int) + 1).toNat - 1 = k := by omega
        rw [this, List.getD_eq_getElem?_getD, List.getElem?_eq_getElem (by rw [words_len]; omega)]; rfl
      · exact Or.inr (Or.inr ⟨h1, by omega, txtP_out (by rw [words_len]; omega)⟩)
    · exact Or.inr (Or.inl ⟨by omega, txtP_out (by omega)⟩)
  clear e1 e2
  generalize wordP s = qw at *
  generalize unitP s = qu at *
  rcases hin with ⟨h1, h2, k, rfl, hk, hkx⟩ | ⟨h1, hx⟩ | ⟨h1, h2, hx⟩
  · have hk0 : (0 : Int) ≤ (k : Int) := by omega
    have hk31 : (k : Int) < 31 := by omega
    have hkn : k < 31 := by omega
    have CX : Hid (∀ (b : Nat) (W : World), TxAt W b wL → W.cell? ⟨b, k, none⟩ = some (.string ⟨(txtP wordsL (k : Int)).toArray⟩)) := Lib.hid fun b W hW => by have := hW k hk; rwa [hkx] at this
    generalize txtP wordsL (k : Int) = x at *
    clear hkx hk
    go_enter Try.func3, Try.ntmps3
    go_wp2_with fail
    refine (WW.out _).mono ?_
    rintro e w1 ⟨b, rfl, HF⟩
    have cx := CX.out b w1 HF.out.1
    have HB := Lib.hid HF.out.2.2
    clear HF
    go_wp2_with fail
    refine (WD.out _).mono ?_
    rintro e w2 ⟨rfl, hb2⟩
    have HB2 := Lib.hid (HB.out.trans (hb2.mono HB.out.size))
    clear hb2 cx
    go_wp2_with fail
    refine (WW.out _).mono ?_
    rintro e w3 ⟨b3, rfl, HF⟩
    have HB3 := Lib.hid (HB2.out.trans (HF.out.2.2.mono HB2.out.size))
    go_wp2_with fail
    refine (PLW.out _ _ HF.out.1).mono ?_
    rintro e w4 ⟨rfl, rfl⟩
    clear HF
    go_wp2_with fail
    refine (UT.out _).mono ?_
    rintro e w5 ⟨rfl, hb5⟩
    have HB5 := Lib.hid (HB3.out.trans (hb5.mono HB3.out.size))
    clear hb5
    go_wp2_with fail
    refine (UU.out _).mono ?_
    rintro e w6 ⟨b6, rfl, HF⟩
    have HB6 := Lib.hid (HB5.out.trans (HF.out.2.2.mono HB5.out.size))
    go_wp2_with fail
    refine (PLU.out _ _ HF.out.1).mono ?_
    rintro e w7 ⟨rfl, rfl⟩
    clear HF
    go_wp2_with fail
    refine (TX.out _).mono ?_
    rintro e w8 ⟨rfl, hb8⟩
    have HB8 := Lib.hid (HB6.out.trans (hb8.mono HB6.out.size))
    clear hb8
    go_wp2_with fail
    refine (KN.out _).mono ?_
    rintro e w9 ⟨rfl, hb9⟩
    have HB9 := Lib.hid (HB8.out.trans (hb9.mono HB8.out.size))
    clear hb9
    go_wp2_with fail
    go_ret
    exact ⟨rfl, HB9.out⟩
  all_goals
    have TX2 : Hid (∀ W : World, Calls Try.prog 13 #[.int .i64 n] W fun e w' => e = .returned (.string ⟨#[]⟩) ∧ Below W.heap.size W w') := Lib.hid fun W => by have := TX.out W; rw [hx] at this; exact this
    clear TX hx
    have HB := Lib.hid (Below.refl w.heap.size w)
    go_enter Try.func3, Try.ntmps3
    go_wp2_with fail
    refine (WD.out _).mono ?_
    rintro e w2 ⟨rfl, hb2⟩
    have HB2 := Lib.hid (HB.out.trans (hb2.mono HB.out.size))
    clear hb2
    go_wp2_with fail
    refine (WW.out _).mono ?_
    rintro e w3 ⟨b3, rfl, HF⟩
    have HB3 := Lib.hid (HB2.out.trans (HF.out.2.2.mono HB2.out.size))
    go_wp2_with fail
    refine (PLW.out _ _ HF.out.1).mono ?_
    rintro e w4 ⟨rfl, rfl⟩
    clear HF
    go_wp2_with fail
    refine (UT.out _).mono ?_
    rintro e w5 ⟨rfl, hb5⟩
    have HB5 := Lib.hid (HB3.out.trans (hb5.mono HB3.out.size))
    clear hb5
    go_wp2_with fail
    refine (UU.out _).mono ?_
    rintro e w6 ⟨b6, rfl, HF⟩
    have HB6 := Lib.hid (HB5.out.trans (HF.out.2.2.mono HB5.out.size))
    go_wp2_with fail
    refine (PLU.out _ _ HF.out.1).mono ?_
    rintro e w7 ⟨rfl, rfl⟩
    clear HF
    go_wp2_with fail
    refine (TX2.out _).mono ?_
    rintro e w8 ⟨rfl, hb8⟩
    have HB8 := Lib.hid (HB6.out.trans (hb8.mono HB6.out.size))
    clear hb8
    go_wp2_with fail
    refine (KN.out _).mono ?_
    rintro e w9 ⟨rfl, hb9⟩
    have HB9 := Lib.hid (HB8.out.trans (hb9.mono HB8.out.size))
    clear hb9
    go_wp2_with fail
    go_ret
    exact ⟨rfl, HB9.out⟩
end Go.Proofs.Ytppnpdjbmhbimaa
