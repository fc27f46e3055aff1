/- The walk of layer 4's law of Graft, where i is no element. -/
import Derived.Test.YtlnglpjmfoigmaaTreL4
namespace Go.Proofs.Ytlnglpjmfoigmaa
open Go.RowKit TreN TreP

set_option maxRecDepth 100000 in
set_option maxHeartbeats 8000000 in
theorem Grafts_arg (la : Option Addr) (l lc : Nat) (i : Int) (ma : Option Addr) (m mc : Nat) (L M : Nat → Nd) (w : World) (hl : l ≤ 100) (hm : m ≤ 100) (hL : Nods w la l L) (hM : Nods w ma m M) (h1 : checkS L l = 0) (h2 : checkS M m = 0)
    (h : (i < 0 ∨ (l : Int) ≤ i) ∨ ∃ k : Nat, i = (k : Int) ∧ k < l ∧ emB (L k).tag = true) : GraftsOK la l lc i ma m mc w := by
  unfold GraftsOK
  have hz : ¬ (100 : Int) < (l : Int) := by omega
  have hz2 : ¬ (100 : Int) < (m : Int) := by omega
  have HG := Lib.hid (Graft_arg la l lc i ma m mc L M w hL hM h1 h2 h)
  have HL := Lib.hid hL
  have HM := Lib.hid hM
  have K1 := Lib.hid h1
  have K2 := Lib.hid h2
  clear hL hM h1 h2
  have h' : i < 0 ∨ (0 ≤ i ∧ (l : Int) ≤ i) ∨ ∃ k : Nat, i = (k : Int) ∧ k < l ∧ emB (L k).tag = true := by
    rcases h with h | h
    · rcases not_there l i h with h | h
      · exact Or.inl h
      · exact Or.inr (Or.inl h)
    · exact Or.inr (Or.inr h)
  clear h
  rcases h' with h | ⟨h, h2⟩ | ⟨k, rfl, hk, he⟩
  · go_enter Try.func7, Try.ntmps7
    go_wp2_with fail
    refine HG.out.mono ?_
    rintro e w1 ⟨rfl, hb1⟩
    have H1 := Lib.hid hb1
    have C2 : Hid (Calls Try.prog 17 #[.slice la l lc] w1 fun e w' => e = .returned (.int .i64 0) ∧ Below w1.heap.size w1 w') := by rw [← K1.out]; exact Lib.hid (refCheck_any la l lc L w1 (HL.out.below hb1))
    have HM1 := Lib.hid (HM.out.below hb1)
    clear hb1
    go_wp2_with fail
    refine C2.out.mono ?_
    rintro e w2 ⟨rfl, hb2⟩
    have H2 := Lib.hid (H1.out.trans (hb2.mono H1.out.size))
    have C3 : Hid (Calls Try.prog 17 #[.slice ma m mc] w2 fun e w' => e = .returned (.int .i64 0) ∧ Below w2.heap.size w2 w') := by rw [← K2.out]; exact Lib.hid (refCheck_any ma m mc M w2 (HM1.out.below hb2))
    clear hb2
    go_wp2_with fail
    refine C3.out.mono ?_
    rintro e w3 ⟨rfl, hb3⟩
    have H3 := Lib.hid (H2.out.trans (hb3.mono H2.out.size))
    clear hb3
    go_wp2_with fail
    refine (known4_any _).mono ?_
    rintro e w4 ⟨rfl, hb4⟩
    have H4 := Lib.hid (H3.out.trans (hb4.mono H3.out.size))
    clear hb4
    go_wp2_with fail
    go_ret
    exact ⟨rfl, H4.out⟩
  · go_enter Try.func7, Try.ntmps7
    go_wp2_with fail
    refine HG.out.mono ?_
    rintro e w1 ⟨rfl, hb1⟩
    have H1 := Lib.hid hb1
    have C2 : Hid (Calls Try.prog 17 #[.slice la l lc] w1 fun e w' => e = .returned (.int .i64 0) ∧ Below w1.heap.size w1 w') := by rw [← K1.out]; exact Lib.hid (refCheck_any la l lc L w1 (HL.out.below hb1))
    have HM1 := Lib.hid (HM.out.below hb1)
    clear hb1
    go_wp2_with fail
    refine C2.out.mono ?_
    rintro e w2 ⟨rfl, hb2⟩
    have H2 := Lib.hid (H1.out.trans (hb2.mono H1.out.size))
    have C3 : Hid (Calls Try.prog 17 #[.slice ma m mc] w2 fun e w' => e = .returned (.int .i64 0) ∧ Below w2.heap.size w2 w') := by rw [← K2.out]; exact Lib.hid (refCheck_any ma m mc M w2 (HM1.out.below hb2))
    clear hb2
    go_wp2_with fail
    refine C3.out.mono ?_
    rintro e w3 ⟨rfl, hb3⟩
    have H3 := Lib.hid (H2.out.trans (hb3.mono H2.out.size))
    clear hb3
    go_wp2_with fail
    refine (known4_any _).mono ?_
    rintro e w4 ⟨rfl, hb4⟩
    have H4 := Lib.hid (H3.out.trans (hb4.mono H3.out.size))
    clear hb4
    go_wp2_with fail
    go_ret
    exact ⟨rfl, H4.out⟩
  · have hkz : ¬ (l : Int) ≤ (k : Int) := by omega
    have HE := Lib.hid he
    clear he
    go_enter Try.func7, Try.ntmps7
    go_wp2_with fail
    refine HG.out.mono ?_
    rintro e w1 ⟨rfl, hb1⟩
    have H1 := Lib.hid hb1
    have C2 : Hid (Calls Try.prog 17 #[.slice la l lc] w1 fun e w' => e = .returned (.int .i64 0) ∧ Below w1.heap.size w1 w') := by rw [← K1.out]; exact Lib.hid (refCheck_any la l lc L w1 (HL.out.below hb1))
    have HM1 := Lib.hid (HM.out.below hb1)
    clear hb1
    go_wp2_with fail
    refine C2.out.mono ?_
    rintro e w2 ⟨rfl, hb2⟩
    have H2 := Lib.hid (H1.out.trans (hb2.mono H1.out.size))
    have C3 : Hid (Calls Try.prog 17 #[.slice ma m mc] w2 fun e w' => e = .returned (.int .i64 0) ∧ Below w2.heap.size w2 w') := by rw [← K2.out]; exact Lib.hid (refCheck_any ma m mc M w2 (HM1.out.below hb2))
    clear hb2
    go_wp2_with fail
    refine C3.out.mono ?_
    rintro e w3 ⟨rfl, hb3⟩
    have H3 := Lib.hid (H2.out.trans (hb3.mono H2.out.size))
    obtain ⟨b, off, rfl, ⟨c0, c1, c2, c3, c4, c5⟩, hin⟩ := (HL.out.below H3.out).at_ hk
    have het : (L k).tag.toList.isEmpty = true := HE.out
    clear hb3 hin
    go_wp2_with fail
    refine (known4_any _).mono ?_
    rintro e w4 ⟨rfl, hb4⟩
    have H4 := Lib.hid (H3.out.trans (hb4.mono H3.out.size))
    clear hb4
    go_wp2_with fail
    go_ret
    exact ⟨rfl, H4.out⟩
end Go.Proofs.Ytlnglpjmfoigmaa
