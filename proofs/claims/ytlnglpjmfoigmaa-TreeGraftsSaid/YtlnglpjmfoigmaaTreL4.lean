/- The walk of layer 4's law of Graft, where nothing is grafted. -/
import Derived.Test.YtlnglpjmfoigmaaTreL2
import Derived.Test.YtlnglpjmfoigmaaTreW21
import Derived.Test.YtlnglpjmfoigmaaTreW13
namespace Go.Proofs.Ytlnglpjmfoigmaa
open Go.RowKit TreN TreP

/-- what the law's walk asks -/
def GraftsOK (la : Option Addr) (l lc : Nat) (i : Int) (ma : Option Addr) (m mc : Nat) (w : World) : Prop := Calls Try.prog 7 #[.slice la l lc, .int .i64 i, .slice ma m mc] w fun e w' => e = .returned (.bool true) ∧ Below w.heap.size w w'

set_option maxRecDepth 100000 in
set_option maxHeartbeats 4000000 in
theorem Grafts_many (la : Option Addr) (l lc : Nat) (i : Int) (ma : Option Addr) (m mc : Nat) (w : World) (h : 100 < l ∨ (¬ 100 < l ∧ 100 < m)) : GraftsOK la l lc i ma m mc w := by
  unfold GraftsOK
  rcases h with h | ⟨h, h2⟩
  · have hz : (100 : Int) < (l : Int) := by omega
    go_enter Try.func7, Try.ntmps7
    go_wp2_with fail
    refine (known4_any _).mono ?_
    rintro e w3 ⟨rfl, hb3⟩
    have H3 := Lib.hid hb3
    clear hb3
    go_wp2_with fail
    go_ret
    exact ⟨rfl, H3.out⟩
  · have hz : ¬ (100 : Int) < (l : Int) := by omega
    have hz2 : (100 : Int) < (m : Int) := by omega
    go_enter Try.func7, Try.ntmps7
    go_wp2_with fail
    refine (known4_any _).mono ?_
    rintro e w3 ⟨rfl, hb3⟩
    have H3 := Lib.hid hb3
    clear hb3
    go_wp2_with fail
    go_ret
    exact ⟨rfl, H3.out⟩

set_option maxRecDepth 100000 in
set_option maxHeartbeats 8000000 in
theorem Grafts_tree (la : Option Addr) (l lc : Nat) (i : Int) (ma : Option Addr) (m mc : Nat) (L M : Nat → Nd) (w : World) (hl : l ≤ 100) (hm : m ≤ 100) (hL : Nods w la l L) (hM : Nods w ma m M) (h : checkS L l ≠ 0 ∨ (checkS L l = 0 ∧ checkS M m ≠ 0)) : GraftsOK la l lc i ma m mc w := by
  unfold GraftsOK
  have hz : ¬ (100 : Int) < (l : Int) := by omega
  have hz2 : ¬ (100 : Int) < (m : Int) := by omega
  have HG := Lib.hid (Graft_tree la l lc i ma m mc L M w hL hM h)
  have HL := Lib.hid hL
  have HM := Lib.hid hM
  clear hL hM
  rcases h with h | ⟨h, h2⟩
  · obtain ⟨c, hc⟩ : ∃ c, checkS L l = c := ⟨_, rfl⟩
    rw [hc] at h
    have hcb : (c != 0) = true := by simp [bne, h]
    have HC := Lib.hid hc
    clear h hc
    go_enter Try.func7, Try.ntmps7
    go_wp2_with fail
    refine HG.out.mono ?_
    rintro e w1 ⟨rfl, hb1⟩
    have H1 := Lib.hid hb1
    have CL := Lib.hid (refCheck_any la l lc L w1 (HL.out.below hb1))
    have C2 : Hid (Calls Try.prog 17 #[.slice la l lc] w1 fun e w' => e = .returned (.int .i64 c) ∧ Below w1.heap.size w1 w') := by rw [← HC.out]; exact CL
    clear hb1 CL
    go_wp2_with fail
    refine C2.out.mono ?_
    rintro e w2 ⟨rfl, hb2⟩
    have H2 := Lib.hid (H1.out.trans (hb2.mono H1.out.size))
    clear hb2
    go_wp2_with fail
    refine (known4_any _).mono ?_
    rintro e w3 ⟨rfl, hb3⟩
    have H3 := Lib.hid (H2.out.trans (hb3.mono H2.out.size))
    clear hb3
    go_wp2_with fail
    go_ret
    exact ⟨rfl, H3.out⟩
  · obtain ⟨c, hc⟩ : ∃ c, checkS M m = c := ⟨_, rfl⟩
    rw [hc] at h2
    have hcb : (c != 0) = true := by simp [bne, h2]
    have HC := Lib.hid hc
    have HC0 := Lib.hid h
    clear h h2 hc
    go_enter Try.func7, Try.ntmps7
    go_wp2_with fail
    refine HG.out.mono ?_
    rintro e w1 ⟨rfl, hb1⟩
    have H1 := Lib.hid hb1
    have CL := Lib.hid (refCheck_any la l lc L w1 (HL.out.below hb1))
    have C2 : Hid (Calls Try.prog 17 #[.slice la l lc] w1 fun e w' => e = .returned (.int .i64 0) ∧ Below w1.heap.size w1 w') := by rw [← HC0.out]; exact CL
    have HM1 := Lib.hid (HM.out.below hb1)
    clear hb1 CL
    go_wp2_with fail
    refine C2.out.mono ?_
    rintro e w2 ⟨rfl, hb2⟩
    have H2 := Lib.hid (H1.out.trans (hb2.mono H1.out.size))
    have CM := Lib.hid (refCheck_any ma m mc M w2 (HM1.out.below hb2))
    have C3 : Hid (Calls Try.prog 17 #[.slice ma m mc] w2 fun e w' => e = .returned (.int .i64 c) ∧ Below w2.heap.size w2 w') := by rw [← HC.out]; exact CM
    clear hb2 CM
    go_wp2_with fail
    refine C3.out.mono ?_
    rintro e w3 ⟨rfl, hb3⟩
    have H3 := Lib.hid (H2.out.trans (hb3.mono H2.out.size))
    clear hb3
    go_wp2_with fail
    refine (known4_any _).mono ?_
    rintro e w4 ⟨rfl, hb4⟩
    have H4 := Lib.hid (H3.out.trans (hb4.mono H3.out.size))
    clear hb4
    go_wp2_with fail
    go_ret
    exact ⟨rfl, H4.out⟩
end Go.Proofs.Ytlnglpjmfoigmaa
