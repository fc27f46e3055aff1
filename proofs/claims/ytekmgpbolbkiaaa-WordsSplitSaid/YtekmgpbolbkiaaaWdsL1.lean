/- Layer 18's laws: advance, split, room. -/
import Derived.Test.YtekmgpbolbkiaaaWdsWB
import Derived.Test.YtekmgpbolbkiaaaWdsQ
namespace Go.Proofs.Ytekmgpbolbkiaaa
open Go.RowKit FixM FixP TreN WdsP
set_option linter.unusedVariables false

set_option maxRecDepth 100000 in
set_option maxHeartbeats 4000000 in
theorem WordsAdvance_walk (c : Int) (w : World) : Calls Try.prog 4 #[.int .u8 c] w fun e w' => e = .returned (.bool true) ∧ Below w.heap.size w w' := by
  have C1 := Advance18_any c
  have C2 := refAdvance18_any c
  generalize advB c = v at *
  have CC1 := Lib.hid C1
  have CC2 := Lib.hid C2
  clear C1 C2
  go_enter Try.func4, Try.ntmps4
  go_wp2_with fail
  refine (CC1.out _).mono ?_
  rintro e w1 ⟨rfl, rfl⟩
  go_wp2_with fail
  refine (CC2.out _).mono ?_
  rintro e w1 ⟨rfl, rfl⟩
  go_wp2_with fail
  refine (known18_any _).mono ?_
  rintro e w2 ⟨rfl, hb⟩
  have HB := Lib.hid hb
  clear hb
  go_wp2_with fail
  go_ret
  exact ⟨rfl, HB.out⟩

set_option maxRecDepth 100000 in
set_option maxHeartbeats 4000000 in
theorem WordsSplit_walk (s : ByteArray) (font : Int) (w : World) : Calls Try.prog 3 #[.string s, .int .i64 font] w fun e w' => e = .returned (.bool true) ∧ Below w.heap.size w w' := by
  by_cases h : s.size ≤ 300
  · have F := few18_any s
    rw [decide_eq_true h] at F
    have FF := Lib.hid F
    have C1 := Lib.hid (fun w => Split18_any s w h)
    have C2 := Lib.hid (fun w => refSplit18_any s w h)
    have HSZ := Lib.hid (words_sz s)
    have hlen := words_len s
    obtain ⟨L, hL⟩ : ∃ L, wordsS s = L := ⟨_, rfl⟩
    rw [hL] at C1 C2 HSZ hlen
    obtain ⟨n, hn⟩ : ∃ n, L.length = n := ⟨_, rfl⟩
    have HN := Lib.hid hn
    rw [hn] at hlen
    have HX : Hid ((∀ x ∈ L, x.size ≤ maxLen) ∧ ∀ x ∈ L, x.size ≤ 1000) := Lib.hid ⟨fun x hx => by have := HSZ.out x hx; unfold maxLen; omega, fun x hx => Nat.le_trans (HSZ.out x hx) (by omega)⟩
    have hX1 : (∀ x ∈ [s], x.size ≤ maxLen) ∧ ∀ x ∈ [s], x.size ≤ 1000 := ⟨fun x hx => by rw [List.mem_singleton] at hx; subst hx; unfold maxLen; omega, fun x hx => by rw [List.mem_singleton] at hx; subst hx; omega⟩
    have HX1 := Lib.hid hX1
    clear hL hn F hX1
    go_enter Try.func3, Try.ntmps3
    go_wp2_with fail
    refine (FF.out _).mono ?_
    rintro e w0 ⟨rfl, rfl⟩
    go_wp2_with fail
    refine (C1.out _).mono ?_
    rintro e w1 ⟨a, c, rfl, hc1, hc2, hb1, hW1⟩
    rw [HN.out]
    have HB1 := Lib.hid hb1
    have HW1 := Lib.hid hW1
    clear hb1 hW1
    go_wp2_with fail
    refine (C2.out _).mono ?_
    rintro e w2 ⟨a2, c2, rfl, hc3, hc4, hb2, hW2⟩
    rw [HN.out]
    have HB2 := Lib.hid (HB1.out.trans (hb2.mono HB1.out.size))
    have HW12 := Lib.hid (HW1.out.below hb2)
    have HW2 := Lib.hid hW2
    clear hb2 hW2 hc1 hc2 hc3 hc4
    go_wp2_with fail
    refine (SameTexts18_eq a a2 n c c2 L w2 HN.out (by omega) HW12.out HW2.out).mono ?_
    rintro e w3 ⟨rfl, q, hq⟩
    have HB3 : Hid (Below w.heap.size w w3) := Lib.hid (by rw [hq]; exact below_drewW HB2.out q)
    have HW3 : Hid (WS w3 a L) := Lib.hid (by rw [hq]; exact HW12.out)
    clear hq
    go_wp2_with fail
    refine (Width18_any a L n c font w3 HN.out (by omega) HX.out.1 HW3.out).mono ?_
    rintro e w4 ⟨rfl, hb4⟩
    have HB4 := Lib.hid (HB3.out.trans (hb4.mono HB3.out.size))
    have HW4 := Lib.hid (HW3.out.below hb4)
    have CR := refWidth18_any a L n c 0 n font w4 HN.out (by omega) (by omega) (by omega) HX.out.2 HW4.out
    have hsa : seg L 0 n = L := by rw [← HN.out]; exact seg_all L
    rw [hsa] at CR
    obtain ⟨v, hv⟩ : ∃ v, wid font L = v := ⟨_, rfl⟩
    rw [hv] at CR ⊢
    have CRR := Lib.hid CR
    clear hb4 CR hsa hv
    go_wp2_with fail
    refine CRR.out.mono ?_
    rintro e w5 ⟨rfl, rfl⟩
    clear CRR
    go_wp2_with fail
    have hS5 : WS (w4.alloc (.cells #[.string s] 9)) (some ⟨w4.heap.size, 0, none⟩) [s] := Or.inr ⟨_, 0, rfl, by simp, fun i hi => by
      have e : i = 0 := by simp at hi; omega
      subst e; exact cell_of (heap_alloc_new w4 _) rfl⟩
    have HB5 := Lib.hid (HB4.out.alloc HB4.out.size (.cells #[.string s] 9))
    refine (Width18_any _ [s] 1 1 font _ rfl (by omega) HX1.out.1 hS5).mono ?_
    rintro e w6 ⟨rfl, hb6⟩
    have HB6 := Lib.hid (HB5.out.trans (hb6.mono HB5.out.size))
    clear hb6 hS5
    go_wp2_with fail
    have hS7 : WS (w6.alloc (.cells #[.string s] 9)) (some ⟨w6.heap.size, 0, none⟩) [s] := Or.inr ⟨_, 0, rfl, by simp, fun i hi => by
      have e : i = 0 := by simp at hi; omega
      subst e; exact cell_of (heap_alloc_new w6 _) rfl⟩
    have HB7 := Lib.hid (HB6.out.alloc HB6.out.size (.cells #[.string s] 9))
    have CR7 := refWidth18_any _ [s] 1 1 0 1 font _ rfl (by omega) (by omega) (by omega) HX1.out.2 hS7
    have hsa : seg [s] 0 1 = [s] := rfl
    rw [hsa] at CR7
    obtain ⟨v7, hv7⟩ : ∃ v, wid font [s] = v := ⟨_, rfl⟩
    rw [hv7] at CR7 ⊢
    clear hS7 hsa hv7
    refine CR7.mono ?_
    rintro e w8 ⟨rfl, rfl⟩
    clear CR7
    go_wp2_with fail
    refine (known18_any _).mono ?_
    rintro e w9 ⟨rfl, hb9⟩
    have HB9 := Lib.hid (HB7.out.trans (hb9.mono HB7.out.size))
    clear hb9
    go_wp2_with fail
    go_ret
    exact ⟨rfl, HB9.out⟩
  · have F := few18_any s
    rw [decide_eq_false h] at F
    have FF := Lib.hid F
    clear F
    go_enter Try.func3, Try.ntmps3
    go_wp2_with fail
    refine (FF.out _).mono ?_
    rintro e w0 ⟨rfl, rfl⟩
    go_wp2_with fail
    refine (known18_any _).mono ?_
    rintro e w9 ⟨rfl, hb9⟩
    have HB9 := Lib.hid hb9
    clear hb9
    go_wp2_with fail
    go_ret
    exact ⟨rfl, HB9.out⟩
end Go.Proofs.Ytekmgpbolbkiaaa
