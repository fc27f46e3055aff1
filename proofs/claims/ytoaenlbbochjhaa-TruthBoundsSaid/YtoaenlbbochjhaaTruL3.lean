/- Layer 14, the laws: what is known of the line alone stays known with the height. -/
import Derived.Test.YtoaenlbbochjhaaTruL1
import Derived.Test.YtoaenlbbochjhaaTruQ
import Derived.Test.YtoaenlbbochjhaaQryRa
namespace Go.Proofs.Ytoaenlbbochjhaa
open Go.RowKit TreN LexP FixP SynP ValP FixM QryP TruP Go.Sort
set_option linter.unusedVariables false

theorem q_boxed {w W : World} {b : Nat} {x : ByteArray} {a : Option Addr} {n c : Nat} {T : TypeId} (h : W.heap[b]? = some (.cells #[.string x, .slice a n c] T (0, 0))) : W.cell? ⟨b, 0, none⟩ = some (.string x) ∧ W.cell? ⟨b, 1, none⟩ = some (.slice a n c) := ⟨cell_of h rfl, cell_of h rfl⟩
set_option maxRecDepth 100000 in
set_option maxHeartbeats 8000000 in
theorem TruthMore_walk (x : List UInt8) (hs : x.length ≤ maxLen) (a : Option Addr) (L : List QN) (n c : Nat) (ww hh : Int) (w : World) (hn : L.length = n) (hm : n ≤ maxLen) (hQ : Qns w a L) :
    Calls Try.prog 6 #[.agg #[.string ⟨x.toArray⟩, .slice a n c], .int .i64 ww, .int .i64 hh] w fun e w' => e = .returned (.bool true) ∧ Below w.heap.size w w' := by
  have E1 := fun W (hW : Below w.heap.size w W) => Eval14_any x hs a L n c 1 ⟨#[]⟩ ww 0 W hn hm (hQ.below hW)
  have E2 := fun W (hW : Below w.heap.size w W) => Eval14_any x hs a L n c 2 ⟨#[]⟩ ww hh W hn hm (hQ.below hW)
  have E0 := fun W (hW : Below w.heap.size w W) => Eval14_any x hs a L n c 0 ⟨#[]⟩ ww hh W hn hm (hQ.below hW)
  have R0 := fun W (hW : Below w.heap.size w W) => refRight8_any x hs a L n c W hn hm (hQ.below hW)
  unfold exA at E0 E1 E2
  have HK := Lib.hid (fun w => knownT_any w)
  have b1 := below_oneQ w (.cells #[.string ⟨x.toArray⟩, .slice a n c] 29)
  have h1 := heap_alloc_new w (.cells #[.string ⟨x.toArray⟩, .slice a n c] 29)
  generalize hW1 : w.alloc (.cells #[.string ⟨x.toArray⟩, .slice a n c] 29) = W1 at *
  have HB1 := Lib.hid b1
  have HX1 := Lib.hid h1
  obtain ⟨q0, q1⟩ := q_boxed (w := w) h1
  clear b1 h1 hQ hn hm hs
  cases hr : rightQ ⟨x.toArray⟩ L with
  | false =>
    rw [hr] at R0
    have e2 : sayQ ⟨x.toArray⟩ L 2 ww hh = 2 := by unfold sayQ; rw [if_neg (by rw [hr]; decide)]
    rw [e2] at E2
    have HE2 := Lib.hid E2
    have HR0 := Lib.hid R0
    clear E0 E1 E2 R0 e2 hr
    go_enter Try.func6, Try.ntmps6
    go_wp2_with fail
    refine (HR0.out _ HB1.out).mono ?_
    rintro e w2 ⟨rfl, hb2⟩
    have HB2 := Lib.hid (HB1.out.trans (hb2.mono HB1.out.size))
    have h2 := (hb2.block _ (blk_ltQ HX1.out)).trans HX1.out
    clear q0 q1 hb2
    obtain ⟨q0, q1⟩ := q_boxed (w := w) h2
    clear h2
    go_wp2_with fail
    refine (HE2.out _ HB2.out).mono ?_
    rintro e w3 ⟨rfl, hb3⟩
    have HB3 := Lib.hid (HB2.out.trans (hb3.mono HB2.out.size))
    clear hb3
    go_wp2_with fail
    refine (HK.out _).mono ?_
    rintro e w4 ⟨rfl, hb4⟩
    have HB4 := Lib.hid (HB3.out.trans (hb4.mono HB3.out.size))
    clear hb4
    go_wp2_with fail
    go_ret
    exact ⟨rfl, HB4.out⟩
  | true =>
    rw [hr] at R0
    obtain ⟨l1, l2, l0⟩ := say_more ⟨x.toArray⟩ L ww hh hr
    have HR0 := Lib.hid R0
    generalize sayQ ⟨x.toArray⟩ L 1 ww 0 = A at E1 l1
    generalize sayQ ⟨x.toArray⟩ L 2 ww hh = B at E2 l1 l2 l0
    generalize sayQ ⟨x.toArray⟩ L 0 ww hh = C at E0 l0
    have HE0 := Lib.hid E0
    have HE1 := Lib.hid E1
    have HE2 := Lib.hid E2
    clear E0 E1 E2 R0 hr
    have z1 : (B == 2) = false := by rw [beq_eq_false_iff_ne]; exact l2
    have z2 : (B != 2) = true := by rw [bne_iff_ne]; exact l2
    have z3 : ((2 : Int) == B) = false := by rw [beq_eq_false_iff_ne]; exact fun h => l2 h.symm
    clear l2
    rcases l1 with rfl | rfl <;> rcases l0 with rfl | rfl
    all_goals
      go_enter Try.func6, Try.ntmps6
      go_wp2_with fail
      refine (HR0.out _ HB1.out).mono ?_
      rintro e w2 ⟨rfl, hb2⟩
      have HB2 := Lib.hid (HB1.out.trans (hb2.mono HB1.out.size))
      have h2 := (hb2.block _ (blk_ltQ HX1.out)).trans HX1.out
      have HX2 := Lib.hid h2
      clear q0 q1 hb2
      obtain ⟨q0, q1⟩ := q_boxed (w := w) h2
      clear h2
      go_wp2_with fail
      refine (HE1.out _ HB2.out).mono ?_
      rintro e w3 ⟨rfl, hb3⟩
      have HB3 := Lib.hid (HB2.out.trans (hb3.mono HB2.out.size))
      have h3 := (hb3.block _ (blk_ltQ HX2.out)).trans HX2.out
      have HX3 := Lib.hid h3
      clear q0 q1 hb3
      obtain ⟨q0, q1⟩ := q_boxed (w := w) h3
      clear h3
      go_wp2_with fail
      refine (HE2.out _ HB3.out).mono ?_
      rintro e w4 ⟨rfl, hb4⟩
      have HB4 := Lib.hid (HB3.out.trans (hb4.mono HB3.out.size))
      have h4 := (hb4.block _ (blk_ltQ HX3.out)).trans HX3.out
      have HX4 := Lib.hid h4
      clear q0 q1 hb4
      obtain ⟨q0, q1⟩ := q_boxed (w := w) h4
      clear h4
      go_wp2_with fail
      refine (HE0.out _ HB4.out).mono ?_
      rintro e w5 ⟨rfl, hb5⟩
      have HB5 := Lib.hid (HB4.out.trans (hb5.mono HB4.out.size))
      clear q0 q1 hb5
      go_wp2_with fail
      refine (HK.out _).mono ?_
      rintro e w6 ⟨rfl, hb6⟩
      have HB6 := Lib.hid (HB5.out.trans (hb6.mono HB5.out.size))
      clear hb6
      go_wp2_with fail
      go_ret
      exact ⟨rfl, HB6.out⟩
end Go.Proofs.Ytoaenlbbochjhaa
