/- The law LexBlanks. -/
import Derived.Test.YtipmgoejdkpknaaLexS
namespace Go.Proofs.Ytipmgoejdkpknaa
open Go.RowKit TreN LexP FixP FixM Go.Sort
set_option linter.unusedVariables false

theorem text_eq (s : ByteArray) : s = ⟨s.data.toList.toArray⟩ := by cases s; simp
theorem str_size (x : List UInt8) : (⟨x.toArray⟩ : ByteArray).size = x.length := by show x.toArray.size = _; simp

set_option maxRecDepth 100000 in
set_option maxHeartbeats 4000000 in
theorem LexBlanks_walk (s t : ByteArray) (w : World) (h : Has0 w) (hs : s.size ≤ maxLen) (ht : t.size ≤ maxLen) :
    Calls Try.prog 7 #[.string s, .string t] w fun e w' => e = .returned (.bool true) ∧ Below w.heap.size w w' := by
  unfold maxLen at hs ht
  have hk : ∀ W : World, Below w.heap.size w W → Calls Try.prog 8 #[] W fun e w' => e = .returned (.bool true) ∧ Below W.heap.size W w' := fun W hW => known5_any W (h.below hW)
  have KN := Lib.hid hk
  by_cases hx : s.size ≤ 2000 ∧ t.size ≤ 2000
  · obtain ⟨hx1, hx2⟩ := hx
    obtain ⟨x, rfl⟩ : ∃ x : List UInt8, s = ⟨x.toArray⟩ := ⟨_, text_eq s⟩
    obtain ⟨y, rfl⟩ : ∃ y : List UInt8, t = ⟨y.toArray⟩ := ⟨_, text_eq t⟩
    rw [str_size] at hx1 hx2
    have hz1 : ¬ (2000 : Int) < (x.length : Int) := by omega
    have hz2 : ¬ (2000 : Int) < (y.length : Int) := by omega
    have hz1d : decide (2000 < x.length) = false := by simp; omega
    have hz2d : decide (2000 < y.length) = false := by simp; omega
    clear hs ht
    have a1 : ∀ W : World, (Op.stringOp .add ⟨x.toArray⟩ ⟨#[32]⟩).run Try.prog W = .ok (.string ⟨(x ++ [32]).toArray⟩) W := fun W => add_any W x [32] (by omega) (by simp)
    have a2 : ∀ W : World, (Op.stringOp .add ⟨(x ++ [32]).toArray⟩ ⟨y.toArray⟩).run Try.prog W = .ok (.string ⟨(x ++ 32 :: y).toArray⟩) W := fun W => by
      have := add_any W (x ++ [32]) y (by simp; omega) (by omega)
      rw [List.append_assoc] at this
      exact this
    have a3 : ∀ W : World, (Op.stringOp .add ⟨x.toArray⟩ ⟨#[32, 9, 10]⟩).run Try.prog W = .ok (.string ⟨(x ++ [32, 9, 10]).toArray⟩) W := fun W => add_any W x [32, 9, 10] (by omega) (by simp)
    have a4 : ∀ W : World, (Op.stringOp .add ⟨(x ++ [32, 9, 10]).toArray⟩ ⟨y.toArray⟩).run Try.prog W = .ok (.string ⟨(x ++ 32 :: 9 :: 10 :: y).toArray⟩) W := fun W => by
      have := add_any W (x ++ [32, 9, 10]) y (by simp; omega) (by omega)
      rw [List.append_assoc] at this
      exact this
    have hL1 : ∀ W : World, Below w.heap.size w W → Calls Try.prog 14 #[.string ⟨(x ++ 32 :: y).toArray⟩] W (ToldTks W (cut (x ++ 32 :: y)) 0) := fun W hW => by
      have := Lex_any ⟨(x ++ 32 :: y).toArray⟩ W (h.below hW) (by rw [str_size]; simp; omega)
      rw [size_txS] at this
      exact this
    have hL2 : ∀ W : World, Below w.heap.size w W → Calls Try.prog 14 #[.string ⟨(x ++ 32 :: 9 :: 10 :: y).toArray⟩] W (ToldTks W (cut (x ++ 32 :: 9 :: 10 :: y)) 0) := fun W hW => by
      have := Lex_any ⟨(x ++ 32 :: 9 :: 10 :: y).toArray⟩ W (h.below hW) (by rw [str_size]; simp; omega)
      rw [size_txS] at this
      exact this
    have hC : ∀ W : World, Calls Try.prog 17 #[.string ⟨(x ++ [32]).toArray⟩] W (ToldList W (cut (x ++ [32]))) := fun W => by
      have := refCut_any ⟨(x ++ [32]).toArray⟩ W (by rw [str_size]; simp; omega)
      rw [size_txS] at this
      exact this
    have hbl : (∀ u, (cut (x ++ [32])).getLast? = some u → u.kind = 20) → cut (x ++ 32 :: y) = cut (x ++ 32 :: 9 :: 10 :: y) := fun hu => blanks y x.length x (Nat.le_refl _) hu
    have hl1 := (cut_texts _ (x ++ 32 :: y) (Nat.le_refl _)).1
    have hl2 := (cut_texts _ (x ++ [32]) (Nat.le_refl _)).1
    simp only [List.length_append, List.length_cons, List.length_nil] at hl1 hl2
    obtain ⟨c1, hc1⟩ : ∃ c, cut (x ++ 32 :: y) = c := ⟨_, rfl⟩
    obtain ⟨c2, hc2⟩ : ∃ c, cut (x ++ 32 :: 9 :: 10 :: y) = c := ⟨_, rfl⟩
    obtain ⟨c3, hc3⟩ : ∃ c, cut (x ++ [32]) = c := ⟨_, rfl⟩
    rw [hc1] at hL1 hbl hl1
    rw [hc2] at hL2 hbl
    rw [hc3] at hC hbl hl2
    have HL1 := Lib.hid hL1
    have HL2 := Lib.hid hL2
    have HC := Lib.hid hC
    unfold ToldTks at HL1 HL2
    unfold ToldList at HC
    obtain ⟨n3, hn3⟩ : ∃ n, c3.length = n := ⟨_, rfl⟩
    have HN3 := Lib.hid hn3
    rw [hn3] at HC hl2
    have HBL := Lib.hid hbl
    clear hL1 hL2 hC hc1 hc2 hc3 h hk hn3 hbl
    rcases (by omega : n3 = 0 ∨ 0 < n3) with h0 | h0
    · subst h0
      go_enter Try.func7, Try.ntmps7
      go_wp2_with fail
      refine (HL1.out _ (Below.refl _ _)).mono ?_
      rintro e w1 ⟨b1, p1, rfl, hT1, hb1⟩
      have HB1 := Lib.hid hb1
      clear hb1 hT1
      go_wp2_with fail
      refine (HL2.out _ HB1.out).mono ?_
      rintro e w2 ⟨b2, p2, rfl, hT2, hb2⟩
      have HB2 := Lib.hid (HB1.out.trans (hb2.mono HB1.out.size))
      clear hb2 hT2
      go_wp2_with fail
      refine (HC.out _).mono ?_
      rintro e w3 ⟨b3, p3, rfl, hT3, hb3⟩
      have HB3 := Lib.hid (HB2.out.trans (hb3.mono HB2.out.size))
      clear hb3 hT3
      go_wp2_with fail
      refine (KN.out _ HB3.out).mono ?_
      rintro e w4 ⟨rfl, hb⟩
      have HB4 := Lib.hid (HB3.out.trans (hb.mono HB3.out.size))
      clear hb
      go_wp2_with fail
      go_ret
      exact ⟨rfl, HB4.out⟩
    · obtain ⟨j, hj⟩ : ∃ j, n3 = j + 1 := ⟨n3 - 1, by omega⟩
      have hlt : j < c3.length := by have := HN3.out; omega
      obtain ⟨u, hu⟩ : ∃ u, c3[j] = u := ⟨_, rfl⟩
      have hlast : c3.getLast? = some u := by
        rw [List.getLast?_eq_getElem?, ← hu, ← List.getElem?_eq_getElem hlt]
        congr 1
        have := HN3.out; omega
      have HGET := Lib.hid hu
      have hSm : u.kind = 20 → ∀ (W : World) (a a2 : Option Addr) (q q2 : Nat), Tks W a c1 → Tks W a2 c2 → Calls Try.prog 16 #[.slice a c1.length q, .slice a2 c2.length q2] W fun e w' => e = .returned (.bool true) ∧ Below W.heap.size W w' := fun hk W a a2 q q2 h1 h2 => by
        have he := HBL.out (fun v hv => by rw [hlast] at hv; injection hv with hv; subst hv; exact hk)
        have := Tks.sameC (c := q) (c2 := q2) (by omega) h1 h2
        rw [decide_eq_true he] at this
        exact this
      obtain ⟨m1, hm1⟩ : ∃ m, c1.length = m := ⟨_, rfl⟩
      obtain ⟨m2, hm2⟩ : ∃ m, c2.length = m := ⟨_, rfl⟩
      rw [hm1] at HL1 hl1
      rw [hm2] at HL2
      rw [hm1, hm2] at hSm
      have HSM := Lib.hid hSm
      have hw : IntKind.i64.wrap ((n3 : Int) - 1) = (j : Int) := by
        have e1 : (n3 : Int) - 1 = (j : Int) := by omega
        rw [e1]; exact IntWalk.i64_in _ (by omega)
      have hq1 : (j : Int) < (n3 : Int) := by omega
      have hq2 : j < n3 := by omega
      have hz3 : ((n3 : Int) == 0) = false := by rw [beq_eq_false_iff_ne]; omega
      have hq3 : ¬ n3 = 0 := by omega
      have HJ := Lib.hid hj
      clear hSm hm1 hm2 hu hlast hj h0
      obtain ⟨k, hkk⟩ : ∃ k, u.kind = k := ⟨_, rfl⟩
      rw [hkk] at HSM
      by_cases h20 : k = 20
      · subst h20
        go_enter Try.func7, Try.ntmps7
        go_wp2_with fail
        refine (HL1.out _ (Below.refl _ _)).mono ?_
        rintro e w1 ⟨b1, p1, rfl, hT1, hb1⟩
        have HB1 := Lib.hid hb1
        have HT1 := Lib.hid hT1
        clear hb1 hT1
        go_wp2_with fail
        refine (HL2.out _ HB1.out).mono ?_
        rintro e w2 ⟨b2, p2, rfl, hT2, hb2⟩
        have HB2 := Lib.hid (HB1.out.trans (hb2.mono HB1.out.size))
        have HT1 := Lib.hid (HT1.out.below hb2)
        have HT2 := Lib.hid hT2
        clear hb2 hT2
        go_wp2_with fail
        refine (HC.out _).mono ?_
        rintro e w3 ⟨b3, p3, rfl, hT3, hb3⟩
        have HB3 := Lib.hid (HB2.out.trans (hb3.mono HB2.out.size))
        have HT1 := Lib.hid (HT1.out.below hb3)
        have HT2 := Lib.hid (HT2.out.below hb3)
        obtain ⟨g3, o3, rfl, g4, k3⟩ := hT3.get hlt
        rw [HGET.out] at k3
        have d1 : w3.cell? ⟨g3, o3 + j * 3, none⟩ = some (.int .i64 20) := by rw [← hkk]; exact k3.kind
        clear hb3 hT3 k3 hkk
        go_wp2_with fail
        refine (HSM.out (by trivial) _ _ _ _ _ HT1.out HT2.out).mono ?_
        rintro e w4 ⟨rfl, hb4⟩
        have HB4 := Lib.hid (HB3.out.trans (hb4.mono HB3.out.size))
        clear hb4
        go_wp2_with fail
        refine (KN.out _ HB4.out).mono ?_
        rintro e w5 ⟨rfl, hb5⟩
        have HB5 := Lib.hid (HB4.out.trans (hb5.mono HB4.out.size))
        clear hb5
        go_wp2_with fail
        go_ret
        exact ⟨rfl, HB5.out⟩
      · go_enter Try.func7, Try.ntmps7
        go_wp2_with fail
        refine (HL1.out _ (Below.refl _ _)).mono ?_
        rintro e w1 ⟨b1, p1, rfl, hT1, hb1⟩
        have HB1 := Lib.hid hb1
        have HT1 := Lib.hid hT1
        clear hb1 hT1
        go_wp2_with fail
        refine (HL2.out _ HB1.out).mono ?_
        rintro e w2 ⟨b2, p2, rfl, hT2, hb2⟩
        have HB2 := Lib.hid (HB1.out.trans (hb2.mono HB1.out.size))
        have HT1 := Lib.hid (HT1.out.below hb2)
        have HT2 := Lib.hid hT2
        clear hb2 hT2
        go_wp2_with fail
        refine (HC.out _).mono ?_
        rintro e w3 ⟨b3, p3, rfl, hT3, hb3⟩
        have HB3 := Lib.hid (HB2.out.trans (hb3.mono HB2.out.size))
        have HT1 := Lib.hid (HT1.out.below hb3)
        have HT2 := Lib.hid (HT2.out.below hb3)
        obtain ⟨g3, o3, rfl, g4, k3⟩ := hT3.get hlt
        rw [HGET.out] at k3
        have d1 : w3.cell? ⟨g3, o3 + j * 3, none⟩ = some (.int .i64 k) := by rw [← hkk]; exact k3.kind
        clear hb3 hT3 k3 hkk
        have hkz : (k == 20) = false := by rw [beq_eq_false_iff_ne]; exact h20
        have hkz2 : (k != 20) = true := by rw [bne_iff_ne]; exact h20
        go_wp2_with fail
        refine (KN.out _ HB3.out).mono ?_
        rintro e w5 ⟨rfl, hb5⟩
        have HB5 := Lib.hid (HB3.out.trans (hb5.mono HB3.out.size))
        clear hb5
        go_wp2_with fail
        go_ret
        exact ⟨rfl, HB5.out⟩
  · have hz : decide (2000 < s.size) = true ∨ (decide (2000 < s.size) = false ∧ decide (2000 < t.size) = true) := by
      by_cases q : 2000 < s.size
      · left; simpa using q
      · right; refine ⟨by simpa using q, ?_⟩
        simp; omega
    clear hx h hk
    rcases hz with hz | ⟨hz, hz2⟩
    · have hz' : (2000 : Int) < (s.size : Int) := by simp at hz; omega
      go_enter Try.func7, Try.ntmps7
      go_wp2_with fail
      refine (KN.out _ (Below.refl _ _)).mono ?_
      rintro e w1 ⟨rfl, hb⟩
      go_wp2_with fail
      go_ret
      exact ⟨rfl, hb⟩
    · have hz' : ¬ (2000 : Int) < (s.size : Int) := by simp at hz; omega
      have hz2' : (2000 : Int) < (t.size : Int) := by simp at hz2; omega
      go_enter Try.func7, Try.ntmps7
      go_wp2_with fail
      refine (KN.out _ (Below.refl _ _)).mono ?_
      rintro e w1 ⟨rfl, hb⟩
      go_wp2_with fail
      go_ret
      exact ⟨rfl, hb⟩
end Go.Proofs.Ytipmgoejdkpknaa
