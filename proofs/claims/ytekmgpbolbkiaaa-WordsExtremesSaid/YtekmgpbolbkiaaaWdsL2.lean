/- Layer 18's laws: lines, room, extremes. -/
import Derived.Test.YtekmgpbolbkiaaaWdsWB
import Derived.Test.YtekmgpbolbkiaaaWdsQ
namespace Go.Proofs.Ytekmgpbolbkiaaa
open Go.RowKit FixM FixP TreN WdsP
set_option linter.unusedVariables false

set_option maxRecDepth 100000 in
set_option maxHeartbeats 4000000 in
theorem WordsRoom_walk (s : ByteArray) (font a b : Int) (w : World) : Calls Try.prog 7 #[.string s, .int .i64 font, .int .i64 a, .int .i64 b] w fun e w' => e = .returned (.bool true) ∧ Below w.heap.size w w' := by
  have F := few18_any s
  by_cases h : s.size ≤ 300
  · rw [decide_eq_true h] at F
    have FF := Lib.hid F
    by_cases hab : a ≤ b
    · by_cases hf : 0 ≤ font
      · have C1 := Lib.hid (fun w => Break18_any s font b w h)
        have C2 := Lib.hid (fun w => Break18_any s font a w h)
        have hle := lines_room hf (H_mono hab) (wordsS s)
        unfold ToldL at C1 C2
        generalize linesS font (H b) (wordsS s) = lb at *
        generalize linesS font (H a) (wordsS s) = la at *
        obtain ⟨na, hna⟩ : ∃ n, la.length = n := ⟨_, rfl⟩
        obtain ⟨nb, hnb⟩ : ∃ n, lb.length = n := ⟨_, rfl⟩
        rw [hna, hnb] at hle
        rw [hna] at C2
        rw [hnb] at C1
        clear hna hnb F
        go_enter Try.func7, Try.ntmps7
        go_wp2_with fail
        refine (FF.out _).mono ?_
        rintro e w0 ⟨rfl, rfl⟩
        go_wp2_with fail
        refine (C1.out _).mono ?_
        rintro e w1 ⟨v1, rfl, hr1, hb1⟩
        have HB1 := Lib.hid hb1
        obtain ⟨a1, c1, rfl⟩ : ∃ a c, v1 = .slice a nb c := by
          rcases hr1.2 with ⟨rfl, rfl⟩ | ⟨g, cap, cur, rfl, _⟩
          · exact ⟨none, 0, rfl⟩
          · exact ⟨_, _, rfl⟩
        clear hr1 hb1
        go_wp2_with fail
        refine (C2.out _).mono ?_
        rintro e w2 ⟨v2, rfl, hr2, hb2⟩
        have HB2 := Lib.hid (HB1.out.trans (hb2.mono HB1.out.size))
        obtain ⟨a2, c2, rfl⟩ : ∃ a c, v2 = .slice a na c := by
          rcases hr2.2 with ⟨rfl, rfl⟩ | ⟨g, cap, cur, rfl, _⟩
          · exact ⟨none, 0, rfl⟩
          · exact ⟨_, _, rfl⟩
        clear hr2 hb2
        have hlez : (nb : Int) ≤ (na : Int) := by omega
        go_wp2_with fail
        refine (known18_any _).mono ?_
        rintro e w9 ⟨rfl, hb9⟩
        have HB9 := Lib.hid (HB2.out.trans (hb9.mono HB2.out.size))
        clear hb9
        go_wp2_with fail
        go_ret
        exact ⟨rfl, HB9.out⟩
      · clear F
        go_enter Try.func7, Try.ntmps7
        go_wp2_with fail
        refine (FF.out _).mono ?_
        rintro e w0 ⟨rfl, rfl⟩
        go_wp2_with fail
        refine (known18_any _).mono ?_
        rintro e w9 ⟨rfl, hb9⟩
        have HB9 := Lib.hid hb9
        clear hb9
        go_wp2_with fail
        go_ret
        exact ⟨rfl, HB9.out⟩
    · clear F
      go_enter Try.func7, Try.ntmps7
      go_wp2_with fail
      refine (FF.out _).mono ?_
      rintro e w0 ⟨rfl, rfl⟩
      go_wp2_with fail
      refine (known18_any _).mono ?_
      rintro e w9 ⟨rfl, hb9⟩
      have HB9 := Lib.hid hb9
      clear hb9
      go_wp2_with fail
      go_ret
      exact ⟨rfl, HB9.out⟩
  · rw [decide_eq_false h] at F
    have FF := Lib.hid F
    clear F
    go_enter Try.func7, Try.ntmps7
    go_wp2_with fail
    refine (FF.out _).mono ?_
    rintro e w0 ⟨rfl, rfl⟩
    go_wp2_with fail
    refine (known18_any _).mono ?_
    rintro e w9 ⟨rfl, hb9⟩
    have HB9 := Lib.hid hb9
    clear hb9
    go_wp2_with fail
    go_ret
    exact ⟨rfl, HB9.out⟩

/-- lines in memory -/
def LnAt (w : World) (a : Option Addr) (l : List Ln) : Prop := l = [] ∨ ∃ g, a = some ⟨g, 0, none⟩ ∧ g < w.heap.size ∧ ∀ i (h : i < l.length), w.cell? ⟨g, i * 3, none⟩ = some (.int .i64 (l[i].1 : Int)) ∧ w.cell? ⟨g, i * 3 + 1, none⟩ = some (.int .i64 (l[i].2.1 : Int)) ∧ w.cell? ⟨g, i * 3 + 2, none⟩ = some (.int .i64 l[i].2.2)
theorem ln_own {w : World} {base : Nat} {T : TypeId} {v : Value} {l : List Ln} (h : w.ownsRow base T 3 v l.length (lcs l)) : ∃ a c, v = .slice a l.length c ∧ LnAt w a l := by
  by_cases h0 : l.length = 0
  · have e : l = [] := List.eq_nil_of_length_eq_zero h0
    rcases h.2 with ⟨hv, _⟩ | ⟨g, cp, cur, hv, _⟩
    · rw [h0]; exact ⟨none, 0, hv, Or.inl e⟩
    · exact ⟨_, _, hv, Or.inl e⟩
  · obtain ⟨g, cap, hv, hg, hlt⟩ := h.form (by omega)
    refine ⟨_, cap, hv, Or.inr ⟨g, rfl, hlt, fun i hi => ?_⟩⟩
    subst hv
    have hc := lcs_at hi
    rw [h.cellAt _ (by omega), h.cellAt _ (by omega), h.cellAt _ (by omega)]
    exact hc
theorem LnAt.below {w w' : World} {a : Option Addr} {l : List Ln} (h : LnAt w a l) (hb : Below w.heap.size w w') : LnAt w' a l := by
  rcases h with h | ⟨g, h1, h2, h3⟩
  · exact Or.inl h
  · refine Or.inr ⟨g, h1, Nat.lt_of_lt_of_le h2 hb.size, fun i hi => ?_⟩
    obtain ⟨k1, k2, k3⟩ := h3 i hi
    exact ⟨(hb.cell (p := ⟨g, i * 3, none⟩) h2).trans k1, (hb.cell (p := ⟨g, i * 3 + 1, none⟩) h2).trans k2, (hb.cell (p := ⟨g, i * 3 + 2, none⟩) h2).trans k3⟩
theorem LnAt.at_ {w : World} {a : Option Addr} {l : List Ln} (h : LnAt w a l) {i : Nat} (hi : i < l.length) : ∃ g, a = some ⟨g, 0, none⟩ ∧ w.cell? ⟨g, i * 3, none⟩ = some (.int .i64 (l[i].1 : Int)) ∧ w.cell? ⟨g, i * 3 + 1, none⟩ = some (.int .i64 (l[i].2.1 : Int)) ∧ w.cell? ⟨g, i * 3 + 2, none⟩ = some (.int .i64 l[i].2.2) := by
  rcases h with h | ⟨g, h1, h2, h3⟩
  · subst h; simp at hi
  · exact ⟨g, h1, h3 i hi⟩

set_option maxRecDepth 100000 in
set_option maxHeartbeats 8000000 in
theorem WordsBreak_walk (s : ByteArray) (font room : Int) (w : World) : Calls Try.prog 5 #[.string s, .int .i64 font, .int .i64 room] w fun e w' => e = .returned (.bool true) ∧ Below w.heap.size w w' := by
  have F := few18_any s
  by_cases h : s.size ≤ 300
  · rw [decide_eq_true h] at F
    have FF := Lib.hid F
    have C1 := Lib.hid (fun w => Break18_any s font room w h)
    have C2 := Lib.hid (fun w => refBreak18_any s font room w h)
    have hlen := words_len s
    have hll := linesAt_len font (H room) (wordsS s) (wordsS s).length
    unfold ToldL at C1 C2
    change (linesS font (H room) (wordsS s)).length ≤ _ at hll
    obtain ⟨l, hl⟩ : ∃ l, linesS font (H room) (wordsS s) = l := ⟨_, rfl⟩
    rw [hl] at C1 C2 hll
    obtain ⟨n, hn⟩ : ∃ n, l.length = n := ⟨_, rfl⟩
    have HN := Lib.hid hn
    rw [hn] at hll
    have hnb : n ≤ 400 := by omega
    clear F hl hn hll hlen
    go_enter Try.func5, Try.ntmps5
    go_wp2_with fail
    refine (FF.out _).mono ?_
    rintro e w0 ⟨rfl, rfl⟩
    go_wp2_with fail
    refine (C1.out _).mono ?_
    rintro e w1 ⟨v1, rfl, hr1, hb1⟩
    obtain ⟨a1, c1, rfl, hA1⟩ := ln_own hr1
    rw [HN.out]
    have HB1 := Lib.hid hb1
    have HA1 := Lib.hid hA1
    clear hr1 hb1 hA1
    go_wp2_with fail
    refine (C2.out _).mono ?_
    rintro e w2 ⟨v2, rfl, hr2, hb2⟩
    obtain ⟨a2, c2, rfl, hA2⟩ := ln_own hr2
    rw [HN.out]
    have HB2 := Lib.hid (HB1.out.trans (hb2.mono HB1.out.size))
    have HA12 := Lib.hid (HA1.out.below hb2)
    have HA2 := Lib.hid hA2
    clear hr2 hb2 hA2
    go_wp2_with fail
    go_loopw [9] (fun vi wr => ∃ k q : Nat, vi = .int .i64 (k : Int) ∧ k ≤ n ∧ wr = w2.drewN q) (fun vi _ => n - (intOf vi).toNat)
    case atStart => exact ⟨0, 0, rfl, by omega, rfl⟩
    case round =>
      obtain ⟨k, q, rfl, hk, rfl⟩ := hrel
      by_cases hlt : k < n
      · have hltz : (k : Int) < (n : Int) := by omega
        have hkl : k < l.length := by have := HN.out; omega
        obtain ⟨g1, rfl, p0, p1, p2⟩ := HA12.out.at_ hkl
        obtain ⟨g2, rfl, q0, q1, q2⟩ := HA2.out.at_ hkl
        obtain ⟨x0, hx0⟩ : ∃ x : Int, (l[k].1 : Int) = x := ⟨_, rfl⟩
        obtain ⟨x1, hx1⟩ : ∃ x : Int, (l[k].2.1 : Int) = x := ⟨_, rfl⟩
        obtain ⟨x2, hx2⟩ : ∃ x : Int, l[k].2.2 = x := ⟨_, rfl⟩
        rw [hx0] at p0 q0
        rw [hx1] at p1 q1
        rw [hx2] at p2 q2
        have r0 : (w2.drewN q).cell? ⟨g1, k * 3, none⟩ = some (.int .i64 x0) := p0
        have r1 : (w2.drewN q).cell? ⟨g1, k * 3 + 1, none⟩ = some (.int .i64 x1) := p1
        have r2 : (w2.drewN q).cell? ⟨g1, k * 3 + 2, none⟩ = some (.int .i64 x2) := p2
        have s0 : (w2.drewN q).cell? ⟨g2, k * 3, none⟩ = some (.int .i64 x0) := q0
        have s1 : (w2.drewN q).cell? ⟨g2, k * 3 + 1, none⟩ = some (.int .i64 x1) := q1
        have s2 : (w2.drewN q).cell? ⟨g2, k * 3 + 2, none⟩ = some (.int .i64 x2) := q2
        clear p0 p1 p2 q0 q1 q2 hx0 hx1 hx2
        generalize hwq : w2.drewN q = wq at *
        have HW := Lib.hid hwq
        clear hwq
        go_wp2_with fail
        go_quiet (fail)
        go_wp2_with fail
        go_roundw
        case rel => exact ⟨k + 1, q + nq, by go_num, by omega, by rw [← HW.out, World.drewN_drewN]⟩
        case measure => simp [intOf]; omega
      · have hltz : ¬ (k : Int) < (n : Int) := by omega
        go_wp2_with fail
        refine (known18_any _).mono ?_
        rintro e w9 ⟨rfl, hb9⟩
        have HB9 := Lib.hid ((below_drewW HB2.out q).trans (hb9.mono (below_drewW HB2.out q).size))
        clear hb9
        go_wp2_with fail
        go_ret
        exact ⟨rfl, HB9.out⟩
  · rw [decide_eq_false h] at F
    have FF := Lib.hid F
    clear F
    go_enter Try.func5, Try.ntmps5
    go_wp2_with fail
    refine (FF.out _).mono ?_
    rintro e w0 ⟨rfl, rfl⟩
    go_wp2_with fail
    refine (known18_any _).mono ?_
    rintro e w9 ⟨rfl, hb9⟩
    have HB9 := Lib.hid hb9
    clear hb9
    go_wp2_with fail
    go_ret
    exact ⟨rfl, HB9.out⟩
end Go.Proofs.Ytekmgpbolbkiaaa
