/- Layer 8: query.Span, query.Right. -/
import Derived.Test.YtjhhpilaaahicaaQryW2
import Derived.IntWalk
namespace Go.Proofs.Ytjhhpilaaahicaa
open Go.RowKit FixM FixP TreN QryP
set_option linter.unusedVariables false

theorem q_cells {w : World} {b : Nat} {T : TypeId} {x y : Value} (h : w.heap[b]? = some (.cells #[x, y] T (0, 0))) : w.cell? ⟨b, 0, none⟩ = some x ∧ w.cell? ⟨b, 1, none⟩ = some y := ⟨cell_of h rfl, cell_of h rfl⟩
def spanI (L : List QN) (i : Int) : Int := if 0 ≤ i then (spanS L i.toNat : Int) else 0

set_option maxRecDepth 100000 in
set_option maxHeartbeats 8000000 in
theorem Span8_nat (nm : ByteArray) (a : Option Addr) (L : List QN) (n c k0 : Nat) (w : World) (hn : L.length = n) (hl : n ≤ 1000) (hk0 : k0 ≤ 9223372036854775807) (hQ : Qns w a L) :
    Calls Try.prog 70 #[.agg #[.string nm, .slice a n c], .int .i64 (k0 : Int)] w fun e w' => e = .returned (.int .i64 (spanS L k0 : Int)) ∧ Below w.heap.size w w' := by
  have HB0 := Lib.hid (below_oneQ w (.cells #[.string nm, .slice a n c] 25))
  have hx := heap_alloc_new w (.cells #[.string nm, .slice a n c] 25)
  have HQ := Lib.hid hQ
  have HN := Lib.hid hn
  obtain ⟨R, hR⟩ : ∃ R, spanS L k0 = R := ⟨_, rfl⟩
  rw [hR]
  have HR := Lib.hid hR
  generalize hW : w.alloc (.cells #[.string nm, .slice a n c] 25) = W at *
  have HX0 := Lib.hid hx
  clear hx hQ hn hR
  go_enter Try.func70, Try.ntmps70
  go_wp2_with fail
  go_loopw [1, 5] (fun vi vu wr => ∃ m u : Nat, vi = .int .i64 ((k0 + m : Nat) : Int) ∧ vu = .int .i64 (u : Int) ∧ u ≤ 2000 ∧ (m = 0 ∨ k0 + m ≤ n) ∧ Hid (eat (L.drop k0) 1 = (eat (L.drop (k0 + m)) u).map (m + ·)) ∧ Hid (Below w.heap.size w wr) ∧ Hid (wr.heap[w.heap.size]? = some (.cells #[.string nm, .slice a n c] 25 (0, 0)))) (fun vi vu _ => n + 1 - (intOf vi).toNat)
  case atStart => exact ⟨0, 1, rfl, rfl, by omega, Or.inl rfl, Lib.hid (by rw [Nat.add_zero]; cases eat (L.drop k0) 1 <;> simp), HB0, HX0⟩
  case round =>
    obtain ⟨m, u, rfl, rfl, hu, hmn, HE, HB, HX⟩ := hrel
    obtain ⟨i, hi⟩ : ∃ i, k0 + m = i := ⟨_, rfl⟩
    rw [hi] at HE hmn ⊢
    have hib : i ≤ 9223372036854775807 := by omega
    have HI := Lib.hid hi
    obtain ⟨q0, q1⟩ := q_cells HX.out
    rcases Nat.eq_zero_or_pos u with h0 | h0
    · have HF : Hid (R = i) := Lib.hid (by
        rw [← HR.out]; unfold spanS; rw [HE.out, h0, eat_zero, ← HI.out]; rfl)
      have huz : ¬ (0 : Int) < (u : Int) := by omega
      clear hi h0
      go_wp2_with fail
      go_ret
      exact ⟨by rw [HF.out]; rfl, HB.out⟩
    · have huz : (0 : Int) < (u : Int) := by omega
      by_cases hfar : n < i + u
      · have HF : Hid (R = 0) := Lib.hid (by
          rw [← HR.out]; unfold spanS; rw [HE.out, eat_far (by rw [List.length_drop, HN.out]; omega)]; rfl)
        have hfz : (n : Int) - (i : Int) < (u : Int) := by omega
        clear hi
        go_wp2_with fail
        go_ret
        exact ⟨by rw [HF.out]; rfl, HB.out⟩
      · have hin : i < n := by omega
        have hil : i < L.length := by have := HN.out; omega
        obtain ⟨b, o, rfl, hbw, hc⟩ := HQ.out.get hil
        have hcr := hc.below HB.out hbw
        have hdr : L.drop i = L[i] :: L.drop (i + 1) := List.drop_eq_getElem_cons hil
        obtain ⟨x, hxi⟩ : ∃ x, L[i] = x := ⟨_, rfl⟩
        rw [hxi] at hcr hdr
        obtain ⟨v, hv⟩ : ∃ v, u = v + 1 := ⟨u - 1, by omega⟩
        have HE2 : Hid (eat (L.drop i) u = match cntQ x with | none => none | some cc => (eat (L.drop (i + 1)) (v + cc)).map (· + 1)) := Lib.hid (by rw [hdr, hv]; exact eat_cons _ _ _)
        obtain ⟨kk, kc, kf, ⟨a1, a2, a3⟩, ⟨b1, b2, b3⟩⟩ := x
        have KC := fun W => kids8_any kk kc kf a1 a2 a3 b1 b2 b3 W
        obtain ⟨d0, d1, d2, d3, d4, d5, d6, d7, d8⟩ := hcr
        have hfz : ¬ (n : Int) - (i : Int) < (u : Int) := by omega
        have hinz : (i : Int) < (n : Int) := by omega
        have hi0 : (0 : Int) ≤ (i : Int) := by omega
        have HV := Lib.hid hv
        obtain ⟨cq, hcq⟩ : ∃ cq, cntQ ⟨kk, kc, kf, ⟨a1, a2, a3⟩, ⟨b1, b2, b3⟩⟩ = cq := ⟨_, rfl⟩
        unfold kidsV at KC
        rw [hcq] at KC HE2
        clear hc hdr hxi hv hcq hi
        cases cq with
        | none =>
          have KK := Lib.hid KC
          have HF : Hid (R = 0) := Lib.hid (by rw [← HR.out]; unfold spanS; rw [HE.out, HE2.out]; rfl)
          clear KC
          go_wp2_with fail
          refine (KK.out _).mono ?_
          rintro e w1 ⟨rfl, hb1⟩
          have HB1 := Lib.hid (HB.out.trans (hb1.mono HB.out.size))
          clear hb1
          go_wp2_with fail
          go_ret
          exact ⟨by rw [HF.out]; rfl, HB1.out⟩
        | some cc =>
          have KK := Lib.hid KC
          obtain ⟨mm, hmm⟩ : ∃ mm, min cc n = mm := ⟨_, rfl⟩
          have hmi : min (cc : Int) (n : Int) = (mm : Int) := by omega
          have hmb : mm ≤ n := by omega
          have HE3 : Hid (eat (L.drop 0) 0 = some 0 ∧ (eat (L.drop (i + 1)) (v + mm)) = eat (L.drop (i + 1)) (v + cc)) := Lib.hid ⟨eat_zero _, by rw [← hmm]; exact eat_cap (by rw [List.length_drop, HN.out]; omega)⟩
          have hlast : (k0 + (m + 1) : Nat) = i + 1 := by have := HI.out; omega
          have HL := Lib.hid hlast
          clear KC hmm hlast
          go_wp2_with fail
          refine (KK.out _).mono ?_
          rintro e w1 ⟨rfl, hb1⟩
          have hx1 := (hb1.block _ (blk_ltQ HX.out)).trans HX.out
          obtain ⟨q0, q1⟩ := q_cells hx1
          have HX1 := Lib.hid hx1
          have HB1 := Lib.hid (HB.out.trans (hb1.mono HB.out.size))
          clear hb1 hx1
          go_wp2_with fail
          go_roundw
          case rel => exact ⟨m + 1, v + mm, by rw [HL.out]; go_num, by have := HV.out; have e : ((v + mm : Nat) : Int) = (u : Int) + ((mm : Int) - 1) := by omega
                                                                       rw [e], by have := HV.out; omega, Or.inr (by rw [HL.out]; omega), Lib.hid (by
            rw [HE.out, HE2.out, HL.out, HE3.out.2]
            cases eat (L.drop (i + 1)) (v + cc) with
            | none => rfl
            | some z => simp only [Option.map_some, Option.some.injEq]; omega), HB1, HX1⟩
          case measure => simp [intOf]; omega

theorem rsv_in (x : List UInt8) : rsvB ⟨x.toArray⟩ = (decide (x = [97, 110, 100]) || (decide (x = [111, 114]) || (decide (x = [110, 111, 116]) || decide (x = [110, 111, 110, 101])))) := by
  unfold rsvB rsvL
  rw [List.contains_eq_mem]
  have e : (⟨x.toArray⟩ : ByteArray).data.toList = x := by simp
  rw [e, ← Bool.decide_or, ← Bool.decide_or, ← Bool.decide_or]
  exact dec_eq (by simp)
set_option maxRecDepth 100000 in
set_option maxHeartbeats 4000000 in
theorem named8_any (x : List UInt8) (hs : x.length ≤ maxLen) (w : World) : Calls Try.prog 62 #[.string ⟨x.toArray⟩] w fun e w' => e = .returned (.bool (!rsvB ⟨x.toArray⟩ && nameB ⟨x.toArray⟩)) ∧ w = w' := by
  rw [rsv_in]
  have NA := Lib.hid (fun W => Name_any ⟨x.toArray⟩ (by show x.toArray.size ≤ maxLen; simpa using hs) W)
  generalize nameB ⟨x.toArray⟩ = nb at *
  by_cases h1 : x = [97, 110, 100]
  · rw [decide_eq_true h1]
    subst h1
    go_enter Try.func62, Try.ntmps62
    go_wp2_with fail
    go_ret
    exact ⟨rfl, rfl⟩
  have z1 : (x == [97, 110, 100]) = false := by rw [beq_eq_false_iff_ne]; exact h1
  rw [decide_eq_false h1]
  by_cases h2 : x = [111, 114]
  · rw [decide_eq_true h2]
    subst h2
    go_enter Try.func62, Try.ntmps62
    go_wp2_with fail
    go_ret
    exact ⟨rfl, rfl⟩
  have z2 : (x == [111, 114]) = false := by rw [beq_eq_false_iff_ne]; exact h2
  rw [decide_eq_false h2]
  by_cases h3 : x = [110, 111, 116]
  · rw [decide_eq_true h3]
    subst h3
    go_enter Try.func62, Try.ntmps62
    go_wp2_with fail
    go_ret
    exact ⟨rfl, rfl⟩
  have z3 : (x == [110, 111, 116]) = false := by rw [beq_eq_false_iff_ne]; exact h3
  rw [decide_eq_false h3]
  by_cases h4 : x = [110, 111, 110, 101]
  · rw [decide_eq_true h4]
    subst h4
    go_enter Try.func62, Try.ntmps62
    go_wp2_with fail
    go_ret
    exact ⟨rfl, rfl⟩
  have z4 : (x == [110, 111, 110, 101]) = false := by rw [beq_eq_false_iff_ne]; exact h4
  rw [decide_eq_false h4]
  clear h1 h2 h3 h4
  go_enter Try.func62, Try.ntmps62
  go_wp2_with fail
  refine (NA.out _).mono ?_
  rintro e w1 ⟨rfl, rfl⟩
  go_wp2_with fail
  go_ret
  exact ⟨by simp, rfl⟩
end Go.Proofs.Ytjhhpilaaahicaa
