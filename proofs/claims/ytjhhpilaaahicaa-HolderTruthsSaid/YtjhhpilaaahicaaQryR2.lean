/- Layer 8's other text: may a node, a query be? -/
import Derived.Test.YtjhhpilaaahicaaQryR1
import Derived.Test.YtjhhpilaaahicaaQryW4
namespace Go.Proofs.Ytjhhpilaaahicaa
open Go.RowKit FixM FixP TreN QryP
set_option linter.unusedVariables false

set_option maxRecDepth 100000 in
set_option maxHeartbeats 4000000 in
theorem qn_eqIn (k c f a1 a2 a3 b1 b2 b3 : Int) (w : World) : (Op.equalIn 10000 52 (.agg #[.int .i64 k, .int .i64 c, .int .i64 f, .int .i64 a1, .int .i64 a2, .int .i64 a3, .int .i64 b1, .int .i64 b2, .int .i64 b3]) (.agg #[.int .i64 k, .int .i64 c, .int .i64 0, .int .i64 0, .int .i64 0, .int .i64 0, .int .i64 0, .int .i64 0, .int .i64 0])).run Try.prog w = .ok (decide (f = 0) && (!thrB ⟨a1, a2, a3⟩ && !thrB ⟨b1, b2, b3⟩)) w := by
  rw [run_equalIn_agg w 9999 52 _ _ (by kernel_rfl) (by kernel_rfl)]
  have hf : Try.prog.fieldsOf 52 = (match Try.prog.underlying 52 with | some (.struct fs) => fs | _ => #[]) := rfl
  rw [hf, Try.underlying52]
  have p0 : ∀ (x0 x1 x2 x3 x4 x5 x6 x7 x8 : Int) (w : World), (part 3 #[.int .i64 x0, .int .i64 x1, .int .i64 x2, .int .i64 x3, .int .i64 x4, .int .i64 x5, .int .i64 x6, .int .i64 x7, .int .i64 x8] 0).run Try.prog w = .ok (.int .i64 x0) w := fun _ _ _ _ _ _ _ _ _ w => by kernel_rfl
  have p1 : ∀ (x0 x1 x2 x3 x4 x5 x6 x7 x8 : Int) (w : World), (part 3 #[.int .i64 x0, .int .i64 x1, .int .i64 x2, .int .i64 x3, .int .i64 x4, .int .i64 x5, .int .i64 x6, .int .i64 x7, .int .i64 x8] 1).run Try.prog w = .ok (.int .i64 x1) w := fun _ _ _ _ _ _ _ _ _ w => by kernel_rfl
  have p2 : ∀ (x0 x1 x2 x3 x4 x5 x6 x7 x8 : Int) (w : World), (part 3 #[.int .i64 x0, .int .i64 x1, .int .i64 x2, .int .i64 x3, .int .i64 x4, .int .i64 x5, .int .i64 x6, .int .i64 x7, .int .i64 x8] 2).run Try.prog w = .ok (.int .i64 x2) w := fun _ _ _ _ _ _ _ _ _ w => by kernel_rfl
  have p3 : ∀ (x0 x1 x2 x3 x4 x5 x6 x7 x8 : Int) (w : World), (part 50 #[.int .i64 x0, .int .i64 x1, .int .i64 x2, .int .i64 x3, .int .i64 x4, .int .i64 x5, .int .i64 x6, .int .i64 x7, .int .i64 x8] 3).run Try.prog w = .ok (.agg #[.int .i64 x3, .int .i64 x4, .int .i64 x5]) w := fun _ _ _ _ _ _ _ _ _ w => by kernel_rfl
  have p4 : ∀ (x0 x1 x2 x3 x4 x5 x6 x7 x8 : Int) (w : World), (part 50 #[.int .i64 x0, .int .i64 x1, .int .i64 x2, .int .i64 x3, .int .i64 x4, .int .i64 x5, .int .i64 x6, .int .i64 x7, .int .i64 x8] 6).run Try.prog w = .ok (.agg #[.int .i64 x6, .int .i64 x7, .int .i64 x8]) w := fun _ _ _ _ _ _ _ _ _ w => by kernel_rfl
  simp only [Op.eqFields, Sem.run_ite, Sem.run_bind, p0, p1, p2, p3, p4, Result.andThen_ok, run_equalIn_int w 9998 3 .i64 .i64 k k Try.underlying3, run_equalIn_int w 9998 3 .i64 .i64 c c Try.underlying3, run_equalIn_int w 9998 3 .i64 .i64 f 0 Try.underlying3, bd_eqIn 9997]
  unfold thrB
  rw [Bool.not_not, Bool.not_not]
  by_cases h1 : f = 0
  · subst h1
    by_cases h2 : (decide (a1 = 0) && (decide (a2 = 0) && decide (a3 = 0))) = true
    · by_cases h3 : (decide (b1 = 0) && (decide (b2 = 0) && decide (b3 = 0))) = true
      · rw [h2, h3]; simp
      · have h3 : (decide (b1 = 0) && (decide (b2 = 0) && decide (b3 = 0))) = false := by simpa only [Bool.not_eq_true] using h3
        rw [h2, h3]; simp
    · have h2 : (decide (a1 = 0) && (decide (a2 = 0) && decide (a3 = 0))) = false := by simpa only [Bool.not_eq_true] using h2
      rw [h2]; simp
  · have e1 : (f == 0) = false := by rw [beq_eq_false_iff_ne]; exact h1
    simp [h1, e1]
theorem qn_eql (k c f a1 a2 a3 b1 b2 b3 : Int) (w : World) : (binOp .eql 52 (.agg #[.int .i64 k, .int .i64 c, .int .i64 f, .int .i64 a1, .int .i64 a2, .int .i64 a3, .int .i64 b1, .int .i64 b2, .int .i64 b3]) (.agg #[.int .i64 k, .int .i64 c, .int .i64 0, .int .i64 0, .int .i64 0, .int .i64 0, .int .i64 0, .int .i64 0, .int .i64 0])).run Try.prog w = .ok (.bool (decide (f = 0) && (!thrB ⟨a1, a2, a3⟩ && !thrB ⟨b1, b2, b3⟩))) w := by
  rw [run_eql_struct, qn_eqIn]; rfl

set_option maxRecDepth 100000 in
set_option maxHeartbeats 8000000 in
theorem refNode8_any (k c f a1 a2 a3 b1 b2 b3 : Int) (w : World) : Calls Try.prog 52 #[.agg #[.int .i64 k, .int .i64 c, .int .i64 f, .int .i64 a1, .int .i64 a2, .int .i64 a3, .int .i64 b1, .int .i64 b2, .int .i64 b3]] w fun e w' => e = .returned (.bool (ndR ⟨k, c, f, ⟨a1, a2, a3⟩, ⟨b1, b2, b3⟩⟩)) ∧ Below w.heap.size w w' := by
  have HBa := Lib.hid (below_oneQ w (.cells #[.int .i64 k, .int .i64 c, .int .i64 f, .int .i64 a1, .int .i64 a2, .int .i64 a3, .int .i64 b1, .int .i64 b2, .int .i64 b3] 52))
  have hx := heap_alloc_new w (.cells #[.int .i64 k, .int .i64 c, .int .i64 f, .int .i64 a1, .int .i64 a2, .int .i64 a3, .int .i64 b1, .int .i64 b2, .int .i64 b3] 52)
  generalize hW : w.alloc (.cells #[.int .i64 k, .int .i64 c, .int .i64 f, .int .i64 a1, .int .i64 a2, .int .i64 a3, .int .i64 b1, .int .i64 b2, .int .i64 b3] 52) = W at *
  have hlt := blk_ltQ hx
  obtain ⟨d0, d1, d2, d3, d4, d5, d6, d7, d8⟩ := qn_cells hx
  have HB0 : Hid (Below w.heap.size w (W.alloc (.cells #[.int .i64 k, .int .i64 c, .int .i64 0, .int .i64 0, .int .i64 0, .int .i64 0, .int .i64 0, .int .i64 0, .int .i64 0] 52))) := Lib.hid (HBa.out.alloc HBa.out.size _)
  have EQ := fun W => qn_eql k c f a1 a2 a3 b1 b2 b3 W
  have FT := Lib.hid (fun W => refFeature_any k c f a1 a2 a3 b1 b2 b3 W)
  unfold ndR
  simp only []
  generalize (decide (f = 0) && (!thrB ⟨a1, a2, a3⟩ && !thrB ⟨b1, b2, b3⟩)) = eq at *
  generalize ftR ⟨k, c, f, ⟨a1, a2, a3⟩, ⟨b1, b2, b3⟩⟩ = ft at *
  clear hx
  by_cases h4 : k = 4
  · have z4 : (k == 4) = true := by rw [h4]; rfl
    rw [if_pos h4]
    clear h4
    go_enter Try.func52, Try.ntmps52
    go_wp2_with fail
    refine (FT.out _).mono ?_
    rintro e w1 ⟨rfl, hb⟩
    have HB1 := Lib.hid (HBa.out.trans (hb.mono HBa.out.size))
    clear hb
    go_wp2_with fail
    go_ret
    refine ⟨ret_bool ?_, HB1.out⟩
    first | rfl | (simp; done) | (simp; omega)
  · have z4 : (k == 4) = false := by rw [beq_eq_false_iff_ne]; exact h4
    rw [if_neg h4]
    clear h4
    cases eq
    · rw [Bool.false_and]
      go_enter Try.func52, Try.ntmps52
      go_wp2_with fail
      go_ret
      refine ⟨ret_bool ?_, HB0.out⟩
      first | rfl | (simp; done) | (simp; omega)
    · rw [Bool.true_and]
      by_cases h3 : k = 3
      · have z3 : (k == 3) = true := by rw [h3]; rfl
        have z1 : (k == 1) = false := by rw [h3]; rfl
        have z2 : (k == 2) = false := by rw [h3]; rfl
        by_cases hc : c = 1
        · have zc : (c == 1) = true := by rw [hc]; rfl
          rw [decide_eq_true (Or.inl ⟨h3, hc⟩)]
          clear h3 hc
          go_enter Try.func52, Try.ntmps52
          go_wp2_with fail
          go_ret
          refine ⟨ret_bool ?_, HB0.out⟩
          first | rfl | (simp; done) | (simp; omega)
        · have zc : (c == 1) = false := by rw [beq_eq_false_iff_ne]; exact hc
          rw [decide_eq_false (by omega)]
          clear h3 hc
          by_cases h2 : 2 ≤ c
          · skip
            go_enter Try.func52, Try.ntmps52
            go_wp2_with fail
            go_ret
            refine ⟨ret_bool ?_, HB0.out⟩
            first | rfl | (simp; done) | (simp; omega)
          · skip
            go_enter Try.func52, Try.ntmps52
            go_wp2_with fail
            go_ret
            refine ⟨ret_bool ?_, HB0.out⟩
            first | rfl | (simp; done) | (simp; omega)
      · have z3 : (k == 3) = false := by rw [beq_eq_false_iff_ne]; exact h3
        by_cases h2 : 2 ≤ c
        · by_cases h1 : k = 1
          · have z1 : (k == 1) = true := by rw [h1]; rfl
            rw [decide_eq_true (Or.inr ⟨h2, Or.inl h1⟩)]
            clear h1 h3
            go_enter Try.func52, Try.ntmps52
            go_wp2_with fail
            go_ret
            refine ⟨ret_bool ?_, HB0.out⟩
            first | rfl | (simp; done) | (simp; omega)
          · have z1 : (k == 1) = false := by rw [beq_eq_false_iff_ne]; exact h1
            by_cases h5 : k = 2
            · have z2 : (k == 2) = true := by rw [h5]; rfl
              rw [decide_eq_true (Or.inr ⟨h2, Or.inr h5⟩)]
              clear h1 h3 h5
              go_enter Try.func52, Try.ntmps52
              go_wp2_with fail
              go_ret
              refine ⟨ret_bool ?_, HB0.out⟩
              first | rfl | (simp; done) | (simp; omega)
            · have z2 : (k == 2) = false := by rw [beq_eq_false_iff_ne]; exact h5
              rw [decide_eq_false (by omega)]
              clear h1 h3 h5
              go_enter Try.func52, Try.ntmps52
              go_wp2_with fail
              go_ret
              refine ⟨ret_bool ?_, HB0.out⟩
              first | rfl | (simp; done) | (simp; omega)
        · rw [decide_eq_false (by omega)]
          clear h3
          go_enter Try.func52, Try.ntmps52
          go_wp2_with fail
          go_ret
          refine ⟨ret_bool ?_, HB0.out⟩
          first | rfl | (simp; done) | (simp; omega)

set_option maxRecDepth 100000 in
set_option maxHeartbeats 8000000 in
theorem refReserved_any (x : List UInt8) (w : World) : Calls Try.prog 51 #[.string ⟨x.toArray⟩] w fun e w' => e = .returned (.bool (rsvB ⟨x.toArray⟩)) ∧ w = w' := by
  rw [rsv_in]
  by_cases h1 : x = [97, 110, 100]
  · rw [decide_eq_true h1]
    subst h1
    go_enter Try.func51, Try.ntmps51
    go_wp2_with fail
    go_ret
    exact ⟨by first | rfl | simp, rfl⟩
  have z1 : (x == [97, 110, 100]) = false := by rw [beq_eq_false_iff_ne]; exact h1
  rw [decide_eq_false h1]
  by_cases h2 : x = [111, 114]
  · rw [decide_eq_true h2]
    subst h2
    go_enter Try.func51, Try.ntmps51
    go_wp2_with fail
    go_ret
    exact ⟨by first | rfl | simp, rfl⟩
  have z2 : (x == [111, 114]) = false := by rw [beq_eq_false_iff_ne]; exact h2
  rw [decide_eq_false h2]
  by_cases h3 : x = [110, 111, 116]
  · rw [decide_eq_true h3]
    subst h3
    go_enter Try.func51, Try.ntmps51
    go_wp2_with fail
    go_ret
    exact ⟨by first | rfl | simp, rfl⟩
  have z3 : (x == [110, 111, 116]) = false := by rw [beq_eq_false_iff_ne]; exact h3
  rw [decide_eq_false h3]
  by_cases h4 : x = [110, 111, 110, 101]
  · rw [decide_eq_true h4]
    subst h4
    go_enter Try.func51, Try.ntmps51
    go_wp2_with fail
    go_ret
    exact ⟨by first | rfl | simp, rfl⟩
  have z4 : (x == [110, 111, 110, 101]) = false := by rw [beq_eq_false_iff_ne]; exact h4
  rw [decide_eq_false h4]
  clear h1 h2 h3 h4
  go_enter Try.func51, Try.ntmps51
  go_wp2_with fail
  go_ret
  exact ⟨by first | rfl | simp, rfl⟩

set_option maxRecDepth 100000 in
set_option maxHeartbeats 8000000 in
theorem refSpan_far (nm : ByteArray) (a : Option Addr) (n c : Nat) (i : Int) (w : World) (h : i < 0 ∨ (n : Int) ≤ i) :
    Calls Try.prog 53 #[.agg #[.string nm, .slice a n c], .int .i64 i] w fun e w' => e = .returned (.int .i64 0) ∧ Below w.heap.size w w' := by
  have HB0 := Lib.hid (below_oneQ w (.cells #[.string nm, .slice a n c] 25))
  have hx := heap_alloc_new w (.cells #[.string nm, .slice a n c] 25)
  generalize hW : w.alloc (.cells #[.string nm, .slice a n c] 25) = W at *
  obtain ⟨q0, q1⟩ := q_cells hx
  clear hx
  rcases (by omega : i < 0 ∨ (¬ i < 0 ∧ (n : Int) ≤ i)) with h | ⟨h1, h⟩
  · skip
    go_enter Try.func53, Try.ntmps53
    go_wp2_with fail
    go_ret
    exact ⟨rfl, HB0.out⟩
  · skip
    go_enter Try.func53, Try.ntmps53
    go_wp2_with fail
    go_ret
    exact ⟨rfl, HB0.out⟩

set_option maxRecDepth 100000 in
set_option maxHeartbeats 8000000 in
theorem refSpan_nat (nm : ByteArray) (a : Option Addr) (L : List QN) (n c : Nat) (hn : L.length = n) (hl : n ≤ 1000) :
    ∀ (d i : Nat) (w : World), n - i ≤ d → Qns w a L → i ≤ 2000 → Calls Try.prog 53 #[.agg #[.string nm, .slice a n c], .int .i64 (i : Int)] w fun e w' => e = .returned (.int .i64 (spanS L i : Int)) ∧ Below w.heap.size w w' := by
  intro d
  induction d with
  | zero =>
    intro i w hd hQ hi
    rw [spanS_far (by omega)]
    exact refSpan_far nm a n c i w (Or.inr (by omega))
  | succ d ih =>
    intro i w hd hQ hi
    by_cases hin : n ≤ i
    · rw [spanS_far (by omega)]
      exact refSpan_far nm a n c i w (Or.inr (by omega))
    have hin : i < n := by omega
    have hil : i < L.length := by omega
    have IH := Lib.hid (fun (j : Nat) (hj : i < j) (hj2 : j ≤ 2000) W (hW : Below w.heap.size w W) => ih j W (by omega) (hQ.below hW) hj2)
    have HB0 := Lib.hid (below_oneQ w (.cells #[.string nm, .slice a n c] 25))
    have hx := heap_alloc_new w (.cells #[.string nm, .slice a n c] 25)
    obtain ⟨b, o, rfl, hbw, hc⟩ := hQ.get hil
    have hdr : L.drop i = L[i] :: L.drop (i + 1) := List.drop_eq_getElem_cons hil
    obtain ⟨x, hxi⟩ : ∃ x, L[i] = x := ⟨_, rfl⟩
    rw [hxi] at hc hdr
    have HE : Hid (eat (L.drop i) 1 = match cntQ x with | none => none | some cc => (eat (L.drop (i + 1)) cc).map (· + 1)) := Lib.hid (by rw [hdr]; show eat (x :: _) (0 + 1) = _; rw [eat_cons]; cases cntQ x with | none => rfl | some cc => simp only [Nat.zero_add])
    obtain ⟨R, hR⟩ : ∃ R, spanS L i = R := ⟨_, rfl⟩
    rw [hR]
    have HR : Hid (R = match eat (L.drop i) 1 with | some m => i + m | none => 0) := Lib.hid hR.symm
    have HN := Lib.hid hn
    generalize hW : w.alloc (.cells #[.string nm, .slice (some ⟨b, o, none⟩) n c] 25) = W at *
    obtain ⟨d0, d1, d2, d3, d4, d5, d6, d7, d8⟩ := hc.below HB0.out hbw
    obtain ⟨q0, q1⟩ := q_cells hx
    have hlt := blk_ltQ hx
    obtain ⟨xk, xc, xf, ⟨a1, a2, a3⟩, ⟨b1, b2, b3⟩⟩ := x
    have HX0 : Hid ((W.alloc (.cells #[.int .i64 xk, .int .i64 xc, .int .i64 xf, .int .i64 a1, .int .i64 a2, .int .i64 a3, .int .i64 b1, .int .i64 b2, .int .i64 b3] 52)).heap[w.heap.size]? = some (.cells #[.string nm, .slice (some ⟨b, o, none⟩) n c] 25 (0, 0))) := Lib.hid ((Below.heap_alloc _ _ _ hlt).trans hx)
    have HB1 : Hid (Below w.heap.size w (W.alloc (.cells #[.int .i64 xk, .int .i64 xc, .int .i64 xf, .int .i64 a1, .int .i64 a2, .int .i64 a3, .int .i64 b1, .int .i64 b2, .int .i64 b3] 52))) := Lib.hid (HB0.out.alloc HB0.out.size _)
    have hinz : (i : Int) < (n : Int) := by omega
    have hinz2 : ¬ (n : Int) ≤ (i : Int) := by omega
    have hi0 : (0 : Int) ≤ (i : Int) := by omega
    clear ih hQ hc hdr hxi hR hx
    by_cases h1 : xk = 1 ∨ xk = 2
    · have HC : Hid (eat (L.drop i) 1 = (eat (L.drop (i + 1)) xc.toNat).map (· + 1)) := Lib.hid (by rw [HE.out]; unfold cntQ; rw [if_pos h1])
      rcases h1 with h1 | h1
      · have z1 : (xk == 1) = true := by rw [h1]; rfl
        clear h1
        go_enter Try.func53, Try.ntmps53
        go_wp2_with fail
        generalize hW2 : W.alloc (.cells #[.int .i64 xk, .int .i64 xc, .int .i64 xf, .int .i64 a1, .int .i64 a2, .int .i64 a3, .int .i64 b1, .int .i64 b2, .int .i64 b3] 52) = W2 at *
        go_loopw [8, 7] (fun vj va wr => ∃ j m : Nat, vj = .int .i64 (j : Int) ∧ va = .int .i64 ((i + 1 + m : Nat) : Int) ∧ i + 1 + m ≤ n ∧ j ≤ m ∧ (j = 0 ∨ (j : Int) ≤ xc) ∧ Hid (eat (L.drop (i + 1)) j = some m) ∧ Hid (Below w.heap.size w wr) ∧ Hid (wr.heap[w.heap.size]? = some (.cells #[.string nm, .slice (some ⟨b, o, none⟩) n c] 25 (0, 0)))) (fun _ va _ => n + 1 - (intOf va).toNat)
        case atStart => exact ⟨0, 0, rfl, by go_num, by omega, by omega, Or.inl rfl, Lib.hid (eat_zero _), HB1, HX0⟩
        case round =>
          obtain ⟨j, m, rfl, rfl, hmn, hjm, hjc, HM, HB, HX⟩ := hrel
          obtain ⟨q0, q1⟩ := q_cells HX.out
          by_cases hj : (j : Int) < xc
          · have C := IH.out (i + 1 + m) (by omega) (by omega) wr HB.out
            have HS : Hid (eat (L.drop (i + 1)) (j + 1) = (eat (L.drop (i + 1 + m)) 1).map (m + ·)) := Lib.hid (by rw [eat_add, HM.out, Option.bind_some, List.drop_drop])
            have hsp : spanS L (i + 1 + m) = match eat (L.drop (i + 1 + m)) 1 with | some z => i + 1 + m + z | none => 0 := rfl
            have hle := eat_le (L.drop (i + 1 + m)) 1
            rw [List.length_drop, HN.out] at hle
            cases he : eat (L.drop (i + 1 + m)) 1 with
            | none =>
              rw [he] at hsp
              rw [hsp] at C
              have CC := Lib.hid C
              have HF : Hid (R = 0) := Lib.hid (by
                have h1 : eat (L.drop (i + 1)) (xc).toNat = none := eat_less (a := j + 1) (by omega) (by rw [HS.out, he]; rfl)
                rw [HR.out, HC.out, h1]; rfl)
              clear C hsp he hle
              go_wp2_with fail
              refine CC.out.mono ?_
              rintro e w3 ⟨rfl, hb⟩
              have HB3 := Lib.hid (HB.out.trans (hb.mono HB.out.size))
              clear hb
              go_wp2_with fail
              go_ret
              exact ⟨by rw [HF.out]; rfl, HB3.out⟩
            | some z =>
              rw [he] at hsp
              rw [hsp] at C
              obtain ⟨hz1, hz2⟩ := hle z he
              have HM2 : Hid (eat (L.drop (i + 1)) (j + 1) = some (m + z)) := Lib.hid (by rw [HS.out, he]; rfl)
              obtain ⟨at2, hat⟩ : ∃ q, i + 1 + m + z = q := ⟨_, rfl⟩
              simp only [hat] at C
              have CC := Lib.hid C
              have hne : ((at2 : Int) == 0) = false := by rw [beq_eq_false_iff_ne]; omega
              have HAT : Hid ((i + 1 + (m + z) : Nat) = at2) := Lib.hid (by omega)
              have hb2 : i + 1 + m < at2 ∧ at2 ≤ n ∧ j + 1 ≤ m + z := by omega
              clear C hsp he hle hat
              go_wp2_with fail
              refine CC.out.mono ?_
              rintro e w3 ⟨rfl, hb⟩
              have hx3 := (hb.block _ (blk_ltQ HX.out)).trans HX.out
              have HX3 := Lib.hid hx3
              have HB3 := Lib.hid (HB.out.trans (hb.mono HB.out.size))
              clear hb hx3
              go_wp2_with fail
              go_roundw
              case rel => exact ⟨j + 1, m + z, by go_num, by rw [HAT.out], by rw [HAT.out]; omega, by omega, Or.inr (by omega), HM2, HB3, HX3⟩
              case measure => simp [intOf]; omega
          · have HF : Hid (R = i + 1 + m) := Lib.hid (by
              have e : j = (xc).toNat := by omega
              rw [HR.out, HC.out, ← e, HM.out]
              show i + (m + 1) = i + 1 + m; omega)
            go_wp2_with fail
            go_ret
            exact ⟨by rw [HF.out]; rfl, HB.out⟩
      · have z1 : (xk == 1) = false := by rw [h1]; rfl
        have z2 : (xk == 2) = true := by rw [h1]; rfl
        clear h1
        go_enter Try.func53, Try.ntmps53
        go_wp2_with fail
        generalize hW2 : W.alloc (.cells #[.int .i64 xk, .int .i64 xc, .int .i64 xf, .int .i64 a1, .int .i64 a2, .int .i64 a3, .int .i64 b1, .int .i64 b2, .int .i64 b3] 52) = W2 at *
        go_loopw [8, 7] (fun vj va wr => ∃ j m : Nat, vj = .int .i64 (j : Int) ∧ va = .int .i64 ((i + 1 + m : Nat) : Int) ∧ i + 1 + m ≤ n ∧ j ≤ m ∧ (j = 0 ∨ (j : Int) ≤ xc) ∧ Hid (eat (L.drop (i + 1)) j = some m) ∧ Hid (Below w.heap.size w wr) ∧ Hid (wr.heap[w.heap.size]? = some (.cells #[.string nm, .slice (some ⟨b, o, none⟩) n c] 25 (0, 0)))) (fun _ va _ => n + 1 - (intOf va).toNat)
        case atStart => exact ⟨0, 0, rfl, by go_num, by omega, by omega, Or.inl rfl, Lib.hid (eat_zero _), HB1, HX0⟩
        case round =>
          obtain ⟨j, m, rfl, rfl, hmn, hjm, hjc, HM, HB, HX⟩ := hrel
          obtain ⟨q0, q1⟩ := q_cells HX.out
          by_cases hj : (j : Int) < xc
          · have C := IH.out (i + 1 + m) (by omega) (by omega) wr HB.out
            have HS : Hid (eat (L.drop (i + 1)) (j + 1) = (eat (L.drop (i + 1 + m)) 1).map (m + ·)) := Lib.hid (by rw [eat_add, HM.out, Option.bind_some, List.drop_drop])
            have hsp : spanS L (i + 1 + m) = match eat (L.drop (i + 1 + m)) 1 with | some z => i + 1 + m + z | none => 0 := rfl
            have hle := eat_le (L.drop (i + 1 + m)) 1
            rw [List.length_drop, HN.out] at hle
            cases he : eat (L.drop (i + 1 + m)) 1 with
            | none =>
              rw [he] at hsp
              rw [hsp] at C
              have CC := Lib.hid C
              have HF : Hid (R = 0) := Lib.hid (by
                have h1 : eat (L.drop (i + 1)) (xc).toNat = none := eat_less (a := j + 1) (by omega) (by rw [HS.out, he]; rfl)
                rw [HR.out, HC.out, h1]; rfl)
              clear C hsp he hle
              go_wp2_with fail
              refine CC.out.mono ?_
              rintro e w3 ⟨rfl, hb⟩
              have HB3 := Lib.hid (HB.out.trans (hb.mono HB.out.size))
              clear hb
              go_wp2_with fail
              go_ret
              exact ⟨by rw [HF.out]; rfl, HB3.out⟩
            | some z =>
              rw [he] at hsp
              rw [hsp] at C
              obtain ⟨hz1, hz2⟩ := hle z he
              have HM2 : Hid (eat (L.drop (i + 1)) (j + 1) = some (m + z)) := Lib.hid (by rw [HS.out, he]; rfl)
              obtain ⟨at2, hat⟩ : ∃ q, i + 1 + m + z = q := ⟨_, rfl⟩
              simp only [hat] at C
              have CC := Lib.hid C
              have hne : ((at2 : Int) == 0) = false := by rw [beq_eq_false_iff_ne]; omega
              have HAT : Hid ((i + 1 + (m + z) : Nat) = at2) := Lib.hid (by omega)
              have hb2 : i + 1 + m < at2 ∧ at2 ≤ n ∧ j + 1 ≤ m + z := by omega
              clear C hsp he hle hat
              go_wp2_with fail
              refine CC.out.mono ?_
              rintro e w3 ⟨rfl, hb⟩
              have hx3 := (hb.block _ (blk_ltQ HX.out)).trans HX.out
              have HX3 := Lib.hid hx3
              have HB3 := Lib.hid (HB.out.trans (hb.mono HB.out.size))
              clear hb hx3
              go_wp2_with fail
              go_roundw
              case rel => exact ⟨j + 1, m + z, by go_num, by rw [HAT.out], by rw [HAT.out]; omega, by omega, Or.inr (by omega), HM2, HB3, HX3⟩
              case measure => simp [intOf]; omega
          · have HF : Hid (R = i + 1 + m) := Lib.hid (by
              have e : j = (xc).toNat := by omega
              rw [HR.out, HC.out, ← e, HM.out]
              show i + (m + 1) = i + 1 + m; omega)
            go_wp2_with fail
            go_ret
            exact ⟨by rw [HF.out]; rfl, HB.out⟩
    · have z1 : (xk == 1) = false := by rw [beq_eq_false_iff_ne]; omega
      have z2 : (xk == 2) = false := by rw [beq_eq_false_iff_ne]; omega
      by_cases h3 : xk = 3
      · have z3 : (xk == 3) = true := by rw [h3]; rfl
        have HC : Hid (eat (L.drop i) 1 = (eat (L.drop (i + 1)) (1 : Int).toNat).map (· + 1)) := Lib.hid (by rw [HE.out]; unfold cntQ; rw [if_neg h1, if_pos h3]; rfl)
        clear h1 h3
        go_enter Try.func53, Try.ntmps53
        go_wp2_with fail
        generalize hW2 : W.alloc (.cells #[.int .i64 xk, .int .i64 xc, .int .i64 xf, .int .i64 a1, .int .i64 a2, .int .i64 a3, .int .i64 b1, .int .i64 b2, .int .i64 b3] 52) = W2 at *
        go_loopw [8, 7] (fun vj va wr => ∃ j m : Nat, vj = .int .i64 (j : Int) ∧ va = .int .i64 ((i + 1 + m : Nat) : Int) ∧ i + 1 + m ≤ n ∧ j ≤ m ∧ (j = 0 ∨ (j : Int) ≤ (1 : Int)) ∧ Hid (eat (L.drop (i + 1)) j = some m) ∧ Hid (Below w.heap.size w wr) ∧ Hid (wr.heap[w.heap.size]? = some (.cells #[.string nm, .slice (some ⟨b, o, none⟩) n c] 25 (0, 0)))) (fun _ va _ => n + 1 - (intOf va).toNat)
        case atStart => exact ⟨0, 0, rfl, by go_num, by omega, by omega, Or.inl rfl, Lib.hid (eat_zero _), HB1, HX0⟩
        case round =>
          obtain ⟨j, m, rfl, rfl, hmn, hjm, hjc, HM, HB, HX⟩ := hrel
          obtain ⟨q0, q1⟩ := q_cells HX.out
          by_cases hj : (j : Int) < (1 : Int)
          · have C := IH.out (i + 1 + m) (by omega) (by omega) wr HB.out
            have HS : Hid (eat (L.drop (i + 1)) (j + 1) = (eat (L.drop (i + 1 + m)) 1).map (m + ·)) := Lib.hid (by rw [eat_add, HM.out, Option.bind_some, List.drop_drop])
            have hsp : spanS L (i + 1 + m) = match eat (L.drop (i + 1 + m)) 1 with | some z => i + 1 + m + z | none => 0 := rfl
            have hle := eat_le (L.drop (i + 1 + m)) 1
            rw [List.length_drop, HN.out] at hle
            cases he : eat (L.drop (i + 1 + m)) 1 with
            | none =>
              rw [he] at hsp
              rw [hsp] at C
              have CC := Lib.hid C
              have HF : Hid (R = 0) := Lib.hid (by
                have h1 : eat (L.drop (i + 1)) ((1 : Int)).toNat = none := eat_less (a := j + 1) (by omega) (by rw [HS.out, he]; rfl)
                rw [HR.out, HC.out, h1]; rfl)
              clear C hsp he hle
              go_wp2_with fail
              refine CC.out.mono ?_
              rintro e w3 ⟨rfl, hb⟩
              have HB3 := Lib.hid (HB.out.trans (hb.mono HB.out.size))
              clear hb
              go_wp2_with fail
              go_ret
              exact ⟨by rw [HF.out]; rfl, HB3.out⟩
            | some z =>
              rw [he] at hsp
              rw [hsp] at C
              obtain ⟨hz1, hz2⟩ := hle z he
              have HM2 : Hid (eat (L.drop (i + 1)) (j + 1) = some (m + z)) := Lib.hid (by rw [HS.out, he]; rfl)
              obtain ⟨at2, hat⟩ : ∃ q, i + 1 + m + z = q := ⟨_, rfl⟩
              simp only [hat] at C
              have CC := Lib.hid C
              have hne : ((at2 : Int) == 0) = false := by rw [beq_eq_false_iff_ne]; omega
              have HAT : Hid ((i + 1 + (m + z) : Nat) = at2) := Lib.hid (by omega)
              have hb2 : i + 1 + m < at2 ∧ at2 ≤ n ∧ j + 1 ≤ m + z := by omega
              clear C hsp he hle hat
              go_wp2_with fail
              refine CC.out.mono ?_
              rintro e w3 ⟨rfl, hb⟩
              have hx3 := (hb.block _ (blk_ltQ HX.out)).trans HX.out
              have HX3 := Lib.hid hx3
              have HB3 := Lib.hid (HB.out.trans (hb.mono HB.out.size))
              clear hb hx3
              go_wp2_with fail
              go_roundw
              case rel => exact ⟨j + 1, m + z, by go_num, by rw [HAT.out], by rw [HAT.out]; omega, by omega, Or.inr (by omega), HM2, HB3, HX3⟩
              case measure => simp [intOf]; omega
          · have HF : Hid (R = i + 1 + m) := Lib.hid (by
              have e : j = ((1 : Int)).toNat := by omega
              rw [HR.out, HC.out, ← e, HM.out]
              show i + (m + 1) = i + 1 + m; omega)
            go_wp2_with fail
            go_ret
            exact ⟨by rw [HF.out]; rfl, HB.out⟩
      · have z3 : (xk == 3) = false := by rw [beq_eq_false_iff_ne]; exact h3
        by_cases h4 : xk = 4
        · have z4 : (xk == 4) = true := by rw [h4]; rfl
          have HC : Hid (eat (L.drop i) 1 = (eat (L.drop (i + 1)) (0 : Int).toNat).map (· + 1)) := Lib.hid (by rw [HE.out]; unfold cntQ; rw [if_neg h1, if_neg h3, if_pos h4]; rfl)
          clear h1 h3 h4
          go_enter Try.func53, Try.ntmps53
          go_wp2_with fail
          generalize hW2 : W.alloc (.cells #[.int .i64 xk, .int .i64 xc, .int .i64 xf, .int .i64 a1, .int .i64 a2, .int .i64 a3, .int .i64 b1, .int .i64 b2, .int .i64 b3] 52) = W2 at *
          go_loopw [8, 7] (fun vj va wr => ∃ j m : Nat, vj = .int .i64 (j : Int) ∧ va = .int .i64 ((i + 1 + m : Nat) : Int) ∧ i + 1 + m ≤ n ∧ j ≤ m ∧ (j = 0 ∨ (j : Int) ≤ (0 : Int)) ∧ Hid (eat (L.drop (i + 1)) j = some m) ∧ Hid (Below w.heap.size w wr) ∧ Hid (wr.heap[w.heap.size]? = some (.cells #[.string nm, .slice (some ⟨b, o, none⟩) n c] 25 (0, 0)))) (fun _ va _ => n + 1 - (intOf va).toNat)
          case atStart => exact ⟨0, 0, rfl, by go_num, by omega, by omega, Or.inl rfl, Lib.hid (eat_zero _), HB1, HX0⟩
          case round =>
            obtain ⟨j, m, rfl, rfl, hmn, hjm, hjc, HM, HB, HX⟩ := hrel
            obtain ⟨q0, q1⟩ := q_cells HX.out
            by_cases hj : (j : Int) < (0 : Int)
            · have C := IH.out (i + 1 + m) (by omega) (by omega) wr HB.out
              have HS : Hid (eat (L.drop (i + 1)) (j + 1) = (eat (L.drop (i + 1 + m)) 1).map (m + ·)) := Lib.hid (by rw [eat_add, HM.out, Option.bind_some, List.drop_drop])
              have hsp : spanS L (i + 1 + m) = match eat (L.drop (i + 1 + m)) 1 with | some z => i + 1 + m + z | none => 0 := rfl
              have hle := eat_le (L.drop (i + 1 + m)) 1
              rw [List.length_drop, HN.out] at hle
              cases he : eat (L.drop (i + 1 + m)) 1 with
              | none =>
                rw [he] at hsp
                rw [hsp] at C
                have CC := Lib.hid C
                have HF : Hid (R = 0) := Lib.hid (by
                  have h1 : eat (L.drop (i + 1)) ((0 : Int)).toNat = none := eat_less (a := j + 1) (by omega) (by rw [HS.out, he]; rfl)
                  rw [HR.out, HC.out, h1]; rfl)
                clear C hsp he hle
                go_wp2_with fail
                refine CC.out.mono ?_
                rintro e w3 ⟨rfl, hb⟩
                have HB3 := Lib.hid (HB.out.trans (hb.mono HB.out.size))
                clear hb
                go_wp2_with fail
                go_ret
                exact ⟨by rw [HF.out]; rfl, HB3.out⟩
              | some z =>
                rw [he] at hsp
                rw [hsp] at C
                obtain ⟨hz1, hz2⟩ := hle z he
                have HM2 : Hid (eat (L.drop (i + 1)) (j + 1) = some (m + z)) := Lib.hid (by rw [HS.out, he]; rfl)
                obtain ⟨at2, hat⟩ : ∃ q, i + 1 + m + z = q := ⟨_, rfl⟩
                simp only [hat] at C
                have CC := Lib.hid C
                have hne : ((at2 : Int) == 0) = false := by rw [beq_eq_false_iff_ne]; omega
                have HAT : Hid ((i + 1 + (m + z) : Nat) = at2) := Lib.hid (by omega)
                have hb2 : i + 1 + m < at2 ∧ at2 ≤ n ∧ j + 1 ≤ m + z := by omega
                clear C hsp he hle hat
                go_wp2_with fail
                refine CC.out.mono ?_
                rintro e w3 ⟨rfl, hb⟩
                have hx3 := (hb.block _ (blk_ltQ HX.out)).trans HX.out
                have HX3 := Lib.hid hx3
                have HB3 := Lib.hid (HB.out.trans (hb.mono HB.out.size))
                clear hb hx3
                go_wp2_with fail
                go_roundw
                case rel => exact ⟨j + 1, m + z, by go_num, by rw [HAT.out], by rw [HAT.out]; omega, by omega, Or.inr (by omega), HM2, HB3, HX3⟩
                case measure => simp [intOf]; omega
            · have HF : Hid (R = i + 1 + m) := Lib.hid (by
                have e : j = ((0 : Int)).toNat := by omega
                rw [HR.out, HC.out, ← e, HM.out]
                show i + (m + 1) = i + 1 + m; omega)
              go_wp2_with fail
              go_ret
              exact ⟨by rw [HF.out]; rfl, HB.out⟩
        · have z4 : (xk == 4) = false := by rw [beq_eq_false_iff_ne]; exact h4
          have HF : Hid (R = 0) := Lib.hid (by rw [HR.out, HE.out]; unfold cntQ; rw [if_neg h1, if_neg h3, if_neg h4])
          clear h1 h3 h4
          go_enter Try.func53, Try.ntmps53
          go_wp2_with fail
          go_ret
          exact ⟨by rw [HF.out]; rfl, HB1.out⟩
end Go.Proofs.Ytjhhpilaaahicaa
