/- Layer 17: StyleWords. (Written by gen_stll5.py.) -/
import Derived.Test.YtlngipglhlhhbaaStlAu
import Derived.Deep.DeepCutAuto
namespace Go.Proofs.Ytlngipglhlhhbaa
open Go.RowKit TreN LexP FixP SynP ValP PropP FixM
set_option linter.unusedVariables false

theorem four_other17 (w : World) (b : Nat) (o : Nat) (n0 n1 n2 n3 : Value) (b' : Nat) (h : b' ≠ b) : ((((w.setCell ⟨b, o, none⟩ n0).setCell ⟨b, o + 1, none⟩ n1).setCell ⟨b, o + 2, none⟩ n2).setCell ⟨b, o + 3, none⟩ n3).heap[b']? = w.heap[b']? := by
  have key : ∀ (W : World) (j : Nat) (v : Value), (W.setCell ⟨b, j, none⟩ v).heap[b']? = W.heap[b']? := fun W j v => heap_setCell_other W ⟨b, j, none⟩ b' v h
  rw [key, key, key, key]
/-- a row of its own, told -/
structure Rw (W : World) (g n : Nat) (L : List Val) : Prop where
  lt : g < W.heap.size
  row : ∃ cur : Array Value, W.heap[g]? = some (.cells cur 34 (0, 0)) ∧ n * 4 ≤ cur.size ∧ cur.toList.take (n * 4) = vrs17 L
theorem Rw.keep {W W' : World} {g n : Nat} {L : List Val} (h : Rw W g n L) (e : W'.heap[g]? = W.heap[g]?) : Rw W' g n L := by
  obtain ⟨c, h1, h2, h3⟩ := h.row
  have e2 : W'.heap[g]? = some (.cells c 34 (0, 0)) := e.trans h1
  exact ⟨(Array.getElem?_eq_some_iff.1 e2).1, c, e2, h2, h3⟩
theorem hname17 {L : List Val} {k : Nat} {u : Val} (h : ∀ v, v ∈ L → v.name.length ≤ maxLen) (hu : u.name = []) : ∀ v, v ∈ L.set k u → v.name.length ≤ maxLen := fun v hv => by
  rcases List.mem_or_eq_of_mem_set hv with h1 | h1
  · exact h v h1
  · rw [h1, hu]; exact Nat.zero_le _

set_option maxRecDepth 100000 in
set_option maxHeartbeats 8000000 in
theorem StyleWords_walk (ta : Option Addr) (tn tc : Nat) (L : List Val) (p : Int) (z : Nat → Int) (bb : Bool) (nm : ByteArray) (a b : Int) (w : World) (hT : Td w ta tn L) (hm : tn ≤ maxLen) (hmb : tn * 40 ≤ 140737488355328) (hz : ∀ i, WfI (z i)) (hn : nm.size ≤ maxLen) :
    Calls Try.prog 7 #[.slice ta tn tc, .int .i64 p, .agg (tyL z bb nm).toArray, .int .i64 a, .int .i64 b] w fun e w' => e = .returned (.bool true) ∧ Below w.heap.size w w' := by
  have hone := tyL_one z bb nm
  have hgu := fun (x y : Operand) (A B : Array Value) (W : World) => guard17 x y A B W
  have h53 : (tyL z bb nm).getD 53 undef = .int .i64 (z 53) := rfl
  have hal : (tyL z bb nm).length = 55 := rfl
  have HTY2 := Lib.hid (fun (M : List Val) (hM : ∀ u, u ∈ M → u.name.length ≤ maxLen) => typed17 z bb nm hz hn (hasS M) (fun p u h1 h2 h => has_vb M hM p u h1 h2 h) a b)
  generalize tyL z bb nm = As at *
  obtain ⟨f, hf⟩ : ∃ f, z 53 = f := ⟨_, rfl⟩
  rw [hf] at HTY2 h53
  have CC := Lib.hid (fun (t : Option Addr) (n c : Nat) (M : List Val) W (hT : Td W t n M) => compute17_any t n c M As f a b W hal hone h53 hT)
  have hr0 := range_of_block (heap_alloc_new w (.cells As.toArray 27))
  have hb0 := below_one7h w (.cells As.toArray 27)
  have hmz : (tn : Int) ≤ 9223372036854775807 := by unfold maxLen at hm; omega
  have HT := Lib.hid hT
  have KN := Lib.hid (fun W => known17_any W)
  have HONE := Lib.hid hone
  have HAL := Lib.hid hal
  clear hT hz hn hone h53 hf
  go_enter Try.func7, Try.ntmps7
  go_upto_region 1 with fail
  generalize w.alloc (.cells As.toArray 27) = W1 at *
  obtain ⟨bp, hbp⟩ : ∃ bp, w.heap.size = bp := ⟨_, rfl⟩
  rw [hbp] at hr0 hb0 ⊢
  have HR := Lib.hid hr0
  have HB := Lib.hid hb0
  have HS : Hid (bp < W1.heap.size) := Lib.hid (World.block_lt_of_cell? W1 ⟨bp, 0 + 0, none⟩ (hr0 0 As[0] (List.getElem?_eq_getElem (by have := HAL.out; omega))))
  clear hr0 hb0
  by_cases hc : tn < 37 ∨ p < 1 ∨ 37 < p
  · have HE : Hid True := trivial
    rcases Nat.lt_or_ge tn 37 with h1 | h1
    · have h1z : (tn : Int) < 37 := by omega
      clear hc
      go_wp2_with fail
      refine (KN.out _).mono ?_
      rintro e w4 ⟨rfl, hb4⟩
      have HB4 := Lib.hid (HB.out.trans (hb4.mono (Nat.le_of_lt HS.out)))
      clear hb4
      go_wp2_with fail
      go_ret
      exact ⟨rfl, hbp ▸ HB4.out⟩
    · have h1z : ¬ (tn : Int) < 37 := by omega
      by_cases h2 : p < 1
      · clear hc
        go_wp2_with fail
        refine (KN.out _).mono ?_
        rintro e w4 ⟨rfl, hb4⟩
        have HB4 := Lib.hid (HB.out.trans (hb4.mono (Nat.le_of_lt HS.out)))
        clear hb4
        go_wp2_with fail
        go_ret
        exact ⟨rfl, hbp ▸ HB4.out⟩
      · have h3 : 37 < p := by omega
        clear hc
        go_wp2_with fail
        refine (KN.out _).mono ?_
        rintro e w4 ⟨rfl, hb4⟩
        have HB4 := Lib.hid (HB.out.trans (hb4.mono (Nat.le_of_lt HS.out)))
        clear hb4
        go_wp2_with fail
        go_ret
        exact ⟨rfl, hbp ▸ HB4.out⟩
  obtain ⟨k, hk⟩ : ∃ k : Nat, p = (k : Int) + 1 := ⟨(p - 1).toNat, by omega⟩
  subst hk
  have h1 : 37 ≤ tn := by omega
  have h1z : ¬ (tn : Int) < 37 := by omega
  have h2 : ¬ ((k : Int) + 1 < 1) := by omega
  have h3 : ¬ (37 < (k : Int) + 1) := by omega
  have hk37 : k < 37 := by omega
  clear hc
  obtain ⟨bt, ot, u0, hta, _⟩ := HT.out.at_ 0 (by omega)
  subst hta
  obtain ⟨i0, hi, hz0, hz1, hz2⟩ := info_parts info_valA
  go_upto_region 4 with fail
  have HSW := HS
  have HTR := Lib.hid (HT.out.below (hbp ▸ HB.out))
  go_wp2_with (at_builtin; refine wpList_append_own _ rfl _ _ 32 rfl W1.heap.size 34 i0 (.agg #[.int .i64 0, .int .i64 0, .int .i64 0, .string ⟨#[]⟩]) 4 40 Try.underlying32 hi hz0 hz1 hz2 rfl (by decide) (.slice none 0 0) 0 [] rfl (World.ownsRow_nil _ _ _ _) ⟨bt, ot, none⟩ tn tc (vrs17 L) rfl ?d10 ?d11 ?d12 ?d13 ?d14 ?d15 ?_)
  all_goals try (first | (rw [vrs17_length, HTR.out.len]; done) | exact vrs17_news HTR.out | (have q := vrs17_news HTR.out; simpa only [Go.WideShapes.add_plain] using q) | exact vrs17_one L | omega | exact Nat.le_refl _)
  intro v' y1 hown' hgrow _
  have hb2 : Below W1.heap.size W1 y1 := below_grownA hgrow (fun g hg => by cases hg) (Nat.le_refl _)
  clear hgrow
  rcases hown'.2 with ⟨_, h0⟩ | ⟨g1, cp1, cur, rfl, hbg, hgb, hc1, hc2, hcs, htk⟩
  · omega
  have HP1 : Hid (bp < g1) := Lib.hid (by have h := HS.out; omega)
  have HG1 : Hid (W1.heap.size ≤ g1) := Lib.hid hbg
  have HW1 : Hid (Rw y1 g1 tn L) := Lib.hid ⟨(Array.getElem?_eq_some_iff.1 hgb).1, cur, hgb, by omega, htk⟩
  have HR := Lib.hid (range_below17 HR.out hb2 HS.out)
  have HB := Lib.hid (HB.out.trans (hb2.mono (Nat.le_of_lt HS.out)))
  have HS := Lib.hid (Nat.lt_of_lt_of_le HS.out hb2.size)
  have HL1 := Lib.hid HW1.out.lt
  clear hown' htk hgb hbg hc1 hc2 hcs hb2 HTR
  go_upto_region 5 with fail
  have HTR := Lib.hid (HT.out.below (hbp ▸ HB.out))
  go_wp2_with (at_builtin; refine wpList_append_own _ rfl _ _ 32 rfl y1.heap.size 34 i0 (.agg #[.int .i64 0, .int .i64 0, .int .i64 0, .string ⟨#[]⟩]) 4 40 Try.underlying32 hi hz0 hz1 hz2 rfl (by decide) (.slice none 0 0) 0 [] rfl (World.ownsRow_nil _ _ _ _) ⟨bt, ot, none⟩ tn tc (vrs17 L) rfl ?d20 ?d21 ?d22 ?d23 ?d24 ?d25 ?_)
  all_goals try (first | (rw [vrs17_length, HTR.out.len]; done) | exact vrs17_news HTR.out | (have q := vrs17_news HTR.out; simpa only [Go.WideShapes.add_plain] using q) | exact vrs17_one L | omega | exact Nat.le_refl _)
  intro v' y2 hown' hgrow _
  have hb2 : Below y1.heap.size y1 y2 := below_grownA hgrow (fun g hg => by cases hg) (Nat.le_refl _)
  clear hgrow
  rcases hown'.2 with ⟨_, h0⟩ | ⟨g2, cp2, cur, rfl, hbg, hgb, hc1, hc2, hcs, htk⟩
  · omega
  have HP2 : Hid (bp < g2) := Lib.hid (by have h := HS.out; omega)
  have HG2 : Hid (y1.heap.size ≤ g2) := Lib.hid hbg
  have HW2 : Hid (Rw y2 g2 tn L) := Lib.hid ⟨(Array.getElem?_eq_some_iff.1 hgb).1, cur, hgb, by omega, htk⟩
  have HW1 := Lib.hid (HW1.out.keep (hb2.block g1 HW1.out.lt))
  have HR := Lib.hid (range_below17 HR.out hb2 HS.out)
  have HB := Lib.hid (HB.out.trans (hb2.mono (Nat.le_of_lt HS.out)))
  have HS := Lib.hid (Nat.lt_of_lt_of_le HS.out hb2.size)
  have HN12 : Hid (g1 ≠ g2) := Lib.hid (by have h := HL1.out; omega)
  have HL1 := Lib.hid HW1.out.lt
  have HL2 := Lib.hid HW2.out.lt
  clear hown' htk hgb hbg hc1 hc2 hcs hb2 HTR
  go_upto_region 6 with fail
  have HTR := Lib.hid (HT.out.below (hbp ▸ HB.out))
  go_wp2_with (at_builtin; refine wpList_append_own _ rfl _ _ 32 rfl y2.heap.size 34 i0 (.agg #[.int .i64 0, .int .i64 0, .int .i64 0, .string ⟨#[]⟩]) 4 40 Try.underlying32 hi hz0 hz1 hz2 rfl (by decide) (.slice none 0 0) 0 [] rfl (World.ownsRow_nil _ _ _ _) ⟨bt, ot, none⟩ tn tc (vrs17 L) rfl ?d30 ?d31 ?d32 ?d33 ?d34 ?d35 ?_)
  all_goals try (first | (rw [vrs17_length, HTR.out.len]; done) | exact vrs17_news HTR.out | (have q := vrs17_news HTR.out; simpa only [Go.WideShapes.add_plain] using q) | exact vrs17_one L | omega | exact Nat.le_refl _)
  intro v' y3 hown' hgrow _
  have hb2 : Below y2.heap.size y2 y3 := below_grownA hgrow (fun g hg => by cases hg) (Nat.le_refl _)
  clear hgrow
  rcases hown'.2 with ⟨_, h0⟩ | ⟨g3, cp3, cur, rfl, hbg, hgb, hc1, hc2, hcs, htk⟩
  · omega
  have HP3 : Hid (bp < g3) := Lib.hid (by have h := HS.out; omega)
  have HG3 : Hid (y2.heap.size ≤ g3) := Lib.hid hbg
  have HW3 : Hid (Rw y3 g3 tn L) := Lib.hid ⟨(Array.getElem?_eq_some_iff.1 hgb).1, cur, hgb, by omega, htk⟩
  have HW1 := Lib.hid (HW1.out.keep (hb2.block g1 HW1.out.lt))
  have HW2 := Lib.hid (HW2.out.keep (hb2.block g2 HW2.out.lt))
  have HR := Lib.hid (range_below17 HR.out hb2 HS.out)
  have HB := Lib.hid (HB.out.trans (hb2.mono (Nat.le_of_lt HS.out)))
  have HS := Lib.hid (Nat.lt_of_lt_of_le HS.out hb2.size)
  have HN13 : Hid (g1 ≠ g3) := Lib.hid (by have h := HL1.out; omega)
  have HN23 : Hid (g2 ≠ g3) := Lib.hid (by have h := HL2.out; omega)
  have HL1 := Lib.hid HW1.out.lt
  have HL2 := Lib.hid HW2.out.lt
  have HL3 := Lib.hid HW3.out.lt
  clear hown' htk hgb hbg hc1 hc2 hcs hb2 HTR
  go_upto_region 7 with fail
  have HTR := Lib.hid (HT.out.below (hbp ▸ HB.out))
  go_wp2_with (at_builtin; refine wpList_append_own _ rfl _ _ 32 rfl y3.heap.size 34 i0 (.agg #[.int .i64 0, .int .i64 0, .int .i64 0, .string ⟨#[]⟩]) 4 40 Try.underlying32 hi hz0 hz1 hz2 rfl (by decide) (.slice none 0 0) 0 [] rfl (World.ownsRow_nil _ _ _ _) ⟨bt, ot, none⟩ tn tc (vrs17 L) rfl ?d40 ?d41 ?d42 ?d43 ?d44 ?d45 ?_)
  all_goals try (first | (rw [vrs17_length, HTR.out.len]; done) | exact vrs17_news HTR.out | (have q := vrs17_news HTR.out; simpa only [Go.WideShapes.add_plain] using q) | exact vrs17_one L | omega | exact Nat.le_refl _)
  intro v' y4 hown' hgrow _
  have hb2 : Below y3.heap.size y3 y4 := below_grownA hgrow (fun g hg => by cases hg) (Nat.le_refl _)
  clear hgrow
  rcases hown'.2 with ⟨_, h0⟩ | ⟨g4, cp4, cur, rfl, hbg, hgb, hc1, hc2, hcs, htk⟩
  · omega
  have HP4 : Hid (bp < g4) := Lib.hid (by have h := HS.out; omega)
  have HG4 : Hid (y3.heap.size ≤ g4) := Lib.hid hbg
  have HW4 : Hid (Rw y4 g4 tn L) := Lib.hid ⟨(Array.getElem?_eq_some_iff.1 hgb).1, cur, hgb, by omega, htk⟩
  have HW1 := Lib.hid (HW1.out.keep (hb2.block g1 HW1.out.lt))
  have HW2 := Lib.hid (HW2.out.keep (hb2.block g2 HW2.out.lt))
  have HW3 := Lib.hid (HW3.out.keep (hb2.block g3 HW3.out.lt))
  have HR := Lib.hid (range_below17 HR.out hb2 HS.out)
  have HB := Lib.hid (HB.out.trans (hb2.mono (Nat.le_of_lt HS.out)))
  have HS := Lib.hid (Nat.lt_of_lt_of_le HS.out hb2.size)
  have HN14 : Hid (g1 ≠ g4) := Lib.hid (by have h := HL1.out; omega)
  have HN24 : Hid (g2 ≠ g4) := Lib.hid (by have h := HL2.out; omega)
  have HN34 : Hid (g3 ≠ g4) := Lib.hid (by have h := HL3.out; omega)
  have HL1 := Lib.hid HW1.out.lt
  have HL2 := Lib.hid HW2.out.lt
  have HL3 := Lib.hid HW3.out.lt
  have HL4 := Lib.hid HW4.out.lt
  clear hown' htk hgb hbg hc1 hc2 hcs hb2 HTR
  go_upto_region 8 with fail
  have hkw : (k : Int) + 1 - 1 = (k : Int) := by omega
  obtain ⟨cur1, hgb, hcz1, htk1⟩ := HW1.out.row
  have hbl1 := HW1.out.lt
  obtain ⟨x1, x2, x3, s1, v0, v1, v2, v3, ⟨p0, q0, r0⟩, ⟨p1, q1, r1⟩, ⟨p2, q2, r2⟩, ⟨p3, q3, r3⟩, h4, hb4⟩ := four_store17 y4 g1 34 cur1 (k * 4) (.int .i64 0) (.int .i64 0) (.int .i64 0) (.string ⟨#[]⟩) hgb (by omega)
  have hoth := four_other17 y4 g1 (k * 4) (.int .i64 0) (.int .i64 0) (.int .i64 0) (.string ⟨#[]⟩)
  rw [r0, r1, r2, r3] at hoth
  have HC1 := Lib.hid h4
  have HTK1 := Lib.hid htk1
  have hbel := hb4 g1 y4 (Nat.le_refl _) (Below.refl _ _)
  have hpg := HP1.out
  have HR := Lib.hid (range_below17 HR.out hbel hpg)
  have HB := Lib.hid (HB.out.trans (hbel.mono (Nat.le_of_lt hpg)))
  have HS := Lib.hid (Nat.lt_of_lt_of_le HS.out hbel.size)
  have HW2 := Lib.hid (HW2.out.keep (hoth g2 HN12.out.symm))
  have HW3 := Lib.hid (HW3.out.keep (hoth g3 HN13.out.symm))
  have HW4 := Lib.hid (HW4.out.keep (hoth g4 HN14.out.symm))
  clear hoth hb4 h4 hgb htk1 hbel hpg HW1
  go_upto_region 9 with fail
  clear p0 q0 r0 p1 q1 r1 p2 q2 r2 p3 q3 r3 hbl1
  obtain ⟨cur2, hgb, hcz2, htk2⟩ := HW2.out.row
  have hbl2 := HW2.out.lt
  obtain ⟨x1, x2, x3, s2, v0, v1, v2, v3, ⟨p0, q0, r0⟩, ⟨p1, q1, r1⟩, ⟨p2, q2, r2⟩, ⟨p3, q3, r3⟩, h4, hb4⟩ := four_store17 s1 g2 34 cur2 (k * 4) (.int .i64 1) (.int .i64 30) (.int .i64 0) (.string ⟨#[]⟩) hgb (by omega)
  have hoth := four_other17 s1 g2 (k * 4) (.int .i64 1) (.int .i64 30) (.int .i64 0) (.string ⟨#[]⟩)
  rw [r0, r1, r2, r3] at hoth
  have HC2 := Lib.hid h4
  have HTK2 := Lib.hid htk2
  have hbel := hb4 g2 s1 (Nat.le_refl _) (Below.refl _ _)
  have hpg := HP2.out
  have HR := Lib.hid (range_below17 HR.out hbel hpg)
  have HB := Lib.hid (HB.out.trans (hbel.mono (Nat.le_of_lt hpg)))
  have HS := Lib.hid (Nat.lt_of_lt_of_le HS.out hbel.size)
  have HC1 := Lib.hid ((hoth g1 HN12.out).trans HC1.out)
  have HW3 := Lib.hid (HW3.out.keep (hoth g3 HN23.out.symm))
  have HW4 := Lib.hid (HW4.out.keep (hoth g4 HN24.out.symm))
  clear hoth hb4 h4 hgb htk2 hbel hpg HW2
  go_upto_region 10 with fail
  clear p0 q0 r0 p1 q1 r1 p2 q2 r2 p3 q3 r3 hbl2
  obtain ⟨cur3, hgb, hcz3, htk3⟩ := HW3.out.row
  have hbl3 := HW3.out.lt
  obtain ⟨x1, x2, x3, s3, v0, v1, v2, v3, ⟨p0, q0, r0⟩, ⟨p1, q1, r1⟩, ⟨p2, q2, r2⟩, ⟨p3, q3, r3⟩, h4, hb4⟩ := four_store17 s2 g3 34 cur3 (k * 4) (.int .i64 1) (.int .i64 28) (.int .i64 0) (.string ⟨#[]⟩) hgb (by omega)
  have hoth := four_other17 s2 g3 (k * 4) (.int .i64 1) (.int .i64 28) (.int .i64 0) (.string ⟨#[]⟩)
  rw [r0, r1, r2, r3] at hoth
  have HC3 := Lib.hid h4
  have HTK3 := Lib.hid htk3
  have hbel := hb4 g3 s2 (Nat.le_refl _) (Below.refl _ _)
  have hpg := HP3.out
  have HR := Lib.hid (range_below17 HR.out hbel hpg)
  have HB := Lib.hid (HB.out.trans (hbel.mono (Nat.le_of_lt hpg)))
  have HS := Lib.hid (Nat.lt_of_lt_of_le HS.out hbel.size)
  have HC1 := Lib.hid ((hoth g1 HN13.out).trans HC1.out)
  have HC2 := Lib.hid ((hoth g2 HN23.out).trans HC2.out)
  have HW4 := Lib.hid (HW4.out.keep (hoth g4 HN34.out.symm))
  clear hoth hb4 h4 hgb htk3 hbel hpg HW3
  go_upto_region 11 with fail
  clear p0 q0 r0 p1 q1 r1 p2 q2 r2 p3 q3 r3 hbl3
  obtain ⟨cur4, hgb, hcz4, htk4⟩ := HW4.out.row
  have hbl4 := HW4.out.lt
  obtain ⟨x1, x2, x3, s4, v0, v1, v2, v3, ⟨p0, q0, r0⟩, ⟨p1, q1, r1⟩, ⟨p2, q2, r2⟩, ⟨p3, q3, r3⟩, h4, hb4⟩ := four_store17 s3 g4 34 cur4 (k * 4) (.int .i64 1) (.int .i64 29) (.int .i64 0) (.string ⟨#[]⟩) hgb (by omega)
  have hoth := four_other17 s3 g4 (k * 4) (.int .i64 1) (.int .i64 29) (.int .i64 0) (.string ⟨#[]⟩)
  rw [r0, r1, r2, r3] at hoth
  have HC4 := Lib.hid h4
  have HTK4 := Lib.hid htk4
  have hbel := hb4 g4 s3 (Nat.le_refl _) (Below.refl _ _)
  have hpg := HP4.out
  have HR := Lib.hid (range_below17 HR.out hbel hpg)
  have HB := Lib.hid (HB.out.trans (hbel.mono (Nat.le_of_lt hpg)))
  have HS := Lib.hid (Nat.lt_of_lt_of_le HS.out hbel.size)
  have HC1 := Lib.hid ((hoth g1 HN14.out).trans HC1.out)
  have HC2 := Lib.hid ((hoth g2 HN24.out).trans HC2.out)
  have HC3 := Lib.hid ((hoth g3 HN34.out).trans HC3.out)
  clear hoth hb4 h4 hgb htk4 hbel hpg HW4
  go_upto_region 12 with fail
  clear p0 q0 r0 p1 q1 r1 p2 q2 r2 p3 q3 r3 hbl4
  have HD1 : Hid (Td s4 (some ⟨g1, 0, none⟩) tn (L.set k zeroV)) := Lib.hid (td_set (by omega) hcz1 HT.out.len HTK1.out HT.out.nm (Nat.zero_le _) HC1.out)
  have HD2 : Hid (Td s4 (some ⟨g2, 0, none⟩) tn (L.set k (wdV 30))) := Lib.hid (td_set (by omega) hcz2 HT.out.len HTK2.out HT.out.nm (Nat.zero_le _) HC2.out)
  have HD3 : Hid (Td s4 (some ⟨g3, 0, none⟩) tn (L.set k (wdV 28))) := Lib.hid (td_set (by omega) hcz3 HT.out.len HTK3.out HT.out.nm (Nat.zero_le _) HC3.out)
  have HD4 : Hid (Td s4 (some ⟨g4, 0, none⟩) tn (L.set k (wdV 29))) := Lib.hid (td_set (by omega) hcz4 HT.out.len HTK4.out HT.out.nm (Nat.zero_le _) HC4.out)
  obtain ⟨Xs, hXs⟩ : ∃ X, cells17 As (hasS (L.set k zeroV)) f a b = X := ⟨_, rfl⟩
  obtain ⟨Ys, hYs⟩ : ∃ X, cells17 As (hasS (L.set k (wdV 30))) f a b = X := ⟨_, rfl⟩
  obtain ⟨Us, hUs⟩ : ∃ X, cells17 As (hasS (L.set k (wdV 28))) f a b = X := ⟨_, rfl⟩
  obtain ⟨Vs, hVs⟩ : ∃ X, cells17 As (hasS (L.set k (wdV 29))) f a b = X := ⟨_, rfl⟩
  have HTX := HTY2.out (L.set k zeroV) (hname17 HT.out.nm rfl)
  rw [hXs] at HTX
  have hxy := words_unset As L (k + 1) f a b (by omega) (by rw [HT.out.len]; omega)
  rw [Nat.add_sub_cancel, hXs, hYs] at hxy
  subst hxy
  have HUI : Hid (35 ≤ k → Xs = Us) := Lib.hid (fun h => by have q := words_inh As L (k + 1) f a b (by omega) (by rw [HT.out.len]; omega); rwa [Nat.add_sub_cancel, hXs, hUs] at q)
  have HVI : Hid (k < 35 → Xs = Vs) := Lib.hid (fun h => by have q := words_ini As L (k + 1) f a b (by omega) (by omega) (by rw [HT.out.len]; omega); rwa [Nat.add_sub_cancel, hXs, hVs] at q)
  have HXsL : Hid (Xs.length = 55) := Lib.hid (by rw [← hXs]; exact cells17_len _ _ _ _ _)
  have HXsZ : Hid (Xs.toArray.size = 55) := Lib.hid (by simpa using HXsL.out)
  have HXsO : Hid (∀ u, u ∈ Xs → u.oneCell' = true) := Lib.hid (by rw [← hXs]; exact cells17_one _ HAL.out HONE.out _ _ _ _)
  have HUsL : Hid (Us.length = 55) := Lib.hid (by rw [← hUs]; exact cells17_len _ _ _ _ _)
  have HUsZ : Hid (Us.toArray.size = 55) := Lib.hid (by simpa using HUsL.out)
  have HUsO : Hid (∀ u, u ∈ Us → u.oneCell' = true) := Lib.hid (by rw [← hUs]; exact cells17_one _ HAL.out HONE.out _ _ _ _)
  have HVsL : Hid (Vs.length = 55) := Lib.hid (by rw [← hVs]; exact cells17_len _ _ _ _ _)
  have HVsZ : Hid (Vs.toArray.size = 55) := Lib.hid (by simpa using HVsL.out)
  have HVsO : Hid (∀ u, u ∈ Vs → u.oneCell' = true) := Lib.hid (by rw [← hVs]; exact cells17_one _ HAL.out HONE.out _ _ _ _)
  have CA : Hid (∀ W, Below s4.heap.size s4 W → Calls Try.prog 9 #[.slice (some ⟨g1, 0, none⟩) tn cp1, .agg As.toArray, .int .i64 a, .int .i64 b] W fun e w' => e = .returned (.agg Xs.toArray) ∧ Below W.heap.size W w') := Lib.hid (fun W h => by have q := CC.out (some ⟨g1, 0, none⟩) tn cp1 (L.set k zeroV) W (HD1.out.below h); rw [hXs] at q; exact q)
  have CB : Hid (∀ W, Below s4.heap.size s4 W → Calls Try.prog 9 #[.slice (some ⟨g2, 0, none⟩) tn cp2, .agg As.toArray, .int .i64 a, .int .i64 b] W fun e w' => e = .returned (.agg Xs.toArray) ∧ Below W.heap.size W w') := Lib.hid (fun W h => by have q := CC.out (some ⟨g2, 0, none⟩) tn cp2 (L.set k (wdV 30)) W (HD2.out.below h); rw [hYs] at q; exact q)
  have CU : Hid (∀ W, Below s4.heap.size s4 W → Calls Try.prog 9 #[.slice (some ⟨g3, 0, none⟩) tn cp3, .agg As.toArray, .int .i64 a, .int .i64 b] W fun e w' => e = .returned (.agg Us.toArray) ∧ Below W.heap.size W w') := Lib.hid (fun W h => by have q := CC.out (some ⟨g3, 0, none⟩) tn cp3 (L.set k (wdV 28)) W (HD3.out.below h); rw [hUs] at q; exact q)
  have CV : Hid (∀ W, Below s4.heap.size s4 W → Calls Try.prog 9 #[.slice (some ⟨g4, 0, none⟩) tn cp4, .agg As.toArray, .int .i64 a, .int .i64 b] W fun e w' => e = .returned (.agg Vs.toArray) ∧ Below W.heap.size W w') := Lib.hid (fun W h => by have q := CC.out (some ⟨g4, 0, none⟩) tn cp4 (L.set k (wdV 29)) W (HD4.out.below h); rw [hVs] at q; exact q)
  have HR0 := HR
  have HL0 := HS
  clear hXs hYs hUs hVs HR HC1 HC2 HC3 HC4 HTK1 HTK2 HTK3 HTK4 HD1 HD2 HD3 HD4 HN12 HN13 HN14 HN23 HN24 HN34 HTY2 HL1 HL2 HL3 HL4 HG1 HG2 HG3 HG4 HP1 HP2 HP3 HP4 hcz1 hcz2 hcz3 hcz4
  go_cut [15, 16] (fun v15 v16 wx => ∃ x y, v15 = .pointer (some ⟨x, 0, none⟩) ∧ v16 = .pointer (some ⟨y, 0, none⟩) ∧ Hid (Pw s4 wx x y Xs Xs))
  case first =>
    have T0 := (Ps.start s4).drew
    have hS := T0.bel
    refine wp_region_held_drew (S := fun w' => Below s4.heap.size s4 w') (by kernel_rfl) hS (fun hS => ?_)
    generalize s4.drew = X0 at T0 hS ⊢
    refine wpAnyH_take (i := 0) (v := .slice (some ⟨g1, 0, none⟩) tn cp1) rfl (by kernel_rfl) (by kernel_rfl) (by kernel_rfl) (fun _ _ _ h => h) (Or.inl ⟨by kernel_rfl, fun w _ => by kernel_rfl⟩) hS ?_
    simp only [Act.put]
    try simp only [List.setIfInBounds_toArray]
    try simp only [List.set_cons_succ]
    try simp only [List.set_cons_zero]
    refine wpAnyH_take (i := 1) (v := .agg As.toArray) rfl (by kernel_rfl) (by kernel_rfl) (by kernel_rfl) (fun _ _ _ h => h) (yieldsIf_load_mid (by kernel_rfl) _ _ rfl bp 0 rfl As _ (fun w h => range_below17 HR0.out h HL0.out) Try.underlying27 rfl (by rw [size17, HAL.out])) hS ?_
    simp only [Act.put]
    try simp only [List.setIfInBounds_toArray]
    try simp only [List.set_cons_succ]
    try simp only [List.set_cons_zero]
    refine wpAnyH_take (i := 2) (v := .int .i64 a) rfl (by kernel_rfl) (by kernel_rfl) (by kernel_rfl) (fun _ _ _ h => h) (Or.inl ⟨by kernel_rfl, fun w _ => by kernel_rfl⟩) hS ?_
    simp only [Act.put]
    try simp only [List.setIfInBounds_toArray]
    try simp only [List.set_cons_succ]
    try simp only [List.set_cons_zero]
    refine wpAnyH_take (i := 3) (v := .int .i64 b) rfl (by kernel_rfl) (by kernel_rfl) (by kernel_rfl) (fun _ _ _ h => h) (Or.inl ⟨by kernel_rfl, fun w _ => by kernel_rfl⟩) hS ?_
    simp only [Act.put]
    try simp only [List.setIfInBounds_toArray]
    try simp only [List.set_cons_succ]
    try simp only [List.set_cons_zero]
    refine wpAnyH_take (i := 5) (v := .slice (some ⟨g2, 0, none⟩) tn cp2) rfl (by kernel_rfl) (by kernel_rfl) (by kernel_rfl) (fun _ _ _ h => h) (Or.inl ⟨by kernel_rfl, fun w _ => by kernel_rfl⟩) hS ?_
    simp only [Act.put]
    try simp only [List.setIfInBounds_toArray]
    try simp only [List.set_cons_succ]
    try simp only [List.set_cons_zero]
    refine wpAnyH_take (i := 6) (v := .agg As.toArray) rfl (by kernel_rfl) (by kernel_rfl) (by kernel_rfl) (fun _ _ _ h => h) (yieldsIf_load_mid (by kernel_rfl) _ _ rfl bp 0 rfl As _ (fun w h => range_below17 HR0.out h HL0.out) Try.underlying27 rfl (by rw [size17, HAL.out])) hS ?_
    simp only [Act.put]
    try simp only [List.setIfInBounds_toArray]
    try simp only [List.set_cons_succ]
    try simp only [List.set_cons_zero]
    refine wpAnyH_take (i := 7) (v := .int .i64 a) rfl (by kernel_rfl) (by kernel_rfl) (by kernel_rfl) (fun _ _ _ h => h) (Or.inl ⟨by kernel_rfl, fun w _ => by kernel_rfl⟩) hS ?_
    simp only [Act.put]
    try simp only [List.setIfInBounds_toArray]
    try simp only [List.set_cons_succ]
    try simp only [List.set_cons_zero]
    refine wpAnyH_take (i := 8) (v := .int .i64 b) rfl (by kernel_rfl) (by kernel_rfl) (by kernel_rfl) (fun _ _ _ h => h) (Or.inl ⟨by kernel_rfl, fun w _ => by kernel_rfl⟩) hS ?_
    simp only [Act.put]
    try simp only [List.setIfInBounds_toArray]
    try simp only [List.set_cons_succ]
    try simp only [List.set_cons_zero]
    refine wpAnyH_ready (rs := [4, 10, 11]) (by kernel_rfl) (by simp) ?_
    refine AllReadyH.cons rfl (fun K hK => ?_) (AllReadyH.cons rfl (fun K hK => ?_) (AllReadyH.cons rfl (fun K hK => ?_) AllReadyH.nil))
    · go_simp
      refine (CA.out _ T0.bel).mono ?_
      rintro e w1 ⟨rfl, hb⟩
      have T2 := T0.call hb
      clear hb
      dsimp only
      refine hK.out _ _ T2.bel (fun _ => ?_)
      clear hK K
      refine wpAnyH_ready (rs := [9, 10, 11]) (by kernel_rfl) (by simp) ?_
      refine AllReadyH.cons rfl (fun K hK => ?_) (AllReadyH.cons rfl (fun K hK => ?_) (AllReadyH.cons rfl (fun K hK => ?_) AllReadyH.nil))
      · go_simp
        refine (CB.out _ T2.bel).mono ?_
        rintro e w3 ⟨rfl, hb⟩
        have T4 := T2.call hb
        clear hb
        dsimp only
        refine hK.out _ _ T4.bel (fun _ => ?_)
        clear hK K
        refine wpAnyH_ready (rs := [10, 11]) (by kernel_rfl) (by simp) ?_
        refine AllReadyH.cons rfl (fun K hK => ?_) (AllReadyH.cons rfl (fun K hK => ?_) AllReadyH.nil)
        · go_simp
          have T6 := T4.ax
          obtain ⟨V5, hW⟩ : ∃ W, w3.alloc (.cells #[Value.int .i64 0, Value.bool false, Value.int .i64 0, Value.int .i64 0, Value.int .i64 0, Value.int .i64 0, Value.int .i64 0, Value.int .i64 0, Value.int .i64 0, Value.int .i64 0, Value.int .i64 0, Value.int .i64 0, Value.int .i64 0, Value.int .i64 0, Value.int .i64 0, Value.int .i64 0, Value.int .i64 0, Value.int .i64 0, Value.int .i64 0, Value.int .i64 0, Value.int .i64 0, Value.int .i64 0, Value.int .i64 0, Value.int .i64 0, Value.int .i64 0, Value.int .i64 0, Value.int .i64 0, Value.int .i64 0, Value.int .i64 0, Value.int .i64 0, Value.int .i64 0, Value.int .i64 0, Value.int .i64 0, Value.int .i64 0, Value.int .i64 0, Value.int .i64 0, Value.int .i64 0, Value.int .i64 0, Value.int .i64 0, Value.int .i64 0, Value.int .i64 0, Value.int .i64 0, Value.int .i64 0, Value.int .i64 0, Value.int .i64 0, Value.int .i64 0, Value.int .i64 0, Value.int .i64 0, Value.int .i64 0, Value.int .i64 0, Value.int .i64 0, Value.int .i64 0, Value.string ⟨#[]⟩, Value.int .i64 0, Value.int .i64 0] 27) = W := ⟨_, rfl⟩
          rw [hW] at T6 ⊢
          clear hW
          refine hK.out _ _ T6.bel (fun _ => ?_)
          clear hK K
          refine wpAnyH_ready (rs := [11]) (by kernel_rfl) (by simp) ?_
          refine AllReadyH.cons rfl (fun K hK => ?_) AllReadyH.nil
          · go_simp
            have T8 := T6.ay
            obtain ⟨V7, hW⟩ : ∃ W, V5.alloc (.cells #[Value.int .i64 0, Value.bool false, Value.int .i64 0, Value.int .i64 0, Value.int .i64 0, Value.int .i64 0, Value.int .i64 0, Value.int .i64 0, Value.int .i64 0, Value.int .i64 0, Value.int .i64 0, Value.int .i64 0, Value.int .i64 0, Value.int .i64 0, Value.int .i64 0, Value.int .i64 0, Value.int .i64 0, Value.int .i64 0, Value.int .i64 0, Value.int .i64 0, Value.int .i64 0, Value.int .i64 0, Value.int .i64 0, Value.int .i64 0, Value.int .i64 0, Value.int .i64 0, Value.int .i64 0, Value.int .i64 0, Value.int .i64 0, Value.int .i64 0, Value.int .i64 0, Value.int .i64 0, Value.int .i64 0, Value.int .i64 0, Value.int .i64 0, Value.int .i64 0, Value.int .i64 0, Value.int .i64 0, Value.int .i64 0, Value.int .i64 0, Value.int .i64 0, Value.int .i64 0, Value.int .i64 0, Value.int .i64 0, Value.int .i64 0, Value.int .i64 0, Value.int .i64 0, Value.int .i64 0, Value.int .i64 0, Value.int .i64 0, Value.int .i64 0, Value.int .i64 0, Value.string ⟨#[]⟩, Value.int .i64 0, Value.int .i64 0] 27) = W := ⟨_, rfl⟩
            rw [hW] at T8 ⊢
            clear hW
            refine hK.out _ _ T8.bel (fun _ => ?_)
            clear hK K
            refine wpAnyH_ready (rs := [12]) (by kernel_rfl) (by simp) ?_
            refine AllReadyH.cons rfl (fun K hK => ?_) AllReadyH.nil
            rw [if_pos (by kernel_rfl)]
            refine wp_store_mid 27 _ _ rfl _ 0 Xs.toArray rfl rfl (by rw [HXsZ.out]; exact (T8.hx _ rfl).2.2) (by rw [HXsZ.out]; exact size17) (all_oneCell_toArray HXsO.out) ?_
            simp only [Act.put]
            try simp only [List.setIfInBounds_toArray]
            try simp only [List.set_cons_succ]
            try simp only [List.set_cons_zero]
            refine hK.out _ _ (below_setCells T8.bel _ (T8.hx _ rfl).1 _ 0) (fun _ => ?_)
            clear hK K
            refine wpAnyH_ready (rs := [13]) (by kernel_rfl) (by simp) ?_
            refine AllReadyH.cons rfl (fun K hK => ?_) AllReadyH.nil
            rw [if_pos (by kernel_rfl)]
            refine wp_store_mid 27 _ _ rfl _ 0 Xs.toArray rfl rfl (by rw [HXsZ.out]; exact World.there_setCells (T8.hy _ rfl).2.2 _ 0 _) (by rw [HXsZ.out]; exact size17) (all_oneCell_toArray HXsO.out) ?_
            simp only [Act.put]
            try simp only [List.setIfInBounds_toArray]
            try simp only [List.set_cons_succ]
            try simp only [List.set_cons_zero]
            refine hK.out _ _ (below_setCells (below_setCells T8.bel _ (T8.hx _ rfl).1 _ 0) _ (T8.hy _ rfl).1 _ 0) (fun _ => ?_)
            clear hK K
            refine wpAnyH_done (by kernel_rfl) ?_ _
            go_wp2_with fail
            go_meet
            exact ⟨_, _, rfl, rfl, Lib.hid (T8.two HXsL.out HXsL.out)⟩
        · go_simp
          have T10 := T4.ay
          obtain ⟨V9, hW⟩ : ∃ W, w3.alloc (.cells #[Value.int .i64 0, Value.bool false, Value.int .i64 0, Value.int .i64 0, Value.int .i64 0, Value.int .i64 0, Value.int .i64 0, Value.int .i64 0, Value.int .i64 0, Value.int .i64 0, Value.int .i64 0, Value.int .i64 0, Value.int .i64 0, Value.int .i64 0, Value.int .i64 0, Value.int .i64 0, Value.int .i64 0, Value.int .i64 0, Value.int .i64 0, Value.int .i64 0, Value.int .i64 0, Value.int .i64 0, Value.int .i64 0, Value.int .i64 0, Value.int .i64 0, Value.int .i64 0, Value.int .i64 0, Value.int .i64 0, Value.int .i64 0, Value.int .i64 0, Value.int .i64 0, Value.int .i64 0, Value.int .i64 0, Value.int .i64 0, Value.int .i64 0, Value.int .i64 0, Value.int .i64 0, Value.int .i64 0, Value.int .i64 0, Value.int .i64 0, Value.int .i64 0, Value.int .i64 0, Value.int .i64 0, Value.int .i64 0, Value.int .i64 0, Value.int .i64 0, Value.int .i64 0, Value.int .i64 0, Value.int .i64 0, Value.int .i64 0, Value.int .i64 0, Value.int .i64 0, Value.string ⟨#[]⟩, Value.int .i64 0, Value.int .i64 0] 27) = W := ⟨_, rfl⟩
          rw [hW] at T10 ⊢
          clear hW
          refine hK.out _ _ T10.bel (fun _ => ?_)
          clear hK K
          refine wpAnyH_ready (rs := [10]) (by kernel_rfl) (by simp) ?_
          refine AllReadyH.cons rfl (fun K hK => ?_) AllReadyH.nil
          · go_simp
            have T12 := T10.ax
            obtain ⟨V11, hW⟩ : ∃ W, V9.alloc (.cells #[Value.int .i64 0, Value.bool false, Value.int .i64 0, Value.int .i64 0, Value.int .i64 0, Value.int .i64 0, Value.int .i64 0, Value.int .i64 0, Value.int .i64 0, Value.int .i64 0, Value.int .i64 0, Value.int .i64 0, Value.int .i64 0, Value.int .i64 0, Value.int .i64 0, Value.int .i64 0, Value.int .i64 0, Value.int .i64 0, Value.int .i64 0, Value.int .i64 0, Value.int .i64 0, Value.int .i64 0, Value.int .i64 0, Value.int .i64 0, Value.int .i64 0, Value.int .i64 0, Value.int .i64 0, Value.int .i64 0, Value.int .i64 0, Value.int .i64 0, Value.int .i64 0, Value.int .i64 0, Value.int .i64 0, Value.int .i64 0, Value.int .i64 0, Value.int .i64 0, Value.int .i64 0, Value.int .i64 0, Value.int .i64 0, Value.int .i64 0, Value.int .i64 0, Value.int .i64 0, Value.int .i64 0, Value.int .i64 0, Value.int .i64 0, Value.int .i64 0, Value.int .i64 0, Value.int .i64 0, Value.int .i64 0, Value.int .i64 0, Value.int .i64 0, Value.int .i64 0, Value.string ⟨#[]⟩, Value.int .i64 0, Value.int .i64 0] 27) = W := ⟨_, rfl⟩
            rw [hW] at T12 ⊢
            clear hW
            refine hK.out _ _ T12.bel (fun _ => ?_)
            clear hK K
            refine wpAnyH_ready (rs := [12]) (by kernel_rfl) (by simp) ?_
            refine AllReadyH.cons rfl (fun K hK => ?_) AllReadyH.nil
            rw [if_pos (by kernel_rfl)]
            refine wp_store_mid 27 _ _ rfl _ 0 Xs.toArray rfl rfl (by rw [HXsZ.out]; exact (T12.hx _ rfl).2.2) (by rw [HXsZ.out]; exact size17) (all_oneCell_toArray HXsO.out) ?_
            simp only [Act.put]
            try simp only [List.setIfInBounds_toArray]
            try simp only [List.set_cons_succ]
            try simp only [List.set_cons_zero]
            refine hK.out _ _ (below_setCells T12.bel _ (T12.hx _ rfl).1 _ 0) (fun _ => ?_)
            clear hK K
            refine wpAnyH_ready (rs := [13]) (by kernel_rfl) (by simp) ?_
            refine AllReadyH.cons rfl (fun K hK => ?_) AllReadyH.nil
            rw [if_pos (by kernel_rfl)]
            refine wp_store_mid 27 _ _ rfl _ 0 Xs.toArray rfl rfl (by rw [HXsZ.out]; exact World.there_setCells (T12.hy _ rfl).2.2 _ 0 _) (by rw [HXsZ.out]; exact size17) (all_oneCell_toArray HXsO.out) ?_
            simp only [Act.put]
            try simp only [List.setIfInBounds_toArray]
            try simp only [List.set_cons_succ]
            try simp only [List.set_cons_zero]
            refine hK.out _ _ (below_setCells (below_setCells T12.bel _ (T12.hx _ rfl).1 _ 0) _ (T12.hy _ rfl).1 _ 0) (fun _ => ?_)
            clear hK K
            refine wpAnyH_done (by kernel_rfl) ?_ _
            go_wp2_with fail
            go_meet
            exact ⟨_, _, rfl, rfl, Lib.hid (T12.two HXsL.out HXsL.out)⟩
      · go_simp
        have T14 := T2.ax
        obtain ⟨V13, hW⟩ : ∃ W, w1.alloc (.cells #[Value.int .i64 0, Value.bool false, Value.int .i64 0, Value.int .i64 0, Value.int .i64 0, Value.int .i64 0, Value.int .i64 0, Value.int .i64 0, Value.int .i64 0, Value.int .i64 0, Value.int .i64 0, Value.int .i64 0, Value.int .i64 0, Value.int .i64 0, Value.int .i64 0, Value.int .i64 0, Value.int .i64 0, Value.int .i64 0, Value.int .i64 0, Value.int .i64 0, Value.int .i64 0, Value.int .i64 0, Value.int .i64 0, Value.int .i64 0, Value.int .i64 0, Value.int .i64 0, Value.int .i64 0, Value.int .i64 0, Value.int .i64 0, Value.int .i64 0, Value.int .i64 0, Value.int .i64 0, Value.int .i64 0, Value.int .i64 0, Value.int .i64 0, Value.int .i64 0, Value.int .i64 0, Value.int .i64 0, Value.int .i64 0, Value.int .i64 0, Value.int .i64 0, Value.int .i64 0, Value.int .i64 0, Value.int .i64 0, Value.int .i64 0, Value.int .i64 0, Value.int .i64 0, Value.int .i64 0, Value.int .i64 0, Value.int .i64 0, Value.int .i64 0, Value.int .i64 0, Value.string ⟨#[]⟩, Value.int .i64 0, Value.int .i64 0] 27) = W := ⟨_, rfl⟩
        rw [hW] at T14 ⊢
        clear hW
        refine hK.out _ _ T14.bel (fun _ => ?_)
        clear hK K
        refine wpAnyH_ready (rs := [9, 11]) (by kernel_rfl) (by simp) ?_
        refine AllReadyH.cons rfl (fun K hK => ?_) (AllReadyH.cons rfl (fun K hK => ?_) AllReadyH.nil)
        · go_simp
          refine (CB.out _ T14.bel).mono ?_
          rintro e w15 ⟨rfl, hb⟩
          have T16 := T14.call hb
          clear hb
          dsimp only
          refine hK.out _ _ T16.bel (fun _ => ?_)
          clear hK K
          refine wpAnyH_ready (rs := [11]) (by kernel_rfl) (by simp) ?_
          refine AllReadyH.cons rfl (fun K hK => ?_) AllReadyH.nil
          · go_simp
            have T18 := T16.ay
            obtain ⟨V17, hW⟩ : ∃ W, w15.alloc (.cells #[Value.int .i64 0, Value.bool false, Value.int .i64 0, Value.int .i64 0, Value.int .i64 0, Value.int .i64 0, Value.int .i64 0, Value.int .i64 0, Value.int .i64 0, Value.int .i64 0, Value.int .i64 0, Value.int .i64 0, Value.int .i64 0, Value.int .i64 0, Value.int .i64 0, Value.int .i64 0, Value.int .i64 0, Value.int .i64 0, Value.int .i64 0, Value.int .i64 0, Value.int .i64 0, Value.int .i64 0, Value.int .i64 0, Value.int .i64 0, Value.int .i64 0, Value.int .i64 0, Value.int .i64 0, Value.int .i64 0, Value.int .i64 0, Value.int .i64 0, Value.int .i64 0, Value.int .i64 0, Value.int .i64 0, Value.int .i64 0, Value.int .i64 0, Value.int .i64 0, Value.int .i64 0, Value.int .i64 0, Value.int .i64 0, Value.int .i64 0, Value.int .i64 0, Value.int .i64 0, Value.int .i64 0, Value.int .i64 0, Value.int .i64 0, Value.int .i64 0, Value.int .i64 0, Value.int .i64 0, Value.int .i64 0, Value.int .i64 0, Value.int .i64 0, Value.int .i64 0, Value.string ⟨#[]⟩, Value.int .i64 0, Value.int .i64 0] 27) = W := ⟨_, rfl⟩
            rw [hW] at T18 ⊢
            clear hW
            refine hK.out _ _ T18.bel (fun _ => ?_)
            clear hK K
            refine wpAnyH_ready (rs := [12]) (by kernel_rfl) (by simp) ?_
            refine AllReadyH.cons rfl (fun K hK => ?_) AllReadyH.nil
            rw [if_pos (by kernel_rfl)]
            refine wp_store_mid 27 _ _ rfl _ 0 Xs.toArray rfl rfl (by rw [HXsZ.out]; exact (T18.hx _ rfl).2.2) (by rw [HXsZ.out]; exact size17) (all_oneCell_toArray HXsO.out) ?_
            simp only [Act.put]
            try simp only [List.setIfInBounds_toArray]
            try simp only [List.set_cons_succ]
            try simp only [List.set_cons_zero]
            refine hK.out _ _ (below_setCells T18.bel _ (T18.hx _ rfl).1 _ 0) (fun _ => ?_)
            clear hK K
            refine wpAnyH_ready (rs := [13]) (by kernel_rfl) (by simp) ?_
            refine AllReadyH.cons rfl (fun K hK => ?_) AllReadyH.nil
            rw [if_pos (by kernel_rfl)]
            refine wp_store_mid 27 _ _ rfl _ 0 Xs.toArray rfl rfl (by rw [HXsZ.out]; exact World.there_setCells (T18.hy _ rfl).2.2 _ 0 _) (by rw [HXsZ.out]; exact size17) (all_oneCell_toArray HXsO.out) ?_
            simp only [Act.put]
            try simp only [List.setIfInBounds_toArray]
            try simp only [List.set_cons_succ]
            try simp only [List.set_cons_zero]
            refine hK.out _ _ (below_setCells (below_setCells T18.bel _ (T18.hx _ rfl).1 _ 0) _ (T18.hy _ rfl).1 _ 0) (fun _ => ?_)
            clear hK K
            refine wpAnyH_done (by kernel_rfl) ?_ _
            go_wp2_with fail
            go_meet
            exact ⟨_, _, rfl, rfl, Lib.hid (T18.two HXsL.out HXsL.out)⟩
        · go_simp
          have T20 := T14.ay
          obtain ⟨V19, hW⟩ : ∃ W, V13.alloc (.cells #[Value.int .i64 0, Value.bool false, Value.int .i64 0, Value.int .i64 0, Value.int .i64 0, Value.int .i64 0, Value.int .i64 0, Value.int .i64 0, Value.int .i64 0, Value.int .i64 0, Value.int .i64 0, Value.int .i64 0, Value.int .i64 0, Value.int .i64 0, Value.int .i64 0, Value.int .i64 0, Value.int .i64 0, Value.int .i64 0, Value.int .i64 0, Value.int .i64 0, Value.int .i64 0, Value.int .i64 0, Value.int .i64 0, Value.int .i64 0, Value.int .i64 0, Value.int .i64 0, Value.int .i64 0, Value.int .i64 0, Value.int .i64 0, Value.int .i64 0, Value.int .i64 0, Value.int .i64 0, Value.int .i64 0, Value.int .i64 0, Value.int .i64 0, Value.int .i64 0, Value.int .i64 0, Value.int .i64 0, Value.int .i64 0, Value.int .i64 0, Value.int .i64 0, Value.int .i64 0, Value.int .i64 0, Value.int .i64 0, Value.int .i64 0, Value.int .i64 0, Value.int .i64 0, Value.int .i64 0, Value.int .i64 0, Value.int .i64 0, Value.int .i64 0, Value.int .i64 0, Value.string ⟨#[]⟩, Value.int .i64 0, Value.int .i64 0] 27) = W := ⟨_, rfl⟩
          rw [hW] at T20 ⊢
          clear hW
          refine hK.out _ _ T20.bel (fun _ => ?_)
          clear hK K
          refine wpAnyH_ready (rs := [9]) (by kernel_rfl) (by simp) ?_
          refine AllReadyH.cons rfl (fun K hK => ?_) AllReadyH.nil
          · go_simp
            refine (CB.out _ T20.bel).mono ?_
            rintro e w21 ⟨rfl, hb⟩
            have T22 := T20.call hb
            clear hb
            dsimp only
            refine hK.out _ _ T22.bel (fun _ => ?_)
            clear hK K
            refine wpAnyH_ready (rs := [12]) (by kernel_rfl) (by simp) ?_
            refine AllReadyH.cons rfl (fun K hK => ?_) AllReadyH.nil
            rw [if_pos (by kernel_rfl)]
            refine wp_store_mid 27 _ _ rfl _ 0 Xs.toArray rfl rfl (by rw [HXsZ.out]; exact (T22.hx _ rfl).2.2) (by rw [HXsZ.out]; exact size17) (all_oneCell_toArray HXsO.out) ?_
            simp only [Act.put]
            try simp only [List.setIfInBounds_toArray]
            try simp only [List.set_cons_succ]
            try simp only [List.set_cons_zero]
            refine hK.out _ _ (below_setCells T22.bel _ (T22.hx _ rfl).1 _ 0) (fun _ => ?_)
            clear hK K
            refine wpAnyH_ready (rs := [13]) (by kernel_rfl) (by simp) ?_
            refine AllReadyH.cons rfl (fun K hK => ?_) AllReadyH.nil
            rw [if_pos (by kernel_rfl)]
            refine wp_store_mid 27 _ _ rfl _ 0 Xs.toArray rfl rfl (by rw [HXsZ.out]; exact World.there_setCells (T22.hy _ rfl).2.2 _ 0 _) (by rw [HXsZ.out]; exact size17) (all_oneCell_toArray HXsO.out) ?_
            simp only [Act.put]
            try simp only [List.setIfInBounds_toArray]
            try simp only [List.set_cons_succ]
            try simp only [List.set_cons_zero]
            refine hK.out _ _ (below_setCells (below_setCells T22.bel _ (T22.hx _ rfl).1 _ 0) _ (T22.hy _ rfl).1 _ 0) (fun _ => ?_)
            clear hK K
            refine wpAnyH_done (by kernel_rfl) ?_ _
            go_wp2_with fail
            go_meet
            exact ⟨_, _, rfl, rfl, Lib.hid (T22.two HXsL.out HXsL.out)⟩
      · go_simp
        have T24 := T2.ay
        obtain ⟨V23, hW⟩ : ∃ W, w1.alloc (.cells #[Value.int .i64 0, Value.bool false, Value.int .i64 0, Value.int .i64 0, Value.int .i64 0, Value.int .i64 0, Value.int .i64 0, Value.int .i64 0, Value.int .i64 0, Value.int .i64 0, Value.int .i64 0, Value.int .i64 0, Value.int .i64 0, Value.int .i64 0, Value.int .i64 0, Value.int .i64 0, Value.int .i64 0, Value.int .i64 0, Value.int .i64 0, Value.int .i64 0, Value.int .i64 0, Value.int .i64 0, Value.int .i64 0, Value.int .i64 0, Value.int .i64 0, Value.int .i64 0, Value.int .i64 0, Value.int .i64 0, Value.int .i64 0, Value.int .i64 0, Value.int .i64 0, Value.int .i64 0, Value.int .i64 0, Value.int .i64 0, Value.int .i64 0, Value.int .i64 0, Value.int .i64 0, Value.int .i64 0, Value.int .i64 0, Value.int .i64 0, Value.int .i64 0, Value.int .i64 0, Value.int .i64 0, Value.int .i64 0, Value.int .i64 0, Value.int .i64 0, Value.int .i64 0, Value.int .i64 0, Value.int .i64 0, Value.int .i64 0, Value.int .i64 0, Value.int .i64 0, Value.string ⟨#[]⟩, Value.int .i64 0, Value.int .i64 0] 27) = W := ⟨_, rfl⟩
        rw [hW] at T24 ⊢
        clear hW
        refine hK.out _ _ T24.bel (fun _ => ?_)
        clear hK K
        refine wpAnyH_ready (rs := [9, 10]) (by kernel_rfl) (by simp) ?_
        refine AllReadyH.cons rfl (fun K hK => ?_) (AllReadyH.cons rfl (fun K hK => ?_) AllReadyH.nil)
        · go_simp
          refine (CB.out _ T24.bel).mono ?_
          rintro e w25 ⟨rfl, hb⟩
          have T26 := T24.call hb
          clear hb
          dsimp only
          refine hK.out _ _ T26.bel (fun _ => ?_)
          clear hK K
          refine wpAnyH_ready (rs := [10]) (by kernel_rfl) (by simp) ?_
          refine AllReadyH.cons rfl (fun K hK => ?_) AllReadyH.nil
          · go_simp
            have T28 := T26.ax
            obtain ⟨V27, hW⟩ : ∃ W, w25.alloc (.cells #[Value.int .i64 0, Value.bool false, Value.int .i64 0, Value.int .i64 0, Value.int .i64 0, Value.int .i64 0, Value.int .i64 0, Value.int .i64 0, Value.int .i64 0, Value.int .i64 0, Value.int .i64 0, Value.int .i64 0, Value.int .i64 0, Value.int .i64 0, Value.int .i64 0, Value.int .i64 0, Value.int .i64 0, Value.int .i64 0, Value.int .i64 0, Value.int .i64 0, Value.int .i64 0, Value.int .i64 0, Value.int .i64 0, Value.int .i64 0, Value.int .i64 0, Value.int .i64 0, Value.int .i64 0, Value.int .i64 0, Value.int .i64 0, Value.int .i64 0, Value.int .i64 0, Value.int .i64 0, Value.int .i64 0, Value.int .i64 0, Value.int .i64 0, Value.int .i64 0, Value.int .i64 0, Value.int .i64 0, Value.int .i64 0, Value.int .i64 0, Value.int .i64 0, Value.int .i64 0, Value.int .i64 0, Value.int .i64 0, Value.int .i64 0, Value.int .i64 0, Value.int .i64 0, Value.int .i64 0, Value.int .i64 0, Value.int .i64 0, Value.int .i64 0, Value.int .i64 0, Value.string ⟨#[]⟩, Value.int .i64 0, Value.int .i64 0] 27) = W := ⟨_, rfl⟩
            rw [hW] at T28 ⊢
            clear hW
            refine hK.out _ _ T28.bel (fun _ => ?_)
            clear hK K
            refine wpAnyH_ready (rs := [12]) (by kernel_rfl) (by simp) ?_
            refine AllReadyH.cons rfl (fun K hK => ?_) AllReadyH.nil
            rw [if_pos (by kernel_rfl)]
            refine wp_store_mid 27 _ _ rfl _ 0 Xs.toArray rfl rfl (by rw [HXsZ.out]; exact (T28.hx _ rfl).2.2) (by rw [HXsZ.out]; exact size17) (all_oneCell_toArray HXsO.out) ?_
            simp only [Act.put]
            try simp only [List.setIfInBounds_toArray]
            try simp only [List.set_cons_succ]
            try simp only [List.set_cons_zero]
            refine hK.out _ _ (below_setCells T28.bel _ (T28.hx _ rfl).1 _ 0) (fun _ => ?_)
            clear hK K
            refine wpAnyH_ready (rs := [13]) (by kernel_rfl) (by simp) ?_
            refine AllReadyH.cons rfl (fun K hK => ?_) AllReadyH.nil
            rw [if_pos (by kernel_rfl)]
            refine wp_store_mid 27 _ _ rfl _ 0 Xs.toArray rfl rfl (by rw [HXsZ.out]; exact World.there_setCells (T28.hy _ rfl).2.2 _ 0 _) (by rw [HXsZ.out]; exact size17) (all_oneCell_toArray HXsO.out) ?_
            simp only [Act.put]
            try simp only [List.setIfInBounds_toArray]
            try simp only [List.set_cons_succ]
            try simp only [List.set_cons_zero]
            refine hK.out _ _ (below_setCells (below_setCells T28.bel _ (T28.hx _ rfl).1 _ 0) _ (T28.hy _ rfl).1 _ 0) (fun _ => ?_)
            clear hK K
            refine wpAnyH_done (by kernel_rfl) ?_ _
            go_wp2_with fail
            go_meet
            exact ⟨_, _, rfl, rfl, Lib.hid (T28.two HXsL.out HXsL.out)⟩
        · go_simp
          have T30 := T24.ax
          obtain ⟨V29, hW⟩ : ∃ W, V23.alloc (.cells #[Value.int .i64 0, Value.bool false, Value.int .i64 0, Value.int .i64 0, Value.int .i64 0, Value.int .i64 0, Value.int .i64 0, Value.int .i64 0, Value.int .i64 0, Value.int .i64 0, Value.int .i64 0, Value.int .i64 0, Value.int .i64 0, Value.int .i64 0, Value.int .i64 0, Value.int .i64 0, Value.int .i64 0, Value.int .i64 0, Value.int .i64 0, Value.int .i64 0, Value.int .i64 0, Value.int .i64 0, Value.int .i64 0, Value.int .i64 0, Value.int .i64 0, Value.int .i64 0, Value.int .i64 0, Value.int .i64 0, Value.int .i64 0, Value.int .i64 0, Value.int .i64 0, Value.int .i64 0, Value.int .i64 0, Value.int .i64 0, Value.int .i64 0, Value.int .i64 0, Value.int .i64 0, Value.int .i64 0, Value.int .i64 0, Value.int .i64 0, Value.int .i64 0, Value.int .i64 0, Value.int .i64 0, Value.int .i64 0, Value.int .i64 0, Value.int .i64 0, Value.int .i64 0, Value.int .i64 0, Value.int .i64 0, Value.int .i64 0, Value.int .i64 0, Value.int .i64 0, Value.string ⟨#[]⟩, Value.int .i64 0, Value.int .i64 0] 27) = W := ⟨_, rfl⟩
          rw [hW] at T30 ⊢
          clear hW
          refine hK.out _ _ T30.bel (fun _ => ?_)
          clear hK K
          refine wpAnyH_ready (rs := [9]) (by kernel_rfl) (by simp) ?_
          refine AllReadyH.cons rfl (fun K hK => ?_) AllReadyH.nil
          · go_simp
            refine (CB.out _ T30.bel).mono ?_
            rintro e w31 ⟨rfl, hb⟩
            have T32 := T30.call hb
            clear hb
            dsimp only
            refine hK.out _ _ T32.bel (fun _ => ?_)
            clear hK K
            refine wpAnyH_ready (rs := [12]) (by kernel_rfl) (by simp) ?_
            refine AllReadyH.cons rfl (fun K hK => ?_) AllReadyH.nil
            rw [if_pos (by kernel_rfl)]
            refine wp_store_mid 27 _ _ rfl _ 0 Xs.toArray rfl rfl (by rw [HXsZ.out]; exact (T32.hx _ rfl).2.2) (by rw [HXsZ.out]; exact size17) (all_oneCell_toArray HXsO.out) ?_
            simp only [Act.put]
            try simp only [List.setIfInBounds_toArray]
            try simp only [List.set_cons_succ]
            try simp only [List.set_cons_zero]
            refine hK.out _ _ (below_setCells T32.bel _ (T32.hx _ rfl).1 _ 0) (fun _ => ?_)
            clear hK K
            refine wpAnyH_ready (rs := [13]) (by kernel_rfl) (by simp) ?_
            refine AllReadyH.cons rfl (fun K hK => ?_) AllReadyH.nil
            rw [if_pos (by kernel_rfl)]
            refine wp_store_mid 27 _ _ rfl _ 0 Xs.toArray rfl rfl (by rw [HXsZ.out]; exact World.there_setCells (T32.hy _ rfl).2.2 _ 0 _) (by rw [HXsZ.out]; exact size17) (all_oneCell_toArray HXsO.out) ?_
            simp only [Act.put]
            try simp only [List.setIfInBounds_toArray]
            try simp only [List.set_cons_succ]
            try simp only [List.set_cons_zero]
            refine hK.out _ _ (below_setCells (below_setCells T32.bel _ (T32.hx _ rfl).1 _ 0) _ (T32.hy _ rfl).1 _ 0) (fun _ => ?_)
            clear hK K
            refine wpAnyH_done (by kernel_rfl) ?_ _
            go_wp2_with fail
            go_meet
            exact ⟨_, _, rfl, rfl, Lib.hid (T32.two HXsL.out HXsL.out)⟩
    · go_simp
      have T34 := T0.ax
      obtain ⟨V33, hW⟩ : ∃ W, X0.alloc (.cells #[Value.int .i64 0, Value.bool false, Value.int .i64 0, Value.int .i64 0, Value.int .i64 0, Value.int .i64 0, Value.int .i64 0, Value.int .i64 0, Value.int .i64 0, Value.int .i64 0, Value.int .i64 0, Value.int .i64 0, Value.int .i64 0, Value.int .i64 0, Value.int .i64 0, Value.int .i64 0, Value.int .i64 0, Value.int .i64 0, Value.int .i64 0, Value.int .i64 0, Value.int .i64 0, Value.int .i64 0, Value.int .i64 0, Value.int .i64 0, Value.int .i64 0, Value.int .i64 0, Value.int .i64 0, Value.int .i64 0, Value.int .i64 0, Value.int .i64 0, Value.int .i64 0, Value.int .i64 0, Value.int .i64 0, Value.int .i64 0, Value.int .i64 0, Value.int .i64 0, Value.int .i64 0, Value.int .i64 0, Value.int .i64 0, Value.int .i64 0, Value.int .i64 0, Value.int .i64 0, Value.int .i64 0, Value.int .i64 0, Value.int .i64 0, Value.int .i64 0, Value.int .i64 0, Value.int .i64 0, Value.int .i64 0, Value.int .i64 0, Value.int .i64 0, Value.int .i64 0, Value.string ⟨#[]⟩, Value.int .i64 0, Value.int .i64 0] 27) = W := ⟨_, rfl⟩
      rw [hW] at T34 ⊢
      clear hW
      refine hK.out _ _ T34.bel (fun _ => ?_)
      clear hK K
      refine wpAnyH_ready (rs := [4, 11]) (by kernel_rfl) (by simp) ?_
      refine AllReadyH.cons rfl (fun K hK => ?_) (AllReadyH.cons rfl (fun K hK => ?_) AllReadyH.nil)
      · go_simp
        refine (CA.out _ T34.bel).mono ?_
        rintro e w35 ⟨rfl, hb⟩
        have T36 := T34.call hb
        clear hb
        dsimp only
        refine hK.out _ _ T36.bel (fun _ => ?_)
        clear hK K
        refine wpAnyH_ready (rs := [9, 11]) (by kernel_rfl) (by simp) ?_
        refine AllReadyH.cons rfl (fun K hK => ?_) (AllReadyH.cons rfl (fun K hK => ?_) AllReadyH.nil)
        · go_simp
          refine (CB.out _ T36.bel).mono ?_
          rintro e w37 ⟨rfl, hb⟩
          have T38 := T36.call hb
          clear hb
          dsimp only
          refine hK.out _ _ T38.bel (fun _ => ?_)
          clear hK K
          refine wpAnyH_ready (rs := [11]) (by kernel_rfl) (by simp) ?_
          refine AllReadyH.cons rfl (fun K hK => ?_) AllReadyH.nil
          · go_simp
            have T40 := T38.ay
            obtain ⟨V39, hW⟩ : ∃ W, w37.alloc (.cells #[Value.int .i64 0, Value.bool false, Value.int .i64 0, Value.int .i64 0, Value.int .i64 0, Value.int .i64 0, Value.int .i64 0, Value.int .i64 0, Value.int .i64 0, Value.int .i64 0, Value.int .i64 0, Value.int .i64 0, Value.int .i64 0, Value.int .i64 0, Value.int .i64 0, Value.int .i64 0, Value.int .i64 0, Value.int .i64 0, Value.int .i64 0, Value.int .i64 0, Value.int .i64 0, Value.int .i64 0, Value.int .i64 0, Value.int .i64 0, Value.int .i64 0, Value.int .i64 0, Value.int .i64 0, Value.int .i64 0, Value.int .i64 0, Value.int .i64 0, Value.int .i64 0, Value.int .i64 0, Value.int .i64 0, Value.int .i64 0, Value.int .i64 0, Value.int .i64 0, Value.int .i64 0, Value.int .i64 0, Value.int .i64 0, Value.int .i64 0, Value.int .i64 0, Value.int .i64 0, Value.int .i64 0, Value.int .i64 0, Value.int .i64 0, Value.int .i64 0, Value.int .i64 0, Value.int .i64 0, Value.int .i64 0, Value.int .i64 0, Value.int .i64 0, Value.int .i64 0, Value.string ⟨#[]⟩, Value.int .i64 0, Value.int .i64 0] 27) = W := ⟨_, rfl⟩
            rw [hW] at T40 ⊢
            clear hW
            refine hK.out _ _ T40.bel (fun _ => ?_)
            clear hK K
            refine wpAnyH_ready (rs := [12]) (by kernel_rfl) (by simp) ?_
            refine AllReadyH.cons rfl (fun K hK => ?_) AllReadyH.nil
            rw [if_pos (by kernel_rfl)]
            refine wp_store_mid 27 _ _ rfl _ 0 Xs.toArray rfl rfl (by rw [HXsZ.out]; exact (T40.hx _ rfl).2.2) (by rw [HXsZ.out]; exact size17) (all_oneCell_toArray HXsO.out) ?_
            simp only [Act.put]
            try simp only [List.setIfInBounds_toArray]
            try simp only [List.set_cons_succ]
            try simp only [List.set_cons_zero]
            refine hK.out _ _ (below_setCells T40.bel _ (T40.hx _ rfl).1 _ 0) (fun _ => ?_)
            clear hK K
            refine wpAnyH_ready (rs := [13]) (by kernel_rfl) (by simp) ?_
            refine AllReadyH.cons rfl (fun K hK => ?_) AllReadyH.nil
            rw [if_pos (by kernel_rfl)]
            refine wp_store_mid 27 _ _ rfl _ 0 Xs.toArray rfl rfl (by rw [HXsZ.out]; exact World.there_setCells (T40.hy _ rfl).2.2 _ 0 _) (by rw [HXsZ.out]; exact size17) (all_oneCell_toArray HXsO.out) ?_
            simp only [Act.put]
            try simp only [List.setIfInBounds_toArray]
            try simp only [List.set_cons_succ]
            try simp only [List.set_cons_zero]
            refine hK.out _ _ (below_setCells (below_setCells T40.bel _ (T40.hx _ rfl).1 _ 0) _ (T40.hy _ rfl).1 _ 0) (fun _ => ?_)
            clear hK K
            refine wpAnyH_done (by kernel_rfl) ?_ _
            go_wp2_with fail
            go_meet
            exact ⟨_, _, rfl, rfl, Lib.hid (T40.two HXsL.out HXsL.out)⟩
        · go_simp
          have T42 := T36.ay
          obtain ⟨V41, hW⟩ : ∃ W, w35.alloc (.cells #[Value.int .i64 0, Value.bool false, Value.int .i64 0, Value.int .i64 0, Value.int .i64 0, Value.int .i64 0, Value.int .i64 0, Value.int .i64 0, Value.int .i64 0, Value.int .i64 0, Value.int .i64 0, Value.int .i64 0, Value.int .i64 0, Value.int .i64 0, Value.int .i64 0, Value.int .i64 0, Value.int .i64 0, Value.int .i64 0, Value.int .i64 0, Value.int .i64 0, Value.int .i64 0, Value.int .i64 0, Value.int .i64 0, Value.int .i64 0, Value.int .i64 0, Value.int .i64 0, Value.int .i64 0, Value.int .i64 0, Value.int .i64 0, Value.int .i64 0, Value.int .i64 0, Value.int .i64 0, Value.int .i64 0, Value.int .i64 0, Value.int .i64 0, Value.int .i64 0, Value.int .i64 0, Value.int .i64 0, Value.int .i64 0, Value.int .i64 0, Value.int .i64 0, Value.int .i64 0, Value.int .i64 0, Value.int .i64 0, Value.int .i64 0, Value.int .i64 0, Value.int .i64 0, Value.int .i64 0, Value.int .i64 0, Value.int .i64 0, Value.int .i64 0, Value.int .i64 0, Value.string ⟨#[]⟩, Value.int .i64 0, Value.int .i64 0] 27) = W := ⟨_, rfl⟩
          rw [hW] at T42 ⊢
          clear hW
          refine hK.out _ _ T42.bel (fun _ => ?_)
          clear hK K
          refine wpAnyH_ready (rs := [9]) (by kernel_rfl) (by simp) ?_
          refine AllReadyH.cons rfl (fun K hK => ?_) AllReadyH.nil
          · go_simp
            refine (CB.out _ T42.bel).mono ?_
            rintro e w43 ⟨rfl, hb⟩
            have T44 := T42.call hb
            clear hb
            dsimp only
            refine hK.out _ _ T44.bel (fun _ => ?_)
            clear hK K
            refine wpAnyH_ready (rs := [12]) (by kernel_rfl) (by simp) ?_
            refine AllReadyH.cons rfl (fun K hK => ?_) AllReadyH.nil
            rw [if_pos (by kernel_rfl)]
            refine wp_store_mid 27 _ _ rfl _ 0 Xs.toArray rfl rfl (by rw [HXsZ.out]; exact (T44.hx _ rfl).2.2) (by rw [HXsZ.out]; exact size17) (all_oneCell_toArray HXsO.out) ?_
            simp only [Act.put]
            try simp only [List.setIfInBounds_toArray]
            try simp only [List.set_cons_succ]
            try simp only [List.set_cons_zero]
            refine hK.out _ _ (below_setCells T44.bel _ (T44.hx _ rfl).1 _ 0) (fun _ => ?_)
            clear hK K
            refine wpAnyH_ready (rs := [13]) (by kernel_rfl) (by simp) ?_
            refine AllReadyH.cons rfl (fun K hK => ?_) AllReadyH.nil
            rw [if_pos (by kernel_rfl)]
            refine wp_store_mid 27 _ _ rfl _ 0 Xs.toArray rfl rfl (by rw [HXsZ.out]; exact World.there_setCells (T44.hy _ rfl).2.2 _ 0 _) (by rw [HXsZ.out]; exact size17) (all_oneCell_toArray HXsO.out) ?_
            simp only [Act.put]
            try simp only [List.setIfInBounds_toArray]
            try simp only [List.set_cons_succ]
            try simp only [List.set_cons_zero]
            refine hK.out _ _ (below_setCells (below_setCells T44.bel _ (T44.hx _ rfl).1 _ 0) _ (T44.hy _ rfl).1 _ 0) (fun _ => ?_)
            clear hK K
            refine wpAnyH_done (by kernel_rfl) ?_ _
            go_wp2_with fail
            go_meet
            exact ⟨_, _, rfl, rfl, Lib.hid (T44.two HXsL.out HXsL.out)⟩
      · go_simp
        have T46 := T34.ay
        obtain ⟨V45, hW⟩ : ∃ W, V33.alloc (.cells #[Value.int .i64 0, Value.bool false, Value.int .i64 0, Value.int .i64 0, Value.int .i64 0, Value.int .i64 0, Value.int .i64 0, Value.int .i64 0, Value.int .i64 0, Value.int .i64 0, Value.int .i64 0, Value.int .i64 0, Value.int .i64 0, Value.int .i64 0, Value.int .i64 0, Value.int .i64 0, Value.int .i64 0, Value.int .i64 0, Value.int .i64 0, Value.int .i64 0, Value.int .i64 0, Value.int .i64 0, Value.int .i64 0, Value.int .i64 0, Value.int .i64 0, Value.int .i64 0, Value.int .i64 0, Value.int .i64 0, Value.int .i64 0, Value.int .i64 0, Value.int .i64 0, Value.int .i64 0, Value.int .i64 0, Value.int .i64 0, Value.int .i64 0, Value.int .i64 0, Value.int .i64 0, Value.int .i64 0, Value.int .i64 0, Value.int .i64 0, Value.int .i64 0, Value.int .i64 0, Value.int .i64 0, Value.int .i64 0, Value.int .i64 0, Value.int .i64 0, Value.int .i64 0, Value.int .i64 0, Value.int .i64 0, Value.int .i64 0, Value.int .i64 0, Value.int .i64 0, Value.string ⟨#[]⟩, Value.int .i64 0, Value.int .i64 0] 27) = W := ⟨_, rfl⟩
        rw [hW] at T46 ⊢
        clear hW
        refine hK.out _ _ T46.bel (fun _ => ?_)
        clear hK K
        refine wpAnyH_ready (rs := [4]) (by kernel_rfl) (by simp) ?_
        refine AllReadyH.cons rfl (fun K hK => ?_) AllReadyH.nil
        · go_simp
          refine (CA.out _ T46.bel).mono ?_
          rintro e w47 ⟨rfl, hb⟩
          have T48 := T46.call hb
          clear hb
          dsimp only
          refine hK.out _ _ T48.bel (fun _ => ?_)
          clear hK K
          refine wpAnyH_ready (rs := [9]) (by kernel_rfl) (by simp) ?_
          refine AllReadyH.cons rfl (fun K hK => ?_) AllReadyH.nil
          · go_simp
            refine (CB.out _ T48.bel).mono ?_
            rintro e w49 ⟨rfl, hb⟩
            have T50 := T48.call hb
            clear hb
            dsimp only
            refine hK.out _ _ T50.bel (fun _ => ?_)
            clear hK K
            refine wpAnyH_ready (rs := [12]) (by kernel_rfl) (by simp) ?_
            refine AllReadyH.cons rfl (fun K hK => ?_) AllReadyH.nil
            rw [if_pos (by kernel_rfl)]
            refine wp_store_mid 27 _ _ rfl _ 0 Xs.toArray rfl rfl (by rw [HXsZ.out]; exact (T50.hx _ rfl).2.2) (by rw [HXsZ.out]; exact size17) (all_oneCell_toArray HXsO.out) ?_
            simp only [Act.put]
            try simp only [List.setIfInBounds_toArray]
            try simp only [List.set_cons_succ]
            try simp only [List.set_cons_zero]
            refine hK.out _ _ (below_setCells T50.bel _ (T50.hx _ rfl).1 _ 0) (fun _ => ?_)
            clear hK K
            refine wpAnyH_ready (rs := [13]) (by kernel_rfl) (by simp) ?_
            refine AllReadyH.cons rfl (fun K hK => ?_) AllReadyH.nil
            rw [if_pos (by kernel_rfl)]
            refine wp_store_mid 27 _ _ rfl _ 0 Xs.toArray rfl rfl (by rw [HXsZ.out]; exact World.there_setCells (T50.hy _ rfl).2.2 _ 0 _) (by rw [HXsZ.out]; exact size17) (all_oneCell_toArray HXsO.out) ?_
            simp only [Act.put]
            try simp only [List.setIfInBounds_toArray]
            try simp only [List.set_cons_succ]
            try simp only [List.set_cons_zero]
            refine hK.out _ _ (below_setCells (below_setCells T50.bel _ (T50.hx _ rfl).1 _ 0) _ (T50.hy _ rfl).1 _ 0) (fun _ => ?_)
            clear hK K
            refine wpAnyH_done (by kernel_rfl) ?_ _
            go_wp2_with fail
            go_meet
            exact ⟨_, _, rfl, rfl, Lib.hid (T50.two HXsL.out HXsL.out)⟩
    · go_simp
      have T52 := T0.ay
      obtain ⟨V51, hW⟩ : ∃ W, X0.alloc (.cells #[Value.int .i64 0, Value.bool false, Value.int .i64 0, Value.int .i64 0, Value.int .i64 0, Value.int .i64 0, Value.int .i64 0, Value.int .i64 0, Value.int .i64 0, Value.int .i64 0, Value.int .i64 0, Value.int .i64 0, Value.int .i64 0, Value.int .i64 0, Value.int .i64 0, Value.int .i64 0, Value.int .i64 0, Value.int .i64 0, Value.int .i64 0, Value.int .i64 0, Value.int .i64 0, Value.int .i64 0, Value.int .i64 0, Value.int .i64 0, Value.int .i64 0, Value.int .i64 0, Value.int .i64 0, Value.int .i64 0, Value.int .i64 0, Value.int .i64 0, Value.int .i64 0, Value.int .i64 0, Value.int .i64 0, Value.int .i64 0, Value.int .i64 0, Value.int .i64 0, Value.int .i64 0, Value.int .i64 0, Value.int .i64 0, Value.int .i64 0, Value.int .i64 0, Value.int .i64 0, Value.int .i64 0, Value.int .i64 0, Value.int .i64 0, Value.int .i64 0, Value.int .i64 0, Value.int .i64 0, Value.int .i64 0, Value.int .i64 0, Value.int .i64 0, Value.int .i64 0, Value.string ⟨#[]⟩, Value.int .i64 0, Value.int .i64 0] 27) = W := ⟨_, rfl⟩
      rw [hW] at T52 ⊢
      clear hW
      refine hK.out _ _ T52.bel (fun _ => ?_)
      clear hK K
      refine wpAnyH_ready (rs := [4, 10]) (by kernel_rfl) (by simp) ?_
      refine AllReadyH.cons rfl (fun K hK => ?_) (AllReadyH.cons rfl (fun K hK => ?_) AllReadyH.nil)
      · go_simp
        refine (CA.out _ T52.bel).mono ?_
        rintro e w53 ⟨rfl, hb⟩
        have T54 := T52.call hb
        clear hb
        dsimp only
        refine hK.out _ _ T54.bel (fun _ => ?_)
        clear hK K
        refine wpAnyH_ready (rs := [9, 10]) (by kernel_rfl) (by simp) ?_
        refine AllReadyH.cons rfl (fun K hK => ?_) (AllReadyH.cons rfl (fun K hK => ?_) AllReadyH.nil)
        · go_simp
          refine (CB.out _ T54.bel).mono ?_
          rintro e w55 ⟨rfl, hb⟩
          have T56 := T54.call hb
          clear hb
          dsimp only
          refine hK.out _ _ T56.bel (fun _ => ?_)
          clear hK K
          refine wpAnyH_ready (rs := [10]) (by kernel_rfl) (by simp) ?_
          refine AllReadyH.cons rfl (fun K hK => ?_) AllReadyH.nil
          · go_simp
            have T58 := T56.ax
            obtain ⟨V57, hW⟩ : ∃ W, w55.alloc (.cells #[Value.int .i64 0, Value.bool false, Value.int .i64 0, Value.int .i64 0, Value.int .i64 0, Value.int .i64 0, Value.int .i64 0, Value.int .i64 0, Value.int .i64 0, Value.int .i64 0, Value.int .i64 0, Value.int .i64 0, Value.int .i64 0, Value.int .i64 0, Value.int .i64 0, Value.int .i64 0, Value.int .i64 0, Value.int .i64 0, Value.int .i64 0, Value.int .i64 0, Value.int .i64 0, Value.int .i64 0, Value.int .i64 0, Value.int .i64 0, Value.int .i64 0, Value.int .i64 0, Value.int .i64 0, Value.int .i64 0, Value.int .i64 0, Value.int .i64 0, Value.int .i64 0, Value.int .i64 0, Value.int .i64 0, Value.int .i64 0, Value.int .i64 0, Value.int .i64 0, Value.int .i64 0, Value.int .i64 0, Value.int .i64 0, Value.int .i64 0, Value.int .i64 0, Value.int .i64 0, Value.int .i64 0, Value.int .i64 0, Value.int .i64 0, Value.int .i64 0, Value.int .i64 0, Value.int .i64 0, Value.int .i64 0, Value.int .i64 0, Value.int .i64 0, Value.int .i64 0, Value.string ⟨#[]⟩, Value.int .i64 0, Value.int .i64 0] 27) = W := ⟨_, rfl⟩
            rw [hW] at T58 ⊢
            clear hW
            refine hK.out _ _ T58.bel (fun _ => ?_)
            clear hK K
            refine wpAnyH_ready (rs := [12]) (by kernel_rfl) (by simp) ?_
            refine AllReadyH.cons rfl (fun K hK => ?_) AllReadyH.nil
            rw [if_pos (by kernel_rfl)]
            refine wp_store_mid 27 _ _ rfl _ 0 Xs.toArray rfl rfl (by rw [HXsZ.out]; exact (T58.hx _ rfl).2.2) (by rw [HXsZ.out]; exact size17) (all_oneCell_toArray HXsO.out) ?_
            simp only [Act.put]
            try simp only [List.setIfInBounds_toArray]
            try simp only [List.set_cons_succ]
            try simp only [List.set_cons_zero]
            refine hK.out _ _ (below_setCells T58.bel _ (T58.hx _ rfl).1 _ 0) (fun _ => ?_)
            clear hK K
            refine wpAnyH_ready (rs := [13]) (by kernel_rfl) (by simp) ?_
            refine AllReadyH.cons rfl (fun K hK => ?_) AllReadyH.nil
            rw [if_pos (by kernel_rfl)]
            refine wp_store_mid 27 _ _ rfl _ 0 Xs.toArray rfl rfl (by rw [HXsZ.out]; exact World.there_setCells (T58.hy _ rfl).2.2 _ 0 _) (by rw [HXsZ.out]; exact size17) (all_oneCell_toArray HXsO.out) ?_
            simp only [Act.put]
            try simp only [List.setIfInBounds_toArray]
            try simp only [List.set_cons_succ]
            try simp only [List.set_cons_zero]
            refine hK.out _ _ (below_setCells (below_setCells T58.bel _ (T58.hx _ rfl).1 _ 0) _ (T58.hy _ rfl).1 _ 0) (fun _ => ?_)
            clear hK K
            refine wpAnyH_done (by kernel_rfl) ?_ _
            go_wp2_with fail
            go_meet
            exact ⟨_, _, rfl, rfl, Lib.hid (T58.two HXsL.out HXsL.out)⟩
        · go_simp
          have T60 := T54.ax
          obtain ⟨V59, hW⟩ : ∃ W, w53.alloc (.cells #[Value.int .i64 0, Value.bool false, Value.int .i64 0, Value.int .i64 0, Value.int .i64 0, Value.int .i64 0, Value.int .i64 0, Value.int .i64 0, Value.int .i64 0, Value.int .i64 0, Value.int .i64 0, Value.int .i64 0, Value.int .i64 0, Value.int .i64 0, Value.int .i64 0, Value.int .i64 0, Value.int .i64 0, Value.int .i64 0, Value.int .i64 0, Value.int .i64 0, Value.int .i64 0, Value.int .i64 0, Value.int .i64 0, Value.int .i64 0, Value.int .i64 0, Value.int .i64 0, Value.int .i64 0, Value.int .i64 0, Value.int .i64 0, Value.int .i64 0, Value.int .i64 0, Value.int .i64 0, Value.int .i64 0, Value.int .i64 0, Value.int .i64 0, Value.int .i64 0, Value.int .i64 0, Value.int .i64 0, Value.int .i64 0, Value.int .i64 0, Value.int .i64 0, Value.int .i64 0, Value.int .i64 0, Value.int .i64 0, Value.int .i64 0, Value.int .i64 0, Value.int .i64 0, Value.int .i64 0, Value.int .i64 0, Value.int .i64 0, Value.int .i64 0, Value.int .i64 0, Value.string ⟨#[]⟩, Value.int .i64 0, Value.int .i64 0] 27) = W := ⟨_, rfl⟩
          rw [hW] at T60 ⊢
          clear hW
          refine hK.out _ _ T60.bel (fun _ => ?_)
          clear hK K
          refine wpAnyH_ready (rs := [9]) (by kernel_rfl) (by simp) ?_
          refine AllReadyH.cons rfl (fun K hK => ?_) AllReadyH.nil
          · go_simp
            refine (CB.out _ T60.bel).mono ?_
            rintro e w61 ⟨rfl, hb⟩
            have T62 := T60.call hb
            clear hb
            dsimp only
            refine hK.out _ _ T62.bel (fun _ => ?_)
            clear hK K
            refine wpAnyH_ready (rs := [12]) (by kernel_rfl) (by simp) ?_
            refine AllReadyH.cons rfl (fun K hK => ?_) AllReadyH.nil
            rw [if_pos (by kernel_rfl)]
            refine wp_store_mid 27 _ _ rfl _ 0 Xs.toArray rfl rfl (by rw [HXsZ.out]; exact (T62.hx _ rfl).2.2) (by rw [HXsZ.out]; exact size17) (all_oneCell_toArray HXsO.out) ?_
            simp only [Act.put]
            try simp only [List.setIfInBounds_toArray]
            try simp only [List.set_cons_succ]
            try simp only [List.set_cons_zero]
            refine hK.out _ _ (below_setCells T62.bel _ (T62.hx _ rfl).1 _ 0) (fun _ => ?_)
            clear hK K
            refine wpAnyH_ready (rs := [13]) (by kernel_rfl) (by simp) ?_
            refine AllReadyH.cons rfl (fun K hK => ?_) AllReadyH.nil
            rw [if_pos (by kernel_rfl)]
            refine wp_store_mid 27 _ _ rfl _ 0 Xs.toArray rfl rfl (by rw [HXsZ.out]; exact World.there_setCells (T62.hy _ rfl).2.2 _ 0 _) (by rw [HXsZ.out]; exact size17) (all_oneCell_toArray HXsO.out) ?_
            simp only [Act.put]
            try simp only [List.setIfInBounds_toArray]
            try simp only [List.set_cons_succ]
            try simp only [List.set_cons_zero]
            refine hK.out _ _ (below_setCells (below_setCells T62.bel _ (T62.hx _ rfl).1 _ 0) _ (T62.hy _ rfl).1 _ 0) (fun _ => ?_)
            clear hK K
            refine wpAnyH_done (by kernel_rfl) ?_ _
            go_wp2_with fail
            go_meet
            exact ⟨_, _, rfl, rfl, Lib.hid (T62.two HXsL.out HXsL.out)⟩
      · go_simp
        have T64 := T52.ax
        obtain ⟨V63, hW⟩ : ∃ W, V51.alloc (.cells #[Value.int .i64 0, Value.bool false, Value.int .i64 0, Value.int .i64 0, Value.int .i64 0, Value.int .i64 0, Value.int .i64 0, Value.int .i64 0, Value.int .i64 0, Value.int .i64 0, Value.int .i64 0, Value.int .i64 0, Value.int .i64 0, Value.int .i64 0, Value.int .i64 0, Value.int .i64 0, Value.int .i64 0, Value.int .i64 0, Value.int .i64 0, Value.int .i64 0, Value.int .i64 0, Value.int .i64 0, Value.int .i64 0, Value.int .i64 0, Value.int .i64 0, Value.int .i64 0, Value.int .i64 0, Value.int .i64 0, Value.int .i64 0, Value.int .i64 0, Value.int .i64 0, Value.int .i64 0, Value.int .i64 0, Value.int .i64 0, Value.int .i64 0, Value.int .i64 0, Value.int .i64 0, Value.int .i64 0, Value.int .i64 0, Value.int .i64 0, Value.int .i64 0, Value.int .i64 0, Value.int .i64 0, Value.int .i64 0, Value.int .i64 0, Value.int .i64 0, Value.int .i64 0, Value.int .i64 0, Value.int .i64 0, Value.int .i64 0, Value.int .i64 0, Value.int .i64 0, Value.string ⟨#[]⟩, Value.int .i64 0, Value.int .i64 0] 27) = W := ⟨_, rfl⟩
        rw [hW] at T64 ⊢
        clear hW
        refine hK.out _ _ T64.bel (fun _ => ?_)
        clear hK K
        refine wpAnyH_ready (rs := [4]) (by kernel_rfl) (by simp) ?_
        refine AllReadyH.cons rfl (fun K hK => ?_) AllReadyH.nil
        · go_simp
          refine (CA.out _ T64.bel).mono ?_
          rintro e w65 ⟨rfl, hb⟩
          have T66 := T64.call hb
          clear hb
          dsimp only
          refine hK.out _ _ T66.bel (fun _ => ?_)
          clear hK K
          refine wpAnyH_ready (rs := [9]) (by kernel_rfl) (by simp) ?_
          refine AllReadyH.cons rfl (fun K hK => ?_) AllReadyH.nil
          · go_simp
            refine (CB.out _ T66.bel).mono ?_
            rintro e w67 ⟨rfl, hb⟩
            have T68 := T66.call hb
            clear hb
            dsimp only
            refine hK.out _ _ T68.bel (fun _ => ?_)
            clear hK K
            refine wpAnyH_ready (rs := [12]) (by kernel_rfl) (by simp) ?_
            refine AllReadyH.cons rfl (fun K hK => ?_) AllReadyH.nil
            rw [if_pos (by kernel_rfl)]
            refine wp_store_mid 27 _ _ rfl _ 0 Xs.toArray rfl rfl (by rw [HXsZ.out]; exact (T68.hx _ rfl).2.2) (by rw [HXsZ.out]; exact size17) (all_oneCell_toArray HXsO.out) ?_
            simp only [Act.put]
            try simp only [List.setIfInBounds_toArray]
            try simp only [List.set_cons_succ]
            try simp only [List.set_cons_zero]
            refine hK.out _ _ (below_setCells T68.bel _ (T68.hx _ rfl).1 _ 0) (fun _ => ?_)
            clear hK K
            refine wpAnyH_ready (rs := [13]) (by kernel_rfl) (by simp) ?_
            refine AllReadyH.cons rfl (fun K hK => ?_) AllReadyH.nil
            rw [if_pos (by kernel_rfl)]
            refine wp_store_mid 27 _ _ rfl _ 0 Xs.toArray rfl rfl (by rw [HXsZ.out]; exact World.there_setCells (T68.hy _ rfl).2.2 _ 0 _) (by rw [HXsZ.out]; exact size17) (all_oneCell_toArray HXsO.out) ?_
            simp only [Act.put]
            try simp only [List.setIfInBounds_toArray]
            try simp only [List.set_cons_succ]
            try simp only [List.set_cons_zero]
            refine hK.out _ _ (below_setCells (below_setCells T68.bel _ (T68.hx _ rfl).1 _ 0) _ (T68.hy _ rfl).1 _ 0) (fun _ => ?_)
            clear hK K
            refine wpAnyH_done (by kernel_rfl) ?_ _
            go_wp2_with fail
            go_meet
            exact ⟨_, _, rfl, rfl, Lib.hid (T68.two HXsL.out HXsL.out)⟩
  case rest =>
    obtain ⟨x, y, rfl, rfl, HP⟩ := hcut
    have CUd : Hid (∀ W, Below wc.heap.size wc W → Calls Try.prog 9 #[.slice (some ⟨g3, 0, none⟩) tn cp3, .agg As.toArray, .int .i64 a, .int .i64 b] W fun e w' => e = .returned (.agg Us.toArray) ∧ Below W.heap.size W w') := Lib.hid (fun W h => CU.out W (HP.out.bel.trans (h.mono HP.out.bel.size)))
    have CVd : Hid (∀ W, Below wc.heap.size wc W → Calls Try.prog 9 #[.slice (some ⟨g4, 0, none⟩) tn cp4, .agg As.toArray, .int .i64 a, .int .i64 b] W fun e w' => e = .returned (.agg Vs.toArray) ∧ Below W.heap.size W w') := Lib.hid (fun W h => CV.out W (HP.out.bel.trans (h.mono HP.out.bel.size)))
    have HR1 := Lib.hid (range_below17 HR0.out HP.out.bel HL0.out)
    have HL1 : Hid (bp < wc.heap.size) := Lib.hid (Nat.lt_of_lt_of_le HL0.out HP.out.bel.size)
    clear CA CB CU CV HR0
    go_upto_region 13 with fail
    obtain ⟨w0, hw0⟩ : ∃ W, wc = W := ⟨_, rfl⟩
    rw [hw0] at HP CUd CVd HR1 HL1 ⊢
    clear hw0
    go_cut [17, 18] (fun v17 v18 wx => ∃ u v, v17 = .pointer (some ⟨u, 0, none⟩) ∧ v18 = .pointer (some ⟨v, 0, none⟩) ∧ Hid (Pw w0 wx u v Us Vs))
    case first =>
      have T0 := (Ps.start w0).drew
      have hS := T0.bel
      refine wp_region_held_drew (S := fun w' => Below w0.heap.size w0 w') (by kernel_rfl) hS (fun hS => ?_)
      generalize w0.drew = X0 at T0 hS ⊢
      refine wpAnyH_take (i := 0) (v := .slice (some ⟨g3, 0, none⟩) tn cp3) rfl (by kernel_rfl) (by kernel_rfl) (by kernel_rfl) (fun _ _ _ h => h) (Or.inl ⟨by kernel_rfl, fun w _ => by kernel_rfl⟩) hS ?_
      simp only [Act.put]
      try simp only [List.setIfInBounds_toArray]
      try simp only [List.set_cons_succ]
      try simp only [List.set_cons_zero]
      refine wpAnyH_take (i := 1) (v := .agg As.toArray) rfl (by kernel_rfl) (by kernel_rfl) (by kernel_rfl) (fun _ _ _ h => h) (yieldsIf_load_mid (by kernel_rfl) _ _ rfl bp 0 rfl As _ (fun w h => range_below17 HR1.out h HL1.out) Try.underlying27 rfl (by rw [size17, HAL.out])) hS ?_
      simp only [Act.put]
      try simp only [List.setIfInBounds_toArray]
      try simp only [List.set_cons_succ]
      try simp only [List.set_cons_zero]
      refine wpAnyH_take (i := 2) (v := .int .i64 a) rfl (by kernel_rfl) (by kernel_rfl) (by kernel_rfl) (fun _ _ _ h => h) (Or.inl ⟨by kernel_rfl, fun w _ => by kernel_rfl⟩) hS ?_
      simp only [Act.put]
      try simp only [List.setIfInBounds_toArray]
      try simp only [List.set_cons_succ]
      try simp only [List.set_cons_zero]
      refine wpAnyH_take (i := 3) (v := .int .i64 b) rfl (by kernel_rfl) (by kernel_rfl) (by kernel_rfl) (fun _ _ _ h => h) (Or.inl ⟨by kernel_rfl, fun w _ => by kernel_rfl⟩) hS ?_
      simp only [Act.put]
      try simp only [List.setIfInBounds_toArray]
      try simp only [List.set_cons_succ]
      try simp only [List.set_cons_zero]
      refine wpAnyH_take (i := 5) (v := .slice (some ⟨g4, 0, none⟩) tn cp4) rfl (by kernel_rfl) (by kernel_rfl) (by kernel_rfl) (fun _ _ _ h => h) (Or.inl ⟨by kernel_rfl, fun w _ => by kernel_rfl⟩) hS ?_
      simp only [Act.put]
      try simp only [List.setIfInBounds_toArray]
      try simp only [List.set_cons_succ]
      try simp only [List.set_cons_zero]
      refine wpAnyH_take (i := 6) (v := .agg As.toArray) rfl (by kernel_rfl) (by kernel_rfl) (by kernel_rfl) (fun _ _ _ h => h) (yieldsIf_load_mid (by kernel_rfl) _ _ rfl bp 0 rfl As _ (fun w h => range_below17 HR1.out h HL1.out) Try.underlying27 rfl (by rw [size17, HAL.out])) hS ?_
      simp only [Act.put]
      try simp only [List.setIfInBounds_toArray]
      try simp only [List.set_cons_succ]
      try simp only [List.set_cons_zero]
      refine wpAnyH_take (i := 7) (v := .int .i64 a) rfl (by kernel_rfl) (by kernel_rfl) (by kernel_rfl) (fun _ _ _ h => h) (Or.inl ⟨by kernel_rfl, fun w _ => by kernel_rfl⟩) hS ?_
      simp only [Act.put]
      try simp only [List.setIfInBounds_toArray]
      try simp only [List.set_cons_succ]
      try simp only [List.set_cons_zero]
      refine wpAnyH_take (i := 8) (v := .int .i64 b) rfl (by kernel_rfl) (by kernel_rfl) (by kernel_rfl) (fun _ _ _ h => h) (Or.inl ⟨by kernel_rfl, fun w _ => by kernel_rfl⟩) hS ?_
      simp only [Act.put]
      try simp only [List.setIfInBounds_toArray]
      try simp only [List.set_cons_succ]
      try simp only [List.set_cons_zero]
      refine wpAnyH_ready (rs := [4, 10, 11]) (by kernel_rfl) (by simp) ?_
      refine AllReadyH.cons rfl (fun K hK => ?_) (AllReadyH.cons rfl (fun K hK => ?_) (AllReadyH.cons rfl (fun K hK => ?_) AllReadyH.nil))
      · go_simp
        refine (CUd.out _ T0.bel).mono ?_
        rintro e w69 ⟨rfl, hb⟩
        have T70 := T0.call hb
        clear hb
        dsimp only
        refine hK.out _ _ T70.bel (fun _ => ?_)
        clear hK K
        refine wpAnyH_ready (rs := [9, 10, 11]) (by kernel_rfl) (by simp) ?_
        refine AllReadyH.cons rfl (fun K hK => ?_) (AllReadyH.cons rfl (fun K hK => ?_) (AllReadyH.cons rfl (fun K hK => ?_) AllReadyH.nil))
        · go_simp
          refine (CVd.out _ T70.bel).mono ?_
          rintro e w71 ⟨rfl, hb⟩
          have T72 := T70.call hb
          clear hb
          dsimp only
          refine hK.out _ _ T72.bel (fun _ => ?_)
          clear hK K
          refine wpAnyH_ready (rs := [10, 11]) (by kernel_rfl) (by simp) ?_
          refine AllReadyH.cons rfl (fun K hK => ?_) (AllReadyH.cons rfl (fun K hK => ?_) AllReadyH.nil)
          · go_simp
            have T74 := T72.ax
            obtain ⟨V73, hW⟩ : ∃ W, w71.alloc (.cells #[Value.int .i64 0, Value.bool false, Value.int .i64 0, Value.int .i64 0, Value.int .i64 0, Value.int .i64 0, Value.int .i64 0, Value.int .i64 0, Value.int .i64 0, Value.int .i64 0, Value.int .i64 0, Value.int .i64 0, Value.int .i64 0, Value.int .i64 0, Value.int .i64 0, Value.int .i64 0, Value.int .i64 0, Value.int .i64 0, Value.int .i64 0, Value.int .i64 0, Value.int .i64 0, Value.int .i64 0, Value.int .i64 0, Value.int .i64 0, Value.int .i64 0, Value.int .i64 0, Value.int .i64 0, Value.int .i64 0, Value.int .i64 0, Value.int .i64 0, Value.int .i64 0, Value.int .i64 0, Value.int .i64 0, Value.int .i64 0, Value.int .i64 0, Value.int .i64 0, Value.int .i64 0, Value.int .i64 0, Value.int .i64 0, Value.int .i64 0, Value.int .i64 0, Value.int .i64 0, Value.int .i64 0, Value.int .i64 0, Value.int .i64 0, Value.int .i64 0, Value.int .i64 0, Value.int .i64 0, Value.int .i64 0, Value.int .i64 0, Value.int .i64 0, Value.int .i64 0, Value.string ⟨#[]⟩, Value.int .i64 0, Value.int .i64 0] 27) = W := ⟨_, rfl⟩
            rw [hW] at T74 ⊢
            clear hW
            refine hK.out _ _ T74.bel (fun _ => ?_)
            clear hK K
            refine wpAnyH_ready (rs := [11]) (by kernel_rfl) (by simp) ?_
            refine AllReadyH.cons rfl (fun K hK => ?_) AllReadyH.nil
            · go_simp
              have T76 := T74.ay
              obtain ⟨V75, hW⟩ : ∃ W, V73.alloc (.cells #[Value.int .i64 0, Value.bool false, Value.int .i64 0, Value.int .i64 0, Value.int .i64 0, Value.int .i64 0, Value.int .i64 0, Value.int .i64 0, Value.int .i64 0, Value.int .i64 0, Value.int .i64 0, Value.int .i64 0, Value.int .i64 0, Value.int .i64 0, Value.int .i64 0, Value.int .i64 0, Value.int .i64 0, Value.int .i64 0, Value.int .i64 0, Value.int .i64 0, Value.int .i64 0, Value.int .i64 0, Value.int .i64 0, Value.int .i64 0, Value.int .i64 0, Value.int .i64 0, Value.int .i64 0, Value.int .i64 0, Value.int .i64 0, Value.int .i64 0, Value.int .i64 0, Value.int .i64 0, Value.int .i64 0, Value.int .i64 0, Value.int .i64 0, Value.int .i64 0, Value.int .i64 0, Value.int .i64 0, Value.int .i64 0, Value.int .i64 0, Value.int .i64 0, Value.int .i64 0, Value.int .i64 0, Value.int .i64 0, Value.int .i64 0, Value.int .i64 0, Value.int .i64 0, Value.int .i64 0, Value.int .i64 0, Value.int .i64 0, Value.int .i64 0, Value.int .i64 0, Value.string ⟨#[]⟩, Value.int .i64 0, Value.int .i64 0] 27) = W := ⟨_, rfl⟩
              rw [hW] at T76 ⊢
              clear hW
              refine hK.out _ _ T76.bel (fun _ => ?_)
              clear hK K
              refine wpAnyH_ready (rs := [12]) (by kernel_rfl) (by simp) ?_
              refine AllReadyH.cons rfl (fun K hK => ?_) AllReadyH.nil
              rw [if_pos (by kernel_rfl)]
              refine wp_store_mid 27 _ _ rfl _ 0 Us.toArray rfl rfl (by rw [HUsZ.out]; exact (T76.hx _ rfl).2.2) (by rw [HUsZ.out]; exact size17) (all_oneCell_toArray HUsO.out) ?_
              simp only [Act.put]
              try simp only [List.setIfInBounds_toArray]
              try simp only [List.set_cons_succ]
              try simp only [List.set_cons_zero]
              refine hK.out _ _ (below_setCells T76.bel _ (T76.hx _ rfl).1 _ 0) (fun _ => ?_)
              clear hK K
              refine wpAnyH_ready (rs := [13]) (by kernel_rfl) (by simp) ?_
              refine AllReadyH.cons rfl (fun K hK => ?_) AllReadyH.nil
              rw [if_pos (by kernel_rfl)]
              refine wp_store_mid 27 _ _ rfl _ 0 Vs.toArray rfl rfl (by rw [HVsZ.out]; exact World.there_setCells (T76.hy _ rfl).2.2 _ 0 _) (by rw [HVsZ.out]; exact size17) (all_oneCell_toArray HVsO.out) ?_
              simp only [Act.put]
              try simp only [List.setIfInBounds_toArray]
              try simp only [List.set_cons_succ]
              try simp only [List.set_cons_zero]
              refine hK.out _ _ (below_setCells (below_setCells T76.bel _ (T76.hx _ rfl).1 _ 0) _ (T76.hy _ rfl).1 _ 0) (fun _ => ?_)
              clear hK K
              refine wpAnyH_done (by kernel_rfl) ?_ _
              go_wp2_with fail
              go_meet
              exact ⟨_, _, rfl, rfl, Lib.hid (T76.two HUsL.out HVsL.out)⟩
          · go_simp
            have T78 := T72.ay
            obtain ⟨V77, hW⟩ : ∃ W, w71.alloc (.cells #[Value.int .i64 0, Value.bool false, Value.int .i64 0, Value.int .i64 0, Value.int .i64 0, Value.int .i64 0, Value.int .i64 0, Value.int .i64 0, Value.int .i64 0, Value.int .i64 0, Value.int .i64 0, Value.int .i64 0, Value.int .i64 0, Value.int .i64 0, Value.int .i64 0, Value.int .i64 0, Value.int .i64 0, Value.int .i64 0, Value.int .i64 0, Value.int .i64 0, Value.int .i64 0, Value.int .i64 0, Value.int .i64 0, Value.int .i64 0, Value.int .i64 0, Value.int .i64 0, Value.int .i64 0, Value.int .i64 0, Value.int .i64 0, Value.int .i64 0, Value.int .i64 0, Value.int .i64 0, Value.int .i64 0, Value.int .i64 0, Value.int .i64 0, Value.int .i64 0, Value.int .i64 0, Value.int .i64 0, Value.int .i64 0, Value.int .i64 0, Value.int .i64 0, Value.int .i64 0, Value.int .i64 0, Value.int .i64 0, Value.int .i64 0, Value.int .i64 0, Value.int .i64 0, Value.int .i64 0, Value.int .i64 0, Value.int .i64 0, Value.int .i64 0, Value.int .i64 0, Value.string ⟨#[]⟩, Value.int .i64 0, Value.int .i64 0] 27) = W := ⟨_, rfl⟩
            rw [hW] at T78 ⊢
            clear hW
            refine hK.out _ _ T78.bel (fun _ => ?_)
            clear hK K
            refine wpAnyH_ready (rs := [10]) (by kernel_rfl) (by simp) ?_
            refine AllReadyH.cons rfl (fun K hK => ?_) AllReadyH.nil
            · go_simp
              have T80 := T78.ax
              obtain ⟨V79, hW⟩ : ∃ W, V77.alloc (.cells #[Value.int .i64 0, Value.bool false, Value.int .i64 0, Value.int .i64 0, Value.int .i64 0, Value.int .i64 0, Value.int .i64 0, Value.int .i64 0, Value.int .i64 0, Value.int .i64 0, Value.int .i64 0, Value.int .i64 0, Value.int .i64 0, Value.int .i64 0, Value.int .i64 0, Value.int .i64 0, Value.int .i64 0, Value.int .i64 0, Value.int .i64 0, Value.int .i64 0, Value.int .i64 0, Value.int .i64 0, Value.int .i64 0, Value.int .i64 0, Value.int .i64 0, Value.int .i64 0, Value.int .i64 0, Value.int .i64 0, Value.int .i64 0, Value.int .i64 0, Value.int .i64 0, Value.int .i64 0, Value.int .i64 0, Value.int .i64 0, Value.int .i64 0, Value.int .i64 0, Value.int .i64 0, Value.int .i64 0, Value.int .i64 0, Value.int .i64 0, Value.int .i64 0, Value.int .i64 0, Value.int .i64 0, Value.int .i64 0, Value.int .i64 0, Value.int .i64 0, Value.int .i64 0, Value.int .i64 0, Value.int .i64 0, Value.int .i64 0, Value.int .i64 0, Value.int .i64 0, Value.string ⟨#[]⟩, Value.int .i64 0, Value.int .i64 0] 27) = W := ⟨_, rfl⟩
              rw [hW] at T80 ⊢
              clear hW
              refine hK.out _ _ T80.bel (fun _ => ?_)
              clear hK K
              refine wpAnyH_ready (rs := [12]) (by kernel_rfl) (by simp) ?_
              refine AllReadyH.cons rfl (fun K hK => ?_) AllReadyH.nil
              rw [if_pos (by kernel_rfl)]
              refine wp_store_mid 27 _ _ rfl _ 0 Us.toArray rfl rfl (by rw [HUsZ.out]; exact (T80.hx _ rfl).2.2) (by rw [HUsZ.out]; exact size17) (all_oneCell_toArray HUsO.out) ?_
              simp only [Act.put]
              try simp only [List.setIfInBounds_toArray]
              try simp only [List.set_cons_succ]
              try simp only [List.set_cons_zero]
              refine hK.out _ _ (below_setCells T80.bel _ (T80.hx _ rfl).1 _ 0) (fun _ => ?_)
              clear hK K
              refine wpAnyH_ready (rs := [13]) (by kernel_rfl) (by simp) ?_
              refine AllReadyH.cons rfl (fun K hK => ?_) AllReadyH.nil
              rw [if_pos (by kernel_rfl)]
              refine wp_store_mid 27 _ _ rfl _ 0 Vs.toArray rfl rfl (by rw [HVsZ.out]; exact World.there_setCells (T80.hy _ rfl).2.2 _ 0 _) (by rw [HVsZ.out]; exact size17) (all_oneCell_toArray HVsO.out) ?_
              simp only [Act.put]
              try simp only [List.setIfInBounds_toArray]
              try simp only [List.set_cons_succ]
              try simp only [List.set_cons_zero]
              refine hK.out _ _ (below_setCells (below_setCells T80.bel _ (T80.hx _ rfl).1 _ 0) _ (T80.hy _ rfl).1 _ 0) (fun _ => ?_)
              clear hK K
              refine wpAnyH_done (by kernel_rfl) ?_ _
              go_wp2_with fail
              go_meet
              exact ⟨_, _, rfl, rfl, Lib.hid (T80.two HUsL.out HVsL.out)⟩
        · go_simp
          have T82 := T70.ax
          obtain ⟨V81, hW⟩ : ∃ W, w69.alloc (.cells #[Value.int .i64 0, Value.bool false, Value.int .i64 0, Value.int .i64 0, Value.int .i64 0, Value.int .i64 0, Value.int .i64 0, Value.int .i64 0, Value.int .i64 0, Value.int .i64 0, Value.int .i64 0, Value.int .i64 0, Value.int .i64 0, Value.int .i64 0, Value.int .i64 0, Value.int .i64 0, Value.int .i64 0, Value.int .i64 0, Value.int .i64 0, Value.int .i64 0, Value.int .i64 0, Value.int .i64 0, Value.int .i64 0, Value.int .i64 0, Value.int .i64 0, Value.int .i64 0, Value.int .i64 0, Value.int .i64 0, Value.int .i64 0, Value.int .i64 0, Value.int .i64 0, Value.int .i64 0, Value.int .i64 0, Value.int .i64 0, Value.int .i64 0, Value.int .i64 0, Value.int .i64 0, Value.int .i64 0, Value.int .i64 0, Value.int .i64 0, Value.int .i64 0, Value.int .i64 0, Value.int .i64 0, Value.int .i64 0, Value.int .i64 0, Value.int .i64 0, Value.int .i64 0, Value.int .i64 0, Value.int .i64 0, Value.int .i64 0, Value.int .i64 0, Value.int .i64 0, Value.string ⟨#[]⟩, Value.int .i64 0, Value.int .i64 0] 27) = W := ⟨_, rfl⟩
          rw [hW] at T82 ⊢
          clear hW
          refine hK.out _ _ T82.bel (fun _ => ?_)
          clear hK K
          refine wpAnyH_ready (rs := [9, 11]) (by kernel_rfl) (by simp) ?_
          refine AllReadyH.cons rfl (fun K hK => ?_) (AllReadyH.cons rfl (fun K hK => ?_) AllReadyH.nil)
          · go_simp
            refine (CVd.out _ T82.bel).mono ?_
            rintro e w83 ⟨rfl, hb⟩
            have T84 := T82.call hb
            clear hb
            dsimp only
            refine hK.out _ _ T84.bel (fun _ => ?_)
            clear hK K
            refine wpAnyH_ready (rs := [11]) (by kernel_rfl) (by simp) ?_
            refine AllReadyH.cons rfl (fun K hK => ?_) AllReadyH.nil
            · go_simp
              have T86 := T84.ay
              obtain ⟨V85, hW⟩ : ∃ W, w83.alloc (.cells #[Value.int .i64 0, Value.bool false, Value.int .i64 0, Value.int .i64 0, Value.int .i64 0, Value.int .i64 0, Value.int .i64 0, Value.int .i64 0, Value.int .i64 0, Value.int .i64 0, Value.int .i64 0, Value.int .i64 0, Value.int .i64 0, Value.int .i64 0, Value.int .i64 0, Value.int .i64 0, Value.int .i64 0, Value.int .i64 0, Value.int .i64 0, Value.int .i64 0, Value.int .i64 0, Value.int .i64 0, Value.int .i64 0, Value.int .i64 0, Value.int .i64 0, Value.int .i64 0, Value.int .i64 0, Value.int .i64 0, Value.int .i64 0, Value.int .i64 0, Value.int .i64 0, Value.int .i64 0, Value.int .i64 0, Value.int .i64 0, Value.int .i64 0, Value.int .i64 0, Value.int .i64 0, Value.int .i64 0, Value.int .i64 0, Value.int .i64 0, Value.int .i64 0, Value.int .i64 0, Value.int .i64 0, Value.int .i64 0, Value.int .i64 0, Value.int .i64 0, Value.int .i64 0, Value.int .i64 0, Value.int .i64 0, Value.int .i64 0, Value.int .i64 0, Value.int .i64 0, Value.string ⟨#[]⟩, Value.int .i64 0, Value.int .i64 0] 27) = W := ⟨_, rfl⟩
              rw [hW] at T86 ⊢
              clear hW
              refine hK.out _ _ T86.bel (fun _ => ?_)
              clear hK K
              refine wpAnyH_ready (rs := [12]) (by kernel_rfl) (by simp) ?_
              refine AllReadyH.cons rfl (fun K hK => ?_) AllReadyH.nil
              rw [if_pos (by kernel_rfl)]
              refine wp_store_mid 27 _ _ rfl _ 0 Us.toArray rfl rfl (by rw [HUsZ.out]; exact (T86.hx _ rfl).2.2) (by rw [HUsZ.out]; exact size17) (all_oneCell_toArray HUsO.out) ?_
              simp only [Act.put]
              try simp only [List.setIfInBounds_toArray]
              try simp only [List.set_cons_succ]
              try simp only [List.set_cons_zero]
              refine hK.out _ _ (below_setCells T86.bel _ (T86.hx _ rfl).1 _ 0) (fun _ => ?_)
              clear hK K
              refine wpAnyH_ready (rs := [13]) (by kernel_rfl) (by simp) ?_
              refine AllReadyH.cons rfl (fun K hK => ?_) AllReadyH.nil
              rw [if_pos (by kernel_rfl)]
              refine wp_store_mid 27 _ _ rfl _ 0 Vs.toArray rfl rfl (by rw [HVsZ.out]; exact World.there_setCells (T86.hy _ rfl).2.2 _ 0 _) (by rw [HVsZ.out]; exact size17) (all_oneCell_toArray HVsO.out) ?_
              simp only [Act.put]
              try simp only [List.setIfInBounds_toArray]
              try simp only [List.set_cons_succ]
              try simp only [List.set_cons_zero]
              refine hK.out _ _ (below_setCells (below_setCells T86.bel _ (T86.hx _ rfl).1 _ 0) _ (T86.hy _ rfl).1 _ 0) (fun _ => ?_)
              clear hK K
              refine wpAnyH_done (by kernel_rfl) ?_ _
              go_wp2_with fail
              go_meet
              exact ⟨_, _, rfl, rfl, Lib.hid (T86.two HUsL.out HVsL.out)⟩
          · go_simp
            have T88 := T82.ay
            obtain ⟨V87, hW⟩ : ∃ W, V81.alloc (.cells #[Value.int .i64 0, Value.bool false, Value.int .i64 0, Value.int .i64 0, Value.int .i64 0, Value.int .i64 0, Value.int .i64 0, Value.int .i64 0, Value.int .i64 0, Value.int .i64 0, Value.int .i64 0, Value.int .i64 0, Value.int .i64 0, Value.int .i64 0, Value.int .i64 0, Value.int .i64 0, Value.int .i64 0, Value.int .i64 0, Value.int .i64 0, Value.int .i64 0, Value.int .i64 0, Value.int .i64 0, Value.int .i64 0, Value.int .i64 0, Value.int .i64 0, Value.int .i64 0, Value.int .i64 0, Value.int .i64 0, Value.int .i64 0, Value.int .i64 0, Value.int .i64 0, Value.int .i64 0, Value.int .i64 0, Value.int .i64 0, Value.int .i64 0, Value.int .i64 0, Value.int .i64 0, Value.int .i64 0, Value.int .i64 0, Value.int .i64 0, Value.int .i64 0, Value.int .i64 0, Value.int .i64 0, Value.int .i64 0, Value.int .i64 0, Value.int .i64 0, Value.int .i64 0, Value.int .i64 0, Value.int .i64 0, Value.int .i64 0, Value.int .i64 0, Value.int .i64 0, Value.string ⟨#[]⟩, Value.int .i64 0, Value.int .i64 0] 27) = W := ⟨_, rfl⟩
            rw [hW] at T88 ⊢
            clear hW
            refine hK.out _ _ T88.bel (fun _ => ?_)
            clear hK K
            refine wpAnyH_ready (rs := [9]) (by kernel_rfl) (by simp) ?_
            refine AllReadyH.cons rfl (fun K hK => ?_) AllReadyH.nil
            · go_simp
              refine (CVd.out _ T88.bel).mono ?_
              rintro e w89 ⟨rfl, hb⟩
              have T90 := T88.call hb
              clear hb
              dsimp only
              refine hK.out _ _ T90.bel (fun _ => ?_)
              clear hK K
              refine wpAnyH_ready (rs := [12]) (by kernel_rfl) (by simp) ?_
              refine AllReadyH.cons rfl (fun K hK => ?_) AllReadyH.nil
              rw [if_pos (by kernel_rfl)]
              refine wp_store_mid 27 _ _ rfl _ 0 Us.toArray rfl rfl (by rw [HUsZ.out]; exact (T90.hx _ rfl).2.2) (by rw [HUsZ.out]; exact size17) (all_oneCell_toArray HUsO.out) ?_
              simp only [Act.put]
              try simp only [List.setIfInBounds_toArray]
              try simp only [List.set_cons_succ]
              try simp only [List.set_cons_zero]
              refine hK.out _ _ (below_setCells T90.bel _ (T90.hx _ rfl).1 _ 0) (fun _ => ?_)
              clear hK K
              refine wpAnyH_ready (rs := [13]) (by kernel_rfl) (by simp) ?_
              refine AllReadyH.cons rfl (fun K hK => ?_) AllReadyH.nil
              rw [if_pos (by kernel_rfl)]
              refine wp_store_mid 27 _ _ rfl _ 0 Vs.toArray rfl rfl (by rw [HVsZ.out]; exact World.there_setCells (T90.hy _ rfl).2.2 _ 0 _) (by rw [HVsZ.out]; exact size17) (all_oneCell_toArray HVsO.out) ?_
              simp only [Act.put]
              try simp only [List.setIfInBounds_toArray]
              try simp only [List.set_cons_succ]
              try simp only [List.set_cons_zero]
              refine hK.out _ _ (below_setCells (below_setCells T90.bel _ (T90.hx _ rfl).1 _ 0) _ (T90.hy _ rfl).1 _ 0) (fun _ => ?_)
              clear hK K
              refine wpAnyH_done (by kernel_rfl) ?_ _
              go_wp2_with fail
              go_meet
              exact ⟨_, _, rfl, rfl, Lib.hid (T90.two HUsL.out HVsL.out)⟩
        · go_simp
          have T92 := T70.ay
          obtain ⟨V91, hW⟩ : ∃ W, w69.alloc (.cells #[Value.int .i64 0, Value.bool false, Value.int .i64 0, Value.int .i64 0, Value.int .i64 0, Value.int .i64 0, Value.int .i64 0, Value.int .i64 0, Value.int .i64 0, Value.int .i64 0, Value.int .i64 0, Value.int .i64 0, Value.int .i64 0, Value.int .i64 0, Value.int .i64 0, Value.int .i64 0, Value.int .i64 0, Value.int .i64 0, Value.int .i64 0, Value.int .i64 0, Value.int .i64 0, Value.int .i64 0, Value.int .i64 0, Value.int .i64 0, Value.int .i64 0, Value.int .i64 0, Value.int .i64 0, Value.int .i64 0, Value.int .i64 0, Value.int .i64 0, Value.int .i64 0, Value.int .i64 0, Value.int .i64 0, Value.int .i64 0, Value.int .i64 0, Value.int .i64 0, Value.int .i64 0, Value.int .i64 0, Value.int .i64 0, Value.int .i64 0, Value.int .i64 0, Value.int .i64 0, Value.int .i64 0, Value.int .i64 0, Value.int .i64 0, Value.int .i64 0, Value.int .i64 0, Value.int .i64 0, Value.int .i64 0, Value.int .i64 0, Value.int .i64 0, Value.int .i64 0, Value.string ⟨#[]⟩, Value.int .i64 0, Value.int .i64 0] 27) = W := ⟨_, rfl⟩
          rw [hW] at T92 ⊢
          clear hW
          refine hK.out _ _ T92.bel (fun _ => ?_)
          clear hK K
          refine wpAnyH_ready (rs := [9, 10]) (by kernel_rfl) (by simp) ?_
          refine AllReadyH.cons rfl (fun K hK => ?_) (AllReadyH.cons rfl (fun K hK => ?_) AllReadyH.nil)
          · go_simp
            refine (CVd.out _ T92.bel).mono ?_
            rintro e w93 ⟨rfl, hb⟩
            have T94 := T92.call hb
            clear hb
            dsimp only
            refine hK.out _ _ T94.bel (fun _ => ?_)
            clear hK K
            refine wpAnyH_ready (rs := [10]) (by kernel_rfl) (by simp) ?_
            refine AllReadyH.cons rfl (fun K hK => ?_) AllReadyH.nil
            · go_simp
              have T96 := T94.ax
              obtain ⟨V95, hW⟩ : ∃ W, w93.alloc (.cells #[Value.int .i64 0, Value.bool false, Value.int .i64 0, Value.int .i64 0, Value.int .i64 0, Value.int .i64 0, Value.int .i64 0, Value.int .i64 0, Value.int .i64 0, Value.int .i64 0, Value.int .i64 0, Value.int .i64 0, Value.int .i64 0, Value.int .i64 0, Value.int .i64 0, Value.int .i64 0, Value.int .i64 0, Value.int .i64 0, Value.int .i64 0, Value.int .i64 0, Value.int .i64 0, Value.int .i64 0, Value.int .i64 0, Value.int .i64 0, Value.int .i64 0, Value.int .i64 0, Value.int .i64 0, Value.int .i64 0, Value.int .i64 0, Value.int .i64 0, Value.int .i64 0, Value.int .i64 0, Value.int .i64 0, Value.int .i64 0, Value.int .i64 0, Value.int .i64 0, Value.int .i64 0, Value.int .i64 0, Value.int .i64 0, Value.int .i64 0, Value.int .i64 0, Value.int .i64 0, Value.int .i64 0, Value.int .i64 0, Value.int .i64 0, Value.int .i64 0, Value.int .i64 0, Value.int .i64 0, Value.int .i64 0, Value.int .i64 0, Value.int .i64 0, Value.int .i64 0, Value.string ⟨#[]⟩, Value.int .i64 0, Value.int .i64 0] 27) = W := ⟨_, rfl⟩
              rw [hW] at T96 ⊢
              clear hW
              refine hK.out _ _ T96.bel (fun _ => ?_)
              clear hK K
              refine wpAnyH_ready (rs := [12]) (by kernel_rfl) (by simp) ?_
              refine AllReadyH.cons rfl (fun K hK => ?_) AllReadyH.nil
              rw [if_pos (by kernel_rfl)]
              refine wp_store_mid 27 _ _ rfl _ 0 Us.toArray rfl rfl (by rw [HUsZ.out]; exact (T96.hx _ rfl).2.2) (by rw [HUsZ.out]; exact size17) (all_oneCell_toArray HUsO.out) ?_
              simp only [Act.put]
              try simp only [List.setIfInBounds_toArray]
              try simp only [List.set_cons_succ]
              try simp only [List.set_cons_zero]
              refine hK.out _ _ (below_setCells T96.bel _ (T96.hx _ rfl).1 _ 0) (fun _ => ?_)
              clear hK K
              refine wpAnyH_ready (rs := [13]) (by kernel_rfl) (by simp) ?_
              refine AllReadyH.cons rfl (fun K hK => ?_) AllReadyH.nil
              rw [if_pos (by kernel_rfl)]
              refine wp_store_mid 27 _ _ rfl _ 0 Vs.toArray rfl rfl (by rw [HVsZ.out]; exact World.there_setCells (T96.hy _ rfl).2.2 _ 0 _) (by rw [HVsZ.out]; exact size17) (all_oneCell_toArray HVsO.out) ?_
              simp only [Act.put]
              try simp only [List.setIfInBounds_toArray]
              try simp only [List.set_cons_succ]
              try simp only [List.set_cons_zero]
              refine hK.out _ _ (below_setCells (below_setCells T96.bel _ (T96.hx _ rfl).1 _ 0) _ (T96.hy _ rfl).1 _ 0) (fun _ => ?_)
              clear hK K
              refine wpAnyH_done (by kernel_rfl) ?_ _
              go_wp2_with fail
              go_meet
              exact ⟨_, _, rfl, rfl, Lib.hid (T96.two HUsL.out HVsL.out)⟩
          · go_simp
            have T98 := T92.ax
            obtain ⟨V97, hW⟩ : ∃ W, V91.alloc (.cells #[Value.int .i64 0, Value.bool false, Value.int .i64 0, Value.int .i64 0, Value.int .i64 0, Value.int .i64 0, Value.int .i64 0, Value.int .i64 0, Value.int .i64 0, Value.int .i64 0, Value.int .i64 0, Value.int .i64 0, Value.int .i64 0, Value.int .i64 0, Value.int .i64 0, Value.int .i64 0, Value.int .i64 0, Value.int .i64 0, Value.int .i64 0, Value.int .i64 0, Value.int .i64 0, Value.int .i64 0, Value.int .i64 0, Value.int .i64 0, Value.int .i64 0, Value.int .i64 0, Value.int .i64 0, Value.int .i64 0, Value.int .i64 0, Value.int .i64 0, Value.int .i64 0, Value.int .i64 0, Value.int .i64 0, Value.int .i64 0, Value.int .i64 0, Value.int .i64 0, Value.int .i64 0, Value.int .i64 0, Value.int .i64 0, Value.int .i64 0, Value.int .i64 0, Value.int .i64 0, Value.int .i64 0, Value.int .i64 0, Value.int .i64 0, Value.int .i64 0, Value.int .i64 0, Value.int .i64 0, Value.int .i64 0, Value.int .i64 0, Value.int .i64 0, Value.int .i64 0, Value.string ⟨#[]⟩, Value.int .i64 0, Value.int .i64 0] 27) = W := ⟨_, rfl⟩
            rw [hW] at T98 ⊢
            clear hW
            refine hK.out _ _ T98.bel (fun _ => ?_)
            clear hK K
            refine wpAnyH_ready (rs := [9]) (by kernel_rfl) (by simp) ?_
            refine AllReadyH.cons rfl (fun K hK => ?_) AllReadyH.nil
            · go_simp
              refine (CVd.out _ T98.bel).mono ?_
              rintro e w99 ⟨rfl, hb⟩
              have T100 := T98.call hb
              clear hb
              dsimp only
              refine hK.out _ _ T100.bel (fun _ => ?_)
              clear hK K
              refine wpAnyH_ready (rs := [12]) (by kernel_rfl) (by simp) ?_
              refine AllReadyH.cons rfl (fun K hK => ?_) AllReadyH.nil
              rw [if_pos (by kernel_rfl)]
              refine wp_store_mid 27 _ _ rfl _ 0 Us.toArray rfl rfl (by rw [HUsZ.out]; exact (T100.hx _ rfl).2.2) (by rw [HUsZ.out]; exact size17) (all_oneCell_toArray HUsO.out) ?_
              simp only [Act.put]
              try simp only [List.setIfInBounds_toArray]
              try simp only [List.set_cons_succ]
              try simp only [List.set_cons_zero]
              refine hK.out _ _ (below_setCells T100.bel _ (T100.hx _ rfl).1 _ 0) (fun _ => ?_)
              clear hK K
              refine wpAnyH_ready (rs := [13]) (by kernel_rfl) (by simp) ?_
              refine AllReadyH.cons rfl (fun K hK => ?_) AllReadyH.nil
              rw [if_pos (by kernel_rfl)]
              refine wp_store_mid 27 _ _ rfl _ 0 Vs.toArray rfl rfl (by rw [HVsZ.out]; exact World.there_setCells (T100.hy _ rfl).2.2 _ 0 _) (by rw [HVsZ.out]; exact size17) (all_oneCell_toArray HVsO.out) ?_
              simp only [Act.put]
              try simp only [List.setIfInBounds_toArray]
              try simp only [List.set_cons_succ]
              try simp only [List.set_cons_zero]
              refine hK.out _ _ (below_setCells (below_setCells T100.bel _ (T100.hx _ rfl).1 _ 0) _ (T100.hy _ rfl).1 _ 0) (fun _ => ?_)
              clear hK K
              refine wpAnyH_done (by kernel_rfl) ?_ _
              go_wp2_with fail
              go_meet
              exact ⟨_, _, rfl, rfl, Lib.hid (T100.two HUsL.out HVsL.out)⟩
      · go_simp
        have T102 := T0.ax
        obtain ⟨V101, hW⟩ : ∃ W, X0.alloc (.cells #[Value.int .i64 0, Value.bool false, Value.int .i64 0, Value.int .i64 0, Value.int .i64 0, Value.int .i64 0, Value.int .i64 0, Value.int .i64 0, Value.int .i64 0, Value.int .i64 0, Value.int .i64 0, Value.int .i64 0, Value.int .i64 0, Value.int .i64 0, Value.int .i64 0, Value.int .i64 0, Value.int .i64 0, Value.int .i64 0, Value.int .i64 0, Value.int .i64 0, Value.int .i64 0, Value.int .i64 0, Value.int .i64 0, Value.int .i64 0, Value.int .i64 0, Value.int .i64 0, Value.int .i64 0, Value.int .i64 0, Value.int .i64 0, Value.int .i64 0, Value.int .i64 0, Value.int .i64 0, Value.int .i64 0, Value.int .i64 0, Value.int .i64 0, Value.int .i64 0, Value.int .i64 0, Value.int .i64 0, Value.int .i64 0, Value.int .i64 0, Value.int .i64 0, Value.int .i64 0, Value.int .i64 0, Value.int .i64 0, Value.int .i64 0, Value.int .i64 0, Value.int .i64 0, Value.int .i64 0, Value.int .i64 0, Value.int .i64 0, Value.int .i64 0, Value.int .i64 0, Value.string ⟨#[]⟩, Value.int .i64 0, Value.int .i64 0] 27) = W := ⟨_, rfl⟩
        rw [hW] at T102 ⊢
        clear hW
        refine hK.out _ _ T102.bel (fun _ => ?_)
        clear hK K
        refine wpAnyH_ready (rs := [4, 11]) (by kernel_rfl) (by simp) ?_
        refine AllReadyH.cons rfl (fun K hK => ?_) (AllReadyH.cons rfl (fun K hK => ?_) AllReadyH.nil)
        · go_simp
          refine (CUd.out _ T102.bel).mono ?_
          rintro e w103 ⟨rfl, hb⟩
          have T104 := T102.call hb
          clear hb
          dsimp only
          refine hK.out _ _ T104.bel (fun _ => ?_)
          clear hK K
          refine wpAnyH_ready (rs := [9, 11]) (by kernel_rfl) (by simp) ?_
          refine AllReadyH.cons rfl (fun K hK => ?_) (AllReadyH.cons rfl (fun K hK => ?_) AllReadyH.nil)
          · go_simp
            refine (CVd.out _ T104.bel).mono ?_
            rintro e w105 ⟨rfl, hb⟩
            have T106 := T104.call hb
            clear hb
            dsimp only
            refine hK.out _ _ T106.bel (fun _ => ?_)
            clear hK K
            refine wpAnyH_ready (rs := [11]) (by kernel_rfl) (by simp) ?_
            refine AllReadyH.cons rfl (fun K hK => ?_) AllReadyH.nil
            · go_simp
              have T108 := T106.ay
              obtain ⟨V107, hW⟩ : ∃ W, w105.alloc (.cells #[Value.int .i64 0, Value.bool false, Value.int .i64 0, Value.int .i64 0, Value.int .i64 0, Value.int .i64 0, Value.int .i64 0, Value.int .i64 0, Value.int .i64 0, Value.int .i64 0, Value.int .i64 0, Value.int .i64 0, Value.int .i64 0, Value.int .i64 0, Value.int .i64 0, Value.int .i64 0, Value.int .i64 0, Value.int .i64 0, Value.int .i64 0, Value.int .i64 0, Value.int .i64 0, Value.int .i64 0, Value.int .i64 0, Value.int .i64 0, Value.int .i64 0, Value.int .i64 0, Value.int .i64 0, Value.int .i64 0, Value.int .i64 0, Value.int .i64 0, Value.int .i64 0, Value.int .i64 0, Value.int .i64 0, Value.int .i64 0, Value.int .i64 0, Value.int .i64 0, Value.int .i64 0, Value.int .i64 0, Value.int .i64 0, Value.int .i64 0, Value.int .i64 0, Value.int .i64 0, Value.int .i64 0, Value.int .i64 0, Value.int .i64 0, Value.int .i64 0, Value.int .i64 0, Value.int .i64 0, Value.int .i64 0, Value.int .i64 0, Value.int .i64 0, Value.int .i64 0, Value.string ⟨#[]⟩, Value.int .i64 0, Value.int .i64 0] 27) = W := ⟨_, rfl⟩
              rw [hW] at T108 ⊢
              clear hW
              refine hK.out _ _ T108.bel (fun _ => ?_)
              clear hK K
              refine wpAnyH_ready (rs := [12]) (by kernel_rfl) (by simp) ?_
              refine AllReadyH.cons rfl (fun K hK => ?_) AllReadyH.nil
              rw [if_pos (by kernel_rfl)]
              refine wp_store_mid 27 _ _ rfl _ 0 Us.toArray rfl rfl (by rw [HUsZ.out]; exact (T108.hx _ rfl).2.2) (by rw [HUsZ.out]; exact size17) (all_oneCell_toArray HUsO.out) ?_
              simp only [Act.put]
              try simp only [List.setIfInBounds_toArray]
              try simp only [List.set_cons_succ]
              try simp only [List.set_cons_zero]
              refine hK.out _ _ (below_setCells T108.bel _ (T108.hx _ rfl).1 _ 0) (fun _ => ?_)
              clear hK K
              refine wpAnyH_ready (rs := [13]) (by kernel_rfl) (by simp) ?_
              refine AllReadyH.cons rfl (fun K hK => ?_) AllReadyH.nil
              rw [if_pos (by kernel_rfl)]
              refine wp_store_mid 27 _ _ rfl _ 0 Vs.toArray rfl rfl (by rw [HVsZ.out]; exact World.there_setCells (T108.hy _ rfl).2.2 _ 0 _) (by rw [HVsZ.out]; exact size17) (all_oneCell_toArray HVsO.out) ?_
              simp only [Act.put]
              try simp only [List.setIfInBounds_toArray]
              try simp only [List.set_cons_succ]
              try simp only [List.set_cons_zero]
              refine hK.out _ _ (below_setCells (below_setCells T108.bel _ (T108.hx _ rfl).1 _ 0) _ (T108.hy _ rfl).1 _ 0) (fun _ => ?_)
              clear hK K
              refine wpAnyH_done (by kernel_rfl) ?_ _
              go_wp2_with fail
              go_meet
              exact ⟨_, _, rfl, rfl, Lib.hid (T108.two HUsL.out HVsL.out)⟩
          · go_simp
            have T110 := T104.ay
            obtain ⟨V109, hW⟩ : ∃ W, w103.alloc (.cells #[Value.int .i64 0, Value.bool false, Value.int .i64 0, Value.int .i64 0, Value.int .i64 0, Value.int .i64 0, Value.int .i64 0, Value.int .i64 0, Value.int .i64 0, Value.int .i64 0, Value.int .i64 0, Value.int .i64 0, Value.int .i64 0, Value.int .i64 0, Value.int .i64 0, Value.int .i64 0, Value.int .i64 0, Value.int .i64 0, Value.int .i64 0, Value.int .i64 0, Value.int .i64 0, Value.int .i64 0, Value.int .i64 0, Value.int .i64 0, Value.int .i64 0, Value.int .i64 0, Value.int .i64 0, Value.int .i64 0, Value.int .i64 0, Value.int .i64 0, Value.int .i64 0, Value.int .i64 0, Value.int .i64 0, Value.int .i64 0, Value.int .i64 0, Value.int .i64 0, Value.int .i64 0, Value.int .i64 0, Value.int .i64 0, Value.int .i64 0, Value.int .i64 0, Value.int .i64 0, Value.int .i64 0, Value.int .i64 0, Value.int .i64 0, Value.int .i64 0, Value.int .i64 0, Value.int .i64 0, Value.int .i64 0, Value.int .i64 0, Value.int .i64 0, Value.int .i64 0, Value.string ⟨#[]⟩, Value.int .i64 0, Value.int .i64 0] 27) = W := ⟨_, rfl⟩
            rw [hW] at T110 ⊢
            clear hW
            refine hK.out _ _ T110.bel (fun _ => ?_)
            clear hK K
            refine wpAnyH_ready (rs := [9]) (by kernel_rfl) (by simp) ?_
            refine AllReadyH.cons rfl (fun K hK => ?_) AllReadyH.nil
            · go_simp
              refine (CVd.out _ T110.bel).mono ?_
              rintro e w111 ⟨rfl, hb⟩
              have T112 := T110.call hb
              clear hb
              dsimp only
              refine hK.out _ _ T112.bel (fun _ => ?_)
              clear hK K
              refine wpAnyH_ready (rs := [12]) (by kernel_rfl) (by simp) ?_
              refine AllReadyH.cons rfl (fun K hK => ?_) AllReadyH.nil
              rw [if_pos (by kernel_rfl)]
              refine wp_store_mid 27 _ _ rfl _ 0 Us.toArray rfl rfl (by rw [HUsZ.out]; exact (T112.hx _ rfl).2.2) (by rw [HUsZ.out]; exact size17) (all_oneCell_toArray HUsO.out) ?_
              simp only [Act.put]
              try simp only [List.setIfInBounds_toArray]
              try simp only [List.set_cons_succ]
              try simp only [List.set_cons_zero]
              refine hK.out _ _ (below_setCells T112.bel _ (T112.hx _ rfl).1 _ 0) (fun _ => ?_)
              clear hK K
              refine wpAnyH_ready (rs := [13]) (by kernel_rfl) (by simp) ?_
              refine AllReadyH.cons rfl (fun K hK => ?_) AllReadyH.nil
              rw [if_pos (by kernel_rfl)]
              refine wp_store_mid 27 _ _ rfl _ 0 Vs.toArray rfl rfl (by rw [HVsZ.out]; exact World.there_setCells (T112.hy _ rfl).2.2 _ 0 _) (by rw [HVsZ.out]; exact size17) (all_oneCell_toArray HVsO.out) ?_
              simp only [Act.put]
              try simp only [List.setIfInBounds_toArray]
              try simp only [List.set_cons_succ]
              try simp only [List.set_cons_zero]
              refine hK.out _ _ (below_setCells (below_setCells T112.bel _ (T112.hx _ rfl).1 _ 0) _ (T112.hy _ rfl).1 _ 0) (fun _ => ?_)
              clear hK K
              refine wpAnyH_done (by kernel_rfl) ?_ _
              go_wp2_with fail
              go_meet
              exact ⟨_, _, rfl, rfl, Lib.hid (T112.two HUsL.out HVsL.out)⟩
        · go_simp
          have T114 := T102.ay
          obtain ⟨V113, hW⟩ : ∃ W, V101.alloc (.cells #[Value.int .i64 0, Value.bool false, Value.int .i64 0, Value.int .i64 0, Value.int .i64 0, Value.int .i64 0, Value.int .i64 0, Value.int .i64 0, Value.int .i64 0, Value.int .i64 0, Value.int .i64 0, Value.int .i64 0, Value.int .i64 0, Value.int .i64 0, Value.int .i64 0, Value.int .i64 0, Value.int .i64 0, Value.int .i64 0, Value.int .i64 0, Value.int .i64 0, Value.int .i64 0, Value.int .i64 0, Value.int .i64 0, Value.int .i64 0, Value.int .i64 0, Value.int .i64 0, Value.int .i64 0, Value.int .i64 0, Value.int .i64 0, Value.int .i64 0, Value.int .i64 0, Value.int .i64 0, Value.int .i64 0, Value.int .i64 0, Value.int .i64 0, Value.int .i64 0, Value.int .i64 0, Value.int .i64 0, Value.int .i64 0, Value.int .i64 0, Value.int .i64 0, Value.int .i64 0, Value.int .i64 0, Value.int .i64 0, Value.int .i64 0, Value.int .i64 0, Value.int .i64 0, Value.int .i64 0, Value.int .i64 0, Value.int .i64 0, Value.int .i64 0, Value.int .i64 0, Value.string ⟨#[]⟩, Value.int .i64 0, Value.int .i64 0] 27) = W := ⟨_, rfl⟩
          rw [hW] at T114 ⊢
          clear hW
          refine hK.out _ _ T114.bel (fun _ => ?_)
          clear hK K
          refine wpAnyH_ready (rs := [4]) (by kernel_rfl) (by simp) ?_
          refine AllReadyH.cons rfl (fun K hK => ?_) AllReadyH.nil
          · go_simp
            refine (CUd.out _ T114.bel).mono ?_
            rintro e w115 ⟨rfl, hb⟩
            have T116 := T114.call hb
            clear hb
            dsimp only
            refine hK.out _ _ T116.bel (fun _ => ?_)
            clear hK K
            refine wpAnyH_ready (rs := [9]) (by kernel_rfl) (by simp) ?_
            refine AllReadyH.cons rfl (fun K hK => ?_) AllReadyH.nil
            · go_simp
              refine (CVd.out _ T116.bel).mono ?_
              rintro e w117 ⟨rfl, hb⟩
              have T118 := T116.call hb
              clear hb
              dsimp only
              refine hK.out _ _ T118.bel (fun _ => ?_)
              clear hK K
              refine wpAnyH_ready (rs := [12]) (by kernel_rfl) (by simp) ?_
              refine AllReadyH.cons rfl (fun K hK => ?_) AllReadyH.nil
              rw [if_pos (by kernel_rfl)]
              refine wp_store_mid 27 _ _ rfl _ 0 Us.toArray rfl rfl (by rw [HUsZ.out]; exact (T118.hx _ rfl).2.2) (by rw [HUsZ.out]; exact size17) (all_oneCell_toArray HUsO.out) ?_
              simp only [Act.put]
              try simp only [List.setIfInBounds_toArray]
              try simp only [List.set_cons_succ]
              try simp only [List.set_cons_zero]
              refine hK.out _ _ (below_setCells T118.bel _ (T118.hx _ rfl).1 _ 0) (fun _ => ?_)
              clear hK K
              refine wpAnyH_ready (rs := [13]) (by kernel_rfl) (by simp) ?_
              refine AllReadyH.cons rfl (fun K hK => ?_) AllReadyH.nil
              rw [if_pos (by kernel_rfl)]
              refine wp_store_mid 27 _ _ rfl _ 0 Vs.toArray rfl rfl (by rw [HVsZ.out]; exact World.there_setCells (T118.hy _ rfl).2.2 _ 0 _) (by rw [HVsZ.out]; exact size17) (all_oneCell_toArray HVsO.out) ?_
              simp only [Act.put]
              try simp only [List.setIfInBounds_toArray]
              try simp only [List.set_cons_succ]
              try simp only [List.set_cons_zero]
              refine hK.out _ _ (below_setCells (below_setCells T118.bel _ (T118.hx _ rfl).1 _ 0) _ (T118.hy _ rfl).1 _ 0) (fun _ => ?_)
              clear hK K
              refine wpAnyH_done (by kernel_rfl) ?_ _
              go_wp2_with fail
              go_meet
              exact ⟨_, _, rfl, rfl, Lib.hid (T118.two HUsL.out HVsL.out)⟩
      · go_simp
        have T120 := T0.ay
        obtain ⟨V119, hW⟩ : ∃ W, X0.alloc (.cells #[Value.int .i64 0, Value.bool false, Value.int .i64 0, Value.int .i64 0, Value.int .i64 0, Value.int .i64 0, Value.int .i64 0, Value.int .i64 0, Value.int .i64 0, Value.int .i64 0, Value.int .i64 0, Value.int .i64 0, Value.int .i64 0, Value.int .i64 0, Value.int .i64 0, Value.int .i64 0, Value.int .i64 0, Value.int .i64 0, Value.int .i64 0, Value.int .i64 0, Value.int .i64 0, Value.int .i64 0, Value.int .i64 0, Value.int .i64 0, Value.int .i64 0, Value.int .i64 0, Value.int .i64 0, Value.int .i64 0, Value.int .i64 0, Value.int .i64 0, Value.int .i64 0, Value.int .i64 0, Value.int .i64 0, Value.int .i64 0, Value.int .i64 0, Value.int .i64 0, Value.int .i64 0, Value.int .i64 0, Value.int .i64 0, Value.int .i64 0, Value.int .i64 0, Value.int .i64 0, Value.int .i64 0, Value.int .i64 0, Value.int .i64 0, Value.int .i64 0, Value.int .i64 0, Value.int .i64 0, Value.int .i64 0, Value.int .i64 0, Value.int .i64 0, Value.int .i64 0, Value.string ⟨#[]⟩, Value.int .i64 0, Value.int .i64 0] 27) = W := ⟨_, rfl⟩
        rw [hW] at T120 ⊢
        clear hW
        refine hK.out _ _ T120.bel (fun _ => ?_)
        clear hK K
        refine wpAnyH_ready (rs := [4, 10]) (by kernel_rfl) (by simp) ?_
        refine AllReadyH.cons rfl (fun K hK => ?_) (AllReadyH.cons rfl (fun K hK => ?_) AllReadyH.nil)
        · go_simp
          refine (CUd.out _ T120.bel).mono ?_
          rintro e w121 ⟨rfl, hb⟩
          have T122 := T120.call hb
          clear hb
          dsimp only
          refine hK.out _ _ T122.bel (fun _ => ?_)
          clear hK K
          refine wpAnyH_ready (rs := [9, 10]) (by kernel_rfl) (by simp) ?_
          refine AllReadyH.cons rfl (fun K hK => ?_) (AllReadyH.cons rfl (fun K hK => ?_) AllReadyH.nil)
          · go_simp
            refine (CVd.out _ T122.bel).mono ?_
            rintro e w123 ⟨rfl, hb⟩
            have T124 := T122.call hb
            clear hb
            dsimp only
            refine hK.out _ _ T124.bel (fun _ => ?_)
            clear hK K
            refine wpAnyH_ready (rs := [10]) (by kernel_rfl) (by simp) ?_
            refine AllReadyH.cons rfl (fun K hK => ?_) AllReadyH.nil
            · go_simp
              have T126 := T124.ax
              obtain ⟨V125, hW⟩ : ∃ W, w123.alloc (.cells #[Value.int .i64 0, Value.bool false, Value.int .i64 0, Value.int .i64 0, Value.int .i64 0, Value.int .i64 0, Value.int .i64 0, Value.int .i64 0, Value.int .i64 0, Value.int .i64 0, Value.int .i64 0, Value.int .i64 0, Value.int .i64 0, Value.int .i64 0, Value.int .i64 0, Value.int .i64 0, Value.int .i64 0, Value.int .i64 0, Value.int .i64 0, Value.int .i64 0, Value.int .i64 0, Value.int .i64 0, Value.int .i64 0, Value.int .i64 0, Value.int .i64 0, Value.int .i64 0, Value.int .i64 0, Value.int .i64 0, Value.int .i64 0, Value.int .i64 0, Value.int .i64 0, Value.int .i64 0, Value.int .i64 0, Value.int .i64 0, Value.int .i64 0, Value.int .i64 0, Value.int .i64 0, Value.int .i64 0, Value.int .i64 0, Value.int .i64 0, Value.int .i64 0, Value.int .i64 0, Value.int .i64 0, Value.int .i64 0, Value.int .i64 0, Value.int .i64 0, Value.int .i64 0, Value.int .i64 0, Value.int .i64 0, Value.int .i64 0, Value.int .i64 0, Value.int .i64 0, Value.string ⟨#[]⟩, Value.int .i64 0, Value.int .i64 0] 27) = W := ⟨_, rfl⟩
              rw [hW] at T126 ⊢
              clear hW
              refine hK.out _ _ T126.bel (fun _ => ?_)
              clear hK K
              refine wpAnyH_ready (rs := [12]) (by kernel_rfl) (by simp) ?_
              refine AllReadyH.cons rfl (fun K hK => ?_) AllReadyH.nil
              rw [if_pos (by kernel_rfl)]
              refine wp_store_mid 27 _ _ rfl _ 0 Us.toArray rfl rfl (by rw [HUsZ.out]; exact (T126.hx _ rfl).2.2) (by rw [HUsZ.out]; exact size17) (all_oneCell_toArray HUsO.out) ?_
              simp only [Act.put]
              try simp only [List.setIfInBounds_toArray]
              try simp only [List.set_cons_succ]
              try simp only [List.set_cons_zero]
              refine hK.out _ _ (below_setCells T126.bel _ (T126.hx _ rfl).1 _ 0) (fun _ => ?_)
              clear hK K
              refine wpAnyH_ready (rs := [13]) (by kernel_rfl) (by simp) ?_
              refine AllReadyH.cons rfl (fun K hK => ?_) AllReadyH.nil
              rw [if_pos (by kernel_rfl)]
              refine wp_store_mid 27 _ _ rfl _ 0 Vs.toArray rfl rfl (by rw [HVsZ.out]; exact World.there_setCells (T126.hy _ rfl).2.2 _ 0 _) (by rw [HVsZ.out]; exact size17) (all_oneCell_toArray HVsO.out) ?_
              simp only [Act.put]
              try simp only [List.setIfInBounds_toArray]
              try simp only [List.set_cons_succ]
              try simp only [List.set_cons_zero]
              refine hK.out _ _ (below_setCells (below_setCells T126.bel _ (T126.hx _ rfl).1 _ 0) _ (T126.hy _ rfl).1 _ 0) (fun _ => ?_)
              clear hK K
              refine wpAnyH_done (by kernel_rfl) ?_ _
              go_wp2_with fail
              go_meet
              exact ⟨_, _, rfl, rfl, Lib.hid (T126.two HUsL.out HVsL.out)⟩
          · go_simp
            have T128 := T122.ax
            obtain ⟨V127, hW⟩ : ∃ W, w121.alloc (.cells #[Value.int .i64 0, Value.bool false, Value.int .i64 0, Value.int .i64 0, Value.int .i64 0, Value.int .i64 0, Value.int .i64 0, Value.int .i64 0, Value.int .i64 0, Value.int .i64 0, Value.int .i64 0, Value.int .i64 0, Value.int .i64 0, Value.int .i64 0, Value.int .i64 0, Value.int .i64 0, Value.int .i64 0, Value.int .i64 0, Value.int .i64 0, Value.int .i64 0, Value.int .i64 0, Value.int .i64 0, Value.int .i64 0, Value.int .i64 0, Value.int .i64 0, Value.int .i64 0, Value.int .i64 0, Value.int .i64 0, Value.int .i64 0, Value.int .i64 0, Value.int .i64 0, Value.int .i64 0, Value.int .i64 0, Value.int .i64 0, Value.int .i64 0, Value.int .i64 0, Value.int .i64 0, Value.int .i64 0, Value.int .i64 0, Value.int .i64 0, Value.int .i64 0, Value.int .i64 0, Value.int .i64 0, Value.int .i64 0, Value.int .i64 0, Value.int .i64 0, Value.int .i64 0, Value.int .i64 0, Value.int .i64 0, Value.int .i64 0, Value.int .i64 0, Value.int .i64 0, Value.string ⟨#[]⟩, Value.int .i64 0, Value.int .i64 0] 27) = W := ⟨_, rfl⟩
            rw [hW] at T128 ⊢
            clear hW
            refine hK.out _ _ T128.bel (fun _ => ?_)
            clear hK K
            refine wpAnyH_ready (rs := [9]) (by kernel_rfl) (by simp) ?_
            refine AllReadyH.cons rfl (fun K hK => ?_) AllReadyH.nil
            · go_simp
              refine (CVd.out _ T128.bel).mono ?_
              rintro e w129 ⟨rfl, hb⟩
              have T130 := T128.call hb
              clear hb
              dsimp only
              refine hK.out _ _ T130.bel (fun _ => ?_)
              clear hK K
              refine wpAnyH_ready (rs := [12]) (by kernel_rfl) (by simp) ?_
              refine AllReadyH.cons rfl (fun K hK => ?_) AllReadyH.nil
              rw [if_pos (by kernel_rfl)]
              refine wp_store_mid 27 _ _ rfl _ 0 Us.toArray rfl rfl (by rw [HUsZ.out]; exact (T130.hx _ rfl).2.2) (by rw [HUsZ.out]; exact size17) (all_oneCell_toArray HUsO.out) ?_
              simp only [Act.put]
              try simp only [List.setIfInBounds_toArray]
              try simp only [List.set_cons_succ]
              try simp only [List.set_cons_zero]
              refine hK.out _ _ (below_setCells T130.bel _ (T130.hx _ rfl).1 _ 0) (fun _ => ?_)
              clear hK K
              refine wpAnyH_ready (rs := [13]) (by kernel_rfl) (by simp) ?_
              refine AllReadyH.cons rfl (fun K hK => ?_) AllReadyH.nil
              rw [if_pos (by kernel_rfl)]
              refine wp_store_mid 27 _ _ rfl _ 0 Vs.toArray rfl rfl (by rw [HVsZ.out]; exact World.there_setCells (T130.hy _ rfl).2.2 _ 0 _) (by rw [HVsZ.out]; exact size17) (all_oneCell_toArray HVsO.out) ?_
              simp only [Act.put]
              try simp only [List.setIfInBounds_toArray]
              try simp only [List.set_cons_succ]
              try simp only [List.set_cons_zero]
              refine hK.out _ _ (below_setCells (below_setCells T130.bel _ (T130.hx _ rfl).1 _ 0) _ (T130.hy _ rfl).1 _ 0) (fun _ => ?_)
              clear hK K
              refine wpAnyH_done (by kernel_rfl) ?_ _
              go_wp2_with fail
              go_meet
              exact ⟨_, _, rfl, rfl, Lib.hid (T130.two HUsL.out HVsL.out)⟩
        · go_simp
          have T132 := T120.ax
          obtain ⟨V131, hW⟩ : ∃ W, V119.alloc (.cells #[Value.int .i64 0, Value.bool false, Value.int .i64 0, Value.int .i64 0, Value.int .i64 0, Value.int .i64 0, Value.int .i64 0, Value.int .i64 0, Value.int .i64 0, Value.int .i64 0, Value.int .i64 0, Value.int .i64 0, Value.int .i64 0, Value.int .i64 0, Value.int .i64 0, Value.int .i64 0, Value.int .i64 0, Value.int .i64 0, Value.int .i64 0, Value.int .i64 0, Value.int .i64 0, Value.int .i64 0, Value.int .i64 0, Value.int .i64 0, Value.int .i64 0, Value.int .i64 0, Value.int .i64 0, Value.int .i64 0, Value.int .i64 0, Value.int .i64 0, Value.int .i64 0, Value.int .i64 0, Value.int .i64 0, Value.int .i64 0, Value.int .i64 0, Value.int .i64 0, Value.int .i64 0, Value.int .i64 0, Value.int .i64 0, Value.int .i64 0, Value.int .i64 0, Value.int .i64 0, Value.int .i64 0, Value.int .i64 0, Value.int .i64 0, Value.int .i64 0, Value.int .i64 0, Value.int .i64 0, Value.int .i64 0, Value.int .i64 0, Value.int .i64 0, Value.int .i64 0, Value.string ⟨#[]⟩, Value.int .i64 0, Value.int .i64 0] 27) = W := ⟨_, rfl⟩
          rw [hW] at T132 ⊢
          clear hW
          refine hK.out _ _ T132.bel (fun _ => ?_)
          clear hK K
          refine wpAnyH_ready (rs := [4]) (by kernel_rfl) (by simp) ?_
          refine AllReadyH.cons rfl (fun K hK => ?_) AllReadyH.nil
          · go_simp
            refine (CUd.out _ T132.bel).mono ?_
            rintro e w133 ⟨rfl, hb⟩
            have T134 := T132.call hb
            clear hb
            dsimp only
            refine hK.out _ _ T134.bel (fun _ => ?_)
            clear hK K
            refine wpAnyH_ready (rs := [9]) (by kernel_rfl) (by simp) ?_
            refine AllReadyH.cons rfl (fun K hK => ?_) AllReadyH.nil
            · go_simp
              refine (CVd.out _ T134.bel).mono ?_
              rintro e w135 ⟨rfl, hb⟩
              have T136 := T134.call hb
              clear hb
              dsimp only
              refine hK.out _ _ T136.bel (fun _ => ?_)
              clear hK K
              refine wpAnyH_ready (rs := [12]) (by kernel_rfl) (by simp) ?_
              refine AllReadyH.cons rfl (fun K hK => ?_) AllReadyH.nil
              rw [if_pos (by kernel_rfl)]
              refine wp_store_mid 27 _ _ rfl _ 0 Us.toArray rfl rfl (by rw [HUsZ.out]; exact (T136.hx _ rfl).2.2) (by rw [HUsZ.out]; exact size17) (all_oneCell_toArray HUsO.out) ?_
              simp only [Act.put]
              try simp only [List.setIfInBounds_toArray]
              try simp only [List.set_cons_succ]
              try simp only [List.set_cons_zero]
              refine hK.out _ _ (below_setCells T136.bel _ (T136.hx _ rfl).1 _ 0) (fun _ => ?_)
              clear hK K
              refine wpAnyH_ready (rs := [13]) (by kernel_rfl) (by simp) ?_
              refine AllReadyH.cons rfl (fun K hK => ?_) AllReadyH.nil
              rw [if_pos (by kernel_rfl)]
              refine wp_store_mid 27 _ _ rfl _ 0 Vs.toArray rfl rfl (by rw [HVsZ.out]; exact World.there_setCells (T136.hy _ rfl).2.2 _ 0 _) (by rw [HVsZ.out]; exact size17) (all_oneCell_toArray HVsO.out) ?_
              simp only [Act.put]
              try simp only [List.setIfInBounds_toArray]
              try simp only [List.set_cons_succ]
              try simp only [List.set_cons_zero]
              refine hK.out _ _ (below_setCells (below_setCells T136.bel _ (T136.hx _ rfl).1 _ 0) _ (T136.hy _ rfl).1 _ 0) (fun _ => ?_)
              clear hK K
              refine wpAnyH_done (by kernel_rfl) ?_ _
              go_wp2_with fail
              go_meet
              exact ⟨_, _, rfl, rfl, Lib.hid (T136.two HUsL.out HVsL.out)⟩
    case rest =>
      obtain ⟨u, v, rfl, rfl, HQ⟩ := hcut
      have HPc := Lib.hid (HP.out.call HQ.out.bel)
      clear HP CUd CVd HR1
      obtain ⟨z1, b1, nm1, hcs1, hz1, hn1⟩ := HTX
      have heq := fun W => eql17 z1 b1 nm1 hz1 hn1 W
      rw [← hcs1] at heq
      have HEQ := Lib.hid heq
      clear heq hcs1 hz1 hn1
      have hneq := fun W => neq17 (HEQ.out W)
      have hgn := fun (x y : Operand) (A B : Array Value) (W : World) => guardn17 x y A B W
      have HBE := Lib.hid (HB.out.trans (HPc.out.bel.mono (Nat.le_of_lt HL0.out)))
      have HLE : Hid (bp ≤ wc.heap.size) := Lib.hid (by have h1 := HPc.out.bel.size; have h2 := HL0.out; omega)
      clear HB HL0 HL1
      go_upto_region 14 with fail
      refine wp_region_lit ?_
      refine wpList_load_mid rfl 27 _ rfl x 0 rfl Xs _ HPc.out.xr Try.underlying27 rfl (by rw [size17, HXsL.out]) ?_
      refine wpList_load_mid rfl 27 _ rfl y 0 rfl Xs _ HPc.out.yr Try.underlying27 rfl (by rw [size17, HXsL.out]) ?_
      go_upto_region 16 with fail
      clear hneq hgn
      by_cases h36 : 35 ≤ k
      · have h36z : 36 ≤ (k : Int) + 1 := by omega
        have hxu := HUI.out h36
        subst hxu
        clear HUI HVI
        go_upto_region 17 with fail
        refine wp_region_lit ?_
        refine wpList_load_mid rfl 27 _ rfl x 0 rfl Xs _ HPc.out.xr Try.underlying27 rfl (by rw [size17, HXsL.out]) ?_
        refine wpList_load_mid rfl 27 _ rfl u 0 rfl Xs _ HQ.out.xr Try.underlying27 rfl (by rw [size17, HXsL.out]) ?_
        have heq := HEQ.out
        go_wp2_with fail
        refine (KN.out _).mono ?_
        rintro e w9 ⟨rfl, hb9⟩
        have HB9 := Lib.hid (HBE.out.trans (hb9.mono HLE.out))
        clear hb9
        go_wp2_with fail
        go_ret
        exact ⟨rfl, hbp ▸ HB9.out⟩
      · have h36z : ¬ (36 ≤ (k : Int) + 1) := by omega
        have hxu := HVI.out (by omega)
        subst hxu
        clear HUI HVI
        go_upto_region 18 with fail
        refine wp_region_lit ?_
        refine wpList_load_mid rfl 27 _ rfl x 0 rfl Xs _ HPc.out.xr Try.underlying27 rfl (by rw [size17, HXsL.out]) ?_
        refine wpList_load_mid rfl 27 _ rfl v 0 rfl Xs _ HQ.out.yr Try.underlying27 rfl (by rw [size17, HXsL.out]) ?_
        have heq := HEQ.out
        go_wp2_with fail
        refine (KN.out _).mono ?_
        rintro e w9 ⟨rfl, hb9⟩
        have HB9 := Lib.hid (HBE.out.trans (hb9.mono HLE.out))
        clear hb9
        go_wp2_with fail
        go_ret
        exact ⟨rfl, hbp ▸ HB9.out⟩
end Go.Proofs.Ytlngipglhlhhbaa
