/- Layer 18's other text: the lines of a text. -/
import Derived.Test.YtekmgpbolbkiaaaWdsW7
namespace Go.Proofs.Ytekmgpbolbkiaaa
open Go.RowKit FixM FixP TreN WdsP
set_option linter.unusedVariables false

theorem info_lineR18 : (Try.prog.info? 38).map (fun i => (i.zero, i.size, i.bytes)) = some (some (.agg #[.int .i64 0, .int .i64 0, .int .i64 0]), 3, 24) := by kernel_rfl

set_option maxRecDepth 100000 in
set_option maxHeartbeats 8000000 in
theorem refBreak18_any (s : ByteArray) (font room : Int) (w : World) (hs : s.size ≤ 300) : Calls Try.prog 19 #[.string s, .int .i64 font, .int .i64 room] w (ToldL w 38 (linesS font (H room) (wordsS s))) := by
  obtain ⟨i0, hi, hz0, hz1, hz2⟩ := info_parts info_lineR18
  have SP := Lib.hid (refSplit18_any s w hs)
  have HSZ := Lib.hid (words_sz s)
  have hlen := words_len s
  obtain ⟨L, hL⟩ : ∃ L, wordsS s = L := ⟨_, rfl⟩
  obtain ⟨R, hR⟩ : ∃ R, H room = R := ⟨_, rfl⟩
  rw [hL] at SP HSZ hlen
  rw [hL, hR]
  obtain ⟨n, hn⟩ : ∃ n, L.length = n := ⟨_, rfl⟩
  rw [hn] at hlen
  have HN := Lib.hid hn
  have HRM := Lib.hid hR
  clear hL hn hR
  go_enter Try.func19, Try.ntmps19
  go_wp2_with fail
  refine SP.out.mono ?_
  rintro e w1 ⟨a, c, rfl, hc1, hc2, hb1, hW⟩
  rw [HN.out] at hc1 ⊢
  have HB1 := Lib.hid hb1
  have HWS := Lib.hid hW
  unfold maxLen at hc2
  clear hb1 hW
  go_wp2_with fail
  go_loopw [9, 8] (fun vi v wr => ∃ (k : Nat) (d : List Ln), vi = .int .i64 (k : Int) ∧ k ≤ n ∧ d.length ≤ k ∧ Hid ((k < n → brS font R L (k + 1) = (k, d)) ∧ (k = n → d = linesS font R L)) ∧ Hid (Below w1.heap.size w1 wr) ∧ Hid (wr.ownsRow w1.heap.size 38 3 v d.length (lcs d))) (fun vi _ _ => n - (intOf vi).toNat)
  case atStart => exact ⟨0, [], rfl, by omega, by simp, Lib.hid ⟨fun _ => brS_one _ _ _, fun h => by unfold linesS linesAt; rw [HN.out, if_pos h.symm]⟩, Lib.hid (Below.refl _ _), Lib.hid (World.ownsRow_nil _ _ _ _)⟩
  case round =>
    obtain ⟨k, d, rfl, hk, hdk, HBR, HB, HO⟩ := hrel
    by_cases hlt : k < n
    · have hltz : (k : Int) < (n : Int) := by omega
      have hkk : ((k : Int) + 1) = ((k + 1 : Nat) : Int) := by omega
      have HWX : Hid (WS wr a L ∧ ∀ x ∈ L, x.size ≤ 1000) := Lib.hid ⟨HWS.out.below (HB.out), fun x hx => Nat.le_trans (HSZ.out x hx) (by omega)⟩
      have HKK := Lib.hid hkk
      clear hkk
      go_wp2_with fail
      go_loop [10] (fun ve => ∃ e : Nat, ve = .int .i64 (e : Int) ∧ k + 1 ≤ e ∧ e ≤ n ∧ Hid (brS font R L e = (k, d))) (fun ve => n - (intOf ve).toNat)
      case atStart => exact ⟨k + 1, by rw [HKK.out], by omega, by omega, Lib.hid (HBR.out.1 hlt)⟩
      case round =>
        obtain ⟨e, rfl, hke, hen, HE⟩ := hrel
        have WR : ∀ t, k ≤ t → t ≤ n → Calls Try.prog 15 #[.slice a n c, .int .i64 (k : Int), .int .i64 (t : Int), .int .i64 font] wr fun e w' => e = .returned (.int .i64 (wid font (seg L k t))) ∧ wr = w' := fun t h1 h2 =>
          refWidth18_any a L n c k t font wr HN.out (by omega) h1 h2 HWX.out.2 HWX.out.1
        by_cases hlt2 : e < n
        · have he1 : ((e : Int) + 1) = ((e + 1 : Nat) : Int) := by omega
          have hez : (e : Int) < (n : Int) := by omega
          have W1 := WR (e + 1) (by omega) (by omega)
          have W2 := WR e (by omega) (by omega)
          obtain ⟨v1, hv1⟩ : ∃ v1, wid font (seg L k (e + 1)) = v1 := ⟨_, rfl⟩
          rw [hv1] at W1
          rw [← he1] at W1
          have WW1 := Lib.hid W1
          have WW2 := Lib.hid W2
          by_cases hc : R < v1
          · have HN2 : Hid (brS font R L (e + 1) = (e, d ++ [(k, e, wid font (seg L k e))])) := Lib.hid (brS_cut HE.out (by omega) (by rw [hv1]; exact hc))
            obtain ⟨v2, hv2⟩ : ∃ v2, wid font (seg L k e) = v2 := ⟨_, rfl⟩
            rw [hv2] at HN2 WW2
            have hrow : ∀ q, u8.ownBlock = some q → w1.heap.size ≤ q := fun q hq => (World.ownsRow.lt HO.out q hq).1
            clear hv1 hv2 W1 W2 he1
            go_wp2_with fail
            refine WW1.out.mono ?_
            rintro e9 w9 ⟨rfl, rfl⟩
            go_wp2_with fail
            refine (refHold_any room _).mono ?_
            rintro e9 w9 ⟨rfl, rfl⟩
            rw [HRM.out]
            go_wp2_with fail
            refine WW2.out.mono ?_
            rintro e9 w9 ⟨rfl, rfl⟩
            go_wp2_with (at_builtin; refine wpList_append_own _ rfl _ _ 34 rfl w1.heap.size 38 i0 (.agg #[.int .i64 0, .int .i64 0, .int .i64 0]) 3 24 Try.underlying34 hi hz0 hz1 hz2 rfl (by decide) _ _ _ rfl (HO.out.alloc _) ⟨wr.heap.size, 0, none⟩ 1 1 [.int .i64 (k : Int), .int .i64 (e : Int), .int .i64 v2] rfl rfl (line_news _ _ _ _ _) (by simp [Value.oneCell']) (by unfold maxLen; omega) (by omega) (by have := HB.out.size; simp; omega) ?_; intro v' w8 hown' hgrow _; have HO8 : Hid (w8.ownsRow w1.heap.size 38 3 v' (d ++ [((k, e, v2) : Ln)]).length (lcs (d ++ [((k, e, v2) : Ln)]))) := Lib.hid (by rw [lcs_snoc, List.length_append, List.length_singleton]; exact hown'); have HB8 : Hid (Below w1.heap.size w1 w8) := Lib.hid ((HB.out.alloc HB.out.size _).trans (below_grownW hgrow hrow (by have := HB.out.size; simp; omega))); clear hown' hgrow hrow)
            go_roundw
            case rel => exact ⟨e, d ++ [((k, e, v2) : Ln)], rfl, by omega, by rw [List.length_append, List.length_singleton]; omega, Lib.hid ⟨fun _ => HN2.out, fun h => by omega⟩, HB8, HO8⟩
            case measure => simp [intOf]; omega
          · have HN2 : Hid (brS font R L (e + 1) = (k, d)) := Lib.hid (brS_go HE.out (by omega) (by rw [hv1]; exact hc))
            clear hv1 W1 W2 he1
            go_wp2_with fail
            refine WW1.out.mono ?_
            rintro e9 w9 ⟨rfl, rfl⟩
            go_wp2_with fail
            refine (refHold_any room _).mono ?_
            rintro e9 w9 ⟨rfl, rfl⟩
            rw [HRM.out]
            go_wp2_with fail
            go_round
            case rel => exact ⟨e + 1, by go_num, by omega, by omega, HN2⟩
            case measure => simp [intOf]; omega
        · have hen2 : e = n := by omega
          have hez : ¬ (e : Int) < (n : Int) := by omega
          have W2 := WR e (by omega) (by omega)
          have WW2 := Lib.hid W2
          have HN2 : Hid (d ++ [(k, e, wid font (seg L k e))] = linesS font R L) := Lib.hid (by unfold linesS; rw [HN.out, ← hen2]; exact (linesAt_pos font R L HE.out (by omega)).symm)
          obtain ⟨v2, hv2⟩ : ∃ v2, wid font (seg L k e) = v2 := ⟨_, rfl⟩
          rw [hv2] at HN2 WW2
          have hrow : ∀ q, u8.ownBlock = some q → w1.heap.size ≤ q := fun q hq => (World.ownsRow.lt HO.out q hq).1
          have hen3 : e ≤ n ∧ n ≤ e := by omega
          clear hv2 W2 hen2
          go_wp2_with fail
          refine WW2.out.mono ?_
          rintro e9 w9 ⟨rfl, rfl⟩
          go_wp2_with (at_builtin; refine wpList_append_own _ rfl _ _ 34 rfl w1.heap.size 38 i0 (.agg #[.int .i64 0, .int .i64 0, .int .i64 0]) 3 24 Try.underlying34 hi hz0 hz1 hz2 rfl (by decide) _ _ _ rfl (HO.out.alloc _) ⟨wr.heap.size, 0, none⟩ 1 1 [.int .i64 (k : Int), .int .i64 (e : Int), .int .i64 v2] rfl rfl (line_news _ _ _ _ _) (by simp [Value.oneCell']) (by unfold maxLen; omega) (by omega) (by have := HB.out.size; simp; omega) ?_; intro v' w8 hown' hgrow _; have HO8 : Hid (w8.ownsRow w1.heap.size 38 3 v' (d ++ [((k, e, v2) : Ln)]).length (lcs (d ++ [((k, e, v2) : Ln)]))) := Lib.hid (by rw [lcs_snoc, List.length_append, List.length_singleton]; exact hown'); have HB8 : Hid (Below w1.heap.size w1 w8) := Lib.hid ((HB.out.alloc HB.out.size _).trans (below_grownW hgrow hrow (by have := HB.out.size; simp; omega))); clear hown' hgrow hrow)
          go_roundw
          case rel => exact ⟨e, d ++ [((k, e, v2) : Ln)], rfl, by omega, by rw [List.length_append, List.length_singleton]; omega, Lib.hid ⟨fun h => by omega, fun _ => HN2.out⟩, HB8, HO8⟩
          case measure => simp [intOf]; omega
    · have hke : k = n := by omega
      have hltz : ¬ (k : Int) < (n : Int) := by omega
      have HF : Hid (wr.ownsRow w1.heap.size 38 3 u8 (linesS font R L).length (lcs (linesS font R L))) := Lib.hid (by rw [← HBR.out.2 hke]; exact HO.out)
      clear HO
      go_wp2_with fail
      go_ret
      exact ⟨_, rfl, ownsRow_baseW HF.out (by have := HB1.out.size; omega), HB1.out.trans (HB.out.mono HB1.out.size)⟩
end Go.Proofs.Ytekmgpbolbkiaaa
