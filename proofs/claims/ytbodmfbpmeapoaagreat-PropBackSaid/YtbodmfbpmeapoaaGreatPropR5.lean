/- Layer 10, the other text: what a property takes. -/
import Derived.Test.YtbodmfbpmeapoaaGreatPropRb
import Derived.Test.YtbodmfbpmeapoaaGreatValTk
namespace Go.Proofs.YtbodmfbpmeapoaaGreat
open Go.RowKit TreN LexP FixP SynP ValP PropP FixM
set_option linter.unusedVariables false

set_option maxRecDepth 100000 in
theorem Global10_ex (k n d : Int) (nm : List UInt8) (w : World) : Calls Tryz.prog 33 #[.agg #[.int .i64 k, .int .i64 n, .int .i64 d, .string ⟨nm.toArray⟩]] w fun e w' => e = .returned (.bool (genB ⟨k, n, d, nm⟩)) ∧ w' = w.alloc (.cells #[.int .i64 k, .int .i64 n, .int .i64 d, .string ⟨nm.toArray⟩] 23) := by
  obtain ⟨R, hR⟩ : ∃ R, genB ⟨k, n, d, nm⟩ = R := ⟨_, rfl⟩
  rw [hR]
  have hR : decide (k = 1 ∧ 28 ≤ n) = R := hR
  by_cases h : k = 1
  · subst h
    have HF : Hid (decide (28 ≤ n) = R) := Lib.hid (by rw [← hR]; simp)
    clear hR
    go_enter Tryz.func33, Tryz.ntmps33
    go_wp2_with fail
    go_ret
    exact ⟨ret_bool HF.out, rfl⟩
  · have z2 : (k == 1) = false := by rw [beq_eq_false_iff_ne]; exact h
    have HF : Hid (false = R) := Lib.hid (by rw [← hR, decide_eq_false (fun c => h c.1)])
    clear h hR
    go_enter Tryz.func33, Tryz.ntmps33
    go_wp2_with fail
    go_ret
    exact ⟨ret_bool HF.out, rfl⟩

theorem oth_le : ∀ p : Nat, othP p ≤ 7 := by
  intro p
  unfold othP
  split <;> decide
theorem rv_kind {v : Val} (h : rightV v = true) : v.kind = 1 ∨ v.kind = 2 ∨ v.kind = 3 ∨ v.kind = 4 ∨ v.kind = 5 ∨ v.kind = 6 := by
  obtain ⟨k, n, d, nm⟩ := v
  by_cases h1 : k = 1; · exact Or.inl h1
  by_cases h2 : k = 2; · exact Or.inr (Or.inl h2)
  by_cases h3 : k = 3; · exact Or.inr (Or.inr (Or.inl h3))
  by_cases h4 : k = 4; · exact Or.inr (Or.inr (Or.inr (Or.inl h4)))
  by_cases h5 : k = 5; · exact Or.inr (Or.inr (Or.inr (Or.inr (Or.inl h5))))
  by_cases h6 : k = 6; · exact Or.inr (Or.inr (Or.inr (Or.inr (Or.inr h6))))
  rw [rvo n d nm h1 h2 h3 h4 h5 h6] at h; cases h
theorem othB_0 (v : Val) : othB 0 v = false := rfl

/-- of no word: what else a property takes -/
theorem takes_oth (p : Nat) (o : Nat) (k n d : Int) (nm : List UInt8) (hk : k = 2 ∨ k = 3 ∨ k = 4 ∨ k = 5 ∨ k = 6) : ownB p ⟨k, n, d, nm⟩ = othB (othP p) ⟨k, n, d, nm⟩ ∧ genB ⟨k, n, d, nm⟩ = false := by
  have hne : ¬ k = 1 := by omega
  exact ⟨by unfold ownB; rw [if_neg hne], by unfold genB; rw [decide_eq_false]; intro c; exact hne c.1⟩

theorem wrds_le : ∀ p : Nat, (wrdsP p).length ≤ 10000 := by
  intro p
  unfold wrdsP
  split <;> decide
/-- a word's text lies in the list of words -/
theorem word_at (W : World) (j : Nat) (h1 : 1 ≤ j) (h2 : j ≤ 30) : (W.alloc (.cells (txcs wL) 9)).cell? ⟨W.heap.size, j, none⟩ = some (.string ⟨(txtP wordsL (j : Int)).toArray⟩) := by
  have h := TxAt.made W wL j (by show j < 31; omega)
  rw [h]
  congr 3
  exact congrArg List.toArray (txtP_at (L := wordsL) h1 (by show j < 31; omega))
set_option maxRecDepth 100000 in
set_option maxHeartbeats 4000000 in
theorem refTakes10_word (p n d : Int) (nm : List UInt8) (w : World) (h1 : 1 ≤ p) (h2 : p ≤ 37) (hs : nm.length ≤ maxLen) (hr : rightV ⟨1, n, d, nm⟩ = true) : Calls Tryz.prog 13 #[.int .i64 p, .agg #[.int .i64 1, .int .i64 n, .int .i64 d, .string ⟨nm.toArray⟩]] w fun e w' => e = .returned (.bool (genB ⟨1, n, d, nm⟩ || ownB p.toNat ⟨1, n, d, nm⟩)) ∧ Below w.heap.size w w' := by
  have HB := Lib.hid (below_oneP w (.cells #[.int .i64 1, .int .i64 n, .int .i64 d, .string ⟨nm.toArray⟩] 23))
  have HX : Hid ((w.alloc (.cells #[.int .i64 1, .int .i64 n, .int .i64 d, .string ⟨nm.toArray⟩] 23)).heap[w.heap.size]? = some (.cells #[.int .i64 1, .int .i64 n, .int .i64 d, .string ⟨nm.toArray⟩] 23 (0, 0))) := Lib.hid (heap_alloc_new w _)
  have hn : 1 ≤ n ∧ n ≤ 30 := by
    have := hr
    rw [rv1] at this
    simp only [Bool.and_eq_true, decide_eq_true_eq] at this
    exact this.2
  obtain ⟨j, rfl⟩ : ∃ j : Nat, n = (j : Int) := ⟨n.toNat, by omega⟩
  have hj1 : 1 ≤ j := by omega
  have hj2 : j ≤ 30 := by omega
  have RR := fun W => refRight9_any 1 j d nm W hs
  rw [hr] at RR
  have RH := Lib.hid RR
  have GX := fun W => Global10_ex 1 j d nm W
  obtain ⟨R, hR⟩ : ∃ R, (genB ⟨1, j, d, nm⟩ || ownB p.toNat ⟨1, j, d, nm⟩) = R := ⟨_, rfl⟩
  rw [hR]
  have hG : genB ⟨1, j, d, nm⟩ = decide (28 ≤ (j : Int)) := by unfold genB; simp
  have hO : ownB p.toNat ⟨1, j, d, nm⟩ = decide (txtP wordsL (j : Int) ∈ wrdsP p.toNat) := by unfold ownB; rw [if_pos rfl]
  rw [hG] at GX hR
  rw [hO] at hR
  obtain ⟨CV, hCV⟩ : ∃ C, Obj.cells #[.int .i64 1, .int .i64 (j : Int), .int .i64 d, .string ⟨nm.toArray⟩] 23 = C := ⟨_, rfl⟩
  clear RR hr hn hG hO
  by_cases hg : 28 ≤ (j : Int)
  · rw [decide_eq_true hg] at GX
    rw [decide_eq_true hg, Bool.true_or] at hR
    subst hR
    rw [hCV] at GX
    have GH := Lib.hid GX
    clear GX hCV
    go_enter Tryz.func13, Tryz.ntmps13
    go_wp2_with fail
    refine (RH.out _).mono ?_
    rintro e w1 ⟨rfl, hb1⟩
    have HB1 := Lib.hid (HB.out.trans (hb1.mono HB.out.size))
    have hx1 := (hb1.block _ (blk_ltP HX.out)).trans HX.out
    have d0 := cell_of (k := 0) hx1 rfl
    have d1 := cell_of (k := 1) hx1 rfl
    have d2 := cell_of (k := 2) hx1 rfl
    have d3 := cell_of (k := 3) hx1 rfl
    have hl1 := blk_ltP hx1
    clear hb1 hx1
    go_wp2_with fail
    first
      | (go_region_with (first
          | (go_at_call 33; refine (GH.out _).mono ?_; rintro e w2 ⟨rfl, rfl⟩)))
      | fail
    all_goals
      go_wp2_with fail
      go_ret
      exact ⟨rfl, below_drewN2 (HB1.out.alloc HB1.out.size _) 1⟩
  · rw [decide_eq_false hg] at GX
    rw [decide_eq_false hg, Bool.false_or] at hR
    rw [hCV] at GX
    have GH := Lib.hid GX
    have WQ := fun W => WordsRP_any p h1 h2 W
    obtain ⟨L, hL⟩ : ∃ L, wrdsP p.toNat = L := ⟨_, rfl⟩
    rw [hL] at WQ hR
    obtain ⟨X, hX⟩ : ∃ X, txtP wordsL (j : Int) = X := ⟨_, rfl⟩
    have WA := fun W => word_at W j hj1 hj2
    rw [hX] at WA hR
    have UN := fun W => refWords_any W
    obtain ⟨C3, hC3⟩ : ∃ C, Obj.cells (txcs wL) 9 = C := ⟨_, rfl⟩
    simp only [hC3] at UN WA
    have UH := Lib.hid UN
    have WH := Lib.hid WA
    by_cases hL0 : L = []
    · have WQ2 : ∀ W, Calls Tryz.prog 35 #[.int .i64 p] W fun e w' => e = .returned (.slice none 0 0) ∧ w' = W := fun W => (WQ W).mono fun e w' h => by
        rcases h with h | h
        · exact h.2
        · exact absurd hL0 h.1
      subst hL0
      have QH := Lib.hid WQ2
      have IN := fun (W : World) => In10_none X W
      have hRf : R = false := by rw [← hR]; rfl
      rw [← hRf] at IN
      have IH := Lib.hid IN
      clear WQ2 IN WQ UN WA GX hCV hL hC3 hX hR hRf
      go_enter Tryz.func13, Tryz.ntmps13
      go_wp2_with fail
      refine (RH.out _).mono ?_
      rintro e w1 ⟨rfl, hb1⟩
      have HB1 := Lib.hid (HB.out.trans (hb1.mono HB.out.size))
      have hx1 := (hb1.block _ (blk_ltP HX.out)).trans HX.out
      have d0 := cell_of (k := 0) hx1 rfl
      have d1 := cell_of (k := 1) hx1 rfl
      have d2 := cell_of (k := 2) hx1 rfl
      have d3 := cell_of (k := 3) hx1 rfl
      have hl1 := blk_ltP hx1
      have A1 : ((w1.alloc CV).alloc C3).cell? ⟨(w1.heap.size + 1), j, none⟩ = some (.string ⟨X.toArray⟩) := by have := WH.out (w1.alloc CV); simpa using this
      have hlx1 : w.heap.size < w1.heap.size + 1 := by omega
      have hjz : (0 : Int) ≤ (j : Int) := by omega
      have hjz2 : (j : Int) < 31 := by omega
      clear hb1 hx1
      go_wp2_with fail
      go_region_with (first
          | (go_at_call 33; refine (GH.out _).mono ?_; rintro e w2 ⟨rfl, rfl⟩)
          | (go_at_call 35; refine (QH.out _).mono ?_; rintro e w2 ⟨rfl, hw2⟩; subst hw2)
          | (go_at_call 36; refine (UH.out _).mono ?_; rintro e w2 ⟨rfl, rfl⟩)
          | (go_at_call 34; refine (IH.out _).mono ?_; rintro e w2 ⟨rfl, rfl⟩))
      all_goals
        go_wp2_with fail
        go_ret
        exact ⟨rfl, below_drewN2 ((HB1.out.alloc HB1.out.size _).alloc (by simp; have := HB1.out.size; omega) _) 1⟩
    · have WQ2 : ∀ W, Calls Tryz.prog 35 #[.int .i64 p] W fun e w' => e = .returned (.slice (some ⟨W.heap.size, 0, none⟩) L.length L.length) ∧ w' = W.alloc (.cells (txcs L) 9) := fun W => (WQ W).mono fun e w' h => by
        rcases h with h | h
        · exact absurd h.1 hL0
        · exact h.2
      have hml : L.length ≤ 10000 := by rw [← hL]; exact wrds_le p.toNat
      have IN := fun (W : World) (b : Nat) (hT : TxAt W b L) => In10_any b L L.length L.length X W rfl hml hT
      have TM := fun W : World => TxAt.made W L
      rw [hR] at IN
      obtain ⟨m, hm⟩ : ∃ m, L.length = m := ⟨_, rfl⟩
      obtain ⟨C2, hC2⟩ : ∃ C, Obj.cells (txcs L) 9 = C := ⟨_, rfl⟩
      simp only [hC2, hm] at WQ2 IN TM
      have QH := Lib.hid WQ2
      have IH := Lib.hid IN
      have TH := Lib.hid TM
      clear WQ2 IN TM WQ UN WA GX hCV hL hC2 hC3 hX hL0 hml hR
      go_enter Tryz.func13, Tryz.ntmps13
      go_wp2_with fail
      refine (RH.out _).mono ?_
      rintro e w1 ⟨rfl, hb1⟩
      have HB1 := Lib.hid (HB.out.trans (hb1.mono HB.out.size))
      have hx1 := (hb1.block _ (blk_ltP HX.out)).trans HX.out
      have d0 := cell_of (k := 0) hx1 rfl
      have d1 := cell_of (k := 1) hx1 rfl
      have d2 := cell_of (k := 2) hx1 rfl
      have d3 := cell_of (k := 3) hx1 rfl
      have hl1 := blk_ltP hx1
      have A1 : (((w1.alloc CV).alloc C2).alloc C3).cell? ⟨(w1.heap.size + 1 + 1), j, none⟩ = some (.string ⟨X.toArray⟩) := by have := WH.out ((w1.alloc CV).alloc C2); simpa using this
      have A2 : TxAt (((w1.alloc CV).alloc C2).alloc C3).drew (w1.heap.size + 1) L := by
        have := TH.out (w1.alloc CV)
        have := this.below (below_oneP ((w1.alloc CV).alloc C2) C3) (by simp)
        intro i hi
        have := this i hi
        simpa using this
      have I1 := Lib.hid (IH.out _ _ A2)
      have hlx1 : w.heap.size < w1.heap.size + 1 := by omega
      have hlx2 : w.heap.size < w1.heap.size + 1 + 1 := by omega
      have hjz : (0 : Int) ≤ (j : Int) := by omega
      have hjz2 : (j : Int) < 31 := by omega
      clear hb1 hx1 A2
      go_wp2_with fail
      go_region_with (first
          | (go_at_call 33; refine (GH.out _).mono ?_; rintro e w2 ⟨rfl, rfl⟩)
          | (go_at_call 35; refine (QH.out _).mono ?_; rintro e w2 ⟨rfl, rfl⟩)
          | (go_at_call 36; refine (UH.out _).mono ?_; rintro e w2 ⟨rfl, rfl⟩)
          | (go_at_call 34; refine (I1.out).mono ?_; rintro e w2 ⟨rfl, rfl⟩))
      all_goals
        go_wp2_with fail
        go_ret
        exact ⟨rfl, below_drewN2 (((HB1.out.alloc HB1.out.size _).alloc (by simp; have := HB1.out.size; omega) _).alloc (by simp; have := HB1.out.size; omega) _) 1⟩
end Go.Proofs.YtbodmfbpmeapoaaGreat
