/- Joined texts: StlL3 StlQ. -/
import Derived.Test.YtlngipglhlhhbaaStlT
import Derived.Test.YtlngipglhlhhbaaStlVv
namespace Go.Proofs.Ytlngipglhlhhbaa
open Go.RowKit TreN LexP FixP SynP ValP PropP FixM
set_option linter.unusedVariables false

theorem has_from (L : List Val) (p : Nat) (v : Val) (h : hasS L p = some v) : v = firstZ (p : Int) ∨ (v ∈ L ∧ rightV v = true) := by
  unfold hasS hasO at h
  split at h
  · cases h
  · split at h
    · injection h with h
      exact Or.inl h.symm
    · unfold tellS at h
      split at h
      · rename_i u hu
        split at h
        · rename_i ht
          injection h with h
          subst h
          unfold takesP at ht
          simp only [Bool.and_eq_true] at ht
          exact Or.inr ⟨List.mem_of_getElem? hu, ht.2.1⟩
        · cases h
      · cases h
theorem first_vb : ∀ p : Fin 38, (firstP p.val).kind ≠ 5 ∧ (firstP p.val).name = [] ∧ ((firstP p.val).kind = 2 → (firstP p.val).d = 1) := by decide
theorem firstZ_is (p : Nat) (h1 : 1 ≤ p) (h2 : p ≤ 37) : firstZ (p : Int) = firstP p := by
  unfold firstZ
  rw [if_pos (by omega)]
  rfl
theorem has_vb (L : List Val) (hn : ∀ v, v ∈ L → v.name.length ≤ maxLen) (p : Nat) (v : Val) (h1 : 1 ≤ p) (h2 : p ≤ 37) (h : hasS L p = some v) : Vb17 v := by
  have hb := has_bd L p v h1 h2 h
  rcases has_from L p v h with rfl | ⟨hm, hr⟩
  · have hf := first_vb ⟨p, by omega⟩
    simp only at hf
    rw [firstZ_is p h1 h2] at hb ⊢
    exact ⟨hb.1, hb.2, fun e => absurd e hf.1, by rw [hf.2.1]; exact Nat.zero_le _⟩
  · refine ⟨hb.1, hb.2, fun e => ?_, hn v hm⟩
    unfold rightV at hr
    rw [e] at hr
    simp only [show ¬ (5 : Int) = 1 by decide, show ¬ (5 : Int) = 2 by decide, show ¬ ((5 : Int) = 3 ∨ (5 : Int) = 4) by decide, if_true, if_false] at hr
    have := of_decide_eq_true hr
    omega
/-- is a value a length by the bases? -/
def byB (v : Val) (em : Bool) : Bool := decide (v.kind = 2) && (decide (3 ≤ v.d) || (em && decide (v.d = 2)))
theorem ms_same (v : Val) (h : byB v false = false) (f a b c d : Int) : msS v f a b = msS v f c d := by
  unfold byB at h
  unfold msS measS
  by_cases hk : v.kind = 2
  · have hd : ¬ 3 ≤ v.d := by
      intro q
      simp [hk, q] at h
    have hk' : ¬ (v.kind ≠ 2) := fun q => q hk
    rw [if_neg hk', if_neg hk']
    by_cases d1 : v.d = 1
    · rw [if_pos d1, if_pos d1]
    · rw [if_neg d1, if_neg d1]
      by_cases d2 : v.d = 2
      · rw [if_pos d2, if_pos d2]
      · rw [if_neg d2, if_neg d2, if_neg (by omega), if_neg (by omega), if_neg (by omega), if_neg (by omega), if_neg (by omega), if_neg (by omega), if_neg (by omega), if_neg (by omega)]
  · rw [if_pos hk, if_pos hk]
theorem out_same (p : Nat) (v : Val) (em a b c d : Int) (j : Nat) (h : ∀ f, msS v f a b = msS v f c d) : outC p v em a b j = outC p v em c d j := by
  have h2 : upS v em a b = upS v em c d := by unfold upS; rw [h em]
  unfold outC
  rw [h2, h em]
theorem bases_same (As : List Value) (L : List Val) (f a b c d : Int) (h : ∀ v, v ∈ L → byB v false = false) : cells17 As (hasS L) f a b = cells17 As (hasS L) f c d := by
  have hv : ∀ p v, 1 ≤ p → p ≤ 37 → hasS L p = some v → ∀ f, msS v f a b = msS v f c d := fun p v h1 h2 hp f => by
    refine ms_same v ?_ f a b c d
    rcases has_from L p v hp with rfl | ⟨hm, _⟩
    · have hf := first_vb ⟨p, by omega⟩
      simp only at hf
      rw [firstZ_is p h1 h2]
      unfold byB
      by_cases hk : (firstP p).kind = 2
      · rw [hf.2.2 hk]; simp
      · simp [hk]
    · exact h v hm
  have hem : emS (hasS L 36) f a b = emS (hasS L 36) f c d := by
    cases hp : hasS L 36 with
    | none => rfl
    | some v =>
      show fontS v f a b = fontS v f c d
      unfold fontS upS
      rw [hv 36 v (by decide) (by decide) hp f]
  unfold cells17
  rw [hem]
  refine List.map_congr_left (fun i hi => ?_)
  have hb := cells_pof ⟨i, List.mem_range.1 hi⟩
  simp only at hb
  unfold stS
  split
  · rfl
  · split
    · cases hp : hasS L (pofC i) with
      | none => rfl
      | some v => exact out_same _ v _ a b c d _ (hv _ v hb.2.2.1 hb.2.2.2 hp)
    · rfl
set_option maxRecDepth 100000 in
set_option maxHeartbeats 1000000 in
theorem by17_any (v : Val) (em : Bool) (w : World) : Calls Try.prog 11 #[vlV v, .bool em] w fun e w' => e = .returned (.bool (byB v em)) ∧ Below w.heap.size w w' := by
  have HB := Lib.hid (below_one7h w (.cells (vlB v) 34))
  unfold vlV vlB at *
  obtain ⟨k, n, d, nm⟩ := v
  unfold byB
  simp only at HB ⊢
  by_cases hk : k = 2
  · subst hk
    by_cases hd : 3 ≤ d
    · rw [decide_eq_true hd, decide_eq_true rfl, Bool.true_or, Bool.and_true]
      go_enter Try.func11, Try.ntmps11
      go_wp2_with fail
      go_ret
      exact ⟨rfl, HB.out⟩
    · rw [decide_eq_false hd, decide_eq_true rfl, Bool.false_or, Bool.true_and]
      have hd' : d < 3 := by omega
      cases em
      · rw [Bool.false_and]
        go_enter Try.func11, Try.ntmps11
        go_wp2_with fail
        go_ret
        exact ⟨rfl, HB.out⟩
      · rw [Bool.true_and]
        by_cases h2 : d = 2
        · subst h2
          rw [decide_eq_true rfl]
          go_enter Try.func11, Try.ntmps11
          go_wp2_with fail
          go_ret
          exact ⟨rfl, HB.out⟩
        · rw [decide_eq_false h2]
          have hz : (d == 2) = false := by rw [beq_eq_false_iff_ne]; exact h2
          go_enter Try.func11, Try.ntmps11
          go_wp2_with fail
          go_ret
          exact ⟨rfl, HB.out⟩
  · rw [decide_eq_false hk, Bool.false_and]
    have hz : (k == 2) = false := by rw [beq_eq_false_iff_ne]; exact hk
    go_enter Try.func11, Try.ntmps11
    go_wp2_with fail
    go_ret
    exact ⟨rfl, HB.out⟩

set_option maxRecDepth 100000 in
set_option maxHeartbeats 4000000 in
theorem StyleBases_walk (ta : Option Addr) (tn tc : Nat) (L : List Val) (z : Nat → Int) (bb : Bool) (nm : ByteArray) (a b c d : Int) (w : World) (hT : Td w ta tn L) (hm : tn ≤ maxLen) (hz : ∀ i, WfI (z i)) (hn : nm.size ≤ maxLen) :
    Calls Try.prog 5 #[.slice ta tn tc, .agg (tyL z bb nm).toArray, .int .i64 a, .int .i64 b, .int .i64 c, .int .i64 d] w fun e w' => e = .returned (.bool true) ∧ Below w.heap.size w w' := by
  have hty := Lib.hid (typed17 z bb nm hz hn (hasS L) (fun p v h1 h2 h => has_vb L hT.nm p v h1 h2 h) a b)
  have hone := tyL_one z bb nm
  have hgu := fun (x y : Operand) (A B : Array Value) (W : World) => guard17 x y A B W
  have h53 : (tyL z bb nm).getD 53 undef = .int .i64 (z 53) := rfl
  have hal : (tyL z bb nm).length = 55 := rfl
  generalize tyL z bb nm = As at *
  obtain ⟨f, hf⟩ : ∃ f, z 53 = f := ⟨_, rfl⟩
  rw [hf] at hty h53
  have CC := Lib.hid (fun (x y : Int) W (hT : Td W ta tn L) => compute17_any ta tn tc L As f x y W hal hone h53 hT)
  have hr0 := range_of_block (heap_alloc_new w (.cells As.toArray 27))
  have hb0 := below_one7h w (.cells As.toArray 27)
  have hmz : (tn : Int) ≤ 9223372036854775807 := by unfold maxLen at hm; omega
  have HT := Lib.hid hT
  have KN := Lib.hid (fun W => known17_any W)
  have BY := Lib.hid (fun v W => by17_any v false W)
  clear hT hz hn hone h53 hm
  go_enter Try.func5, Try.ntmps5
  go_upto_region 1 with fail
  generalize w.alloc (.cells As.toArray 27) = W1 at *
  obtain ⟨bp, hbp⟩ : ∃ bp, w.heap.size = bp := ⟨_, rfl⟩
  rw [hbp] at hr0 hb0 ⊢
  have HR := Lib.hid hr0
  have HB := Lib.hid hb0
  clear hr0 hb0
  go_wp2_with fail
  go_loopw [13] (fun vi wr => ∃ k : Nat, vi = .int .i64 k ∧ k ≤ tn ∧ Hid (∀ v, v ∈ L.take k → byB v false = false) ∧ Hid (Below bp w wr) ∧ Hid (wr.rangeAt bp 0 As)) (fun vi _ => tn - (intOf vi).toNat)
  case atStart => exact ⟨0, rfl, by omega, fun v hv => by simp at hv, HB, HR⟩
  case round =>
    clear HB HR
    obtain ⟨k, rfl, hk, HN, HB, HR⟩ := hrel
    have HTr := Lib.hid (HT.out.below (hbp ▸ HB.out))
    have n1 : bp < wr.heap.size := World.block_lt_of_cell? wr ⟨bp, 0 + 0, none⟩ (HR.out 0 As[0] (List.getElem?_eq_getElem (by omega)))
    by_cases hlt : k < tn
    · have hltz : (k : Int) < (tn : Int) := by omega
      obtain ⟨b2, o2, v, ha2, hb2, hv, _, c0, c1, c2, c3⟩ := HTr.out.at_ k hlt
      subst ha2
      have hlen := HTr.out.len
      obtain ⟨q, hq⟩ : ∃ q, byB v false = q := ⟨_, rfl⟩
      have BV := BY.out v
      rw [hq] at BV
      unfold vlV at BV
      have HBV := Lib.hid BV
      cases q
      · have HN2 : Hid (∀ u, u ∈ L.take (k + 1) → byB u false = false) := fun u hu => by
          rw [List.take_add_one, hv] at hu
          rcases List.mem_append.1 hu with h | h
          · exact HN.out u h
          · simp at h
            rw [h]; exact hq
        clear hq hv BV HTr
        go_wp2_with fail
        refine (HBV.out _).mono ?_
        rintro e w3 ⟨rfl, hb3⟩
        have HB3 := Lib.hid (HB.out.trans (hb3.mono (Nat.le_of_lt n1)))
        have HR3 := Lib.hid (range_below17 HR.out hb3 n1)
        clear hb3 c0 c1 c2 c3 HB HR n1
        go_wp2_with fail
        go_roundw
        case rel => exact ⟨k + 1, by go_num, by omega, HN2, HB3, HR3⟩
        case measure => (simp [intOf] <;> omega)
      · clear hq hv BV HTr
        go_wp2_with fail
        refine (HBV.out _).mono ?_
        rintro e w3 ⟨rfl, hb3⟩
        have HB3 := Lib.hid (HB.out.trans (hb3.mono (Nat.le_of_lt n1)))
        clear hb3 c0 c1 c2 c3 HB HR n1
        go_wp2_with fail
        refine (KN.out _).mono ?_
        rintro e w4 ⟨rfl, hb4⟩
        have HB4 := Lib.hid (HB3.out.trans (hb4.mono (hbp ▸ HB3.out.size)))
        clear hb4
        go_wp2_with fail
        go_ret
        exact ⟨rfl, hbp ▸ HB4.out⟩
    · have hkn : k = tn := by omega
      subst hkn
      have hall : ∀ v, v ∈ L → byB v false = false := fun v hv => HN.out v (by rw [List.take_of_length_le (by rw [HTr.out.len]; exact Nat.le_refl _)]; exact hv)
      have hsame := bases_same As L f a b c d hall
      obtain ⟨z', b', nm', hcs, hz', hn'⟩ := hty.out
      have heq := fun W => eql17 z' b' nm' hz' hn' W
      rw [← hcs] at heq
      obtain ⟨Cs, hCs⟩ : ∃ Cs, cells17 As (hasS L) f a b = Cs := ⟨_, rfl⟩
      have C1 := fun W (hT : Td W ta k L) => CC.out a b W hT
      have C2 := fun W (hT : Td W ta k L) => CC.out c d W hT
      rw [← hsame] at C2
      rw [hCs] at C1 C2 heq
      have r1 : wr.drew.rangeAt bp 0 As := HR.out
      have n1' : bp < wr.drew.heap.size := n1
      have HBQ : Hid (Below bp w wr.drew) := HB.out.drew
      have CC1 := Lib.hid (C1 wr.drew (HT.out.below (hbp ▸ HBQ.out)))
      have HC2 := Lib.hid C2
      clear HB HR C1 C2 CC hall hsame hcs hz' hn' hCs HN n1 HTr BY
      go_upto_region 6 with fail
      refine wp_region_held_drew (S := fun w' => w'.rangeAt bp 0 As) (by kernel_rfl) r1 (fun hH => ?_)
      refine wpAnyH_take (i := 0) (v := .slice ta k tc) rfl (by kernel_rfl) (by kernel_rfl) (by kernel_rfl) (fun _ _ _ h => h) (Or.inl ⟨by rfl, fun w _ => rfl⟩) hH ?_
      simp only [Act.put]
      refine wpAnyH_take (i := 1) (v := .agg As.toArray) rfl (by kernel_rfl) (by kernel_rfl) (by kernel_rfl) (fun _ _ _ h => h) (yieldsIf_load_mid (by rfl) _ _ rfl bp 0 rfl As _ (fun w h => h) Try.underlying27 rfl (by rw [size17, hal])) hH ?_
      simp only [Act.put]
      refine wpAnyH_take (i := 2) (v := .int .i64 a) rfl (by kernel_rfl) (by kernel_rfl) (by kernel_rfl) (fun _ _ _ h => h) (Or.inl ⟨by rfl, fun w _ => rfl⟩) hH ?_
      simp only [Act.put]
      refine wpAnyH_take (i := 3) (v := .int .i64 b) rfl (by kernel_rfl) (by kernel_rfl) (by kernel_rfl) (fun _ _ _ h => h) (Or.inl ⟨by rfl, fun w _ => rfl⟩) hH ?_
      simp only [Act.put]
      refine wpAnyH_take (i := 5) (v := .slice ta k tc) rfl (by kernel_rfl) (by kernel_rfl) (by kernel_rfl) (fun _ _ _ h => h) (Or.inl ⟨by rfl, fun w _ => rfl⟩) hH ?_
      simp only [Act.put]
      refine wpAnyH_take (i := 6) (v := .agg As.toArray) rfl (by kernel_rfl) (by kernel_rfl) (by kernel_rfl) (fun _ _ _ h => h) (yieldsIf_load_mid (by rfl) _ _ rfl bp 0 rfl As _ (fun w h => h) Try.underlying27 rfl (by rw [size17, hal])) hH ?_
      simp only [Act.put]
      refine wpAnyH_take (i := 7) (v := .int .i64 c) rfl (by kernel_rfl) (by kernel_rfl) (by kernel_rfl) (fun _ _ _ h => h) (Or.inl ⟨by rfl, fun w _ => rfl⟩) hH ?_
      simp only [Act.put]
      refine wpAnyH_take (i := 8) (v := .int .i64 d) rfl (by kernel_rfl) (by kernel_rfl) (by kernel_rfl) (fun _ _ _ h => h) (Or.inl ⟨by rfl, fun w _ => rfl⟩) hH ?_
      simp only [Act.put]
      refine wpAnyH_ready (rs := [4]) (by kernel_rfl) (by simp) ?_
      refine AllReadyH.cons rfl (fun K hK => ?_) AllReadyH.nil
      go_simp
      refine CC1.out.mono ?_
      rintro e w6 ⟨rfl, hb6⟩
      have r3 := range_below17 r1 hb6 n1'
      have HB6 := Lib.hid (HBQ.out.trans (hb6.mono (Nat.le_of_lt n1')))
      have n3 := Nat.lt_of_lt_of_le n1' hb6.size
      have CC2 := Lib.hid (HC2.out w6 (HT.out.below (hbp ▸ HB6.out)))
      clear hb6 CC1
      dsimp only
      refine hK.out _ _ r3 (fun hH2 => ?_)
      clear hK K
      refine wpAnyH_ready (rs := [9]) (by kernel_rfl) (by simp) ?_
      refine AllReadyH.cons rfl (fun K hK => ?_) AllReadyH.nil
      go_simp
      refine CC2.out.mono ?_
      rintro e w7 ⟨rfl, hb7⟩
      have r4 := range_below17 r3 hb7 n3
      have HB7 := Lib.hid (HB6.out.trans (hb7.mono (Nat.le_of_lt n3)))
      have n4 := Nat.lt_of_lt_of_le n3 hb7.size
      clear hb7 CC2
      dsimp only
      refine hK.out _ _ r4 (fun hH3 => ?_)
      clear hK K
      refine wpAnyH_ready (rs := [10]) (by kernel_rfl) (by simp) ?_
      refine AllReadyH.cons rfl (fun K hK => ?_) AllReadyH.nil
      go_simp
      refine hK.out _ _ r4 (fun hI10 => ?_)
      clear hK K
      refine wpAnyH_ready (rs := [11]) (by kernel_rfl) (by simp) ?_
      refine AllReadyH.cons rfl (fun K hK => ?_) AllReadyH.nil
      go_simp
      refine hK.out _ _ r4 (fun hI11 => ?_)
      clear hK K
      refine wpAnyH_ready (rs := [12]) (by kernel_rfl) (by simp) ?_
      refine AllReadyH.cons rfl (fun K hK => ?_) AllReadyH.nil
      go_simp
      refine (KN.out _).mono ?_
      rintro e w8 ⟨rfl, hb8⟩
      have r5 := range_below17 r4 hb8 n4
      have HB8 := Lib.hid (HB7.out.trans (hb8.mono (Nat.le_of_lt n4)))
      clear hb8
      dsimp only
      refine hK.out _ _ r5 (fun hH4 => ?_)
      clear hK K
      refine wpAnyH_ready (rs := [13]) (by kernel_rfl) (by simp) ?_
      refine AllReadyH.cons rfl (fun K hK => ?_) AllReadyH.nil
      go_simp
      refine hK.out _ _ r5 (fun hI13 => ?_)
      clear hK K
      refine wpAnyH_ready (rs := [14]) (by kernel_rfl) (by simp) ?_
      refine AllReadyH.cons rfl (fun K hK => ?_) AllReadyH.nil
      go_simp
      refine hK.out _ _ r5 (fun hI14 => ?_)
      clear hK K
      refine wpAnyH_done (by kernel_rfl) ?_ _
      go_wp2_with fail
      go_ret
      exact ⟨rfl, hbp ▸ HB8.out⟩
end Go.Proofs.Ytlngipglhlhhbaa

namespace Go.Proofs.Ytlngipglhlhhbaa
open Go.RowKit TreN LexP FixP SynP ValP PropP FixM
set_option linter.unusedVariables false

/-- a word's value -/
def wdV (n : Int) : Val := ⟨1, n, 0, []⟩
theorem wd_uns : wordS (wdV 30) = unsT := by kernel_rfl
theorem wd_inh : wordS (wdV 28) = inhT := by kernel_rfl
theorem wd_ini : wordS (wdV 29) = iniT := by kernel_rfl
theorem wd_zero : wordS zeroV = [] := by kernel_rfl
theorem uns_none : unsB none = true := rfl
theorem hasW_uns (p : Nat) : hasO (some (wdV 30)) p = hasO none p := by
  have u1 : unsB (some (wdV 30)) = true := by kernel_rfl
  have e1 : ¬ (wordS (wdV 30) = inhT) := by rw [wd_uns]; decide
  have e2 : ¬ (wordS zeroV = inhT) := by rw [wd_zero]; decide
  unfold hasO
  simp only [Option.getD_some, Option.getD_none]
  by_cases h : p = 36 ∨ p = 37
  · rw [if_pos (Or.inr ⟨u1, h⟩), if_pos (Or.inr ⟨uns_none, h⟩)]
  · rw [if_neg (fun q => q.elim e1 (fun q => h q.2)), if_pos (Or.inr u1), if_neg (fun q => q.elim e2 (fun q => h q.2)), if_pos (Or.inr uns_none)]
theorem hasW_inh (p : Nat) (h : p = 36 ∨ p = 37) : hasO (some (wdV 28)) p = hasO none p := by
  unfold hasO
  rw [if_pos (Or.inl (by rw [Option.getD_some, wd_inh])), if_pos (Or.inr ⟨rfl, h⟩)]
theorem hasW_ini (p : Nat) (h : ¬ (p = 36 ∨ p = 37)) : hasO (some (wdV 29)) p = hasO none p := by
  have e1 : ¬ (wordS (wdV 29) = inhT) := by rw [wd_ini]; decide
  have e2 : ¬ (wordS zeroV = inhT) := by rw [wd_zero]; decide
  unfold hasO
  simp only [Option.getD_some, Option.getD_none]
  rw [if_neg (fun q => q.elim e1 (fun q => h q.2)), if_pos (Or.inl wd_ini), if_neg (fun q => q.elim e2 (fun q => h q.2)), if_pos (Or.inr uns_none)]
theorem tell_set (L : List Val) (p q : Nat) (v : Val) (hp : 1 ≤ p) (hl : p ≤ L.length) (hq : 1 ≤ q) : tellS (L.set (p - 1) v) q = if q = p then (if takesP p v = true then some v else none) else tellS L q := by
  unfold tellS
  rw [List.getElem?_set]
  by_cases h : q = p
  · subst h
    rw [if_pos rfl, if_pos (by omega), if_pos rfl]
  · rw [if_neg (by omega), if_neg h]
theorem has_set (L : List Val) (p q : Nat) (v : Val) (hp : 1 ≤ p) (hl : p ≤ L.length) (hq : 1 ≤ q) : hasS (L.set (p - 1) v) q = if q = p then hasO (if takesP p v = true then some v else none) p else hasS L q := by
  unfold hasS
  rw [tell_set L p q v hp hl hq]
  by_cases h : q = p
  · subst h; rw [if_pos rfl, if_pos rfl]
  · rw [if_neg h, if_neg h]
/-- of the maker the properties alone count -/
theorem cells_congr (As : List Value) (G G' : Nat → Option Val) (f a b : Int) (h : ∀ q, 1 ≤ q → q ≤ 37 → G q = G' q) : cells17 As G f a b = cells17 As G' f a b := by
  have hem : emS (G 36) f a b = emS (G' 36) f a b := by rw [h 36 (by decide) (by decide)]
  unfold cells17
  rw [hem]
  refine List.map_congr_left (fun i hi => ?_)
  have hb := cells_pof ⟨i, List.mem_range.1 hi⟩
  simp only at hb
  unfold stS
  split
  · rfl
  · rw [h _ hb.2.2.1 hb.2.2.2]
theorem takes_zero (p : Int) : takesP p zeroV = false := by
  have h : rightV zeroV = false := by kernel_rfl
  unfold takesP
  rw [h, Bool.false_and, Bool.and_false]
/-- what is told as nothing, as unset, and as what a property has when nothing is told of it, is one -/
theorem words_unset (As : List Value) (L : List Val) (p : Nat) (f a b : Int) (hp : 1 ≤ p) (hl : p ≤ L.length) : cells17 As (hasS (L.set (p - 1) zeroV)) f a b = cells17 As (hasS (L.set (p - 1) (wdV 30))) f a b := by
  refine cells_congr As _ _ f a b (fun q h1 h2 => ?_)
  rw [has_set L p q _ hp hl h1, has_set L p q _ hp hl h1]
  by_cases h : q = p
  · subst h
    rw [if_pos rfl, if_pos rfl, takes_zero]
    simp only [Bool.false_eq_true, if_false]
    split
    · rw [hasW_uns]
    · rfl
  · rw [if_neg h, if_neg h]
theorem words_inh (As : List Value) (L : List Val) (p : Nat) (f a b : Int) (hp : p = 36 ∨ p = 37) (hl : p ≤ L.length) : cells17 As (hasS (L.set (p - 1) zeroV)) f a b = cells17 As (hasS (L.set (p - 1) (wdV 28))) f a b := by
  refine cells_congr As _ _ f a b (fun q h1 h2 => ?_)
  rw [has_set L p q _ (by omega) hl h1, has_set L p q _ (by omega) hl h1]
  by_cases h : q = p
  · subst h
    rw [if_pos rfl, if_pos rfl, takes_zero]
    simp only [Bool.false_eq_true, if_false]
    split
    · rw [hasW_inh _ hp]
    · rfl
  · rw [if_neg h, if_neg h]
theorem words_ini (As : List Value) (L : List Val) (p : Nat) (f a b : Int) (h1' : 1 ≤ p) (hp : p < 36) (hl : p ≤ L.length) : cells17 As (hasS (L.set (p - 1) zeroV)) f a b = cells17 As (hasS (L.set (p - 1) (wdV 29))) f a b := by
  refine cells_congr As _ _ f a b (fun q h1 h2 => ?_)
  rw [has_set L p q _ h1' hl h1, has_set L p q _ h1' hl h1]
  by_cases h : q = p
  · subst h
    rw [if_pos rfl, if_pos rfl, takes_zero]
    simp only [Bool.false_eq_true, if_false]
    split
    · rw [hasW_ini _ (by omega)]
    · rfl
  · rw [if_neg h, if_neg h]
/-- a value that isn't told by the bases, nor by the em, measures the same by any em -/
theorem ms_em (v : Val) (f g a b : Int) (h : v.kind = 2 → v.d = 1) : msS v f a b = msS v g a b := by
  unfold msS measS
  by_cases hk : v.kind = 2
  · have hk' : ¬ (v.kind ≠ 2) := fun q => q hk
    rw [if_neg hk', if_neg hk', if_pos (h hk), if_pos (h hk)]
  · rw [if_pos hk, if_pos hk]
theorem out_em (p : Nat) (v : Val) (e g a b : Int) (j : Nat) (h : v.kind = 2 → v.d = 1) : outC p v e a b j = outC p v g a b j := by
  have h1 := ms_em v e g a b h
  have h2 : upS v e a b = upS v g a b := by unfold upS; rw [h1]
  unfold outC
  rw [h2, h1]
theorem cells17_get (As : List Value) (G : Nat → Option Val) (f a b : Int) (i : Nat) (hi : i < (cells17 As G f a b).length) : (cells17 As G f a b)[i] = stS (fun i => As.getD i undef) G (emS (G 36) f a b) a b 37 i := by
  unfold cells17
  simp
theorem cells17_getD (As : List Value) (G : Nat → Option Val) (f a b : Int) (i : Nat) (hi : i < 55) : (cells17 As G f a b).getD i undef = stS (fun i => As.getD i undef) G (emS (G 36) f a b) a b 37 i := by
  rw [List.getD_eq_getElem?_getD, List.getElem?_eq_getElem (by rw [cells17_len]; exact hi), cells17_get]
  rfl
theorem pof_3 : ∀ i : Fin 55, pofC i.val = 3 → i.val = 2 ∨ i.val = 3 := by decide
theorem pof_36 : ∀ i : Fin 55, pofC i.val = 36 → i.val = 53 := by decide
theorem pof_37 : ∀ i : Fin 55, pofC i.val = 37 → i.val = 54 := by decide
/-- what is told of the width alone changes the width alone -/
theorem apart_w (As : List Value) (L : List Val) (v : Val) (f a b : Int) (hl : 37 ≤ L.length) :
    ((cells17 As (hasS (L.set 2 v)) f a b).set 2 ((cells17 As (hasS L) f a b).getD 2 undef)).set 3 ((cells17 As (hasS L) f a b).getD 3 undef) = cells17 As (hasS L) f a b := by
  have hs : ∀ q, 1 ≤ q → q ≠ 3 → hasS (L.set 2 v) q = hasS L q := fun q h1 h3 => by
    have := has_set L 3 q v (by decide) (by omega) h1
    rw [if_neg h3] at this
    exact this
  refine List.ext_getElem (by simp [cells17_len]) (fun i h1 h2 => ?_)
  have hi : i < 55 := by rw [cells17_len] at h2; exact h2
  rw [List.getElem_set]
  by_cases c3 : 3 = i
  · subst c3
    rw [if_pos rfl, cells17_getD _ _ _ _ _ _ (by decide), cells17_get]
  · rw [if_neg c3, List.getElem_set]
    by_cases c2 : 2 = i
    · subst c2
      rw [if_pos rfl, cells17_getD _ _ _ _ _ _ (by decide), cells17_get]
    · rw [if_neg c2, cells17_get, cells17_get, hs 36 (by decide) (by decide)]
      have hb := cells_pof ⟨i, hi⟩
      simp only at hb
      have h3 : pofC i ≠ 3 := fun q => by
        rcases pof_3 ⟨i, hi⟩ q with h | h
        · exact c2 h.symm
        · exact c3 h.symm
      unfold stS
      rw [hs _ hb.2.2.1 h3]
theorem by_true (v : Val) (h : byB v true = false) (hk : v.kind = 2) (h1 : 1 ≤ v.d) : v.d = 1 := by
  unfold byB at h
  rw [decide_eq_true hk, Bool.true_and, Bool.true_and, Bool.or_eq_false_iff] at h
  have a := of_decide_eq_false h.1
  have b := of_decide_eq_false h.2
  omega
theorem right_d (v : Val) (h : rightV v = true) (hk : v.kind = 2) : 1 ≤ v.d := by
  unfold rightV at h
  rw [hk] at h
  rw [if_neg (by decide), if_pos rfl] at h
  exact (of_decide_eq_true h).2.1
theorem has_at (L : List Val) (p : Nat) (v : Val) (h : hasS L p = some v) : v = firstZ (p : Int) ∨ (L[p - 1]? = some v ∧ rightV v = true) := by
  unfold hasS hasO at h
  split at h
  · cases h
  · split at h
    · injection h with h
      exact Or.inl h.symm
    · unfold tellS at h
      split at h
      · rename_i u hu
        split at h
        · rename_i ht
          injection h with h
          subst h
          unfold takesP at ht
          simp only [Bool.and_eq_true] at ht
          exact Or.inr ⟨hu, ht.2.1⟩
        · cases h
      · cases h
/-- what is told of the font alone changes the font alone, where nothing is by it -/
theorem apart_font (As : List Value) (L : List Val) (v : Val) (f a b : Int) (hl : 37 ≤ L.length) (hn : ∀ i u, i < 35 → L[i]? = some u → byB u true = false) :
    (cells17 As (hasS (L.set 35 v)) f a b).set 53 ((cells17 As (hasS L) f a b).getD 53 undef) = cells17 As (hasS L) f a b := by
  have hs : ∀ q, 1 ≤ q → q ≠ 36 → hasS (L.set 35 v) q = hasS L q := fun q h1 h3 => by
    have := has_set L 36 q v (by decide) (by omega) h1
    rw [if_neg h3] at this
    exact this
  refine List.ext_getElem (by simp [cells17_len]) (fun i h1 h2 => ?_)
  have hi : i < 55 := by rw [cells17_len] at h2; exact h2
  rw [List.getElem_set]
  by_cases c3 : 53 = i
  · subst c3
    rw [if_pos rfl, cells17_getD _ _ _ _ _ _ (by decide), cells17_get]
  · rw [if_neg c3, cells17_get, cells17_get]
    have hb := cells_pof ⟨i, hi⟩
    simp only at hb
    have h3 : pofC i ≠ 36 := fun q => c3 (pof_36 ⟨i, hi⟩ q).symm
    unfold stS
    have c3' : ¬ i = 53 := fun q => c3 q.symm
    rw [hs _ hb.2.2.1 h3, if_neg c3', if_neg c3', if_pos hb.2.2.2, if_pos hb.2.2.2]
    cases hp : hasS L (pofC i) with
    | none => rfl
    | some u =>
      by_cases h37 : pofC i = 37
      · simp only
        rw [h37]
        rfl
      · refine out_em _ u _ _ a b _ (fun hk => ?_)
        rcases has_at L _ u hp with rfl | ⟨hu, hr⟩
        · have hf := first_vb ⟨pofC i, by omega⟩
          simp only at hf
          rw [firstZ_is _ hb.2.2.1 hb.2.2.2] at hk ⊢
          exact hf.2.2 hk
        · exact by_true u (hn _ u (by omega) hu) hk (right_d u hr hk)
end Go.Proofs.Ytlngipglhlhhbaa
