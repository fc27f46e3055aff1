/- Layer 18: the lines of a text: words.Break. -/
import Derived.Test.YtekmgpbolbkiaaaWdsW6
import Derived.Deep.RegionHeld
import Derived.Deep.RegionHeld3
import Derived.Deep.CutBlock
import Derived.RangeFuncBox
import Derived.IntWalk
namespace Go.Proofs.Ytekmgpbolbkiaaa
open Go.RowKit FixM FixP TreN WdsP
set_option linter.unusedVariables false

theorem words_sz (s : ByteArray) : ∀ x ∈ wordsS s, x.size ≤ s.size := by
  have key : ∀ i, ∀ x ∈ (spS s i).2, x.size ≤ s.size := by
    intro i
    induction i with
    | zero => intro x hx; simp [spS] at hx
    | succ i ih =>
      intro x hx
      unfold spS at hx
      split at hx
      · exact ih x hx
      · split at hx
        · rcases List.mem_append.1 hx with h | h
          · exact ih x h
          · rw [List.mem_singleton] at h
            rw [h, ByteArray.size_extract]; omega
        · exact ih x hx
  exact key _

def ToldL (w : World) (T : TypeId) (l : List Ln) (e : Ending) (w' : World) : Prop := ∃ v, e = .returned v ∧ w'.ownsRow w.heap.size T 3 v l.length (lcs l) ∧ Below w.heap.size w w'

theorem line_news (w : World) (a b c : Value) (T : TypeId) : ∀ j u, [a, b, c][j]? = some u → (w.alloc (.cells #[a, b, c] T)).cell? ((⟨w.heap.size, 0, none⟩ : Addr).add j) = some u := by
  intro j u hj
  have h := heap_alloc_new w (.cells #[a, b, c] T)
  rw [Addr.add_lit, Nat.zero_add]
  match j, hj with
  | 0, hj => injection hj with hj; subst hj; exact cell_of h rfl
  | 1, hj => injection hj with hj; subst hj; exact cell_of h rfl
  | 2, hj => injection hj with hj; subst hj; exact cell_of h rfl
  | j + 3, hj => simp at hj
theorem linesAt_pos (font room : Int) (L : List ByteArray) {k f : Nat} {d : List Ln} (h : brS font room L k = (f, d)) (hk : 0 < k) : linesAt font room L k = d ++ [(f, k, wid font (seg L f k))] := by
  unfold linesAt; rw [if_neg (by omega), h]

set_option maxRecDepth 100000 in
set_option maxHeartbeats 8000000 in
theorem Break18_any (s : ByteArray) (font room : Int) (w : World) (hs : s.size ≤ 300) : Calls Try.prog 18 #[.string s, .int .i64 font, .int .i64 room] w (ToldL w 37 (linesS font (H room) (wordsS s))) := by
  obtain ⟨i0, hi, hz0, hz1, hz2⟩ := info_parts info_line18
  have SP := Lib.hid (Split18_any s w hs)
  have HSZ := Lib.hid (words_sz s)
  have hlen := words_len s
  obtain ⟨L, hL⟩ : ∃ L, wordsS s = L := ⟨_, rfl⟩
  obtain ⟨R, hR⟩ : ∃ R, H room = R := ⟨_, rfl⟩
  rw [hL] at SP HSZ hlen
  rw [hL, hR]
  obtain ⟨n, hn⟩ : ∃ n, L.length = n := ⟨_, rfl⟩
  rw [hn] at hlen
  have HN := Lib.hid hn
  have HRM := Lib.hid hR
  clear hL hn hR
  go_enter Try.func18, Try.ntmps18
  go_wp2_with fail
  refine SP.out.mono ?_
  rintro e w1 ⟨a, c, rfl, hc1, hc2, hb1, hW⟩
  rw [HN.out] at hc1 ⊢
  have HB1 := Lib.hid hb1
  have HWS := Lib.hid hW
  unfold maxLen at hc2
  clear hb1 hW
  go_wp2_with fail
  refine (Hold_any room _).mono ?_
  rintro e w2 ⟨rfl, rfl⟩
  rw [HRM.out]
  go_wp2_with fail
  have R0 : Hid (RunB w1.heap.size w1 (w1.alloc (.cells #[.int .i64 0, .int .i64 0] 45)) ((0 : Nat) : Int) (H (totL (seg L 0 0)))) := Lib.hid (by rw [seg_nil]; exact RunB.new (Below.refl _ _) 0 0)
  generalize w1.alloc (.cells #[.int .i64 0, .int .i64 0] 45) = w3 at *
  go_loopw [19, 8] (fun vi v wr => ∃ (k f : Nat) (d : List Ln), vi = .int .i64 (k : Int) ∧ k ≤ n ∧ f ≤ k ∧ Hid (brS font R L k = (f, d)) ∧ Hid (RunB w1.heap.size w1 wr ((k - f : Nat) : Int) (H (totL (seg L f k)))) ∧ Hid (wr.ownsRow (w1.heap.size + 1) 37 3 v (linesAt font R L k).length (lcs (linesAt font R L k)))) (fun vi _ _ => n - (intOf vi).toNat)
  case atStart => exact ⟨0, 0, [], rfl, by omega, by omega, Lib.hid rfl, R0, Lib.hid (World.ownsRow_nil _ _ _ _)⟩
  case round =>
    obtain ⟨k, f, d, rfl, hk, hfk, HBR, HR, HO⟩ := hrel
    by_cases hlt : k < n
    · have hltz : (k : Int) < (n : Int) := by omega
      have hkl : k < L.length := by have := HN.out; omega
      obtain ⟨b, o, rfl, hbw, hc⟩ := HWS.out.at_ hkl
      obtain ⟨x, hxk⟩ : ∃ x, L[k] = x := ⟨_, rfl⟩
      rw [hxk] at hc
      have hxs : x.size ≤ maxLen := by have := HSZ.out L[k] (List.getElem_mem hkl); rw [hxk] at this; unfold maxLen; omega
      have HC := Lib.hid (And.intro hbw hc)
      have cL : ∀ W, Below w1.heap.size w1 W → W.cell? ⟨b, o + k, none⟩ = some (.string x) := fun W hW => (hW.cell (p := ⟨b, o + k, none⟩) HC.out.1).trans HC.out.2
      have CL := Lib.hid cL
      have hcr := cL _ HR.out.bel
      have r0 := cell_of (k := 0) HR.out.here rfl
      have r1 := cell_of (k := 1) HR.out.here rfl
      have WC := fun W => with18_any (k - f) (totL (seg L f k)) x W (by omega) (totL_nonneg _) hxs
      have hsn : totL (seg L f k) + (if k - f = 0 then 0 else 250) + aw x = totL (seg L f (k + 1)) := by
        rw [seg_snoc hfk hkl, totL_snoc, hxk, seg_len (by omega)]
      rw [hsn] at WC
      have WW := Lib.hid WC
      have HX := Lib.hid (And.intro hxk hxs)
      have WZ : ∀ W, Calls Try.prog 24 #[.agg #[.int .i64 0, .int .i64 0], .string x] W fun e w' => e = .returned (.agg #[.int .i64 1, .int .i64 (H (totL (seg L k (k + 1))))]) ∧ Below W.heap.size W w' := fun W => by
        have h := with18_any 0 0 x W (by omega) (Int.le_refl _) hxs
        have e : (0 : Int) + (if (0 : Nat) = 0 then 0 else 250) + aw x = totL (seg L k (k + 1)) := by rw [seg_one hkl, totL_one, hxk]; simp
        rw [e] at h
        exact h
      have WZZ := Lib.hid WZ
      have hway : (k = 0 ∧ Hid (brS font R L (k + 1) = (k, linesAt font R L k))) ∨ (0 < k ∧ R < wid font (seg L f (k + 1)) ∧ Hid (brS font R L (k + 1) = (k, linesAt font R L k))) ∨ (0 < k ∧ ¬ R < wid font (seg L f (k + 1)) ∧ Hid (brS font R L (k + 1) = (f, d))) := by
        rcases Nat.eq_zero_or_pos k with e | e
        · refine Or.inl ⟨e, Lib.hid ?_⟩
          subst e; rw [brS_one]; rfl
        · by_cases hc : R < wid font (seg L f (k + 1))
          · refine Or.inr (Or.inl ⟨e, hc, Lib.hid ?_⟩)
            rw [brS_cut HBR.out e hc, linesAt_pos font R L HBR.out e]
          · exact Or.inr (Or.inr ⟨e, hc, Lib.hid (brS_go HBR.out e hc)⟩)
      obtain ⟨wv, hwv⟩ : ∃ wv, wid font (seg L f (k + 1)) = wv := ⟨_, rfl⟩
      rw [hwv] at hway
      have WD : ∀ t W, Calls Try.prog 25 #[.agg #[.int .i64 t, .int .i64 (H (totL (seg L f (k + 1))))], .int .i64 font] W fun e w' => e = .returned (.int .i64 wv) ∧ Below W.heap.size W w' := fun t W => by
        have h := width18_any t (H (totL (seg L f (k + 1)))) font W
        rw [PT_H] at h
        rw [← hwv]; exact h
      have WDD := Lib.hid WD
      have HWV := Lib.hid hwv
      have HLA : Hid (0 < k → linesAt font R L k = d ++ [(f, k, wid font (seg L f k))]) := Lib.hid (linesAt_pos font R L HBR.out)
      have hll := linesAt_len font R L k
      obtain ⟨A1, hA1⟩ : ∃ A1, H (totL (seg L f (k + 1))) = A1 := ⟨_, rfl⟩
      rw [hA1] at WW WDD
      have HA1 := Lib.hid hA1
      clear hxk hxs hc hbw WC hsn cL WZ hwv WD hA1
      have HRd : Hid (RunB w1.heap.size w1 wr.drew ((k - f : Nat) : Int) (H (totL (seg L f k)))) := Lib.hid (HR.out.keep (Below.drew (Below.refl _ _)))
      have HOd : Hid (wr.drew.ownsRow (w1.heap.size + 1) 37 3 u8 (linesAt font R L k).length (lcs (linesAt font R L k))) := Lib.hid HO.out.drew
      obtain ⟨A0, hA0⟩ : ∃ A0, H (totL (seg L f k)) = A0 := ⟨_, rfl⟩
      rw [hA0] at r1 WW HRd HR
      obtain ⟨t0, ht0⟩ : ∃ t0 : Int, ((k - f : Nat) : Int) = t0 := ⟨_, rfl⟩
      rw [ht0] at r0 WW HRd HR
      have ht0b : t0 + 1 = ((k + 1 - f : Nat) : Int) ∧ 0 ≤ t0 ∧ t0 ≤ 1000 := by omega
      have HT0 := Lib.hid ht0b
      clear hA0 ht0 ht0b
      go_upto_region 8 with (fail)
      refine wp_region_held_drew (S := fun W => W.cell? ⟨w1.heap.size, 0, none⟩ = some (.int .i64 t0) ∧ W.cell? ⟨w1.heap.size, 1, none⟩ = some (.int .i64 A0) ∧ W.cell? ⟨b, o + k, none⟩ = some (.string x)) (by kernel_rfl) ⟨r0, r1, hcr⟩ (fun hS0 => ?_)
      clear HR HO r0 r1 hcr
      generalize wr.drew = wd at *
      refine wpAnyH_take (i := 0) (v := ?_) rfl (by kernel_rfl) (by kernel_rfl) (by kernel_rfl) (fun _ _ _ h => h) (Or.inl ⟨by rfl, ?_⟩) hS0 ?_
      rotate_left
      · (intro w hSw; (try dsimp only at hSw); go_simp; (try with_reducible rfl))
      try simp only [Act.put, List.setIfInBounds_toArray]
      refine wpAnyH_take (i := 1) (v := ?_) rfl (by kernel_rfl) (by kernel_rfl) (by kernel_rfl) (fun _ _ _ h => h) (Or.inl ⟨by rfl, ?_⟩) hS0 ?_
      rotate_left
      · (intro w hSw; (try dsimp only at hSw); go_simp; (try with_reducible rfl))
      try simp only [Act.put]
      refine wpAnyH_take (i := 2) (v := ?_) rfl (by kernel_rfl) (by kernel_rfl) (by kernel_rfl) (fun _ _ _ h => h) (Or.inl ⟨by rfl, ?_⟩) hS0 ?_
      rotate_left
      · (intro w hSw; (try dsimp only at hSw); go_simp; (try with_reducible rfl))
      try simp only [Act.put]
      refine wpAnyH_take (i := 3) (v := ?_) rfl (by kernel_rfl) (by kernel_rfl) (by kernel_rfl) (fun _ _ _ h => h) (Or.inl ⟨by rfl, ?_⟩) hS0 ?_
      rotate_left
      · (intro w hSw; (try dsimp only at hSw); go_simp; (try with_reducible rfl))
      try simp only [Act.put]
      refine wpAnyH_take (i := 4) (v := ?_) rfl (by kernel_rfl) (by kernel_rfl) (by kernel_rfl) (fun _ _ _ h => h) (Or.inl ⟨by rfl, ?_⟩) hS0 ?_
      rotate_left
      · (intro w hSw; (try dsimp only at hSw); go_simp; (try with_reducible rfl))
      try simp only [Act.put]
      refine wpAnyH_ready (rs := [5, 6]) (by kernel_rfl) (by simp) ?_
      refine AllReadyH.cons rfl ?oA (AllReadyH.cons rfl ?oB AllReadyH.nil)
      case' oA =>
        intro K hK
        go_simp
        go_at_call 24
        refine (WW.out _).mono ?_
        rintro e w4 ⟨rfl, hb4⟩
        have H94 := Lib.hid (HRd.out.keep hb4)
        have hcx := CL.out _ H94.out.bel
        have HO4 := Lib.hid (ownsRow_belowW HOd.out hb4)
        refine hK.out _ _ ⟨cell_of H94.out.here rfl, cell_of H94.out.here rfl, hcx⟩ (fun hS1 => ?_)
        clear hK K
        refine wpAnyH_ready (rs := [6]) (by kernel_rfl) (by simp) ?_
        refine AllReadyH.cons rfl (fun K hK => ?_) AllReadyH.nil
        go_simp
        have HZ : Hid (RunB w4.heap.size w1 (w4.alloc (.cells #[.int .i64 0, .int .i64 0] 45)) 0 0) := Lib.hid (RunB.new H94.out.bel 0 0)
        have H95 : Hid (RunB w1.heap.size w1 (w4.alloc (.cells #[.int .i64 0, .int .i64 0] 45)) t0 A0) := Lib.hid (H94.out.keep ((Below.refl _ _).alloc (Nat.le_refl _) _))
        have HOW : Hid ((w4.alloc (.cells #[.int .i64 0, .int .i64 0] 45)).ownsRow (w1.heap.size + 1) 37 3 u8 (linesAt font R L k).length (lcs (linesAt font R L k))) := Lib.hid (HO4.out.alloc _)
        have HMB : Hid (w1.heap.size < w4.heap.size ∧ ∀ q, u8.ownBlock = some q → q < w4.heap.size) := Lib.hid ⟨H94.out.lt, fun q hq => (World.ownsRow.lt HO4.out q hq).2⟩
        clear hS1 hb4 H94 hcx HO4 hS0
        generalize w4.alloc (.cells #[.int .i64 0, .int .i64 0] 45) = w5 at *
        generalize w4.heap.size = m at *
        refine hK.out _ _ ⟨cell_of H95.out.here rfl, cell_of H95.out.here rfl, CL.out _ H95.out.bel⟩ (fun hS2 => ?_)
        clear hK K hS2
        refine wpAnyH_ready (rs := [7]) (by kernel_rfl) (by simp) ?_
        refine AllReadyH.cons rfl (fun K hK => ?_) AllReadyH.nil
        obtain ⟨x1, x2, ⟨p0, p1, p2⟩, ⟨q0, q1, q2⟩, hM, hG⟩ := HZ.out.put (t0 + 1) A1
        have hm9 := HMB.out.1
        have H9 : Hid (RunB w1.heap.size w1 x2 t0 A0) := Lib.hid (H95.out.grown hG (by omega) (by omega))
        have HO5 : Hid (x2.ownsRow (w1.heap.size + 1) 37 3 u8 (linesAt font R L k).length (lcs (linesAt font R L k))) := Lib.hid (HOW.out.kept hG (Or.inr (fun e => by have := HMB.out.2 m e; omega)))
        have HM := Lib.hid hM
        clear hM hG
        go_simp
        refine hK.out _ _ ⟨cell_of H9.out.here rfl, cell_of H9.out.here rfl, CL.out _ H9.out.bel⟩ (fun hS3 => ?_)
        clear hK K p0 p1 p2 q0 q1 q2
        refine wpAnyH_done (by kernel_rfl) ?_ _
        clear hS3 HZ H95 HOW
      case' oB =>
        intro K hK
        go_simp
        have HZ0 : Hid (RunB wd.heap.size w1 (wd.alloc (.cells #[.int .i64 0, .int .i64 0] 45)) 0 0) := Lib.hid (RunB.new HRd.out.bel 0 0)
        have H94 : Hid (RunB w1.heap.size w1 (wd.alloc (.cells #[.int .i64 0, .int .i64 0] 45)) t0 A0) := Lib.hid (HRd.out.keep ((Below.refl _ _).alloc (Nat.le_refl _) _))
        have HO4 : Hid ((wd.alloc (.cells #[.int .i64 0, .int .i64 0] 45)).ownsRow (w1.heap.size + 1) 37 3 u8 (linesAt font R L k).length (lcs (linesAt font R L k))) := Lib.hid (HOd.out.alloc _)
        have HMB : Hid (w1.heap.size < wd.heap.size ∧ ∀ q, u8.ownBlock = some q → q < wd.heap.size) := Lib.hid ⟨HRd.out.lt, fun q hq => (World.ownsRow.lt HOd.out q hq).2⟩
        clear HRd HOd hS0
        generalize wd.alloc (.cells #[.int .i64 0, .int .i64 0] 45) = w4 at *
        generalize wd.heap.size = m at *
        refine hK.out _ _ ⟨cell_of H94.out.here rfl, cell_of H94.out.here rfl, CL.out _ H94.out.bel⟩ (fun hS1 => ?_)
        clear hK K
        refine wpAnyH_ready (rs := [5]) (by kernel_rfl) (by simp) ?_
        refine AllReadyH.cons rfl (fun K hK => ?_) AllReadyH.nil
        go_simp
        go_at_call 24
        refine (WW.out _).mono ?_
        rintro e w5 ⟨rfl, hb5⟩
        have HZ := Lib.hid (HZ0.out.keep hb5)
        have H95 := Lib.hid (H94.out.keep hb5)
        have HOW := Lib.hid (ownsRow_belowW HO4.out hb5)
        clear hS1 hb5 HZ0 H94 HO4
        refine hK.out _ _ ⟨cell_of H95.out.here rfl, cell_of H95.out.here rfl, CL.out _ H95.out.bel⟩ (fun hS2 => ?_)
        clear hK K hS2
        refine wpAnyH_ready (rs := [7]) (by kernel_rfl) (by simp) ?_
        refine AllReadyH.cons rfl (fun K hK => ?_) AllReadyH.nil
        obtain ⟨x1, x2, ⟨p0, p1, p2⟩, ⟨q0, q1, q2⟩, hM, hG⟩ := HZ.out.put (t0 + 1) A1
        have hm9 := HMB.out.1
        have H9 : Hid (RunB w1.heap.size w1 x2 t0 A0) := Lib.hid (H95.out.grown hG (by omega) (by omega))
        have HO5 : Hid (x2.ownsRow (w1.heap.size + 1) 37 3 u8 (linesAt font R L k).length (lcs (linesAt font R L k))) := Lib.hid (HOW.out.kept hG (Or.inr (fun e => by have := HMB.out.2 m e; omega)))
        have HM := Lib.hid hM
        clear hM hG
        go_simp
        refine hK.out _ _ ⟨cell_of H9.out.here rfl, cell_of H9.out.here rfl, CL.out _ H9.out.bel⟩ (fun hS3 => ?_)
        clear hK K p0 p1 p2 q0 q1 q2
        refine wpAnyH_done (by kernel_rfl) ?_ _
        clear hS3 HZ H95 HOW
      all_goals
        have m0 := cell_of (k := 0) HM.out.here rfl
        have m1 := cell_of (k := 1) HM.out.here rfl
        have hcr := CL.out _ H9.out.bel
        rcases hway with ⟨hk0, HBR2⟩ | ⟨hk0, hcut, HBR2⟩ | ⟨hk0, hcut, HBR2⟩
        case' inl =>
          have hkz : ((k : Int) == 0) = true := by rw [hk0]; rfl
          have HK0 := Lib.hid hk0
          clear hk0
          go_upto_region 10 with (fail)
          have hcr := CL.out _ H9.out.bel
          go_wp2_with fail
          refine (WZZ.out _).mono ?_
          rintro e w7 ⟨rfl, hb7⟩
          obtain ⟨Ak, hAk⟩ : ∃ Ak, H (totL (seg L k (k + 1))) = Ak := ⟨_, rfl⟩
          rw [hAk]
          have HAK := Lib.hid hAk
          obtain ⟨y1, y2, ⟨p0, p1, p2⟩, ⟨q0, q1, q2⟩, hM7, hG7⟩ := (HM.out.keep hb7).put 1 Ak
          have hm9 := HMB.out.1
          have HO7 := Lib.hid ((ownsRow_belowW HO5.out hb7).kept hG7 (Or.inr (fun e => by have := HMB.out.2 m e; omega)))
          have H97 := Lib.hid ((H9.out.keep hb7).grown hG7 (by omega) (by omega))
          have HM7 := Lib.hid hM7
          have hrow : ∀ q, u8.ownBlock = some q → q ≠ w1.heap.size ∧ w1.heap.size ≤ q ∧ q ≠ m := fun q hq => by
            have h1 := (World.ownsRow.lt HO7.out q hq).1
            have h2 := HMB.out.2 q hq
            omega
          clear hb7 hM7 hG7 hAk hcr HM H9 HO5
          go_upto_region 11 with (fail)
          go_upto_region 12 with (at_builtin; refine wpList_append_own _ rfl _ _ 32 rfl (w1.heap.size + 1) 37 i0 (.agg #[.int .i64 0, .int .i64 0, .int .i64 0]) 3 24 Try.underlying32 hi hz0 hz1 hz2 rfl (by decide) _ _ _ rfl (HO7.out.alloc _) ⟨y2.heap.size, 0, none⟩ 1 1 [.int .i64 (k : Int), .int .i64 0, .int .i64 0] rfl rfl (line_news _ _ _ _ _) (by simp [Value.oneCell']) (by unfold maxLen; omega) (by omega) (by have := H97.out.lt; simp; omega) ?_; intro v' w8 hown' hgrow _; obtain ⟨G, CP, rfl⟩ := ownsRow_succ hown'; have HM8 := Lib.hid ((HM7.out.keep ((Below.refl _ _).alloc (Nat.le_refl _) (.cells #[.int .i64 (k : Int), .int .i64 0, .int .i64 0] 37))).grownV hgrow (fun q hq => ⟨(hrow q hq).2.2, (hrow q hq).2.1⟩)); have H98 := Lib.hid ((H97.out.keep ((Below.refl _ _).alloc (Nat.le_refl _) (.cells #[.int .i64 (k : Int), .int .i64 0, .int .i64 0] 37))).grownV hgrow (fun q hq => ⟨(hrow q hq).1, (hrow q hq).2.1⟩)); have HO8 : Hid (w8.ownsRow (w1.heap.size + 1) 37 3 (.slice (some ⟨G, 0, none⟩) ((linesAt font R L k).length + 1) CP) ((linesAt font R L k).length + 1) (lcs (linesAt font R L k ++ [((k, 0, 0) : Ln)]))) := Lib.hid (by rw [lcs_snoc]; exact hown'); clear hown' hgrow)
          have HW8 : Hid (∀ t W, Calls Try.prog 25 #[.agg #[.int .i64 t, .int .i64 Ak], .int .i64 font] W fun e w' => e = .returned (.int .i64 (wid font (seg L k (k + 1)))) ∧ Below W.heap.size W w') := Lib.hid (fun t W => by
            have h := width18_any t Ak font W
            rw [← HAK.out, PT_H] at h
            rw [← HAK.out]; exact h)
          have HTA : Hid ((1 : Int) = ((k + 1 - k : Nat) : Int) ∧ Ak = H (totL (seg L k (k + 1)))) := Lib.hid ⟨by omega, HAK.out.symm⟩
          obtain ⟨wk, hwk⟩ : ∃ wk, wid font (seg L k (k + 1)) = wk := ⟨_, rfl⟩
          rw [hwk] at HW8
          have HWK := Lib.hid hwk
          clear hwk
          clear HLA HBR HAK HM7 H97 HO7 p0 p1 p2 q0 q1 q2
          generalize linesAt font R L k = D at *
        case' inr.inl =>
          have hkz : ((k : Int) == 0) = false := by rw [beq_eq_false_iff_ne]; omega
          have hkz2 : ¬ k = 0 := by omega
          go_wp2_with fail
          refine (WDD.out _ _).mono ?_
          rintro e w6 ⟨rfl, hb6⟩
          replace HM := Lib.hid (HM.out.keep hb6)
          replace H9 := Lib.hid (H9.out.keep hb6)
          replace HO5 := Lib.hid (ownsRow_belowW HO5.out hb6)
          clear hb6 hcr m0 m1
          go_upto_region 10 with (fail)
          have hcr := CL.out _ H9.out.bel
          go_wp2_with fail
          refine (WZZ.out _).mono ?_
          rintro e w7 ⟨rfl, hb7⟩
          obtain ⟨Ak, hAk⟩ : ∃ Ak, H (totL (seg L k (k + 1))) = Ak := ⟨_, rfl⟩
          rw [hAk]
          have HAK := Lib.hid hAk
          obtain ⟨y1, y2, ⟨p0, p1, p2⟩, ⟨q0, q1, q2⟩, hM7, hG7⟩ := (HM.out.keep hb7).put 1 Ak
          have hm9 := HMB.out.1
          have HO7 := Lib.hid ((ownsRow_belowW HO5.out hb7).kept hG7 (Or.inr (fun e => by have := HMB.out.2 m e; omega)))
          have H97 := Lib.hid ((H9.out.keep hb7).grown hG7 (by omega) (by omega))
          have HM7 := Lib.hid hM7
          have hrow : ∀ q, u8.ownBlock = some q → q ≠ w1.heap.size ∧ w1.heap.size ≤ q ∧ q ≠ m := fun q hq => by
            have h1 := (World.ownsRow.lt HO7.out q hq).1
            have h2 := HMB.out.2 q hq
            omega
          clear hb7 hM7 hG7 hAk hcr HM H9 HO5
          go_upto_region 11 with (fail)
          go_upto_region 12 with (at_builtin; refine wpList_append_own _ rfl _ _ 32 rfl (w1.heap.size + 1) 37 i0 (.agg #[.int .i64 0, .int .i64 0, .int .i64 0]) 3 24 Try.underlying32 hi hz0 hz1 hz2 rfl (by decide) _ _ _ rfl (HO7.out.alloc _) ⟨y2.heap.size, 0, none⟩ 1 1 [.int .i64 (k : Int), .int .i64 0, .int .i64 0] rfl rfl (line_news _ _ _ _ _) (by simp [Value.oneCell']) (by unfold maxLen; omega) (by omega) (by have := H97.out.lt; simp; omega) ?_; intro v' w8 hown' hgrow _; obtain ⟨G, CP, rfl⟩ := ownsRow_succ hown'; have HM8 := Lib.hid ((HM7.out.keep ((Below.refl _ _).alloc (Nat.le_refl _) (.cells #[.int .i64 (k : Int), .int .i64 0, .int .i64 0] 37))).grownV hgrow (fun q hq => ⟨(hrow q hq).2.2, (hrow q hq).2.1⟩)); have H98 := Lib.hid ((H97.out.keep ((Below.refl _ _).alloc (Nat.le_refl _) (.cells #[.int .i64 (k : Int), .int .i64 0, .int .i64 0] 37))).grownV hgrow (fun q hq => ⟨(hrow q hq).1, (hrow q hq).2.1⟩)); have HO8 : Hid (w8.ownsRow (w1.heap.size + 1) 37 3 (.slice (some ⟨G, 0, none⟩) ((linesAt font R L k).length + 1) CP) ((linesAt font R L k).length + 1) (lcs (linesAt font R L k ++ [((k, 0, 0) : Ln)]))) := Lib.hid (by rw [lcs_snoc]; exact hown'); clear hown' hgrow)
          have HW8 : Hid (∀ t W, Calls Try.prog 25 #[.agg #[.int .i64 t, .int .i64 Ak], .int .i64 font] W fun e w' => e = .returned (.int .i64 (wid font (seg L k (k + 1)))) ∧ Below W.heap.size W w') := Lib.hid (fun t W => by
            have h := width18_any t Ak font W
            rw [← HAK.out, PT_H] at h
            rw [← HAK.out]; exact h)
          have HTA : Hid ((1 : Int) = ((k + 1 - k : Nat) : Int) ∧ Ak = H (totL (seg L k (k + 1)))) := Lib.hid ⟨by omega, HAK.out.symm⟩
          obtain ⟨wk, hwk⟩ : ∃ wk, wid font (seg L k (k + 1)) = wk := ⟨_, rfl⟩
          rw [hwk] at HW8
          have HWK := Lib.hid hwk
          clear hwk
          clear HLA HBR HAK HM7 H97 HO7 p0 p1 p2 q0 q1 q2
          generalize linesAt font R L k = D at *
        case' inr.inr =>
          have hkz : ((k : Int) == 0) = false := by rw [beq_eq_false_iff_ne]; omega
          have hkz2 : ¬ k = 0 := by omega
          go_wp2_with fail
          refine (WDD.out _ _).mono ?_
          rintro e w6 ⟨rfl, hb6⟩
          replace HM := Lib.hid (HM.out.keep hb6)
          replace H9 := Lib.hid (H9.out.keep hb6)
          replace HO5 := Lib.hid (ownsRow_belowW HO5.out hb6)
          clear hb6 hcr m0 m1
          go_upto_region 12 with (fail)
          obtain ⟨G, CP, hv, hg, hlt8⟩ : ∃ g cap, u8 = .slice (some ⟨g, 0, none⟩) (d.length + 1) cap ∧ _ := by
            have h := HO5.out
            rw [HLA.out hk0, List.length_append, List.length_singleton] at h
            exact h.form (by omega)
          subst hv
          have HO8 : Hid (w6.ownsRow (w1.heap.size + 1) 37 3 (.slice (some ⟨G, 0, none⟩) (d.length + 1) CP) (d.length + 1) (lcs (d ++ [((f, k, wid font (seg L f k)) : Ln)]))) := Lib.hid (by
            have h := HO5.out
            rw [HLA.out hk0, List.length_append, List.length_singleton] at h
            exact h)
          have hdl : d.length ≤ k := by have := hll; rw [HLA.out hk0, List.length_append, List.length_singleton] at this; omega
          have HM8 := HM
          have H98 := H9
          have HTA : Hid (t0 + 1 = ((k + 1 - f : Nat) : Int) ∧ A1 = H (totL (seg L f (k + 1)))) := Lib.hid ⟨HT0.out.1, HA1.out.symm⟩
          obtain ⟨wk, hwk⟩ : ∃ wk, wv = wk := ⟨_, rfl⟩
          have HW8 : Hid (∀ t W, Calls Try.prog 25 #[.agg #[.int .i64 t, .int .i64 A1], .int .i64 font] W fun e w' => e = .returned (.int .i64 wk) ∧ Below W.heap.size W w') := Lib.hid (by rw [← hwk]; exact WDD.out)
          have HWK : Hid (wid font (seg L f (k + 1)) = wk) := Lib.hid (by rw [← hwk]; exact HWV.out)
          clear hwk
          clear HLA HBR HM H9 HO5 hg hlt8
        all_goals
          have hm9 := HMB.out.1
          have m0 := cell_of (k := 0) HM8.out.here rfl
          have m1 := cell_of (k := 1) HM8.out.here rfl
          obtain ⟨z1, z2, ⟨p0, p1, p2⟩, ⟨q0, q1, q2⟩, hM9, hG9⟩ := HM8.out.copy H98.out
          have hGB := (World.ownsRow.lt HO8.out G rfl).1
          have HO9 := Lib.hid (HO8.out.kept hG9 (Or.inr (own_ne18 hGB)))
          have r0 := cell_of (k := 0) hM9.here rfl
          have r1 := cell_of (k := 1) hM9.here rfl
          have HM9 := Lib.hid hM9
          clear hM9 hG9 HM8 H98 HO8
          go_wp2_with fail
          refine (HW8.out _ _).mono ?_
          rintro e w10 ⟨rfl, hb10⟩
          obtain ⟨y5, y6, ⟨g0, g1, g2⟩, ⟨g3, g4, g5⟩, hO10, hM10⟩ := put_last (k := k) (u := wk) (ownsRow_belowW HO9.out hb10) (HM9.out.keep hb10)
          have HO10 := Lib.hid hO10
          have HM10 := Lib.hid hM10
          clear hb10 hO10 hM10 HO9 HM9 p0 p1 p2 q0 q1 q2 r0 r1 m0 m1
          go_wp2_with fail
          go_roundw
          case rel => exact ⟨k + 1, _, _, by go_num, by omega, by have h := (brS_bd font R L (k + 1) (by omega)).1; rw [HBR2.out] at h; exact Nat.le_of_lt h, HBR2, Lib.hid (by rw [← HTA.out.1, ← HTA.out.2]; exact HM10.out), Lib.hid (by rw [linesAt_pos font R L HBR2.out (by omega), HWK.out, List.length_append, List.length_singleton]; exact HO10.out)⟩
          case measure => simp [intOf]; omega
    · have hke : k = n := by omega
      have hltz : ¬ (k : Int) < (n : Int) := by omega
      have HF : Hid (wr.ownsRow (w1.heap.size + 1) 37 3 u8 (linesS font R L).length (lcs (linesS font R L))) := Lib.hid (by unfold linesS; rw [HN.out, ← hke]; exact HO.out)
      clear HO
      go_wp2_with fail
      go_ret
      exact ⟨_, rfl, ownsRow_baseW HF.out (by have := HB1.out.size; omega), HB1.out.trans (HR.out.bel.mono HB1.out.size)⟩
end Go.Proofs.Ytekmgpbolbkiaaa
