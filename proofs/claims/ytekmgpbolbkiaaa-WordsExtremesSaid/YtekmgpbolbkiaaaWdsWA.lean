/- Layer 18: pieces of words; extremes. -/
import Derived.Test.YtekmgpbolbkiaaaWdsW9
import Derived.Handy
namespace Go.Proofs.Ytekmgpbolbkiaaa
open Go.RowKit FixM FixP TreN WdsP
set_option linter.unusedVariables false

theorem sliced_ws (a : Option Addr) (l : List ByteArray) (cap lo hi : Nat) (h1 : lo ≤ hi) (h2 : hi ≤ l.length) (h3 : l.length ≤ cap) (h4 : cap ≤ maxLen) :
    ∃ a2, sliced a lo hi cap 1 = .slice a2 (hi - lo) (cap - lo) ∧ ∀ W : World, WS W a l → WS W a2 (seg l lo hi) := by
  obtain ⟨a2, ha⟩ : ∃ a2, sliced a lo hi cap 1 = .slice a2 (hi - lo) (cap - lo) := ⟨_, by unfold sliced; rfl⟩
  refine ⟨a2, ha, fun W hW => ?_⟩
  by_cases h0 : seg l lo hi = []
  · exact Or.inl h0
  · have hlen : lo < hi := by
      have := List.length_pos_iff.2 h0
      rw [seg_len h2] at this
      omega
    have hl0 : 0 < l.length := by omega
    rcases hW with h | ⟨b, o, e, hb, ht⟩
    · subst h; simp at hl0
    · subst e
      have : sliced (some ⟨b, o, none⟩) lo hi cap 1 = .slice (some ⟨b, o + lo, none⟩) (hi - lo) (cap - lo) := by
        unfold sliced
        have hck : ¬ cap = lo := by omega
        by_cases hz : lo = 0
        · subst hz; simp [Addr.add_lit]
        · simp [hck, Addr.add_lit]
      rw [this] at ha
      injection ha with ha _ _
      rw [← ha]
      refine Or.inr ⟨b, _, rfl, hb, fun i hi' => ?_⟩
      rw [seg_len h2] at hi'
      have := ht (lo + i) (by omega)
      have e3 : (seg l lo hi)[i]'(by rw [seg_len h2]; exact hi') = l[lo + i]'(by omega) := by
        unfold seg; rw [List.getElem_drop, List.getElem_take]
      rw [e3, Nat.add_assoc]; exact this
theorem slice_size18 (W : World) : (sizeOf (Try.prog.elem 24)).run Try.prog W = .ok 1 W := by
  obtain ⟨i, hi, hz0, hz1, hz2⟩ := info_parts info_str18
  have he : Try.prog.elem 24 = 9 := by kernel_rfl
  rw [he]; simp [sizeOf, typeInfo, hi, hz1]
theorem slice_und18 : Try.prog.underlying 24 = some (.slice (Try.prog.elem 24)) := by kernel_rfl
/-- l[:hi] -/
theorem ws_to (a : Option Addr) (l : List ByteArray) (cap n hi : Nat) (hn : l.length = n) (z : Int) (hz : z = (hi : Int)) (h1 : hi ≤ n) (h3 : n ≤ cap) (h4 : cap ≤ maxLen) :
    ∃ a2, (∀ W : World, (Instr.slice 24 (.slice a n cap) none (some (.int .i64 z)) none).run Try.prog W = .ok (.slice a2 hi cap) W) ∧ ∀ W : World, WS W a l → WS W a2 (seg l 0 hi) := by
  subst hn
  obtain ⟨a2, h5, h6⟩ := sliced_ws a l cap 0 hi (Nat.zero_le _) h1 h3 h4
  refine ⟨a2, fun W => ?_, h6⟩
  rw [run_slice_h W 24 _ _ _ slice_und18 .i64 z (by omega) (by omega), slice_size18]
  have e : z.toNat = hi := by omega
  show Result.ok (sliced a 0 z.toNat cap 1) W = _
  rw [e, h5]; rfl
/-- l[lo:hi] -/
theorem ws_mid (a : Option Addr) (l : List ByteArray) (cap n lo hi : Nat) (hn : l.length = n) (y z : Int) (hy : y = (lo : Int)) (hz : z = (hi : Int)) (h0 : lo ≤ hi) (h1 : hi ≤ n) (h3 : n ≤ cap) (h4 : cap ≤ maxLen) :
    ∃ a2, (∀ W : World, (Instr.slice 24 (.slice a n cap) (some (.int .i64 y)) (some (.int .i64 z)) none).run Try.prog W = .ok (.slice a2 (hi - lo) (cap - lo)) W) ∧ ∀ W : World, WS W a l → WS W a2 (seg l lo hi) := by
  subst hn
  obtain ⟨a2, h5, h6⟩ := sliced_ws a l cap lo hi h0 h1 h3 h4
  refine ⟨a2, fun W => ?_, h6⟩
  rw [run_slice_lh W 24 _ _ _ slice_und18 .i64 .i64 y z (by omega) (by omega) (by omega), slice_size18]
  have e1 : y.toNat = lo := by omega
  have e2 : z.toNat = hi := by omega
  show Result.ok (sliced a y.toNat z.toNat cap 1) W = _
  rw [e1, e2, h5]

theorem seg_mem {l : List ByteArray} {f t : Nat} {x : ByteArray} (h : x ∈ seg l f t) : x ∈ l := List.mem_of_mem_take (List.mem_of_mem_drop h)

set_option maxRecDepth 100000 in
set_option maxHeartbeats 8000000 in
theorem Extremes18_any (s : ByteArray) (font : Int) (w : World) (hs : s.size ≤ 300) : Calls Try.prog 20 #[.string s, .int .i64 font] w fun e w' => e = .returned (.tuple #[.int .i64 (leastS font (wordsS s)), .int .i64 (wid font (wordsS s))]) ∧ Below w.heap.size w w' := by
  have SP := Lib.hid (Split18_any s w hs)
  have HSZ := Lib.hid (words_sz s)
  have hlen := words_len s
  obtain ⟨L, hL⟩ : ∃ L, wordsS s = L := ⟨_, rfl⟩
  rw [hL] at SP HSZ hlen
  rw [hL]
  obtain ⟨n, hn⟩ : ∃ n, L.length = n := ⟨_, rfl⟩
  rw [hn] at hlen
  have HN := Lib.hid hn
  obtain ⟨r1, hr1⟩ : ∃ r, leastS font L = r := ⟨_, rfl⟩
  obtain ⟨r2, hr2⟩ : ∃ r, wid font L = r := ⟨_, rfl⟩
  have HR1 := Lib.hid hr1
  have HR2 := Lib.hid hr2
  rw [hr1, hr2]
  clear hL hn hr1 hr2
  go_enter Try.func20, Try.ntmps20
  go_wp2_with fail
  refine SP.out.mono ?_
  rintro e w1 ⟨a, c, rfl, hc1, hc2, hb1, hW⟩
  rw [HN.out] at hc1 ⊢
  have HB1 := Lib.hid hb1
  have HWS := Lib.hid hW
  have hcm := hc2
  unfold maxLen at hc2
  clear hb1 hW
  by_cases h0 : n = 0
  · have HE : Hid (r1 = 0 ∧ r2 = 0) := Lib.hid (by
      have e : L = [] := List.eq_nil_of_length_eq_zero (by rw [HN.out]; exact h0)
      rw [← HR1.out, ← HR2.out, e]
      exact ⟨rfl, by unfold wid; rw [totL_nil, PT_k]; simp [H_id]⟩)
    have hz : ((n : Int) == 0) = true := by rw [h0]; rfl
    clear h0
    go_wp2_with fail
    go_ret2
    exact ⟨by rw [HE.out.1, HE.out.2]; rfl, HB1.out⟩
  · have hz : ((n : Int) == 0) = false := by rw [beq_eq_false_iff_ne]; omega
    obtain ⟨a2, sl2, hS2⟩ := ws_to a L c n 1 HN.out 1 rfl (by omega) hc1 hcm
    have HX : Hid (∀ x ∈ L, x.size ≤ maxLen) := Lib.hid (fun x hx => by have := HSZ.out x hx; unfold maxLen; omega)
    have C1 := Width18_any a2 (seg L 0 1) 1 c font w1 (by rw [seg_len (by have := HN.out; omega)]) (by omega) (fun x hx => HX.out x (seg_mem hx)) (hS2 w1 HWS.out)
    have hm0 := mxK_bd font L 0
    obtain ⟨m0, hm0e⟩ : ∃ m, mxK font L 0 = m := ⟨_, rfl⟩
    have e0 : wid font (seg L 0 1) = m0 := by rw [← hm0e]; rfl
    rw [e0] at C1
    have CC1 := Lib.hid C1
    have HM0 := Lib.hid hm0e
    have h10 : (1 : Int) ≤ (c : Int) := by omega
    clear C1 e0 hm0e hS2 hm0
    go_wp2_with fail
    refine CC1.out.mono ?_
    rintro e w2 ⟨rfl, hb2⟩
    have HB2 := Lib.hid hb2
    clear hb2 sl2
    go_wp2_with fail
    go_loopw [20, 7] (fun vi vm wr => ∃ k : Nat, vi = .int .i64 (k : Int) ∧ k ≤ n ∧ ∃ m : Int, vm = .int .i64 m ∧ Hid (mxK font L k = m) ∧ Hid (Below w1.heap.size w1 wr)) (fun vi _ _ => n - (intOf vi).toNat)
    case atStart => exact ⟨0, rfl, by omega, m0, rfl, HM0, HB2⟩
    case round =>
      obtain ⟨k, rfl, hk, m, rfl, HM, HB⟩ := hrel
      have hmb := mxK_bd font L k
      rw [HM.out] at hmb
      obtain ⟨hmb1, hmb2⟩ := hmb
      by_cases hlt : k < n
      · have hltz : (k : Int) < (n : Int) := by omega
        obtain ⟨a3, sl3, hS3⟩ := ws_mid a L c n k (k + 1) HN.out (k : Int) ((k : Int) + 1) rfl (by omega) (by omega) (by omega) hc1 hcm
        have e1 : k + 1 - k = 1 := by omega
        rw [e1] at sl3
        have C3 := Width18_any a3 (seg L k (k + 1)) 1 (c - k) font wr (by rw [seg_len (by have := HN.out; omega)]; omega) (by omega) (fun x hx => HX.out x (seg_mem hx)) (hS3 wr (HWS.out.below HB.out))
        have hvb := wid_bd font (seg L k (k + 1))
        have HMX : Hid (mxK font L (k + 1) = max m (wid font (seg L k (k + 1)))) := Lib.hid (by rw [← HM.out]; rfl)
        obtain ⟨v, hv⟩ : ∃ v, wid font (seg L k (k + 1)) = v := ⟨_, rfl⟩
        rw [hv] at C3 hvb HMX
        have CC3 := Lib.hid C3
        have hkn : (k : Int) + 1 ≤ (n : Int) := by omega
        have hkc : (k : Int) + 1 ≤ (c : Int) := by omega
        have hk0 : (0 : Int) ≤ (k : Int) := by omega
        clear C3 hS3 hv e1
        rcases (by omega : m < v ∨ v ≤ m) with hmv | hmv
        all_goals
          go_wp2_with fail
          refine CC3.out.mono ?_
          rintro e w3 ⟨rfl, hb3⟩
          have HB3 := Lib.hid (HB.out.trans (hb3.mono HB.out.size))
          clear hb3
          go_wp2_with fail
          go_roundw
          case rel => exact ⟨k + 1, by go_num, by omega, _, rfl, Lib.hid (by rw [HMX.out]; omega), HB3⟩
          case measure => simp [intOf]; omega
      · have hke : k = n := by omega
        have hltz : ¬ (k : Int) < (n : Int) := by omega
        have HE : Hid (m = r1) := Lib.hid (by rw [← HM.out, ← HR1.out, hke]; unfold leastS; rw [HN.out, if_neg h0])
        have C4 := Width18_any a L n c font wr HN.out (by omega) HX.out (HWS.out.below HB.out)
        rw [HR2.out] at C4
        have CC4 := Lib.hid C4
        clear C4 hke
        go_wp2_with fail
        refine CC4.out.mono ?_
        rintro e w3 ⟨rfl, hb3⟩
        have HB3 := Lib.hid (HB.out.trans (hb3.mono HB.out.size))
        clear hb3
        go_wp2_with fail
        go_ret2
        exact ⟨by rw [HE.out]; rfl, HB1.out.trans (HB3.out.mono HB1.out.size)⟩
end Go.Proofs.Ytekmgpbolbkiaaa
