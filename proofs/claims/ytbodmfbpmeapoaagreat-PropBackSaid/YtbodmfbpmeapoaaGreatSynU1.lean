/- Joined texts: SynW1 SynW2. -/
import Derived.Test.YtbodmfbpmeapoaaGreatLexE
import Derived.Test.YtbodmfbpmeapoaaGreatSynPP
import Derived.Handy
namespace Go.Proofs.YtbodmfbpmeapoaaGreat
open Go.RowKit TreN LexP FixP SynP
set_option linter.unusedVariables false

def lenV : Value → Nat
  | .slice _ n _ => n
  | _ => 0
/-- a list of tokens, as a value -/
def Sl (w : World) (v : Value) (l : List Tok) : Prop := ∃ a cap, v = .slice a l.length cap ∧ l.length ≤ cap ∧ cap ≤ maxLen ∧ Tks w a l
theorem Sl.below {w w' : World} {v : Value} {l : List Tok} (h : Sl w v l) (hb : Below w.heap.size w w') : Sl w' v l := by
  obtain ⟨a, cap, h1, h2, h3, h4⟩ := h
  exact ⟨a, cap, h1, h2, h3, h4.below hb⟩
theorem Tks.part {w : World} {b o : Nat} {l : List Tok} (h : Tks w (some ⟨b, o, none⟩) l) (lo hi : Nat) : Tks w (some ⟨b, o + lo * 3, none⟩) ((l.take hi).drop lo) := by
  by_cases h0 : (l.take hi).drop lo = []
  · exact Or.inl h0
  · have hlen : lo < (l.take hi).length := by
      have := List.length_pos_iff.2 h0
      rw [List.length_drop] at this
      omega
    rw [List.length_take] at hlen
    rcases h with h | ⟨b2, o2, e, h1, h2⟩
    · subst h; simp at hlen
    · injection e with e; injection e with e1 e2; subst e1; subst e2
      refine Or.inr ⟨b, _, rfl, h1, fun i hi' => ?_⟩
      rw [List.length_drop, List.length_take] at hi'
      have := h2 (lo + i) (by omega)
      have e2 : o + (lo + i) * 3 = o + lo * 3 + i * 3 := by omega
      rw [e2] at this
      have e3 : ((l.take hi).drop lo)[i] = l[lo + i]'(by omega) := by
        rw [List.getElem_drop, List.getElem_take]
      rw [e3]; exact this
theorem sliced_tok (a : Option Addr) (l : List Tok) (cap lo hi : Nat) (h1 : lo ≤ hi) (h2 : hi ≤ l.length) (h3 : l.length ≤ cap) (h4 : cap ≤ maxLen) :
    ∃ a2, sliced a lo hi cap 3 = .slice a2 (hi - lo) (cap - lo) ∧ ∀ W : World, Tks W a l → Tks W a2 ((l.take hi).drop lo) := by
  obtain ⟨a2, ha⟩ : ∃ a2, sliced a lo hi cap 3 = .slice a2 (hi - lo) (cap - lo) := ⟨_, by unfold sliced; rfl⟩
  refine ⟨a2, ha, fun W hW => ?_⟩
  by_cases h0 : (l.take hi).drop lo = []
  · exact Or.inl h0
  · have hlen : lo < hi := by
      have := List.length_pos_iff.2 h0
      rw [List.length_drop, List.length_take] at this
      omega
    have hl0 : 0 < l.length := by omega
    rcases hW with h | ⟨b, o, e, hb, ht⟩
    · subst h; simp at hl0
    · subst e
      have : sliced (some ⟨b, o, none⟩) lo hi cap 3 = .slice (some ⟨b, o + lo * 3, none⟩) (hi - lo) (cap - lo) := by
        unfold sliced
        have hck : ¬ cap = lo := by omega
        by_cases hz : lo = 0
        · subst hz; simp [Addr.add_lit]
        · simp [hck, Addr.add_lit]
      rw [this] at ha
      injection ha with ha _ _
      rw [← ha]
      exact Tks.part (Or.inr ⟨b, o, rfl, hb, ht⟩) lo hi
theorem slice_size (W : World) : (sizeOf (Tryz.prog.elem 26)).run Tryz.prog W = .ok 3 W := by
  obtain ⟨i, hi, hz0, hz1, hz2⟩ := info_parts info_token
  have he : Tryz.prog.elem 26 = 58 := by kernel_rfl
  rw [he]; simp [sizeOf, typeInfo, hi, hz1]
theorem slice_und : Tryz.prog.underlying 26 = some (.slice (Tryz.prog.elem 26)) := by
  have he : Tryz.prog.elem 26 = 58 := by kernel_rfl
  rw [he]; exact und_tokens
/-- l[lo:] -/
theorem sl_from (a : Option Addr) (l : List Tok) (cap n lo : Nat) (hn : l.length = n) (z : Int) (hz : z = (lo : Int)) (h1 : lo ≤ n) (h3 : n ≤ cap) (h4 : cap ≤ maxLen) :
    ∃ a2, (∀ W : World, (Instr.slice 26 (.slice a n cap) (some (.int .i64 z)) none none).run Tryz.prog W = .ok (.slice a2 (n - lo) (cap - lo)) W) ∧
      (l.drop lo).length = n - lo ∧ n - lo ≤ cap - lo ∧ cap - lo ≤ maxLen ∧ ∀ W : World, Tks W a l → Tks W a2 (l.drop lo) := by
  subst hn
  obtain ⟨a2, h5, h6⟩ := sliced_tok a l cap lo l.length h1 (Nat.le_refl _) h3 h4
  refine ⟨a2, fun W => ?_, List.length_drop, by omega, by omega, fun W hW => ?_⟩
  · rw [run_slice_l W 26 _ _ _ slice_und .i64 z (by omega) (by omega), slice_size]
    have e : z.toNat = lo := by omega
    show Result.ok (sliced a z.toNat l.length cap 3) W = _
    rw [e, h5]
  · have := h6 W hW
    rwa [List.take_length] at this
/-- l[:hi] -/
theorem sl_to (a : Option Addr) (l : List Tok) (cap n hi : Nat) (hn : l.length = n) (z : Int) (hz : z = (hi : Int)) (h1 : hi ≤ n) (h3 : n ≤ cap) (h4 : cap ≤ maxLen) :
    ∃ a2, (∀ W : World, (Instr.slice 26 (.slice a n cap) none (some (.int .i64 z)) none).run Tryz.prog W = .ok (.slice a2 hi cap) W) ∧
      (l.take hi).length = hi ∧ hi ≤ cap ∧ ∀ W : World, Tks W a l → Tks W a2 (l.take hi) := by
  subst hn
  obtain ⟨a2, h5, h6⟩ := sliced_tok a l cap 0 hi (Nat.zero_le _) h1 h3 h4
  refine ⟨a2, fun W => ?_, by rw [List.length_take]; omega, by omega, fun W hW => ?_⟩
  · rw [run_slice_h W 26 _ _ _ slice_und .i64 z (by omega) (by omega), slice_size]
    have e : z.toNat = hi := by omega
    show Result.ok (sliced a 0 z.toNat cap 3) W = _
    rw [e, h5]; rfl
  · exact h6 W hW
/-- l[lo:hi] -/
theorem sl_mid (a : Option Addr) (l : List Tok) (cap n lo hi : Nat) (hn : l.length = n) (y z : Int) (hy : y = (lo : Int)) (hz : z = (hi : Int)) (h0 : lo ≤ hi) (h1 : hi ≤ n) (h3 : n ≤ cap) (h4 : cap ≤ maxLen) :
    ∃ a2, (∀ W : World, (Instr.slice 26 (.slice a n cap) (some (.int .i64 y)) (some (.int .i64 z)) none).run Tryz.prog W = .ok (.slice a2 (hi - lo) (cap - lo)) W) ∧
      ((l.take hi).drop lo).length = hi - lo ∧ hi - lo ≤ cap - lo ∧ cap - lo ≤ maxLen ∧ ∀ W : World, Tks W a l → Tks W a2 ((l.take hi).drop lo) := by
  subst hn
  obtain ⟨a2, h5, h6⟩ := sliced_tok a l cap lo hi h0 h1 h3 h4
  refine ⟨a2, fun W => ?_, by rw [List.length_drop, List.length_take]; omega, by omega, by omega, h6⟩
  rw [run_slice_lh W 26 _ _ _ slice_und .i64 .i64 y z (by omega) (by omega) (by omega), slice_size]
  have e1 : y.toNat = lo := by omega
  have e2 : z.toNat = hi := by omega
  show Result.ok (sliced a y.toNat z.toNat cap 3) W = _
  rw [e1, e2, h5]

set_option maxRecDepth 100000 in
set_option maxHeartbeats 1000000 in
theorem behindSpaces_any (a : Option Addr) (l : List Tok) (cap : Nat) (w : World) (h1 : l.length ≤ cap) (h2 : cap ≤ maxLen) (hT : Tks w a l) :
    Calls Tryz.prog 111 #[.slice a l.length cap] w fun e w' => (∃ a2 cap2, e = .returned (.slice a2 (bs l).length cap2) ∧ (bs l).length ≤ cap2 ∧ cap2 ≤ maxLen ∧ Tks w' a2 (bs l)) ∧ w = w' := by
  have hd : ∀ k, (l.take k).length = k → (∀ t ∈ l.take k, isSp t = true) → bs l = bs (l.drop k) := fun k _ h => by
    have e : l = l.take k ++ l.drop k := (List.take_append_drop k l).symm
    unfold bs
    conv => lhs; rw [e]
    rw [List.dropWhile_append_of_pos h]
  obtain ⟨n, hn⟩ : ∃ n, l.length = n := ⟨_, rfl⟩
  have HT := Lib.hid hT
  have HN := Lib.hid hn
  rw [hn] at h1 ⊢
  obtain ⟨bl, hbl⟩ : ∃ b, bs l = b := ⟨_, rfl⟩
  have HBL := Lib.hid hbl
  rw [hbl]
  have H2 := Lib.hid h2
  unfold maxLen at h2
  clear hT hd hn hbl
  go_enter Tryz.func111, Tryz.ntmps111
  go_wp2_with fail
  go_loopw [0] (fun v wr => ∃ (a1 : Option Addr) (m : List Tok) (k c1 : Nat), v = .slice a1 k c1 ∧ k ≤ c1 ∧ c1 ≤ cap ∧ wr = w ∧ Hid (m.length = k ∧ Tks w a1 m ∧ bs m = bl)) (fun v _ => lenV v)
  case atStart => exact ⟨a, l, n, cap, rfl, h1, Nat.le_refl _, rfl, HN.out, HT.out, HBL.out⟩
  case round =>
    obtain ⟨a1, m, k, c1, rfl, hk, hc, rfl, HM⟩ := hrel
    obtain ⟨hm1, hm2, hm3⟩ := HM.out
    cases m with
    | nil =>
      have hk0 : k = 0 := hm1.symm
      subst hk0
      have hbl0 : bl = [] := hm3.symm
      subst hbl0
      have HT2 := Lib.hid hm2
      have hcm : c1 ≤ maxLen := by unfold maxLen; omega
      have HCM := Lib.hid hcm
      clear hm1 hm2 hm3 hcm
      go_wp2_with fail
      go_ret
      exact ⟨⟨a1, c1, rfl, by simp, HCM.out, HT2.out⟩, rfl⟩
    | cons t r =>
      have hk0 : 0 < k := by rw [← hm1]; simp
      have hkz : (0 : Int) < (k : Int) := by omega
      have hkd : decide (0 < k) = true := by simp; omega
      have hkn : ¬ k = 0 := by omega
      rcases hm2 with h | ⟨b1, o1, rfl, hb1, ht1⟩
      · cases h
      have d1 : wr.cell? ⟨b1, o1, none⟩ = some (.int .i64 t.kind) := by
        have := (ht1 0 (by simp)).kind
        rwa [Nat.zero_mul, Nat.add_zero] at this
      by_cases hsp : t.kind = 20
      · have hsz : (t.kind == 20) = true := by rw [beq_iff_eq]; exact hsp
        have hbr : bs r = bl := by
          rw [← hm3]
          show r.dropWhile isSp = (t :: r).dropWhile isSp
          rw [List.dropWhile_cons, if_pos (by unfold isSp; rw [decide_eq_true hsp])]
        obtain ⟨a2, s1, s2, s3, s4, s5⟩ := sl_from (some ⟨b1, o1, none⟩) (t :: r) c1 k 1 hm1 1 rfl (by omega) hk (by unfold maxLen; omega)
        have hM : Hid (r.length = k - 1 ∧ Tks wr a2 r ∧ bs r = bl) := Lib.hid ⟨by simpa using s2, s5 _ (Or.inr ⟨b1, o1, rfl, hb1, ht1⟩), hbr⟩
        clear hm1 hm3 ht1 s2 s5 s4 hbr hsp
        go_wp2_with fail
        go_roundw
        case rel => exact ⟨a2, r, k - 1, c1 - 1, by go_num, s3, by omega, trivial, hM⟩
        case measure => simp [lenV]; omega
      · have hsz : (t.kind == 20) = false := by rw [beq_eq_false_iff_ne]; exact hsp
        have hbr : bl = t :: r := by
          rw [← hm3]
          show (t :: r).dropWhile isSp = _
          rw [List.dropWhile_cons, if_neg (by unfold isSp; rw [decide_eq_false hsp]; simp)]
        have HBR := Lib.hid hbr
        have HL : Hid (bl.length = k) := Lib.hid (by rw [hbr]; exact hm1)
        have HT2 : Hid (Tks wr (some ⟨b1, o1, none⟩) bl) := Lib.hid (by rw [hbr]; exact Or.inr ⟨b1, o1, rfl, hb1, ht1⟩)
        have hcm : c1 ≤ maxLen := by unfold maxLen; omega
        have HCM := Lib.hid hcm
        clear hm1 hm3 ht1 hbr hsp hcm
        go_wp2_with fail
        go_ret
        exact ⟨⟨_, c1, by rw [HL.out]; rfl, by rw [HL.out]; exact hk, HCM.out, HT2.out⟩, rfl⟩
end Go.Proofs.YtbodmfbpmeapoaaGreat

namespace Go.Proofs.YtbodmfbpmeapoaaGreat
open Go.RowKit TreN LexP FixP SynP
set_option linter.unusedVariables false

/-- what a call on a list of tokens answers: a list of them -/
def SlIs (w : World) (l : List Tok) (e : Ending) (w' : World) : Prop := ∃ a2 cap2, e = .returned (.slice a2 l.length cap2) ∧ l.length ≤ cap2 ∧ cap2 ≤ maxLen ∧ Tks w' a2 l

set_option maxRecDepth 100000 in
set_option maxHeartbeats 1000000 in
theorem trimmed_any (a : Option Addr) (l : List Tok) (cap : Nat) (w : World) (h1 : l.length ≤ cap) (h2 : cap ≤ maxLen) (hT : Tks w a l) :
    Calls Tryz.prog 105 #[.slice a l.length cap] w fun e w' => SlIs w (trm l) e w' ∧ w = w' := by
  have C := Lib.hid (behindSpaces_any a l cap w h1 h2 hT)
  obtain ⟨tl, htl⟩ : ∃ b, trm l = b := ⟨_, rfl⟩
  have htl2 : es (bs l) = tl := htl
  rw [htl]
  obtain ⟨b, hb⟩ : ∃ b, bs l = b := ⟨_, rfl⟩
  rw [hb] at htl2 C
  obtain ⟨n, hn⟩ : ∃ n, l.length = n := ⟨_, rfl⟩
  obtain ⟨nb, hnb⟩ : ∃ n, b.length = n := ⟨_, rfl⟩
  rw [hnb] at C
  rw [hn] at h1 C ⊢
  have HTL := Lib.hid htl2
  have HNB := Lib.hid hnb
  clear hT htl htl2 hb hn h1 h2 hnb
  go_enter Tryz.func105, Tryz.ntmps105
  go_wp2_with fail
  refine C.out.mono ?_
  rintro e w1 ⟨⟨a2, cap2, rfl, hc1, hc2, hT⟩, rfl⟩
  have HT := Lib.hid hT
  have H2 := Lib.hid hc2
  unfold maxLen at hc2
  clear hT C
  go_wp2_with fail
  go_loopw [0] (fun v wr => ∃ (a1 : Option Addr) (m : List Tok) (k c1 : Nat), v = .slice a1 k c1 ∧ k ≤ c1 ∧ c1 ≤ cap2 ∧ wr = w ∧ Hid (m.length = k ∧ Tks w a1 m ∧ es m = tl)) (fun v _ => lenV v)
  case atStart => exact ⟨a2, b, nb, cap2, rfl, hc1, Nat.le_refl _, rfl, HNB.out, HT.out, HTL.out⟩
  case round =>
    obtain ⟨a1, m, k, c1, rfl, hk, hc, rfl, HM⟩ := hrel
    obtain ⟨hm1, hm2, hm3⟩ := HM.out
    by_cases hk0 : k = 0
    · subst hk0
      have hm0 : m = [] := List.eq_nil_of_length_eq_zero hm1
      subst hm0
      have htl : tl = [] := hm3.symm
      subst htl
      have HT2 := Lib.hid hm2
      have hcm : c1 ≤ maxLen := by unfold maxLen; omega
      have HCM := Lib.hid hcm
      clear hm1 hm2 hm3 hcm
      go_wp2_with fail
      go_ret
      exact ⟨⟨a1, c1, rfl, by simp, HCM.out, HT2.out⟩, rfl⟩
    · obtain ⟨j, hj⟩ : ∃ j, k = j + 1 := ⟨k - 1, by omega⟩
      have hkz : (0 : Int) < (k : Int) := by omega
      have hkd : decide (0 < k) = true := by simp; omega
      have hjk : j < m.length := by omega
      rcases hm2 with h | ⟨b1, o1, rfl, hb1, ht1⟩
      · subst h; simp at hm1; omega
      obtain ⟨t, ht⟩ : ∃ t, m[j] = t := ⟨_, rfl⟩
      have hmt : m = m.take j ++ [t] := by
        have h1 : m.take (j + 1) = m.take j ++ [m[j]] := List.take_succ_eq_append_getElem hjk
        rw [List.take_of_length_le (by omega), ht] at h1
        exact h1
      have d1 : wr.cell? ⟨b1, o1 + j * 3, none⟩ = some (.int .i64 t.kind) := by
        have := (ht1 j hjk).kind
        rwa [ht] at this
      have hw : IntKind.i64.wrap ((k : Int) - 1) = (j : Int) := by
        have e : (k : Int) - 1 = (j : Int) := by omega
        rw [e]; exact IntWalk.i64_in _ (by omega)
      have hjz : (j : Int) < (k : Int) := by omega
      have hjk2 : j < k := by omega
      have hj0 : (0 : Int) ≤ (j : Int) := by omega
      by_cases hsp : t.kind = 20
      · have hsz : (t.kind == 20) = true := by rw [beq_iff_eq]; exact hsp
        have hes : es (m.take j) = tl := by
          rw [← hm3]
          conv => rhs; rw [hmt]
          rw [es_snoc, if_pos (by unfold isSp; rw [decide_eq_true hsp])]
        have hM : Hid ((m.take j).length = j ∧ Tks wr (some ⟨b1, o1, none⟩) (m.take j) ∧ es (m.take j) = tl) := Lib.hid ⟨by rw [List.length_take]; omega, by have := Tks.part (Or.inr ⟨b1, o1, rfl, hb1, ht1⟩) 0 j; simpa using this, hes⟩
        have hjc : (j : Int) ≤ (c1 : Int) := by omega
        clear hm1 hm3 ht1 hes hsp hmt ht HM hjk hb1
        go_wp2_with fail
        go_roundw
        case rel => exact ⟨_, _, j, c1, rfl, by omega, by omega, trivial, hM⟩
        case measure => simp [lenV]; omega
      · have hsz : (t.kind == 20) = false := by rw [beq_eq_false_iff_ne]; exact hsp
        have hes : tl = m := by
          rw [← hm3]
          conv => lhs; rw [hmt]
          rw [es_snoc, if_neg (by unfold isSp; rw [decide_eq_false hsp]; simp), ← hmt]
        have HL : Hid (tl.length = k) := Lib.hid (by rw [hes]; exact hm1)
        have HT2 : Hid (Tks wr (some ⟨b1, o1, none⟩) tl) := Lib.hid (by rw [hes]; exact Or.inr ⟨b1, o1, rfl, hb1, ht1⟩)
        have hcm : c1 ≤ maxLen := by unfold maxLen; omega
        have HCM := Lib.hid hcm
        clear hm1 hm3 ht1 hes hsp hcm hmt ht HM hjk hb1
        go_wp2_with fail
        go_ret
        exact ⟨⟨_, c1, by rw [HL.out]; rfl, by rw [HL.out]; exact hk, HCM.out, HT2.out⟩, rfl⟩

set_option maxRecDepth 100000 in
/-- append(nil, tokens) -/
theorem copy_toks (a : Option Addr) (l : List Tok) (c : Nat) (w : World) (hl : l.length ≤ 100000) (hT : Tks w a l) :
    ∃ a' c' w', (Builtin.append_ #[26, 26] 26 #[.slice none 0 0, .slice a l.length c]).run Tryz.prog w = .ok (.slice a' l.length c') w' ∧ l.length ≤ c' ∧ c' ≤ maxLen ∧ Tks w' a' l ∧ (l ≠ [] → ∃ b o, a' = some ⟨b, o, none⟩ ∧ w.heap.size ≤ b) ∧ Below w.heap.size w w' := by
  obtain ⟨i, hi, hz0, hz1, hz2⟩ := info_parts info_token
  by_cases h0 : l = []
  · subst h0
    refine ⟨none, 0, w, ?_, Nat.le_refl _, Nat.zero_le _, Or.inl rfl, fun h => absurd rfl h, Below.refl _ _⟩
    cases a with
    | none => exact run_append_owned_none (P := Tryz.prog) w w.heap.size 26 26 58 i 3 und_tokens hi _ 0 [] (World.ownsRow_nil w _ _ 3)
    | some ad => simp [Builtin.append_, run_underlying und_tokens, sizeOf, typeInfo, hi, Builtin.lenOf, Builtin.firstCells, loadCells, loadCellsFrom]
  · rcases hT with hT | ⟨b, o, rfl, hb, hT⟩
    · exact absurd hT h0
    · have news : ∀ (j : Nat) (u : Value), (tkcs l)[j]? = some u → w.cell? ((⟨b, o, none⟩ : Addr).add j) = some u := by
        intro j u hj
        by_cases hjn : j < l.length * 3
        · obtain ⟨p, hp⟩ : ∃ p, j / 3 = p := ⟨_, rfl⟩
          have hpl : p < l.length := by omega
          obtain ⟨k1, k2, k3⟩ := tkcs_get l p hpl
          have ht := hT p hpl
          rw [Addr.add_lit]
          rcases (by omega : j = p * 3 ∨ j = p * 3 + 1 ∨ j = p * 3 + 2) with e | e | e
          · subst e
            rw [k1] at hj; injection hj with hj; subst hj
            exact ht.kind
          · subst e
            rw [k2] at hj; injection hj with hj; subst hj
            exact ht.text
          · subst e
            rw [k3] at hj; injection hj with hj; subst hj
            exact ht.n
        · rw [List.getElem?_eq_none (by rw [tkcs_length]; omega)] at hj
          cases hj
      have hpos := List.length_pos_iff.2 h0
      obtain ⟨v', w', hr, h2, h3, _⟩ := run_append_own (P := Tryz.prog) w w.heap.size 26 26 58 i _ 3 32 und_tokens hi hz0 hz1 hz2 (by rfl) (by omega) (.slice none 0 0) 0 [] (World.ownsRow_nil w _ _ 3) ⟨b, o, none⟩ l.length c (tkcs l) (tkcs_length l) news (tkcs_one l) (by unfold maxLen; omega) (by omega) (Nat.le_refl _)
      rw [Nat.zero_add, List.nil_append] at h2
      have h2' := h2
      obtain ⟨g, cap, rfl, hg, hgl⟩ := h2.form hpos
      rcases h2'.2 with ⟨hv, _⟩ | ⟨g2, cap2, cur, hv, hg2, hh, hle, hcm, _⟩
      · injection hv with hv; cases hv
      · injection hv with hv1 hv2 hv3
        injection hv1 with hv1; injection hv1 with hv1
        subst hv1; subst hv3
        obtain ⟨a3, c3, hv, hT3⟩ := Tks_own h2'
        injection hv with hv4 _ hv5
        subst hv4; subst hv5
        exact ⟨_, _, w', hr, hle, hcm, hT3, fun _ => ⟨g, 0, rfl, hg⟩, (Below.refl _ _).grown h3 (Nat.le_refl _) (fun q hq => by cases hq)⟩

set_option maxRecDepth 100000 in
set_option maxHeartbeats 1000000 in
theorem wpList_append_runS {P : Program} {ops : Array Oper} {rest : List Oper} {o : Oper} {a : Act} {Q : Exit → Act → World → Prop} {w : World} (hgd : o.guard = none) (s x : Operand) (t : TypeId)
    (ho : o.op = .call { callee := .builtin .append, args := #[s, x], argTypes := #[t, t] }) (vs vx v : Value) (w' : World) (hs : a.eval s = vs) (hx : a.eval x = vx)
    (hr : (Builtin.append_ #[t, t] o.type #[vs, vx]).run P w = .ok v w') (h : wpList P ops Q rest (a.put o.dst v) w') : wpList P ops Q (o :: rest) a w := by
  refine wpList_plain hgd fun K hK => ?_
  unfold Oper.wp execOp
  simp only [ho, resolve, invoke, builtin, Sem.run_bind, Sem.run_pure, Result.andThen_ok, List.map_toArray, List.map_cons, List.map_nil, hs, hx, hr]
  exact hK _ _ h

set_option maxRecDepth 100000 in
set_option maxHeartbeats 1000000 in
theorem clone_toks (a : Option Addr) (l : List Tok) (cap : Nat) (w : World) (hl : l.length ≤ 100000) (hT : Tks w a l) :
    Calls Tryz.prog 104 #[.slice a l.length cap] w fun e w' => (∃ a2 cap2, e = .returned (.slice a2 l.length cap2) ∧ l.length ≤ cap2 ∧ cap2 ≤ maxLen ∧ Tks w' a2 l ∧ (l ≠ [] → ∃ b o, a2 = some ⟨b, o, none⟩ ∧ w.heap.size ≤ b)) ∧ Below w.heap.size w w' := by
  obtain ⟨a2, c2, w2, hr, h1, h2, h3, h4, h5⟩ := copy_toks a l cap w hl hT
  obtain ⟨n, hn⟩ : ∃ n, l.length = n := ⟨_, rfl⟩
  rw [hn] at hr h1 ⊢
  have HR := Lib.hid hr
  have HF : Hid (n ≤ c2 ∧ c2 ≤ maxLen ∧ Tks w2 a2 l ∧ (l ≠ [] → ∃ b o, a2 = some ⟨b, o, none⟩ ∧ w.heap.size ≤ b) ∧ Below w.heap.size w w2) := Lib.hid ⟨h1, h2, h3, h4, h5⟩
  clear hr h1 h2 h3 h4 h5 hT hl hn
  go_enter Tryz.func104, Tryz.ntmps104
  go_wp2_with (at_builtin; refine wpList_append_runS rfl _ _ 26 rfl _ _ _ _ rfl rfl HR.out ?_)
  go_ret
  obtain ⟨h1, h2, h3, h4, h5⟩ := HF.out
  exact ⟨⟨a2, c2, rfl, h1, h2, h3, h4⟩, h5⟩

end Go.Proofs.YtbodmfbpmeapoaaGreat
