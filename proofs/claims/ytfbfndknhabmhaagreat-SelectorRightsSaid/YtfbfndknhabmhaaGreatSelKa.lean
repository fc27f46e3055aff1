/- Joined texts: SelK SelL1. -/
import Derived.Test.YtfbfndknhabmhaaGreatSelSa
import Derived.Test.YtfbfndknhabmhaaGreatSelWp
import Derived.Test.YtfbfndknhabmhaaGreatSelWa
import Derived.Test.YtfbfndknhabmhaaGreatLexSb
import Derived.Test.YtfbfndknhabmhaaGreatLexR6
import Derived.Test.YtfbfndknhabmhaaGreatSelMa
import Derived.Test.YtfbfndknhabmhaaGreatSynU1
import Derived.ChangeKeysEq
namespace Go.Proofs.YtfbfndknhabmhaaGreat
open Go.RowKit TreN LexP FixP SynP ValP SelP FixM
set_option linter.unusedVariables false

def sevT : List UInt8 := [97, 35, 98, 32, 62, 32, 46, 99, 44, 32, 91, 120, 93]
def sevA : List Prt := [⟨0, [97], [98], [], [], 0⟩, ⟨2, [], [], [[99]], [], 0⟩]
def sevB : List Prt := [⟨0, [], [], [], [⟨[120], false, []⟩], 0⟩]
theorem sev_len : (cut sevT).length = 12 := by decide +kernel
theorem sev_parse : parseS (cut sevT) = some [sevA, sevB] := by decide +kernel
theorem sev_ok : TxOk7 (cut sevT) := by
  have h : ∀ t ∈ cut sevT, t.text.length ≤ 100 := by decide +kernel
  intro t ht
  have := h t ht
  unfold maxLen; omega
theorem sev_w : wI (wS sevA) = (1, 1, 1) := by decide +kernel
theorem sev_all : allR [sevB] = true := by decide +kernel
theorem sev_list : (listT [sevB]).length = 3 := by decide +kernel
theorem sev_txt : ∀ t ∈ listT [sevB], t.text.length ≤ 200 := by decide +kernel
theorem sev_print : printL (listT [sevB]) = [91, 120, 93] := by decide +kernel
theorem arr_eq7 (W : World) : (Op.equalIn 10000 25 (.agg #[.int .i64 1, .int .i64 1, .int .i64 1]) (.agg #[.int .i64 1, .int .i64 1, .int .i64 1])).run Tryz.prog W = .ok true W := by kernel_rfl
set_option maxRecDepth 100000 in
set_option maxHeartbeats 4000000 in
theorem known7_any (w : World) : Calls Tryz.prog 12 #[] w fun e w' => e = .returned (.bool true) ∧ Below w.heap.size w w' := by
  have C : Calls Tryz.prog 24 #[.string ⟨sevT.toArray⟩] w (ToldCap w (cut sevT)) := refCut_cap ⟨sevT.toArray⟩ w (by decide)
  unfold ToldCap at C
  simp only [sev_len] at C
  have CC := Lib.hid C
  clear C
  go_enter Tryz.func12, Tryz.ntmps12
  go_wp2_with fail
  refine (CC.out).mono ?_
  rintro e w1 ⟨a1, c1, rfl, hT, hb, hc1, hc2⟩
  have R := Parse7_any a1 (cut sevT) c1 w1 (by rw [sev_len]; exact hc1) hc2 (by rw [sev_len]; omega) hT sev_ok
  rw [sev_len, sev_parse] at R
  have R2 : Hid (Calls Tryz.prog 23 #[.slice a1 12 c1] w1 fun e w' => ∃ (g c m1 : Nat) (a0 a2 : Option Addr) (c0 c2 : Nat) (p0 p1 : List PtV), e = .returned (.tuple #[.slice (some ⟨g, 0, none⟩) 2 c, .int .i64 0]) ∧ 2 ≤ c ∧ c ≤ maxLen ∧ g < w'.heap.size ∧ w'.cell? ⟨g, 0, none⟩ = some (.slice a0 2 c0) ∧ w'.cell? ⟨g, 1, none⟩ = some (.slice a2 m1 c2) ∧ p0.length = 2 ∧ p1.length = m1 ∧ p0.map PtV.p = sevA ∧ p1.map PtV.p = sevB ∧ SelOk w' ⟨p0, a0, c0⟩ ∧ SelOk w' ⟨p1, a2, c2⟩ ∧ Below w1.heap.size w1 w') := Lib.hid (R.mono fun e w' h => by
    obtain ⟨hb, h⟩ := h
    rcases h with ⟨h, _⟩ | ⟨g, c, n, ss, h1, h2, h3, h4, h5, h6, h7⟩
    · cases h
    · injection h1 with h1
      obtain ⟨s0, s1, rfl⟩ : ∃ s0 s1, ss = [s0, s1] := by
        have hl := congrArg List.length h1
        rw [List.length_map] at hl
        rcases ss with _ | ⟨s0, _ | ⟨s1, _ | ⟨s2, r⟩⟩⟩
        · simp at hl
        · simp at hl
        · exact ⟨_, _, rfl⟩
        · simp at hl
      · injection h1 with e0 h1
        injection h1 with e1 _
        subst h2
        obtain ⟨p0, a0, c0⟩ := s0
        obtain ⟨p1, a2, c2⟩ := s1
        obtain ⟨b, o, hbo, hbl, hcell, hok⟩ := h6.get (i := 0) (by simp)
        obtain ⟨b', o', hbo', hbl', hcell', hok'⟩ := h6.get (i := 1) (by simp)
        injection hbo with hbo; injection hbo with q1 q2
        injection hbo' with hbo'; injection hbo' with q3 q4
        subst q1; subst q2; subst q3; subst q4
        have hl0 : p0.length = 2 := by
          have := congrArg List.length e0.symm
          simp only [SelV.pure, List.length_map] at this
          rw [this]; rfl
        refine ⟨g, c, p1.length, a0, a2, c0, c2, p0, p1, h7, h4, h5, hbl, ?_, hcell', hl0, rfl, e0.symm, e1.symm, hok, hok', hb⟩
        rw [← hl0]; exact hcell)
  have HB := Lib.hid hb
  clear hT hb R
  go_wp2_with fail
  refine (R2.out).mono ?_
  rintro e w2 ⟨g, c, m1, a0, a2, c0, c2, p0, p1, rfl, hc, hcm, hg, d0, d1, l0, l1, hA, hB, k0, k1, hb2⟩
  have HB2 := Lib.hid (HB.out.trans (hb2.mono HB.out.size))
  have WG : Hid (Calls Tryz.prog 4 #[.agg #[.slice a0 2 c0]] w2 fun e w' => e = .returned (.agg #[.int .i64 1, .int .i64 1, .int .i64 1]) ∧ Below w2.heap.size w2 w') := Lib.hid (by
    have h := Weight_any ⟨p0, a0, c0⟩ w2 k0
    have e : SelV.pure ⟨p0, a0, c0⟩ = sevA := hA
    have e2 : SelV.val ⟨p0, a0, c0⟩ = .slice a0 2 c0 := by unfold SelV.val; rw [l0]
    rw [e, e2, sev_w] at h
    exact h)
  have HG := Lib.hid (And.intro hg (And.intro d1 (And.intro l1 (And.intro hB k1))))
  clear hg d1 l1 hA hB k0 k1 hb2 R2 CC
  go_wp2_with fail
  refine (WG.out).mono ?_
  rintro e w3 ⟨rfl, hb3⟩
  have HB3 := Lib.hid (HB2.out.trans (hb3.mono HB2.out.size))
  have PR : Hid (Calls Tryz.prog 25 #[.slice (some ⟨g, 1, none⟩) 1 (c - 1)] w3 fun e w' => ∃ a c, e = .returned (.tuple #[.slice a 3 c, .int .i64 0]) ∧ Tks w' a (listT [sevB]) ∧ 3 ≤ c ∧ c ≤ maxLen ∧ Below w3.heap.size w3 w') := Lib.hid (by
    obtain ⟨hg, d1, l1, hB, k1⟩ := HG.out
    have hS : Sls w3 (some ⟨g, 1, none⟩) [(⟨p1, a2, c2⟩ : SelV)] := Or.inr ⟨g, 1, rfl, Nat.lt_of_lt_of_le hg hb3.size, fun i hi => by
      have : i = 0 := by simp at hi; omega
      subst this
      refine ⟨(hb3.cell (p := ⟨g, 1, none⟩) hg).trans ?_, k1.below hb3⟩
      rw [d1, ← l1]; rfl⟩
    have h := Print_any (some ⟨g, 1, none⟩) [(⟨p1, a2, c2⟩ : SelV)] (c - 1) w3 (by simp) hS
    have e : [(⟨p1, a2, c2⟩ : SelV)].map SelV.pure = [sevB] := by
      show [p1.map PtV.p] = _
      rw [hB]
    rw [e] at h
    refine h.mono fun e w' h => ?_
    obtain ⟨h1, h2⟩ := h
    rw [if_pos sev_all, sev_list] at h1
    obtain ⟨a, c, e1, e2, e3, e4⟩ := h1
    exact ⟨a, c, e1, e2, e3, e4, h2⟩)
  have aeq := arr_eq7 w3
  clear hb3
  go_wp2_with fail
  refine (PR.out).mono ?_
  rintro e w4 ⟨a4, c4, rfl, hT4, hc4, hcm4, hb4⟩
  have HB4 := Lib.hid (HB3.out.trans (hb4.mono HB3.out.size))
  have RP : Hid (Calls Tryz.prog 26 #[.slice a4 3 c4] w4 fun e w' => e = .returned (.string ⟨#[91, 120, 93]⟩) ∧ Below w4.heap.size w4 w') := Lib.hid (by
    have h := refPr_any a4 (listT [sevB]) c4 w4 (by rw [sev_list]; omega) (by rw [sev_list]; exact hc4) hT4 sev_txt
    rw [sev_list, sev_print] at h
    exact h)
  clear hT4 hb4
  go_wp2_with fail
  refine (RP.out).mono ?_
  rintro e w5 ⟨rfl, hb5⟩
  have HB5 := Lib.hid (HB4.out.trans (hb5.mono HB4.out.size))
  clear hb5
  go_wp2_with fail
  go_ret
  exact ⟨rfl, HB5.out⟩
end Go.Proofs.YtfbfndknhabmhaaGreat

namespace Go.Proofs.YtfbfndknhabmhaaGreat
open Go.RowKit TreN LexP FixP SynP ValP SelP FixM
set_option linter.unusedVariables false

theorem Pts.part7 {w : World} {b o : Nat} {l : List PtV} (h : Pts w (some ⟨b, o, none⟩) l) (lo hi : Nat) : Pts w (some ⟨b, o + lo * 6, none⟩) ((l.take hi).drop lo) := by
  by_cases h0 : (l.take hi).drop lo = []
  · exact Or.inl h0
  · have hlen := List.length_pos_iff.2 h0
    rw [List.length_drop, List.length_take] at hlen
    rcases h with h | ⟨b2, o2, e, h1, h2⟩
    · subst h; simp at hlen
    · injection e with e; injection e with e1 e2; subst e1; subst e2
      refine Or.inr ⟨b, _, rfl, h1, fun i hi' => ?_⟩
      rw [List.length_drop, List.length_take] at hi'
      have := h2 (lo + i) (by omega)
      have e3 : ((l.take hi).drop lo)[i] = l[lo + i]'(by omega) := by
        rw [List.getElem_drop, List.getElem_take]
      rw [e3]
      refine ⟨fun j hj => ?_, this.2⟩
      have e2 : o + lo * 6 + i * 6 + j = o + (lo + i) * 6 + j := by omega
      rw [e2]; exact this.1 j hj
theorem sliced_pt7 (a : Option Addr) (l : List PtV) (cap lo hi : Nat) (h1 : lo ≤ hi) (h2 : hi ≤ l.length) (h3 : l.length ≤ cap) (h4 : cap ≤ maxLen) :
    ∃ a2, sliced a lo hi cap 6 = .slice a2 (hi - lo) (cap - lo) ∧ ∀ W : World, Pts W a l → Pts W a2 ((l.take hi).drop lo) := by
  obtain ⟨a2, ha⟩ : ∃ a2, sliced a lo hi cap 6 = .slice a2 (hi - lo) (cap - lo) := ⟨_, by unfold sliced; rfl⟩
  refine ⟨a2, ha, fun W hW => ?_⟩
  by_cases h0 : (l.take hi).drop lo = []
  · exact Or.inl h0
  · have hlen : lo < hi := by
      have := List.length_pos_iff.2 h0
      rw [List.length_drop, List.length_take] at this
      omega
    have hl0 : 0 < l.length := by omega
    rcases hW with h | ⟨b, o, e, hb, ht⟩
    · subst h; simp at hl0
    · subst e
      have : sliced (some ⟨b, o, none⟩) lo hi cap 6 = .slice (some ⟨b, o + lo * 6, none⟩) (hi - lo) (cap - lo) := by
        unfold sliced
        have hck : ¬ cap = lo := by omega
        by_cases hz : lo = 0
        · subst hz; simp [Addr.add_lit]
        · simp [hck, Addr.add_lit]
      rw [this] at ha
      injection ha with ha _ _
      rw [← ha]
      exact Pts.part7 (Or.inr ⟨b, o, rfl, hb, ht⟩) lo hi
theorem slice_size7 (W : World) : (sizeOf (Tryz.prog.elem 22)).run Tryz.prog W = .ok 6 W := by
  obtain ⟨i, hi, hz0, hz1, hz2⟩ := info_parts info_part7
  have he : Tryz.prog.elem 22 = 36 := by kernel_rfl
  rw [he]; simp [sizeOf, typeInfo, hi, hz1]
theorem slice_und7 : Tryz.prog.underlying 22 = some (.slice (Tryz.prog.elem 22)) := by
  have he : Tryz.prog.elem 22 = 36 := by kernel_rfl
  rw [he]; exact und_parts7
theorem psl_from (a : Option Addr) (l : List PtV) (cap n lo : Nat) (hn : l.length = n) (z : Int) (hz : z = (lo : Int)) (h1 : lo ≤ n) (h3 : n ≤ cap) (h4 : cap ≤ maxLen) :
    ∃ a2, (∀ W : World, (Instr.slice 22 (.slice a n cap) (some (.int .i64 z)) none none).run Tryz.prog W = .ok (.slice a2 (n - lo) (cap - lo)) W) ∧ ∀ W : World, Pts W a l → Pts W a2 (l.drop lo) := by
  subst hn
  obtain ⟨a2, h5, h6⟩ := sliced_pt7 a l cap lo l.length h1 (Nat.le_refl _) h3 h4
  refine ⟨a2, fun W => ?_, fun W hW => ?_⟩
  · rw [run_slice_l W 22 _ _ _ slice_und7 .i64 z (by omega) (by omega), slice_size7]
    have e : z.toNat = lo := by omega
    show Result.ok (sliced a z.toNat l.length cap 6) W = _
    rw [e, h5]
  · have := h6 W hW
    rwa [List.take_length] at this
theorem psl_to (a : Option Addr) (l : List PtV) (cap n hi : Nat) (hn : l.length = n) (z : Int) (hz : z = (hi : Int)) (h1 : hi ≤ n) (h3 : n ≤ cap) (h4 : cap ≤ maxLen) :
    ∃ a2, (∀ W : World, (Instr.slice 22 (.slice a n cap) none (some (.int .i64 z)) none).run Tryz.prog W = .ok (.slice a2 hi cap) W) ∧ ∀ W : World, Pts W a l → Pts W a2 (l.take hi) := by
  subst hn
  obtain ⟨a2, h5, h6⟩ := sliced_pt7 a l cap 0 hi (Nat.zero_le _) h1 h3 h4
  refine ⟨a2, fun W => ?_, fun W hW => ?_⟩
  · rw [run_slice_h W 22 _ _ _ slice_und7 .i64 z (by omega) (by omega), slice_size7]
    have e : z.toNat = hi := by omega
    show Result.ok (sliced a 0 z.toNat cap 6) W = _
    rw [e, h5]; rfl
  · exact h6 W hW
theorem arr_self7 (a b c : Int) (W : World) : (Op.equalIn 10000 25 (.agg #[.int .i64 a, .int .i64 b, .int .i64 c]) (.agg #[.int .i64 a, .int .i64 b, .int .i64 c])).run Tryz.prog W = .ok true W := by
  obtain ⟨i, hi⟩ : ∃ i, Tryz.prog.info? 3 = some i := Option.isSome_iff_exists.1 (by kernel_rfl)
  have hc : Tryz.prog.cellsOf 3 = 1 := by kernel_rfl
  have p0 : ∀ w : World, (part 3 #[.int .i64 a, .int .i64 b, .int .i64 c] 0).run Tryz.prog w = .ok (.int .i64 a) w := fun w => by kernel_rfl
  have p1 : ∀ w : World, (part 3 #[.int .i64 a, .int .i64 b, .int .i64 c] 1).run Tryz.prog w = .ok (.int .i64 b) w := fun w => by kernel_rfl
  have p2 : ∀ w : World, (part 3 #[.int .i64 a, .int .i64 b, .int .i64 c] 2).run Tryz.prog w = .ok (.int .i64 c) w := fun w => by kernel_rfl
  rw [run_equalIn_array W 9999 (e := 3) (n := 3) _ _ Tryz.underlying25 hi, hc]
  have hr : List.range 3 = [0, 1, 2] := rfl
  rw [hr]
  simp only [Op.eqItems, Sem.run_ite, Sem.run_bind, Nat.mul_one, p0, p1, p2, Result.andThen_ok, run_equalIn_int W 9998 3 .i64 .i64 a a Tryz.underlying3, run_equalIn_int W 9998 3 .i64 .i64 b b Tryz.underlying3, run_equalIn_int W 9998 3 .i64 .i64 c c Tryz.underlying3]
  simp
theorem wI_two (p q : Nat × Nat × Nat) : wI (wAdd p q) = (IntKind.i64.wrap ((wI p).1 + (wI q).1), IntKind.i64.wrap ((wI p).2.1 + (wI q).2.1), IntKind.i64.wrap ((wI p).2.2 + (wI q).2.2)) := by
  unfold wI wAdd
  simp only [wrap7, wrap7r, Int.natCast_add]
theorem weight_said (ps : List PtV) (a : Option Addr) (n c : Nat) (P : List Prt) (x y z : Int) (W : World) (hn : ps.length = n) (hP : ps.map PtV.p = P) (hw : wI (wS P) = (x, y, z)) (h1 : n ≤ c) (h2 : c ≤ maxLen) (h : Pts W a ps) : Calls Tryz.prog 4 #[.agg #[.slice a n c]] W fun e w' => e = .returned (.agg #[.int .i64 x, .int .i64 y, .int .i64 z]) ∧ Below W.heap.size W w' := by
  subst hn; subst hP
  have h := Weight_any ⟨ps, a, c⟩ W ⟨h1, h2, h⟩
  have e : wS (SelV.pure ⟨ps, a, c⟩) = wS (ps.map PtV.p) := rfl
  rw [e, hw] at h
  exact h
end Go.Proofs.YtfbfndknhabmhaaGreat
