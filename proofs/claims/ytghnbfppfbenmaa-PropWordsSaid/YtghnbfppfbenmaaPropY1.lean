/- Layer 10: values with a / between each two. -/
import Derived.Test.YtghnbfppfbenmaaPropXc
namespace Go.Proofs.Ytghnbfppfbenmaa.PropP
open FixM FixP TreN LexP SynP ValP
set_option linter.unusedVariables false

/-- values with a / between each two -/
def ptd : Nat → List Tok → Option (List Val)
  | 0, _ => none
  | f + 1, l =>
    if (readV (bs l)).2 = 0 then none
    else match passP 19 [47] (bs ((bs l).drop (readV (bs l)).2)) with
      | some r => (ptd f r).map ((readV (bs l)).1 :: ·)
      | none => if bs ((bs l).drop (readV (bs l)).2) = [] then some [(readV (bs l)).1] else none
def partedV (l : List Tok) : Option (List Val) := ptd (l.length + 1) l
theorem pass_eq {k : Int} {x : List UInt8} {l r : List Tok} (h : passP k x l = some r) : ∃ t, l = t :: r ∧ t.kind = k ∧ t.text = x := by
  unfold passP at h
  split at h
  · rename_i ht
    cases hq : takeP k l with
    | none => rw [hq] at h; cases h
    | some tr =>
      obtain ⟨t, r'⟩ := tr
      rw [hq] at h
      injection h with h
      have h : r' = r := h
      subst h
      obtain ⟨e, hk⟩ := takeP_len hq
      refine ⟨t, e, hk, ?_⟩
      rw [e] at ht
      exact ht
  · cases h
theorem ptd_left (l : List Tok) (h : (readV (bs l)).2 ≠ 0) : (bs ((bs l).drop (readV (bs l)).2)).length < l.length := by
  have h1 := bs_len l
  have h2 := bs_len ((bs l).drop (readV (bs l)).2)
  have h3 := readV_le (bs l)
  rw [List.length_drop] at h2
  omega
theorem ptd_same : ∀ (f : Nat) (l : List Tok) (g : Nat), l.length < f → l.length < g → ptd f l = ptd g l
  | 0, l, g, h, _ => by omega
  | f + 1, l, 0, _, h => by omega
  | f + 1, l, g + 1, h1, h2 => by
    unfold ptd
    by_cases h0 : (readV (bs l)).2 = 0
    · rw [if_pos h0, if_pos h0]
    · rw [if_neg h0, if_neg h0]
      have hl := ptd_left l h0
      cases hp : passP 19 [47] (bs ((bs l).drop (readV (bs l)).2)) with
      | none => rfl
      | some r =>
        obtain ⟨t, e, _, _⟩ := pass_eq hp
        rw [e, List.length_cons] at hl
        simp only []
        rw [ptd_same f r g (by omega) (by omega)]
theorem ptd_right : ∀ (f : Nat) (l : List Tok) (vs : List Val), ptd f l = some vs → vs ≠ [] ∧ vs.length ≤ l.length ∧ ∀ v ∈ vs, rightV v = true
  | 0, l, vs, h => by cases h
  | f + 1, l, vs, h => by
    unfold ptd at h
    by_cases h0 : (readV (bs l)).2 = 0
    · rw [if_pos h0] at h; cases h
    · rw [if_neg h0] at h
      have hl := ptd_left l h0
      have hr : rightV (readV (bs l)).1 = true := by
        cases hr : rightV (rawV (bs l)).1 with
        | false => exact absurd (readV_zero.2 hr) h0
        | true => unfold readV; rw [if_pos hr]; exact hr
      cases hp : passP 19 [47] (bs ((bs l).drop (readV (bs l)).2)) with
      | none =>
        rw [hp] at h
        simp only [] at h
        split at h
        · injection h with h; subst h; exact ⟨by simp, by simp; omega, fun v hv => by rw [List.mem_singleton] at hv; subst hv; exact hr⟩
        · cases h
      | some r =>
        rw [hp] at h
        obtain ⟨t, e, _, _⟩ := pass_eq hp
        rw [e, List.length_cons] at hl
        simp only [] at h
        cases hq : ptd f r with
        | none => rw [hq] at h; cases h
        | some ws =>
          rw [hq] at h
          injection h with h
          subst h
          obtain ⟨_, k2, k3⟩ := ptd_right f r ws hq
          refine ⟨by simp, by rw [List.length_cons]; omega, fun v hv => ?_⟩
          rcases List.mem_cons.1 hv with rfl | hv
          · exact hr
          · exact k3 v hv
end Go.Proofs.Ytghnbfppfbenmaa.PropP

namespace Go.Proofs.Ytghnbfppfbenmaa
open Go.RowKit TreN LexP FixP SynP ValP PropP FixM
set_option linter.unusedVariables false

def PtAt (L : List Tok) (acc : List Val) (p : Bool) (m : List Tok) : Prop :=
  TxOk m ∧ m.length ≤ L.length ∧ if p = true then partedV L = (ptd (m.length + 1) m).map (acc ++ ·) else partedV L = if m = [] then some acc else none
theorem PtAt.fail {L : List Tok} {acc : List Val} {m : List Tok} (h : PtAt L acc true m) (hr : (readV (bs m)).2 = 0) : partedV L = none := by
  obtain ⟨h1, h2, h3⟩ := h
  rw [if_pos rfl] at h3
  rw [h3]
  have e : ptd (m.length + 1) m = none := by unfold ptd; rw [if_pos hr]
  rw [e]; rfl
theorem PtAt.more {L : List Tok} {acc : List Val} {m r : List Tok} (h : PtAt L acc true m) (hr : (readV (bs m)).2 ≠ 0) (hp : passP 19 [47] (bs ((bs m).drop (readV (bs m)).2)) = some r) : PtAt L (acc ++ [(readV (bs m)).1]) true r := by
  obtain ⟨h1, h2, h3⟩ := h
  have hl := ptd_left m hr
  obtain ⟨t, e, _, _⟩ := pass_eq hp
  have hlr : r.length < m.length := by rw [e, List.length_cons] at hl; omega
  have hs : r <:+ m := by
    have h1 : r <:+ bs ((bs m).drop (readV (bs m)).2) := by rw [e]; exact List.suffix_cons _ _
    exact h1.trans ((bs_suf _).trans ((List.drop_suffix _ _).trans (bs_suf _)))
  refine ⟨h1.suf hs, by omega, ?_⟩
  rw [if_pos rfl] at h3 ⊢
  rw [h3]
  have e2 : ptd (m.length + 1) m = (ptd m.length r).map ((readV (bs m)).1 :: ·) := by
    conv => lhs; unfold ptd
    rw [if_neg hr, hp]
  rw [e2, ptd_same m.length r (r.length + 1) (by omega) (by omega), Option.map_map]
  congr 1
  funext z
  simp
theorem PtAt.last {L : List Tok} {acc : List Val} {m : List Tok} (h : PtAt L acc true m) (hr : (readV (bs m)).2 ≠ 0) (hp : passP 19 [47] (bs ((bs m).drop (readV (bs m)).2)) = none) : PtAt L (acc ++ [(readV (bs m)).1]) false (bs ((bs m).drop (readV (bs m)).2)) := by
  obtain ⟨h1, h2, h3⟩ := h
  have hl := ptd_left m hr
  have hs : bs ((bs m).drop (readV (bs m)).2) <:+ m := (bs_suf _).trans ((List.drop_suffix _ _).trans (bs_suf _))
  refine ⟨h1.suf hs, by omega, ?_⟩
  rw [if_pos rfl] at h3
  rw [if_neg (by simp), h3]
  have e2 : ptd (m.length + 1) m = if bs ((bs m).drop (readV (bs m)).2) = [] then some [(readV (bs m)).1] else none := by
    conv => lhs; unfold ptd
    rw [if_neg hr, hp]
  rw [e2]
  split <;> rfl

set_option maxRecDepth 100000 in
set_option maxHeartbeats 4000000 in
theorem tellParted_any (a : Option Addr) (l : List Tok) (n0 cap : Nat) (w : World) (hn : l.length = n0) (h1 : n0 ≤ cap) (h2 : cap ≤ maxLen) (hl : n0 ≤ 90000) (hT : Tks w a l) (hx : TxOk l) :
    Calls Try.prog 64 #[.slice a n0 cap] w (PvIs w (partedV l)) := by
  have HP0 : Hid (PtAt l [] true l) := Lib.hid ⟨hx, Nat.le_refl _, by rw [if_pos rfl]; unfold partedV; cases ptd (l.length + 1) l <;> rfl⟩
  obtain ⟨i0, hi0, hz0, hz1, hz2⟩ := info_parts info_value
  obtain ⟨R, hR⟩ : ∃ R, partedV l = R := ⟨_, rfl⟩
  have HR := Lib.hid hR
  rw [hR]
  have HC1 : Hid (Cur w (w.alloc (.cells #[.slice a n0 cap] 78)) w.heap.size 78 [] l) := Lib.hid ⟨⟨a, cap, by rw [hn]; exact heap_alloc_new w _, by omega, h2, hT⟩, Nat.le_refl _, below_one9 _ _⟩
  have HLN := Lib.hid hn
  have HL0 : Hid (l.length ≤ 90000) := Lib.hid (by omega)
  clear hR hn h1 h2 hT hx
  go_enter Try.func64, Try.ntmps64
  go_wp2_with fail
  go_loopg [5, 6] (n0 + 2) (fun gk v5 v6 wr => ∃ (m : List Tok) (acc : List Val) (p : Bool), v6 = .bool p ∧ gk = (if p = true then m.length + 2 else 0) ∧ wr.ownsRow (w.heap.size + 1) 26 4 v5 acc.length (vcs acc) ∧ Hid (Cur w wr w.heap.size 78 [] m) ∧ Hid (PtAt l acc p m) ∧ Hid (acc.length + m.length ≤ 90000))
  case atStart => exact ⟨l, [], true, rfl, by rw [HLN.out]; rfl, World.ownsRow_nil _ _ _ 4, HC1, HP0, Lib.hid (by have := HL0.out; simp; omega)⟩
  case round =>
    obtain ⟨m, acc, p, rfl, hg, hown, HC, HP, HL⟩ := hrel
    have HO := Lib.hid hown
    clear hown
    have HBW : Hid (Below w.heap.size w wr) := Lib.hid HC.out.bel
    cases p with
    | false =>
      obtain ⟨a2, c2, hblk, k1, k2, k3⟩ := HC.out.ex
      obtain ⟨mn, hmn⟩ : ∃ mn, m.length = mn := ⟨_, rfl⟩
      rw [hmn] at hblk
      have c0 : wr.cell? ⟨w.heap.size, 0, none⟩ = some (.slice a2 mn c2) := cell_of hblk rfl
      have hF : (m = [] ∧ R = some acc) ∨ (m ≠ [] ∧ R = none) := by
        have h3 := HP.out.2.2
        rw [if_neg (by simp), HR.out] at h3
        by_cases h0 : m = []
        · exact Or.inl ⟨h0, by rw [h3, if_pos h0]⟩
        · exact Or.inr ⟨h0, by rw [h3, if_neg h0]⟩
      have hmb : mn ≤ 90000 := by have := HL.out; omega
      rcases hF with ⟨h0, hF⟩ | ⟨h0, hF⟩
      · have hz : mn = 0 := by rw [← hmn, h0]; rfl
        subst hz
        have HF := Lib.hid hF
        clear hF h0 hmn hblk k1 k2 k3 hg
        go_wp2_with fail
        go_ret2
        exact pvIs_some HF.out ⟨_, HO.out⟩ HBW.out
      · have hz : 0 < mn := by rw [← hmn]; exact List.length_pos_iff.2 h0
        have hzz : (0 : Int) < (mn : Int) := by omega
        have HF := Lib.hid hF
        clear hF h0 hmn hblk k1 k2 k3 hg
        go_wp2_with fail
        go_ret2
        exact pvIs_none HF.out HBW.out
    | true =>
      have SP := Lib.hid (Spaces_any HC.out)
      have hbl := bs_len m
      have HTX : Hid (TxOk (bs m)) := Lib.hid (HP.out.1.suf (bs_suf m))
      obtain ⟨s, hs⟩ : ∃ s, bs m = s := ⟨_, rfl⟩
      obtain ⟨sp, hsp⟩ : ∃ b, decide ((bs m).length < m.length) = b := ⟨_, rfl⟩
      rw [hsp, hs] at SP
      rw [hs] at HTX hbl
      have HS := Lib.hid hs
      have HGM : Hid (gk = m.length + 2) := Lib.hid (by rw [if_pos rfl] at hg; exact hg)
      have hsb : s.length ≤ 90000 := by have := HL.out; omega
      have HBL := Lib.hid hbl
      clear hs hsp hg hbl
      go_wp2_with fail
      refine SP.out.mono ?_
      rintro e w1 ⟨rfl, hg1, hc1⟩
      have HC2 := Lib.hid hc1
      have HO1 := Lib.hid (ownsRow_cur HO.out hg1)
      have HB1 : Hid (Below w.heap.size w w1) := Lib.hid hc1.bel
      obtain ⟨a2, c2, hblk, k1, k2, k3⟩ := hc1.ex
      obtain ⟨mn, hmn⟩ : ∃ mn, s.length = mn := ⟨_, rfl⟩
      have hT2 : Tks w1 a2 s := k3.below hc1.bel
      have hPl := blk_lt9 hblk
      rw [hmn] at hblk hsb
      have c0 : w1.cell? ⟨w.heap.size, 0, none⟩ = some (.slice a2 mn c2) := cell_of hblk rfl
      have HBLK := Lib.hid hblk
      have RD := Read9_any a2 s c2 w1 (by rw [hmn]; omega) k2 hT2 HTX.out
      have hle := readV_le s
      obtain ⟨⟨vk, vn, vd, vx⟩, hv⟩ : ∃ v, (readV s).1 = v := ⟨_, rfl⟩
      obtain ⟨q, hq⟩ : ∃ q, (readV s).2 = q := ⟨_, rfl⟩
      rw [hv, hq, hmn] at RD
      rw [hq, hmn] at hle
      have RD2 : Hid (Calls Try.prog 84 #[.slice a2 mn c2] w1 fun e w' => e = .returned (.tuple #[.agg #[.int .i64 vk, .int .i64 vn, .int .i64 vd, .string ⟨vx.toArray⟩], .int .i64 (q : Nat)]) ∧ Below w1.heap.size w1 w') := Lib.hid RD
      clear hg1 hc1 HO HC SP HBW
      rcases Nat.eq_zero_or_pos q with hq0 | hq0
      · subst hq0
        have HF : Hid (R = none) := Lib.hid (by rw [← HR.out]; exact HP.out.fail (by rw [HS.out]; exact hq))
        clear RD hv hq hmn hblk hT2 k1 k2 k3 hle
        go_wp2_with fail
        refine RD2.out.mono ?_
        rintro e w2 ⟨rfl, hb2⟩
        have HB2 := Lib.hid (HB1.out.trans (hb2.mono HB1.out.size))
        clear hb2
        go_wp2_with fail
        go_ret2
        exact pvIs_none HF.out (HB2.out.alloc HB2.out.size _)
      · have hqz : ((q : Int) == 0) = false := by rw [beq_eq_false_iff_ne]; omega
        have hne : (readV (bs m)).2 ≠ 0 := by rw [HS.out, hq]; omega
        obtain ⟨a3, s1, s2, s3, s4, s5⟩ := sl_from a2 s c2 mn q hmn (q : Int) rfl hle (by omega) k2
        have HT3 := Lib.hid (s5 w k3)
        have HS2 := Lib.hid s2
        have hb90 : acc.length ≤ 90000 := by have := HL.out; omega
        have hq0' : (0 : Int) ≤ (q : Int) := by omega
        have hqm : (q : Int) ≤ (mn : Int) := by omega
        obtain ⟨r0, hr0⟩ : ∃ r, bs (s.drop q) = r := ⟨_, rfl⟩
        have hrl : r0.length < m.length ∧ acc.length + 1 + r0.length ≤ 90000 := by
          have h1 := bs_len (s.drop q)
          rw [List.length_drop] at h1
          have h2 := HBL.out
          have h3 := HL.out
          rw [hr0] at h1
          omega
        have HRL := Lib.hid hrl
        have HPN : Hid ((∀ r, passP 19 [47] r0 = some r → PtAt l (acc ++ [(⟨vk, vn, vd, vx⟩ : Val)]) true r) ∧ (passP 19 [47] r0 = none → PtAt l (acc ++ [(⟨vk, vn, vd, vx⟩ : Val)]) false r0)) := Lib.hid (by
          have e1 : bs ((bs m).drop (readV (bs m)).2) = r0 := by rw [HS.out, hq]; exact hr0
          have e2 : (readV (bs m)).1 = ⟨vk, vn, vd, vx⟩ := by rw [HS.out]; exact hv
          refine ⟨fun r hr => ?_, fun hr => ?_⟩
          · have := HP.out.more hne (by rw [e1]; exact hr); rw [e2] at this; exact this
          · have := HP.out.last hne (by rw [e1]; exact hr); rw [e2, e1] at this; exact this)
        have HR0 := Lib.hid hr0
        clear RD hv hq hmn hblk hT2 k1 k3 hne s2 s5 hr0 hrl HP
        go_wp2_with fail
        refine RD2.out.mono ?_
        rintro e w2 ⟨rfl, hb2⟩
        go_upto_region 10 with (fail)
        have hO2 := (ownsRow_below HO1.out hb2).alloc (.cells #[.int .i64 vk, .int .i64 vn, .int .i64 vd, .string ⟨vx.toArray⟩] 26)
        have hC2 := HC2.out.keep (hb2.trans ((below_one9 w2 (.cells #[.int .i64 vk, .int .i64 vn, .int .i64 vd, .string ⟨vx.toArray⟩] 26)).mono hb2.size))
        have hnew : (w2.alloc (.cells #[.int .i64 vk, .int .i64 vn, .int .i64 vd, .string ⟨vx.toArray⟩] 26)).heap[w2.heap.size]? = some (.cells #[.int .i64 vk, .int .i64 vn, .int .i64 vd, .string ⟨vx.toArray⟩] 26 (0, 0)) := heap_alloc_new w2 _
        have hP3 := (Below.heap_alloc w2 (.cells #[.int .i64 vk, .int .i64 vn, .int .i64 vd, .string ⟨vx.toArray⟩] 26) _ (Nat.lt_of_lt_of_le hPl hb2.size)).trans ((hb2.block _ hPl).trans HBLK.out)
        generalize hw3 : w2.alloc (.cells #[.int .i64 vk, .int .i64 vn, .int .i64 vd, .string ⟨vx.toArray⟩] 26) = w3 at *
        obtain ⟨B3, hB3⟩ : ∃ B, w2.heap.size = B := ⟨_, rfl⟩
        rw [hB3] at hnew ⊢
        have e0 : w3.cell? ⟨B3, 0, none⟩ = some (.int .i64 vk) := cell_of hnew rfl
        have e1 : w3.cell? ⟨B3, 1, none⟩ = some (.int .i64 vn) := cell_of hnew rfl
        have e2 : w3.cell? ⟨B3, 2, none⟩ = some (.int .i64 vd) := cell_of hnew rfl
        have e3 : w3.cell? ⟨B3, 3, none⟩ = some (.string ⟨vx.toArray⟩) := cell_of hnew rfl
        have hrow : ∀ r, u5.ownBlock = some r → w.heap.size + 1 ≤ r := fun r hr => (World.ownsRow.lt hO2 r hr).1
        have HC3 := Lib.hid hC2
        have hP3l := blk_lt9 hP3
        have HP3 := Lib.hid hP3
        clear hw3 hB3 hnew hb2 hC2 hP3 c0
        go_wp2_with (at_builtin; refine wpList_append_own _ rfl _ _ 34 rfl (w.heap.size + 1) 26 i0 _ 4 40 und_values hi0 hz0 hz1 hz2 rfl (by decide) _ _ _ rfl (hO2.alloc _) ⟨w3.heap.size, 0, none⟩ 1 1 (vc ⟨vk, vn, vd, vx⟩) rfl rfl ?c1 ?c2 ?c3 ?c4 ?c5 ?_)
        case c1 => exact value_news w3 ⟨vk, vn, vd, vx⟩ _ rfl
        case c2 => intro u hu; exact vcs_one [⟨vk, vn, vd, vx⟩] u (by simpa [vcs] using hu)
        case c3 => unfold maxLen; omega
        case c4 => omega
        case c5 => simp; omega
        intro v' w4 hown' hgrow _
        have hC4 := (HC3.out.keep (below_one9 w3 (.cells #[.int .i64 vk, .int .i64 vn, .int .i64 vd, .string ⟨vx.toArray⟩] 26))).grown hgrow (fun k hk => by have := hrow k hk; omega)
        have hP4 : w4.heap[w.heap.size]? = some (.cells (.slice a2 mn c2 :: []).toArray 78 (0, 0)) := by
          rw [hgrow.block _ (by simp; omega) (by intro e; have := hrow _ e.symm; omega), Below.heap_alloc _ _ _ hP3l]; exact HP3.out
        have c4 : w4.cell? ⟨w.heap.size, 0, none⟩ = some (.slice a2 mn c2) := cell_of hP4 rfl
        have f4 : w4.frozen? ⟨w.heap.size, 0, none⟩ = false := unfrozen_of hP4
        have hst : w4.grownBy (w4.setCell ⟨w.heap.size, 0, none⟩ (.slice a3 (mn - q) (c2 - q))) (some w.heap.size) := grownBy_set _ _ _ _
        have HC5 : Hid (Cur w (w4.setCell ⟨w.heap.size, 0, none⟩ (.slice a3 (mn - q) (c2 - q))) w.heap.size 78 [] (s.drop q)) := Lib.hid ⟨⟨a3, c2 - q, by rw [setCell_here _ hP4, HS2.out]; rfl, by rw [HS2.out]; exact s3, s4, HT3.out⟩, hC4.base, hC4.bel.setCell (p := ⟨w.heap.size, 0, none⟩) hC4.base _⟩
        have HO5 : Hid ((w4.setCell ⟨w.heap.size, 0, none⟩ (.slice a3 (mn - q) (c2 - q))).ownsRow (w.heap.size + 1) 26 4 v' (acc.length + 1) (vcs acc ++ vc ⟨vk, vn, vd, vx⟩)) := Lib.hid (ownsRow_cur hown' hst)
        clear hown' hgrow hC4 hP4 hst hO2
        go_wp2_with fail
        refine (Spaces_any HC5.out).mono ?_
        rintro e w6 ⟨rfl, hg6, hc6⟩
        rw [HR0.out] at hc6
        have hO6 := ownsRow_cur HO5.out hg6
        have hO7 : w6.ownsRow (w.heap.size + 1) 26 4 v' (acc ++ [(⟨vk, vn, vd, vx⟩ : Val)]).length (vcs (acc ++ [(⟨vk, vn, vd, vx⟩ : Val)])) := by
          rw [List.length_append, vcs_append]; simpa [vcs] using hO6
        have HO7 := Lib.hid hO7
        have HC6 := Lib.hid hc6
        clear hg6 hO6 hO7 hc6
        obtain ⟨bb, hbb⟩ : ∃ bb, decide ((bs (s.drop q)).length < (s.drop q).length) = bb := ⟨_, rfl⟩
        rw [hbb]
        clear hbb
        cases hps : passP 19 [47] r0 with
        | none =>
          have PN := Lib.hid (Pass_no 19 [47] HC6.out hps)
          have HPP := Lib.hid (HPN.out.2 hps)
          clear hps
          go_wp2_with fail
          refine PN.out.mono ?_
          rintro e w7 ⟨rfl, hb7⟩
          have HO8 := Lib.hid (ownsRow_below HO7.out hb7)
          have HC8 := Lib.hid (HC6.out.keep hb7)
          clear hb7
          go_wp2_with fail
          go_roundg 0
          case rel => exact ⟨r0, acc ++ [(⟨vk, vn, vd, vx⟩ : Val)], false, rfl, rfl, HO8.out, HC8, HPP, Lib.hid (by have := HRL.out; rw [List.length_append]; simp; omega)⟩
          case measure => have := HGM.out; omega
        | some r =>
          obtain ⟨⟨tk, tt, tn⟩, hrt, ht1, ht2⟩ := pass_eq hps
          have ht1 : tk = 19 := ht1
          have ht2 : tt = [47] := ht2
          subst ht1; subst ht2
          have HC6' := HC6.out
          rw [hrt] at HC6'
          have PY := Lib.hid (Pass_yes HC6')
          have HPP := Lib.hid (HPN.out.1 r hps)
          have HRR : Hid (r.length + 1 = r0.length) := Lib.hid (by rw [hrt]; rfl)
          clear hps hrt HC6'
          go_wp2_with fail
          refine PY.out.mono ?_
          rintro e w7 ⟨rfl, hg7, hc7⟩
          have HO8 := Lib.hid (ownsRow_cur HO7.out hg7)
          have HC8 := Lib.hid hc7
          clear hg7 hc7
          go_wp2_with fail
          go_roundg (r.length + 2)
          case rel => exact ⟨r, acc ++ [(⟨vk, vn, vd, vx⟩ : Val)], true, rfl, rfl, HO8.out, HC8, HPP, Lib.hid (by have := HRL.out; have := HRR.out; rw [List.length_append]; simp; omega)⟩
          case measure => have := HGM.out; have := HRL.out; have := HRR.out; omega
end Go.Proofs.Ytghnbfppfbenmaa
