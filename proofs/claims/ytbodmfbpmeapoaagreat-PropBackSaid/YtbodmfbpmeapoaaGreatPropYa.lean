/- Joined texts: PropY1 PropZ PropY2 PropM. -/
import Derived.Test.YtbodmfbpmeapoaaGreatPropXc
import Derived.Test.YtbodmfbpmeapoaaGreatValTk
import Derived.Test.YtbodmfbpmeapoaaGreatLexE
import Derived.StillTailTactics
namespace Go.Proofs.YtbodmfbpmeapoaaGreat.PropP
open FixM FixP TreN LexP SynP ValP
set_option linter.unusedVariables false

/-- values with a / between each two -/
def ptd : Nat → List Tok → Option (List Val)
  | 0, _ => none
  | f + 1, l =>
    if (readV (bs l)).2 = 0 then none
    else match passP 19 [47] (bs ((bs l).drop (readV (bs l)).2)) with
      | some r => (ptd f r).map ((readV (bs l)).1 :: ·)
      | none => if bs ((bs l).drop (readV (bs l)).2) = [] then some [(readV (bs l)).1] else none
def partedV (l : List Tok) : Option (List Val) := ptd (l.length + 1) l
theorem pass_eq {k : Int} {x : List UInt8} {l r : List Tok} (h : passP k x l = some r) : ∃ t, l = t :: r ∧ t.kind = k ∧ t.text = x := by
  unfold passP at h
  split at h
  · rename_i ht
    cases hq : takeP k l with
    | none => rw [hq] at h; cases h
    | some tr =>
      obtain ⟨t, r'⟩ := tr
      rw [hq] at h
      injection h with h
      have h : r' = r := h
      subst h
      obtain ⟨e, hk⟩ := takeP_len hq
      refine ⟨t, e, hk, ?_⟩
      rw [e] at ht
      exact ht
  · cases h
theorem ptd_left (l : List Tok) (h : (readV (bs l)).2 ≠ 0) : (bs ((bs l).drop (readV (bs l)).2)).length < l.length := by
  have h1 := bs_len l
  have h2 := bs_len ((bs l).drop (readV (bs l)).2)
  have h3 := readV_le (bs l)
  rw [List.length_drop] at h2
  omega
theorem ptd_same : ∀ (f : Nat) (l : List Tok) (g : Nat), l.length < f → l.length < g → ptd f l = ptd g l
  | 0, l, g, h, _ => by omega
  | f + 1, l, 0, _, h => by omega
  | f + 1, l, g + 1, h1, h2 => by
    unfold ptd
    by_cases h0 : (readV (bs l)).2 = 0
    · rw [if_pos h0, if_pos h0]
    · rw [if_neg h0, if_neg h0]
      have hl := ptd_left l h0
      cases hp : passP 19 [47] (bs ((bs l).drop (readV (bs l)).2)) with
      | none => rfl
      | some r =>
        obtain ⟨t, e, _, _⟩ := pass_eq hp
        rw [e, List.length_cons] at hl
        simp only []
        rw [ptd_same f r g (by omega) (by omega)]
theorem ptd_right : ∀ (f : Nat) (l : List Tok) (vs : List Val), ptd f l = some vs → vs ≠ [] ∧ vs.length ≤ l.length ∧ ∀ v ∈ vs, rightV v = true
  | 0, l, vs, h => by cases h
  | f + 1, l, vs, h => by
    unfold ptd at h
    by_cases h0 : (readV (bs l)).2 = 0
    · rw [if_pos h0] at h; cases h
    · rw [if_neg h0] at h
      have hl := ptd_left l h0
      have hr : rightV (readV (bs l)).1 = true := by
        cases hr : rightV (rawV (bs l)).1 with
        | false => exact absurd (readV_zero.2 hr) h0
        | true => unfold readV; rw [if_pos hr]; exact hr
      cases hp : passP 19 [47] (bs ((bs l).drop (readV (bs l)).2)) with
      | none =>
        rw [hp] at h
        simp only [] at h
        split at h
        · injection h with h; subst h; exact ⟨by simp, by simp; omega, fun v hv => by rw [List.mem_singleton] at hv; subst hv; exact hr⟩
        · cases h
      | some r =>
        rw [hp] at h
        obtain ⟨t, e, _, _⟩ := pass_eq hp
        rw [e, List.length_cons] at hl
        simp only [] at h
        cases hq : ptd f r with
        | none => rw [hq] at h; cases h
        | some ws =>
          rw [hq] at h
          injection h with h
          subst h
          obtain ⟨_, k2, k3⟩ := ptd_right f r ws hq
          refine ⟨by simp, by rw [List.length_cons]; omega, fun v hv => ?_⟩
          rcases List.mem_cons.1 hv with rfl | hv
          · exact hr
          · exact k3 v hv
end Go.Proofs.YtbodmfbpmeapoaaGreat.PropP

namespace Go.Proofs.YtbodmfbpmeapoaaGreat
open Go.RowKit TreN LexP FixP SynP ValP PropP FixM
set_option linter.unusedVariables false

def PtAt (L : List Tok) (acc : List Val) (p : Bool) (m : List Tok) : Prop :=
  TxOk m ∧ m.length ≤ L.length ∧ if p = true then partedV L = (ptd (m.length + 1) m).map (acc ++ ·) else partedV L = if m = [] then some acc else none
theorem PtAt.fail {L : List Tok} {acc : List Val} {m : List Tok} (h : PtAt L acc true m) (hr : (readV (bs m)).2 = 0) : partedV L = none := by
  obtain ⟨h1, h2, h3⟩ := h
  rw [if_pos rfl] at h3
  rw [h3]
  have e : ptd (m.length + 1) m = none := by unfold ptd; rw [if_pos hr]
  rw [e]; rfl
theorem PtAt.more {L : List Tok} {acc : List Val} {m r : List Tok} (h : PtAt L acc true m) (hr : (readV (bs m)).2 ≠ 0) (hp : passP 19 [47] (bs ((bs m).drop (readV (bs m)).2)) = some r) : PtAt L (acc ++ [(readV (bs m)).1]) true r := by
  obtain ⟨h1, h2, h3⟩ := h
  have hl := ptd_left m hr
  obtain ⟨t, e, _, _⟩ := pass_eq hp
  have hlr : r.length < m.length := by rw [e, List.length_cons] at hl; omega
  have hs : r <:+ m := by
    have h1 : r <:+ bs ((bs m).drop (readV (bs m)).2) := by rw [e]; exact List.suffix_cons _ _
    exact h1.trans ((bs_suf _).trans ((List.drop_suffix _ _).trans (bs_suf _)))
  refine ⟨h1.suf hs, by omega, ?_⟩
  rw [if_pos rfl] at h3 ⊢
  rw [h3]
  have e2 : ptd (m.length + 1) m = (ptd m.length r).map ((readV (bs m)).1 :: ·) := by
    conv => lhs; unfold ptd
    rw [if_neg hr, hp]
  rw [e2, ptd_same m.length r (r.length + 1) (by omega) (by omega), Option.map_map]
  congr 1
  funext z
  simp
theorem PtAt.last {L : List Tok} {acc : List Val} {m : List Tok} (h : PtAt L acc true m) (hr : (readV (bs m)).2 ≠ 0) (hp : passP 19 [47] (bs ((bs m).drop (readV (bs m)).2)) = none) : PtAt L (acc ++ [(readV (bs m)).1]) false (bs ((bs m).drop (readV (bs m)).2)) := by
  obtain ⟨h1, h2, h3⟩ := h
  have hl := ptd_left m hr
  have hs : bs ((bs m).drop (readV (bs m)).2) <:+ m := (bs_suf _).trans ((List.drop_suffix _ _).trans (bs_suf _))
  refine ⟨h1.suf hs, by omega, ?_⟩
  rw [if_pos rfl] at h3
  rw [if_neg (by simp), h3]
  have e2 : ptd (m.length + 1) m = if bs ((bs m).drop (readV (bs m)).2) = [] then some [(readV (bs m)).1] else none := by
    conv => lhs; unfold ptd
    rw [if_neg hr, hp]
  rw [e2]
  split <;> rfl

set_option maxRecDepth 100000 in
set_option maxHeartbeats 4000000 in
theorem tellParted_any (a : Option Addr) (l : List Tok) (n0 cap : Nat) (w : World) (hn : l.length = n0) (h1 : n0 ≤ cap) (h2 : cap ≤ maxLen) (hl : n0 ≤ 90000) (hT : Tks w a l) (hx : TxOk l) :
    Calls Tryz.prog 42 #[.slice a n0 cap] w (PvIs w (partedV l)) := by
  have HP0 : Hid (PtAt l [] true l) := Lib.hid ⟨hx, Nat.le_refl _, by rw [if_pos rfl]; unfold partedV; cases ptd (l.length + 1) l <;> rfl⟩
  obtain ⟨i0, hi0, hz0, hz1, hz2⟩ := info_parts info_value
  obtain ⟨R, hR⟩ : ∃ R, partedV l = R := ⟨_, rfl⟩
  have HR := Lib.hid hR
  rw [hR]
  have HC1 : Hid (Cur w (w.alloc (.cells #[.slice a n0 cap] 80)) w.heap.size 80 [] l) := Lib.hid ⟨⟨a, cap, by rw [hn]; exact heap_alloc_new w _, by omega, h2, hT⟩, Nat.le_refl _, below_one9 _ _⟩
  have HLN := Lib.hid hn
  have HL0 : Hid (l.length ≤ 90000) := Lib.hid (by omega)
  clear hR hn h1 h2 hT hx
  go_enter Tryz.func42, Tryz.ntmps42
  go_wp2_with fail
  go_loopg [5, 6] (n0 + 2) (fun gk v5 v6 wr => ∃ (m : List Tok) (acc : List Val) (p : Bool), v6 = .bool p ∧ gk = (if p = true then m.length + 2 else 0) ∧ wr.ownsRow (w.heap.size + 1) 23 4 v5 acc.length (vcs acc) ∧ Hid (Cur w wr w.heap.size 80 [] m) ∧ Hid (PtAt l acc p m) ∧ Hid (acc.length + m.length ≤ 90000))
  case atStart => exact ⟨l, [], true, rfl, by rw [HLN.out]; rfl, World.ownsRow_nil _ _ _ 4, HC1, HP0, Lib.hid (by have := HL0.out; simp; omega)⟩
  case round =>
    obtain ⟨m, acc, p, rfl, hg, hown, HC, HP, HL⟩ := hrel
    have HO := Lib.hid hown
    clear hown
    have HBW : Hid (Below w.heap.size w wr) := Lib.hid HC.out.bel
    cases p with
    | false =>
      obtain ⟨a2, c2, hblk, k1, k2, k3⟩ := HC.out.ex
      obtain ⟨mn, hmn⟩ : ∃ mn, m.length = mn := ⟨_, rfl⟩
      rw [hmn] at hblk
      have c0 : wr.cell? ⟨w.heap.size, 0, none⟩ = some (.slice a2 mn c2) := cell_of hblk rfl
      have hF : (m = [] ∧ R = some acc) ∨ (m ≠ [] ∧ R = none) := by
        have h3 := HP.out.2.2
        rw [if_neg (by simp), HR.out] at h3
        by_cases h0 : m = []
        · exact Or.inl ⟨h0, by rw [h3, if_pos h0]⟩
        · exact Or.inr ⟨h0, by rw [h3, if_neg h0]⟩
      have hmb : mn ≤ 90000 := by have := HL.out; omega
      rcases hF with ⟨h0, hF⟩ | ⟨h0, hF⟩
      · have hz : mn = 0 := by rw [← hmn, h0]; rfl
        subst hz
        have HF := Lib.hid hF
        clear hF h0 hmn hblk k1 k2 k3 hg
        go_wp2_with fail
        go_ret2
        exact pvIs_some HF.out ⟨_, HO.out⟩ HBW.out
      · have hz : 0 < mn := by rw [← hmn]; exact List.length_pos_iff.2 h0
        have hzz : (0 : Int) < (mn : Int) := by omega
        have HF := Lib.hid hF
        clear hF h0 hmn hblk k1 k2 k3 hg
        go_wp2_with fail
        go_ret2
        exact pvIs_none HF.out HBW.out
    | true =>
      have SP := Lib.hid (Spaces_any HC.out)
      have hbl := bs_len m
      have HTX : Hid (TxOk (bs m)) := Lib.hid (HP.out.1.suf (bs_suf m))
      obtain ⟨s, hs⟩ : ∃ s, bs m = s := ⟨_, rfl⟩
      obtain ⟨sp, hsp⟩ : ∃ b, decide ((bs m).length < m.length) = b := ⟨_, rfl⟩
      rw [hsp, hs] at SP
      rw [hs] at HTX hbl
      have HS := Lib.hid hs
      have HGM : Hid (gk = m.length + 2) := Lib.hid (by rw [if_pos rfl] at hg; exact hg)
      have hsb : s.length ≤ 90000 := by have := HL.out; omega
      have HBL := Lib.hid hbl
      clear hs hsp hg hbl
      go_wp2_with fail
      refine SP.out.mono ?_
      rintro e w1 ⟨rfl, hg1, hc1⟩
      have HC2 := Lib.hid hc1
      have HO1 := Lib.hid (ownsRow_cur HO.out hg1)
      have HB1 : Hid (Below w.heap.size w w1) := Lib.hid hc1.bel
      obtain ⟨a2, c2, hblk, k1, k2, k3⟩ := hc1.ex
      obtain ⟨mn, hmn⟩ : ∃ mn, s.length = mn := ⟨_, rfl⟩
      have hT2 : Tks w1 a2 s := k3.below hc1.bel
      have hPl := blk_lt9 hblk
      rw [hmn] at hblk hsb
      have c0 : w1.cell? ⟨w.heap.size, 0, none⟩ = some (.slice a2 mn c2) := cell_of hblk rfl
      have HBLK := Lib.hid hblk
      have RD := Read9_any a2 s c2 w1 (by rw [hmn]; omega) k2 hT2 HTX.out
      have hle := readV_le s
      obtain ⟨⟨vk, vn, vd, vx⟩, hv⟩ : ∃ v, (readV s).1 = v := ⟨_, rfl⟩
      obtain ⟨q, hq⟩ : ∃ q, (readV s).2 = q := ⟨_, rfl⟩
      rw [hv, hq, hmn] at RD
      rw [hq, hmn] at hle
      have RD2 : Hid (Calls Tryz.prog 66 #[.slice a2 mn c2] w1 fun e w' => e = .returned (.tuple #[.agg #[.int .i64 vk, .int .i64 vn, .int .i64 vd, .string ⟨vx.toArray⟩], .int .i64 (q : Nat)]) ∧ Below w1.heap.size w1 w') := Lib.hid RD
      clear hg1 hc1 HO HC SP HBW
      rcases Nat.eq_zero_or_pos q with hq0 | hq0
      · subst hq0
        have HF : Hid (R = none) := Lib.hid (by rw [← HR.out]; exact HP.out.fail (by rw [HS.out]; exact hq))
        clear RD hv hq hmn hblk hT2 k1 k2 k3 hle
        go_wp2_with fail
        refine RD2.out.mono ?_
        rintro e w2 ⟨rfl, hb2⟩
        have HB2 := Lib.hid (HB1.out.trans (hb2.mono HB1.out.size))
        clear hb2
        go_wp2_with fail
        go_ret2
        exact pvIs_none HF.out (HB2.out.alloc HB2.out.size _)
      · have hqz : ((q : Int) == 0) = false := by rw [beq_eq_false_iff_ne]; omega
        have hne : (readV (bs m)).2 ≠ 0 := by rw [HS.out, hq]; omega
        obtain ⟨a3, s1, s2, s3, s4, s5⟩ := sl_from a2 s c2 mn q hmn (q : Int) rfl hle (by omega) k2
        have HT3 := Lib.hid (s5 w k3)
        have HS2 := Lib.hid s2
        have hb90 : acc.length ≤ 90000 := by have := HL.out; omega
        have hq0' : (0 : Int) ≤ (q : Int) := by omega
        have hqm : (q : Int) ≤ (mn : Int) := by omega
        obtain ⟨r0, hr0⟩ : ∃ r, bs (s.drop q) = r := ⟨_, rfl⟩
        have hrl : r0.length < m.length ∧ acc.length + 1 + r0.length ≤ 90000 := by
          have h1 := bs_len (s.drop q)
          rw [List.length_drop] at h1
          have h2 := HBL.out
          have h3 := HL.out
          rw [hr0] at h1
          omega
        have HRL := Lib.hid hrl
        have HPN : Hid ((∀ r, passP 19 [47] r0 = some r → PtAt l (acc ++ [(⟨vk, vn, vd, vx⟩ : Val)]) true r) ∧ (passP 19 [47] r0 = none → PtAt l (acc ++ [(⟨vk, vn, vd, vx⟩ : Val)]) false r0)) := Lib.hid (by
          have e1 : bs ((bs m).drop (readV (bs m)).2) = r0 := by rw [HS.out, hq]; exact hr0
          have e2 : (readV (bs m)).1 = ⟨vk, vn, vd, vx⟩ := by rw [HS.out]; exact hv
          refine ⟨fun r hr => ?_, fun hr => ?_⟩
          · have := HP.out.more hne (by rw [e1]; exact hr); rw [e2] at this; exact this
          · have := HP.out.last hne (by rw [e1]; exact hr); rw [e2, e1] at this; exact this)
        have HR0 := Lib.hid hr0
        clear RD hv hq hmn hblk hT2 k1 k3 hne s2 s5 hr0 hrl HP
        go_wp2_with fail
        refine RD2.out.mono ?_
        rintro e w2 ⟨rfl, hb2⟩
        go_upto_region 10 with (fail)
        have hO2 := (ownsRow_below HO1.out hb2).alloc (.cells #[.int .i64 vk, .int .i64 vn, .int .i64 vd, .string ⟨vx.toArray⟩] 23)
        have hC2 := HC2.out.keep (hb2.trans ((below_one9 w2 (.cells #[.int .i64 vk, .int .i64 vn, .int .i64 vd, .string ⟨vx.toArray⟩] 23)).mono hb2.size))
        have hnew : (w2.alloc (.cells #[.int .i64 vk, .int .i64 vn, .int .i64 vd, .string ⟨vx.toArray⟩] 23)).heap[w2.heap.size]? = some (.cells #[.int .i64 vk, .int .i64 vn, .int .i64 vd, .string ⟨vx.toArray⟩] 23 (0, 0)) := heap_alloc_new w2 _
        have hP3 := (Below.heap_alloc w2 (.cells #[.int .i64 vk, .int .i64 vn, .int .i64 vd, .string ⟨vx.toArray⟩] 23) _ (Nat.lt_of_lt_of_le hPl hb2.size)).trans ((hb2.block _ hPl).trans HBLK.out)
        generalize hw3 : w2.alloc (.cells #[.int .i64 vk, .int .i64 vn, .int .i64 vd, .string ⟨vx.toArray⟩] 23) = w3 at *
        obtain ⟨B3, hB3⟩ : ∃ B, w2.heap.size = B := ⟨_, rfl⟩
        rw [hB3] at hnew ⊢
        have e0 : w3.cell? ⟨B3, 0, none⟩ = some (.int .i64 vk) := cell_of hnew rfl
        have e1 : w3.cell? ⟨B3, 1, none⟩ = some (.int .i64 vn) := cell_of hnew rfl
        have e2 : w3.cell? ⟨B3, 2, none⟩ = some (.int .i64 vd) := cell_of hnew rfl
        have e3 : w3.cell? ⟨B3, 3, none⟩ = some (.string ⟨vx.toArray⟩) := cell_of hnew rfl
        have hrow : ∀ r, u5.ownBlock = some r → w.heap.size + 1 ≤ r := fun r hr => (World.ownsRow.lt hO2 r hr).1
        have HC3 := Lib.hid hC2
        have hP3l := blk_lt9 hP3
        have HP3 := Lib.hid hP3
        clear hw3 hB3 hnew hb2 hC2 hP3 c0
        go_wp2_with (at_builtin; refine wpList_append_own _ rfl _ _ 49 rfl (w.heap.size + 1) 23 i0 _ 4 40 und_values hi0 hz0 hz1 hz2 rfl (by decide) _ _ _ rfl (hO2.alloc _) ⟨w3.heap.size, 0, none⟩ 1 1 (vc ⟨vk, vn, vd, vx⟩) rfl rfl ?c1 ?c2 ?c3 ?c4 ?c5 ?_)
        case c1 => exact value_news w3 ⟨vk, vn, vd, vx⟩ _ rfl
        case c2 => intro u hu; exact vcs_one [⟨vk, vn, vd, vx⟩] u (by simpa [vcs] using hu)
        case c3 => unfold maxLen; omega
        case c4 => omega
        case c5 => simp; omega
        intro v' w4 hown' hgrow _
        have hC4 := (HC3.out.keep (below_one9 w3 (.cells #[.int .i64 vk, .int .i64 vn, .int .i64 vd, .string ⟨vx.toArray⟩] 23))).grown hgrow (fun k hk => by have := hrow k hk; omega)
        have hP4 : w4.heap[w.heap.size]? = some (.cells (.slice a2 mn c2 :: []).toArray 80 (0, 0)) := by
          rw [hgrow.block _ (by simp; omega) (by intro e; have := hrow _ e.symm; omega), Below.heap_alloc _ _ _ hP3l]; exact HP3.out
        have c4 : w4.cell? ⟨w.heap.size, 0, none⟩ = some (.slice a2 mn c2) := cell_of hP4 rfl
        have f4 : w4.frozen? ⟨w.heap.size, 0, none⟩ = false := unfrozen_of hP4
        have hst : w4.grownBy (w4.setCell ⟨w.heap.size, 0, none⟩ (.slice a3 (mn - q) (c2 - q))) (some w.heap.size) := grownBy_set _ _ _ _
        have HC5 : Hid (Cur w (w4.setCell ⟨w.heap.size, 0, none⟩ (.slice a3 (mn - q) (c2 - q))) w.heap.size 80 [] (s.drop q)) := Lib.hid ⟨⟨a3, c2 - q, by rw [setCell_here _ hP4, HS2.out]; rfl, by rw [HS2.out]; exact s3, s4, HT3.out⟩, hC4.base, hC4.bel.setCell (p := ⟨w.heap.size, 0, none⟩) hC4.base _⟩
        have HO5 : Hid ((w4.setCell ⟨w.heap.size, 0, none⟩ (.slice a3 (mn - q) (c2 - q))).ownsRow (w.heap.size + 1) 23 4 v' (acc.length + 1) (vcs acc ++ vc ⟨vk, vn, vd, vx⟩)) := Lib.hid (ownsRow_cur hown' hst)
        clear hown' hgrow hC4 hP4 hst hO2
        go_wp2_with fail
        refine (Spaces_any HC5.out).mono ?_
        rintro e w6 ⟨rfl, hg6, hc6⟩
        rw [HR0.out] at hc6
        have hO6 := ownsRow_cur HO5.out hg6
        have hO7 : w6.ownsRow (w.heap.size + 1) 23 4 v' (acc ++ [(⟨vk, vn, vd, vx⟩ : Val)]).length (vcs (acc ++ [(⟨vk, vn, vd, vx⟩ : Val)])) := by
          rw [List.length_append, vcs_append]; simpa [vcs] using hO6
        have HO7 := Lib.hid hO7
        have HC6 := Lib.hid hc6
        clear hg6 hO6 hO7 hc6
        obtain ⟨bb, hbb⟩ : ∃ bb, decide ((bs (s.drop q)).length < (s.drop q).length) = bb := ⟨_, rfl⟩
        rw [hbb]
        clear hbb
        cases hps : passP 19 [47] r0 with
        | none =>
          have PN := Lib.hid (Pass_no 19 [47] HC6.out hps)
          have HPP := Lib.hid (HPN.out.2 hps)
          clear hps
          go_wp2_with fail
          refine PN.out.mono ?_
          rintro e w7 ⟨rfl, hb7⟩
          have HO8 := Lib.hid (ownsRow_below HO7.out hb7)
          have HC8 := Lib.hid (HC6.out.keep hb7)
          clear hb7
          go_wp2_with fail
          go_roundg 0
          case rel => exact ⟨r0, acc ++ [(⟨vk, vn, vd, vx⟩ : Val)], false, rfl, rfl, HO8.out, HC8, HPP, Lib.hid (by have := HRL.out; rw [List.length_append]; simp; omega)⟩
          case measure => have := HGM.out; omega
        | some r =>
          obtain ⟨⟨tk, tt, tn⟩, hrt, ht1, ht2⟩ := pass_eq hps
          have ht1 : tk = 19 := ht1
          have ht2 : tt = [47] := ht2
          subst ht1; subst ht2
          have HC6' := HC6.out
          rw [hrt] at HC6'
          have PY := Lib.hid (Pass_yes HC6')
          have HPP := Lib.hid (HPN.out.1 r hps)
          have HRR : Hid (r.length + 1 = r0.length) := Lib.hid (by rw [hrt]; rfl)
          clear hps hrt HC6'
          go_wp2_with fail
          refine PY.out.mono ?_
          rintro e w7 ⟨rfl, hg7, hc7⟩
          have HO8 := Lib.hid (ownsRow_cur HO7.out hg7)
          have HC8 := Lib.hid hc7
          clear hg7 hc7
          go_wp2_with fail
          go_roundg (r.length + 2)
          case rel => exact ⟨r, acc ++ [(⟨vk, vn, vd, vx⟩ : Val)], true, rfl, rfl, HO8.out, HC8, HPP, Lib.hid (by have := HRL.out; have := HRR.out; rw [List.length_append]; simp; omega)⟩
          case measure => have := HGM.out; have := HRL.out; have := HRR.out; omega
end Go.Proofs.YtbodmfbpmeapoaaGreat

namespace Go.Proofs.YtbodmfbpmeapoaaGreat.PropP
open FixM FixP TreN LexP SynP ValP
set_option linter.unusedVariables false

def tailS (r : List Val) : List Tok := r.flatMap fun u => spc :: tokV u
def joinS (l : List Val) : List Tok := l.flatMap fun u => tokV u ++ [spc]
theorem bs_one {l : List Tok} {t : Tok} {r : List Tok} (h : l = t :: r) (ht : t.kind ≠ 20) : bs (spc :: l) = l := by
  rw [bs_sp rfl, h, bs_no ht]
theorem over_tailS {r : List Val} (h : ∀ v ∈ r, rightV v = true) : overP (tailS r) = none := by
  cases r with
  | nil => rfl
  | cons u r =>
    obtain ⟨t, q, e, h20, h19⟩ := tok_head (rv_of (h u (by simp)))
    refine over_no fun t' r' hb => ?_
    have e2 : tailS (u :: r) = spc :: (tokV u ++ tailS r) := by simp [tailS]
    rw [e2, bs_one (t := t) (r := q ++ tailS r) (by rw [e]; rfl) h20, e] at hb
    injection hb with hb _
    subst hb; exact h19
theorem pv_joinS : ∀ (r : List Val) (v : Val) (f : Nat), rightV v = true → (∀ u ∈ r, rightV u = true) → (tokV v ++ tailS r).length < f → pv f (tokV v ++ tailS r) = some (v :: r)
  | r, v, 0, _, _, hf => by omega
  | [], v, f + 1, hv, hr, hf => by
    have h1 := read_tok hv (z := tailS []) rfl
    unfold pv
    obtain ⟨t, q, e, _, _⟩ := tok_head (rv_of hv)
    have hl : 0 < (tokV v).length := by rw [e]; simp
    have hd : (tokV v ++ tailS []).drop (tokV v).length = [] := by rw [List.drop_left]; rfl
    rw [h1]
    dsimp only
    rw [hd, if_neg (by omega), if_neg (by simp [bs]), if_pos rfl]
  | u :: r, v, f + 1, hv, hr, hf => by
    have h1 := read_tok hv (over_tailS hr)
    have hu := hr u (by simp)
    obtain ⟨t, q, e, h20, _⟩ := tok_head (rv_of hu)
    have e2 : tailS (u :: r) = spc :: (tokV u ++ tailS r) := by simp [tailS]
    have hb : bs (tailS (u :: r)) = tokV u ++ tailS r := by
      rw [e2, bs_one (t := t) (r := q ++ tailS r) (by rw [e]; rfl) h20]
    obtain ⟨t0, q0, e0, _, _⟩ := tok_head (rv_of hv)
    have hl : 0 < (tokV v).length := by rw [e0]; simp
    have hlen : (tailS (u :: r)).length = (tokV u ++ tailS r).length + 1 := by rw [e2]; simp
    unfold pv
    rw [h1]
    dsimp only
    rw [List.drop_left, hb, if_neg (by omega), if_pos (by omega), pv_joinS r u f hu (fun x hx => hr x (List.mem_cons_of_mem _ hx)) (by rw [List.length_append] at hf; omega)]
    rfl
theorem tailS_last : ∀ (r : List Val) (v : Val), rightV v = true → (∀ u ∈ r, rightV u = true) → ∃ m u, tokV v ++ tailS r = m ++ [u] ∧ u.kind ≠ 20
  | [], v, hv, _ => by
    obtain ⟨m, u, e, h⟩ := tok_last (rv_of hv)
    exact ⟨m, u, by rw [e]; simp [tailS], h⟩
  | x :: r, v, hv, hr => by
    obtain ⟨m, u, e, h⟩ := tailS_last r x (hr x (by simp)) (fun y hy => hr y (List.mem_cons_of_mem _ hy))
    have e2 : tailS (x :: r) = spc :: (tokV x ++ tailS r) := by simp [tailS]
    exact ⟨tokV v ++ spc :: m, u, by rw [e2, e]; simp, h⟩

theorem joinS_cons : ∀ (r : List Val) (v : Val), joinS (v :: r) = (tokV v ++ tailS r) ++ [spc]
  | [], v => by simp [joinS, tailS]
  | u :: r, v => by
    have e : joinS (v :: u :: r) = (tokV v ++ [spc]) ++ joinS (u :: r) := by simp [joinS]
    rw [e, joinS_cons r u]
    simp [tailS]
theorem trm_sp {X : List Tok} {t : Tok} {q : List Tok} (h : X = t :: q) (ht : t.kind ≠ 20) : trm (X ++ [spc]) = trm X := by
  have e1 : bs (X ++ [spc]) = X ++ [spc] := by rw [h]; exact bs_no ht
  have e2 : bs X = X := by rw [h]; exact bs_no ht
  unfold trm
  rw [e1, e2]
  unfold es
  rw [List.reverse_append]
  rfl
theorem parse_joinS {l : List Val} (h0 : l ≠ []) (h : ∀ v ∈ l, rightV v = true) : parseV (joinS l) = some l := by
  cases l with
  | nil => exact absurd rfl h0
  | cons v r =>
    have hv := h v (by simp)
    have hr : ∀ u ∈ r, rightV u = true := fun u hu => h u (List.mem_cons_of_mem _ hu)
    obtain ⟨t, q, e, h20, _⟩ := tok_head (rv_of hv)
    obtain ⟨m, u, e2, hu⟩ := tailS_last r v hv hr
    have e3 : tokV v ++ tailS r = t :: (q ++ tailS r) := by rw [e]; rfl
    have htr : trm (tokV v ++ tailS r) = tokV v ++ tailS r := by
      rw [e3]
      exact trm_keep h20 hu (by rw [← e3]; exact e2)
    have hts : trm (joinS (v :: r)) = tokV v ++ tailS r := by rw [joinS_cons, trm_sp e3 h20, htr]
    unfold parseV
    rw [hts]
    exact pv_joinS r v _ hv hr (by omega)
theorem parse_one {v : Val} (h : rightV v = true) : parseV (tokV v) = some [v] := by
  have := parse_join (l := [v]) (by simp) (by intro u hu; rw [List.mem_singleton] at hu; subst hu; exact h)
  simpa [joinJ, tailJ] using this
theorem joinS_snoc (l : List Val) (v : Val) : joinS (l ++ [v]) = joinS l ++ tokV v ++ [spc] := by simp [joinS]
theorem names_st : ∀ k : Fin 37, stP (namesL.getD k.val []) = (k.val + 1, 1) ∧ namesL.getD k.val [] ≠ flowT ∧ namesL.getD k.val [] ≠ flexT ∧ namesL.getD k.val [] ≠ contT := by decide +kernel
theorem name_st {p : Nat} (h1 : 1 ≤ p) (h2 : p ≤ 37) : stP (txtP namesL (p : Int)) = (p, 1) ∧ txtP namesL (p : Int) ≠ flowT ∧ txtP namesL (p : Int) ≠ flexT ∧ txtP namesL (p : Int) ≠ contT := by
  have h := names_st ⟨p - 1, by omega⟩
  have e : txtP namesL (p : Int) = namesL.getD (p - 1) [] := by
    rw [txt_nat (by omega) (by have : namesL.length = 37 := rfl; omega)]
    congr 1
  have e2 : p - 1 + 1 = p := by omega
  rw [e]
  simp only [e2] at h
  exact h
/-- one value of a property's own -/
theorem parseP_one {p : Nat} (h1 : 1 ≤ p) (h2 : p ≤ 37) (v : Val) (b : Bool) : parseP (txtP namesL (p : Int)) (some [v]) b = if takesP p v = true then (0, [⟨p, v, b⟩]) else (22, []) := by
  obtain ⟨k1, k2, k3, k4⟩ := name_st h1 h2
  unfold parseP
  rw [k1]
  have hf : fitP [v] 1 = true := rfl
  have hp : partsP (txtP namesL (p : Int)) [v] = [v] := parts_plain (Or.inr ⟨k2, k3, k4⟩)
  have hd : declP p [v] 1 = [⟨p, v, false⟩] := by
    unfold declP
    simp [sideP, sIx]
  have h0 : ¬ (1 : Nat) = 0 := by omega
  simp only [h0, if_false, hf, hp, hd, true_and]
  by_cases ht : takesP p v = true
  · rw [if_pos ht, if_pos (by simp [takesD, ht])]; rfl
  · rw [if_neg ht, if_neg (by simp [takesD]; simpa using ht)]
end Go.Proofs.YtbodmfbpmeapoaaGreat.PropP

namespace Go.Proofs.YtbodmfbpmeapoaaGreat.PropP
open FixM FixP TreN LexP SynP ValP
set_option linter.unusedVariables false

theorem sIx_one : ∀ i, sIx 1 i = 0
  | 0 => rfl
  | 1 => rfl
  | i + 2 => by show (if i + 2 < 1 then i + 2 else sIx 1 i) = 0; rw [if_neg (by omega)]; exact sIx_one i
theorem gen_genS {v : Val} (h : rightV v = true) : genS v = genB v := gen_is h
theorem parseP_gen {name : List UInt8} {p c : Nat} (hs : stP name = (p, c)) (h1 : 1 ≤ p) (h2 : p + c ≤ 38) (h3 : 0 < c) (v : Val) (hr : rightV v = true) (hg : genB v = true) (imp : Bool) :
    parseP name (some [v]) imp = (0, (List.range c).map fun (i : Nat) => (⟨(p : Int) + (i : Int), v, imp⟩ : Dec10)) := by
  unfold parseP
  rw [hs]
  have hf : fitP [v] c = true := rfl
  have hgs : genS (hdV [v]) = true := by show genS v = true; rw [gen_genS hr]; exact hg
  have hp : partsP name [v] = [v] := parts_plain (Or.inl hgs)
  have h0 : ¬ c = 0 := by omega
  have hsd : ∀ i, sideP [v] i = v := fun i => by unfold sideP; show [v].getD (sIx 1 i) zeroV = v; rw [sIx_one]; rfl
  have hd : declP p [v] c = (List.range c).map fun (i : Nat) => (⟨(p : Int) + (i : Int), v, false⟩ : Dec10) := by
    unfold declP
    simp only [hsd]
  have ht : (declP p [v] c).all takesD = true := by
    rw [hd, List.all_eq_true]
    intro d hd2
    obtain ⟨i, hi, rfl⟩ := List.mem_map.1 hd2
    rw [List.mem_range] at hi
    show takesP ((p : Int) + (i : Int)) v = true
    unfold takesP
    rw [hr, hg, decide_eq_true (by omega)]
    rfl
  simp only [h0, if_false, hf, hp, ht, and_self, if_true]
  rw [hd, List.map_map]
  rfl
end Go.Proofs.YtbodmfbpmeapoaaGreat.PropP

namespace Go.Proofs.YtbodmfbpmeapoaaGreat
open Go.RowKit TreN LexP FixP SynP ValP PropP FixM
set_option linter.unusedVariables false

set_option maxRecDepth 100000 in
set_option maxHeartbeats 1000000 in
theorem tellC_any (a : Option Addr) (l : List Tok) (n cap : Nat) (imp : Bool) (w : World) (hn : l.length = n) (h1 : n ≤ cap) (h2 : cap ≤ maxLen) (hl : n ≤ 90000) (hT : Tks w a l) (hx : TxOk l) :
    Calls Tryz.prog 19 #[.agg #[.string ⟨contT.toArray⟩, .slice a n cap, .bool imp]] w (TlIs w (partedV l)) := by
  have HBB := Lib.hid (below_oneP w (.cells #[.string ⟨contT.toArray⟩, .slice a n cap, .bool imp] 28))
  have P := tellParted_any a l n cap (w.alloc (.cells #[.string ⟨contT.toArray⟩, .slice a n cap, .bool imp] 28)) hn h1 h2 hl (hT.below HBB.out) hx
  obtain ⟨R, hR⟩ : ∃ R, partedV l = R := ⟨_, rfl⟩
  rw [hR] at P
  rw [hR]
  have PH := Lib.hid P
  clear P hR hn h1 h2 hl hT hx
  unfold contT at *
  go_enter Tryz.func19, Tryz.ntmps19
  go_wp2_with fail
  refine PH.out.mono ?_
  rintro e w1 ⟨h, hb1⟩
  have HB1 := Lib.hid (HBB.out.trans (hb1.mono HBB.out.size))
  clear hb1
  cases R with
  | none =>
    obtain rfl := h
    go_wp2_with fail
    go_ret2
    exact ⟨⟨none, 0, 0, 22, by decide, rfl⟩, HB1.out⟩
  | some vs =>
    obtain ⟨v, rfl, hv⟩ := h
    obtain ⟨a1, c1, rfl, hvs, _, _⟩ := hv.vs
    have HV := Lib.hid hvs
    obtain ⟨m, hm⟩ : ∃ m, vs.length = m := ⟨_, rfl⟩
    have HM := Lib.hid hm
    rw [hm]
    clear hv hvs hm
    go_wp2_with fail
    go_ret2
    refine ⟨⟨a1, c1, ?_, HV.out⟩, HB1.out⟩
    rw [HM.out]; rfl

/-- container, its first value one of those that all take -/
theorem ParseC_gen (a : Option Addr) (l : List Tok) (n cap : Nat) (imp : Bool) (w : World) (hn : l.length = n) (h1 : n ≤ cap) (h2 : cap ≤ maxLen) (hl : n ≤ 90000) (hT : Tks w a l) (hx : TxOk l)
    (hg : ∀ vs, partedV l = some vs → genS (hdV vs) = true) :
    Calls Tryz.prog 8 #[.agg #[.string ⟨contT.toArray⟩, .slice a n cap, .bool imp]] w (PdIs w (parseP contT (partedV l) imp)) := by
  refine Parse10_of contT a l n cap imp w (partedV l) hn (fun W hW => tellC_any a l n cap imp W hn h1 h2 hl (hT.below hW) hx) (fun vs h hf W a2 c hV => ?_) (fun vs h => ?_) (fun vs h hf => ?_)
  · obtain ⟨k1, k2, k3⟩ := ptd_right _ _ _ h
    rw [parts_plain (Or.inl (hg vs h))]
    exact sides_gen contT a2 vs vs.length c W rfl (List.length_pos_iff.2 k1) (by omega) hV (Or.inl (hg vs h))
  · obtain ⟨k1, k2, k3⟩ := ptd_right _ _ _ h
    omega
  · obtain ⟨k1, k2, k3⟩ := ptd_right _ _ _ h
    rw [parts_plain (Or.inl (hg vs h))]
    exact ⟨List.length_pos_iff.2 k1, by omega, fun v hv => right_name (k3 v hv)⟩

set_option maxRecDepth 100000 in
theorem val_selfIn (f : Nat) (k n d : Int) (x : List UInt8) (w : World) : (Op.equalIn (f + 2) 23 (.agg #[.int .i64 k, .int .i64 n, .int .i64 d, .string ⟨x.toArray⟩]) (.agg #[.int .i64 k, .int .i64 n, .int .i64 d, .string ⟨x.toArray⟩])).run Tryz.prog w = .ok true w := by
  rw [run_equalIn_agg w (f + 1) 23 _ _ (by kernel_rfl) (by kernel_rfl)]
  have hf : Tryz.prog.fieldsOf 23 = (match Tryz.prog.underlying 23 with | some (.struct fs) => fs | _ => #[]) := rfl
  rw [hf, Tryz.underlying23]
  have p1 : ∀ (k n d : Int) (x : List UInt8) (w : World), (part 3 #[.int .i64 k, .int .i64 n, .int .i64 d, .string ⟨x.toArray⟩] 0).run Tryz.prog w = .ok (.int .i64 k) w := fun _ _ _ _ w => by kernel_rfl
  have p2 : ∀ (k n d : Int) (x : List UInt8) (w : World), (part 3 #[.int .i64 k, .int .i64 n, .int .i64 d, .string ⟨x.toArray⟩] 1).run Tryz.prog w = .ok (.int .i64 n) w := fun _ _ _ _ w => by kernel_rfl
  have p3 : ∀ (k n d : Int) (x : List UInt8) (w : World), (part 3 #[.int .i64 k, .int .i64 n, .int .i64 d, .string ⟨x.toArray⟩] 2).run Tryz.prog w = .ok (.int .i64 d) w := fun _ _ _ _ w => by kernel_rfl
  have p4 : ∀ (k n d : Int) (x : List UInt8) (w : World), (part 9 #[.int .i64 k, .int .i64 n, .int .i64 d, .string ⟨x.toArray⟩] 3).run Tryz.prog w = .ok (.string ⟨x.toArray⟩) w := fun _ _ _ _ w => by kernel_rfl
  simp only [Op.eqFields, Sem.run_ite, Sem.run_bind, p1, p2, p3, p4, Result.andThen_ok, run_equalIn_int w f 3 .i64 .i64 k k Tryz.underlying3, run_equalIn_int w f 3 .i64 .i64 n n Tryz.underlying3, run_equalIn_int w f 3 .i64 .i64 d d Tryz.underlying3, run_equalIn_string w f 9 ⟨x.toArray⟩ ⟨x.toArray⟩ Tryz.underlying9, str_beq]
  simp
set_option maxRecDepth 100000 in
theorem decl_selfIn (p k n d : Int) (x : List UInt8) (b : Bool) (w : World) : (Op.equalIn 10000 25 (.agg #[.int .i64 p, .int .i64 k, .int .i64 n, .int .i64 d, .string ⟨x.toArray⟩, .bool b]) (.agg #[.int .i64 p, .int .i64 k, .int .i64 n, .int .i64 d, .string ⟨x.toArray⟩, .bool b])).run Tryz.prog w = .ok true w := by
  rw [run_equalIn_agg w 9999 25 _ _ (by kernel_rfl) (by kernel_rfl)]
  have hf : Tryz.prog.fieldsOf 25 = (match Tryz.prog.underlying 25 with | some (.struct fs) => fs | _ => #[]) := rfl
  rw [hf, Tryz.underlying25]
  have p1 : ∀ (w : World), (part 3 #[.int .i64 p, .int .i64 k, .int .i64 n, .int .i64 d, .string ⟨x.toArray⟩, .bool b] 0).run Tryz.prog w = .ok (.int .i64 p) w := fun w => by kernel_rfl
  have p2 : ∀ (w : World), (part 23 #[.int .i64 p, .int .i64 k, .int .i64 n, .int .i64 d, .string ⟨x.toArray⟩, .bool b] 1).run Tryz.prog w = .ok (.agg #[.int .i64 k, .int .i64 n, .int .i64 d, .string ⟨x.toArray⟩]) w := fun w => by kernel_rfl
  have p3 : ∀ (w : World), (part 4 #[.int .i64 p, .int .i64 k, .int .i64 n, .int .i64 d, .string ⟨x.toArray⟩, .bool b] 5).run Tryz.prog w = .ok (.bool b) w := fun w => by kernel_rfl
  simp only [Op.eqFields, Sem.run_ite, Sem.run_bind, p1, p2, p3, Result.andThen_ok, run_equalIn_int w 9998 3 .i64 .i64 p p Tryz.underlying3, val_selfIn 9997 k n d x w, run_equalIn_bool w 9998 4 b b Tryz.underlying4]
  simp
theorem decl_neq (p k n d : Int) (x : List UInt8) (b : Bool) (w : World) : (binOp .neq 25 (.agg #[.int .i64 p, .int .i64 k, .int .i64 n, .int .i64 d, .string ⟨x.toArray⟩, .bool b]) (.agg #[.int .i64 p, .int .i64 k, .int .i64 n, .int .i64 d, .string ⟨x.toArray⟩, .bool b])).run Tryz.prog w = .ok (.bool false) w := by
  rw [run_neq_struct, decl_selfIn]; rfl
theorem decl_eql (p k n d : Int) (x : List UInt8) (b : Bool) (w : World) : (binOp .eql 25 (.agg #[.int .i64 p, .int .i64 k, .int .i64 n, .int .i64 d, .string ⟨x.toArray⟩, .bool b]) (.agg #[.int .i64 p, .int .i64 k, .int .i64 n, .int .i64 d, .string ⟨x.toArray⟩, .bool b])).run Tryz.prog w = .ok (.bool true) w := by
  rw [run_eql_struct, decl_selfIn]; rfl

set_option maxRecDepth 100000 in
set_option maxHeartbeats 2000000 in
theorem refSame10_eq (a1 a2 : Option Addr) (c1 c2 : Nat) (L : List Dec10) (n : Nat) (w : World) (hn : L.length = n) (hl : n ≤ 100000) (H1 : Ds w a1 L) (H2 : Ds w a2 L) :
    Calls Tryz.prog 9 #[.slice a1 n c1, .slice a2 n c2] w fun e w' => e = .returned (.bool true) ∧ ∃ q, w' = w.drewN q := by
  have HD1 := Lib.hid H1
  have HD2 := Lib.hid H2
  have HN := Lib.hid hn
  clear H1 H2 hn
  go_enter Tryz.func9, Tryz.ntmps9
  go_wp2_with fail
  go_loopw [5] (fun vi wr => ∃ k q : Nat, vi = .int .i64 (k : Int) ∧ k ≤ n ∧ wr = w.drewN q) (fun vi _ => n - (intOf vi).toNat)
  case atStart => exact ⟨0, 0, rfl, by omega, rfl⟩
  case round =>
    obtain ⟨k, q, rfl, hk, rfl⟩ := hrel
    by_cases hlt : k < n
    · have hltz : (k : Int) < (n : Int) := by omega
      have hkl : k < L.length := by have := HN.out; omega
      obtain ⟨b1, rfl, _, d1, d2, d3, d4, d5, d6⟩ := HD1.out.get hkl
      obtain ⟨b2, rfl, _, e1, e2, e3, e4, e5, e6⟩ := HD2.out.get hkl
      generalize L[k] = v at *
      obtain ⟨dp, ⟨vk, vn, vd, vx⟩, di⟩ := v
      have EQ := fun W => decl_neq dp vk vn vd vx di W
      have hkn0 : (0 : Int) ≤ (k : Int) := by omega
      have D1 : (w.drewN q).cell? ⟨b1, k * 6, none⟩ = some (.int .i64 dp) := d1
      have D2 : (w.drewN q).cell? ⟨b1, k * 6 + 1, none⟩ = some (.int .i64 vk) := d2
      have D3 : (w.drewN q).cell? ⟨b1, k * 6 + 2, none⟩ = some (.int .i64 vn) := d3
      have D4 : (w.drewN q).cell? ⟨b1, k * 6 + 3, none⟩ = some (.int .i64 vd) := d4
      have D5 : (w.drewN q).cell? ⟨b1, k * 6 + 4, none⟩ = some (.string ⟨vx.toArray⟩) := d5
      have D6 : (w.drewN q).cell? ⟨b1, k * 6 + 5, none⟩ = some (.bool di) := d6
      have E1 : (w.drewN q).cell? ⟨b2, k * 6, none⟩ = some (.int .i64 dp) := e1
      have E2 : (w.drewN q).cell? ⟨b2, k * 6 + 1, none⟩ = some (.int .i64 vk) := e2
      have E3 : (w.drewN q).cell? ⟨b2, k * 6 + 2, none⟩ = some (.int .i64 vn) := e3
      have E4 : (w.drewN q).cell? ⟨b2, k * 6 + 3, none⟩ = some (.int .i64 vd) := e4
      have E5 : (w.drewN q).cell? ⟨b2, k * 6 + 4, none⟩ = some (.string ⟨vx.toArray⟩) := e5
      have E6 : (w.drewN q).cell? ⟨b2, k * 6 + 5, none⟩ = some (.bool di) := e6
      generalize hwq : w.drewN q = wq at *
      have HW := Lib.hid hwq
      clear d1 d2 d3 d4 d5 d6 e1 e2 e3 e4 e5 e6 hwq
      go_wp2_with fail
      go_quiet (fail)
      go_wp2_with fail
      go_roundw
      case rel => exact ⟨k + 1, q + nq, by go_num, by omega, by rw [← HW.out, World.drewN_drewN]⟩
      case measure => simp [intOf]; omega
    · have hltz : ¬ (k : Int) < (n : Int) := by omega
      go_wp2_with fail
      go_ret
      exact ⟨rfl, q, rfl⟩
end Go.Proofs.YtbodmfbpmeapoaaGreat

namespace Go.Proofs.YtbodmfbpmeapoaaGreat.PropP
open FixM FixP TreN LexP SynP ValP
set_option linter.unusedVariables false

/-- one to four values as four -/
def arP (l : List Val) : List Val := if l.length ≤ 3 then [sideP l 0, sideP l 1, sideP l 2, sideP l 3] else l
theorem arP_len {l : List Val} (h : l.length ≤ 4) : (arP l).length = 4 := by
  unfold arP
  split
  · rfl
  · omega
theorem arP_get {l : List Val} (h0 : 1 ≤ l.length) (h : l.length ≤ 4) (i : Nat) (hi : i < (arP l).length) : (arP l)[i] = sideP l i := by
  have h4 : i < 4 := by rw [arP_len h] at hi; exact hi
  by_cases h3 : l.length ≤ 3
  · have e : arP l = [sideP l 0, sideP l 1, sideP l 2, sideP l 3] := if_pos h3
    have e2 : (arP l)[i]? = some (sideP l i) := by
      rw [e]
      rcases (by omega : i = 0 ∨ i = 1 ∨ i = 2 ∨ i = 3) with rfl | rfl | rfl | rfl <;> rfl
    rw [List.getElem?_eq_getElem hi] at e2
    exact Option.some.inj e2
  · have e : arP l = l := if_neg h3
    have hl : i < l.length := by omega
    have e2 : (arP l)[i]? = some (sideP l i) := by
      rw [e]
      unfold sideP
      rw [sIx_in hl, List.getD_eq_getElem?_getD, List.getElem?_eq_getElem hl]; rfl
    rw [List.getElem?_eq_getElem hi] at e2
    exact Option.some.inj e2
theorem declP_set (p : Nat) (l : List Val) (c : Nat) : (declP p l c).map (setI false) = declP p l c := by
  unfold declP
  rw [List.map_map]
  rfl
theorem declP_get (p : Nat) (l : List Val) (c k : Nat) (h : k < (declP p l c).length) : (declP p l c)[k] = ⟨(p : Int) + (k : Int), sideP l k, false⟩ := by
  simp only [declP, List.getElem_map, List.getElem_range]
theorem declP_take (p : Nat) (l : List Val) (c k : Nat) (h : k ≤ c) : (declP p l c).take k = declP p l k := by
  unfold declP
  rw [← List.map_take, List.take_range, Nat.min_eq_left h]
/-- what a shorthand of four sides gives -/
theorem parseP_four {name : List UInt8} {p : Nat} (hs : stP name = (p, 4)) (hn : name ≠ flowT ∧ name ≠ flexT ∧ name ≠ contT) (l : List Val) (h0 : 1 ≤ l.length) (hg : 1 < l.length → ∀ v ∈ l, genS v = false) :
    parseP name (some l) false = if l.length ≤ 4 ∧ (declP p l 4).all takesD = true then (0, declP p l 4) else (22, []) := by
  unfold parseP
  rw [hs]
  have hp : partsP name l = l := parts_plain (Or.inr hn)
  have h4 : ¬ (4 : Nat) = 0 := by omega
  have hf : fitP l 4 = decide (l.length ≤ 4) := by
    unfold fitP
    by_cases h1 : l.length = 1
    · rw [decide_eq_true h1, Bool.true_or, decide_eq_true (by omega)]
    · have ha : l.any genS = false := by
        rw [List.any_eq_false]
        intro v hv
        rw [hg (by omega) v hv]; simp
      rw [decide_eq_false h1, Bool.false_or, ha]; simp
  simp only [h4, if_false, hp, hf, decide_eq_true_eq, declP_set]
theorem joinS_len (l : List Val) (h : ∀ v ∈ l, rightV v = true) : (joinS l).length ≤ 6 * l.length := by
  induction l with
  | nil => simp [joinS]
  | cons v r ih =>
    have h1 := (tok_texts (rv_of (h v (by simp)))).1
    have h2 := ih (fun u hu => h u (List.mem_cons_of_mem _ hu))
    have e : joinS (v :: r) = tokV v ++ [spc] ++ joinS r := by simp [joinS]
    rw [e, List.length_append, List.length_append, List.length_cons, List.length_cons, List.length_nil]
    omega
theorem joinS_texts (l : List Val) (h : ∀ v ∈ l, rightV v = true) : ∀ t ∈ joinS l, t.text.length ≤ maxLen := by
  intro t ht
  unfold joinS at ht
  obtain ⟨v, hv, ht⟩ := List.mem_flatMap.1 ht
  rcases List.mem_append.1 ht with ht | ht
  · have := (tok_texts (rv_of (h v hv))).2 t ht
    unfold maxLen; omega
  · rw [List.mem_singleton] at ht; subst ht; exact Nat.zero_le _
end Go.Proofs.YtbodmfbpmeapoaaGreat.PropP

namespace Go.Proofs.YtbodmfbpmeapoaaGreat
open Go.RowKit TreN LexP FixP SynP ValP PropP FixM
set_option linter.unusedVariables false

theorem tks_news {w : World} {b o : Nat} {l : List Tok} (h : Tks w (some ⟨b, o, none⟩) l) : ∀ (j : Nat) (u : Value), (tkcs l)[j]? = some u → w.cell? ((⟨b, o, none⟩ : Addr).add j) = some u := by
  intro j u hj
  by_cases hjn : j < l.length * 3
  · obtain ⟨p, hp⟩ : ∃ p, j / 3 = p := ⟨_, rfl⟩
    have hpl : p < l.length := by omega
    obtain ⟨k1, k2, k3⟩ := tkcs_get l p hpl
    obtain ⟨b1, o1, e1, _, t1, t2, t3⟩ := h.get hpl
    injection e1 with e1; injection e1 with e1 e2; subst e1; subst e2
    rw [Addr.add_lit]
    rcases (by omega : j = p * 3 ∨ j = p * 3 + 1 ∨ j = p * 3 + 2) with e | e | e
    · subst e; rw [k1] at hj; injection hj with hj; subst hj; exact t1
    · subst e; rw [k2] at hj; injection hj with hj; subst hj; exact t2
    · subst e; rw [k3] at hj; injection hj with hj; subst hj; exact t3
  · rw [List.getElem?_eq_none (by rw [tkcs_length]; omega)] at hj
    cases hj
theorem vs_madeM (W : World) (l : List Val) : Vs (W.alloc (.cells (vcs l).toArray 23)) (some ⟨W.heap.size, 0, none⟩) l := by
  have hb : (W.alloc (.cells (vcs l).toArray 23)).heap[W.heap.size]? = some (.cells (vcs l).toArray 23 (0, 0)) := heap_alloc_new W _
  refine Or.inr ⟨W.heap.size, 0, rfl, by simp, fun i hi => ?_⟩
  obtain ⟨k1, k2, k3, k4⟩ := vcs_get l i hi
  rw [Nat.zero_add]
  exact ⟨cell_of hb (by simpa using k1), cell_of hb (by simpa using k2), cell_of hb (by simpa using k3), cell_of hb (by simpa using k4)⟩
theorem vs_madeD (W : World) (l : List Val) : Vs (W.alloc (.cells (vcs l).toArray 23)).drew (some ⟨W.heap.size, 0, none⟩) l := vs_madeM W l

set_option maxRecDepth 100000 in
theorem GlobalM_any (k n d : Int) (nm : List UInt8) (w : World) : Calls Tryz.prog 33 #[.agg #[.int .i64 k, .int .i64 n, .int .i64 d, .string ⟨nm.toArray⟩]] w fun e w' => e = .returned (.bool (genB ⟨k, n, d, nm⟩)) ∧ Below w.heap.size w w' := by
  have HB := Lib.hid (below_oneP w (.cells #[.int .i64 k, .int .i64 n, .int .i64 d, .string ⟨nm.toArray⟩] 23))
  obtain ⟨R, hR⟩ : ∃ R, genB ⟨k, n, d, nm⟩ = R := ⟨_, rfl⟩
  rw [hR]
  have hR : decide (k = 1 ∧ 28 ≤ n) = R := hR
  by_cases h : k = 1
  · subst h
    have HF : Hid (decide (28 ≤ n) = R) := Lib.hid (by rw [← hR]; simp)
    clear hR
    go_enter Tryz.func33, Tryz.ntmps33
    go_wp2_with fail
    go_ret
    exact ⟨ret_bool HF.out, HB.out⟩
  · have z2 : (k == 1) = false := by rw [beq_eq_false_iff_ne]; exact h
    have HF : Hid (false = R) := Lib.hid (by rw [← hR, decide_eq_false (fun c => h c.1)])
    clear h hR
    go_enter Tryz.func33, Tryz.ntmps33
    go_wp2_with fail
    go_ret
    exact ⟨ret_bool HF.out, HB.out⟩
set_option maxRecDepth 100000 in
theorem NamesM_any (w : World) : Calls Tryz.prog 14 #[] w fun e w' => e = .returned (.slice (some ⟨w.heap.size, 0, none⟩) 38 38) ∧ w' = w.alloc (.cells (txcs ([] :: namesL)) 9) := by
  go_enter Tryz.func14, Tryz.ntmps14
  go_wp2_with fail
  go_ret
  exact ⟨rfl, rfl⟩
theorem names_atM (W : World) (j : Nat) (h1 : 1 ≤ j) (h2 : j ≤ 37) : (W.alloc (.cells (txcs ([] :: namesL)) 9)).cell? ⟨W.heap.size, j, none⟩ = some (.string ⟨(txtP namesL (j : Int)).toArray⟩) := by
  have h := TxAt.made W ([] :: namesL) j (by show j < 38; omega)
  rw [h]
  congr 3
  exact congrArg List.toArray (txtP_at (L := namesL) h1 (by show j < 38; omega))
theorem ds_news {w : World} {b : Nat} {d : Dec10} (h : Ds w (some ⟨b, 0, none⟩) [d]) : ∀ (j : Nat) (u : Value), (dc10 d)[j]? = some u → w.cell? ((⟨b, 0, none⟩ : Addr).add j) = some u := by
  intro j u hj
  obtain ⟨b1, e1, _, t0, t1, t2, t3, t4, t5⟩ := h.get (i := 0) (by simp)
  injection e1 with e1; injection e1 with e1; subst e1
  rw [Addr.add_lit, Nat.zero_add]
  by_cases hl : j < 6
  · rcases (by omega : j = 0 ∨ j = 1 ∨ j = 2 ∨ j = 3 ∨ j = 4 ∨ j = 5) with rfl | rfl | rfl | rfl | rfl | rfl
    · simp [dc10] at hj; subst hj; exact t0
    · simp [dc10] at hj; subst hj; exact t1
    · simp [dc10] at hj; subst hj; exact t2
    · simp [dc10] at hj; subst hj; exact t3
    · simp [dc10] at hj; subst hj; exact t4
    · simp [dc10] at hj; subst hj; exact t5
  · rw [List.getElem?_eq_none (by show 6 ≤ j; omega)] at hj; cases hj
/-- one value of a property's own, parsed -/
theorem Parse_own (p : Nat) (h1 : 1 ≤ p) (h2 : p ≤ 37) (v : Val) (hr : rightV v = true) (imp : Bool) (W : World) (a : Option Addr) (m cp : Nat) (hm : (tokV v).length = m) (g1 : m ≤ cp) (g2 : cp ≤ maxLen) (hT : Tks W a (tokV v)) :
    Calls Tryz.prog 8 #[.agg #[.string ⟨(txtP namesL (p : Int)).toArray⟩, .slice a m cp, .bool imp]] W (PdIs W (if takesP p v = true then (0, [⟨p, v, imp⟩]) else (22, []))) := by
  obtain ⟨k1, k2, k3, k4⟩ := name_st h1 h2
  have hx : TxOk (tokV v) := fun t ht => by
    have := (tok_texts (rv_of hr)).2 t ht
    unfold maxLen; omega
  have h5 := (tok_texts (rv_of hr)).1
  have := Parse10_plain (txtP namesL (p : Int)) a (tokV v) m cp imp W hm g1 g2 (by omega) hT hx k4 (fun _ _ _ => Or.inr ⟨k2, k3, k4⟩)
  rw [parse_one hr, parseP_one h1 h2] at this
  exact this

end Go.Proofs.YtbodmfbpmeapoaaGreat
