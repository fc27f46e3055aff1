/- Joined texts: ValW9 ValWA. -/
import Derived.Test.YtbodmfbpmeapoaaGreatValW8
import Derived.Test.YtbodmfbpmeapoaaGreatSynU1
import Derived.Deep.DeepCutAuto
import Derived.Deep.LoopGhost
namespace Go.Proofs.YtbodmfbpmeapoaaGreat
open Go.RowKit TreN LexP FixP SynP ValP FixM
set_option linter.unusedVariables false

set_option maxRecDepth 100000 in
theorem Trim_any (a : Option Addr) (l : List Tok) (cap : Nat) (w : World) (h1 : l.length ≤ cap) (h2 : cap ≤ maxLen) (hl : l.length ≤ 90000) (hT : Tks w a l) :
    Calls Tryz.prog 67 #[.slice a l.length cap] w (ToldCap w (trm l)) := by
  have C := Lib.hid (trimmed_any a l cap w h1 h2 hT)
  have hlt := trm_len l
  obtain ⟨n, hn⟩ : ∃ n, l.length = n := ⟨_, rfl⟩
  rw [hn] at C hl hlt ⊢
  clear h1 h2 hT hn
  go_enter Tryz.func67, Tryz.ntmps67
  go_wp2_with fail
  refine C.out.mono ?_
  rintro e w1 ⟨⟨a2, c2, rfl, g1, g2, g3⟩, rfl⟩
  have D := Lib.hid (clone_toks a2 (trm l) c2 w (by omega) g3)
  obtain ⟨m, hm⟩ : ∃ m, (trm l).length = m := ⟨_, rfl⟩
  have HM := Lib.hid hm
  rw [hm] at D ⊢
  clear g1 g2 g3 hm hlt
  go_wp2_with fail
  refine D.out.mono ?_
  rintro e w2 ⟨⟨a3, c3, rfl, k1, k2, k3, _⟩, hb⟩
  have HF := Lib.hid (And.intro k3 (And.intro hb (And.intro k1 k2)))
  clear k1 k2 k3 hb
  go_wp2_with fail
  go_ret
  exact ⟨a3, c3, by rw [HM.out]; rfl, HF.out.1, HF.out.2.1, by rw [HM.out]; exact HF.out.2.2.1, HF.out.2.2.2⟩

/-- values in memory -/
def vcs (l : List Val) : List Value := l.flatMap vc
theorem vcs_length : ∀ l, (vcs l).length = l.length * 4
  | [] => rfl
  | v :: l => by
    have := vcs_length l
    unfold vcs at this ⊢
    rw [List.flatMap_cons, List.length_append, this]
    simp only [vc, List.length_cons, List.length_nil]; omega
theorem vcs_append (l m : List Val) : vcs (l ++ m) = vcs l ++ vcs m := by unfold vcs; rw [List.flatMap_append]
theorem vcs_one (l : List Val) : ∀ u ∈ vcs l, u.oneCell' = true := by
  intro u hu
  unfold vcs at hu
  obtain ⟨v, _, hv⟩ := List.mem_flatMap.1 hu
  simp only [vc, List.mem_cons, List.not_mem_nil, or_false] at hv
  rcases hv with rfl | rfl | rfl | rfl <;> rfl
theorem info_value : (Tryz.prog.info? 23).map (fun i => (i.zero, i.size, i.bytes)) = some (some (.agg #[.int .i64 0, .int .i64 0, .int .i64 0, .string ⟨#[]⟩]), 4, 40) := by kernel_rfl
theorem und_values : Tryz.prog.underlying 49 = some (.slice 23) := by kernel_rfl
/-- a list of values, in a row of its own -/
def Vls (w : World) (v : Value) (l : List Val) : Prop := ∃ base, w.ownsRow base 23 4 v l.length (vcs l)
theorem vcs_get (l : List Val) (i : Nat) (h : i < l.length) : (vcs l)[i * 4]? = some (.int .i64 l[i].kind) ∧ (vcs l)[i * 4 + 1]? = some (.int .i64 l[i].n) ∧ (vcs l)[i * 4 + 2]? = some (.int .i64 l[i].d) ∧ (vcs l)[i * 4 + 3]? = some (.string ⟨l[i].name.toArray⟩) := by
  induction l generalizing i with
  | nil => simp at h
  | cons v l ih =>
    have e : vcs (v :: l) = vc v ++ vcs l := by unfold vcs; rw [List.flatMap_cons]
    rw [e]
    cases i with
    | zero => exact ⟨rfl, rfl, rfl, rfl⟩
    | succ i =>
      have := ih i (by simpa using h)
      have e1 : (i + 1) * 4 = i * 4 + 4 := by omega
      rw [e1]
      exact this
theorem Cur.grown {w0 w x : World} {P : Nat} {T : TypeId} {rest : List Value} {l : List Tok} {row : Option Nat} (h : Cur w0 w P T rest l) (hg : w.grownBy x row) (hr : ∀ k, row = some k → P < k) : Cur w0 x P T rest l := by
  have hlt := h.lt
  obtain ⟨a, c, h1, h2⟩ := h.ex
  have h0 := h.base
  exact ⟨⟨a, c, (hg.block P hlt (by intro e; have := hr P e.symm; omega)).trans h1, h2⟩, h.base, h.bel.grown hg h.bel.size (fun k hk => by have := hr k hk; omega)⟩
theorem ownsRow_cur {w x : World} {P : Nat} {e : TypeId} {size : Nat} {v : Value} {n : Nat} {xs : List Value} (h : w.ownsRow (P + 1) e size v n xs) (hg : w.grownBy x (some P)) : x.ownsRow (P + 1) e size v n xs := by
  refine h.kept hg ?_
  cases hv : v.ownBlock with
  | none => exact Or.inl rfl
  | some k =>
    right
    intro e
    injection e with e
    have := (World.ownsRow.lt h k hv).1
    omega
theorem value_news (w : World) (v : Val) (w1 : World) (h : w1 = w.alloc (.cells #[.int .i64 v.kind, .int .i64 v.n, .int .i64 v.d, .string ⟨v.name.toArray⟩] 23)) : ∀ j u, (vc v)[j]? = some u → w1.cell? ((⟨w.heap.size, 0, none⟩ : Addr).add j) = some u := by
  intro j u hj
  subst h
  have hb : (w.alloc (.cells #[.int .i64 v.kind, .int .i64 v.n, .int .i64 v.d, .string ⟨v.name.toArray⟩] 23)).heap[w.heap.size]? = some (.cells #[.int .i64 v.kind, .int .i64 v.n, .int .i64 v.d, .string ⟨v.name.toArray⟩] 23 (0, 0)) := heap_alloc_new w _
  rw [Go.WideShapes.add_plain, Nat.zero_add]
  refine cell_of hb ?_
  rw [← hj]
  simp [vc]
/-- where Parse's loop stands -/
def PvAt (L : List Tok) (acc : List Val) (p : Bool) (m : List Tok) : Prop :=
  TxOk m ∧ m.length ≤ L.length ∧ if p = true then parseV L = (pv (m.length + 1) m).map (acc ++ ·) else parseV L = if m = [] then some acc else none
theorem TxOk.suf {l m : List Tok} (h : TxOk l) (hs : m <:+ l) : TxOk m := fun t ht => h t (hs.mem ht)
theorem pv_step {m : List Tok} (h : (readV m).2 ≠ 0) : pv (m.length + 1) m = if (bs (m.drop (readV m).2)).length < (m.drop (readV m).2).length then (pv ((bs (m.drop (readV m).2)).length + 1) (bs (m.drop (readV m).2))).map ((readV m).1 :: ·) else if m.drop (readV m).2 = [] then some [(readV m).1] else none := by
  have e : pv (m.length + 1) m = (if (readV m).2 = 0 then none else if (bs (m.drop (readV m).2)).length < (m.drop (readV m).2).length then (pv m.length (bs (m.drop (readV m).2))).map ((readV m).1 :: ·) else if m.drop (readV m).2 = [] then some [(readV m).1] else none) := rfl
  rw [e, if_neg h]
  by_cases hb : (bs (m.drop (readV m).2)).length < (m.drop (readV m).2).length
  · rw [if_pos hb, if_pos hb]
    have : (m.drop (readV m).2).length ≤ m.length := by rw [List.length_drop]; omega
    rw [pv_same m.length _ ((bs (m.drop (readV m).2)).length + 1) (by omega) (by omega)]
  · rw [if_neg hb, if_neg hb]
theorem PvAt.step {L : List Tok} {acc : List Val} {m : List Tok} (h : PvAt L acc true m) (hr : (readV m).2 ≠ 0) : PvAt L (acc ++ [(readV m).1]) (decide ((bs (m.drop (readV m).2)).length < (m.drop (readV m).2).length)) (bs (m.drop (readV m).2)) := by
  obtain ⟨h1, h2, h3⟩ := h
  rw [if_pos rfl, pv_step hr] at h3
  have hs : bs (m.drop (readV m).2) <:+ m := (bs_suf _).trans (List.drop_suffix _ _)
  refine ⟨h1.suf hs, Nat.le_trans hs.length_le h2, ?_⟩
  by_cases hb : (bs (m.drop (readV m).2)).length < (m.drop (readV m).2).length
  · rw [if_pos (by rw [decide_eq_true hb]), h3, if_pos hb, Option.map_map]
    congr 1
    funext z
    simp
  · rw [if_neg (by rw [decide_eq_false hb]; simp), h3, if_neg hb, bs_eq hb]
    by_cases h0 : m.drop (readV m).2 = []
    · rw [if_pos h0, if_pos h0]; rfl
    · rw [if_neg h0, if_neg h0]; rfl
theorem PvAt.fail {L : List Tok} {acc : List Val} {m : List Tok} (h : PvAt L acc true m) (hr : (readV m).2 = 0) : parseV L = none := by
  obtain ⟨h1, h2, h3⟩ := h
  rw [if_pos rfl] at h3
  rw [h3]
  have e : pv (m.length + 1) m = none := by
    show (if (readV m).2 = 0 then none else _) = none
    rw [if_pos hr]
  rw [e]; rfl
/-- what a parse of values answers -/
def PvIs (w : World) (r : Option (List Val)) (e : Ending) (w' : World) : Prop :=
  (match r with | none => e = .returned (.tuple #[.slice none 0 0, .int .i64 22]) | some vs => ∃ v, e = .returned (.tuple #[v, .int .i64 0]) ∧ Vls w' v vs) ∧ Below w.heap.size w w'
end Go.Proofs.YtbodmfbpmeapoaaGreat

namespace Go.Proofs.YtbodmfbpmeapoaaGreat
open Go.RowKit TreN LexP FixP SynP ValP FixM
set_option linter.unusedVariables false

theorem pvIs_none {w w' : World} {r : Option (List Val)} (hr : r = none) (hb : Below w.heap.size w w') : PvIs w r (.returned (.tuple #[.slice none 0 0, .int .i64 22])) w' := by
  subst hr; exact ⟨rfl, hb⟩
theorem pvIs_some {w w' : World} {r : Option (List Val)} {vs : List Val} {v : Value} (hr : r = some vs) (hv : Vls w' v vs) (hb : Below w.heap.size w w') : PvIs w r (.returned (.tuple #[v, .int .i64 0])) w' := by
  subst hr; exact ⟨⟨v, rfl, hv⟩, hb⟩
theorem pvAt_start {l : List Tok} (hx : TxOk l) : PvAt l [] true (trm l) := by
  have hs : ∀ t ∈ trm l, t ∈ l := by
    intro t ht
    unfold trm es at ht
    have h1 := (List.dropWhile_suffix _).mem (List.mem_reverse.1 ht)
    exact (bs_suf l).mem (List.mem_reverse.1 h1)
  refine ⟨fun t ht => hx t (hs t ht), trm_len l, ?_⟩
  rw [if_pos rfl]
  unfold parseV
  cases pv ((trm l).length + 1) (trm l) <;> rfl

set_option maxRecDepth 100000 in
set_option maxHeartbeats 4000000 in
theorem Parse9_any (a : Option Addr) (l : List Tok) (cap : Nat) (w : World) (h1 : l.length ≤ cap) (h2 : cap ≤ maxLen) (hl : l.length ≤ 90000) (hT : Tks w a l) (hx : TxOk l) :
    Calls Tryz.prog 43 #[.slice a l.length cap] w (PvIs w (parseV l)) := by
  have C := Lib.hid (Trim_any a l cap w h1 h2 hl hT)
  have HPV := Lib.hid (pvAt_start hx)
  have hml := trm_len l
  obtain ⟨i0, hi0, hz0, hz1, hz2⟩ := info_parts info_value
  obtain ⟨ml, hm⟩ : ∃ m, trm l = m := ⟨_, rfl⟩
  obtain ⟨R, hR⟩ : ∃ R, parseV l = R := ⟨_, rfl⟩
  have HR := Lib.hid hR
  rw [hm] at C HPV hml
  rw [hR]
  have hml2 : ml.length ≤ 90000 := by omega
  have HML := Lib.hid hml2
  obtain ⟨n0, hn0⟩ : ∃ n, l.length = n := ⟨_, rfl⟩
  rw [hn0] at C ⊢
  clear h1 h2 hl hT hx hm hR hn0 hml hml2
  go_enter Tryz.func43, Tryz.ntmps43
  go_wp2_with fail
  refine C.out.mono ?_
  rintro e w1 ⟨a1, c1, rfl, hT1, hb1, g1, g2⟩
  have HB1 := Lib.hid hb1
  obtain ⟨m0, hm0⟩ : ∃ m, ml.length = m := ⟨_, rfl⟩
  have HC1 : Hid (Cur w1 (w1.alloc (.cells #[.slice a1 m0 c1] 80)) w1.heap.size 80 [] ml) := Lib.hid ⟨⟨a1, c1, by rw [hm0]; exact heap_alloc_new w1 _, g1, g2, hT1⟩, Nat.le_refl _, below_one9 _ _⟩
  have HM0 := Lib.hid hm0
  rw [hm0]
  clear hb1 hT1 g1 g2 hm0
  go_wp2_with fail
  go_loopg [5, 6] (m0 + 1) (fun gk v5 v6 wr => ∃ (m : List Tok) (acc : List Val) (p : Bool), v6 = .bool p ∧ gk = (if p = true then m.length + 1 else 0) ∧ wr.ownsRow (w1.heap.size + 1) 23 4 v5 acc.length (vcs acc) ∧ Hid (Cur w1 wr w1.heap.size 80 [] m) ∧ Hid (PvAt l acc p m) ∧ Hid (acc.length + m.length ≤ 90000))
  case atStart => exact ⟨ml, [], true, rfl, by rw [HM0.out]; rfl, World.ownsRow_nil _ _ _ 4, HC1, HPV, Lib.hid (by have := HML.out; simp; omega)⟩
  case round =>
    obtain ⟨m, acc, p, rfl, hg, hown, HC, HP, HL⟩ := hrel
    have HO := Lib.hid hown
    clear hown
    obtain ⟨a2, c2, hblk, k1, k2, k3⟩ := HC.out.ex
    obtain ⟨mn, hmn⟩ : ∃ mn, m.length = mn := ⟨_, rfl⟩
    have HMN := Lib.hid hmn
    have hT2 : Tks wr a2 m := k3.below HC.out.bel
    have HK := Lib.hid (And.intro k1 (And.intro k2 k3))
    have HBW : Hid (Below w.heap.size w wr) := Lib.hid (HB1.out.trans (HC.out.bel.mono HB1.out.size))
    have hPl := blk_lt9 hblk
    rw [hmn] at hblk hg
    have c0 : wr.cell? ⟨w1.heap.size, 0, none⟩ = some (.slice a2 mn c2) := cell_of hblk rfl
    have HBLK := Lib.hid hblk
    cases p with
    | false =>
      have hF : (m = [] ∧ R = some acc) ∨ (m ≠ [] ∧ R = none) := by
        have h3 := HP.out.2.2
        rw [if_neg (by simp), HR.out] at h3
        by_cases h0 : m = []
        · exact Or.inl ⟨h0, by rw [h3, if_pos h0]⟩
        · exact Or.inr ⟨h0, by rw [h3, if_neg h0]⟩
      have hmb : mn ≤ 90000 := by have := HL.out; omega
      rcases hF with ⟨h0, hF⟩ | ⟨h0, hF⟩
      · have hz : mn = 0 := by rw [← hmn, h0]; rfl
        subst hz
        have HF := Lib.hid hF
        clear hF h0 hmn hblk hT2 k1 k2 k3 hg
        go_wp2_with fail
        go_ret2
        exact pvIs_some HF.out ⟨_, HO.out⟩ HBW.out
      · have hz : 0 < mn := by rw [← hmn]; exact List.length_pos_iff.2 h0
        have hzz : (0 : Int) < (mn : Int) := by omega
        have HF := Lib.hid hF
        clear hF h0 hmn hblk hT2 k1 k2 k3 hg
        go_wp2_with fail
        go_ret2
        exact pvIs_none HF.out HBW.out
    | true =>
      have RD := Read9_any a2 m c2 wr (by rw [hmn]; omega) k2 hT2 HP.out.1
      have hle := readV_le m
      obtain ⟨⟨vk, vn, vd, vx⟩, hv⟩ : ∃ v, (readV m).1 = v := ⟨_, rfl⟩
      obtain ⟨q, hq⟩ : ∃ q, (readV m).2 = q := ⟨_, rfl⟩
      rw [hv, hq, hmn] at RD
      rw [hq, hmn] at hle
      have RD2 : Hid (Calls Tryz.prog 66 #[.slice a2 mn c2] wr fun e w' => e = .returned (.tuple #[.agg #[.int .i64 vk, .int .i64 vn, .int .i64 vd, .string ⟨vx.toArray⟩], .int .i64 (q : Nat)]) ∧ Below wr.heap.size wr w') := Lib.hid RD
      rcases Nat.eq_zero_or_pos q with hq0 | hq0
      · subst hq0
        have HF : Hid (R = none) := Lib.hid (by rw [← HR.out]; exact HP.out.fail hq)
        clear RD hv hq hmn hblk hT2 k1 k2 k3 hg hle
        go_wp2_with fail
        refine RD2.out.mono ?_
        rintro e w2 ⟨rfl, hb2⟩
        have HB2 := Lib.hid (HBW.out.trans (hb2.mono HBW.out.size))
        clear hb2
        go_wp2_with fail
        go_ret2
        exact pvIs_none HF.out (HB2.out.alloc HB2.out.size _)
      · have hqz : ((q : Int) == 0) = false := by rw [beq_eq_false_iff_ne]; omega
        have hne : (readV m).2 ≠ 0 := by rw [hq]; omega
        have HPN := HP.out.step hne
        rw [hv, hq] at HPN
        have HPP := Lib.hid HPN
        obtain ⟨a3, s1, s2, s3, s4, s5⟩ := sl_from a2 m c2 mn q hmn (q : Int) rfl hle (by omega) k2
        have HT3 := Lib.hid (s5 w1 k3)
        have HS2 := Lib.hid s2
        have hb90 : acc.length ≤ 90000 := by have := HL.out; omega
        have hq0' : (0 : Int) ≤ (q : Int) := by omega
        have hqm : (q : Int) ≤ (mn : Int) := by omega
        have hmb : mn ≤ 90000 := by have := HL.out; omega
        have HLL : Hid ((acc ++ [(⟨vk, vn, vd, vx⟩ : Val)]).length + (bs (m.drop q)).length ≤ 90000) := Lib.hid (by
          have := bs_len (m.drop q); have := HL.out; rw [List.length_append, List.length_singleton]; rw [List.length_drop] at *; omega)
        have HGK : Hid (decide ((bs (m.drop q)).length < (m.drop q).length) = true → (bs (m.drop q)).length + 1 < gk) := Lib.hid (by
          intro _; rw [if_pos rfl] at hg; have := bs_len (m.drop q); rw [List.length_drop] at this; omega)
        have HGK2 : Hid (0 < gk) := Lib.hid (by rw [if_pos rfl] at hg; omega)
        clear RD hv hq hmn hblk hT2 k1 k3 hg hne HPN s2 s5
        go_wp2_with fail
        refine RD2.out.mono ?_
        rintro e w2 ⟨rfl, hb2⟩
        go_upto_region 9 with (fail)
        have hO2 := (ownsRow_below HO.out hb2).alloc (.cells #[.int .i64 vk, .int .i64 vn, .int .i64 vd, .string ⟨vx.toArray⟩] 23)
        have hC2 := HC.out.keep (hb2.trans ((below_one9 w2 (.cells #[.int .i64 vk, .int .i64 vn, .int .i64 vd, .string ⟨vx.toArray⟩] 23)).mono hb2.size))
        have hnew : (w2.alloc (.cells #[.int .i64 vk, .int .i64 vn, .int .i64 vd, .string ⟨vx.toArray⟩] 23)).heap[w2.heap.size]? = some (.cells #[.int .i64 vk, .int .i64 vn, .int .i64 vd, .string ⟨vx.toArray⟩] 23 (0, 0)) := heap_alloc_new w2 _
        have hP3 := (Below.heap_alloc w2 (.cells #[.int .i64 vk, .int .i64 vn, .int .i64 vd, .string ⟨vx.toArray⟩] 23) _ (Nat.lt_of_lt_of_le hPl hb2.size)).trans ((hb2.block _ hPl).trans HBLK.out)
        generalize hw3 : w2.alloc (.cells #[.int .i64 vk, .int .i64 vn, .int .i64 vd, .string ⟨vx.toArray⟩] 23) = w3 at *
        obtain ⟨B3, hB3⟩ : ∃ B, w2.heap.size = B := ⟨_, rfl⟩
        rw [hB3] at hnew ⊢
        have e0 : w3.cell? ⟨B3, 0, none⟩ = some (.int .i64 vk) := cell_of hnew rfl
        have e1 : w3.cell? ⟨B3, 1, none⟩ = some (.int .i64 vn) := cell_of hnew rfl
        have e2 : w3.cell? ⟨B3, 2, none⟩ = some (.int .i64 vd) := cell_of hnew rfl
        have e3 : w3.cell? ⟨B3, 3, none⟩ = some (.string ⟨vx.toArray⟩) := cell_of hnew rfl
        have hrow : ∀ r, u5.ownBlock = some r → w1.heap.size + 1 ≤ r := fun r hr => (World.ownsRow.lt hO2 r hr).1
        have HC3 := Lib.hid hC2
        have hP3l := blk_lt9 hP3
        have HP3 := Lib.hid hP3
        clear hw3 hB3 hnew hb2 hC2 hP3 c0
        go_wp2_with (at_builtin; refine wpList_append_own _ rfl _ _ 49 rfl (w1.heap.size + 1) 23 i0 _ 4 40 und_values hi0 hz0 hz1 hz2 rfl (by decide) _ _ _ rfl (hO2.alloc _) ⟨w3.heap.size, 0, none⟩ 1 1 (vc ⟨vk, vn, vd, vx⟩) rfl rfl ?c1 ?c2 ?c3 ?c4 ?c5 ?_)
        case c1 => exact value_news w3 ⟨vk, vn, vd, vx⟩ _ rfl
        case c2 => intro u hu; exact vcs_one [⟨vk, vn, vd, vx⟩] u (by simpa [vcs] using hu)
        case c3 => unfold maxLen; omega
        case c4 => omega
        case c5 => simp; omega
        intro v' w4 hown' hgrow _
        have hC4 := (HC3.out.keep (below_one9 w3 (.cells #[.int .i64 vk, .int .i64 vn, .int .i64 vd, .string ⟨vx.toArray⟩] 23))).grown hgrow (fun k hk => by have := hrow k hk; omega)
        have hP4 : w4.heap[w1.heap.size]? = some (.cells (.slice a2 mn c2 :: []).toArray 80 (0, 0)) := by
          rw [hgrow.block _ (by simp; omega) (by intro e; have := hrow _ e.symm; omega), Below.heap_alloc _ _ _ hP3l]; exact HP3.out
        have c4 : w4.cell? ⟨w1.heap.size, 0, none⟩ = some (.slice a2 mn c2) := cell_of hP4 rfl
        have f4 : w4.frozen? ⟨w1.heap.size, 0, none⟩ = false := unfrozen_of hP4
        have hst : w4.grownBy (w4.setCell ⟨w1.heap.size, 0, none⟩ (.slice a3 (mn - q) (c2 - q))) (some w1.heap.size) := grownBy_set _ _ _ _
        have HC5 : Hid (Cur w1 (w4.setCell ⟨w1.heap.size, 0, none⟩ (.slice a3 (mn - q) (c2 - q))) w1.heap.size 80 [] (m.drop q)) := Lib.hid ⟨⟨a3, c2 - q, by rw [setCell_here _ hP4, HS2.out]; rfl, by rw [HS2.out]; exact s3, s4, HT3.out⟩, hC4.base, hC4.bel.setCell (p := ⟨w1.heap.size, 0, none⟩) hC4.base _⟩
        have HO5 : Hid ((w4.setCell ⟨w1.heap.size, 0, none⟩ (.slice a3 (mn - q) (c2 - q))).ownsRow (w1.heap.size + 1) 23 4 v' (acc.length + 1) (vcs acc ++ vc ⟨vk, vn, vd, vx⟩)) := Lib.hid (ownsRow_cur hown' hst)
        clear hown' hgrow hC4 hP4 hst hO2
        go_wp2_with fail
        refine (Spaces_any HC5.out).mono ?_
        rintro e w6 ⟨rfl, hg6, hc6⟩
        have HC6 := Lib.hid hc6
        have hO6 := ownsRow_cur HO5.out hg6
        have hO7 : w6.ownsRow (w1.heap.size + 1) 23 4 v' (acc ++ [(⟨vk, vn, vd, vx⟩ : Val)]).length (vcs (acc ++ [(⟨vk, vn, vd, vx⟩ : Val)])) := by
          rw [List.length_append, vcs_append]; simpa [vcs] using hO6
        have HO7 := Lib.hid hO7
        clear hg6 hc6 hO6 hO7
        obtain ⟨bb, hbb⟩ : ∃ bb, decide ((bs (m.drop q)).length < (m.drop q).length) = bb := ⟨_, rfl⟩
        rw [hbb]
        have HGK3 : Hid ((if bb = true then (bs (m.drop q)).length + 1 else 0) < gk) := Lib.hid (by
          rw [← hbb]
          split
          · rename_i h; exact HGK.out h
          · exact HGK2.out)
        have HPP2 : Hid (PvAt l (acc ++ [(⟨vk, vn, vd, vx⟩ : Val)]) bb (bs (m.drop q))) := Lib.hid (by rw [← hbb]; exact HPP.out)
        clear hbb HGK HPP
        go_wp2_with fail
        go_roundg (if bb = true then (bs (m.drop q)).length + 1 else 0)
        case rel => exact ⟨bs (m.drop q), acc ++ [(⟨vk, vn, vd, vx⟩ : Val)], bb, rfl, rfl, HO7.out, HC6, HPP2, HLL⟩
        case measure => exact HGK3.out
end Go.Proofs.YtbodmfbpmeapoaaGreat
