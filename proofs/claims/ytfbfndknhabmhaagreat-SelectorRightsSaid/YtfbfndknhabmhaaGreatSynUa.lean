/- Joined texts: SynU2 SynW5. -/
import Derived.Test.YtfbfndknhabmhaaGreatSynU1
import Derived.WalkSmall
namespace Go.Proofs.YtfbfndknhabmhaaGreat
open Go.RowKit TreN LexP FixP SynP
set_option linter.unusedVariables false

theorem info_intS : (Tryz.prog.info? 3).map (fun i => (i.zero, i.size, i.bytes)) = some (some (.int .i64 0), 1, 8) := by kernel_rfl
theorem tkcs_newsI (w : World) (c : Int) {g : Nat} (h : w.heap[g]? = some (.cells #[.int .i64 c] 3 (0, 0))) : ∀ (j : Nat) (u : Value), ([.int .i64 c] : List Value)[j]? = some u → w.cell? ((⟨g, 0, none⟩ : Addr).add j) = some u := by
  intro j u hj
  rcases j with _ | j
  · simp at hj; subst hj
    rw [Addr.add_lit]
    exact cell_of h rfl
  · simp at hj
/-- where the search for what closes stands -/
def MtAt (l : List Tok) (i k : Nat) (aw : List Int) : Prop := (aw = [] → k = i) ∧ mtc l i = (match mt (l.drop k) aw with | some d => k + d | none => l.length)
theorem MtAt.start {l : List Tok} {i : Nat} (h : i < l.length) (hc : clo l[i].kind ≠ 0) : MtAt l i i [] := by
  refine ⟨fun _ => rfl, ?_⟩
  rw [List.drop_eq_getElem_cons h, mt_open hc, mtc_lpR h hc]
  unfold lpR
  cases mt (l.drop (i + 1)) [clo l[i].kind] with
  | none => rfl
  | some d => show i + 1 + d = i + (d + 1); omega
theorem MtAt.map {l : List Tok} {i k : Nat} {o : Option Nat} : (match o.map (· + 1) with | some d => k + d | none => l.length) = (match o with | some d => k + 1 + d | none => l.length) := by
  cases o with
  | none => rfl
  | some d => show k + (d + 1) = k + 1 + d; omega
theorem MtAt.opened {l : List Tok} {i k : Nat} {aw : List Int} (h : MtAt l i k aw) (hk : k < l.length) (hc : clo l[k].kind ≠ 0) : MtAt l i (k + 1) (clo l[k].kind :: aw) := by
  refine ⟨(fun h => nomatch h), ?_⟩
  have h2 := h.2
  rw [List.drop_eq_getElem_cons hk, mt_open hc, MtAt.map (i := i)] at h2
  exact h2
theorem MtAt.passed {l : List Tok} {i k : Nat} {c : Int} {aw : List Int} (h : MtAt l i k (c :: aw)) (hk : k < l.length) (hc : clo l[k].kind = 0) (hn : l[k].kind ≠ c) : MtAt l i (k + 1) (c :: aw) := by
  refine ⟨(fun h => nomatch h), ?_⟩
  have h2 := h.2
  rw [List.drop_eq_getElem_cons hk, mt_other hc _ hn, MtAt.map (i := i)] at h2
  exact h2
theorem MtAt.closed {l : List Tok} {i k : Nat} {c : Int} {aw : List Int} (h : MtAt l i k (c :: aw)) (hk : k < l.length) (hc : clo l[k].kind = 0) (hn : l[k].kind = c) (ha : aw ≠ []) : MtAt l i (k + 1) aw := by
  refine ⟨fun h => absurd h ha, ?_⟩
  have h2 := h.2
  subst hn
  rw [List.drop_eq_getElem_cons hk, mt_close hc _ ha, MtAt.map (i := i)] at h2
  exact h2
theorem MtAt.found {l : List Tok} {i k : Nat} {c : Int} (h : MtAt l i k [c]) (hk : k < l.length) (hc : clo l[k].kind = 0) (hn : l[k].kind = c) : mtc l i = k := by
  have h2 := h.2
  subst hn
  rw [List.drop_eq_getElem_cons hk, mt_last hc] at h2
  exact h2
theorem MtAt.over {l : List Tok} {i k : Nat} {aw : List Int} (h : MtAt l i k aw) (hk : l.length ≤ k) : mtc l i = l.length := by
  have h2 := h.2
  rw [List.drop_of_length_le hk] at h2
  cases aw <;> exact h2

set_option maxRecDepth 100000 in
set_option maxHeartbeats 4000000 in
theorem Match_open (a : Option Addr) (l : List Tok) (n cap i : Nat) (w : World) (hn : l.length = n) (hi : i < l.length) (hcap : n ≤ 100000) (hT : Tks w a l) (hc : clo l[i].kind ≠ 0) :
    Calls Tryz.prog 102 #[.slice a n cap, .int .i64 (i : Int)] w fun e w' => e = .returned (.int .i64 (mtc l i)) ∧ Below w.heap.size w w' := by
  have hst := MtAt.start hi hc
  obtain ⟨b1, o1, rfl, hb1, k1⟩ := hT.get hi
  obtain ⟨t, ht⟩ : ∃ t, l[i] = t := ⟨_, rfl⟩
  have HCI : Hid (∀ x, l[i]? = some x → clo x.kind ≠ 0) := Lib.hid fun x hx => by rw [List.getElem?_eq_getElem hi] at hx; injection hx with hx; subst hx; exact hc
  rw [ht] at k1 hc
  have d1 : w.cell? ⟨b1, o1 + i * 3, none⟩ = some (.int .i64 t.kind) := k1.kind
  have d2 : w.cell? ⟨b1, o1 + i * 3 + 1, none⟩ = some (.string ⟨t.text.toArray⟩) := k1.text
  have d3 : w.cell? ⟨b1, o1 + i * 3 + 2, none⟩ = some (.int .i64 t.n) := k1.n
  have C : ∀ W : World, Calls Tryz.prog 109 #[t.val] W fun e w' => e = .returned (.int .i64 (clo t.kind)) ∧ Below W.heap.size W w' := fun W => closing_any t W
  have CC := Lib.hid C
  unfold LexP.Tok.val at CC
  have hz1 : ¬ (i : Int) < 0 := by omega
  have hz2 : ¬ (n : Int) ≤ (i : Int) := by omega
  have hz3 : (i : Int) < (n : Int) := by omega
  have hz4 : (0 : Int) ≤ (i : Int) := by omega
  have hcz : (clo t.kind == 0) = false := by rw [beq_eq_false_iff_ne]; exact hc
  generalize clo t.kind = c at *
  have HT := Lib.hid hT
  have HN := Lib.hid hn
  have HST := Lib.hid hst
  obtain ⟨i0, hi0, hq0, hq1, hq2⟩ := info_parts info_intS
  have hiN : i ≤ n := by omega
  clear C k1 ht hn hT hst hi hc
  go_enter Tryz.func102, Tryz.ntmps102
  go_wp2_with fail
  refine (CC.out _).mono ?_
  rintro e w1 ⟨rfl, hbb1⟩
  have HB1 := Lib.hid hbb1
  clear hbb1 CC d1 d2 d3
  go_wp2_with fail
  clear hcz
  go_loopw [5, 6] (fun va vi wr => ∃ (k q : Nat) (aw : List Int), vi = .int .i64 (k : Int) ∧ k ≤ n ∧ wr.ownsRow w.heap.size 3 1 va q (aw.reverse.map (.int .i64)) ∧ Hid (Below w.heap.size w wr) ∧ Hid (MtAt l i k aw ∧ aw.length = q) ∧ q ≤ k) (fun _ vi _ => n - (intOf vi).toNat)
  case atStart => exact ⟨i, 0, [], rfl, by omega, World.ownsRow_nil _ _ _ 1, HB1, Lib.hid ⟨HST.out, rfl⟩, by omega⟩
  case round =>
    obtain ⟨k, q, aw, rfl, hk, hown, HB, HM, hqk⟩ := hrel
    by_cases hlt : k < n
    · have hltz : (k : Int) < (n : Int) := by omega
      have hkl : k < l.length := by have := HN.out; omega
      obtain ⟨b2, o2, e, g1, k1⟩ := HT.out.get hkl
      injection e with e; injection e with e1 e2; subst e1; subst e2
      obtain ⟨u, hu⟩ : ∃ u, l[k] = u := ⟨_, rfl⟩
      rw [hu] at k1
      have k2 := k1.below HB.out g1
      have C : ∀ W : World, Calls Tryz.prog 109 #[u.val] W fun e w' => e = .returned (.int .i64 (clo u.kind)) ∧ Below W.heap.size W w' := fun W => closing_any u W
      have CC := Lib.hid C
      unfold LexP.Tok.val at CC
      have d1 : wr.cell? ⟨b1, o1 + k * 3, none⟩ = some (.int .i64 u.kind) := k2.kind
      have d2 : wr.cell? ⟨b1, o1 + k * 3 + 1, none⟩ = some (.string ⟨u.text.toArray⟩) := k2.text
      have d3 : wr.cell? ⟨b1, o1 + k * 3 + 2, none⟩ = some (.int .i64 u.n) := k2.n
      have HU := Lib.hid hu
      have HO := Lib.hid hown
      clear k1 k2 C hu hown
      by_cases hop : clo u.kind = 0
      · have hcu : (clo u.kind != 0) = false := by rw [hop]; rfl
        obtain ⟨cu, hcu2⟩ : ∃ x, clo u.kind = x := ⟨_, rfl⟩
        have HOP : Hid (clo l[k].kind = 0) := Lib.hid (by rw [HU.out]; exact hop)
        rw [hcu2] at CC hcu hop
        obtain ⟨uk, huk⟩ : ∃ x, u.kind = x := ⟨_, rfl⟩
        have HUK : Hid (l[k].kind = uk) := Lib.hid (by rw [HU.out, huk])
        rw [huk] at CC d1
        cases aw with
        | nil =>
          exfalso
          have h1 := HM.out.1.1 rfl
          subst h1
          exact HCI.out _ (List.getElem?_eq_getElem hkl) HOP.out
        | cons c2 aw2 =>
          obtain ⟨m, hm⟩ : ∃ m, q = m + 1 := ⟨aw2.length, by have := HM.out.2; simp at this; omega⟩
          have hlen : aw2.length = m := by have := HM.out.2; simp at this; omega
          have hw : IntKind.i64.wrap ((q : Int) - 1) = (m : Int) := by
            have e : (q : Int) - 1 = (m : Int) := by omega
            rw [e]; exact IntWalk.i64_in _ (by omega)
          have hmq : (m : Int) < (q : Int) := by omega
          have hm0 : (0 : Int) ≤ (m : Int) := by omega
          have hmq2 : m < q := by omega
          obtain ⟨g, gc, rfl, hg1, hg2⟩ := HO.out.form (by omega)
          have hcell : wr.cell? ⟨g, m, none⟩ = some (.int .i64 c2) := by
            rw [HO.out.cellAt m (by omega)]
            simp [hlen]
          have HCELL := Lib.hid hcell
          have HM2 := Lib.hid hm
          have HLEN := Lib.hid hlen
          clear hm hlen
          go_wp2_with fail
          refine (CC.out _).mono ?_
          rintro e w2 ⟨rfl, hb2⟩
          have hbl : Below w.heap.size w w2 := HB.out.trans (hb2.mono HB.out.size)
          have d1 : w2.cell? ⟨b1, o1 + k * 3, none⟩ = some (.int .i64 uk) := (hb2.cell (World.block_lt_of_cell? wr _ d1)).trans d1
          have hcell : w2.cell? ⟨g, m, none⟩ = some (.int .i64 c2) := (hb2.cell (World.block_lt_of_cell? wr _ hcell)).trans hcell
          have HO2 := Lib.hid (ownsRow_below HO.out hb2)
          have HB2 := Lib.hid hbl
          clear hb2 hbl CC d2 d3 HCELL
          have hgc : (m : Int) ≤ (gc : Int) := by
            rcases HO2.out.2 with ⟨hv, _⟩ | ⟨g3, cap3, cur3, hv, _, _, hle, _⟩
            · cases hv
            · injection hv with _ _ hv; subst hv; omega
          by_cases hkc : uk = c2
          · have hnez : (uk != c2) = false := by rw [hkc]; simp
            have HKC : Hid (l[k].kind = c2) := Lib.hid (by rw [HUK.out]; exact hkc)
            clear hkc
            by_cases hm0' : m = 0
            · have hmz : ((m : Int) == 0) = true := by rw [hm0']; rfl
              have haw : aw2 = [] := List.eq_nil_of_length_eq_zero (by rw [HLEN.out]; exact hm0')
              have HF : Hid (mtc l i = k) := Lib.hid (by
                have h := HM.out.1
                rw [haw] at h
                exact h.found hkl HOP.out HKC.out)
              clear haw hm0'
              go_wp2_with fail
              go_quiet (fail)
              have HB3 := Lib.hid (below_drewN2 HB2.out nq)
              go_wp2_with fail
              go_ret
              exact ⟨by rw [HF.out]; rfl, HB3.out⟩
            · have hmz : ((m : Int) == 0) = false := by rw [beq_eq_false_iff_ne]; omega
              have hmn : ¬ m = 0 := hm0'
              have HO3 : Hid (w2.ownsRow w.heap.size 3 1 (.slice (some ⟨g, 0, none⟩) m gc) m (aw2.reverse.map (.int .i64))) := Lib.hid (by
                have h := HO2.out
                rw [HM2.out, List.reverse_cons, List.map_append] at h
                exact ownsRow_pop (by simp [HLEN.out]) h)
              have HMT : Hid (MtAt l i (k + 1) aw2 ∧ aw2.length = m) := Lib.hid ⟨HM.out.1.closed hkl HOP.out HKC.out (fun h => by have := HLEN.out; rw [h] at this; simp at this; omega), HLEN.out⟩
              clear hm0'
              go_wp2_with fail
              go_quiet (fail)
              have HB3 := Lib.hid (below_drewN2 HB2.out nq)
              have HO4 : Hid ((w2.drewN nq).ownsRow w.heap.size 3 1 (.slice (some ⟨g, 0, none⟩) m gc) m (aw2.reverse.map (.int .i64))) := Lib.hid (ownsRow_below HO3.out (below_drewN2 (Below.refl _ _) nq))
              go_wp2_with fail
              go_roundw
              case rel => exact ⟨k + 1, m, aw2, by go_num, by omega, HO4.out, HB3, HMT, by have := HM2.out; omega⟩
              case measure => simp [intOf]; omega
          · have hnez : (uk != c2) = true := by rw [bne_iff_ne]; exact hkc
            have HMT : Hid (MtAt l i (k + 1) (c2 :: aw2) ∧ (c2 :: aw2).length = q) := Lib.hid ⟨HM.out.1.passed hkl HOP.out (by rw [HUK.out]; exact hkc), HM.out.2⟩
            clear hkc
            go_wp2_with fail
            go_quiet (fail)
            have HB3 := Lib.hid (below_drewN2 HB2.out nq)
            have HO4 : Hid ((w2.drewN nq).ownsRow w.heap.size 3 1 (.slice (some ⟨g, 0, none⟩) q gc) q ((c2 :: aw2).reverse.map (.int .i64))) := Lib.hid (ownsRow_below HO2.out (below_drewN2 (Below.refl _ _) nq))
            go_wp2_with fail
            go_roundw
            case rel => exact ⟨k + 1, q, _, by go_num, by omega, HO4.out, HB3, HMT, by omega⟩
            case measure => simp [intOf]; omega
      · have hcu : (clo u.kind != 0) = true := by rw [bne_iff_ne]; exact hop
        have HMT : Hid (MtAt l i (k + 1) (clo u.kind :: aw) ∧ (clo u.kind :: aw).length = q + 1) := Lib.hid ⟨by
          have h := HM.out.1.opened hkl (by rw [HU.out]; exact hop)
          rw [HU.out] at h
          exact h, by have := HM.out.2; simp; omega⟩
        obtain ⟨cu, hcu2⟩ : ∃ x, clo u.kind = x := ⟨_, rfl⟩
        rw [hcu2] at CC hcu HMT
        clear hop hcu2
        go_wp2_with fail
        refine (CC.out _).mono ?_
        rintro e w2 ⟨rfl, hb2⟩
        have hbl : Below w.heap.size w w2 := HB.out.trans (hb2.mono HB.out.size)
        have hown1 := ownsRow_below HO.out hb2
        have HB2 := Lib.hid hbl
        have hle2 := hbl.size
        have hrow : ∀ q, u5.ownBlock = some q → w.heap.size ≤ q := fun q hq => (World.ownsRow.lt hown1 q hq).1
        clear hb2 hbl CC d1 d2 d3
        go_wp2_with (at_builtin; refine wpList_append_own _ rfl _ _ 118 rfl w.heap.size 3 i0 (.int .i64 0) 1 8 Tryz.underlying118 hi0 hq0 hq1 hq2 rfl (by decide) _ _ _ rfl (hown1.alloc _) ⟨w2.heap.size, 0, none⟩ 1 1 [.int .i64 cu] rfl rfl ?c1 ?c2 ?c3 ?c4 ?c5 ?_)
        case c1 => exact tkcs_newsI _ _ (heap_alloc_new _ _)
        case c2 => intro u hu; simp at hu; subst hu; rfl
        case c3 => unfold maxLen; omega
        case c4 => omega
        case c5 => simp; omega
        intro v' w3 hown' hgrow _
        have hbel3 : Below w.heap.size w w3 := (HB2.out.alloc hle2 _).trans (below_grownT hgrow hrow (by simp; omega))
        have HO3 : Hid (w3.ownsRow w.heap.size 3 1 v' (q + 1) ((cu :: aw).reverse.map (.int .i64))) := Lib.hid (by rw [List.reverse_cons, List.map_append, List.map_reverse]; exact hown')
        have HB3 := Lib.hid hbel3
        clear hown' hgrow hrow hbel3 hown1
        go_wp2_with fail
        go_roundw
        case rel => exact ⟨k + 1, q + 1, _, by go_num, by omega, HO3.out, HB3, HMT, by omega⟩
        case measure => simp [intOf]; omega
    · have hltz : ¬ (k : Int) < (n : Int) := by omega
      have HF : Hid (mtc l i = n) := Lib.hid (by rw [HM.out.1.over (by have := HN.out; omega), HN.out])
      clear hown
      go_wp2_with fail
      go_ret
      exact ⟨by rw [HF.out]; rfl, HB.out⟩
end Go.Proofs.YtfbfndknhabmhaaGreat

namespace Go.Proofs.YtfbfndknhabmhaaGreat
open Go.RowKit TreN LexP FixP SynP
set_option linter.unusedVariables false

set_option maxRecDepth 100000 in
set_option maxHeartbeats 1000000 in
theorem Match_any (a : Option Addr) (l : List Tok) (cap : Nat) (i : Int) (w : World) (hl : l.length ≤ 100000) (hT : Tks w a l) :
    Calls Tryz.prog 102 #[.slice a l.length cap, .int .i64 i] w fun e w' => e = .returned (.int .i64 (matchS l i)) ∧ Below w.heap.size w w' := by
  unfold matchS
  by_cases h0 : i < 0
  · rw [if_neg (by omega)]
    go_enter Tryz.func102, Tryz.ntmps102
    go_wp2_with fail
    go_ret
    exact ⟨rfl, Below.refl _ _⟩
  · by_cases h1 : (l.length : Int) ≤ i
    · rw [if_neg (by omega)]
      go_enter Tryz.func102, Tryz.ntmps102
      go_wp2_with fail
      go_ret
      exact ⟨rfl, Below.refl _ _⟩
    · rw [if_pos (by omega)]
      obtain ⟨j, hj⟩ : ∃ j : Nat, i = (j : Int) := ⟨i.toNat, by omega⟩
      subst hj
      have hjl : j < l.length := by omega
      rw [show (j : Int).toNat = j by omega]
      by_cases hc : clo l[j].kind = 0
      · rw [mtc_none hjl hc]
        obtain ⟨b1, o1, rfl, hb1, k1⟩ := hT.get hjl
        obtain ⟨t, ht⟩ : ∃ t, l[j] = t := ⟨_, rfl⟩
        rw [ht] at k1 hc
        obtain ⟨n, hn⟩ : ∃ n, l.length = n := ⟨_, rfl⟩
        rw [hn] at h1 hjl hl ⊢
        have d1 : w.cell? ⟨b1, o1 + j * 3, none⟩ = some (.int .i64 t.kind) := k1.kind
        have d2 : w.cell? ⟨b1, o1 + j * 3 + 1, none⟩ = some (.string ⟨t.text.toArray⟩) := k1.text
        have d3 : w.cell? ⟨b1, o1 + j * 3 + 2, none⟩ = some (.int .i64 t.n) := k1.n
        have C : ∀ W : World, Calls Tryz.prog 109 #[t.val] W fun e w' => e = .returned (.int .i64 (clo t.kind)) ∧ Below W.heap.size W w' := fun W => closing_any t W
        rw [hc] at C
        have CC := Lib.hid C
        unfold LexP.Tok.val at CC
        have hz3 : (j : Int) < (n : Int) := by omega
        have hz4 : (0 : Int) ≤ (j : Int) := by omega
        clear C k1 ht hn hT
        go_enter Tryz.func102, Tryz.ntmps102
        go_wp2_with fail
        refine (CC.out _).mono ?_
        rintro e w1 ⟨rfl, hb⟩
        go_wp2_with fail
        go_ret
        exact ⟨rfl, hb⟩
      · exact Match_open a l l.length cap j w rfl hjl hl hT hc
theorem Match_at (a : Option Addr) (l : List Tok) (n cap j : Nat) (w : World) (hn : l.length = n) (hl : n ≤ 100000) (hj : j < n) (hT : Tks w a l) :
    Calls Tryz.prog 102 #[.slice a n cap, .int .i64 (j : Int)] w fun e w' => e = .returned (.int .i64 (mtc l j)) ∧ Below w.heap.size w w' := by
  subst hn
  have := Match_any a l cap (j : Int) w hl hT
  unfold matchS at this
  rw [if_pos (by omega), show (j : Int).toNat = j by omega] at this
  exact this

set_option maxRecDepth 100000 in
set_option maxHeartbeats 2000000 in
theorem first_any (q : Nat) (caps : Array Value) (p : Tok → Bool) (eq : ∀ args w, (callFunc q args).run Tryz.prog w = .ok (.enter q args) w) (a : Option Addr) (l : List Tok) (cap : Nat) (w : World)
    (hf : ∀ t ∈ l, ∀ W, Below w.heap.size w W → Calls Tryz.prog q (#[t.val] ++ caps) W fun e W' => e = .returned (.bool (p t)) ∧ Below W.heap.size W W') (hl : l.length ≤ 100000) (hT : Tks w a l) :
    Calls Tryz.prog 92 #[.slice a l.length cap, .func (.func q) #[] caps] w fun e w' => e = .returned (.int .i64 (fst p l)) ∧ Below w.heap.size w w' := by
  have HT := Lib.hid hT
  have HF := Lib.hid hf
  obtain ⟨n, hn⟩ : ∃ n, l.length = n := ⟨_, rfl⟩
  have HN := Lib.hid hn
  have HM := Lib.hid fun (j : Nat) (hj : j < n) (W : World) (hW : Below w.heap.size w W) => Match_at a l n cap j W hn (by omega) hj (hT.below hW)
  rw [hn] at hl ⊢
  clear hT hf hn
  go_enter Tryz.func92, Tryz.ntmps92
  go_wp2_with fail
  go_loopw [5] (fun vi wr => ∃ k : Nat, vi = .int .i64 (k : Int) ∧ k ≤ n + 1 ∧ Hid (Below w.heap.size w wr) ∧ Hid (FsAt p l k)) (fun vi _ => n + 1 - (intOf vi).toNat)
  case atStart => exact ⟨0, rfl, by omega, Lib.hid (Below.refl _ _), Lib.hid (FsAt.start p l)⟩
  case round =>
    obtain ⟨k, rfl, hk, HB, HA⟩ := hrel
    by_cases hlt : k < n
    · have hltz : (k : Int) < (n : Int) := by omega
      have hkl : k < l.length := by have := HN.out; omega
      obtain ⟨b1, o1, rfl, g1, k1⟩ := HT.out.get hkl
      obtain ⟨t, ht⟩ : ∃ t, l[k] = t := ⟨_, rfl⟩
      rw [ht] at k1
      have k2 := k1.below HB.out g1
      have C := fun W hW => HF.out t (by rw [← ht]; exact List.getElem_mem hkl) W hW
      have CC := Lib.hid C
      unfold LexP.Tok.val at CC
      have d1 : wr.cell? ⟨b1, o1 + k * 3, none⟩ = some (.int .i64 t.kind) := k2.kind
      have d2 : wr.cell? ⟨b1, o1 + k * 3 + 1, none⟩ = some (.string ⟨t.text.toArray⟩) := k2.text
      have d3 : wr.cell? ⟨b1, o1 + k * 3 + 2, none⟩ = some (.int .i64 t.n) := k2.n
      have HTT := Lib.hid ht
      have hbd := mtc_bd hkl
      have hln := HN.out
      clear k1 k2 C ht
      cases hpt : p t with
      | true =>
        rw [hpt] at CC
        have HR : Hid (fst p l = k) := Lib.hid (HA.out.hit hkl (by rw [HTT.out]; exact hpt))
        clear hpt
        go_wp2_with fail
        refine (CC.out _ HB.out).mono ?_
        rintro e w2 ⟨rfl, hb⟩
        have HB2 := Lib.hid (HB.out.trans (hb.mono HB.out.size))
        clear hb CC
        go_wp2_with fail
        go_ret
        refine ⟨?_, HB2.out⟩
        rw [HR.out]
        show Ending.returned (Value.int .i64 (min (k : Int) (n : Int))) = _
        rw [show min (k : Int) (n : Int) = (k : Int) by omega]
      | false =>
        rw [hpt] at CC
        have HR : Hid (FsAt p l (mtc l k + 1)) := Lib.hid (HA.out.step hkl (by rw [HTT.out]; exact hpt))
        obtain ⟨m, hm⟩ : ∃ m, mtc l k = m := ⟨_, rfl⟩
        have MM := Lib.hid (HM.out k hlt)
        rw [hm] at hbd HR MM
        have hw : IntKind.i64.wrap ((m : Int) + 1) = ((m + 1 : Nat) : Int) := by
          have e : (m : Int) + 1 = ((m + 1 : Nat) : Int) := by omega
          rw [e]; exact IntWalk.i64_in _ (by omega)
        clear hpt hm
        go_wp2_with fail
        refine (CC.out _ HB.out).mono ?_
        rintro e w2 ⟨rfl, hb⟩
        have HB2 := Lib.hid (HB.out.trans (hb.mono HB.out.size))
        clear hb CC
        go_wp2_with fail
        refine (MM.out _ HB2.out).mono ?_
        rintro e w3 ⟨rfl, hb⟩
        have HB3 := Lib.hid (HB2.out.trans (hb.mono HB2.out.size))
        clear hb MM
        go_wp2_with fail
        go_roundw
        case rel => exact ⟨m + 1, by go_num, by omega, HB3, HR⟩
        case measure => simp [intOf]; omega
    · have hltz : ¬ (k : Int) < (n : Int) := by omega
      have HR : Hid (fst p l = n) := Lib.hid (by rw [HA.out.over (by have := HN.out; omega), HN.out])
      go_wp2_with fail
      go_ret
      refine ⟨?_, HB.out⟩
      rw [HR.out]
      show Ending.returned (Value.int .i64 (min (k : Int) (n : Int))) = _
      rw [show min (k : Int) (n : Int) = (n : Int) by omega]
end Go.Proofs.YtfbfndknhabmhaaGreat

namespace Go.Proofs.YtfbfndknhabmhaaGreat
open Go.RowKit TreN LexP FixP SynP
set_option linter.unusedVariables false

theorem text_imp (x : List UInt8) : ((⟨x.toArray⟩ : ByteArray).toList == (⟨#[105, 109, 112, 111, 114, 116, 97, 110, 116]⟩ : ByteArray).toList) = decide (x = impT) := str_beq x impT
theorem last_split {l : List Tok} (h : 0 < l.length) : ∃ j t, l.length = j + 1 ∧ l[j]? = some t ∧ l.getLast? = some t ∧ l.dropLast = l.take j := by
  obtain ⟨j, hj⟩ : ∃ j, l.length = j + 1 := ⟨l.length - 1, by omega⟩
  refine ⟨j, l[j]'(by omega), hj, List.getElem?_eq_getElem _, ?_, ?_⟩
  · rw [List.getLast?_eq_getElem?, show l.length - 1 = j by omega]; exact List.getElem?_eq_getElem _
  · rw [List.dropLast_eq_take, hj]; rfl

/-- what unmarked answers -/
def UnIs (w0 w : World) (r : List Tok × Bool) (e : Ending) (w' : World) : Prop := (∃ a2 c2, e = .returned (.tuple #[.slice a2 r.1.length c2, .bool r.2]) ∧ r.1.length ≤ c2 ∧ c2 ≤ maxLen ∧ Tks w' a2 r.1) ∧ Below w.heap.size w w'
theorem unmS_nil : unmS [] = ([], false) := rfl
theorem unmS_no {v : List Tok} {t : Tok} (h : v.getLast? = some t) (hn : ¬ (t.kind = 1 ∧ t.text = impT)) : unmS v = (v, false) := by unfold unmS; rw [h]; simp only []; rw [if_neg hn]
theorem unmS_end {v : List Tok} {t : Tok} (h : v.getLast? = some t) (hn : t.kind = 1 ∧ t.text = impT) (h2 : (trm v.dropLast).getLast? = none) : unmS v = (v, false) := by unfold unmS; rw [h]; simp only []; rw [if_pos hn, h2]
theorem unmS_some {v : List Tok} {t u : Tok} (h : v.getLast? = some t) (hn : t.kind = 1 ∧ t.text = impT) (h2 : (trm v.dropLast).getLast? = some u) : unmS v = if excl u = true then (trm (trm v.dropLast).dropLast, true) else (v, false) := by unfold unmS; rw [h]; simp only []; rw [if_pos hn, h2]

end Go.Proofs.YtfbfndknhabmhaaGreat
