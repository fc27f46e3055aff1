/- Layer 6's reference: Decls; lists put behind lists. -/
import Derived.Test.YtaiommmbbajgnaaSynR4
import Derived.Test.YtaiommmbbajgnaaSynR5
import Derived.Test.YtaiommmbbajgnaaSynW8
namespace Go.Proofs.Ytaiommmbbajgnaa
open Go.RowKit TreN LexP FixP SynP
set_option linter.unusedVariables false

theorem spF_mem (p : Tok → Bool) : ∀ (f : Nat) (l x : List Tok), x ∈ spF p f l → x.length ≤ l.length
  | 0, l, x, h => by
    simp only [spF, List.mem_singleton] at h; subst h; exact Nat.le_refl _
  | f + 1, l, x, h => by
    have hx : x ∈ (if fst p l = l.length then [l] else l.take (fst p l) :: spF p f (l.drop (fst p l + 1))) := h
    by_cases e : fst p l = l.length
    · rw [if_pos e, List.mem_singleton] at hx; subst hx; exact Nat.le_refl _
    · rw [if_neg e] at hx
      rcases List.mem_cons.1 hx with rfl | hx
      · rw [List.length_take]; omega
      · have := spF_mem p f _ x hx
        rw [List.length_drop] at this; omega
theorem spl_mem {p : Tok → Bool} {l x : List Tok} (h : x ∈ spl p l) : x.length ≤ l.length := spF_mem p _ l x h
theorem decS_len {p : List Tok} {d : Dec} (h : decS p = some d) : d.value.length ≤ p.length := by
  have ht := trm_len p
  cases hl : trm p with
  | nil => rw [decS_none1 hl] at h; cases h
  | cons t r =>
    rw [decS_eq hl] at h
    rw [hl] at ht
    simp only [List.length_cons] at ht
    by_cases hk : t.kind = 1
    · cases hb : bs r with
      | nil => rw [decT_nil hk hb] at h; cases h
      | cons c q =>
        have hbl := bs_len r
        rw [hb] at hbl
        simp only [List.length_cons] at hbl
        by_cases hc : c.kind = 10
        · rw [decT_val hk hb hc] at h
          split at h
          · cases h
          · injection h with h
            have h1 := unmS_len (trm q)
            have h2 := trm_len q
            rw [← h]
            show (unmS (trm q)).1.length ≤ _
            omega
        · rw [decT_col hk hb hc] at h; cases h
    · rw [decT_kind hk] at h; cases h
theorem decls_len {l : List Tok} {d : Dec} (h : d ∈ declsS l) : d.value.length ≤ l.length := by
  unfold declsS at h
  obtain ⟨x, hx, hd⟩ := List.mem_filterMap.1 h
  have := decS_len hd
  have := spl_mem hx
  omega
theorem decls_many (l : List Tok) : (declsS l).length ≤ l.length + 1 := Nat.le_trans (fm_len decS _) (spl_len semi l)

/-- cells put behind cells of an own row -/
theorem app_cells (TT E : TypeId) (i : TypeInfo) (z : Value) (size bytes : Nat) (h1 : Try.prog.underlying TT = some (.slice E)) (h2 : Try.prog.info? E = some i) (h3 : i.zero = some z) (h4 : i.size = size) (h5 : i.bytes = bytes) (h6 : z.cells.size = size) (h7 : 0 < size)
    (H : Nat) (v : Value) (n : Nat) (xs : List Value) (a : Option Addr) (m c : Nat) (ys : List Value) (w : World) (hH : H ≤ w.heap.size) (hown : w.ownsRow H E size v n xs) (hy : ys.length = m * size)
    (ha : m = 0 ∨ ∃ ad, a = some ad ∧ ∀ j u, ys[j]? = some u → w.cell? (ad.add j) = some u) (h1c : ∀ u ∈ ys, u.oneCell' = true) (b1 : n + m ≤ maxLen) (b2 : (n + m) * bytes ≤ 140737488355328) :
    ∃ v' w', (Builtin.append_ #[TT, TT] TT #[v, .slice a m c]).run Try.prog w = .ok v' w' ∧ w'.ownsRow H E size v' (n + m) (xs ++ ys) ∧ Below H w w' := by
  by_cases hm : m = 0
  · subst hm
    have hy0 : ys = [] := List.eq_nil_of_length_eq_zero (by omega)
    subst hy0
    refine ⟨v, w, ?_, by rw [List.append_nil]; exact hown, Below.refl _ _⟩
    cases a with
    | none => exact run_append_owned_none (P := Try.prog) w H TT TT E i size h1 h2 _ n xs hown
    | some ad =>
      rcases hown.2 with ⟨hv, _⟩ | ⟨g, cap, cur, hv, _, _, hcap, _⟩
      · subst hv
        simp [Builtin.append_, run_underlying h1, sizeOf, typeInfo, h2, Builtin.lenOf, Builtin.firstCells, loadCells, loadCellsFrom]
      · subst hv
        simp [Builtin.append_, run_underlying h1, sizeOf, typeInfo, h2, Builtin.lenOf, Builtin.firstCells, loadCells, loadCellsFrom, hcap, storeCells]
  · rcases ha with ha | ⟨ad, rfl, news⟩
    · exact absurd ha hm
    · obtain ⟨v', w', hr, r2, r3, _⟩ := run_append_own (P := Try.prog) w H TT TT E i z size bytes h1 h2 h3 h4 h5 h6 h7 v n xs hown ad m c ys hy news h1c b1 b2 hH
      exact ⟨v', w', hr, r2, (Below.refl _ _).grown r3 hH (fun q hq => (World.ownsRow.lt hown q hq).1)⟩

set_option maxRecDepth 100000 in
set_option maxHeartbeats 4000000 in
theorem refDecls_any (a : Option Addr) (l : List Tok) (cap : Nat) (w : World) (h1 : l.length ≤ cap) (h2 : cap ≤ maxLen) (hl : l.length ≤ 80000) (hT : Tks w a l) :
    Calls Try.prog 15 #[.slice a l.length cap] w fun e w' => (∃ v, e = .returned v ∧ Dcs w' v (declsS l)) ∧ Below w.heap.size w w' := by
  obtain ⟨i0, hi0, hz0, hz1, hz2⟩ := info_parts info_decl
  have S := refSplit_nat 11 (by decide) l.length a l l.length cap w rfl (Nat.le_refl _) h1 h2 (by omega) hT
  rw [semi_kind] at S
  unfold SplIs at S
  have HS := Lib.hid S
  have hml := spl_len semi l
  have HML := Lib.hid (fun x (hx : x ∈ spl semi l) => spl_mem hx)
  have hde : declsS l = (spl semi l).filterMap decS := rfl
  rw [hde]
  obtain ⟨n, hn⟩ : ∃ n, l.length = n := ⟨_, rfl⟩
  rw [hn] at HS hl hml HML ⊢
  generalize spl semi l = ps at *
  clear h1 h2 hT S hn hde
  go_enter Try.func15, Try.ntmps15
  go_wp2_with fail
  refine HS.out.mono ?_
  rintro e w2 ⟨⟨ds, g, gc, rfl, hds, hrow⟩, hb2⟩
  have HB2 := Lib.hid hb2
  have HDS := Lib.hid hds
  have HROW := Lib.hid hrow
  have hdl : ds.length ≤ n + 1 := by rw [← hds, List.length_map] at hml; exact hml
  obtain ⟨m, hm⟩ : ∃ m, ds.length = m := ⟨_, rfl⟩
  have HM := Lib.hid hm
  rw [hm] at hdl ⊢
  clear hb2 hds hrow hm hml HS
  go_wp2_with fail
  go_loopw [3, 5] (fun v3 vi wr => ∃ k : Nat, vi = .int .i64 (k : Int) ∧ k ≤ m ∧ ∃ xs : List DecV, wr.ownsRow w2.heap.size 43 3 v3 xs.length (dcs xs) ∧ Hid (xs.map DecV.d = (ps.take k).filterMap decS ∧ Below w2.heap.size w2 wr ∧ (∀ x ∈ xs, x.d.value.length ≤ x.cap ∧ x.cap ≤ maxLen ∧ Tks w2 x.a x.d.value) ∧ xs.length ≤ k)) (fun _ vi _ => m - (intOf vi).toNat)
  case atStart => exact ⟨0, rfl, by omega, [], World.ownsRow_nil _ _ _ _, Lib.hid ⟨rfl, Below.refl _ _, fun x hx => (by cases hx), Nat.le_refl _⟩⟩
  case round =>
    obtain ⟨k, rfl, hk, xs, hown, HX⟩ := hrel
    by_cases hlt : k < m
    · have hltz : (k : Int) < (m : Int) := by omega
      have hkd : k < ds.length := by have := HM.out; omega
      have hrw := HROW.out.below HX.out.2.1
      obtain ⟨x, hx⟩ : ∃ x, ds[k] = x := ⟨_, rfl⟩
      have hcx : wr.cell? ⟨g, k, none⟩ = some x.val := by have := hrw.at_ k hkd; rw [hx] at this; exact this
      have hok2 : x.ok w2 := HROW.out.ok _ (by rw [← hx]; exact List.getElem_mem hkd)
      have hok := hok2.below HX.out.2.1
      have hxl : x.l.length ≤ n := HML.out _ (by rw [← HDS.out, ← hx]; exact List.mem_map_of_mem (List.getElem_mem hkd))
      have D := refDecl_any x.a x.l x.c wr hok.1 hok.2.1 (by omega) hok.2.2
      have htk : (ps.take (k + 1)).filterMap decS = (ps.take k).filterMap decS ++ (decS x.l).toList := by
        have hkp : k < ps.length := by rw [← HDS.out, List.length_map]; exact hkd
        have hpk : ps[k] = x.l := by
          have : ps[k]? = some x.l := by rw [← HDS.out, List.getElem?_map, List.getElem?_eq_getElem hkd, hx]; rfl
          rw [List.getElem?_eq_getElem hkp] at this
          exact Option.some.inj this
        rw [List.take_succ_eq_append_getElem hkp, List.filterMap_append, hpk]
        cases h : decS x.l with
        | none => simp [h]
        | some d => simp [h]
      have HTK := Lib.hid htk
      unfold PcV.val at hcx
      obtain ⟨xl, hxl2⟩ : ∃ y, x.l.length = y := ⟨_, rfl⟩
      have HOK := Lib.hid hok2
      rw [hxl2] at hcx D
      obtain ⟨od, hod⟩ : ∃ y, decS x.l = y := ⟨_, rfl⟩
      rw [hod] at D HTK
      have HD := Lib.hid D
      obtain ⟨xa, hxa⟩ : ∃ y, x.a = y := ⟨_, rfl⟩
      obtain ⟨xc, hxc⟩ : ∃ y, x.c = y := ⟨_, rfl⟩
      rw [hxa, hxc] at hcx HD
      have HXA := Lib.hid hxa
      have hk0 : (0 : Int) ≤ (k : Int) := by omega
      have HO := Lib.hid hown
      clear D htk hrw hok hok2 hx hod hxl2 hxa hxc hown
      cases od with
      | none =>
        go_wp2_with fail
        refine HD.out.mono ?_
        rintro e w3 ⟨he, hb3⟩
        have he : e = .returned (.tuple #[.agg #[.string ⟨#[]⟩, .slice none 0 0, .bool false], .bool false]) := he
        subst he
        have HB3 := Lib.hid (HX.out.2.1.trans (hb3.mono HX.out.2.1.size))
        have HO3 := Lib.hid (ownsRow_below HO.out hb3)
        clear hb3
        go_wp2_with fail
        go_roundw
        case rel => exact ⟨k + 1, by go_num, by omega, xs, HO3.out.alloc _, Lib.hid ⟨by rw [HTK.out, HX.out.1]; simp, HB3.out.alloc HB3.out.size _, HX.out.2.2.1, by have := HX.out.2.2.2; omega⟩⟩
        case measure => simp [intOf]; omega
      | some d =>
        go_wp2_with fail
        refine HD.out.mono ?_
        rintro e w3 ⟨he, hb3⟩
        obtain ⟨a3, c3, he, g1, g2, g3⟩ := he
        subst he
        have HB3 := Lib.hid (HX.out.2.1.trans (hb3.mono HX.out.2.1.size))
        have HO3 := Lib.hid (ownsRow_below HO.out hb3)
        have HG := Lib.hid (And.intro g1 (And.intro g2 (g3 w2 (by rw [← HXA.out]; exact HOK.out.2.2))))
        obtain ⟨nm, hnm⟩ : ∃ y, d.name = y := ⟨_, rfl⟩
        obtain ⟨nv, hnv⟩ : ∃ y, d.value.length = y := ⟨_, rfl⟩
        obtain ⟨im, him⟩ : ∃ y, d.imp = y := ⟨_, rfl⟩
        rw [hnm, hnv, him]
        have HCS : Hid (dcs [(⟨d, a3, c3⟩ : DecV)] = [.string ⟨nm.toArray⟩, .slice a3 nv c3, .bool im]) := Lib.hid (by show [Value.string ⟨d.name.toArray⟩, .slice a3 d.value.length c3, .bool d.imp] = _; rw [hnm, hnv, him])
        clear hb3 g1 g2 g3 hnm hnv him
        have HBA : Hid (Below w2.heap.size w2 (w3.alloc (.cells #[.string ⟨nm.toArray⟩, .slice a3 nv c3, .bool im] 43))) := Lib.hid (HB3.out.alloc HB3.out.size _)
        have hown3 : (w3.alloc (.cells #[.string ⟨nm.toArray⟩, .slice a3 nv c3, .bool im] 43)).ownsRow w2.heap.size 43 3 u3 xs.length (dcs xs) := HO3.out.alloc _
        have hxl3 : xs.length ≤ 90000 := by have := HX.out.2.2.2; omega
        have hszz : w2.heap.size ≤ w3.heap.size := HB3.out.size
        go_wp2_with (at_builtin; refine wpList_append_own _ rfl _ _ 32 rfl w2.heap.size 43 i0 _ 3 48 und_decls hi0 hz0 hz1 hz2 rfl (by decide) _ _ _ rfl (hown3.alloc _) ⟨w3.heap.size + 1, 0, none⟩ 1 1 [.string ⟨nm.toArray⟩, .slice a3 nv c3, .bool im] rfl rfl ?c1 ?c2 ?c3 ?c4 ?c5 ?_)
        case c1 =>
          have e : w3.heap.size + 1 = (w3.alloc (.cells #[.string ⟨nm.toArray⟩, .slice a3 nv c3, .bool im] 43)).heap.size := by simp
          rw [e]
          exact World.news_of_block (heap_alloc_new _ _)
        case c2 =>
          intro u hu
          simp only [List.mem_cons, List.not_mem_nil, or_false] at hu
          rcases hu with rfl | rfl | rfl <;> rfl
        case c3 => unfold maxLen; omega
        case c4 => omega
        case c5 => simp; omega
        intro v' w5 hown' hgrow _
        have hrw5 : ∀ q, u3.ownBlock = some q → w2.heap.size ≤ q := fun q hq => (World.ownsRow.lt hown3 q hq).1
        have hb5 : Below w2.heap.size w2 w5 := (HBA.out.alloc HBA.out.size _).trans ((Below.refl _ _).grown hgrow (by simp; omega) hrw5)
        have hown5 : w5.ownsRow w2.heap.size 43 3 v' (xs ++ [(⟨d, a3, c3⟩ : DecV)]).length (dcs (xs ++ [(⟨d, a3, c3⟩ : DecV)])) := by
          rw [List.length_append, dcs_append, HCS.out]; exact hown'
        have HB5 := Lib.hid hb5
        have HO5 := Lib.hid hown5
        clear hown' hgrow hrw5 hb5 hown5 hown3
        go_wp2_with fail
        go_roundw
        case rel =>
          refine ⟨k + 1, by go_num, by omega, xs ++ [(⟨d, a3, c3⟩ : DecV)], HO5.out, Lib.hid ⟨?_, HB5.out, ?_, ?_⟩⟩
          · rw [List.map_append, HX.out.1, HTK.out]; rfl
          · intro y hy
            rcases List.mem_append.1 hy with hy | hy
            · exact HX.out.2.2.1 y hy
            · rw [List.mem_singleton] at hy; subst hy; exact HG.out
          · have := HX.out.2.2.2; rw [List.length_append]; simp; omega
        case measure => simp [intOf]; omega
    · have hltz : ¬ (k : Int) < (m : Int) := by omega
      have hkm : k = m := by omega
      have HF : Hid (Dcs wr u3 (ps.filterMap decS)) := Lib.hid (by
        have ht : ps.take k = ps := by rw [List.take_of_length_le]; rw [← HDS.out, List.length_map, HM.out]; omega
        refine ⟨xs, by rw [HX.out.1, ht], _, hown, fun x hx => ?_⟩
        obtain ⟨q1, q2, q3⟩ := HX.out.2.2.1 x hx
        exact ⟨q1, q2, q3.below HX.out.2.1⟩)
      have HBF := Lib.hid (HB2.out.trans (HX.out.2.1.mono HB2.out.size))
      clear hown
      go_wp2_with fail
      go_ret
      exact ⟨⟨_, rfl, HF.out⟩, HBF.out⟩
end Go.Proofs.Ytaiommmbbajgnaa
