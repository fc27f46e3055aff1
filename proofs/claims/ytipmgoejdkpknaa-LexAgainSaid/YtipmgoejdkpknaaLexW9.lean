/- The walks of layer 5: Lex. -/
import Derived.Test.YtipmgoejdkpknaaLexT
namespace Go.Proofs.Ytipmgoejdkpknaa
open Go.RowKit TreN LexP FixP

/-- a list under way: variable V, what cut owns T -/
structure LexR (w0 : World) (V T : Nat) (toks : List Tok) (w : World) : Prop where
  ex : ∃ v, w.heap[V]? = some (.cells #[v] 26 (0, 0)) ∧ w.ownsRow (T + 1) 23 3 v toks.length (tkcs toks)
  below : Below w0.heap.size w0 w
  lt : T < w.heap.size
  base : w0.heap.size ≤ V
  vt : V < T

theorem LexR.setT {w0 : World} {V T : Nat} {toks : List Tok} {w : World} (h : LexR w0 V T toks w) (k : Nat) (u : Value) : LexR w0 V T toks (w.setCell ⟨T, k, none⟩ u) := by
  obtain ⟨⟨v, h1, h2⟩, h3, h4, h5, h6⟩ := h
  refine ⟨⟨v, ?_, ownsRow_setBelow h2 (by omega) u⟩, h3.setCell (p := ⟨T, k, none⟩) (by show w0.heap.size ≤ T; omega) u, by rw [setCell_size]; exact h4, h5, h6⟩
  rw [setCell_there _ (by omega)]; exact h1
theorem LexR.keep {w0 : World} {V T : Nat} {toks : List Tok} {w w' : World} (h : LexR w0 V T toks w) (hb : Below w.heap.size w w') : LexR w0 V T toks w' := by
  obtain ⟨⟨v, h1, h2⟩, h3, h4, h5, h6⟩ := h
  exact ⟨⟨v, (hb.block V (by omega)).trans h1, ownsRow_below h2 hb⟩, h3.trans (hb.mono h3.size), Nat.lt_of_lt_of_le h4 hb.size, h5, h6⟩

theorem ownsRow_setNe {w : World} {base : Nat} {e : TypeId} {size : Nat} {v : Value} {n : Nat} {xs : List Value} (h : w.ownsRow base e size v n xs) {b k : Nat} (hb : ∀ g, v.ownBlock = some g → g ≠ b) (u : Value) : (w.setCell ⟨b, k, none⟩ u).ownsRow base e size v n xs := by
  obtain ⟨h1, h2⟩ := h
  refine ⟨h1, ?_⟩
  rcases h2 with h2 | ⟨g, cap, cur, hv, hg, hh, r⟩
  · exact Or.inl h2
  · refine Or.inr ⟨g, cap, cur, hv, hg, ?_, r⟩
    rw [setCell_there _ (hb g (by rw [hv]; rfl))]; exact hh
theorem tkcs_news {W : World} {b : Nat} (l : List Tok) (cur : Array Value) (T : TypeId) (h : W.heap[b]? = some (.cells cur T (0, 0))) (hc : cur.toList = tkcs l) : ∀ (j : Nat) (u : Value), (tkcs l)[j]? = some u → W.cell? ((⟨b, 0, none⟩ : Addr).add j) = some u := by
  intro j u hu
  have ha : (⟨b, 0, none⟩ : Addr).add j = ⟨b, j, none⟩ := by simp [Addr.add]; exact fun h => h.symm
  rw [ha]
  refine cell_of h ?_
  rw [← hc] at hu
  rw [← Array.getElem?_toList]; exact hu

theorem Clone_any (s : ByteArray) (hs : s.size ≤ 40000) (w : World) : Calls Try.prog 27 #[.string s] w fun e w' => e = .returned (.string s) ∧ Below w.heap.size w w' := by
  have C := Lib.hid fun W => Try.stringslite_Clone s W (by omega)
  go_enter Try.func27, Try.ntmps27
  go_wp2_with fail
  refine (C.out _).mono ?_
  rintro e w' ⟨rfl, hb⟩
  have HB := Lib.hid hb
  clear hb
  go_wp2_with fail
  go_ret
  exact ⟨rfl, HB.out⟩

set_option maxRecDepth 100000 in
set_option maxHeartbeats 2000000 in
theorem take_any (w0 : World) (V T : Nat) (toks : List Tok) (t : Tok) (w : World) (x y z : Value) (h : LexR w0 V T toks w) (hT : TokIn w T x y z) (hl : toks.length ≤ 40000) (hs : t.text.length ≤ 40000) :
    Calls Try.prog 26 #[t.val, .pointer (some ⟨V, 0, none⟩)] w fun e w' => e = .returned (.bool true) ∧ LexR w0 V T (toks ++ [t]) w' ∧ TokIn w' T x y z := by
  obtain ⟨i0, hi0, hz0, hz1, hz2⟩ := info_parts info_token
  obtain ⟨k, s, n⟩ := t
  obtain ⟨⟨v, h1, h2⟩, h3, h4, h5, h6⟩ := h
  have hq : (⟨s.toArray⟩ : ByteArray).size = s.length := by rw [← len_data]
  have CC := Lib.hid fun W => Clone_any ⟨s.toArray⟩ (by rw [hq]; exact hs) W
  have H2 := Lib.hid h2
  have HT := Lib.hid hT
  have H3 := Lib.hid h3
  have H1 := Lib.hid h1
  unfold LexP.Tok.val
  clear h1 h2 h3 hT hq
  go_enter Try.func26, Try.ntmps26
  go_wp2_with fail
  refine (CC.out _).mono ?_
  rintro e w1 ⟨rfl, hb⟩
  have hbx : w1.heap[w.heap.size]? = some (.cells #[.int .i64 k, .string ⟨s.toArray⟩, .int .i64 n] 23 (0, 0)) := (hb.block _ (by simp)).trans (heap_alloc_new w _)
  have hown1 : w1.ownsRow (T + 1) 23 3 v toks.length (tkcs toks) := ownsRow_below (H2.out.alloc _) hb
  have hown2 : (w1.setCell ⟨w.heap.size, 1, none⟩ (.string ⟨s.toArray⟩)).ownsRow (T + 1) 23 3 v toks.length (tkcs toks) := ownsRow_setNe hown1 (fun g hg => by have := (H2.out.lt g hg).2; omega) _
  have hbx2 := setCell_here (k := 1) (.string ⟨s.toArray⟩) hbx
  have hV1 : w1.heap[V]? = some (.cells #[v] 26 (0, 0)) := by
    rw [hb.block V (by simp; omega), Below.heap_alloc _ _ _ (by omega)]; exact H1.out
  have hV2 : (w1.setCell ⟨w.heap.size, 1, none⟩ (.string ⟨s.toArray⟩)).heap[V]? = some (.cells #[v] 26 (0, 0)) := by rw [setCell_there _ (by omega)]; exact hV1
  have hT1 : TokIn w1 T x y z := by
    unfold TokIn
    rw [hb.block T (by simp; omega), Below.heap_alloc _ _ _ (by omega)]; exact HT.out
  have hT2 : TokIn (w1.setCell ⟨w.heap.size, 1, none⟩ (.string ⟨s.toArray⟩)) T x y z := by
    unfold TokIn
    rw [setCell_there _ (by omega)]; exact hT1
  have hbel2 : Below w0.heap.size w0 (w1.setCell ⟨w.heap.size, 1, none⟩ (.string ⟨s.toArray⟩)) := by
    have hz := H3.out.size
    exact ((H3.out.alloc hz _).trans (hb.mono (by simp; omega))).setCell (p := ⟨w.heap.size, 1, none⟩) (by show w0.heap.size ≤ w.heap.size; omega) _
  have hsz2 : T < (w1.setCell ⟨w.heap.size, 1, none⟩ (.string ⟨s.toArray⟩)).heap.size := by
    rw [setCell_size]
    have := hb.size
    simp at this; omega
  have c1 : w1.cell? ⟨w.heap.size, 1, none⟩ = some (.string ⟨s.toArray⟩) := cell_of hbx rfl
  have f1 : w1.frozen? ⟨w.heap.size, 1, none⟩ = false := unfrozen_of hbx
  obtain ⟨w2, hw2⟩ : ∃ w2, w1.setCell ⟨w.heap.size, 1, none⟩ (.string ⟨s.toArray⟩) = w2 := ⟨_, rfl⟩
  rw [hw2] at hown2 hbx2 hV2 hT2 hbel2 hsz2
  have b0 : w2.cell? ⟨w.heap.size, 0, none⟩ = some (.int .i64 k) := cell_of hbx2 rfl
  have b1 : w2.cell? ⟨w.heap.size, 1, none⟩ = some (.string ⟨s.toArray⟩) := cell_of hbx2 rfl
  have b2 : w2.cell? ⟨w.heap.size, 2, none⟩ = some (.int .i64 n) := cell_of hbx2 rfl
  have v0 : w2.cell? ⟨V, 0, none⟩ = some v := cell_of hV2 rfl
  have HV2 := Lib.hid hV2
  have HT2 := Lib.hid hT2
  have HB2 := Lib.hid hbel2
  clear hb hbx hown1 hbx2 hV1 hV2 hT1 hT2 hbel2
  go_wp2_with (at_builtin; refine wpList_append_own _ rfl _ _ 26 rfl (T + 1) 23 i0 _ 3 32 und_tokens hi0 hz0 hz1 hz2 rfl (by decide) _ _ _ rfl (hown2.alloc _) ⟨w2.heap.size, 0, none⟩ 1 1 (tkcs [⟨k, s, n⟩]) rfl (tkcs_length _) ?c1 (tkcs_one _) ?c3 ?c4 ?c5 ?_)
  case c1 => exact tkcs_news _ _ _ (heap_alloc_new w2 _) rfl
  case c3 => unfold maxLen; omega
  case c4 => omega
  case c5 => simp; omega
  intro v' w3 hown' hgrow _
  rw [← tkcs_append] at hown'
  obtain ⟨g, cap, hv', _, _⟩ := hown'.form (by omega)
  have hrow : ∀ q, v.ownBlock = some q → T + 1 ≤ q := fun q hq => (World.ownsRow.lt hown2 q hq).1
  have hV3 : w3.heap[V]? = some (.cells #[v] 26 (0, 0)) := by
    rw [hgrow.block V (by simp; omega) (fun e => by have := hrow V e.symm; omega), Below.heap_alloc _ _ _ (by omega)]; exact HV2.out
  have hT3 : TokIn w3 T x y z := by
    unfold TokIn
    rw [hgrow.block T (by simp; omega) (fun e => by have := hrow T e.symm; omega), Below.heap_alloc _ _ _ (by omega)]; exact HT2.out
  have hbel3 : Below w0.heap.size w0 w3 := (HB2.out.alloc HB2.out.size _).grown hgrow (by have := HB2.out.size; simp; omega) (fun q hq => by have := hrow q hq; omega)
  have hsz3 : T < w3.heap.size := by
    have := hgrow.size
    simp at this; omega
  have d0 : w3.cell? ⟨V, 0, none⟩ = some v := cell_of hV3 rfl
  have d1 : w3.frozen? ⟨V, 0, none⟩ = false := unfrozen_of hV3
  have hV4 := setCell_here (k := 0) v' hV3
  have hres : LexR w0 V T (toks ++ [⟨k, s, n⟩]) (w3.setCell ⟨V, 0, none⟩ v') := by
    refine ⟨⟨v', hV4, ?_⟩, hbel3.setCell (p := ⟨V, 0, none⟩) h5 _, by rw [setCell_size]; exact hsz3, h5, h6⟩
    rw [List.length_append]
    exact ownsRow_setBelow hown' (by omega) v'
  have hT4 : TokIn (w3.setCell ⟨V, 0, none⟩ v') T x y z := by
    unfold TokIn
    rw [setCell_there _ (by omega)]; exact hT3
  have HRES := Lib.hid hres
  have HT4 := Lib.hid hT4
  clear hown' hgrow hrow hV3 hT3 hbel3 hV4 hres hT4
  subst hv'
  go_wp2_with fail
  go_ret
  exact ⟨rfl, HRES.out, HT4.out⟩

theorem enters_take : ∀ args w, (callFunc 26 args).run Try.prog w = .ok (.enter 26 args) w := enters_of Try.func26 (by kernel_rfl) rfl
theorem runT_all (l m : List Tok) : runT (fun l t => l ++ [t]) (fun _ _ => true) l m = l ++ m := by
  induction m generalizing l with
  | nil => simp [runT]
  | cons t m ih =>
    show (if true = true then runT _ _ (l ++ [t]) m else l ++ [t]) = _
    rw [if_pos rfl, ih]; simp
theorem cut_texts : ∀ (n : Nat) (l : List UInt8), l.length ≤ n → (cut l).length ≤ l.length ∧ ∀ t ∈ cut l, t.text.length ≤ l.length
  | n, [], _ => by simp [cut_nil]
  | 0, c :: r, h => by simp at h
  | n + 1, c :: r, h => by
    have hb := one_bd c r
    obtain ⟨h1, h2⟩ := cut_texts n ((c :: r).drop (one (c :: r)).2) (by rw [List.length_drop]; omega)
    rw [List.length_drop] at h1 h2
    rw [cut_cons]
    cases ho : (one (c :: r)).1 with
    | none =>
      simp only [Option.toList, List.nil_append]
      exact ⟨by omega, fun t ht => by have := h2 t ht; omega⟩
    | some t0 =>
      simp only [Option.toList, List.singleton_append, List.length_cons]
      simp only [List.length_cons] at hb h1 h2
      refine ⟨by omega, fun t ht => ?_⟩
      rcases List.mem_cons.1 ht with rfl | ht
      · exact one_text c r _ ho
      · have := h2 t ht; omega
end Go.Proofs.Ytipmgoejdkpknaa
