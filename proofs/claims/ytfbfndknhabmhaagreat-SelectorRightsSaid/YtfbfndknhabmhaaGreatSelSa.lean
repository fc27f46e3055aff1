/- Joined texts: SelS1 SelS2. -/
import Derived.Test.YtfbfndknhabmhaaGreatSelRd
import Derived.Test.YtfbfndknhabmhaaGreatSynW6
import Derived.StillTailTactics
namespace Go.Proofs.YtfbfndknhabmhaaGreat
open Go.RowKit TreN LexP FixP SynP ValP SelP FixM
set_option linter.unusedVariables false

theorem info_piece7 : (Tryz.prog.info? 46).map (fun i => (i.zero, i.size, i.bytes)) = some (some (.slice none 0 0), 1, 24) := by kernel_rfl
theorem und_pieces7 : Tryz.prog.underlying 64 = some (.slice 46) := by kernel_rfl
theorem kindsT : 70 ≠ 46 ∧ 64 ≠ 46 := by decide
/-- a piece: its tokens, and what stands for them -/
structure PcW where
  l : List Tok
  v : Value
theorem putPc (H : Nat) (v : Value) (xs : List PcW) (a : Option Addr) (n c : Nat) (m : List Tok) (W : World) (hH : H ≤ W.heap.size) (hx : xs.length ≤ 200000) (h : W.ownsRow H 46 1 v xs.length (xs.map PcW.v)) :
    ∃ g c5 w', (Builtin.append_ #[64, 64] 64 #[v, .slice (some ⟨W.heap.size, 0, none⟩) 1 1]).run Tryz.prog (W.alloc (.cells #[.slice a n c] 46)) = .ok (.slice (some ⟨g, 0, none⟩) (xs.length + 1) c5) w' ∧ w'.ownsRow H 46 1 (.slice (some ⟨g, 0, none⟩) (xs.length + 1) c5) (xs ++ [(⟨m, .slice a n c⟩ : PcW)]).length ((xs ++ [(⟨m, .slice a n c⟩ : PcW)]).map PcW.v) ∧ Below H W w' ∧ KeptK 46 W w' := by
  obtain ⟨i, hi, hz0, hz1, hz2⟩ := info_parts info_piece7
  obtain ⟨v', w', r1, r2, r3, r4⟩ := app_cellsG 64 46 i _ 1 24 und_pieces7 hi hz0 hz1 hz2 rfl (by decide) H v xs.length (xs.map PcW.v) (some ⟨W.heap.size, 0, none⟩) 1 1 [.slice a n c] (W.alloc (.cells #[.slice a n c] 46)) (by simp; omega) (World.ownsRow.alloc h _) rfl (Or.inr ⟨_, rfl, World.news_of_block (heap_alloc_new W _)⟩) (by intro u hu; simp only [List.mem_singleton] at hu; subst hu; rfl) (by unfold maxLen; omega) (by omega)
  obtain ⟨g, c5, hv, _, _⟩ := r2.form (by omega)
  subst hv
  refine ⟨g, c5, w', r1, ?_, ((Below.refl _ _).alloc hH _).trans r3, (KeptK.below (below_one7 W _)).trans (KeptK.grown (World.ownsRow.alloc h _) r4)⟩
  rw [List.length_append, List.map_append]
  exact r2
set_option maxRecDepth 100000 in
set_option maxHeartbeats 1000000 in
theorem clone7 (H : Nat) (a : Option Addr) (l : List Tok) (n cap : Nat) (w : World) (hn : l.length = n) (hH : H ≤ w.heap.size) (hl : n ≤ 100000) (hT : Tks w a l) :
    Calls Tryz.prog 68 #[.slice a n cap] w fun e w' => ∃ a2 c2, e = .returned (.slice a2 n c2) ∧ TokRow H w' (.slice a2 n c2) l ∧ Below w.heap.size w w' := by
  obtain ⟨v, w2, hr, hrow, hb⟩ := putL w.heap.size (.slice none 0 0) [] a l n cap w hn (Nat.le_refl _) (by simp) (by omega) (TokRow.nil _ _) hT
  rw [List.nil_append] at hrow
  obtain ⟨a2, c2, hv, _⟩ := hrow.form
  rw [hn] at hv
  subst hv
  have hrow : TokRow H w2 (.slice a2 n c2) l := ⟨hrow.1, by
    rcases hrow.2 with h0 | ⟨g, cap, cur, h1, h2, rest⟩
    · exact Or.inl h0
    · exact Or.inr ⟨g, cap, cur, h1, by omega, rest⟩⟩
  have HR := Lib.hid hr
  have HF := Lib.hid (And.intro hrow hb)
  clear hr hrow hb hT hl hn hH
  go_enter Tryz.func68, Tryz.ntmps68
  go_wp2_with (at_builtin; refine wpList_append_runS rfl _ _ 46 rfl _ _ _ _ rfl rfl HR.out ?_)
  go_ret
  exact ⟨a2, c2, rfl, HF.out.1, HF.out.2⟩

/-- the pieces that were handed on, in a box -/
structure SpR (w0 : World) (B : Nat) (done : List (List Tok)) (W : World) : Prop where
  ex : ∃ (v : Value) (ps : List PcW), ps.map PcW.l = done ∧ W.heap[B]? = some (.cells #[v] 64 (0, 0)) ∧ W.ownsRow (B + 2) 46 1 v ps.length (ps.map PcW.v) ∧ ∀ x ∈ ps, TokRow (B + 2) W x.v x.l
  bel : Below w0.heap.size w0 W
  base : w0.heap.size ≤ B
theorem SpR.keep {w0 W W' : World} {B : Nat} {done : List (List Tok)} (h : SpR w0 B done W) (hb : Below W.heap.size W W') : SpR w0 B done W' := by
  obtain ⟨v, ps, h1, h2, h3, h4⟩ := h.ex
  exact ⟨⟨v, ps, h1, blk_keepS hb h2, ownsRow_below h3 hb, fun x hx => (h4 x hx).keep hb⟩, h.bel.trans (hb.mono h.bel.size), h.base⟩
/-- what the append and the store leave -/
theorem split_fin {w0 w w4 w5 : World} {B g5 n c9 c5 k : Nat} {a9 : Option Addr} {v : Value} {ps : List PcW} {done : List (List Tok)} {m : List Tok} (hd : ps.map PcW.l = done) (hbase : w0.heap.size ≤ B) (hbel : Below w0.heap.size w0 w) (hB : B + 2 ≤ w.heap.size)
    (hbx : w.heap[B]? = some (.cells #[v] 64 (0, 0))) (hps : ∀ x ∈ ps, TokRow (B + 2) w x.v x.l) (hrm : TokRow (B + 2) w4 (.slice a9 n c9) m) (hb4 : Below w.heap.size w w4)
    (hrow : w5.ownsRow (B + 2) 46 1 (.slice (some ⟨g5, 0, none⟩) (k + 1) c5) (ps ++ [(⟨m, .slice a9 n c9⟩ : PcW)]).length ((ps ++ [(⟨m, .slice a9 n c9⟩ : PcW)]).map PcW.v)) (hb5 : Below (B + 2) w4 w5) (hk5 : KeptK 46 w4 w5) :
    SpR w0 B (done ++ [m]) (w5.setCell ⟨B, 0, none⟩ (.slice (some ⟨g5, 0, none⟩) (k + 1) c5)) ∧ ∀ o, w.heap[B + 1]? = some o → (w5.setCell ⟨B, 0, none⟩ (.slice (some ⟨g5, 0, none⟩) (k + 1) c5)).heap[B + 1]? = some o := by
  have hg : w5.grownBy (w5.setCell ⟨B, 0, none⟩ (.slice (some ⟨g5, 0, none⟩) (k + 1) c5)) (some B) := grownBy_set _ _ _ _
  have h5 : w5.heap[B]? = some (.cells #[v] 64 (0, 0)) := hk5 _ _ _ _ (blk_keepS hb4 hbx) kindsT.2
  have hmv : ∀ (v : Value) (l : List Tok), TokRow (B + 2) w4 v l → TokRow (B + 2) (w5.setCell ⟨B, 0, none⟩ (.slice (some ⟨g5, 0, none⟩) (k + 1) c5)) v l := fun v l h => row_grown7 (row_kept7 h kindsT.1 hk5) (by omega) hg
  refine ⟨⟨⟨_, ps ++ [⟨m, .slice a9 n c9⟩], by rw [List.map_append, hd]; rfl, ?_, row_grown7 hrow (by omega) hg, ?_⟩, ?_, hbase⟩, ?_⟩
  · rw [setCell_here _ h5]; rfl
  · intro x hx
    rcases List.mem_append.1 hx with hx | hx
    · exact hmv _ _ ((hps x hx).keep hb4)
    · rw [List.mem_singleton] at hx; subst hx; exact hmv _ _ hrm
  · exact ((hbel.trans (hb4.mono hbel.size)).trans (hb5.mono (by omega))).setCell (p := ⟨B, 0, none⟩) hbase _
  · intro o ho
    rw [setCell_there _ (by simp)]
    exact (hb5.block (B + 1) (by omega)).trans (blk_keepS hb4 ho)

theorem enters_split1 : ∀ args w, (callFunc 67 args).run Tryz.prog w = .ok (.enter 67 args) w := enters_of Tryz.func67 (by kernel_rfl) rfl
set_option maxRecDepth 100000 in
set_option maxHeartbeats 4000000 in
theorem split1_any (w0 : World) (B : Nat) (done : List (List Tok)) (m : List Tok) (a : Option Addr) (cap : Nat) (w : World) (hR : SpR w0 B done w) (hB : B + 1 < w.heap.size) (hm : m.length ≤ 100000) (hd : done.length ≤ 100000) (hT : Tks w a m) :
    Calls Tryz.prog 67 #[.slice a m.length cap, .pointer (some ⟨B, 0, none⟩)] w fun e w' => e = .returned (.tuple #[]) ∧ SpR w0 B (done ++ [m]) w' ∧ ∀ o, w.heap[B + 1]? = some o → w'.heap[B + 1]? = some o := by
  obtain ⟨v, ps, h1, h2, h3, h4⟩ := hR.ex
  obtain ⟨n, hn⟩ : ∃ n, m.length = n := ⟨_, rfl⟩
  rw [hn] at hm ⊢
  have XC := Lib.hid (clone7 (B + 2) a m n cap w.drew hn hB hm (hT.below (Below.drew (Below.refl _ _))))
  have p1 : w.drew.cell? ⟨B, 0, none⟩ = some v := cell_of (w := w) h2 rfl
  obtain ⟨av, cv, hv, _⟩ := row_news7 h3
  have hBl : B < w.drew.heap.size := by show B < w.heap.size; omega
  have hB2 : B + 2 ≤ w.drew.heap.size := hB
  have hpl : ps.length ≤ 200000 := by rw [← h1, List.length_map] at hd; omega
  obtain ⟨pl, hpl2⟩ : ∃ k, ps.length = k := ⟨_, rfl⟩
  rw [hpl2] at hv
  subst hv
  have HW := Lib.hid (And.intro h1 (And.intro hR.base (And.intro hR.bel (And.intro h2 h4))))
  have HB2 := Lib.hid hB2
  have HD : Hid (w.drew.ownsRow (B + 2) 46 1 (.slice av pl cv) ps.length (ps.map PcW.v)) := Lib.hid (World.ownsRow.drew h3)
  have HPL := Lib.hid (And.intro hpl hpl2)
  clear h1 h2 h3 h4 hR hd hpl hpl2 hT hn hm hB hB2
  go_enter Tryz.func67, Tryz.ntmps67
  go_region_law ((first
    | (go_simp; go_at_call 68; refine XC.out.mono ?_; rintro e w4 ⟨a9, c9, rfl, g1, hb4⟩; have p1 := (hb4.cell (p := ⟨B, 0, none⟩) hBl).trans p1; have h4le := hb4.size; have hBl4 : B < w4.heap.size := Nat.lt_of_lt_of_le hBl h4le; have p3 : ∀ ob, (w4.alloc ob).cell? ⟨B, 0, none⟩ = some (.slice av pl cv) := fun ob => ((below_one7 w4 ob).cell (p := ⟨B, 0, none⟩) hBl4).trans p1; have hown4 : w4.ownsRow (B + 2) 46 1 (.slice av pl cv) ps.length (ps.map PcW.v) := ownsRow_below HD.out hb4; have G9 := Lib.hid (And.intro g1 (And.intro hb4 hown4)); clear hb4 g1 hown4)
    | (obtain ⟨g5, c5, w5, hr5, hrow5, hb5, hk5⟩ := putPc (B + 2) (.slice av pl cv) ps a9 n c9 m w4 (Nat.le_trans HB2.out h4le) HPL.out.1 G9.out.2.2; rw [HPL.out.2] at hr5; rw [HPL.out.2] at hrow5; refine step_append_run7 rfl (.tmp 3) (.tmp 6) 64 rfl _ _ _ _ (by first | (simp [Act.eval]; done) | simp [Act.eval, Act.put]) (by first | (simp [Act.eval]; done) | simp [Act.eval, Act.put]) hr5 ?_; have q0 : w5.heap[B]? = some (.cells #[.slice av pl cv] 64 (0, 0)) := hk5 _ _ _ _ (blk_keepS G9.out.2.1 HW.out.2.2.2.1) kindsT.2; have q1 : w5.cell? ⟨B, 0, none⟩ = some (.slice av pl cv) := cell_of q0 rfl; have q2 : w5.frozen? ⟨B, 0, none⟩ = false := unfrozen_of q0; have hfin := split_fin (w0 := w0) (done := done) (k := pl) HW.out.1 HW.out.2.1 HW.out.2.2.1.drew HB2.out HW.out.2.2.2.1 (fun x hx => World.ownsRow.drew (HW.out.2.2.2.2 x hx)) G9.out.1 G9.out.2.1 hrow5 hb5 hk5; have HF5 := Lib.hid hfin; clear hr5 hrow5 hk5 hb5 hfin q0)))
  all_goals
    go_end0
    exact ⟨rfl, HF5.out.1, HF5.out.2⟩
theorem split_cb (w0 : World) : PieceCb 67 #[] #[.pointer (some ⟨w0.heap.size, 0, none⟩)] w0 (w0.heap.size + 1) (SpR w0 w0.heap.size) where
  enters := enters_split1
  call := by
    intro done piece a cap W hR h1 h2 hl hT hg hdn
    exact split1_any w0 w0.heap.size done piece a cap W hR hg hl hdn (hT W hR.bel)
  keep := fun done W W' h hb => h.keep hb
  below := fun done W h => h.bel
/-- pieces that were answered -/
def PcsIs (w : World) (L : List (List Tok)) (e : Ending) (w' : World) : Prop := ∃ (g c n : Nat) (ps : List PcW), e = .returned (.slice (some ⟨g, 0, none⟩) n c) ∧ ps.length = n ∧ ps.map PcW.l = L ∧ w'.ownsRow w.heap.size 46 1 (.slice (some ⟨g, 0, none⟩) n c) ps.length (ps.map PcW.v) ∧ (∀ x ∈ ps, TokRow w.heap.size w' x.v x.l) ∧ Below w.heap.size w w'
theorem row_base7 {B H : Nat} {E : TypeId} {size n : Nat} {v : Value} {xs : List Value} {w : World} (h : w.ownsRow B E size v n xs) (hH : H ≤ B) : w.ownsRow H E size v n xs := by
  refine ⟨h.1, ?_⟩
  rcases h.2 with h0 | ⟨g, cap, cur, h1, h2, rest⟩
  · exact Or.inl h0
  · exact Or.inr ⟨g, cap, cur, h1, by omega, rest⟩
set_option maxRecDepth 100000 in
set_option maxHeartbeats 1000000 in
theorem Split_any (a : Option Addr) (l : List Tok) (cap : Nat) (k : Int) (w : World) (h1 : l.length ≤ cap) (h2 : cap ≤ maxLen) (hl : l.length ≤ 90000) (hT : Tks w a l) :
    Calls Tryz.prog 43 #[.slice a l.length cap, .int .i64 k] w (PcsIs w (spl (kindB k) l)) := by
  have hmf : ∀ (fn : Fn) (first cap : Array Value) (w : World), (Instr.makeFunc fn first cap).run Tryz.prog w = .ok (.func fn first cap) w := fun _ _ _ _ => rfl
  have hr0 : SpR w w.heap.size [] (w.alloc (.cells #[.slice none 0 0] 64)) :=
    ⟨⟨.slice none 0 0, [], rfl, heap_alloc_new w _, World.ownsRow_nil _ _ _ _, fun x hx => by cases hx⟩, (Below.refl _ _).alloc (Nat.le_refl _) _, Nat.le_refl _⟩
  have C := Lib.hid (cut_pieces 67 #[] #[.pointer (some ⟨w.heap.size, 0, none⟩)] w (SpR w w.heap.size) (w.heap.size + 1) (split_cb w) a l cap k (w.alloc (.cells #[.slice none 0 0] 64)) (by simp) hr0 h1 h2 hl (fun W' hW => hT.below hW))
  obtain ⟨n, hn⟩ : ∃ n, l.length = n := ⟨_, rfl⟩
  rw [hn] at C ⊢
  clear hr0 h1 h2 hl hT hn
  go_enter Tryz.func43, Tryz.ntmps43
  go_wp2_with fail
  refine C.out.mono ?_
  rintro e w1 ⟨rfl, hR⟩
  obtain ⟨⟨v, ps, r1, r2, r3, r4⟩, r5, _⟩ := hR
  have hps : ps ≠ [] := by
    intro e
    subst e
    have hs : spl (kindB k) l ≠ [] := by
      unfold spl
      unfold spF
      repeat' split
      all_goals simp
    exact hs r1.symm
  obtain ⟨pl, hpl⟩ : ∃ k, ps.length = k := ⟨_, rfl⟩
  obtain ⟨g, c, hv, _⟩ := r3.form (List.length_pos_iff.2 hps)
  rw [hpl] at hv
  subst hv
  have c0 : w1.cell? ⟨w.heap.size, 0, none⟩ = some (.slice (some ⟨g, 0, none⟩) pl c) := cell_of r2 rfl
  have HF : Hid (PcsIs w (spl (kindB k) l) (.returned (.slice (some ⟨g, 0, none⟩) pl c)) w1) := Lib.hid ⟨g, c, pl, ps, rfl, hpl, r1, row_base7 r3 (by omega), fun x hx => row_base7 (r4 x hx) (by omega), r5⟩
  clear r1 r2 r3 r4 r5 C hps hpl
  go_wp2_with fail
  go_ret
  exact HF.out
end Go.Proofs.YtfbfndknhabmhaaGreat

namespace Go.Proofs.YtfbfndknhabmhaaGreat
open Go.RowKit TreN LexP FixP SynP ValP SelP FixM
set_option linter.unusedVariables false

theorem spF_sub7 (p : Tok → Bool) : ∀ (f : Nat) (l x : List Tok), x ∈ spF p f l → x.length ≤ l.length ∧ ∀ t ∈ x, t ∈ l
  | 0, l, x, h => by
    simp only [spF, List.mem_singleton] at h; subst h; exact ⟨Nat.le_refl _, fun t ht => ht⟩
  | f + 1, l, x, h => by
    have hx : x ∈ (if fst p l = l.length then [l] else l.take (fst p l) :: spF p f (l.drop (fst p l + 1))) := h
    by_cases e : fst p l = l.length
    · rw [if_pos e, List.mem_singleton] at hx; subst hx; exact ⟨Nat.le_refl _, fun t ht => ht⟩
    · rw [if_neg e] at hx
      rcases List.mem_cons.1 hx with rfl | hx
      · exact ⟨by rw [List.length_take]; omega, fun t ht => List.mem_of_mem_take ht⟩
      · obtain ⟨h1, h2⟩ := spF_sub7 p f _ x hx
        exact ⟨by rw [List.length_drop] at h1; omega, fun t ht => List.mem_of_mem_drop (h2 t ht)⟩
theorem spl_sub7 {p : Tok → Bool} {l x : List Tok} (h : x ∈ spl p l) : x.length ≤ l.length ∧ ∀ t ∈ x, t ∈ l := spF_sub7 p _ l x h
theorem spl_ne7 (p : Tok → Bool) (l : List Tok) : spl p l ≠ [] := by
  unfold spl
  unfold spF
  repeat' split
  all_goals simp
theorem trm_sub7 {l : List Tok} {t : Tok} (h : t ∈ trm l) : t ∈ l := by
  unfold trm es at h
  rw [List.mem_reverse] at h
  have h2 := (List.dropWhile_suffix isSp).mem h
  rw [List.mem_reverse] at h2
  exact (List.dropWhile_suffix isSp).mem h2
theorem kindsU : 46 ≠ 24 ∧ 70 ≠ 24 := by decide
theorem putSl (H : Nat) (v : Value) (xs : List SelV) (s : SelV) (m : Nat) (W : World) (hm : s.ps.length = m) (hH : H ≤ W.heap.size) (hx : xs.length ≤ 200000) (h : W.ownsRow H 24 1 v xs.length (xs.map SelV.val)) :
    ∃ g c5 w', (Builtin.append_ #[28, 28] 28 #[v, .slice (some ⟨W.heap.size, 0, none⟩) 1 1]).run Tryz.prog (W.alloc (.cells #[.slice s.a m s.c] 24)) = .ok (.slice (some ⟨g, 0, none⟩) (xs.length + 1) c5) w' ∧ w'.ownsRow H 24 1 (.slice (some ⟨g, 0, none⟩) (xs.length + 1) c5) (xs ++ [s]).length ((xs ++ [s]).map SelV.val) ∧ Below H W w' ∧ KeptK 24 W w' := by
  subst hm
  obtain ⟨i, hi, hz0, hz1, hz2⟩ := info_parts info_sel7
  obtain ⟨v', w', r1, r2, r3, r4⟩ := app_cellsG 28 24 i _ 1 24 und_sels7 hi hz0 hz1 hz2 rfl (by decide) H v xs.length (xs.map SelV.val) (some ⟨W.heap.size, 0, none⟩) 1 1 [s.val] (W.alloc (.cells #[s.val] 24)) (by simp; omega) (World.ownsRow.alloc h _) rfl (Or.inr ⟨_, rfl, World.news_of_block (heap_alloc_new W _)⟩) (by intro u hu; simp only [List.mem_singleton] at hu; subst hu; rfl) (by unfold maxLen; omega) (by omega)
  obtain ⟨g, c5, hv, _, _⟩ := r2.form (by omega)
  subst hv
  refine ⟨g, c5, w', r1, ?_, ((Below.refl _ _).alloc hH _).trans r3, (KeptK.below (below_one7 W _)).trans (KeptK.grown (World.ownsRow.alloc h _) r4)⟩
  rw [List.length_append, List.map_append]
  exact r2
/-- while pieces are read -/
structure PaSt (w W : World) (g c n : Nat) (ps : List PcW) (v : Value) (ss : List SelV) : Prop where
  prow : W.ownsRow w.heap.size 46 1 (.slice (some ⟨g, 0, none⟩) n c) ps.length (ps.map PcW.v)
  ptok : ∀ x ∈ ps, TokRow w.heap.size W x.v x.l
  row : W.ownsRow w.heap.size 24 1 v ss.length (ss.map SelV.val)
  far : ∀ s ∈ ss, SelFar W s
  bel : Below w.heap.size w W
theorem PaSt.keep {w W W' : World} {g c n : Nat} {ps : List PcW} {v : Value} {ss : List SelV} (h : PaSt w W g c n ps v ss) (hb : Below W.heap.size W W') : PaSt w W' g c n ps v ss :=
  ⟨ownsRow_below h.prow hb, fun x hx => (h.ptok x hx).keep hb, ownsRow_below h.row hb, fun s hs => (h.far s hs).below hb, h.bel.trans (hb.mono h.bel.size)⟩
theorem PaSt.push {w W W' : World} {g c n : Nat} {ps : List PcW} {v v' : Value} {ss : List SelV} {s : SelV} (h : PaSt w W g c n ps v ss) (hs : SelFar W s) (hrow : W'.ownsRow w.heap.size 24 1 v' (ss ++ [s]).length ((ss ++ [s]).map SelV.val)) (hb : Below w.heap.size W W') (hk : KeptK 24 W W') (hz : W.heap.size ≤ W'.heap.size) : PaSt w W' g c n ps v' (ss ++ [s]) := by
  refine ⟨row_kept7 h.prow kindsU.1 hk, fun x hx => row_kept7 (h.ptok x hx) kindsU.2 hk, hrow, fun x hx => ?_, h.bel.trans hb⟩
  rcases List.mem_append.1 hx with hx | hx
  · exact (h.far x hx).kept hk hz
  · rw [List.mem_singleton] at hx; subst hx; exact hs.kept hk hz
/-- selectors that were answered -/
def ParseIs (w : World) (R : Option (List (List Prt))) (e : Ending) (w' : World) : Prop :=
  Below w.heap.size w w' ∧ ((R = none ∧ e = .returned (.tuple #[.slice none 0 0, .int .i64 20])) ∨ ∃ (g c n : Nat) (ss : List SelV), R = some (ss.map SelV.pure) ∧ ss.length = n ∧ 0 < n ∧ n ≤ c ∧ c ≤ maxLen ∧ Sls w' (some ⟨g, 0, none⟩) ss ∧ e = .returned (.tuple #[.slice (some ⟨g, 0, none⟩) n c, .int .i64 0]))
theorem SlRow.sls {H g n c : Nat} {w : World} {l : List SelV} (h : w.ownsRow H 24 1 (.slice (some ⟨g, 0, none⟩) n c) l.length (l.map SelV.val)) (hl : ∀ x ∈ l, SelFar w x) : n ≤ c ∧ c ≤ maxLen ∧ Sls w (some ⟨g, 0, none⟩) l := by
  rcases h.2 with ⟨e, _⟩ | ⟨g2, cap, cur, e, _, hg, h1, h2, _, _⟩
  · cases e
  · injection e with e1 e2 e3
    injection e1 with e1; injection e1 with e1 _
    subst e1; subst e2; subst e3
    refine ⟨h1, h2, Or.inr ⟨g, 0, rfl, (Array.getElem?_eq_some_iff.1 hg).1, fun i hi => ⟨?_, (hl _ (List.getElem_mem hi)).ok⟩⟩⟩
    rw [Nat.zero_add, World.ownsRow.cellAt h i (by omega), List.getElem?_map, List.getElem?_eq_getElem hi]; rfl
/-- what is left to read -/
def leftS (L : List (List Tok)) (acc : List (List Prt)) : Option (List (List Prt)) := (L.mapM fun x => readS (trm x)).map fun t => acc ++ t
theorem leftS_none {x : List Tok} {L : List (List Tok)} {acc : List (List Prt)} (h : readS (trm x) = none) : leftS (x :: L) acc = none := by
  unfold leftS; rw [List.mapM_cons, h]; rfl
theorem leftS_some {x : List Tok} {L : List (List Tok)} {acc : List (List Prt)} {y : List Prt} (h : readS (trm x) = some y) : leftS (x :: L) acc = leftS L (acc ++ [y]) := by
  unfold leftS; rw [List.mapM_cons, h]
  cases L.mapM fun x => readS (trm x) <;> simp
theorem leftS_end (acc : List (List Prt)) : leftS [] acc = some acc := by unfold leftS; simp

set_option maxRecDepth 100000 in
set_option maxHeartbeats 8000000 in
theorem Parse7_any (a : Option Addr) (l : List Tok) (cap : Nat) (w : World) (h1 : l.length ≤ cap) (h2 : cap ≤ maxLen) (hl : l.length ≤ 90000) (hT : Tks w a l) (hx : TxOk7 l) :
    Calls Tryz.prog 23 #[.slice a l.length cap] w (ParseIs w (parseS l)) := by
  have SP := Lib.hid (Split_any a l cap 12 w h1 h2 hl hT)
  obtain ⟨R, hR⟩ : ∃ R, parseS l = R := ⟨_, rfl⟩
  have HL0 : Hid (leftS (spl (kindB 12) l) [] = R) := Lib.hid (by rw [← hR]; unfold leftS parseS; show Option.map _ (List.mapM _ (spl commaB l)) = _; simp)
  have HMEM : Hid (∀ x ∈ spl (kindB 12) l, x.length ≤ 90000 ∧ TxOk7 x) := Lib.hid (fun x hm => ⟨Nat.le_trans (spl_sub7 hm).1 hl, fun t ht => hx t ((spl_sub7 hm).2 t ht)⟩)
  have HLEN : Hid ((spl (kindB 12) l).length ≤ 100000) := Lib.hid (by have := spl_len (kindB 12) l; omega)
  have HNE := Lib.hid (spl_ne7 (kindB 12) l)
  obtain ⟨n0, hn0⟩ : ∃ n, l.length = n := ⟨_, rfl⟩
  rw [hn0] at SP ⊢
  rw [hR]
  clear h1 h2 hl hT hx hR hn0
  go_enter Tryz.func23, Tryz.ntmps23
  go_wp2_with fail
  refine SP.out.mono ?_
  rintro e w1 ⟨g, c, n, ps, rfl, hpn, hpl, hprow, hptok, hb1⟩
  rw [← hpl] at HL0 HMEM HLEN HNE
  rw [List.length_map] at HLEN
  have HN := Lib.hid hpn
  have hn0 : 0 < n := by rw [← hpn]; exact List.length_pos_iff.2 fun e => HNE.out (by rw [e]; rfl)
  have hnm : n ≤ 100000 := by rw [← hpn]; exact HLEN.out
  have HS0 : Hid (PaSt w w1 g c n ps (.slice none 0 0) []) := Lib.hid ⟨hprow, hptok, World.ownsRow_nil _ _ _ _, fun x hx => (by cases hx), hb1⟩
  clear hpn hpl hprow hptok hb1 SP HLEN HNE
  go_wp2_with fail
  go_loopw [4, 12] (fun v4 vi wr => ∃ (k cv : Nat) (av : Option Addr) (ss : List SelV), v4 = .slice av k cv ∧ vi = .int .i64 (k : Int) ∧ k ≤ n ∧ Hid (PaSt w wr g c n ps (.slice av k cv) ss ∧ ss.length = k ∧ leftS ((ps.drop k).map PcW.l) (ss.map SelV.pure) = R)) (fun _ vi _ => n - (intOf vi).toNat)
  case atStart => exact ⟨0, 0, none, [], rfl, rfl, by omega, Lib.hid ⟨HS0.out, rfl, HL0.out⟩⟩
  case round =>
    obtain ⟨k, cv, av, ss, rfl, rfl, hkn, HK⟩ := hrel
    by_cases hlt : k < n
    · have hltz : (k : Int) < (n : Int) := by omega
      have hkl : k < ps.length := by have := HN.out; omega
      have hdr : ps.drop k = ps[k] :: ps.drop (k + 1) := List.drop_eq_getElem_cons hkl
      have hmm := HMEM.out ps[k].l (List.mem_map.2 ⟨_, List.getElem_mem hkl, rfl⟩)
      have hpt := HK.out.1.ptok ps[k] (List.getElem_mem hkl)
      obtain ⟨ax, cx, hxv, hxT, hx1, hx2⟩ := hpt.form
      have c0 : wr.cell? ⟨g, k, none⟩ = some ps[k].v := by
        have hpr := HK.out.1.prow
        rw [HN.out] at hpr
        have hcl := World.ownsRow.cellAt hpr k (by omega)
        rw [hcl, List.getElem?_map, List.getElem?_eq_getElem hkl]; rfl
      rw [hxv] at c0
      have hlf := HK.out.2.2
      rw [hdr, List.map_cons] at hlf
      obtain ⟨x, hxx⟩ : ∃ x, ps[k].l = x := ⟨_, rfl⟩
      rw [hxx] at c0 hlf hmm hxT hx1
      obtain ⟨nx, hnx⟩ : ∃ m, x.length = m := ⟨_, rfl⟩
      obtain ⟨n2, hn2⟩ : ∃ m, (trm x).length = m := ⟨_, rfl⟩
      have hn2b : n2 ≤ 90000 := by rw [← hn2]; exact Nat.le_trans (trm_len x) hmm.1
      have TR : Calls Tryz.prog 45 #[.slice ax nx cx] wr fun e w' => ∃ a2 c2, e = .returned (.slice a2 n2 c2) ∧ Tks w' a2 (trm x) ∧ Below wr.heap.size wr w' ∧ n2 ≤ c2 ∧ c2 ≤ maxLen := by
        rw [← hn2, ← hnx]; exact Trim7_any ax x cx wr hx1 hx2 hmm.1 hxT
      have HTR := Lib.hid TR
      have RA : Hid (∀ a2 c2 W, n2 ≤ c2 → c2 ≤ maxLen → Tks W a2 (trm x) → Calls Tryz.prog 44 #[.slice a2 n2 c2] W (ReadOut W (readS (trm x)))) := Lib.hid (by
        intro a2 c2 W q1 q2 q3
        rw [← hn2]
        exact read_any a2 (trm x) c2 W (by omega) q2 (by omega) q3 (fun t ht => hmm.2 t (trm_sub7 ht)))
      have HLF := Lib.hid hlf
      rw [hnx] at c0
      clear hdr hmm hpt hxv hxT hx1 hx2 hlf hxx hnx TR hn2 hn2b hkl
      go_wp2_with fail
      refine HTR.out.mono ?_
      rintro e w2 ⟨a2, c2, rfl, hT2, hb2, hc2, hcm2⟩
      have HB2 := Lib.hid hb2
      have RDB := Lib.hid (RA.out a2 c2 w2 hc2 hcm2 hT2)
      clear hT2 hb2 hc2 hcm2 HTR RA
      go_wp2_with fail
      refine RDB.out.mono ?_
      rintro e w3 ⟨hb3, s, hf3, hcase⟩
      obtain ⟨m, hm⟩ : ∃ m, s.ps.length = m := ⟨_, rfl⟩
      have hsv : s.val = .slice s.a m s.c := by unfold SelV.val; rw [hm]
      rw [hsv] at hcase
      have HSV := Lib.hid hm
      have HB3 := Lib.hid (And.intro hb3 hf3)
      clear hb3 hf3 hm hsv RDB
      obtain ⟨sa, hsa⟩ : ∃ z, s.a = z := ⟨_, rfl⟩
      obtain ⟨sc, hsc⟩ : ∃ z, s.c = z := ⟨_, rfl⟩
      rw [hsa, hsc] at hcase
      have HSA := Lib.hid (And.intro hsa hsc)
      clear hsa hsc
      rcases hcase with ⟨hR, rfl⟩ | ⟨hR, rfl⟩
      · have HRN : Hid (R = none) := Lib.hid (by rw [← HLF.out]; exact leftS_none hR)
        have HBB : Hid (Below w.heap.size w w3) := Lib.hid (((HK.out.1.keep HB2.out).keep HB3.out.1).bel)
        clear hR
        go_wp2_with fail
        go_ret2
        exact ⟨HBB.out.alloc HBB.out.size _, Or.inl ⟨HRN.out, rfl⟩⟩
      · have HRS : Hid (leftS ((ps.drop (k + 1)).map PcW.l) (ss.map SelV.pure ++ [s.pure]) = R) := Lib.hid (by rw [← HLF.out]; exact (leftS_some hR).symm)
        clear hR
        go_upto_region 8 with fail
        have hB5 : Below w3.heap.size w3 (w3.alloc (.cells #[.slice sa m sc] 24)) := (Below.refl _ _).alloc (Nat.le_refl _) _
        have e0 : (w3.alloc (.cells #[.slice sa m sc] 24)).cell? ⟨w3.heap.size, 0, none⟩ = some (.slice sa m sc) := cell_of (heap_alloc_new w3 _) rfl
        obtain ⟨S, hS⟩ : ∃ S, w3.heap.size = S := ⟨_, rfl⟩
        have HP5 := Lib.hid (((HK.out.1.keep HB2.out).keep HB3.out.1).keep hB5)
        have HF5 := Lib.hid (HB3.out.2.below hB5)
        rw [hS] at e0 ⊢
        generalize w3.alloc (.cells #[.slice sa m sc] 24) = W5 at *
        obtain ⟨g6, c6, w6, hr6, hrow6, hb6, hk6⟩ := putSl w.heap.size (.slice av k cv) ss s m W5 HSV.out HP5.out.bel.size (by have := HK.out.2.1; omega) HP5.out.row
        rw [HSA.out.1, HSA.out.2, HK.out.2.1] at hr6
        rw [HK.out.2.1] at hrow6
        have HR6 := Lib.hid hr6
        have HZ6 : Hid (PaSt w w6 g c n ps (.slice (some ⟨g6, 0, none⟩) (k + 1) c6) (ss ++ [s]) ∧ (ss ++ [s]).length = k + 1 ∧ leftS ((ps.drop (k + 1)).map PcW.l) ((ss ++ [s]).map SelV.pure) = R) := Lib.hid ⟨HP5.out.push HF5.out hrow6 hb6 hk6 hb6.size, by rw [List.length_append, HK.out.2.1]; rfl, by rw [List.map_append]; exact HRS.out⟩
        clear hB5 hS hr6 hrow6 hb6 hk6
        go_wp2_with (at_builtin; refine wpList_append_runL rfl _ _ 28 rfl _ _ _ _ rfl rfl HR6.out ?_)
        go_roundw
        case rel => exact ⟨k + 1, c6, some ⟨g6, 0, none⟩, ss ++ [s], by go_num, by go_num, by omega, HZ6⟩
        case measure => simp [intOf]; omega
    · have hkn2 : k = n := by omega
      subst hkn2
      have hltz : ¬ (k : Int) < (k : Int) := by omega
      have HRD : Hid (R = some (ss.map SelV.pure)) := Lib.hid (by
        have h := HK.out.2.2
        rw [List.drop_of_length_le (by have := HN.out; omega)] at h
        rw [← h]; exact leftS_end _)
      obtain ⟨g7, c7, hv, _⟩ := HK.out.1.row.form (by have := HK.out.2.1; omega)
      injection hv with hv1 hv2 hv3
      subst hv1; subst hv3
      have HFI := Lib.hid (SlRow.sls HK.out.1.row HK.out.1.far)
      clear hv2
      go_wp2_with fail
      go_ret2
      exact ⟨HK.out.1.bel, Or.inr ⟨g7, _, k, ss, HRD.out, HK.out.2.1, hn0, HFI.out.1, HFI.out.2.1, HFI.out.2.2, rfl⟩⟩
end Go.Proofs.YtfbfndknhabmhaaGreat
