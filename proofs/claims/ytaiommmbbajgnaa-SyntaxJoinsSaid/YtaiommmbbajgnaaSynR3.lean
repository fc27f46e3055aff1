/- Layer 6's reference: Top, Split. -/
import Derived.Test.YtaiommmbbajgnaaSynR2
import Derived.Test.YtaiommmbbajgnaaSynW6
import Derived.Deep.RegionLawGrows
namespace Go.Proofs.Ytaiommmbbajgnaa
open Go.RowKit TreN LexP FixP SynP
set_option linter.unusedVariables false

set_option maxRecDepth 100000 in
set_option maxHeartbeats 2000000 in
theorem refTop_any (K : Int) (a : Option Addr) (l : List Tok) (cap : Nat) (w : World) (hl : l.length ≤ 90000) (hT : Tks w a l) :
    Calls Try.prog 35 #[.slice a l.length cap, .int .i64 0, .int .i64 K, .int .i64 K] w fun e w' => e = .returned (.int .i64 (fst (kindB K) l)) ∧ ∃ q, w' = w.drewN q := by
  have HT := Lib.hid hT
  have HM := Lib.hid fun (k : Nat) (hk : k < l.length) W (hW : Below w.heap.size w W) => refMatch_nat a l l.length cap rfl (by omega) (l.length - k) k W hk (Nat.le_refl _) (hT.below hW)
  obtain ⟨n, hn⟩ : ∃ n, l.length = n := ⟨_, rfl⟩
  have HN := Lib.hid hn
  rw [hn] at hl ⊢
  obtain ⟨R, hR⟩ : ∃ R, fst (kindB K) l = R := ⟨_, rfl⟩
  have HR := Lib.hid hR
  rw [hR]
  clear hT hn hR
  go_enter Try.func35, Try.ntmps35
  go_wp2_with fail
  go_loopw [1] (fun vi w2 => ∃ k q : Nat, vi = .int .i64 (k : Int) ∧ k ≤ n + 1 ∧ w2 = w.drewN q ∧ Hid (FsAt (kindB K) l k)) (fun vi _ => n + 1 - (intOf vi).toNat)
  case atStart => exact ⟨0, 0, rfl, by omega, rfl, Lib.hid (FsAt.start (kindB K) l)⟩
  case round =>
    obtain ⟨k, q, rfl, hk, rfl, HA2⟩ := hrel
    by_cases hlt : k < n
    · have hltz : (k : Int) < (n : Int) := by omega
      have hkl : k < l.length := by have := HN.out; omega
      have HB : Hid (Below w.heap.size w (w.drewN q)) := Lib.hid (below_drewN2 (Below.refl _ _) q)
      obtain ⟨b1, o1, rfl, g1, k1⟩ := HT.out.get hkl
      obtain ⟨t, ht⟩ : ∃ t, l[k] = t := ⟨_, rfl⟩
      rw [ht] at k1
      have d1 : (w.drewN q).cell? ⟨b1, o1 + k * 3, none⟩ = some (.int .i64 t.kind) := (k1.below HB.out g1).kind
      have HTT := Lib.hid ht
      have hbd := mtc_bd hkl
      have hln := HN.out
      have hpe : kindB K t = decide (t.kind = K) := rfl
      obtain ⟨tk, htk⟩ : ∃ x, t.kind = x := ⟨_, rfl⟩
      rw [htk] at d1 hpe
      clear k1 ht htk
      by_cases hpt : tk = K
      · have HF : Hid (R = k) := Lib.hid (by rw [← HR.out]; exact HA2.out.hit hkl (by rw [HTT.out, hpe, decide_eq_true hpt]))
        have hz : (tk == K) = true := by rw [beq_iff_eq]; exact hpt
        clear hpt hpe
        go_wp2_with fail
        go_ret
        exact ⟨by rw [HF.out]; rfl, q, rfl⟩
      · have HS : Hid (FsAt (kindB K) l (mtc l k + 1)) := Lib.hid (HA2.out.step hkl (by rw [HTT.out, hpe, decide_eq_false hpt]))
        have hz : (tk == K) = false := by rw [beq_eq_false_iff_ne]; exact hpt
        obtain ⟨m, hm⟩ : ∃ m, mtc l k = m := ⟨_, rfl⟩
        have MM := Lib.hid (HM.out k hkl)
        rw [hm, hln] at MM
        rw [hm] at hbd HS
        have hw : IntKind.i64.wrap ((m : Int) + 1) = ((m + 1 : Nat) : Int) := by
          have e : (m : Int) + 1 = ((m + 1 : Nat) : Int) := by omega
          rw [e]; exact IntWalk.i64_in _ (by omega)
        clear hpt hpe hm
        go_wp2_with fail
        refine (MM.out _ HB.out).mono ?_
        rintro e w3 ⟨rfl, q2, rfl⟩
        clear MM
        go_wp2_with fail
        go_roundw
        case rel => exact ⟨m + 1, q + q2, by go_num, by omega, rfl, HS⟩
        case measure => simp [intOf]; omega
    · have hltz : ¬ (k : Int) < (n : Int) := by omega
      have HF : Hid (R = n) := Lib.hid (by rw [← HR.out, HA2.out.over (by have := HN.out; omega), HN.out])
      go_wp2_with fail
      go_ret
      exact ⟨by rw [HF.out]; rfl, q, rfl⟩

/-- a piece in memory -/
structure PcV where
  l : List Tok
  a : Option Addr
  c : Nat
def PcV.val (x : PcV) : Value := .slice x.a x.l.length x.c
def PcV.ok (w : World) (x : PcV) : Prop := x.l.length ≤ x.c ∧ x.c ≤ maxLen ∧ Tks w x.a x.l
theorem PcV.ok.below {w w' : World} {x : PcV} (h : x.ok w) (hb : Below w.heap.size w w') : x.ok w' := ⟨h.1, h.2.1, h.2.2.below hb⟩
/-- pieces, one behind the other, from g on -/
structure PcRow (w : World) (g : Nat) (ds : List PcV) : Prop where
  lt : g < w.heap.size
  at_ : ∀ j (h : j < ds.length), w.cell? ⟨g, j, none⟩ = some ds[j].val
  ok : ∀ x ∈ ds, x.ok w
theorem PcRow.below {w w' : World} {g : Nat} {ds : List PcV} (h : PcRow w g ds) (hb : Below w.heap.size w w') : PcRow w' g ds :=
  ⟨Nat.lt_of_lt_of_le h.lt hb.size, fun j hj => (hb.cell (p := ⟨g, j, none⟩) h.lt).trans (h.at_ j hj), fun x hx => (h.ok x hx).below hb⟩
def SplIs (w : World) (ps : List (List Tok)) (e : Ending) (w' : World) : Prop := (∃ ds g cap, e = .returned (.slice (some ⟨g, 0, none⟩) ds.length cap) ∧ ds.map PcV.l = ps ∧ PcRow w' g ds) ∧ Below w.heap.size w w'
theorem und_pieces : Try.prog.underlying 50 = some (.slice 22) := by kernel_rfl
theorem info_piece : (Try.prog.info? 22).map (fun i => (i.zero, i.size, i.bytes)) = some (some (.slice none 0 0), 1, 24) := by kernel_rfl
/-- a piece put ahead of pieces -/
theorem run_ahead (W : World) (g2 g4 c4 k c2 : Nat) (a2 : Option Addr) (l2 : List Tok) (ds : List PcV) (hx : W.cell? ⟨g2, 0, none⟩ = some (.slice a2 k c2)) (hk : l2.length = k) (h1 : PcV.ok W ⟨l2, a2, c2⟩) (hr : PcRow W g4 ds) (hn : 0 < ds.length) (hd : ds.length ≤ 100000) :
    ∃ g cap w', (Builtin.append_ #[50, 50] 50 #[.slice (some ⟨g2, 0, none⟩) 1 1, .slice (some ⟨g4, 0, none⟩) ds.length c4]).run Try.prog W = .ok (.slice (some ⟨g, 0, none⟩) (1 + ds.length) cap) w' ∧ PcRow w' g (⟨l2, a2, c2⟩ :: ds) ∧ Below W.heap.size W w' := by
  obtain ⟨i, hi, hz0, hz1, hz2⟩ := info_parts info_piece
  have news : ∀ (j : Nat) (u : Value), (ds.map PcV.val)[j]? = some u → W.cell? ((⟨g4, 0, none⟩ : Addr).add j) = some u := by
    intro j u hj
    by_cases hjn : j < ds.length
    · rw [List.getElem?_map, List.getElem?_eq_getElem hjn] at hj
      injection hj with hj; subst hj
      rw [Addr.add_lit, Nat.zero_add]
      exact hr.at_ j hjn
    · rw [List.getElem?_eq_none (by rw [List.length_map]; omega)] at hj
      cases hj
  have olds : ∀ (j : Nat) (u : Value), [Value.slice a2 k c2][j]? = some u → W.cell? ((⟨g2, 0, none⟩ : Addr).add j) = some u := by
    intro j u hj
    cases j with
    | zero => injection hj with hj; subst hj; rw [Addr.add_lit]; exact hx
    | succ j => simp at hj
  obtain ⟨v', w', hrun, r1, r2⟩ := run_append_arg_grows (P := Try.prog) W 50 50 22 i _ 1 24 und_pieces hi hz0 hz1 hz2 rfl (by decide) ⟨g2, 0, none⟩ 1 1 [.slice a2 k c2] rfl olds ⟨g4, 0, none⟩ ds.length c4 (ds.map PcV.val) (by rw [List.length_map, Nat.mul_one]) news (by omega) (by unfold maxLen; omega) (by omega)
  obtain ⟨g, cap, rfl, hg, hgl⟩ := r1.form (by omega)
  have hb : Below W.heap.size W w' := (Below.refl _ _).grown r2 (Nat.le_refl _) (fun q hq => by cases hq)
  refine ⟨g, cap, w', hrun, ⟨hgl, fun j hj => ?_, ?_⟩, hb⟩
  · rw [r1.cellAt j (by simp at hj; omega)]
    cases j with
    | zero => show some (Value.slice a2 k c2) = some (Value.slice a2 l2.length c2); rw [hk]
    | succ j =>
      simp at hj
      show (ds.map PcV.val)[j]? = _
      rw [List.getElem?_map, List.getElem?_eq_getElem hj]; rfl
  · intro x hx
    rcases List.mem_cons.1 hx with rfl | hx
    · exact h1.below hb
    · exact (hr.ok x hx).below hb
theorem step_append_run {P : Program} {ops : Array Oper} {o : Oper} {a : Act} {w : World} {K : Act → World → Prop} {Q : Exit → Act → World → Prop} {E : Prop}
    (hg : o.guard = none) (s x : Operand) (t : TypeId) (hop : o.op = Op.call { callee := Callee.builtin Builtin.append, args := #[s, x], argTypes := #[t, t] })
    (vs vx v : Value) (w' : World) (hs : a.eval s = vs) (hx : a.eval x = vx) (hr : (Builtin.append_ #[t, t] o.type #[vs, vx]).run P w = .ok v w') (hK : K (a.put o.dst v) w') :
    if Region.wanted o (yielded ops a.tmps) = true then Oper.wp P o a w K Q else E := by
  have hw : Region.wanted o (yielded ops a.tmps) = true := by simp [Region.wanted, hg]
  rw [if_pos hw]
  unfold Oper.wp
  simp [execOp, hop, resolve, invoke, builtin, hs, hx, hr, Result.andThen]
  exact hK

set_option maxRecDepth 100000 in
set_option maxHeartbeats 4000000 in
theorem refSplit_end (K : Int) (hK : clo K = 0) (a : Option Addr) (l : List Tok) (n cap : Nat) (w : World) (hn : l.length = n) (h1 : n ≤ cap) (h2 : cap ≤ maxLen) (hl : n ≤ 90000) (hT : Tks w a l) (hkn : fst (kindB K) l = n) :
    Calls Try.prog 24 #[.slice a n cap, .int .i64 K] w (SplIs w (spl (kindB K) l)) := by
  have C := refClosing_any K
  rw [hK] at C
  have CC := Lib.hid C
  have T := refTop_any K a l cap w (by omega) hT
  rw [hn, hkn] at T
  have TT := Lib.hid T
  rw [spl_end (by rw [hkn, hn])]
  have HF : Hid (l.length = n ∧ n ≤ cap ∧ cap ≤ maxLen ∧ Tks w a l) := Lib.hid ⟨hn, h1, h2, hT⟩
  clear hn hT hK h1 h2 hkn C T
  unfold SplIs
  go_enter Try.func24, Try.ntmps24
  go_wp2_with fail
  refine (CC.out _).mono ?_
  rintro e w1 ⟨rfl, rfl⟩
  go_wp2_with fail
  refine (TT.out).mono ?_
  rintro e w2 ⟨rfl, q, rfl⟩
  go_wp2_with fail
  go_ret
  obtain ⟨f1, f2, f3, f4⟩ := HF.out
  have hb : Below w1.heap.size w1 ((w1.drewN q).alloc (.cells #[.slice a n cap] 22)) := (below_drewN2 (Below.refl _ _) q).alloc (Nat.le_refl _) _
  refine ⟨⟨[⟨l, a, cap⟩], w1.heap.size, 1, rfl, rfl, ⟨by simp, fun j hj => ?_, fun x hx => ?_⟩⟩, hb⟩
  · have : j = 0 := by simp at hj; omega
    subst this
    show _ = some (Value.slice a l.length cap)
    rw [f1]
    exact cell_of (heap_alloc_new (w1.drewN q) _) rfl
  · rw [List.mem_singleton] at hx; subst hx
    exact ⟨by show l.length ≤ cap; rw [f1]; exact f2, f3, f4.below hb⟩

set_option maxRecDepth 100000 in
set_option maxHeartbeats 4000000 in
theorem refSplit_nat (K : Int) (hK : clo K = 0) : ∀ (d : Nat) (a : Option Addr) (l : List Tok) (n cap : Nat) (w : World), l.length = n → n ≤ d → n ≤ cap → cap ≤ maxLen → n ≤ 90000 → Tks w a l →
    Calls Try.prog 24 #[.slice a n cap, .int .i64 K] w (SplIs w (spl (kindB K) l)) := by
  intro d
  induction d with
  | zero =>
    intro a l n cap w hn hd h1 h2 hl hT
    exact refSplit_end K hK a l n cap w hn h1 h2 hl hT (by have := fst_bd (kindB K) l; omega)
  | succ d ih =>
    intro a l n cap w hn hd h1 h2 hl hT
    by_cases hkn : fst (kindB K) l = n
    · exact refSplit_end K hK a l n cap w hn h1 h2 hl hT hkn
    have C := refClosing_any K
    rw [hK] at C
    have CC := Lib.hid C
    have T := refTop_any K a l cap w (by omega) hT
    rw [hn] at T
    have TT := Lib.hid T
    have hfb := fst_bd (kindB K) l
    have hsc := spl_cut (p := kindB K) (l := l)
    have hsl := spl_len (kindB K) (l.drop (fst (kindB K) l + 1))
    rw [List.length_drop] at hsl
    rw [hn] at hfb hsc hsl
    obtain ⟨k, hk⟩ : ∃ k, fst (kindB K) l = k := ⟨_, rfl⟩
    rw [hk] at TT hfb hsc hkn hsl
    have hkn2 : k < n := by omega
    obtain ⟨a2, s1, s2, s3, s5⟩ := sl_to a l cap n k hn (k : Int) rfl (by omega) h1 h2
    have hwz : IntKind.i64.wrap ((k : Int) + 1) = (k : Int) + 1 := IntWalk.i64_in _ (by omega)
    obtain ⟨a4, t1, t2, t3, t4, t5⟩ := sl_from a l cap n (k + 1) hn ((k : Int) + 1) (by omega) (by omega) h1 h2
    have IHC : ∀ W, Below w.heap.size w W → Calls Try.prog 24 #[.slice a4 (n - (k + 1)) (cap - (k + 1)), .int .i64 K] W (SplIs W (spl (kindB K) (l.drop (k + 1)))) := fun W hW =>
      ih a4 (l.drop (k + 1)) _ _ W t2 (by omega) t3 t4 (by omega) (t5 W (hT.below hW))
    have hq : (k : Int) ≠ (n : Int) := by omega
    have hqz : ((k : Int) == (n : Int)) = false := by rw [beq_eq_false_iff_ne]; exact hq
    have HI := Lib.hid IHC
    have HP : Hid (∀ W, Below w.heap.size w W → PcV.ok W ⟨l.take k, a2, cap⟩) := Lib.hid fun W hW => ⟨by rw [s2]; exact s3, h2, s5 W (hT.below hW)⟩
    have HS : Hid ((l.take k).length = k ∧ spl (kindB K) l = l.take k :: spl (kindB K) (l.drop (k + 1)) ∧ (spl (kindB K) (l.drop (k + 1))).length ≤ 100000 ∧ 0 < (spl (kindB K) (l.drop (k + 1))).length) := Lib.hid ⟨s2, hsc hkn2, by omega, by
      by_cases e : fst (kindB K) (l.drop (k + 1)) = (l.drop (k + 1)).length
      · rw [spl_end e]; simp
      · rw [spl_cut (by have := fst_bd (kindB K) (l.drop (k + 1)); omega)]; simp⟩
    have hk0 : (0 : Int) ≤ (k : Int) := by omega
    have hk1 : (k : Int) ≤ (cap : Int) := by omega
    have hk2 : (k : Int) + 1 ≤ (n : Int) := by omega
    generalize spl (kindB K) l = ps at *
    generalize spl (kindB K) (l.drop (k + 1)) = qs at *
    clear ih C T hk hsc hfb t2 t5 s2 s5 hT hn IHC hsl hK
    unfold SplIs
    go_enter Try.func24, Try.ntmps24
    go_wp2_with fail
    refine (CC.out _).mono ?_
    rintro e w1 ⟨rfl, rfl⟩
    go_wp2_with fail
    refine (TT.out).mono ?_
    rintro e w2 ⟨rfl, q, rfl⟩
    have HB : Hid (Below w1.heap.size w1 (w1.drewN q)) := Lib.hid (below_drewN2 (Below.refl _ _) q)
    go_wp2_with fail
    generalize hW3 : w1.drewN q = W3 at *
    have HBA : Hid (Below w1.heap.size w1 (W3.alloc (.cells #[.slice a2 k cap] 22)).drew) := Lib.hid (HB.out.alloc HB.out.size _).drew
    have HBD : Hid (Below w1.heap.size w1 W3.drew) := Lib.hid HB.out.drew
    go_region_law ((first
      | (go_simp; go_at_call 24; refine (HI.out _ ?_).mono ?_; (first | exact HBA.out | exact HBD.out); rintro e w4 ⟨⟨ds, g4, c4, rfl, hds, hrow⟩, hb4⟩; (first | have CL : w4.cell? ⟨W3.heap.size, 0, none⟩ = some (.slice a2 k cap) := (hb4.cell (p := ⟨W3.heap.size, 0, none⟩) (by simp)).trans (cell_of (heap_alloc_new W3 _) rfl) | skip); (first | have HB4 : Hid (Below w1.heap.size w1 w4) := Lib.hid (HBA.out.trans (hb4.mono HBA.out.size)) | have HB4 : Hid (Below w1.heap.size w1 w4) := Lib.hid (HBD.out.trans (hb4.mono HBD.out.size))); have HDS := Lib.hid hds; have HROW := Lib.hid hrow; clear hb4 hds hrow)
      | (obtain ⟨g5, c5, w5, hr, hP5, hb5⟩ := run_ahead w4 W3.heap.size g4 c4 k cap a2 (l.take k) ds CL HS.out.1 (HP.out _ HB4.out) HROW.out (by have := HS.out.2.2.2; rw [← HDS.out, List.length_map] at this; exact this) (by have := HS.out.2.2.1; rw [← HDS.out, List.length_map] at this; exact this); refine step_append_run rfl (.tmp 24) (.tmp 30) 50 rfl _ _ _ _ (by simp [Act.eval]) (by simp [Act.eval]) hr ?_; have HF5 := Lib.hid (And.intro hP5 (HB4.out.trans (hb5.mono HB4.out.size))); clear hr hP5 hb5)
      | (obtain ⟨g5, c5, w5, hr, hP5, hb5⟩ := run_ahead (w4.alloc (.cells #[.slice a2 k cap] 22)) w4.heap.size g4 c4 k cap a2 (l.take k) ds (cell_of (heap_alloc_new w4 _) rfl) HS.out.1 (HP.out _ (HB4.out.alloc HB4.out.size _)) (HROW.out.below ((Below.refl _ _).alloc (Nat.le_refl _) _)) (by have := HS.out.2.2.2; rw [← HDS.out, List.length_map] at this; exact this) (by have := HS.out.2.2.1; rw [← HDS.out, List.length_map] at this; exact this); refine step_append_run rfl (.tmp 24) (.tmp 30) 50 rfl _ _ _ _ (by simp [Act.eval]) (by simp [Act.eval]) hr ?_; have HF5 := Lib.hid (And.intro hP5 ((HB4.out.alloc HB4.out.size _).trans (hb5.mono (HB4.out.alloc HB4.out.size _).size))); clear hr hP5 hb5)))
    all_goals
      go_wp2_with fail
      go_ret
      refine ⟨⟨⟨l.take k, a2, cap⟩ :: ds, g5, c5, ?_, ?_, HF5.out.1⟩, HF5.out.2⟩
      · exact congrArg (fun x => Ending.returned (.slice (some ⟨g5, 0, none⟩) x c5)) (Nat.add_comm 1 ds.length)
      · rw [HS.out.2.1, ← HDS.out]; rfl
end Go.Proofs.Ytaiommmbbajgnaa
