/- Joined texts: SynW6 SynW7. -/
import Derived.Test.YtfbfndknhabmhaaGreatSynUa
import Derived.Outline
import Derived.Deep.RegionLaw
import Derived.Deep.AppendLies
namespace Go.Proofs.YtfbfndknhabmhaaGreat
open Go.RowKit TreN LexP FixP SynP
set_option linter.unusedVariables false

def kindB (k : Int) (t : Tok) : Bool := decide (t.kind = k)
set_option maxRecDepth 100000 in
set_option maxHeartbeats 1000000 in
theorem cut1_any (k : Int) (g : Nat) (t : Tok) (w : World) (h : w.cell? ⟨g, 0, none⟩ = some (.int .i64 k)) : Calls Tryz.prog 91 #[t.val, .pointer (some ⟨g, 0, none⟩)] w fun e w' => e = .returned (.bool (kindB k t)) ∧ Below w.heap.size w w' := by
  obtain ⟨kt, x, n⟩ := t
  have hx : kindB k ⟨kt, x, n⟩ = decide (kt = k) := rfl
  rw [hx]
  unfold LexP.Tok.val
  have hb : Below w.heap.size w (w.alloc (.cells #[.int .i64 kt, .string ⟨x.toArray⟩, .int .i64 n] 70)) := (Below.refl _ _).alloc (Nat.le_refl _) _
  have h2 : (w.alloc (.cells #[.int .i64 kt, .string ⟨x.toArray⟩, .int .i64 n] 70)).cell? ⟨g, 0, none⟩ = some (.int .i64 k) := (hb.cell (World.block_lt_of_cell? w _ h)).trans h
  have HB := Lib.hid hb
  clear hb hx
  go_enter Tryz.func91, Tryz.ntmps91
  go_wp2_with fail
  go_ret
  exact ⟨ret_bool (by rw [Bool.eq_iff_iff]; simp), HB.out⟩
theorem enters_cut1 : ∀ args w, (callFunc 91 args).run Tryz.prog w = .ok (.enter 91 args) w := enters_of Tryz.func91 (by kernel_rfl) rfl

theorem blk_keepS {W w2 : World} {b : Nat} {o : Obj} (hb : Below W.heap.size W w2) (h : W.heap[b]? = some o) : w2.heap[b]? = some o := by
  obtain ⟨hlt, _⟩ := Array.getElem?_eq_some_iff.1 h
  exact (hb.block b hlt).trans h
theorem spF_len (p : Tok → Bool) : ∀ (f : Nat) (l : List Tok), (spF p f l).length ≤ l.length + 1
  | 0, l => by simp [spF]
  | f + 1, l => by
    have hb := fst_bd p l
    have ih := spF_len p f (l.drop (fst p l + 1))
    rw [List.length_drop] at ih
    show (if fst p l = l.length then [l] else _ :: spF p f _).length ≤ _
    split
    · simp
    · rw [List.length_cons]; omega
theorem spl_len (p : Tok → Bool) (l : List Tok) : (spl p l).length ≤ l.length + 1 := spF_len p _ l
/-- who is handed pieces -/
structure PieceCb (q : Nat) (fs cs : Array Value) (w0 : World) (g : Nat) (R : List (List Tok) → World → Prop) : Prop where
  enters : ∀ args w, (callFunc q args).run Tryz.prog w = .ok (.enter q args) w
  call : ∀ done piece a cap W, R done W → piece.length ≤ cap → cap ≤ maxLen → piece.length ≤ 100000 → (∀ W', Below w0.heap.size w0 W' → Tks W' a piece) → g < W.heap.size → done.length ≤ 100000 → Calls Tryz.prog q (fs.push (.slice a piece.length cap) ++ cs) W fun e w' => e = .returned (.tuple #[]) ∧ R (done ++ [piece]) w' ∧ ∀ o, W.heap[g]? = some o → w'.heap[g]? = some o
  keep : ∀ done W W', R done W → Below W.heap.size W W' → R done W'
  below : ∀ done W, R done W → Below w0.heap.size w0 W

set_option maxRecDepth 100000 in
set_option maxHeartbeats 2000000 in
theorem cut_pieces (q : Nat) (fs cs : Array Value) (w0 : World) (R : List (List Tok) → World → Prop) (g : Nat) (hcb : PieceCb q fs cs w0 g R) (a : Option Addr) (l : List Tok) (cap : Nat) (k : Int) (w : World) (hg : w.heap.size = g) (hR : R [] w) (h1 : l.length ≤ cap) (h2 : cap ≤ maxLen) (hl : l.length ≤ 90000) (hT : ∀ W', Below w0.heap.size w0 W' → Tks W' a l) :
    Calls Tryz.prog 66 #[.slice a l.length cap, .int .i64 k, .func (.func q) fs cs] w fun e w' => e = .returned (.tuple #[]) ∧ R (spl (kindB k) l) w' := by
  have hmf : ∀ (fn : Fn) (first cap : Array Value) (w : World), (Instr.makeFunc fn first cap).run Tryz.prog w = .ok (.func fn first cap) w := fun _ _ _ _ => rfl
  have eq := hcb.enters
  have eq2 := enters_cut1
  have HK := Lib.hid hcb.keep
  have HC := Lib.hid hcb.call
  have HBW := Lib.hid hcb.below
  have hR2 : R [] (w.alloc (.cells #[.int .i64 k] 3)) := hcb.keep _ _ _ hR ((Below.refl _ _).alloc (Nat.le_refl _) _)
  have hbox := heap_alloc_new w (.cells #[.int .i64 k] 3)
  obtain ⟨n, hn⟩ : ∃ n, l.length = n := ⟨_, rfl⟩
  have HN : Hid (l.length = n ∧ ∀ W', Below w0.heap.size w0 W' → Tks W' a l) := Lib.hid ⟨hn, hT⟩
  rw [hn] at h1 hl ⊢
  have H2 := Lib.hid h2
  unfold maxLen at h2
  clear hcb hT hn hR
  go_enter Tryz.func66, Tryz.ntmps66
  go_wp2_with fail
  rw [hg] at hbox
  generalize w.alloc (.cells #[.int .i64 k] 3) = w1 at hR2 hbox ⊢
  have HR1 := Lib.hid hR2
  have HX := Lib.hid hbox
  clear hR2 hbox hg
  go_loopw [0] (fun v wr => ∃ (a1 : Option Addr) (m : List Tok) (j c1 : Nat) (done : List (List Tok)), v = .slice a1 j c1 ∧ j ≤ c1 ∧ c1 ≤ cap ∧ j ≤ n ∧ Hid (m.length = j ∧ (∀ W', Below w0.heap.size w0 W' → Tks W' a1 m) ∧ done ++ spl (kindB k) m = spl (kindB k) l) ∧ Hid (R done wr) ∧ Hid (wr.heap[g]? = some (.cells #[.int .i64 k] 3 (0, 0)))) (fun v _ => lenV v)
  case atStart => exact ⟨a, l, n, cap, [], rfl, h1, Nat.le_refl _, Nat.le_refl _, Lib.hid ⟨HN.out.1, HN.out.2, rfl⟩, HR1, HX⟩
  case round =>
    obtain ⟨a1, m, j, c1, done, rfl, hj, hc, hjn, HM, HR, HX⟩ := hrel
    obtain ⟨hm1, hm2, hm3⟩ := HM.out
    have hfi := first_any 91 #[.pointer (some ⟨g, 0, none⟩)] (kindB k) enters_cut1 a1 m c1 wr (fun t _ W hW => cut1_any k g t W (cell_of ((hW.block g (by have := Array.getElem?_eq_some_iff.1 HX.out; obtain ⟨h, _⟩ := this; exact h)).trans HX.out) rfl)) (by omega) (hm2 wr (HBW.out _ _ HR.out))
    have hfb := fst_bd (kindB k) m
    obtain ⟨f, hf⟩ : ∃ f, fst (kindB k) m = f := ⟨_, rfl⟩
    have HF := Lib.hid hf
    rw [hm1] at hfi hfb
    rw [hf] at hfi hfb
    clear hf
    have FI := Lib.hid hfi
    have HMM := HM
    clear hfi hm1 hm2 hm3
    have hfz : (f : Int) ≤ (j : Int) := by omega
    have hfc : (f : Int) ≤ (c1 : Int) := by omega
    have hf0 : (0 : Int) ≤ (f : Int) := by omega
    obtain ⟨a2, s1, s2, s3, s4⟩ := sl_to a1 m c1 j f HM.out.1 (f : Int) rfl (by omega) hj (by unfold maxLen; omega)
    have S4 := Lib.hid s4
    have S2 := Lib.hid s2
    clear s2 s4
    go_wp2_with fail
    refine FI.out.mono ?_
    rintro e w2 ⟨rfl, hb2⟩
    have HR2 : Hid (R done w2) := Lib.hid (HK.out _ _ _ HR.out hb2)
    have HX2 : Hid (w2.heap[g]? = some (.cells #[.int .i64 k] 3 (0, 0))) := Lib.hid (blk_keepS hb2 HX.out)
    clear hb2 FI
    go_wp2_with fail
    have hcall := HC.out done (m.take f) a2 c1 w2 HR2.out (by rw [S2.out]; exact s3) (by unfold maxLen; omega) (by rw [S2.out]; omega) (fun W' hW => S4.out _ (HM.out.2.1 W' hW)) (by obtain ⟨h, _⟩ := Array.getElem?_eq_some_iff.1 HX2.out; exact h) (by
      have h := congrArg List.length HM.out.2.2
      have h2 := spl_len (kindB k) l
      rw [List.length_append, HN.out.1] at *
      omega)
    rw [S2.out] at hcall
    have HCALL := Lib.hid hcall
    clear hcall
    refine HCALL.out.mono ?_
    rintro e w3 ⟨rfl, hR3, hX3⟩
    have HR3 := Lib.hid hR3
    have HX3 := Lib.hid (hX3 _ HX2.out)
    clear hR3 hX3 HCALL
    by_cases hfe : f = j
    · have hfj : ((f : Int) == (j : Int)) = true := by rw [beq_iff_eq]; omega
      have HFIN : Hid (R (spl (kindB k) l) w3) := Lib.hid (by
        have h := HM.out
        have h2 := HR3.out
        rw [spl_end (by rw [HF.out, h.1]; exact hfe)] at h
        rw [← h.2.2]
        have e : m.take f = m := List.take_of_length_le (by rw [h.1]; omega)
        rw [e] at h2
        exact h2)
      clear hfe
      go_wp2_with fail
      refine bodyPost_ret (results_none rfl _ _ _) rfl ?_
      exact ⟨rfl, HFIN.out⟩
    · have hfj : ((f : Int) == (j : Int)) = false := by rw [beq_eq_false_iff_ne]; omega
      have hw : IntKind.i64.wrap ((f : Int) + 1) = ((f : Int) + 1) := IntWalk.i64_in _ (by omega)
      obtain ⟨a4, s1', s2', s3', s5', s4'⟩ := sl_from a1 m c1 j (f + 1) HM.out.1 ((f : Int) + 1) (by omega) (by omega) hj (by unfold maxLen; omega)
      have HM2 : Hid ((m.drop (f + 1)).length = j - (f + 1) ∧ (∀ W', Below w0.heap.size w0 W' → Tks W' a4 (m.drop (f + 1))) ∧ (done ++ [m.take f]) ++ spl (kindB k) (m.drop (f + 1)) = spl (kindB k) l) := Lib.hid ⟨s2', fun W' hW => s4' _ (HM.out.2.1 W' hW), by
        have h := HM.out
        have e := spl_cut (p := kindB k) (l := m) (by rw [HF.out, h.1]; omega)
        rw [HF.out] at e
        rw [← h.2.2, e]
        simp⟩
      have hfl : (f : Int) + 1 ≤ (j : Int) := by omega
      clear s2' s4' hfe
      go_wp2_with fail
      go_roundw
      case rel => exact ⟨a4, _, j - (f + 1), c1 - (f + 1), _, by go_num, by omega, by omega, by omega, HM2, HR3, HX3⟩
      case measure => simp [lenV]; omega
end Go.Proofs.YtfbfndknhabmhaaGreat

namespace Go.Proofs.YtfbfndknhabmhaaGreat
open Go.RowKit TreN LexP FixP SynP
set_option linter.unusedVariables false

/-- a declaration in memory -/
structure DecV where
  d : Dec
  a : Option Addr
  cap : Nat
def dcs : List DecV → List Value
  | [] => []
  | x :: r => .string ⟨x.d.name.toArray⟩ :: .slice x.a x.d.value.length x.cap :: .bool x.d.imp :: dcs r
theorem dcs_length : ∀ l, (dcs l).length = l.length * 3
  | [] => rfl
  | x :: l => by simp only [dcs, List.length_cons, dcs_length l]; omega
theorem dcs_append : ∀ l m, dcs (l ++ m) = dcs l ++ dcs m
  | [], m => rfl
  | x :: l, m => by simp only [List.cons_append, dcs, dcs_append l m]
theorem dcs_one : ∀ (l : List DecV) (v : Value), v ∈ dcs l → v.oneCell' = true
  | [], v, h => by cases h
  | x :: l, v, h => by
    simp only [dcs, List.mem_cons] at h
    rcases h with rfl | rfl | rfl | h
    · rfl
    · rfl
    · rfl
    · exact dcs_one l v h
/-- its value lies apart from the row -/
def VIn (w : World) (lo : Nat) (v : Value) (x : DecV) : Prop := x.d.value.length ≤ x.cap ∧ x.cap ≤ maxLen ∧ (x.d.value = [] ∨ ∃ b o, x.a = some ⟨b, o, none⟩ ∧ lo ≤ b ∧ v.ownBlock ≠ some b ∧ b < w.heap.size ∧ TksAt w b o x.d.value)
theorem VIn.tks {w : World} {lo : Nat} {v : Value} {x : DecV} (h : VIn w lo v x) : Tks w x.a x.d.value := by
  rcases h.2.2 with h | ⟨b, o, h1, _, _, h4, h5⟩
  · exact Or.inl h
  · exact Or.inr ⟨b, o, h1, h4, h5⟩
theorem VIn.below {w w' : World} {lo : Nat} {v : Value} {x : DecV} (h : VIn w lo v x) (hb : Below w.heap.size w w') : VIn w' lo v x := by
  obtain ⟨c1, c2, h⟩ := h
  refine ⟨c1, c2, ?_⟩
  rcases h with h | ⟨b, o, h1, h2, h3, h4, h5⟩
  · exact Or.inl h
  · exact Or.inr ⟨b, o, h1, h2, h3, Nat.lt_of_lt_of_le h4 hb.size, h5.below hb h4⟩
theorem VIn.moved {w w' : World} {lo P g : Nat} {v v2 : Value} {x : DecV} {u : Value} (h : VIn w lo v x) (hlo : P < lo) (hg : w.grownBy w' v.ownBlock) (hv : v2.ownBlock = some g) (hgn : v.ownBlock = some g ∨ w.heap.size ≤ g) : VIn (w'.setCell ⟨P, 0, none⟩ u) lo v2 x := by
  obtain ⟨c1, c2, h⟩ := h
  refine ⟨c1, c2, ?_⟩
  rcases h with h | ⟨b, o, h1, h2, h3, h4, h5⟩
  · exact Or.inl h
  · have hne : g ≠ b := by
      rcases hgn with q | q
      · intro e; subst e; exact h3 q
      · omega
    have hblk : (w'.setCell ⟨P, 0, none⟩ u).heap[b]? = w.heap[b]? := by
      rw [setCell_there _ (by omega)]
      exact hg.block b h4 (fun e => h3 e.symm)
    have hcell : ∀ j, (w'.setCell ⟨P, 0, none⟩ u).cell? ⟨b, j, none⟩ = w.cell? ⟨b, j, none⟩ := fun j => by
      simp only [World.cell?]
      rw [hblk]
    refine Or.inr ⟨b, o, h1, h2, by rw [hv]; intro e; injection e with e; exact hne e, by rw [setCell_size]; exact Nat.lt_of_lt_of_le h4 hg.size, fun i hi => ?_⟩
    have h6 := h5 i hi
    exact ⟨(hcell _).trans h6.kind, (hcell _).trans h6.text, (hcell _).trans h6.n⟩
theorem unmS_len (v : List Tok) : (unmS v).1.length ≤ v.length := by
  unfold unmS
  split
  · exact Nat.le_refl _
  · split
    · split
      · split
        · have h1 := trm_len (trm v.dropLast).dropLast
          have h2 := trm_len v.dropLast
          simp only [List.length_dropLast] at h1 h2
          show (trm (trm v.dropLast).dropLast).length ≤ v.length
          omega
        · exact Nat.le_refl _
      · exact Nat.le_refl _
    · exact Nat.le_refl _
theorem decS_none1 {l : List Tok} (h : trm l = []) : decS l = none := by unfold decS; rw [h]; rfl
theorem decS_eq {l : List Tok} {t : Tok} {r : List Tok} (h : trm l = t :: r) : decS l = decT (t :: r) := by unfold decS; rw [h]
theorem decT_cons (t : Tok) (r : List Tok) : decT (t :: r) = if t.kind = 1 then
      (match bs r with
      | [] => none
      | c :: q => if c.kind = 10 then
          (if (unmS (trm q)).1 = [] ∨ spoS (unmS (trm q)).1 = true then none else some ⟨t.text, (unmS (trm q)).1, (unmS (trm q)).2⟩)
        else none)
    else none := rfl
theorem decT_kind {t : Tok} {r : List Tok} (h : ¬ t.kind = 1) : decT (t :: r) = none := by rw [decT_cons, if_neg h]
theorem decT_nil {t : Tok} {r : List Tok} (h : t.kind = 1) (h2 : bs r = []) : decT (t :: r) = none := by rw [decT_cons, if_pos h, h2]
theorem decT_col {t c : Tok} {r q : List Tok} (h : t.kind = 1) (h2 : bs r = c :: q) (h3 : ¬ c.kind = 10) : decT (t :: r) = none := by rw [decT_cons, if_pos h, h2]; simp only []; rw [if_neg h3]
theorem decT_val {t c : Tok} {r q : List Tok} (h : t.kind = 1) (h2 : bs r = c :: q) (h3 : c.kind = 10) : decT (t :: r) = if (unmS (trm q)).1 = [] ∨ spoS (unmS (trm q)).1 = true then none else some ⟨t.text, (unmS (trm q)).1, (unmS (trm q)).2⟩ := by rw [decT_cons, if_pos h, h2]; simp only []; rw [if_pos h3]

theorem Tks.first {w : World} {a : Option Addr} {t : Tok} {r : List Tok} (h : Tks w a (t :: r)) : ∃ b o, a = some ⟨b, o, none⟩ ∧ b < w.heap.size ∧ TkAt w b o t := by
  obtain ⟨b, o, h1, h2, h3⟩ := h.get (i := 0) (by simp)
  exact ⟨b, o, h1, h2, by simpa using h3⟩

end Go.Proofs.YtfbfndknhabmhaaGreat
