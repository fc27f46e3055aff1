/- Layer 6: a rule. -/
import Derived.Test.YtaiommmbbajgnaaSynW5
import Derived.Outline
import Derived.BigRegion
import Derived.Laws.ResultCell
import Derived.Laws.Rows
import Derived.Laws.NewBlocks
namespace Go.Proofs.Ytaiommmbbajgnaa
open Go.RowKit TreN LexP FixP SynP
set_option linter.unusedVariables false

set_option maxRecDepth 100000 in
set_option maxHeartbeats 1000000 in
theorem rule1_any (ab : Bool) (g : Nat) (t : Tok) (w : World) (h : w.cell? ⟨g, 0, none⟩ = some (.bool ab)) : Calls Try.prog 39 #[t.val, .pointer (some ⟨g, 0, none⟩)] w fun e w' => e = .returned (.bool (stopB ab t)) ∧ Below w.heap.size w w' := by
  obtain ⟨kt, x, n⟩ := t
  have hx : stopB ab ⟨kt, x, n⟩ = (decide (kt = 17) || (ab && decide (kt = 11))) := rfl
  rw [hx]
  unfold LexP.Tok.val
  have hb : Below w.heap.size w (w.alloc (.cells #[.int .i64 kt, .string ⟨x.toArray⟩, .int .i64 n] 29)) := (Below.refl _ _).alloc (Nat.le_refl _) _
  have h2 : (w.alloc (.cells #[.int .i64 kt, .string ⟨x.toArray⟩, .int .i64 n] 29)).cell? ⟨g, 0, none⟩ = some (.bool ab) := (hb.cell (World.block_lt_of_cell? w _ h)).trans h
  have HB := Lib.hid hb
  clear hb hx
  by_cases hk : kt = 17
  · subst hk
    go_enter Try.func39, Try.ntmps39
    go_wp2_with fail
    go_ret
    exact ⟨rfl, HB.out⟩
  · have hkz : (kt == 17) = false := by rw [beq_eq_false_iff_ne]; exact hk
    have hkd : decide (kt = 17) = false := by simpa using hk
    rw [hkd, Bool.false_or]
    clear hkd
    cases ab
    · go_enter Try.func39, Try.ntmps39
      go_wp2_with fail
      go_ret
      exact ⟨rfl, HB.out⟩
    · go_enter Try.func39, Try.ntmps39
      go_wp2_with fail
      go_ret
      exact ⟨ret_bool (by rw [Bool.eq_iff_iff]; simp), HB.out⟩
theorem enters_rule1 : ∀ args w, (callFunc 39 args).run Try.prog w = .ok (.enter 39 args) w := enters_of Try.func39 (by kernel_rfl) rfl

theorem run_imin {P : Program} (w : World) (ts : Array TypeId) (t : TypeId) (x y z : Int) (h : (if y < x then y else x) = z) :
    (Builtin.min_ ts t #[.int .i64 x, .int .i64 y]).run P w = .ok (.int .i64 z) w := by
  subst h; rfl
/-- what rule keeps: its answer H, its rule H + 1, whether it has an At H + 2 -/
structure RB (w0 : World) (H : Nat) (x0 x1 x2 x3 : Value) (ab : Bool) (w : World) : Prop where
  res : w.heap[H]? = some (.cells #[.string ⟨#[]⟩, .slice none 0 0, .slice none 0 0, .bool false] 41 (0, 0))
  rul : w.heap[H + 1]? = some (.cells #[x0, x1, x2, x3] 41 (0, 0))
  box : w.heap[H + 2]? = some (.cells #[.bool ab] 4 (0, 0))
  bel : Below w0.heap.size w0 w
  base : w0.heap.size = H
theorem blk_keepR {W w2 : World} {b : Nat} {o : Obj} (hb : Below W.heap.size W w2) (h : W.heap[b]? = some o) : w2.heap[b]? = some o := by
  obtain ⟨hlt, _⟩ := Array.getElem?_eq_some_iff.1 h
  exact (hb.block b hlt).trans h
theorem RB.keep {w0 : World} {H : Nat} {x0 x1 x2 x3 : Value} {ab : Bool} {w w' : World} (h : RB w0 H x0 x1 x2 x3 ab w) (hb : Below w.heap.size w w') : RB w0 H x0 x1 x2 x3 ab w' :=
  ⟨blk_keepR hb h.res, blk_keepR hb h.rul, blk_keepR hb h.box, h.bel.trans (hb.mono h.bel.size), h.base⟩
theorem RB.set0 {w0 : World} {H : Nat} {x0 x1 x2 x3 : Value} {ab : Bool} {w : World} (h : RB w0 H x0 x1 x2 x3 ab w) (v : Value) : RB w0 H v x1 x2 x3 ab (w.setCell ⟨H + 1, 0, none⟩ v) :=
  ⟨by rw [setCell_there _ (by omega)]; exact h.res, setCell_here (k := 0) v h.rul, by rw [setCell_there _ (by omega)]; exact h.box, h.bel.setCell (p := ⟨H + 1, 0, none⟩) (by show w0.heap.size ≤ H + 1; have := h.base; omega) v, h.base⟩
theorem RB.set1 {w0 : World} {H : Nat} {x0 x1 x2 x3 : Value} {ab : Bool} {w : World} (h : RB w0 H x0 x1 x2 x3 ab w) (v : Value) : RB w0 H x0 v x2 x3 ab (w.setCell ⟨H + 1, 1, none⟩ v) :=
  ⟨by rw [setCell_there _ (by omega)]; exact h.res, setCell_here (k := 1) v h.rul, by rw [setCell_there _ (by omega)]; exact h.box, h.bel.setCell (p := ⟨H + 1, 1, none⟩) (by show w0.heap.size ≤ H + 1; have := h.base; omega) v, h.base⟩
theorem RB.set2 {w0 : World} {H : Nat} {x0 x1 x2 x3 : Value} {ab : Bool} {w : World} (h : RB w0 H x0 x1 x2 x3 ab w) (v : Value) : RB w0 H x0 x1 v x3 ab (w.setCell ⟨H + 1, 2, none⟩ v) :=
  ⟨by rw [setCell_there _ (by omega)]; exact h.res, setCell_here (k := 2) v h.rul, by rw [setCell_there _ (by omega)]; exact h.box, h.bel.setCell (p := ⟨H + 1, 2, none⟩) (by show w0.heap.size ≤ H + 1; have := h.base; omega) v, h.base⟩
theorem RB.set3 {w0 : World} {H : Nat} {x0 x1 x2 x3 : Value} {ab : Bool} {w : World} (h : RB w0 H x0 x1 x2 x3 ab w) (v : Value) : RB w0 H x0 x1 x2 v ab (w.setCell ⟨H + 1, 3, none⟩ v) :=
  ⟨by rw [setCell_there _ (by omega)]; exact h.res, setCell_here (k := 3) v h.rul, by rw [setCell_there _ (by omega)]; exact h.box, h.bel.setCell (p := ⟨H + 1, 3, none⟩) (by show w0.heap.size ≤ H + 1; have := h.base; omega) v, h.base⟩
def z4 : Obj := .cells #[.string ⟨#[]⟩, .slice none 0 0, .slice none 0 0, .bool false] 41
theorem RB.start (w : World) (ab : Bool) : RB w w.heap.size (.string ⟨#[]⟩) (.slice none 0 0) (.slice none 0 0) (.bool false) ab (((w.alloc z4).alloc z4).alloc (.cells #[.bool ab] 4)) := by
  refine ⟨?_, ?_, ?_, (((Below.refl _ _).alloc (Nat.le_refl _) _).alloc (by simp) _).alloc (by simp; omega) _, rfl⟩
  · rw [Below.heap_alloc _ _ _ (by simp; omega), Below.heap_alloc _ _ _ (by simp)]; exact heap_alloc_new w _
  · rw [Below.heap_alloc _ _ _ (by simp)]
    have := heap_alloc_new (w.alloc z4) z4
    rw [show (w.alloc z4).heap.size = w.heap.size + 1 by simp] at this
    exact this
  · have := heap_alloc_new ((w.alloc z4).alloc z4) (.cells #[.bool ab] 4)
    rw [show ((w.alloc z4).alloc z4).heap.size = w.heap.size + 2 by simp] at this
    exact this

/-- a slice of tokens that lies at lo or above -/
def FrT (lo : Nat) (w : World) (a : Option Addr) (c : Nat) (l : List Tok) : Prop := l.length ≤ c ∧ c ≤ maxLen ∧ (l = [] ∨ ∃ b o, a = some ⟨b, o, none⟩ ∧ lo ≤ b ∧ b < w.heap.size ∧ TksAt w b o l)
theorem FrT.tks {lo : Nat} {w : World} {a : Option Addr} {c : Nat} {l : List Tok} (h : FrT lo w a c l) : Tks w a l := by
  rcases h.2.2 with h | ⟨b, o, h1, _, h4, h5⟩
  · exact Or.inl h
  · exact Or.inr ⟨b, o, h1, h4, h5⟩
theorem FrT.nil (lo : Nat) (w : World) : FrT lo w none 0 [] := ⟨Nat.le_refl _, Nat.zero_le _, Or.inl rfl⟩
theorem FrT.made {lo : Nat} {w0 w : World} {a : Option Addr} {c n : Nat} {l : List Tok} (hn : l.length = n) (h1 : n ≤ c) (h2 : c ≤ maxLen) (hT : Tks w a l) (hf : l ≠ [] → ∃ b o, a = some ⟨b, o, none⟩ ∧ w0.heap.size ≤ b) (hlo : lo ≤ w0.heap.size) : FrT lo w a c l := by
  refine ⟨by omega, h2, ?_⟩
  rcases hT with h | ⟨b, o, h3, h4, h5⟩
  · exact Or.inl h
  · by_cases hn : l = []
    · exact Or.inl hn
    · obtain ⟨b2, o2, e, hle⟩ := hf hn
      rw [h3] at e
      injection e with e; injection e with e1 e2
      subst e1
      exact Or.inr ⟨b, o, h3, by omega, h4, h5⟩
theorem FrT.below {lo : Nat} {w w' : World} {a : Option Addr} {c : Nat} {l : List Tok} (h : FrT lo w a c l) (hb : Below w.heap.size w w') : FrT lo w' a c l := by
  obtain ⟨c1, c2, h⟩ := h
  refine ⟨c1, c2, ?_⟩
  rcases h with h | ⟨b, o, h1, h2, h4, h5⟩
  · exact Or.inl h
  · exact Or.inr ⟨b, o, h1, h2, Nat.lt_of_lt_of_le h4 hb.size, h5.below hb h4⟩
theorem FrT.set {lo : Nat} {w : World} {a : Option Addr} {c : Nat} {l : List Tok} (h : FrT lo w a c l) {P k : Nat} (hP : P < lo) (u : Value) : FrT lo (w.setCell ⟨P, k, none⟩ u) a c l := by
  obtain ⟨c1, c2, h⟩ := h
  refine ⟨c1, c2, ?_⟩
  rcases h with h | ⟨b, o, h1, h2, h4, h5⟩
  · exact Or.inl h
  · have hcell : ∀ j, (w.setCell ⟨P, k, none⟩ u).cell? ⟨b, j, none⟩ = w.cell? ⟨b, j, none⟩ := fun j => by
      simp only [World.cell?]
      rw [setCell_there _ (by show b ≠ P; omega)]
    refine Or.inr ⟨b, o, h1, h2, by rw [setCell_size]; exact h4, fun i hi => ?_⟩
    have h6 := h5 i hi
    exact ⟨(hcell _).trans h6.kind, (hcell _).trans h6.text, (hcell _).trans h6.n⟩
def RuIs (lo : Nat) (w : World) (a0 : Option Addr) (l : List Tok) (R : Rul × Nat) (e : Ending) (w' : World) : Prop :=
  (∃ ah ch ab cb a3 c3, e = .returned (.tuple #[.agg #[.string ⟨R.1.att.toArray⟩, .slice ah R.1.head.length ch, .slice ab R.1.body.length cb, .bool R.1.block], .slice a3 (l.drop R.2).length c3]) ∧
    FrT lo w' ah ch R.1.head ∧ FrT lo w' ab cb R.1.body ∧ (l.drop R.2).length ≤ c3 ∧ c3 ≤ maxLen ∧ ∀ W, Tks W a0 l → Tks W a3 (l.drop R.2)) ∧ Below w.heap.size w w'
theorem rule_fin {w W5 : World} {H : Nat} {x0 x1 x2 x3 : Value} {ab : Bool} (hR : RB w H x0 x1 x2 x3 ab W5) (v0 v1 v2 v3 : Value) :
    Below w.heap.size w ((((W5.setCell ⟨H, 0, none⟩ v0).setCell ⟨H, 1, none⟩ v1).setCell ⟨H, 2, none⟩ v2).setCell ⟨H, 3, none⟩ v3).drew ∧ (∀ a c m, FrT (H + 3) W5 a c m → FrT (H + 3) ((((W5.setCell ⟨H, 0, none⟩ v0).setCell ⟨H, 1, none⟩ v1).setCell ⟨H, 2, none⟩ v2).setCell ⟨H, 3, none⟩ v3).drew a c m) ∧ ((((W5.setCell ⟨H, 0, none⟩ v0).setCell ⟨H, 1, none⟩ v1).setCell ⟨H, 2, none⟩ v2).setCell ⟨H, 3, none⟩ v3).drew.heap[H]? = some (.cells #[v0, v1, v2, v3] 41 (0, 0)) := by
  have hH : w.heap.size ≤ H := by have := hR.base; omega
  refine ⟨((((hR.bel.setCell (p := ⟨H, 0, none⟩) hH v0).setCell (p := ⟨H, 1, none⟩) hH v1).setCell (p := ⟨H, 2, none⟩) hH v2).setCell (p := ⟨H, 3, none⟩) hH v3).drew, fun a c m h => ?_, setCell_here (k := 3) v3 (setCell_here (k := 2) v2 (setCell_here (k := 1) v1 (setCell_here (k := 0) v0 hR.res)))⟩
  exact ((((h.set (P := H) (k := 0) (by omega) v0).set (P := H) (k := 1) (by omega) v1).set (P := H) (k := 2) (by omega) v2).set (P := H) (k := 3) (by omega) v3).below (Below.refl _ _).drew
theorem raw_und : ∃ d, Try.prog.underlying 41 = some d ∧ (match d with | .struct _ | .array _ _ => true | _ => false) = true := by
  have this : (Try.prog.underlying 41).map (fun d => match d with | .struct _ | .array _ _ => true | _ => false) = some true := by kernel_rfl
  cases h : Try.prog.underlying 41 with
  | none => rw [h] at this; cases this
  | some d => rw [h] at this; injection this with this; exact ⟨d, rfl, this⟩
theorem results_rule (tmps : Array Value) (w : World) (H : Nat) (x0 x1 x2 x3 u : Value) (hp : tmps.getD 2 undef = .pointer (some ⟨H, 0, none⟩)) (hu : tmps.getD 3 undef = u) (hg : w.heap[H]? = some (.cells #[x0, x1, x2, x3] 41 (0, 0))) :
    (results Try.f27 tmps).run Try.prog w = .ok (.tuple #[.agg #[x0, x1, x2, x3], u]) w := by
  obtain ⟨d, hd1, hd2⟩ := raw_und
  rw [results_cell_tmp (p := 2) (ty := 41) (u := 3) rfl, hp, hu]
  simp only [asAddr, Sem.run_pure, Result.andThen_ok, run_loadVar_row w H 41 41 _ (0, 0) d hg hd1 (by cases d <;> first | rfl | cases hd2) (by kernel_rfl)]
theorem RB.size3 {w W : World} {H : Nat} {x0 x1 x2 x3 : Value} {ab : Bool} (h : RB w H x0 x1 x2 x3 ab W) : H + 3 ≤ W.heap.size := by
  obtain ⟨hlt, _⟩ := Array.getElem?_eq_some_iff.1 h.box
  omega
theorem rulT_end {att : List UInt8} {ab : Bool} {l : List Tok} (h : fst (stopB ab) l = l.length) : rulT att ab l = (⟨att, trm (l.take l.length), [], false⟩, l.length) := by
  unfold rulT
  simp only [h, List.getElem?_eq_none (Nat.le_refl _)]
theorem rulT_open {att : List UInt8} {ab : Bool} {l : List Tok} {e : Nat} (h : fst (stopB ab) l = e) (he : e < l.length) (hk : l[e].kind = 17) : rulT att ab l = (⟨att, trm (l.take e), (l.take (mtc l e)).drop (e + 1), true⟩, min (mtc l e + 1) l.length) := by
  unfold rulT
  simp only [h, List.getElem?_eq_getElem he, hk, if_true]
theorem rulT_semi {att : List UInt8} {ab : Bool} {l : List Tok} {e : Nat} (h : fst (stopB ab) l = e) (he : e < l.length) (hk : ¬ l[e].kind = 17) : rulT att ab l = (⟨att, trm (l.take e), [], false⟩, e + 1) := by
  unfold rulT
  simp only [h, List.getElem?_eq_getElem he, hk, if_false]
theorem mtc_open {l : List Tok} {k : Nat} (h : k < l.length) (hk : l[k].kind = 17) : k + 1 ≤ mtc l k ∧ mtc l k ≤ l.length := by
  have hc : clo l[k].kind ≠ 0 := by rw [hk]; decide
  refine ⟨?_, (mtc_bd h).2⟩
  cases hm : mt (l.drop (k + 1)) [clo l[k].kind] with
  | some d => rw [mtc_some h hc hm]; omega
  | none => rw [mtc_end h hc hm]; omega

set_option maxRecDepth 100000 in
set_option maxHeartbeats 4000000 in
theorem rule_no (b o n cap : Nat) (l : List Tok) (t : Tok) (r : List Tok) (w : World) (hl : l = t :: r) (hn : l.length = n) (h1 : n ≤ cap) (h2 : cap ≤ maxLen) (hl9 : n ≤ 90000) (hT : Tks w (some ⟨b, o, none⟩) l) (hk : ¬ t.kind = 3) :
    Calls Try.prog 27 #[.slice (some ⟨b, o, none⟩) n cap] w fun e w' => RuIs (w.heap.size + 3) w (some ⟨b, o, none⟩) l (rulS l) e w' := by
  have hmf : ∀ (fn : Fn) (first cap : Array Value) (w : World), (Instr.makeFunc fn first cap).run Try.prog w = .ok (.func fn first cap) w := fun _ _ _ _ => rfl
  have hru : rulS l = rulT [] false l := by rw [hl]; exact if_neg hk
  rw [hru]
  obtain ⟨R, hRR⟩ : ∃ x, rulT [] false l = x := ⟨_, rfl⟩
  rw [hRR]
  have HRR := Lib.hid hRR
  clear hru hRR
  have hn0 : (0 : Int) < (n : Int) := by rw [← hn, hl]; simp
  have hn1 : 0 < n := by omega
  obtain ⟨_, _, e0, hb0, k0⟩ := (show Tks w (some ⟨b, o, none⟩) (t :: r) by rw [← hl]; exact hT).get (i := 0) (by simp)
  injection e0 with e0; injection e0 with e1 e2; subst e1; subst e2
  have h0 : w.cell? ⟨b, o, none⟩ = some (.int .i64 t.kind) := by simpa using k0.kind
  have hkz : (t.kind == 3) = false := by rw [beq_eq_false_iff_ne]; exact hk
  generalize t.kind = tk at *
  have h02 : ∀ o1 o2, ((w.alloc o1).alloc o2).cell? ⟨b, o, none⟩ = some (.int .i64 tk) := fun o1 o2 => by
    have h01 := (((Below.refl w.heap.size w).alloc (Nat.le_refl _) o1).cell (World.block_lt_of_cell? _ _ h0)).trans h0
    exact (((Below.refl _ (w.alloc o1)).alloc (Nat.le_refl _) o2).cell (World.block_lt_of_cell? _ _ h01)).trans h01
  have hst := RB.start w false
  have hTW : ∀ W', Below w.heap.size w W' → Tks W' (some ⟨b, o, none⟩) l := fun W' hW => hT.below hW
  have HTW := Lib.hid hTW
  obtain ⟨H, hH⟩ : ∃ H, w.heap.size = H := ⟨_, rfl⟩
  rw [hH] at hst
  have HST := Lib.hid hst
  -- the contracts
  have hF := fun (W : World) (hR : RB w H (.string ⟨#[]⟩) (.slice none 0 0) (.slice none 0 0) (.bool false) false W) => first_any 39 #[.pointer (some ⟨H + 2, 0, none⟩)] (stopB false) enters_rule1 (some ⟨b, o, none⟩) l cap W (fun t _ W' hW => rule1_any false (H + 2) t W' (cell_of (blk_keepR hW hR.box) rfl)) (by omega) (hTW W hR.bel)
  obtain ⟨e, he⟩ : ∃ e, fst (stopB false) l = e := ⟨_, rfl⟩
  have HE := Lib.hid he
  have heb := fst_bd (stopB false) l
  rw [he, hn] at heb
  simp only [he, hn] at hF
  have HF := Lib.hid hF
  obtain ⟨a2, s1, s2, s3, s4⟩ := sl_to (some ⟨b, o, none⟩) l cap n e hn (e : Int) rfl heb h1 h2
  have hTr := fun (W : World) (hW : Below w.heap.size w W) => trimmed_any a2 (l.take e) cap W (by rw [s2]; exact s3) h2 (s4 W (hTW W hW))
  obtain ⟨hd, hhd⟩ : ∃ x, trm (l.take e) = x := ⟨_, rfl⟩
  have HHD := Lib.hid hhd
  have hhl := trm_len (l.take e)
  rw [hhd, s2] at hhl
  simp only [hhd, s2] at hTr
  have HTr := Lib.hid hTr
  have HCl := Lib.hid fun (W : World) (a : Option Addr) (c : Nat) (hT : Tks W a hd) => clone_toks a hd c W (by omega) hT
  obtain ⟨nh, hnh⟩ : ∃ x, hd.length = x := ⟨_, rfl⟩
  have HNH := Lib.hid hnh
  simp only [hnh] at HCl
  have hez : (e : Int) ≤ (n : Int) := by omega
  have hez2 : (e : Int) ≤ (cap : Int) := by omega
  clear hst hF hTr hhd hhl hnh s2 s4 he hT hTW k0 hk hb0
  go_enter Try.func27, Try.ntmps27
  go_wp2_with fail
  obtain ⟨W1, hW1⟩ : ∃ W1, ((w.alloc (.cells #[.string ⟨#[]⟩, .slice none 0 0, .slice none 0 0, .bool false] 41)).alloc (.cells #[.string ⟨#[]⟩, .slice none 0 0, .slice none 0 0, .bool false] 41)).alloc (.cells #[.bool false] 4) = W1 := ⟨_, rfl⟩
  have hR1 : RB w H (.string ⟨#[]⟩) (.slice none 0 0) (.slice none 0 0) (.bool false) false W1 := by rw [← hW1]; exact HST.out
  have HR1 := Lib.hid hR1
  rw [hW1]
  clear hR1 hW1 h02 h0
  refine (HF.out W1 HR1.out).mono ?_
  rintro e' w2 ⟨rfl, hb2⟩
  have HR2 := Lib.hid (HR1.out.keep hb2)
  clear hb2 HR1 HF
  go_wp2_with fail
  refine (HTr.out w2 HR2.out.bel).mono ?_
  rintro e' w3 ⟨⟨a3, c3, hv, hc1, hc2, hT3⟩, rfl⟩
  rw [HNH.out] at hv hc1
  subst hv
  have X := Lib.hid (HCl.out w2 a3 c3 hT3)
  clear hT3 HTr
  go_wp2_with fail
  refine X.out.mono ?_
  rintro e' w4 ⟨⟨a4, c4, rfl, g1, g2, g3, g4⟩, hb4⟩
  have HR4 := Lib.hid (HR2.out.keep hb4)
  have G4 := Lib.hid (And.intro g1 (And.intro g2 (And.intro g3 g4)))
  have q1 : w4.cell? ⟨H + 1, 1, none⟩ = some (.slice none 0 0) := cell_of HR4.out.rul rfl
  have q2 : w4.frozen? ⟨H + 1, 1, none⟩ = false := unfrozen_of HR4.out.rul
  clear hb4 g1 g2 g3 g4 X
  obtain ⟨W5, hW5⟩ : ∃ W5, w4.setCell ⟨H + 1, 1, none⟩ (.slice a4 nh c4) = W5 := ⟨_, rfl⟩
  have HR5 : Hid (RB w H (.string ⟨#[]⟩) (.slice a4 nh c4) (.slice none 0 0) (.bool false) false W5) := Lib.hid (by rw [← hW5]; exact HR4.out.set1 _)
  have HF5 : Hid (FrT (H + 3) W5 a4 c4 hd) := Lib.hid (by
    rw [← hW5]
    exact (FrT.made HNH.out G4.out.1 G4.out.2.1 G4.out.2.2.1 G4.out.2.2.2 HR2.out.size3).set (by omega) _)
  by_cases hen : e = n
  · subst hen
    go_wp2_with fail
    clear hW5 q1 q2 HR4 HST
    have x0 : W5.cell? ⟨H + 1, 0, none⟩ = some (.string ⟨#[]⟩) := cell_of HR5.out.rul rfl
    have x1 : W5.cell? ⟨H + 1, 1, none⟩ = some (.slice a4 nh c4) := cell_of HR5.out.rul rfl
    have x2 : W5.cell? ⟨H + 1, 2, none⟩ = some (.slice none 0 0) := cell_of HR5.out.rul rfl
    have x3 : W5.cell? ⟨H + 1, 3, none⟩ = some (.bool false) := cell_of HR5.out.rul rfl
    have y0 : W5.cell? ⟨H, 0, none⟩ = some (.string ⟨#[]⟩) := cell_of HR5.out.res rfl
    have y1 : W5.cell? ⟨H, 1, none⟩ = some (.slice none 0 0) := cell_of HR5.out.res rfl
    have y2 : W5.cell? ⟨H, 2, none⟩ = some (.slice none 0 0) := cell_of HR5.out.res rfl
    have y3 : W5.cell? ⟨H, 3, none⟩ = some (.bool false) := cell_of HR5.out.res rfl
    have yf : ∀ k, W5.frozen? ⟨H, k, none⟩ = false := fun k => unfrozen_of HR5.out.res
    obtain ⟨a5, u1, u2, u3, u5, u4⟩ := sl_from (some ⟨b, o, none⟩) l cap e e hn (e : Int) rfl (by omega) h1 h2
    have r1 : ∀ (W : World) (ts : Array TypeId) (t : TypeId), (Builtin.min_ ts t #[.int .i64 ((e : Int) + 1), .int .i64 (e : Int)]).run Try.prog W = .ok (.int .i64 (e : Int)) W := fun W ts t => run_imin W ts t _ _ _ (if_pos (by omega))
    go_big_region
    go_wp2_with fail
    obtain ⟨f1, f2, f3⟩ := rule_fin HR5.out (.string ⟨#[]⟩) (.slice a4 nh c4) (.slice none 0 0) (.bool false)
    refine bodyPost_ret_by (results_rule _ _ H _ _ _ _ _ rfl rfl f3) rfl ?_
    have hRv := HRR.out
    rw [rulT_end (by rw [HE.out, hn]), hn, HHD.out] at hRv
    rw [← hRv, hH]
    refine ⟨⟨a4, c4, none, 0, a5, cap - e, ?_, ?_, FrT.nil _ _, ?_, u5, ?_⟩, f1⟩
    · show _ = Ending.returned (.tuple #[.agg #[.string ⟨#[]⟩, .slice a4 hd.length c4, .slice none 0 0, .bool false], .slice a5 (l.drop e).length (cap - e)])
      rw [HNH.out, u2, Nat.sub_self]
      rfl
    · exact f2 _ _ _ (HF5.out)
    · rw [u2]; exact u3
    · exact u4
  · have hlt : e < n := by omega
    have hltz : (e : Int) < (n : Int) := by omega
    have hlt2 : e < l.length := by omega
    have hk17 : l[e].kind = 17 := by
      have := fst_hit (stopB false) _ l (Nat.le_refl _) (by rw [HE.out]; exact hlt2)
      simp only [HE.out] at this
      simpa [stopB] using this
    have hrt := rulT_open (att := []) HE.out hlt2 hk17
    have hmb := mtc_open hlt2 hk17
    have HM := Lib.hid (fun W hW => Match_at (some ⟨b, o, none⟩) l n cap e W hn (by omega) hlt (HTW.out W hW))
    obtain ⟨m, hm⟩ : ∃ m, mtc l e = m := ⟨_, rfl⟩
    rw [hm] at hmb hrt
    simp only [hm] at HM
    rw [hn] at hmb
    obtain ⟨a6, v1, v2, v3, v5, v4⟩ := sl_mid (some ⟨b, o, none⟩) l cap n (e + 1) m hn ((e : Int) + 1) (m : Int) (by omega) rfl hmb.1 hmb.2 h1 h2
    have HV4 := Lib.hid v4
    obtain ⟨bd, hbd⟩ : ∃ x, (l.take m).drop (e + 1) = x := ⟨_, rfl⟩
    rw [hbd] at hrt v2
    simp only [hbd] at HV4
    have HV2 := Lib.hid v2
    have HC2 := Lib.hid fun (W : World) (hT : Tks W a6 bd) => clone_toks a6 bd (cap - (e + 1)) W (by omega) hT
    simp only [v2] at HC2
    obtain ⟨M, hM⟩ : ∃ M, min (m + 1) n = M := ⟨_, rfl⟩
    rw [hn, hM] at hrt
    have hMn : M ≤ n := by omega
    obtain ⟨a5, u1, u2, u3, u5, u4⟩ := sl_from (some ⟨b, o, none⟩) l cap n M hn (M : Int) rfl hMn h1 h2
    have HU := Lib.hid (And.intro u2 (And.intro u3 u4))
    have HRT := Lib.hid hrt
    obtain ⟨_, _, ee, _, kk⟩ := (HTW.out W5 HR5.out.bel).get hlt2
    injection ee with ee; injection ee with e1 e2; subst e1; subst e2
    have d0 : W5.cell? ⟨b, o + e * 3, none⟩ = some (.int .i64 17) := by rw [← hk17]; exact kk.kind
    have hme : (e : Int) + 1 ≤ (m : Int) := by omega
    have hmn : (m : Int) ≤ (n : Int) := by omega
    have hmc : (m : Int) ≤ (cap : Int) := by omega
    have r1 : ∀ (W : World) (ts : Array TypeId) (t : TypeId), (Builtin.min_ ts t #[.int .i64 ((m : Int) + 1), .int .i64 (n : Int)]).run Try.prog W = .ok (.int .i64 (M : Int)) W := fun W ts t => run_imin W ts t _ _ _ (by split <;> omega)
    clear hrt v2 v4 u2 u3 u4 kk hk17 hm hbd hM
    go_wp2_with fail
    refine (HM.out W5 HR5.out.bel).mono ?_
    rintro e' w6 ⟨rfl, hb6⟩
    have HR6 := Lib.hid (HR5.out.keep hb6)
    have HF6 := Lib.hid (HF5.out.below hb6)
    clear hb6 HM hW5 q1 q2 d0 HST
    go_wp2_with fail
    refine (HC2.out w6 (HV4.out w6 (HTW.out w6 HR6.out.bel))).mono ?_
    rintro e' w7 ⟨⟨a7, c7, rfl, g1, g2, g3, g4⟩, hb7⟩
    have HR7 := Lib.hid (HR6.out.keep hb7)
    have HF7 := Lib.hid (HF6.out.below hb7)
    have HG7 : Hid (FrT (H + 3) w7 a7 c7 bd) := Lib.hid (FrT.made HV2.out g1 g2 g3 g4 HR6.out.size3)
    obtain ⟨nb, hnb⟩ : ∃ x, m - (e + 1) = x := ⟨_, rfl⟩
    have HNB := Lib.hid hnb
    simp only [hnb]
    have q1 : w7.cell? ⟨H + 1, 2, none⟩ = some (.slice none 0 0) := cell_of HR7.out.rul rfl
    have q3 : w7.cell? ⟨H + 1, 3, none⟩ = some (.bool false) := cell_of HR7.out.rul rfl
    have q2 : ∀ k, w7.frozen? ⟨H + 1, k, none⟩ = false := fun k => unfrozen_of HR7.out.rul
    obtain ⟨W8, hW8⟩ : ∃ W8, (w7.setCell ⟨H + 1, 2, none⟩ (.slice a7 nb c7)).setCell ⟨H + 1, 3, none⟩ (.bool true) = W8 := ⟨_, rfl⟩
    have HR8 : Hid (RB w H (.string ⟨#[]⟩) (.slice a4 nh c4) (.slice a7 nb c7) (.bool true) false W8) := Lib.hid (by rw [← hW8]; exact (HR7.out.set2 _).set3 _)
    have HF8 : Hid (FrT (H + 3) W8 a4 c4 hd) := Lib.hid (by rw [← hW8]; exact (HF7.out.set (by omega) _).set (by omega) _)
    have HG8 : Hid (FrT (H + 3) W8 a7 c7 bd) := Lib.hid (by rw [← hW8]; exact (HG7.out.set (by omega) _).set (by omega) _)
    clear hb7 g1 g2 g3 g4 HR6 HF6 HC2 HV4 hnb
    go_wp2_with fail
    have x0 : W8.cell? ⟨H + 1, 0, none⟩ = some (.string ⟨#[]⟩) := cell_of HR8.out.rul rfl
    have x1 : W8.cell? ⟨H + 1, 1, none⟩ = some (.slice a4 nh c4) := cell_of HR8.out.rul rfl
    have x2 : W8.cell? ⟨H + 1, 2, none⟩ = some (.slice a7 nb c7) := cell_of HR8.out.rul rfl
    have x3 : W8.cell? ⟨H + 1, 3, none⟩ = some (.bool true) := cell_of HR8.out.rul rfl
    have y0 : W8.cell? ⟨H, 0, none⟩ = some (.string ⟨#[]⟩) := cell_of HR8.out.res rfl
    have y1 : W8.cell? ⟨H, 1, none⟩ = some (.slice none 0 0) := cell_of HR8.out.res rfl
    have y2 : W8.cell? ⟨H, 2, none⟩ = some (.slice none 0 0) := cell_of HR8.out.res rfl
    have y3 : W8.cell? ⟨H, 3, none⟩ = some (.bool false) := cell_of HR8.out.res rfl
    have yf : ∀ k, W8.frozen? ⟨H, k, none⟩ = false := fun k => unfrozen_of HR8.out.res
    clear hW8 q1 q2 q3
    go_big_region
    go_wp2_with fail
    obtain ⟨f1, f2, f3⟩ := rule_fin HR8.out (.string ⟨#[]⟩) (.slice a4 nh c4) (.slice a7 nb c7) (.bool true)
    refine bodyPost_ret_by (results_rule _ _ H _ _ _ _ _ rfl rfl f3) rfl ?_
    have hRv := HRR.out
    rw [HRT.out, HHD.out] at hRv
    rw [← hRv, hH]
    refine ⟨⟨a4, c4, a7, c7, a5, cap - M, ?_, ?_, ?_, ?_, u5, ?_⟩, f1⟩
    · show _ = Ending.returned (.tuple #[.agg #[.string ⟨#[]⟩, .slice a4 hd.length c4, .slice a7 bd.length c7, .bool true], .slice a5 (l.drop M).length (cap - M)])
      rw [HNH.out, HU.out.1, HV2.out, HNB.out]
      rfl
    · exact f2 _ _ _ (HF8.out)
    · exact f2 _ _ _ (HG8.out)
    · rw [HU.out.1]; exact HU.out.2.1
    · exact HU.out.2.2
end Go.Proofs.Ytaiommmbbajgnaa
