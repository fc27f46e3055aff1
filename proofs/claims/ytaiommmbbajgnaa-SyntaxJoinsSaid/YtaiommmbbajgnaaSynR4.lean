/- Layer 6's reference: Decl. -/
import Derived.Test.YtaiommmbbajgnaaSynQ
import Derived.Test.YtaiommmbbajgnaaSynR3
import Derived.Test.YtaiommmbbajgnaaSynW7
import Derived.Deep.RegionWith
import Derived.Deep.DeepCutAuto
namespace Go.Proofs.Ytaiommmbbajgnaa
open Go.RowKit TreN LexP FixP SynP
set_option linter.unusedVariables false

theorem trm_snoc {m : List Tok} {u : Tok} (h : u.kind = 20) : trm (m ++ [u]) = trm m := by
  unfold trm
  by_cases hb : bs m = []
  · rw [bs_app_nil _ hb, hb, bs_sp h]; rfl
  · rw [bs_app _ hb, es_sp h]
theorem es_cons_no {c : Tok} (h : ¬ c.kind = 20) : ∀ (n : Nat) (q : List Tok), q.length ≤ n → es (c :: q) = c :: es q := by
  intro n
  induction n with
  | zero =>
    intro q hq
    have : q = [] := List.eq_nil_of_length_eq_zero (by omega)
    subst this
    show es ([] ++ [c]) = _
    rw [es_no h]; rfl
  | succ n ih =>
    intro q hq
    rcases List.eq_nil_or_concat q with rfl | ⟨m, u, rfl⟩
    · show es ([] ++ [c]) = _
      rw [es_no h]; rfl
    · rw [List.concat_eq_append] at hq ⊢
      rw [← List.cons_append]
      by_cases hu : u.kind = 20
      · rw [es_sp hu, es_sp hu]
        exact ih m (by simp at hq; omega)
      · rw [es_no hu, es_no hu]; rfl
theorem trm_es : ∀ (n : Nat) (q : List Tok), q.length ≤ n → trm (es q) = trm q := by
  intro n
  induction n with
  | zero =>
    intro q hq
    have : q = [] := List.eq_nil_of_length_eq_zero (by omega)
    subst this
    rfl
  | succ n ih =>
    intro q hq
    rcases List.eq_nil_or_concat q with rfl | ⟨m, u, rfl⟩
    · rfl
    · rw [List.concat_eq_append] at hq ⊢
      by_cases hu : u.kind = 20
      · rw [es_sp hu, trm_snoc hu]
        exact ih m (by simp at hq; omega)
      · rw [es_no hu]
theorem bs_first {l q : List Tok} {c : Tok} : bs l = c :: q → ¬ c.kind = 20 := by
  induction l with
  | nil => intro h; cases h
  | cons t r ih =>
    intro h
    by_cases hk : t.kind = 20
    · rw [bs_sp hk] at h; exact ih h
    · rw [bs_no hk] at h; injection h with h _; subst h; exact hk
theorem trm_nil_iff {l : List Tok} : trm l = [] ↔ bs l = [] := by
  constructor
  · intro h
    cases hb : bs l with
    | nil => rfl
    | cons c q =>
      unfold trm at h
      rw [hb, es_cons_no (bs_first hb) _ _ (Nat.le_refl _)] at h
      cases h
  · intro h; unfold trm; rw [h]; rfl
theorem trm_cons {l q : List Tok} {c : Tok} (h : bs l = c :: q) : trm l = c :: es q := by
  unfold trm; rw [h, es_cons_no (bs_first h) _ _ (Nat.le_refl _)]

/-- does a list end in the word of what is important? -/
def impB (v : List Tok) : Bool := match v.getLast? with | none => false | some u => decide (u.kind = 1) && decide (u.text = impT)
theorem impB_some {v : List Tok} {u : Tok} (h : v.getLast? = some u) : impB v = (decide (u.kind = 1) && decide (u.text = impT)) := by unfold impB; rw [h]
theorem unmS_false {v : List Tok} (h : impB v = false) : unmS v = (v, false) := by
  cases hl : v.getLast? with
  | none => rw [List.getLast?_eq_none_iff] at hl; subst hl; rfl
  | some u =>
    rw [impB_some hl] at h
    refine unmS_no hl (fun hh => ?_)
    rw [decide_eq_true hh.1, decide_eq_true hh.2] at h; cases h
/-- what Decl answers -/
def DecIs (w : World) (a0 : Option Addr) (l : List Tok) (o : Option Dec) (e : Ending) (w' : World) : Prop :=
  (match o with
  | none => e = .returned (.tuple #[.agg #[.string ⟨#[]⟩, .slice none 0 0, .bool false], .bool false])
  | some d => ∃ a c, e = .returned (.tuple #[.agg #[.string ⟨d.name.toArray⟩, .slice a d.value.length c, .bool d.imp], .bool true]) ∧ d.value.length ≤ c ∧ c ≤ maxLen ∧ ∀ W : World, Tks W a0 l → Tks W a d.value) ∧ Below w.heap.size w w'


/-- the answer's block and the declaration's, in W -/
structure DB (w W : World) (nm : ByteArray) (val : Value) (im : Bool) : Prop where
  res : W.heap[w.heap.size]? = some (.cells #[.string ⟨#[]⟩, .slice none 0 0, .bool false] 43 (0, 0))
  box : W.heap[w.heap.size + 1]? = some (.cells #[.string nm, val, .bool im] 43 (0, 0))
  bel : Below w.heap.size w W
theorem DB.keep {w W W' : World} {nm : ByteArray} {val : Value} {im : Bool} (h : DB w W nm val im) (hb : Below W.heap.size W W') : DB w W' nm val im :=
  ⟨blk_keepS hb h.res, blk_keepS hb h.box, h.bel.trans (hb.mono h.bel.size)⟩
theorem DB.set1 {w W : World} {nm : ByteArray} {val : Value} {im : Bool} (h : DB w W nm val im) (u : Value) : DB w (W.setCell ⟨w.heap.size + 1, 1, none⟩ u) nm u im :=
  ⟨(setCell_there _ (by show w.heap.size ≠ w.heap.size + 1; omega)).trans h.res, setCell_here (k := 1) u h.box, h.bel.setCell (p := ⟨w.heap.size + 1, 1, none⟩) (by show _ ≤ w.heap.size + 1; omega) u⟩
theorem DB.set2 {w W : World} {nm : ByteArray} {val : Value} {im : Bool} (h : DB w W nm val im) (b : Bool) : DB w (W.setCell ⟨w.heap.size + 1, 2, none⟩ (.bool b)) nm val b :=
  ⟨(setCell_there _ (by show w.heap.size ≠ w.heap.size + 1; omega)).trans h.res, setCell_here (k := 2) (.bool b) h.box, h.bel.setCell (p := ⟨w.heap.size + 1, 2, none⟩) (by show _ ≤ w.heap.size + 1; omega) _⟩
theorem DB.start {w W1 : World} {nm : ByteArray} {val : Value} (h1 : W1.heap[w.heap.size]? = some (.cells #[.string ⟨#[]⟩, .slice none 0 0, .bool false] 43 (0, 0)) ∧ W1.heap.size = w.heap.size + 1) (hb : Below w.heap.size w W1) :
    DB w (W1.alloc (.cells #[.string nm, val, .bool false] 43)).drew nm val false :=
  ⟨blk_keepS ((Below.refl W1.heap.size W1).alloc (Nat.le_refl _) _).drew h1.1, by rw [← h1.2]; exact heap_alloc_new W1 _, (hb.alloc hb.size _).drew⟩
theorem decl_und : ∃ d, Try.prog.underlying 43 = some d ∧ (match d with | .struct _ | .array _ _ => true | _ => false) = true := by
  have this : (Try.prog.underlying 43).map (fun d => match d with | .struct _ | .array _ _ => true | _ => false) = some true := by kernel_rfl
  cases h : Try.prog.underlying 43 with
  | none => rw [h] at this; cases this
  | some d => rw [h] at this; injection this with this; exact ⟨d, rfl, this⟩
theorem results_decl (tmps : Array Value) (w : World) (H : Nat) (x0 x1 x2 u : Value) (hp : tmps.getD 2 undef = .pointer (some ⟨H, 0, none⟩)) (hu : tmps.getD 3 undef = u) (hg : w.heap[H]? = some (.cells #[x0, x1, x2] 43 (0, 0))) :
    (results Try.f25 tmps).run Try.prog w = .ok (.tuple #[.agg #[x0, x1, x2], u]) w := by
  obtain ⟨d, hd1, hd2⟩ := decl_und
  rw [results_cell_tmp (p := 2) (ty := 43) (u := 3) rfl, hp, hu]
  simp only [asAddr, Sem.run_pure, Result.andThen_ok, run_loadVar_row w H 43 43 _ (0, 0) d hg hd1 (by cases d <;> first | rfl | cases hd2) (by kernel_rfl)]
theorem decl_fin {w W : World} {nm : ByteArray} {val : Value} {im : Bool} (h : DB w W nm val im) (v0 v1 v2 : Value) :
    Below w.heap.size w (((W.setCell ⟨w.heap.size, 0, none⟩ v0).setCell ⟨w.heap.size, 1, none⟩ v1).setCell ⟨w.heap.size, 2, none⟩ v2) ∧ (((W.setCell ⟨w.heap.size, 0, none⟩ v0).setCell ⟨w.heap.size, 1, none⟩ v1).setCell ⟨w.heap.size, 2, none⟩ v2).heap[w.heap.size]? = some (.cells #[v0, v1, v2] 43 (0, 0)) :=
  ⟨((h.bel.setCell (p := ⟨w.heap.size, 0, none⟩) (Nat.le_refl _) v0).setCell (p := ⟨w.heap.size, 1, none⟩) (Nat.le_refl _) v1).setCell (p := ⟨w.heap.size, 2, none⟩) (Nat.le_refl _) v2,
    setCell_here (k := 2) v2 (setCell_here (k := 1) v1 (setCell_here (k := 0) v0 h.res))⟩

/-- three stores into the answer's block, one by one -/
theorem dec_store {w W : World} {nm : ByteArray} {val : Value} {im : Bool} (h : DB w W nm val im) (H : Nat) (hH : w.heap.size = H) (v0 v1 v2 : Value) :
    ∃ x1 x2 x3, (W.cell? ⟨H, 0, none⟩ = some (.string ⟨#[]⟩) ∧ W.frozen? ⟨H, 0, none⟩ = false ∧ W.setCell ⟨H, 0, none⟩ v0 = x1) ∧ (x1.cell? ⟨H, 1, none⟩ = some (.slice none 0 0) ∧ x1.frozen? ⟨H, 1, none⟩ = false ∧ x1.setCell ⟨H, 1, none⟩ v1 = x2) ∧
      (x2.cell? ⟨H, 2, none⟩ = some (.bool false) ∧ x2.frozen? ⟨H, 2, none⟩ = false ∧ x2.setCell ⟨H, 2, none⟩ v2 = x3) ∧ Below w.heap.size w x3 ∧ x3.heap[H]? = some (.cells #[v0, v1, v2] 43 (0, 0)) := by
  subst hH
  have h1 := setCell_here (k := 0) v0 h.res
  have h2 := setCell_here (k := 1) v1 h1
  obtain ⟨fb, fh⟩ := decl_fin h v0 v1 v2
  exact ⟨_, _, _, ⟨cell_of h.res rfl, unfrozen_of h.res, rfl⟩, ⟨cell_of h1 rfl, unfrozen_of h1, rfl⟩, ⟨cell_of h2 rfl, unfrozen_of h2, rfl⟩, fb, fh⟩

set_option maxRecDepth 100000 in
set_option maxHeartbeats 4000000 in
theorem refDecl_any (a : Option Addr) (l : List Tok) (cap : Nat) (w : World) (h1 : l.length ≤ cap) (h2 : cap ≤ maxLen) (hl : l.length ≤ 90000) (hT : Tks w a l) :
    Calls Try.prog 25 #[.slice a l.length cap] w (DecIs w a l (decS l)) := by
  have T1 := Lib.hid (fun W (hW : Below w.heap.size w W) => refTrim_any a l cap W h1 h2 (hT.below hW))
  have hds : decS l = decT (trm l) := rfl
  rw [hds]
  have htl := trm_len l
  have HB0 : Hid (Below w.heap.size w (w.alloc (.cells #[.string ⟨#[]⟩, .slice none 0 0, .bool false] 43))) := Lib.hid ((Below.refl _ _).alloc (Nat.le_refl _) _)
  have HTA := Lib.hid (fun W (hW : Below w.heap.size w W) => hT.below hW)
  obtain ⟨n, hn⟩ : ∃ n, l.length = n := ⟨_, rfl⟩
  rw [hn] at T1 hl htl ⊢
  unfold SlPc at T1
  clear h1 h2 hn hds hT
  generalize trm l = l1 at *
  cases l1 with
  | nil =>
    go_enter Try.func25, Try.ntmps25
    go_wp2_with fail
    refine (T1.out _ HB0.out).mono ?_
    rintro e w1 ⟨⟨a1, c1, rfl, g1, g2, g3⟩, rfl⟩
    clear g3
    simp only [List.length_nil] at g1
    go_wp2_with fail
    refine bodyPost_ret_by (results_decl _ _ w.heap.size (.string ⟨#[]⟩) (.slice none 0 0) (.bool false) (.bool false) rfl rfl (heap_alloc_new w _)) rfl ⟨rfl, HB0.out⟩
  | cons t r =>
    obtain ⟨n1, hn1⟩ : ∃ x, (t :: r).length = x := ⟨_, rfl⟩
    rw [hn1] at htl T1
    have hnp : 0 < n1 := by rw [← hn1]; simp
    have hn1z : (0 : Int) < (n1 : Int) := by omega
    have hn1d : decide (0 < n1) = true := by simp; omega
    have hn1n : ¬ n1 = 0 := by omega
    have hn1b : ((n1 : Int) == 0) = false := by rw [beq_eq_false_iff_ne]; omega
    by_cases hk : t.kind = 1
    · have hkz : (t.kind == 1) = true := by rw [beq_iff_eq]; exact hk
      have hkb : (t.kind != 1) = false := by rw [hk]; rfl
      obtain ⟨q0, hq0⟩ : ∃ x, bs r = x := ⟨_, rfl⟩
      have HTW := Lib.hid (fun W (hW : Below w.heap.size w W) (a1 : Option Addr) (g3 : ∀ W, Tks W a l → Tks W a1 (t :: r)) => g3 _ (HTA.out _ hW))
      have hrl : r.length = n1 - 1 := by rw [← hn1]; simp
      cases q0 with
      | nil =>
        have HD := Lib.hid (decT_nil (r := r) hk hq0)
        have htr := trm_nil_iff.2 hq0
        clear hk hq0
        go_enter Try.func25, Try.ntmps25
        go_wp2_with fail
        refine (T1.out _ HB0.out).mono ?_
        rintro e w1 ⟨⟨a1, c1, rfl, g1, g2, g3⟩, rfl⟩
        have hTr := HTW.out _ HB0.out a1 g3
        obtain ⟨b1, o1, rfl, gb, gt⟩ := hTr.first
        have d1 := gt.kind
        obtain ⟨a2, s1, s2, s3, s4, s5⟩ := sl_from (some ⟨b1, o1, none⟩) (t :: r) c1 n1 1 hn1 1 rfl (by omega) g1 g2
        have T2 := refTrim_any a2 r (c1 - 1) _ (by rw [hrl]; exact s3) s4 (s5 _ hTr)
        rw [hrl, htr] at T2
        have TT2 := Lib.hid T2
        unfold SlPc at TT2
        generalize t.kind = tk at *
        clear g3 gt hTr s5 T2 s2 hrl hn1 htr
        go_wp2_with fail
        refine TT2.out.mono ?_
        rintro e w1 ⟨⟨a3, c3, rfl, g4, g5, g6⟩, rfl⟩
        clear g6
        simp only [List.length_nil] at g4
        go_wp2_with fail
        rw [HD.out]
        refine bodyPost_ret_by (results_decl _ _ w.heap.size (.string ⟨#[]⟩) (.slice none 0 0) (.bool false) (.bool false) rfl rfl (heap_alloc_new w _)) rfl ⟨rfl, HB0.out⟩
      | cons c q =>
        have htr := trm_cons hq0
        by_cases hck : c.kind = 10
        · have hckz : (c.kind == 10) = true := by rw [beq_iff_eq]; exact hck
          have hckb : (c.kind != 10) = false := by rw [hck]; rfl
          have HD := Lib.hid (decT_val (r := r) hk hq0 hck)
          obtain ⟨n3, hn3⟩ : ∃ x, (c :: es q).length = x := ⟨_, rfl⟩
          have hn3p : 0 < n3 := by rw [← hn3]; simp
          have hn3z : (0 : Int) < (n3 : Int) := by omega
          have hn3d : decide (0 < n3) = true := by simp; omega
          have hn3n : ¬ n3 = 0 := by omega
          have hn3b : ((n3 : Int) == 0) = false := by rw [beq_eq_false_iff_ne]; omega
          have hql : (es q).length = n3 - 1 := by rw [← hn3]; simp
          have htq : trm (es q) = trm q := trm_es _ q (Nat.le_refl _)
          have hn3n1 : n3 ≤ n1 := by have := bs_len r; rw [hq0] at this; have := es_len q; simp at *; omega
          clear hk hq0
          go_enter Try.func25, Try.ntmps25
          go_wp2_with fail
          refine (T1.out _ HB0.out).mono ?_
          rintro e w1 ⟨⟨a1, c1, rfl, g1, g2, g3⟩, rfl⟩
          have hTr := HTW.out _ HB0.out a1 g3
          obtain ⟨b1, o1, rfl, gb, gt⟩ := hTr.first
          have d1 := gt.kind
          have d3 := gt.text
          obtain ⟨a2, s1, s2, s3, s4, s5⟩ := sl_from (some ⟨b1, o1, none⟩) (t :: r) c1 n1 1 hn1 1 rfl (by omega) g1 g2
          have hT2 := s5 _ hTr
          have T2 := refTrim_any a2 r (c1 - 1) _ (by rw [hrl]; exact s3) s4 hT2
          rw [hrl, htr] at T2
          have TT2 := Lib.hid T2
          unfold SlPc at TT2
          rw [hn3] at TT2
          have HA2 : Hid (∀ W : World, Tks W a l → Tks W a2 r) := Lib.hid fun W hW => s5 _ (g3 _ hW)
          have HT2 : Hid (Tks _ a2 r) := Lib.hid hT2
          obtain ⟨tx, htx⟩ : ∃ x, t.text = x := ⟨_, rfl⟩
          rw [htx] at HD d3
          generalize t.kind = tk at *
          clear g3 gt hTr s5 T2 s2 hrl hn1 htr hT2 HTW htx
          go_wp2_with fail
          refine TT2.out.mono ?_
          rintro e w1 ⟨⟨a3, c3, rfl, g4, g5, g6⟩, rfl⟩
          have hT3 := g6 _ HT2.out
          obtain ⟨b3, o3, rfl, gb3, gt3⟩ := hT3.first
          have d2 := gt3.kind
          obtain ⟨a4, v1, v2, v3, v4, v5⟩ := sl_from (some ⟨b3, o3, none⟩) (c :: es q) c3 n3 1 hn3 1 rfl (by omega) g4 g5
          have HA4 : Hid (∀ W : World, Tks W a l → Tks W a4 (es q)) := Lib.hid fun W hW => v5 _ (g6 _ (HA2.out _ hW))
          have T3 := Lib.hid (fun W (hW : Below w.heap.size w W) => refTrim_any a4 (es q) (c3 - 1) W (by rw [hql]; exact v3) v4 (HA4.out _ (HTA.out _ hW)))
          rw [hql, htq] at T3
          unfold SlPc at T3
          have hvl := trm_len q
          have hqe : (trm q).length ≤ n3 := by rw [← htq]; have := trm_len (es q); omega
          generalize trm q = v at *
          obtain ⟨nv, hnv⟩ : ∃ x, v.length = x := ⟨_, rfl⟩
          have HNV := Lib.hid hnv
          rw [hnv] at T3 hqe
          generalize c.kind = ck at *
          clear g6 gt3 v5 hT3 v2 hn3 hql htq hvl hck hnv
          go_upto_region 7 with fail
          have HR1 : Hid ((w.alloc (.cells #[.string ⟨#[]⟩, .slice none 0 0, .bool false] 43)).heap[w.heap.size]? = some (.cells #[.string ⟨#[]⟩, .slice none 0 0, .bool false] 43 (0, 0)) ∧ (w.alloc (.cells #[.string ⟨#[]⟩, .slice none 0 0, .bool false] 43)).heap.size = w.heap.size + 1) := Lib.hid ⟨heap_alloc_new w _, by simp⟩
          generalize hW1 : w.alloc (.cells #[.string ⟨#[]⟩, .slice none 0 0, .bool false] 43) = W1 at *
          clear hW1
          go_cut [6] (fun s6 wx => s6 = .pointer (some ⟨w.heap.size + 1, 0, none⟩) ∧ ∃ (a5 : Option Addr) (c5 : Nat), Hid (DB w wx ⟨tx.toArray⟩ (.slice a5 nv c5) false ∧ nv ≤ c5 ∧ c5 ≤ maxLen ∧ ∀ W, Tks W a l → Tks W a5 v))
          case first =>
            have HBZ : Hid (Below w.heap.size w (W1.alloc (.cells #[.string ⟨#[]⟩, .slice none 0 0, .bool false] 43)).drew) := Lib.hid ((HB0.out.alloc HB0.out.size _).drew)
            go_region_with (go_at_call 36; refine (T3.out _ ?_).mono ?_; (first | exact HB0.out.drew | exact HBZ.out); rintro e w1 ⟨⟨a5, c5, rfl, g7, g8, g9⟩, rfl⟩; have HG := Lib.hid (And.intro g7 (And.intro g8 g9)); clear g7 g8 g9)
            all_goals
              go_wp2_with fail
              go_meet
              exact ⟨by rw [HR1.out.2], a5, c5, Lib.hid ⟨DB.start HR1.out HB0.out, HG.out.1, HG.out.2.1, fun W hW => HG.out.2.2 W (HA4.out W hW)⟩⟩
          case rest =>
            obtain ⟨rfl, a5, c5, HF5⟩ := hcut
            clear d1 d2 d3 T3 HA4 HT2 HR1 HB0 T1 HA2 TT2 v1 s1 hckz hckb
            have e1 : wc.cell? ⟨w.heap.size + 1, 1, none⟩ = some (.slice a5 nv c5) := cell_of HF5.out.1.box rfl
            obtain ⟨uv, huv⟩ : ∃ x, (unmS v).1 = x := ⟨_, rfl⟩
            obtain ⟨ui, hui⟩ : ∃ x, (unmS v).2 = x := ⟨_, rfl⟩
            have HU : Hid (unmS v = (uv, ui)) := Lib.hid (by rw [← huv, ← hui])
            rw [huv, hui] at HD
            have HUL : Hid (uv.length ≤ 90000) := Lib.hid (by have := unmS_len v; rw [huv, HNV.out] at this; omega)
            clear huv hui
            have hcm : nv ≤ c5 := HF5.out.2.1
            have hnm : nv ≤ 90000 := by omega
            obtain ⟨I, hI⟩ : ∃ x, impB v = x := ⟨_, rfl⟩
            have HI := Lib.hid hI
            clear hI
            go_upto_region 9 with fail
            go_cut [68] (fun s68 wx => wx = wc ∧ s68 = .bool I)
            case first =>
              by_cases h0 : nv = 0
              · subst h0
                have hv0 : v = [] := List.eq_nil_of_length_eq_zero HNV.out
                have hi := HI.out
                rw [hv0] at hi
                have hi : I = false := hi.symm
                subst hi
                clear hv0
                go_wp2_with fail
                go_meet
                exact ⟨rfl, rfl⟩
              · obtain ⟨j, u, hj, huj, hlast, hdl⟩ := last_split (l := v) (by have := HNV.out; omega)
                have hjl : j < v.length := by omega
                have hue : v[j] = u := by rw [List.getElem?_eq_getElem hjl] at huj; exact Option.some.inj huj
                have hT5 : Tks wc a5 v := HF5.out.2.2.2 wc (HTA.out _ HF5.out.1.bel)
                rcases hT5 with hh | ⟨b5, o5, rfl, hb5, ht5⟩
                · rw [hh] at hjl; simp at hjl
                have k5 := ht5 j hjl
                rw [hue] at k5
                have hjn : nv = j + 1 := by have := HNV.out; omega
                have hnz : (0 : Int) < (nv : Int) := by omega
                have hnd : decide (0 < nv) = true := by simp; omega
                have hw : IntKind.i64.wrap ((nv : Int) - 1) = (j : Int) := by
                  have e : (nv : Int) - 1 = (j : Int) := by omega
                  rw [e]; exact IntWalk.i64_in _ (by omega)
                have hz1 : ¬ (j : Int) < 0 := by omega
                have hz2 : (j : Int) < (nv : Int) := by omega
                have hz3 : (0 : Int) ≤ (j : Int) := by omega
                have hz4 : j < nv := by omega
                have hz5 : (j : Int) ≤ (c5 : Int) := by omega
                clear hjn
                have e2 : wc.cell? ⟨b5, o5 + j * 3, none⟩ = some (.int .i64 u.kind) := k5.kind
                have e3 : wc.cell? ⟨b5, o5 + j * 3 + 1, none⟩ = some (.string ⟨u.text.toArray⟩) := k5.text
                have hi := HI.out
                rw [impB_some hlast] at hi
                clear hdl hlast hue huj hj hjl ht5 k5
                generalize u.kind = uk at *
                generalize u.text = ut at *
                by_cases hk1 : uk = 1
                · have hkz1 : (uk == 1) = true := by rw [beq_iff_eq]; exact hk1
                  rw [decide_eq_true hk1, Bool.true_and] at hi
                  have HIX : Hid ((ut == [105, 109, 112, 111, 114, 116, 97, 110, 116]) = I) := Lib.hid (by rw [← hi]; exact Bool.eq_iff_iff.2 (by rw [beq_iff_eq, decide_eq_true_iff]; exact Iff.rfl))
                  clear hi hk1
                  go_wp2_with fail
                  go_meet
                  exact ⟨rfl, congrArg Value.bool HIX.out⟩
                · have hkz1 : (uk == 1) = false := by rw [beq_eq_false_iff_ne]; exact hk1
                  rw [decide_eq_false hk1, Bool.false_and] at hi
                  subst hi
                  clear hk1
                  go_wp2_with fail
                  go_meet
                  exact ⟨rfl, rfl⟩
            case rest =>
            obtain ⟨hwx, rfl⟩ := hcut
            subst hwx
            go_upto_if 68 with fail
            go_cut [] (fun wx => ∃ (a6 : Option Addr) (c6 nu : Nat), Hid (uv.length = nu ∧ DB w wx ⟨tx.toArray⟩ (.slice a6 nu c6) ui ∧ nu ≤ c6 ∧ c6 ≤ maxLen ∧ ∀ W, Tks W a l → Tks W a6 uv))
            case first =>
              cases I with
              | false =>
                have hu := unmS_false HI.out
                rw [HU.out] at hu
                injection hu with hu1 hu2
                have HX : Hid (uv.length = nv ∧ DB w wc ⟨tx.toArray⟩ (.slice a5 nv c5) ui ∧ nv ≤ c5 ∧ c5 ≤ maxLen ∧ ∀ W, Tks W a l → Tks W a5 uv) := Lib.hid ⟨by rw [hu1]; exact HNV.out, by rw [hu2]; exact HF5.out.1, HF5.out.2.1, HF5.out.2.2.1, by rw [hu1]; exact HF5.out.2.2.2⟩
                clear hu1 hu2
                go_wp2_with fail
                go_meet
                exact ⟨a5, c5, nv, HX⟩
              | true =>
                have h0 : ¬ nv = 0 := fun h => by
                  have hv0 : v = [] := List.eq_nil_of_length_eq_zero (by rw [HNV.out, h])
                  have := HI.out; rw [hv0] at this; cases this
                obtain ⟨j, u, hj, huj, hlast, hdl⟩ := last_split (l := v) (by have := HNV.out; omega)
                have hjl : j < v.length := by omega
                have hue : v[j] = u := by rw [List.getElem?_eq_getElem hjl] at huj; exact Option.some.inj huj
                have hT5 : Tks wc a5 v := HF5.out.2.2.2 wc (HTA.out _ HF5.out.1.bel)
                rcases hT5 with hh | ⟨b5, o5, rfl, hb5, ht5⟩
                · rw [hh] at hjl; simp at hjl
                have k5 := ht5 j hjl
                rw [hue] at k5
                have hjn : nv = j + 1 := by have := HNV.out; omega
                have hnz : (0 : Int) < (nv : Int) := by omega
                have hnd : decide (0 < nv) = true := by simp; omega
                have hw : IntKind.i64.wrap ((nv : Int) - 1) = (j : Int) := by
                  have e : (nv : Int) - 1 = (j : Int) := by omega
                  rw [e]; exact IntWalk.i64_in _ (by omega)
                have hz1 : ¬ (j : Int) < 0 := by omega
                have hz2 : (j : Int) < (nv : Int) := by omega
                have hz3 : (0 : Int) ≤ (j : Int) := by omega
                have hz4 : j < nv := by omega
                have hz5 : (j : Int) ≤ (c5 : Int) := by omega
                clear hjn
                have hi := HI.out
                rw [impB_some hlast, Bool.and_eq_true] at hi
                have hk1 : u.kind = 1 := of_decide_eq_true hi.1
                have hx : u.text = impT := of_decide_eq_true hi.2
                have keep : (uv, ui) = (v, false) → Hid (uv.length = nv ∧ DB w wc ⟨tx.toArray⟩ (.slice (some ⟨b5, o5, none⟩) nv c5) ui ∧ nv ≤ c5 ∧ c5 ≤ maxLen ∧ ∀ W, Tks W a l → Tks W (some ⟨b5, o5, none⟩) uv) := fun h => by
                  injection h with h1 h2
                  exact Lib.hid ⟨by rw [h1]; exact HNV.out, by rw [h2]; exact HF5.out.1, HF5.out.2.1, HF5.out.2.2.1, by rw [h1]; exact HF5.out.2.2.2⟩
                have HKP := Lib.hid keep
                clear hi
                have hTv : Tks wc (some ⟨b5, o5, none⟩) v := Or.inr ⟨b5, o5, rfl, hb5, ht5⟩
                obtain ⟨a6, v1, v2, v3, v5⟩ := sl_to (some ⟨b5, o5, none⟩) v c5 nv j HNV.out (j : Int) rfl (by omega) hcm HF5.out.2.2.1
                have T4 := refTrim_any a6 (v.take j) c5 wc (by rw [v2]; exact v3) HF5.out.2.2.1 (v5 _ hTv)
                rw [v2, ← hdl] at T4
                obtain ⟨hd, hhd⟩ : ∃ x, trm v.dropLast = x := ⟨_, rfl⟩
                have hhl : hd.length ≤ 90000 := by rw [← hhd]; have := trm_len v.dropLast; rw [List.length_dropLast] at this; omega
                rw [hhd] at T4
                have HE := Lib.hid (unmS_end (v := v) hlast ⟨hk1, hx⟩)
                have HS := Lib.hid (fun x => unmS_some (v := v) (u := x) hlast ⟨hk1, hx⟩)
                rw [hhd] at HE
                simp only [hhd] at HS
                rw [hdl] at T4
                unfold SlPc at T4
                have HA6 : Hid (∀ W : World, Tks W a l → Tks W a6 (v.take j)) := Lib.hid fun W hW => v5 _ (HF5.out.2.2.2 W hW)
                have TT4 := Lib.hid T4
                obtain ⟨nh, hnh⟩ : ∃ x, hd.length = x := ⟨_, rfl⟩
                have HNH := Lib.hid hnh
                rw [hnh] at TT4 hhl
                clear T4 hTv v5 v2 hhd hdl hlast hue huj hj hjl ht5 k5 keep hnh hb5 hk1 hx
                go_wp2_with fail
                refine TT4.out.mono ?_
                rintro e w1 ⟨⟨a7, c7, rfl, g1, g2, g3⟩, rfl⟩
                by_cases hh0 : nh = 0
                · subst hh0
                  have hd0 : hd = [] := List.eq_nil_of_length_eq_zero HNH.out
                  have hu : unmS v = (v, false) := HE.out (by rw [hd0]; rfl)
                  rw [HU.out] at hu
                  have HX := HKP.out hu
                  clear hu hd0 g3
                  go_wp2_with fail
                  go_meet
                  exact ⟨_, c5, nv, HX⟩
                · obtain ⟨m, u2, hm, hum, hlast2, hdl2⟩ := last_split (l := hd) (by have := HNH.out; omega)
                  have hml : m < hd.length := by omega
                  have hue2 : hd[m] = u2 := by rw [List.getElem?_eq_getElem hml] at hum; exact Option.some.inj hum
                  have HA7 : Hid (∀ W : World, Tks W a l → Tks W a7 hd) := Lib.hid fun W hW => g3 _ (HA6.out W hW)
                  have hT7 : Tks w1 a7 hd := HA7.out _ (HTA.out _ HF5.out.1.bel)
                  rcases hT7 with hh | ⟨b7, o7, rfl, hb7, ht7⟩
                  · rw [hh] at hml; simp at hml
                  have k7 := ht7 m hml
                  rw [hue2] at k7
                  have f1 : w1.cell? ⟨b7, o7 + m * 3, none⟩ = some (.int .i64 u2.kind) := k7.kind
                  have f2 : w1.cell? ⟨b7, o7 + m * 3 + 1, none⟩ = some (.string ⟨u2.text.toArray⟩) := k7.text
                  have f3 : w1.cell? ⟨b7, o7 + m * 3 + 2, none⟩ = some (.int .i64 u2.n) := k7.n
                  have X := Lib.hid (refLoud_any u2 w1)
                  have hmn : nh = m + 1 := by have := HNH.out; omega
                  have hw2 : IntKind.i64.wrap ((nh : Int) - 1) = (m : Int) := by
                    have e : (nh : Int) - 1 = (m : Int) := by omega
                    rw [e]; exact IntWalk.i64_in _ (by omega)
                  have hy1 : ¬ (m : Int) < 0 := by omega
                  have hy2 : (m : Int) < (nh : Int) := by omega
                  have hy3 : (0 : Int) ≤ (m : Int) := by omega
                  have hy4 : m < nh := by omega
                  have hy5 : (m : Int) ≤ (c7 : Int) := by omega
                  have hhz : (0 : Int) < (nh : Int) := by omega
                  have hhd2 : decide (0 < nh) = true := by simp; omega
                  clear hmn
                  obtain ⟨a8, p1, p2, p3, p5⟩ := sl_to (some ⟨b7, o7, none⟩) hd c7 nh m HNH.out (m : Int) rfl (by omega) g1 g2
                  have HA8 : Hid (∀ W : World, Tks W a l → Tks W a8 (hd.take m)) := Lib.hid fun W hW => p5 _ (HA7.out W hW)
                  have T5 := fun W (hW : Below w.heap.size w W) => refTrim_any a8 (hd.take m) c7 W (by rw [p2]; exact p3) g2 (HA8.out _ (HTA.out _ hW))
                  rw [p2] at T5
                  unfold SlPc at T5
                  have TT5 := Lib.hid T5
                  have HS2 := Lib.hid (HS.out u2 hlast2)
                  rw [hdl2, HU.out] at HS2
                  obtain ⟨xb, hxb⟩ : ∃ x, excl u2 = x := ⟨_, rfl⟩
                  rw [hxb] at X HS2
                  have hvt := trm_len (hd.take m)
                  obtain ⟨vt, hvt2⟩ : ∃ x, trm (hd.take m) = x := ⟨_, rfl⟩
                  rw [hvt2] at TT5 HS2
                  clear p5 p2 hdl2 hlast2 hue2 hum hm hml ht7 k7 g3 hxb hvt hvt2 T5 hb7
                  unfold LexP.Tok.val at X
                  go_wp2_with fail
                  refine X.out.mono ?_
                  rintro e w3 ⟨rfl, hb3⟩
                  have HDB3 := Lib.hid (HF5.out.1.keep hb3)
                  clear hb3 f1 f2 f3 e1
                  cases xb with
                  | false =>
                    have hu : (uv, ui) = (v, false) := HS2.out
                    have HX := HKP.out hu
                    clear hu
                    go_wp2_with fail
                    go_meet
                    injection HS2.out with hu1 hu2
                    exact ⟨_, c5, nv, Lib.hid ⟨HX.out.1, by rw [hu2]; exact HDB3.out, HX.out.2.2⟩⟩
                  | true =>
                    have hu : (uv, ui) = (vt, true) := HS2.out
                    injection hu with hu1 hu2
                    subst hu1; subst hu2
                    have q1 : w3.cell? ⟨w.heap.size + 1, 2, none⟩ = some (.bool false) := cell_of HDB3.out.box rfl
                    have q2 : w3.frozen? ⟨w.heap.size + 1, 2, none⟩ = false := unfrozen_of HDB3.out.box
                    have q3 : w3.cell? ⟨w.heap.size + 1, 1, none⟩ = some (.slice (some ⟨b5, o5, none⟩) nv c5) := cell_of HDB3.out.box rfl
                    have q4 : w3.frozen? ⟨w.heap.size + 1, 1, none⟩ = false := unfrozen_of HDB3.out.box
                    have HDB4 := Lib.hid (HDB3.out.set2 true)
                    have T6 := Lib.hid (TT5.out _ HDB4.out.bel)
                    obtain ⟨nt, hnt⟩ : ∃ x, uv.length = x := ⟨_, rfl⟩
                    have HNT := Lib.hid hnt
                    rw [hnt] at T6
                    clear hnt
                    go_wp2_with fail
                    refine T6.out.mono ?_
                    rintro e w4 ⟨⟨a9, c9, rfl, g7, g8, g9⟩, rfl⟩
                    have HG9 := Lib.hid (And.intro g7 (And.intro g8 g9))
                    clear g9 T6
                    go_wp2_with fail
                    go_meet
                    exact ⟨a9, c9, nt, Lib.hid ⟨HNT.out, HDB4.out.set1 _, HG9.out.1, HG9.out.2.1, fun W hW => HG9.out.2.2 W (HA8.out W hW)⟩⟩
            case rest =>
              obtain ⟨a6, c6, nu, HF6⟩ := hcut
              clear e1
              have f1 : wc.cell? ⟨w.heap.size + 1, 1, none⟩ = some (.slice a6 nu c6) := cell_of HF6.out.2.1.box rfl
              have B6 := refBroken_any a6 uv c6 wc HUL.out (HF6.out.2.2.2.2 _ (HTA.out _ HF6.out.2.1.bel))
              rw [HF6.out.1] at B6
              have HB6 := Lib.hid B6
              obtain ⟨H, hH⟩ : ∃ H, w.heap.size = H := ⟨_, rfl⟩
              have HH := Lib.hid hH
              rw [hH] at f1
              rw [hH]
              clear B6 hH
              by_cases hn0 : nu = 0
              · subst hn0
                have hu0 : uv = [] := List.eq_nil_of_length_eq_zero HF6.out.1
                have hd := HD.out
                rw [if_pos (Or.inl hu0)] at hd
                have HDN := Lib.hid hd
                clear hd hu0
                obtain ⟨x1, x2, x3, ⟨s0, s1, s2⟩, ⟨s3, s4, s5⟩, ⟨s6, s7, s8⟩, fb, fh⟩ := dec_store HF6.out.2.1 H HH.out (.string ⟨#[]⟩) (.slice none 0 0) (.bool false)
                have FB := Lib.hid fb
                have FH := Lib.hid fh
                clear fb fh
                go_wp2_with fail
                rw [HDN.out]
                exact bodyPost_ret_by (results_decl _ _ H (.string ⟨#[]⟩) (.slice none 0 0) (.bool false) (.bool false) rfl rfl FH.out) rfl ⟨rfl, FB.out⟩
              · have hnu : ((nu : Int) == 0) = false := by rw [beq_eq_false_iff_ne]; omega
                obtain ⟨sp, hsp⟩ : ∃ x, spoS uv = x := ⟨_, rfl⟩
                have HSP := Lib.hid hsp
                rw [hsp] at HB6
                clear hsp
                go_wp2_with fail
                refine HB6.out.mono ?_
                rintro e w5 ⟨rfl, hb5⟩
                have HDB := Lib.hid (HF6.out.2.1.keep hb5)
                clear hb5 f1
                have y0 : w5.cell? ⟨H + 1, 0, none⟩ = some (.string ⟨tx.toArray⟩) := by rw [← HH.out]; exact cell_of HDB.out.box rfl
                have y1 : w5.cell? ⟨H + 1, 1, none⟩ = some (.slice a6 nu c6) := by rw [← HH.out]; exact cell_of HDB.out.box rfl
                have y2 : w5.cell? ⟨H + 1, 2, none⟩ = some (.bool ui) := by rw [← HH.out]; exact cell_of HDB.out.box rfl
                cases sp with
                | true =>
                  have hd := HD.out
                  rw [if_pos (Or.inr HSP.out)] at hd
                  have HDN := Lib.hid hd
                  clear hd
                  obtain ⟨x1, x2, x3, ⟨s0, s1, s2⟩, ⟨s3, s4, s5⟩, ⟨s6, s7, s8⟩, fb, fh⟩ := dec_store HDB.out H HH.out (.string ⟨#[]⟩) (.slice none 0 0) (.bool false)
                  have FB := Lib.hid fb
                  have FH := Lib.hid fh
                  clear fb fh
                  go_wp2_with fail
                  rw [HDN.out]
                  exact bodyPost_ret_by (results_decl _ _ H (.string ⟨#[]⟩) (.slice none 0 0) (.bool false) (.bool false) rfl rfl FH.out) rfl ⟨rfl, FB.out⟩
                | false =>
                  have hd := HD.out
                  rw [if_neg (by
                    intro h
                    rcases h with h | h
                    · have := HF6.out.1; rw [h] at this; exact hn0 this.symm
                    · rw [HSP.out] at h; cases h)] at hd
                  have HDN := Lib.hid hd
                  clear hd
                  obtain ⟨x1, x2, x3, ⟨s0, s1, s2⟩, ⟨s3, s4, s5⟩, ⟨s6, s7, s8⟩, fb, fh⟩ := dec_store HDB.out H HH.out (.string ⟨tx.toArray⟩) (.slice a6 nu c6) (.bool ui)
                  have FB := Lib.hid fb
                  have FH := Lib.hid fh
                  clear fb fh
                  go_wp2_with fail
                  rw [HDN.out]
                  refine bodyPost_ret_by (results_decl _ _ H (.string ⟨tx.toArray⟩) (.slice a6 nu c6) (.bool ui) (.bool true) rfl rfl FH.out) rfl ⟨⟨a6, c6, ?_, ?_, HF6.out.2.2.2.1, HF6.out.2.2.2.2⟩, FB.out⟩
                  · show _ = Ending.returned (.tuple #[.agg #[.string ⟨tx.toArray⟩, .slice a6 uv.length c6, .bool ui], .bool true])
                    rw [HF6.out.1]
                  · show uv.length ≤ c6
                    rw [HF6.out.1]; exact HF6.out.2.2.1
        · have hckz : (c.kind == 10) = false := by rw [beq_eq_false_iff_ne]; exact hck
          have HD := Lib.hid (decT_col (r := r) hk hq0 hck)
          clear hk hq0
          obtain ⟨n3, hn3⟩ : ∃ x, (c :: es q).length = x := ⟨_, rfl⟩
          have hn3p : 0 < n3 := by rw [← hn3]; simp
          have hn3z : (0 : Int) < (n3 : Int) := by omega
          have hn3d : decide (0 < n3) = true := by simp; omega
          have hn3n : ¬ n3 = 0 := by omega
          have hn3b : ((n3 : Int) == 0) = false := by rw [beq_eq_false_iff_ne]; omega
          have hckb : (c.kind != 10) = true := by rw [bne_iff_ne]; exact hck
          go_enter Try.func25, Try.ntmps25
          go_wp2_with fail
          refine (T1.out _ HB0.out).mono ?_
          rintro e w1 ⟨⟨a1, c1, rfl, g1, g2, g3⟩, rfl⟩
          have hTr := HTW.out _ HB0.out a1 g3
          obtain ⟨b1, o1, rfl, gb, gt⟩ := hTr.first
          have d1 := gt.kind
          obtain ⟨a2, s1, s2, s3, s4, s5⟩ := sl_from (some ⟨b1, o1, none⟩) (t :: r) c1 n1 1 hn1 1 rfl (by omega) g1 g2
          have hT2 := s5 _ hTr
          have T2 := refTrim_any a2 r (c1 - 1) _ (by rw [hrl]; exact s3) s4 hT2
          rw [hrl, htr] at T2
          have TT2 := Lib.hid T2
          unfold SlPc at TT2
          rw [hn3] at TT2
          have HT2 : Hid (Tks _ a2 r) := Lib.hid hT2
          generalize t.kind = tk at *
          clear g3 gt hTr s5 T2 s2 hrl hn1 htr hT2
          go_wp2_with fail
          refine TT2.out.mono ?_
          rintro e w1 ⟨⟨a3, c3, rfl, g4, g5, g6⟩, rfl⟩
          obtain ⟨b3, o3, rfl, gb3, gt3⟩ := (g6 _ HT2.out).first
          have d2 := gt3.kind
          generalize c.kind = ck at *
          clear g6 gt3 hck
          go_wp2_with fail
          rw [HD.out]
          refine bodyPost_ret_by (results_decl _ _ w.heap.size (.string ⟨#[]⟩) (.slice none 0 0) (.bool false) (.bool false) rfl rfl (heap_alloc_new w _)) rfl ⟨rfl, HB0.out⟩
    · have hkz : (t.kind == 1) = false := by rw [beq_eq_false_iff_ne]; exact hk
      have hkb : (t.kind != 1) = true := by rw [bne_iff_ne]; exact hk
      have HD := Lib.hid (decT_kind (r := r) hk)
      clear hk
      go_enter Try.func25, Try.ntmps25
      go_wp2_with fail
      refine (T1.out _ HB0.out).mono ?_
      rintro e w1 ⟨⟨a1, c1, rfl, g1, g2, g3⟩, rfl⟩
      obtain ⟨b1, o1, rfl, gb, gt⟩ := (g3 _ (HTA.out _ HB0.out)).first
      have d1 := gt.kind
      generalize t.kind = tk at *
      clear g3 gt
      go_wp2_with fail
      rw [HD.out]
      refine bodyPost_ret_by (results_decl _ _ w.heap.size (.string ⟨#[]⟩) (.slice none 0 0) (.bool false) (.bool false) rfl rfl (heap_alloc_new w _)) rfl ⟨rfl, HB0.out⟩
end Go.Proofs.Ytaiommmbbajgnaa
