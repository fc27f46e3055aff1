/- Layer 15: what a query says of an element. -/
import Derived.Test.YtjhhpilaaahicaaHolH
import Derived.Test.YtjhhpilaaahicaaTruW5
import Derived.Test.YtjhhpilaaahicaaTruR3
import Derived.Lib.QuietBelow
import Derived.Deep.CutBlock
namespace Go.Proofs.Ytjhhpilaaahicaa
open Go.RowKit FixM FixP QryP TruP Go.Sort
set_option linter.unusedVariables false

theorem nearP_eq (X : Nat → Ext) (m : Nat) (nm : List UInt8) (k : Nat) : refP X m nm 1 k = nearP X m nm k := by
  have h := refP_wide X m k
  unfold refP at h
  simp only [List.isEmpty_nil, Bool.true_or, Bool.and_true] at h
  unfold refP nearP
  rw [← h, Bool.and_assoc]
  by_cases hk : k < m
  · unfold nameN; rw [if_pos hk]
  · have hz : kindN X m k = 0 := by unfold kindN; rw [if_neg hk]
    rw [hz]; rfl
theorem nearP_lt {X : Nat → Ext} {m : Nat} {nm : List UInt8} {k : Nat} (h : nearP X m nm k = true) : k < m := by
  unfold nearP at h
  rw [Bool.and_eq_true] at h
  by_cases hk : k < m
  · exact hk
  · have hz : kindN X m k = 0 := by unfold kindN; rw [if_neg hk]
    have h1 := h.1
    unfold wideB at h1
    rw [hz] at h1
    cases h1
/-- what a query says of an element -/
def trS (X : Nat → Ext) (m : Nat) (U : List Nat) (nm : List UInt8) (L : List QN) : Int := match U.find? (nearP X m nm) with
  | none => 2
  | some k => sayQ ⟨nm.toArray⟩ L (X k).kind (X k).wd (X k).ht
set_option maxRecDepth 100000 in
set_option maxHeartbeats 8000000 in
theorem Truth15_any (a : Option Addr) (len cap : Nat) (f : Nat → Int) (i : Int) (U : List Nat) (hU : UpsIs f len i U) (hl : len ≤ 100000) (x : Option Addr) (m xc : Nat) (X : Nat → Ext) (nm : List UInt8) (hs : nm.length ≤ maxLen) (qa : Option Addr) (L : List QN) (n c : Nat) (w : World) (hn : L.length = n) (hnm : n ≤ maxLen) (hQ : Qns w qa L) (hm : m ≤ 9223372036854775807) (hP : Pars w a len f) (hX : Exts w x m X) :
    Calls Try.prog 30 #[.slice a len cap, .slice x m xc, .int .i64 i, .agg #[.string ⟨nm.toArray⟩, .slice qa n c]] w fun e w' => e = .returned (.int .i64 (trS X m U nm L)) ∧ Below w.heap.size w w' := by
  have HB0 := Lib.hid (below_oneT w (.cells #[.string ⟨nm.toArray⟩, .slice qa n c] 25))
  have hx := heap_alloc_new w (.cells #[.string ⟨nm.toArray⟩, .slice qa n c] 25)
  generalize hW : w.alloc (.cells #[.string ⟨nm.toArray⟩, .slice qa n c] 25) = W at *
  have HX0 := Lib.hid hx
  obtain ⟨q0, q1⟩ := q_cells hx
  clear hx
  have NR := Lib.hid (fun W hW => Nearest_any a len cap f i U hU hl x m xc X nm W hm (hP.below hW) (hX.below hW))
  unfold trS
  cases hf : U.find? (nearP X m nm) with
  | none =>
    have e2 : nearS X m nm U = -1 := firstN_none hf
    rw [e2] at NR
    clear hP hX hU hQ e2 hf hn hs hnm
    dsimp only
    go_enter Try.func30, Try.ntmps30
    go_wp2_with fail
    refine (NR.out _ HB0.out).mono ?_
    rintro e w1 ⟨rfl, hb⟩
    have HB1 := Lib.hid (HB0.out.trans (hb.mono HB0.out.size))
    clear hb
    go_wp2_with fail
    go_ret
    exact ⟨rfl, HB1.out⟩
  | some k =>
    have e2 : nearS X m nm U = (k : Int) := firstN_some hf
    have hk : k < m := nearP_lt (List.find?_some hf)
    rw [e2] at NR
    have hkz : (k : Int) < (m : Int) := by omega
    have hk0 : (0 : Int) ≤ (k : Int) := by omega
    have EV := fun W' (hW' : Below w.heap.size w W') => Eval14_any nm hs qa L n c (X k).kind ⟨(X k).name.toArray⟩ (X k).wd (X k).ht W' hn hnm (hQ.below hW')
    unfold exA at EV
    have HXX := Lib.hid hX
    clear hP hX hU hQ e2 hf hn hs hnm
    dsimp only
    generalize sayQ ⟨nm.toArray⟩ L (X k).kind (X k).wd (X k).ht = R at EV ⊢
    have EVV := Lib.hid EV
    clear EV
    go_enter Try.func30, Try.ntmps30
    go_wp2_with fail
    refine (NR.out _ HB0.out).mono ?_
    rintro e w1 ⟨rfl, hb⟩
    have hx := (hb.block _ (blk_ltQ HX0.out)).trans HX0.out
    obtain ⟨q0, q1⟩ := q_cells hx
    have HB1 := Lib.hid (HB0.out.trans (hb.mono HB0.out.size))
    clear hb hx
    obtain ⟨b, off, rfl, c0, c1, c2, c3⟩ := (HXX.out.below HB1.out).at_ hk
    have s0 := cell_regrown c0
    have s1 := cell_regrown c1
    have s2 := cell_regrown c2
    have s3 := cell_regrown c3
    have k0 := cell_regrown q0
    have k1 := cell_regrown q1
    clear c0 c1 c2 c3
    have cE : ∀ d os, Calls Try.prog 25 #[.agg #[.string ⟨nm.toArray⟩, .slice qa n c], .agg #[.int .i64 (X k).kind, .string ⟨(X k).name.toArray⟩, .int .i64 (X k).wd, .int .i64 (X k).ht]] (grow (redrawn w1 d) os) fun e w'' => e = .returned (.int .i64 R) ∧ ∃ p : Regrown, w'' = grow (redrawn w1 p.d) p.os := fun d os => Calls.regrown_of (EVV.out _ (HB1.out.trans ((below_regrown w1 d os).mono HB1.out.size)))
    go_upto_region 4 with (fail)
    clear q0 q1
    refine wp_region_quiet_below (by kernel_rfl) (by kernel_rfl) ?_
    repeat (quiet_step (exact cE _ _))
    refine wpQuiet_nil ?_
    intro _ hw'
    obtain ⟨⟨dq, osq⟩, hw''⟩ := hw'
    subst hw''
    go_wp2_with fail
    go_ret
    exact ⟨rfl, HB1.out.trans ((below_regrown _ _ _).mono HB1.out.size)⟩
set_option maxRecDepth 100000 in
set_option maxHeartbeats 8000000 in
theorem refTruth15_any (a : Option Addr) (len cap : Nat) (f : Nat → Int) (i : Int) (U : List Nat) (hU : UpsIs f len i U) (hl : len ≤ 100000) (x : Option Addr) (m xc : Nat) (X : Nat → Ext) (nm : List UInt8) (hs : nm.length ≤ maxLen) (qa : Option Addr) (L : List QN) (n c : Nat) (w : World) (hn : L.length = n) (hnm : n ≤ maxLen) (hQ : Qns w qa L) (hm : m ≤ 9223372036854775807) (hP : Pars w a len f) (hX : Exts w x m X) :
    Calls Try.prog 31 #[.slice a len cap, .slice x m xc, .int .i64 i, .agg #[.string ⟨nm.toArray⟩, .slice qa n c]] w fun e w' => e = .returned (.int .i64 (trS X m U nm L)) ∧ Below w.heap.size w w' := by
  have HB0 := Lib.hid (below_oneT w (.cells #[.string ⟨nm.toArray⟩, .slice qa n c] 25))
  have hx := heap_alloc_new w (.cells #[.string ⟨nm.toArray⟩, .slice qa n c] 25)
  generalize hW : w.alloc (.cells #[.string ⟨nm.toArray⟩, .slice qa n c] 25) = W at *
  have HX0 := Lib.hid hx
  obtain ⟨q0, q1⟩ := q_cells hx
  clear hx
  have NR : Hid (∀ W', Below w.heap.size w W' → Calls Try.prog 57 #[.slice a len cap, .slice x m xc, .int .i64 i, .string ⟨nm.toArray⟩, .int .i64 1] W' fun e w' => e = .returned (.int .i64 (nearS X m nm U)) ∧ Below W'.heap.size W' w') := Lib.hid (fun W' hW' => by
    have h := refNear_any a len cap f i U hU hl x m xc X nm 1 W' hm (hP.below hW') (hX.below hW')
    rw [show refP X m nm 1 = nearP X m nm from funext (nearP_eq X m nm)] at h
    exact h)
  unfold trS
  cases hf : U.find? (nearP X m nm) with
  | none =>
    have e2 : nearS X m nm U = -1 := firstN_none hf
    rw [e2] at NR
    clear hP hX hU hQ e2 hf hn hs hnm
    dsimp only
    go_enter Try.func31, Try.ntmps31
    go_wp2_with fail
    refine (NR.out _ HB0.out).mono ?_
    rintro e w1 ⟨rfl, hb⟩
    have HB1 := Lib.hid (HB0.out.trans (hb.mono HB0.out.size))
    clear hb
    go_wp2_with fail
    go_ret
    exact ⟨rfl, HB1.out⟩
  | some k =>
    have e2 : nearS X m nm U = (k : Int) := firstN_some hf
    have hk : k < m := nearP_lt (List.find?_some hf)
    rw [e2] at NR
    have hkz : (k : Int) < (m : Int) := by omega
    have hk0 : (0 : Int) ≤ (k : Int) := by omega
    have EV := fun W' (hW' : Below w.heap.size w W') => refEval14_any nm hs qa L n c (X k).kind ⟨(X k).name.toArray⟩ (X k).wd (X k).ht W' hn hnm (hQ.below hW')
    unfold exA at EV
    have HXX := Lib.hid hX
    have AT := fun W' (hW' : Below w.heap.size w W') => refAt15_any x m xc k X W' hm (hX.below hW')
    have u1 : kindN X m k = (X k).kind := by unfold kindN; rw [if_pos hk]
    have u2 : nameN X m k = (X k).name := by unfold nameN; rw [if_pos hk]
    have u3 : wdN X m k = (X k).wd := by unfold wdN; rw [if_pos hk]
    have u4 : htN X m k = (X k).ht := by unfold htN; rw [if_pos hk]
    rw [u1, u2, u3, u4] at AT
    have ATT := Lib.hid AT
    clear AT u1 u2 u3 u4
    clear hP hX hU hQ e2 hf hn hs hnm
    dsimp only
    generalize sayQ ⟨nm.toArray⟩ L (X k).kind (X k).wd (X k).ht = R at EV ⊢
    have EVV := Lib.hid EV
    clear EV
    go_enter Try.func31, Try.ntmps31
    go_wp2_with fail
    refine (NR.out _ HB0.out).mono ?_
    rintro e w1 ⟨rfl, hb⟩
    have hx := (hb.block _ (blk_ltQ HX0.out)).trans HX0.out
    obtain ⟨q0, q1⟩ := q_cells hx
    have HB1 := Lib.hid (HB0.out.trans (hb.mono HB0.out.size))
    clear hb hx
    have k0 := cell_regrown q0
    have k1 := cell_regrown q1
    have cE : ∀ d os, Calls Try.prog 26 #[.agg #[.string ⟨nm.toArray⟩, .slice qa n c], .agg #[.int .i64 (X k).kind, .string ⟨(X k).name.toArray⟩, .int .i64 (X k).wd, .int .i64 (X k).ht]] (grow (redrawn w1 d) os) fun e w'' => e = .returned (.int .i64 R) ∧ ∃ p : Regrown, w'' = grow (redrawn w1 p.d) p.os := fun d os => Calls.regrown_of (EVV.out _ (HB1.out.trans ((below_regrown w1 d os).mono HB1.out.size)))
    have cA : ∀ d os, Calls Try.prog 58 #[.slice x m xc, .int .i64 (k : Int)] (grow (redrawn w1 d) os) fun e w'' => e = .returned (.agg #[.int .i64 (X k).kind, .string ⟨(X k).name.toArray⟩, .int .i64 (X k).wd, .int .i64 (X k).ht]) ∧ ∃ p : Regrown, w'' = grow (redrawn w1 p.d) p.os := fun d os => Calls.regrown_of (ATT.out _ (HB1.out.trans ((below_regrown w1 d os).mono HB1.out.size)))
    go_upto_region 4 with (fail)
    clear q0 q1
    refine wp_region_quiet_below (by kernel_rfl) (by kernel_rfl) ?_
    repeat (quiet_step (first | with_reducible exact cE _ _ | with_reducible exact cA _ _))
    refine wpQuiet_nil ?_
    intro _ hw'
    obtain ⟨⟨dq, osq⟩, hw''⟩ := hw'
    subst hw''
    go_wp2_with fail
    go_ret
    exact ⟨rfl, HB1.out.trans ((below_regrown _ _ _).mono HB1.out.size)⟩
end Go.Proofs.Ytjhhpilaaahicaa
