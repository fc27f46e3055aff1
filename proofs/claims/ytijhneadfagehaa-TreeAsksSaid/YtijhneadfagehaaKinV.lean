/- slices.Collect of kin.Ups; tree.Ups. -/
import Derived.Test.YtijhneadfagehaaKinU
namespace Go.Proofs.Ytijhneadfagehaa
open Go.RowKit TreP Go.Shelf
attribute [local go_sem] Oper.semAt_some
set_option linter.unusedVariables false

theorem ints_snoc (l : List Nat) (x : Nat) : ints (l ++ [x]) = ints l ++ [.int .i64 (x : Int)] := by unfold ints; simp

set_option maxRecDepth 100000 in
set_option maxHeartbeats 4000000 in
/-- what is appended to nothing out of an iterator -/
theorem kAppend_in (n : Nat) (hn : 3 ≤ n) (g : Nat) (lb : Array Value) (eg : ∀ args w, (callFunc g args).run Try.prog w = .ok (.enter g args) w) (U : List Nat) (hlen : U.length ≤ 100000) (w : World)
    (hseq : SeqStopsK Fence.wide (n - 1) Try.prog g lb (fun x : Nat => #[Value.int .i64 (x : Int)]) (Below w.heap.size) (fun ys => ys = U) (fun pre => pre <+: U) U.length (w.alloc (.cells #[.slice none 0 0] 26))) :
    CallsIn Fence.wide n Try.prog 29 #[.slice none 0 0, .func (.func g) #[] lb] w fun e w' => ∃ v, e = .returned v ∧ w'.ownsRow w.heap.size 3 1 v U.length (ints U) ∧ Below w.heap.size w w' := by
  have h1 : 1 ≤ n := by omega
  obtain ⟨i0, hi, hz0, hz1, hz2⟩ := info_parts info_int3
  refine callsIn_of_wp_marks Try.func29 rfl trivial ?_ rfl
  simp only [Try.ntmps29, List.size_toArray, List.length_cons, List.length_nil, Nat.reduceAdd, Nat.reduceSub, Array.replicate_succ, Array.replicate_zero, List.push_toArray, List.append_toArray, List.nil_append, List.cons_append]
  gi_wp2
  have bO := Boxed.new w 26 (.slice none 0 0)
  have hB0 : Below w.heap.size w (w.alloc (.cells #[.slice none 0 0] 26)) := (Below.refl _ w).alloc (Nat.le_refl _) _
  refine wpIn_rangeFunc_ownG rfl h1 (gf := g) (lb := lb) rfl trivial eg hseq belowK_t (belowK_b (by simp)) (Below.refl _ _) (fun _ => rfl)
    (fun pre W => (∃ v, Boxed W w.heap.size 26 v ∧ W.ownsRow w.heap.size 3 1 v pre.length (ints pre) ∧ (v = .slice none 0 0 ↔ pre = [])) ∧ Below w.heap.size w W)
    (fun _ _ _ => False)
    (OwnFrom.and (Own.from (holdsRow_own w.heap.size w.heap.size 26 3 1 (fun pre => pre.length) (fun pre => ints pre) (fun pre v => v = .slice none 0 0 ↔ pre = [])) _) (ownFrom_below (Nat.le_refl _) (by simp)))
    (fun _ _ _ _ _ hs _ _ => hs)
    ⟨⟨_, bO, World.ownsRow_nil _ _ _ _, by simp⟩, hB0⟩
    (fun x => { tmps := #[.slice none 0 0, .func (.func g) #[] lb, .pointer (some ⟨w.heap.size, 0, none⟩), undef, .slice none 0 0, .int .i64 (x : Int), .func (.func g) #[] lb, .int .i64 (x : Int), undef, undef, undef, undef, undef], defers := [] }) ?assign ?body ?done ?stop
  case assign =>
    intro l x W K hK
    gi_wp2
    exact hK
  case body =>
    rintro l pre x W ⟨⟨v, hv, hrow, hnil⟩, hB⟩ hlt
    have hc := hv.cell
    gi_wp2_with (gi_at_builtin; refine wpListIn_append_own _ rfl _ _ 26 rfl w.heap.size 3 i0 (.int .i64 0) 1 8 Try.underlying26 hi hz0 hz1 hz2 rfl (by decide) _ _ _ rfl (hrow.alloc _) ⟨W.heap.size, 0, none⟩ 1 1 [.int .i64 (x : Int)] rfl rfl (cell_one_new _ _ _) (by simp [Value.oneCell']) (by unfold maxLen; omega) (by omega) (by have := hB.size; simp; omega) ?_; intro v' w1 hown' hgrow _; obtain ⟨g', cap', rfl⟩ := ownsRow_succ hown'; obtain ⟨hv1, hv2, hr2, hk2, hb2⟩ := hv.appended (by decide) hrow hB.size (Nat.le_refl _) hown' hgrow; have hc1 := hv1.cell; have hf1 := hv1.frozen)
    exact ⟨hk2.from _, hb2, ⟨_, hv2, by rw [ints_snoc, List.length_append, List.length_singleton]; exact hr2, by simp⟩, hB.trans hb2⟩
  case done =>
    rintro D ys W hD rfl ⟨⟨v, hv, hrow, hnil⟩, hB⟩ hK
    have hc := hv.cell
    gi_wp2
    refine ⟨by simp, .inl ⟨_, _, rfl, run_takeDeferred hK, ?_⟩⟩
    exact ⟨_, results_tmp rfl _ _ _, v, rfl, ownsRow_putObj hrow _ hK rfl, hB.trans (belowK_b (w := w) (Nat.le_refl _) W D _ _ (by simp at hD; omega) hK rfl rfl)⟩
  case stop =>
    rintro D c pre W _ _ h _
    exact h.elim

set_option maxRecDepth 100000 in
set_option maxHeartbeats 2000000 in
/-- what is collected out of an iterator -/
theorem kCollect_any (g : Nat) (lb : Array Value) (eg : ∀ args w, (callFunc g args).run Try.prog w = .ok (.enter g args) w) (U : List Nat) (hlen : U.length ≤ 100000) (w : World)
    (hseq : SeqStopsK Fence.wide 5 Try.prog g lb (fun x : Nat => #[Value.int .i64 (x : Int)]) (Below w.heap.size) (fun ys => ys = U) (fun pre => pre <+: U) U.length (w.alloc (.cells #[.slice none 0 0] 26))) :
    Calls Try.prog 19 #[.func (.func g) #[] lb] w fun e w' => ∃ v, e = .returned v ∧ w'.ownsRow w.heap.size 3 1 v U.length (ints U) ∧ Below w.heap.size w w' := by
  have C := Lib.hid ((callsIn_wide (n := 6)).1 (kAppend_in 6 (by omega) g lb eg U hlen w hseq))
  clear hseq
  go_enter Try.func19, Try.ntmps19
  go_wp2_with fail
  refine C.out.mono ?_
  rintro e w' ⟨v, rfl, hr, hb⟩
  have HR := Lib.hid hr
  have HB := Lib.hid hb
  clear hr hb
  go_wp2_with fail
  go_ret
  exact ⟨v, rfl, HR.out, HB.out⟩

set_option maxRecDepth 100000 in
set_option maxHeartbeats 2000000 in
theorem kUps_any (a : Option Addr) (len cap : Nat) (i : Int) (w : World) : Calls Try.prog 20 #[.slice a len cap, .int .i64 i] w fun e w' => e = .returned (.func (.func 30) #[] #[.pointer (some ⟨w.heap.size, 0, none⟩), .pointer (some ⟨w.heap.size + 1, 0, none⟩)]) ∧ w' = (w.alloc (.cells #[.slice a len cap] 22)).alloc (.cells #[.int .i64 i] 3) := by
  have hmf : ∀ (fn : Fn) (first cap : Array Value) (w : World), (Instr.makeFunc fn first cap).run Try.prog w = .ok (.func fn first cap) w := fun _ _ _ _ => rfl
  go_enter Try.func20, Try.ntmps20
  go_wp2_with fail
  go_ret
  exact ⟨rfl, rfl⟩

theorem UpsIs.len {f : Nat → Int} {len : Nat} {i : Int} {U : List Nat} (h : UpsIs f len i U) : U.length ≤ len := by
  rcases h with ⟨k, rfl, hk, rfl⟩ | ⟨_, rfl⟩
  · have := ups_length f k; omega
  · simp

set_option maxRecDepth 100000 in
set_option maxHeartbeats 4000000 in
theorem Ups_is (a : Option Addr) (len cap : Nat) (f : Nat → Int) (i : Int) (U : List Nat) (w : World) (hl : len ≤ 100000) (hU : UpsIs f len i U) (hP : Pars w a len f) :
    Calls Try.prog 8 #[.slice a len cap, .int .i64 i] w (Told w U) := by
  have K := Lib.hid (kUps_any a len cap i w)
  have hb : Below w.heap.size w ((w.alloc (.cells #[.slice a len cap] 22)).alloc (.cells #[.int .i64 i] 3)) := ((Below.refl _ w).alloc (Nat.le_refl _) _).alloc (by simp) _
  have h1 : ((w.alloc (.cells #[.slice a len cap] 22)).alloc (.cells #[.int .i64 i] 3)).cell? ⟨w.heap.size, 0, none⟩ = some (.slice a len cap) := (Boxed.new w 22 (.slice a len cap)).alloc _ |>.cell
  have h2 : ((w.alloc (.cells #[.slice a len cap] 22)).alloc (.cells #[.int .i64 i] 3)).cell? ⟨w.heap.size + 1, 0, none⟩ = some (.int .i64 i) := by
    have h := (Boxed.new (w.alloc (.cells #[.slice a len cap] 22)) 3 (.int .i64 i)).cell
    rwa [World.size_alloc] at h
  have hs : ((w.alloc (.cells #[.slice a len cap] 22)).alloc (.cells #[.int .i64 i] 3)).heap.size = w.heap.size + 2 := by simp
  generalize (w.alloc (.cells #[.slice a len cap] 22)).alloc (.cells #[.int .i64 i] 3) = w1 at *
  have hb1 : Below w1.heap.size w1 (w1.alloc (.cells #[.slice none 0 0] 26)) := (Below.refl _ w1).alloc (Nat.le_refl _) _
  have hlen : U.length ≤ 100000 := by have := hU.len; omega
  have hst := kups_stops 5 (by omega) w.heap.size (w.heap.size + 1) w1.heap.size a len cap f i U hU (w1.alloc (.cells #[.slice none 0 0] 26)) hb1.size (by omega) (by omega) ((hb1.cell (p := ⟨w.heap.size, 0, none⟩) (by show w.heap.size < _; omega)).trans h1) ((hb1.cell (p := ⟨w.heap.size + 1, 0, none⟩) (by show w.heap.size + 1 < _; omega)).trans h2) (fun W' hW => hP.below (hb.trans ((hb1.trans hW).mono hb.size)))
  have C := Lib.hid (kCollect_any 30 _ (enters_of Try.func30 (by kernel_rfl) rfl) U hlen w1 hst)
  have HB := Lib.hid hb
  clear hst hP hU h1 h2 hb hb1 hs hlen
  go_enter Try.func8, Try.ntmps8
  go_wp2_with fail
  refine K.out.mono ?_
  rintro e w' ⟨rfl, rfl⟩
  go_wp2_with fail
  refine C.out.mono ?_
  rintro e w2 ⟨v, rfl, hr, hb2⟩
  have HR := Lib.hid hr
  have HB2 := Lib.hid (HB.out.trans (hb2.mono HB.out.size))
  clear hr hb2
  go_wp2_with fail
  go_ret
  have hr := HR.out
  obtain ⟨ad, c, rfl⟩ := own_slice hr
  exact ⟨ad, c, rfl, HB2.out, NL_own hr⟩

theorem Ups_any (a : Option Addr) (len cap : Nat) (f : Nat → Int) (i : Nat) (w : World) (hl : len ≤ 100000) (h : i < len) (hP : Pars w a len f) :
    Calls Try.prog 8 #[.slice a len cap, .int .i64 (i : Int)] w (Told w (ups f i)) := Ups_is a len cap f i _ w hl (Or.inl ⟨i, rfl, h, rfl⟩) hP
theorem Ups_no (a : Option Addr) (len cap : Nat) (f : Nat → Int) (i : Int) (w : World) (hl : len ≤ 100000) (h : i < 0 ∨ (len : Int) ≤ i) (hP : Pars w a len f) :
    Calls Try.prog 8 #[.slice a len cap, .int .i64 i] w (Told w []) := Ups_is a len cap f i _ w hl (Or.inr ⟨h, rfl⟩) hP
end Go.Proofs.Ytijhneadfagehaa
