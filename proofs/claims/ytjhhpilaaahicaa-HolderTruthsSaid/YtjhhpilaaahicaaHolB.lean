/- Layer 15: the nearest one that will do. -/
import Derived.Test.YtjhhpilaaahicaaHolA
import Derived.RangeFuncNested
namespace Go.Proofs.Ytjhhpilaaahicaa
open Go.RowKit TreP Go.Shelf
attribute [local go_sem] Oper.semAt_some
set_option linter.unusedVariables false

def firstN (P : Nat → Bool) (U : List Nat) : Int := match U.find? P with | some k => (k : Int) | none => -1
theorem firstN_some {P : Nat → Bool} {U : List Nat} {k : Nat} (h : U.find? P = some k) : firstN P U = (k : Int) := by unfold firstN; rw [h]
theorem firstN_none {P : Nat → Bool} {U : List Nat} (h : U.find? P = none) : firstN P U = -1 := by unfold firstN; rw [h]
theorem find_pre {P : Nat → Bool} {p U : List Nat} {k : Nat} (hp : p <+: U) (h : p.find? P = some k) : U.find? P = some k := by
  obtain ⟨t, rfl⟩ := hp
  rw [List.find?_append, h]; rfl
theorem find_snoc {P : Nat → Bool} {p : List Nat} {k : Nat} (h : p.find? P = none) (hk : P k = true) : (p ++ [k]).find? P = some k := by rw [List.find?_append, h]; simp [hk]
theorem find_snoc_no {P : Nat → Bool} {p : List Nat} {k : Nat} (h : p.find? P = none) (hk : P k = false) : (p ++ [k]).find? P = none := by rw [List.find?_append, h]; simp [hk]
theorem others_below {W W' : World} (h : Below W.heap.size W W') : KeepsOthers W W' := ⟨h.size, fun k o ho _ => (h.block k (Array.getElem?_eq_some_iff.1 ho).1).trans ho⟩

set_option maxRecDepth 100000 in
set_option maxHeartbeats 4000000 in
theorem nearest_wide (a : Option Addr) (len cap : Nat) (f : Nat → Int) (i : Int) (U : List Nat) (hU : UpsIs f len i U) (hl : len ≤ 100000) (x : Option Addr) (m xc : Nat) (P : Nat → Bool) (w : World) (hP : Pars w a len f)
    (HC : ∀ W', Below w.heap.size w W' → ∀ k : Nat, Calls Try.prog 96 #[.slice x m xc, .int .i64 (k : Int)] W' fun e w' => e = .returned (.bool (P k)) ∧ Below W'.heap.size W' w') :
    Calls Try.prog 95 #[.slice a len cap, .int .i64 i, .func (.func 96) #[.slice x m xc] #[]] w fun e w' => e = .returned (.int .i64 (firstN P U)) ∧ Below w.heap.size w w' := by
  have HC := Lib.hid HC
  obtain ⟨n, hn⟩ : ∃ n : Nat, 6 ≤ n := ⟨6, Nat.le_refl _⟩
  refine (callsIn_wide (n := n)).1 ?_
  have h1 : 1 ≤ n := by omega
  have h2 : 1 ≤ n - 1 := by omega
  have h3 : 1 ≤ n - 1 - 1 := by omega
  have hf1 : Fence.wide.fn 132 := trivial
  have hf2 : Fence.wide.fn 96 := trivial
  refine callsIn_of_wp_marks Try.func95 rfl trivial ?_ rfl
  simp only [Try.ntmps95, List.size_toArray, List.length_cons, List.length_nil, Nat.reduceAdd, Nat.reduceSub, Array.replicate_succ, Array.replicate_zero, List.push_toArray, List.append_toArray, List.nil_append, List.cons_append]
  gi_wp2_with (gi_at_call 132; refine (callsIn_wide.2 (kUps_any _ _ _ _ _)).mono ?_; rintro e w' ⟨rfl, rfl⟩)
  have b0 := Boxed.new w 77 (.func (.func 96) #[.slice x m xc] #[])
  have b1 := Boxed.new (w.alloc (.cells #[.func (.func 96) #[.slice x m xc] #[]] 77)) 3 (.int .i64 0)
  have b2 := Boxed.new ((w.alloc (.cells #[.func (.func 96) #[.slice x m xc] #[]] 77)).alloc (.cells #[.int .i64 0] 3)) 54 (.slice a len cap)
  have b3 := Boxed.new (((w.alloc (.cells #[.func (.func 96) #[.slice x m xc] #[]] 77)).alloc (.cells #[.int .i64 0] 3)).alloc (.cells #[.slice a len cap] 54)) 3 (.int .i64 i)
  simp only [World.size_alloc] at b1 b2 b3
  have hB0 : Below w.heap.size w ((((w.alloc (.cells #[.func (.func 96) #[.slice x m xc] #[]] 77)).alloc (.cells #[.int .i64 0] 3)).alloc (.cells #[.slice a len cap] 54)).alloc (.cells #[.int .i64 i] 3)) := ((((Below.refl _ w).alloc (Nat.le_refl _) _).alloc (by simp) _).alloc (by simp; omega) _).alloc (by simp; omega) _
  refine wpIn_rangeFunc_ownF rfl h1 (gf := 158) (lb := #[.pointer (some ⟨w.heap.size + 1 + 1, 0, none⟩), .pointer (some ⟨w.heap.size + 1 + 1 + 1, 0, none⟩)]) rfl trivial (enters_of Try.func158 (by kernel_rfl) rfl)
    (kups_stops (n - 1) (by omega) (w.heap.size + 1 + 1) (w.heap.size + 1 + 1 + 1) (w.heap.size + 1 + 1 + 1 + 1) a len cap f i U hU _ (by simp) (by omega) (by omega) (b2.alloc _).cell b3.cell (fun W' hW => hP.below (hB0.trans (hW.mono (by omega))))) belowK_t (belowK_b (by simp)) (Below.refl _ _) (fun _ => rfl)
    (fun pre W => (pre.find? P = none ∧ Boxed W w.heap.size 77 (.func (.func 96) #[.slice x m xc] #[]) ∧ Boxed W (w.heap.size + 1) 3 (.int .i64 0) ∧ w.heap.size + 1 + 1 + 1 + 1 ≤ W.heap.size) ∧ Below w.heap.size w W)
    (fun c pre W => (c = .ret ∧ ∃ k : Nat, pre.find? P = some k ∧ W.cell? ⟨w.heap.size + 1, 0, none⟩ = some (.int .i64 (k : Int))) ∧ Below w.heap.size w W)
    (OwnFrom.and (Own.from (fun s A B row hs hg hr => ⟨hs.1, boxed_own _ _ (fun _ : List Nat => .func (.func 96) #[.slice x m xc] #[]) s A B row hs.2.1 hg hr, boxed_own _ _ (fun _ : List Nat => .int .i64 0) s A B row hs.2.2.1 hg hr, Nat.le_trans hs.2.2.2 hg.size⟩) _) (ownFrom_below (Nat.le_refl _) (by simp; omega)))
    (fun c => OwnFrom.and (Own.from (fun s A B row hs hg hr => ⟨hs.1, by obtain ⟨k, q1, q2⟩ := hs.2; exact ⟨k, q1, cell_kept q2 hg hr⟩⟩) _) (ownFrom_below (Nat.le_refl _) (by simp; omega)))
    ⟨⟨rfl, ((b0.alloc _).alloc _).alloc _, (b1.alloc _).alloc _, by simp⟩, hB0⟩
    (fun z => { tmps := #[.slice a len cap, .int .i64 i, .func (.func 96) #[.slice x m xc] #[], undef, undef, .pointer (some ⟨w.heap.size, 0, none⟩), .pointer (some ⟨w.heap.size + 1, 0, none⟩), .int .i64 (z : Int), .slice a len cap, .int .i64 i, .func (.func 158) #[] #[.pointer (some ⟨w.heap.size + 1 + 1, 0, none⟩), .pointer (some ⟨w.heap.size + 1 + 1 + 1, 0, none⟩)], .int .i64 (z : Int), undef, undef, undef, undef], defers := [] }) ?assign ?body ?done ?stop
  case assign =>
    intro l z W K hK
    gi_wp2
    exact hK
  case body =>
    rintro l pre z W ⟨⟨hp, hv, hr, hsz⟩, hB⟩ _
    have hc := hv.cell
    have HB := Lib.hid hB
    have C := HC.out W hB z
    obtain ⟨pb, hpb⟩ : ∃ pb, P z = pb := ⟨_, rfl⟩
    rw [hpb] at C
    have HP := Lib.hid hpb
    have HV := Lib.hid hv
    have HR := Lib.hid hr
    have hlt : w.heap.size + 1 < W.heap.size := hr.lt
    clear hpb hv hr hB
    cases pb with
    | true =>
      gi_wp2_with (first
        | (gi_at_call 96; refine (CallsIn.inRound l (callsIn_wide.2 C)).mono ?_; rintro e w2 ⟨rfl, hb2⟩; have HB2 := Lib.hid hb2; have hr2 : Boxed w2 (w.heap.size + 1) 3 (.int .i64 0) := (hb2.block _ hlt).trans HR.out; have hc2 := hr2.cell; have hf2 := hr2.frozen; clear hb2)
        | (refine ⟨trivial, ?_⟩; gi_at_call 96; refine (CallsIn.inRound l (callsIn_wide.2 C)).mono ?_; rintro e w2 ⟨rfl, hb2⟩; have HB2 := Lib.hid hb2; have hr2 : Boxed w2 (w.heap.size + 1) 3 (.int .i64 0) := (hb2.block _ hlt).trans HR.out; have hc2 := hr2.cell; have hf2 := hr2.frozen; clear hb2))
      exact ⟨(others_below HB2.out).trans (KeepsOthers.setCell _ _ _), ⟨rfl, z, find_snoc hp HP.out, World.cell?_setCell_same' _ _ _ (by rw [hc2]; rfl)⟩, (HB.out.trans (HB2.out.mono HB.out.size)).setCell (p := ⟨w.heap.size + 1, 0, none⟩) (by simp) _⟩
    | false =>
      gi_wp2_with (first
        | (gi_at_call 96; refine (CallsIn.inRound l (callsIn_wide.2 C)).mono ?_; rintro e w2 ⟨rfl, hb2⟩; have HB2 := Lib.hid hb2; clear hb2)
        | (refine ⟨trivial, ?_⟩; gi_at_call 96; refine (CallsIn.inRound l (callsIn_wide.2 C)).mono ?_; rintro e w2 ⟨rfl, hb2⟩; have HB2 := Lib.hid hb2; clear hb2))
      exact ⟨others_below HB2.out, HB2.out.mono (by omega), ⟨find_snoc_no hp HP.out, (HB2.out.block _ (by omega)).trans HV.out, (HB2.out.block _ hlt).trans HR.out, Nat.le_trans hsz HB2.out.size⟩, HB.out.trans (HB2.out.mono HB.out.size)⟩
  case done =>
    rintro D ys W hD rfl ⟨⟨hne, _, hr, _⟩, hB⟩ hK
    have hcr := hr.cell
    have hfr := hr.frozen
    gi_wp2
    have hK' := (KeepsOthers.setCell W ⟨w.heap.size + 1, 0, none⟩ (.int .i64 (-1))).same D _ hK rfl
    refine ⟨by simp, .inl ⟨_, _, rfl, run_takeDeferred hK', ?_⟩⟩
    have hc5 := cell_kept (World.cell?_setCell_same' W ⟨w.heap.size + 1, 0, none⟩ (.int .i64 (-1)) (by rw [hcr]; rfl)) (grownBy_putObj' _ D (.deferred none)) (fun r e => by cases e; exact ⟨_, hK', rfl⟩)
    refine ⟨.int .i64 (-1), ?_, by rw [firstN_none hne], (hB.setCell (p := ⟨w.heap.size + 1, 0, none⟩) (by simp) _).trans (belowK_b (w := w) (Nat.le_refl _) _ D _ _ (by simp at hD; omega) hK' rfl rfl)⟩
    simp [results, Try.f95, go_sem, hc5]
  case stop =>
    rintro D c pre W hD hpre ⟨⟨rfl, k, hin, hcr⟩, hB⟩ hK
    gi_wp2
    refine ⟨by simp, .inl ⟨_, _, rfl, run_takeDeferred hK, ?_⟩⟩
    have hc5 := cell_kept hcr (grownBy_putObj' _ D (.deferred none)) (fun r e => by cases e; exact ⟨_, hK, rfl⟩)
    refine ⟨.int .i64 (k : Int), ?_, by rw [firstN_some (find_pre hpre hin)], hB.trans (belowK_b (w := w) (Nat.le_refl _) W D _ _ (by simp at hD; omega) hK rfl rfl)⟩
    simp [results, Try.f95, go_sem, hc5]

set_option maxRecDepth 100000 in
set_option maxHeartbeats 4000000 in
theorem nearest_whole (a : Option Addr) (len cap : Nat) (f : Nat → Int) (i : Int) (U : List Nat) (hU : UpsIs f len i U) (hl : len ≤ 100000) (x : Option Addr) (m xc : Nat) (P : Nat → Bool) (w : World) (hP : Pars w a len f)
    (HC : ∀ W', Below w.heap.size w W' → ∀ k : Nat, Calls Try.prog 97 #[.slice x m xc, .int .i64 (k : Int)] W' fun e w' => e = .returned (.bool (P k)) ∧ Below W'.heap.size W' w') :
    Calls Try.prog 95 #[.slice a len cap, .int .i64 i, .func (.func 97) #[.slice x m xc] #[]] w fun e w' => e = .returned (.int .i64 (firstN P U)) ∧ Below w.heap.size w w' := by
  have HC := Lib.hid HC
  obtain ⟨n, hn⟩ : ∃ n : Nat, 6 ≤ n := ⟨6, Nat.le_refl _⟩
  refine (callsIn_wide (n := n)).1 ?_
  have h1 : 1 ≤ n := by omega
  have h2 : 1 ≤ n - 1 := by omega
  have h3 : 1 ≤ n - 1 - 1 := by omega
  have hf1 : Fence.wide.fn 132 := trivial
  have hf2 : Fence.wide.fn 97 := trivial
  refine callsIn_of_wp_marks Try.func95 rfl trivial ?_ rfl
  simp only [Try.ntmps95, List.size_toArray, List.length_cons, List.length_nil, Nat.reduceAdd, Nat.reduceSub, Array.replicate_succ, Array.replicate_zero, List.push_toArray, List.append_toArray, List.nil_append, List.cons_append]
  gi_wp2_with (gi_at_call 132; refine (callsIn_wide.2 (kUps_any _ _ _ _ _)).mono ?_; rintro e w' ⟨rfl, rfl⟩)
  have b0 := Boxed.new w 77 (.func (.func 97) #[.slice x m xc] #[])
  have b1 := Boxed.new (w.alloc (.cells #[.func (.func 97) #[.slice x m xc] #[]] 77)) 3 (.int .i64 0)
  have b2 := Boxed.new ((w.alloc (.cells #[.func (.func 97) #[.slice x m xc] #[]] 77)).alloc (.cells #[.int .i64 0] 3)) 54 (.slice a len cap)
  have b3 := Boxed.new (((w.alloc (.cells #[.func (.func 97) #[.slice x m xc] #[]] 77)).alloc (.cells #[.int .i64 0] 3)).alloc (.cells #[.slice a len cap] 54)) 3 (.int .i64 i)
  simp only [World.size_alloc] at b1 b2 b3
  have hB0 : Below w.heap.size w ((((w.alloc (.cells #[.func (.func 97) #[.slice x m xc] #[]] 77)).alloc (.cells #[.int .i64 0] 3)).alloc (.cells #[.slice a len cap] 54)).alloc (.cells #[.int .i64 i] 3)) := ((((Below.refl _ w).alloc (Nat.le_refl _) _).alloc (by simp) _).alloc (by simp; omega) _).alloc (by simp; omega) _
  refine wpIn_rangeFunc_ownF rfl h1 (gf := 158) (lb := #[.pointer (some ⟨w.heap.size + 1 + 1, 0, none⟩), .pointer (some ⟨w.heap.size + 1 + 1 + 1, 0, none⟩)]) rfl trivial (enters_of Try.func158 (by kernel_rfl) rfl)
    (kups_stops (n - 1) (by omega) (w.heap.size + 1 + 1) (w.heap.size + 1 + 1 + 1) (w.heap.size + 1 + 1 + 1 + 1) a len cap f i U hU _ (by simp) (by omega) (by omega) (b2.alloc _).cell b3.cell (fun W' hW => hP.below (hB0.trans (hW.mono (by omega))))) belowK_t (belowK_b (by simp)) (Below.refl _ _) (fun _ => rfl)
    (fun pre W => (pre.find? P = none ∧ Boxed W w.heap.size 77 (.func (.func 97) #[.slice x m xc] #[]) ∧ Boxed W (w.heap.size + 1) 3 (.int .i64 0) ∧ w.heap.size + 1 + 1 + 1 + 1 ≤ W.heap.size) ∧ Below w.heap.size w W)
    (fun c pre W => (c = .ret ∧ ∃ k : Nat, pre.find? P = some k ∧ W.cell? ⟨w.heap.size + 1, 0, none⟩ = some (.int .i64 (k : Int))) ∧ Below w.heap.size w W)
    (OwnFrom.and (Own.from (fun s A B row hs hg hr => ⟨hs.1, boxed_own _ _ (fun _ : List Nat => .func (.func 97) #[.slice x m xc] #[]) s A B row hs.2.1 hg hr, boxed_own _ _ (fun _ : List Nat => .int .i64 0) s A B row hs.2.2.1 hg hr, Nat.le_trans hs.2.2.2 hg.size⟩) _) (ownFrom_below (Nat.le_refl _) (by simp; omega)))
    (fun c => OwnFrom.and (Own.from (fun s A B row hs hg hr => ⟨hs.1, by obtain ⟨k, q1, q2⟩ := hs.2; exact ⟨k, q1, cell_kept q2 hg hr⟩⟩) _) (ownFrom_below (Nat.le_refl _) (by simp; omega)))
    ⟨⟨rfl, ((b0.alloc _).alloc _).alloc _, (b1.alloc _).alloc _, by simp⟩, hB0⟩
    (fun z => { tmps := #[.slice a len cap, .int .i64 i, .func (.func 97) #[.slice x m xc] #[], undef, undef, .pointer (some ⟨w.heap.size, 0, none⟩), .pointer (some ⟨w.heap.size + 1, 0, none⟩), .int .i64 (z : Int), .slice a len cap, .int .i64 i, .func (.func 158) #[] #[.pointer (some ⟨w.heap.size + 1 + 1, 0, none⟩), .pointer (some ⟨w.heap.size + 1 + 1 + 1, 0, none⟩)], .int .i64 (z : Int), undef, undef, undef, undef], defers := [] }) ?assign ?body ?done ?stop
  case assign =>
    intro l z W K hK
    gi_wp2
    exact hK
  case body =>
    rintro l pre z W ⟨⟨hp, hv, hr, hsz⟩, hB⟩ _
    have hc := hv.cell
    have HB := Lib.hid hB
    have C := HC.out W hB z
    obtain ⟨pb, hpb⟩ : ∃ pb, P z = pb := ⟨_, rfl⟩
    rw [hpb] at C
    have HP := Lib.hid hpb
    have HV := Lib.hid hv
    have HR := Lib.hid hr
    have hlt : w.heap.size + 1 < W.heap.size := hr.lt
    clear hpb hv hr hB
    cases pb with
    | true =>
      gi_wp2_with (first
        | (gi_at_call 97; refine (CallsIn.inRound l (callsIn_wide.2 C)).mono ?_; rintro e w2 ⟨rfl, hb2⟩; have HB2 := Lib.hid hb2; have hr2 : Boxed w2 (w.heap.size + 1) 3 (.int .i64 0) := (hb2.block _ hlt).trans HR.out; have hc2 := hr2.cell; have hf2 := hr2.frozen; clear hb2)
        | (refine ⟨trivial, ?_⟩; gi_at_call 97; refine (CallsIn.inRound l (callsIn_wide.2 C)).mono ?_; rintro e w2 ⟨rfl, hb2⟩; have HB2 := Lib.hid hb2; have hr2 : Boxed w2 (w.heap.size + 1) 3 (.int .i64 0) := (hb2.block _ hlt).trans HR.out; have hc2 := hr2.cell; have hf2 := hr2.frozen; clear hb2))
      exact ⟨(others_below HB2.out).trans (KeepsOthers.setCell _ _ _), ⟨rfl, z, find_snoc hp HP.out, World.cell?_setCell_same' _ _ _ (by rw [hc2]; rfl)⟩, (HB.out.trans (HB2.out.mono HB.out.size)).setCell (p := ⟨w.heap.size + 1, 0, none⟩) (by simp) _⟩
    | false =>
      gi_wp2_with (first
        | (gi_at_call 97; refine (CallsIn.inRound l (callsIn_wide.2 C)).mono ?_; rintro e w2 ⟨rfl, hb2⟩; have HB2 := Lib.hid hb2; clear hb2)
        | (refine ⟨trivial, ?_⟩; gi_at_call 97; refine (CallsIn.inRound l (callsIn_wide.2 C)).mono ?_; rintro e w2 ⟨rfl, hb2⟩; have HB2 := Lib.hid hb2; clear hb2))
      exact ⟨others_below HB2.out, HB2.out.mono (by omega), ⟨find_snoc_no hp HP.out, (HB2.out.block _ (by omega)).trans HV.out, (HB2.out.block _ hlt).trans HR.out, Nat.le_trans hsz HB2.out.size⟩, HB.out.trans (HB2.out.mono HB.out.size)⟩
  case done =>
    rintro D ys W hD rfl ⟨⟨hne, _, hr, _⟩, hB⟩ hK
    have hcr := hr.cell
    have hfr := hr.frozen
    gi_wp2
    have hK' := (KeepsOthers.setCell W ⟨w.heap.size + 1, 0, none⟩ (.int .i64 (-1))).same D _ hK rfl
    refine ⟨by simp, .inl ⟨_, _, rfl, run_takeDeferred hK', ?_⟩⟩
    have hc5 := cell_kept (World.cell?_setCell_same' W ⟨w.heap.size + 1, 0, none⟩ (.int .i64 (-1)) (by rw [hcr]; rfl)) (grownBy_putObj' _ D (.deferred none)) (fun r e => by cases e; exact ⟨_, hK', rfl⟩)
    refine ⟨.int .i64 (-1), ?_, by rw [firstN_none hne], (hB.setCell (p := ⟨w.heap.size + 1, 0, none⟩) (by simp) _).trans (belowK_b (w := w) (Nat.le_refl _) _ D _ _ (by simp at hD; omega) hK' rfl rfl)⟩
    simp [results, Try.f95, go_sem, hc5]
  case stop =>
    rintro D c pre W hD hpre ⟨⟨rfl, k, hin, hcr⟩, hB⟩ hK
    gi_wp2
    refine ⟨by simp, .inl ⟨_, _, rfl, run_takeDeferred hK, ?_⟩⟩
    have hc5 := cell_kept hcr (grownBy_putObj' _ D (.deferred none)) (fun r e => by cases e; exact ⟨_, hK, rfl⟩)
    refine ⟨.int .i64 (k : Int), ?_, by rw [firstN_some (find_pre hpre hin)], hB.trans (belowK_b (w := w) (Nat.le_refl _) W D _ _ (by simp at hD; omega) hK rfl rfl)⟩
    simp [results, Try.f95, go_sem, hc5]

set_option maxRecDepth 100000 in
set_option maxHeartbeats 4000000 in
theorem nearest_named (a : Option Addr) (len cap : Nat) (f : Nat → Int) (i : Int) (U : List Nat) (hU : UpsIs f len i U) (hl : len ≤ 100000) (Bx Bn : Nat) (P : Nat → Bool) (w : World) (hP : Pars w a len f)
    (HC : ∀ W', Below w.heap.size w W' → ∀ k : Nat, Calls Try.prog 134 #[.int .i64 (k : Int), .pointer (some ⟨Bx, 0, none⟩), .pointer (some ⟨Bn, 0, none⟩)] W' fun e w' => e = .returned (.bool (P k)) ∧ Below W'.heap.size W' w') :
    Calls Try.prog 95 #[.slice a len cap, .int .i64 i, .func (.func 134) #[] #[.pointer (some ⟨Bx, 0, none⟩), .pointer (some ⟨Bn, 0, none⟩)]] w fun e w' => e = .returned (.int .i64 (firstN P U)) ∧ Below w.heap.size w w' := by
  have HC := Lib.hid HC
  obtain ⟨n, hn⟩ : ∃ n : Nat, 6 ≤ n := ⟨6, Nat.le_refl _⟩
  refine (callsIn_wide (n := n)).1 ?_
  have h1 : 1 ≤ n := by omega
  have h2 : 1 ≤ n - 1 := by omega
  have h3 : 1 ≤ n - 1 - 1 := by omega
  have hf1 : Fence.wide.fn 132 := trivial
  have hf2 : Fence.wide.fn 134 := trivial
  refine callsIn_of_wp_marks Try.func95 rfl trivial ?_ rfl
  simp only [Try.ntmps95, List.size_toArray, List.length_cons, List.length_nil, Nat.reduceAdd, Nat.reduceSub, Array.replicate_succ, Array.replicate_zero, List.push_toArray, List.append_toArray, List.nil_append, List.cons_append]
  gi_wp2_with (gi_at_call 132; refine (callsIn_wide.2 (kUps_any _ _ _ _ _)).mono ?_; rintro e w' ⟨rfl, rfl⟩)
  have b0 := Boxed.new w 77 (.func (.func 134) #[] #[.pointer (some ⟨Bx, 0, none⟩), .pointer (some ⟨Bn, 0, none⟩)])
  have b1 := Boxed.new (w.alloc (.cells #[.func (.func 134) #[] #[.pointer (some ⟨Bx, 0, none⟩), .pointer (some ⟨Bn, 0, none⟩)]] 77)) 3 (.int .i64 0)
  have b2 := Boxed.new ((w.alloc (.cells #[.func (.func 134) #[] #[.pointer (some ⟨Bx, 0, none⟩), .pointer (some ⟨Bn, 0, none⟩)]] 77)).alloc (.cells #[.int .i64 0] 3)) 54 (.slice a len cap)
  have b3 := Boxed.new (((w.alloc (.cells #[.func (.func 134) #[] #[.pointer (some ⟨Bx, 0, none⟩), .pointer (some ⟨Bn, 0, none⟩)]] 77)).alloc (.cells #[.int .i64 0] 3)).alloc (.cells #[.slice a len cap] 54)) 3 (.int .i64 i)
  simp only [World.size_alloc] at b1 b2 b3
  have hB0 : Below w.heap.size w ((((w.alloc (.cells #[.func (.func 134) #[] #[.pointer (some ⟨Bx, 0, none⟩), .pointer (some ⟨Bn, 0, none⟩)]] 77)).alloc (.cells #[.int .i64 0] 3)).alloc (.cells #[.slice a len cap] 54)).alloc (.cells #[.int .i64 i] 3)) := ((((Below.refl _ w).alloc (Nat.le_refl _) _).alloc (by simp) _).alloc (by simp; omega) _).alloc (by simp; omega) _
  refine wpIn_rangeFunc_ownF rfl h1 (gf := 158) (lb := #[.pointer (some ⟨w.heap.size + 1 + 1, 0, none⟩), .pointer (some ⟨w.heap.size + 1 + 1 + 1, 0, none⟩)]) rfl trivial (enters_of Try.func158 (by kernel_rfl) rfl)
    (kups_stops (n - 1) (by omega) (w.heap.size + 1 + 1) (w.heap.size + 1 + 1 + 1) (w.heap.size + 1 + 1 + 1 + 1) a len cap f i U hU _ (by simp) (by omega) (by omega) (b2.alloc _).cell b3.cell (fun W' hW => hP.below (hB0.trans (hW.mono (by omega))))) belowK_t (belowK_b (by simp)) (Below.refl _ _) (fun _ => rfl)
    (fun pre W => (pre.find? P = none ∧ Boxed W w.heap.size 77 (.func (.func 134) #[] #[.pointer (some ⟨Bx, 0, none⟩), .pointer (some ⟨Bn, 0, none⟩)]) ∧ Boxed W (w.heap.size + 1) 3 (.int .i64 0) ∧ w.heap.size + 1 + 1 + 1 + 1 ≤ W.heap.size) ∧ Below w.heap.size w W)
    (fun c pre W => (c = .ret ∧ ∃ k : Nat, pre.find? P = some k ∧ W.cell? ⟨w.heap.size + 1, 0, none⟩ = some (.int .i64 (k : Int))) ∧ Below w.heap.size w W)
    (OwnFrom.and (Own.from (fun s A B row hs hg hr => ⟨hs.1, boxed_own _ _ (fun _ : List Nat => .func (.func 134) #[] #[.pointer (some ⟨Bx, 0, none⟩), .pointer (some ⟨Bn, 0, none⟩)]) s A B row hs.2.1 hg hr, boxed_own _ _ (fun _ : List Nat => .int .i64 0) s A B row hs.2.2.1 hg hr, Nat.le_trans hs.2.2.2 hg.size⟩) _) (ownFrom_below (Nat.le_refl _) (by simp; omega)))
    (fun c => OwnFrom.and (Own.from (fun s A B row hs hg hr => ⟨hs.1, by obtain ⟨k, q1, q2⟩ := hs.2; exact ⟨k, q1, cell_kept q2 hg hr⟩⟩) _) (ownFrom_below (Nat.le_refl _) (by simp; omega)))
    ⟨⟨rfl, ((b0.alloc _).alloc _).alloc _, (b1.alloc _).alloc _, by simp⟩, hB0⟩
    (fun z => { tmps := #[.slice a len cap, .int .i64 i, .func (.func 134) #[] #[.pointer (some ⟨Bx, 0, none⟩), .pointer (some ⟨Bn, 0, none⟩)], undef, undef, .pointer (some ⟨w.heap.size, 0, none⟩), .pointer (some ⟨w.heap.size + 1, 0, none⟩), .int .i64 (z : Int), .slice a len cap, .int .i64 i, .func (.func 158) #[] #[.pointer (some ⟨w.heap.size + 1 + 1, 0, none⟩), .pointer (some ⟨w.heap.size + 1 + 1 + 1, 0, none⟩)], .int .i64 (z : Int), undef, undef, undef, undef], defers := [] }) ?assign ?body ?done ?stop
  case assign =>
    intro l z W K hK
    gi_wp2
    exact hK
  case body =>
    rintro l pre z W ⟨⟨hp, hv, hr, hsz⟩, hB⟩ _
    have hc := hv.cell
    have HB := Lib.hid hB
    have C := HC.out W hB z
    obtain ⟨pb, hpb⟩ : ∃ pb, P z = pb := ⟨_, rfl⟩
    rw [hpb] at C
    have HP := Lib.hid hpb
    have HV := Lib.hid hv
    have HR := Lib.hid hr
    have hlt : w.heap.size + 1 < W.heap.size := hr.lt
    clear hpb hv hr hB
    cases pb with
    | true =>
      gi_wp2_with (first
        | (gi_at_call 134; refine (CallsIn.inRound l (callsIn_wide.2 C)).mono ?_; rintro e w2 ⟨rfl, hb2⟩; have HB2 := Lib.hid hb2; have hr2 : Boxed w2 (w.heap.size + 1) 3 (.int .i64 0) := (hb2.block _ hlt).trans HR.out; have hc2 := hr2.cell; have hf2 := hr2.frozen; clear hb2)
        | (refine ⟨trivial, ?_⟩; gi_at_call 134; refine (CallsIn.inRound l (callsIn_wide.2 C)).mono ?_; rintro e w2 ⟨rfl, hb2⟩; have HB2 := Lib.hid hb2; have hr2 : Boxed w2 (w.heap.size + 1) 3 (.int .i64 0) := (hb2.block _ hlt).trans HR.out; have hc2 := hr2.cell; have hf2 := hr2.frozen; clear hb2))
      exact ⟨(others_below HB2.out).trans (KeepsOthers.setCell _ _ _), ⟨rfl, z, find_snoc hp HP.out, World.cell?_setCell_same' _ _ _ (by rw [hc2]; rfl)⟩, (HB.out.trans (HB2.out.mono HB.out.size)).setCell (p := ⟨w.heap.size + 1, 0, none⟩) (by simp) _⟩
    | false =>
      gi_wp2_with (first
        | (gi_at_call 134; refine (CallsIn.inRound l (callsIn_wide.2 C)).mono ?_; rintro e w2 ⟨rfl, hb2⟩; have HB2 := Lib.hid hb2; clear hb2)
        | (refine ⟨trivial, ?_⟩; gi_at_call 134; refine (CallsIn.inRound l (callsIn_wide.2 C)).mono ?_; rintro e w2 ⟨rfl, hb2⟩; have HB2 := Lib.hid hb2; clear hb2))
      exact ⟨others_below HB2.out, HB2.out.mono (by omega), ⟨find_snoc_no hp HP.out, (HB2.out.block _ (by omega)).trans HV.out, (HB2.out.block _ hlt).trans HR.out, Nat.le_trans hsz HB2.out.size⟩, HB.out.trans (HB2.out.mono HB.out.size)⟩
  case done =>
    rintro D ys W hD rfl ⟨⟨hne, _, hr, _⟩, hB⟩ hK
    have hcr := hr.cell
    have hfr := hr.frozen
    gi_wp2
    have hK' := (KeepsOthers.setCell W ⟨w.heap.size + 1, 0, none⟩ (.int .i64 (-1))).same D _ hK rfl
    refine ⟨by simp, .inl ⟨_, _, rfl, run_takeDeferred hK', ?_⟩⟩
    have hc5 := cell_kept (World.cell?_setCell_same' W ⟨w.heap.size + 1, 0, none⟩ (.int .i64 (-1)) (by rw [hcr]; rfl)) (grownBy_putObj' _ D (.deferred none)) (fun r e => by cases e; exact ⟨_, hK', rfl⟩)
    refine ⟨.int .i64 (-1), ?_, by rw [firstN_none hne], (hB.setCell (p := ⟨w.heap.size + 1, 0, none⟩) (by simp) _).trans (belowK_b (w := w) (Nat.le_refl _) _ D _ _ (by simp at hD; omega) hK' rfl rfl)⟩
    simp [results, Try.f95, go_sem, hc5]
  case stop =>
    rintro D c pre W hD hpre ⟨⟨rfl, k, hin, hcr⟩, hB⟩ hK
    gi_wp2
    refine ⟨by simp, .inl ⟨_, _, rfl, run_takeDeferred hK, ?_⟩⟩
    have hc5 := cell_kept hcr (grownBy_putObj' _ D (.deferred none)) (fun r e => by cases e; exact ⟨_, hK, rfl⟩)
    refine ⟨.int .i64 (k : Int), ?_, by rw [firstN_some (find_pre hpre hin)], hB.trans (belowK_b (w := w) (Nat.le_refl _) W D _ _ (by simp at hD; omega) hK rfl rfl)⟩
    simp [results, Try.f95, go_sem, hc5]
end Go.Proofs.Ytjhhpilaaahicaa
