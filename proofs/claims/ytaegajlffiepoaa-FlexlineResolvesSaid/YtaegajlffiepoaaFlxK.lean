/- Layer 21: what must come of fixed calls. -/
import Derived.Test.YtaegajlffiepoaaFlxW7
import Derived.Test.YtaegajlffiepoaaShaW13
namespace Go.Proofs.Ytaegajlffiepoaa
open Go.RowKit FixM ShaD ShaM Go.Sort
set_option linter.unusedVariables false

def kA : It := ⟨10, 0, -1, 0, 0, 1000, 0⟩
def kA2 : It := ⟨10, 0, 30, 0, 0, 1000, 0⟩
def kB : It := ⟨20, 0, -1, 0, 0, 1000, 0⟩
def kL (x y : It) (i : Nat) : It := if i = 0 then x else y

theorem two_items (u : World) (b : Nat) (hb : u.heap.size = b) (x y : It) :
    ItA (u.alloc (.cells #[.int .i64 x.b, .int .i64 x.l, .int .i64 x.m, .int .i64 x.g, .int .i64 x.i, .int .i64 x.gr, .int .i64 x.sh, .int .i64 y.b, .int .i64 y.l, .int .i64 y.m, .int .i64 y.g, .int .i64 y.i, .int .i64 y.gr, .int .i64 y.sh] 34)) (some ⟨b, 0, none⟩) 2 (kL x y) := by
  subst hb
  have hx := heap_alloc_new u (.cells #[.int .i64 x.b, .int .i64 x.l, .int .i64 x.m, .int .i64 x.g, .int .i64 x.i, .int .i64 x.gr, .int .i64 x.sh, .int .i64 y.b, .int .i64 y.l, .int .i64 y.m, .int .i64 y.g, .int .i64 y.i, .int .i64 y.gr, .int .i64 y.sh] 34)
  refine Or.inr ⟨_, 0, rfl, by simp, fun i hi => ?_⟩
  have : i = 0 ∨ i = 1 := by omega
  rcases this with rfl | rfl
  · exact ⟨cell_ofF hx rfl, cell_ofF hx rfl, cell_ofF hx rfl, cell_ofF hx rfl, cell_ofF hx rfl, cell_ofF hx rfl, cell_ofF hx rfl⟩
  · exact ⟨cell_ofF hx rfl, cell_ofF hx rfl, cell_ofF hx rfl, cell_ofF hx rfl, cell_ofF hx rfl, cell_ofF hx rfl, cell_ofF hx rfl⟩

theorem k1_len : (resolveF (fun i => hI (kL kA kB i)) 100 2).1.len 0 = 45 ∧ (resolveF (fun i => hI (kL kA kB i)) 100 2).1.len 1 = 55 := by decide +kernel
theorem k2_len : (resolveF (fun i => hI (kL kA2 kB i)) 100 2).1.len 0 = 30 ∧ (resolveF (fun i => hI (kL kA2 kB i)) 100 2).1.len 1 = 70 ∧ (resolveF (fun i => hI (kL kA2 kB i)) 100 2).2 = 2 := by decide +kernel

theorem two_lit (w : World) (x0 x1 : Int) : ∀ i, i < 2 → (w.alloc (.cells #[.int .i64 x0, .int .i64 x1] 3)).cell? ⟨w.heap.size, 0 + i, none⟩ = some (.int .i64 ([x0, x1].getD i 0)) := fun i hi => by
  rw [World.cell?_alloc_at _ _ _ _ rfl, Nat.zero_add]
  have : i = 0 ∨ i = 1 := by omega
  rcases this with rfl | rfl <;> rfl
theorem ints_two (B : Nat) (w0 w1 : World) (b : Nat) (f : Nat → Int) (x0 x1 : Int) (hz : B ≤ w0.heap.size) (hB : Below B w0 w1) (hr : Row w1 b 2 f) (h0 : f 0 = x0) (h1 : f 1 = x1) :
    Calls Try.prog 14 #[.slice (some ⟨b, 0, none⟩) 2 2, .slice (some ⟨w1.heap.size, 0, none⟩) 2 2] (w1.alloc (.cells #[.int .i64 x0, .int .i64 x1] 3)) fun e w' => e = .returned (.bool true) ∧ Below B w0 w' ∧ Below w1.heap.size w1 w' := by
  have hlt : b < w1.heap.size := Row_lt hr (by decide)
  refine (Ints_yes 2 b 0 2 w1.heap.size 0 2 f (fun i => [x0, x1].getD i 0) _ (by decide) (fun i hi => by rw [Nat.zero_add, World.cell?_alloc_past _ _ _ hlt]; exact (hr i hi).1) (two_lit w1 x0 x1) (fun i hi => by
    have : i = 0 ∨ i = 1 := by omega
    rcases this with rfl | rfl
    · exact h0
    · exact h1)).mono ?_
  rintro e w' ⟨rfl, q, rfl⟩
  exact ⟨rfl, below_drewNS' (hB.alloc (Nat.le_trans hz hB.size) _) q, below_drewNS' (below_one21 w1 _) q⟩
theorem res_two (u : World) (b : Nat) (hb : u.heap.size = b) (x y : It) :
    Calls Try.prog 11 #[.slice (some ⟨b, 0, none⟩) 2 2, .int .i64 100] (u.alloc (.cells #[.int .i64 x.b, .int .i64 x.l, .int .i64 x.m, .int .i64 x.g, .int .i64 x.i, .int .i64 x.gr, .int .i64 x.sh, .int .i64 y.b, .int .i64 y.l, .int .i64 y.m, .int .i64 y.g, .int .i64 y.i, .int .i64 y.gr, .int .i64 y.sh] 34)) fun e w' =>
      e = .returned (.tuple #[.slice (some ⟨b + 1, 0, none⟩) 2 2, .int .i64 ((resolveF (fun i => hI (kL x y i)) 100 2).2 : Int)]) ∧ Below u.heap.size u w' ∧ Row w' (b + 1) 2 (resolveF (fun i => hI (kL x y i)) 100 2).1.len := by
  have h := Resolve_any (some ⟨b, 0, none⟩) 2 2 (kL x y) (fun i => hI (kL x y i)) 100 _ (by decide) (two_items u b hb x y) (fun _ => rfl)
  rw [show H 100 = 100 from by decide] at h
  have hz : (u.alloc (.cells #[.int .i64 x.b, .int .i64 x.l, .int .i64 x.m, .int .i64 x.g, .int .i64 x.i, .int .i64 x.gr, .int .i64 x.sh, .int .i64 y.b, .int .i64 y.l, .int .i64 y.m, .int .i64 y.g, .int .i64 y.i, .int .i64 y.gr, .int .i64 y.sh] 34)).heap.size = b + 1 := by simp [hb]
  rw [hz] at h
  refine h.mono ?_
  rintro e w' ⟨rfl, hb2, hr⟩
  exact ⟨rfl, (below_one21 u _).trans (hb2.mono (by omega)), hr⟩

set_option maxRecDepth 100000 in
set_option maxHeartbeats 2000000 in
theorem known21_any (w : World) : Calls Try.prog 10 #[] w fun e w' => e = .returned (.bool true) ∧ Below w.heap.size w w' := by
  obtain ⟨S, hS⟩ : ∃ S, w.heap.size = S := ⟨_, rfl⟩
  have hb1 := (below_one21 w (.cells #[.int .i64 10, .int .i64 0, .int .i64 (-1), .int .i64 0, .int .i64 0, .int .i64 1000, .int .i64 0] 34))
  have hb2 := hb1.alloc hb1.size (.cells #[.int .i64 20, .int .i64 0, .int .i64 (-1), .int .i64 0, .int .i64 0, .int .i64 1000, .int .i64 0] 34)
  have hxa0 := heap_alloc_new w (.cells #[.int .i64 10, .int .i64 0, .int .i64 (-1), .int .i64 0, .int .i64 0, .int .i64 1000, .int .i64 0] 34)
  have hxb := heap_alloc_new (w.alloc (.cells #[.int .i64 10, .int .i64 0, .int .i64 (-1), .int .i64 0, .int .i64 0, .int .i64 1000, .int .i64 0] 34)) (.cells #[.int .i64 20, .int .i64 0, .int .i64 (-1), .int .i64 0, .int .i64 0, .int .i64 1000, .int .i64 0] 34)
  have hxa : ((w.alloc (.cells #[.int .i64 10, .int .i64 0, .int .i64 (-1), .int .i64 0, .int .i64 0, .int .i64 1000, .int .i64 0] 34)).alloc (.cells #[.int .i64 20, .int .i64 0, .int .i64 (-1), .int .i64 0, .int .i64 0, .int .i64 1000, .int .i64 0] 34)).heap[w.heap.size]? = some (.cells #[.int .i64 10, .int .i64 0, .int .i64 (-1), .int .i64 0, .int .i64 0, .int .i64 1000, .int .i64 0] 34 (0, 0)) := (Below.heap_alloc _ _ _ (by simp)).trans hxa0
  have hz : ((w.alloc (.cells #[.int .i64 10, .int .i64 0, .int .i64 (-1), .int .i64 0, .int .i64 0, .int .i64 1000, .int .i64 0] 34)).alloc (.cells #[.int .i64 20, .int .i64 0, .int .i64 (-1), .int .i64 0, .int .i64 0, .int .i64 1000, .int .i64 0] 34)).heap.size = S + 1 + 1 := by simp [hS]
  have hz1 : (w.alloc (.cells #[.int .i64 10, .int .i64 0, .int .i64 (-1), .int .i64 0, .int .i64 0, .int .i64 1000, .int .i64 0] 34)).heap.size = S + 1 := by simp [hS]
  rw [hz1] at hxb
  rw [hS] at hxa
  generalize hW : (w.alloc (.cells #[.int .i64 10, .int .i64 0, .int .i64 (-1), .int .i64 0, .int .i64 0, .int .i64 1000, .int .i64 0] 34)).alloc (.cells #[.int .i64 20, .int .i64 0, .int .i64 (-1), .int .i64 0, .int .i64 0, .int .i64 1000, .int .i64 0] 34) = W at hb2 hxa hxb hz
  have a0 : W.cell? ⟨S, 0, none⟩ = some (.int .i64 10) := cell_ofF hxa rfl
  have a1 : W.cell? ⟨S, 1, none⟩ = some (.int .i64 0) := cell_ofF hxa rfl
  have a2 : W.cell? ⟨S, 2, none⟩ = some (.int .i64 (-1)) := cell_ofF hxa rfl
  have a3 : W.cell? ⟨S, 3, none⟩ = some (.int .i64 0) := cell_ofF hxa rfl
  have a4 : W.cell? ⟨S, 4, none⟩ = some (.int .i64 0) := cell_ofF hxa rfl
  have a5 : W.cell? ⟨S, 5, none⟩ = some (.int .i64 1000) := cell_ofF hxa rfl
  have a6 : W.cell? ⟨S, 6, none⟩ = some (.int .i64 0) := cell_ofF hxa rfl
  have b0 : W.cell? ⟨S + 1, 0, none⟩ = some (.int .i64 20) := cell_ofF hxb rfl
  have b1 : W.cell? ⟨S + 1, 1, none⟩ = some (.int .i64 0) := cell_ofF hxb rfl
  have b2 : W.cell? ⟨S + 1, 2, none⟩ = some (.int .i64 (-1)) := cell_ofF hxb rfl
  have b3 : W.cell? ⟨S + 1, 3, none⟩ = some (.int .i64 0) := cell_ofF hxb rfl
  have b4 : W.cell? ⟨S + 1, 4, none⟩ = some (.int .i64 0) := cell_ofF hxb rfl
  have b5 : W.cell? ⟨S + 1, 5, none⟩ = some (.int .i64 1000) := cell_ofF hxb rfl
  have b6 : W.cell? ⟨S + 1, 6, none⟩ = some (.int .i64 0) := cell_ofF hxb rfl
  obtain ⟨q1, hq1⟩ : ∃ q, resolveF (fun i => hI (kL kA kB i)) 100 2 = q := ⟨_, rfl⟩
  obtain ⟨q2, hq2⟩ : ∃ q, resolveF (fun i => hI (kL kA2 kB i)) 100 2 = q := ⟨_, rfl⟩
  have r1 : Calls Try.prog 11 #[.slice (some ⟨S + 1 + 1, 0, none⟩) 2 2, .int .i64 100] (W.alloc (.cells #[.int .i64 10, .int .i64 0, .int .i64 (-1), .int .i64 0, .int .i64 0, .int .i64 1000, .int .i64 0, .int .i64 20, .int .i64 0, .int .i64 (-1), .int .i64 0, .int .i64 0, .int .i64 1000, .int .i64 0] 34)) fun e w' =>
      e = .returned (.tuple #[.slice (some ⟨S + 1 + 1 + 1, 0, none⟩) 2 2, .int .i64 (q1.2 : Int)]) ∧ Below W.heap.size W w' ∧ Row w' (S + 1 + 1 + 1) 2 q1.1.len := by rw [← hq1]; exact res_two W (S + 1 + 1) hz kA kB
  have r2 : ∀ u : World, Calls Try.prog 11 #[.slice (some ⟨u.heap.size, 0, none⟩) 2 2, .int .i64 100] (u.alloc (.cells #[.int .i64 10, .int .i64 0, .int .i64 30, .int .i64 0, .int .i64 0, .int .i64 1000, .int .i64 0, .int .i64 20, .int .i64 0, .int .i64 (-1), .int .i64 0, .int .i64 0, .int .i64 1000, .int .i64 0] 34)) fun e w' =>
      e = .returned (.tuple #[.slice (some ⟨u.heap.size + 1, 0, none⟩) 2 2, .int .i64 (q2.2 : Int)]) ∧ Below u.heap.size u w' ∧ Row w' (u.heap.size + 1) 2 q2.1.len := fun u => by rw [← hq2]; exact res_two u _ rfl kA2 kB
  have k1 := k1_len
  have k2 := k2_len
  rw [hq1] at k1
  rw [hq2] at k2
  have R1 := Lib.hid r1
  have RR2 := Lib.hid r2
  have HXA := Lib.hid hxa
  have HXB := Lib.hid hxb
  have HB2 := Lib.hid hb2
  have HZ := Lib.hid hz
  have HS := Lib.hid hS
  have K1 := Lib.hid k1
  have K2 := Lib.hid k2
  have HW := Lib.hid hW
  clear hb1 hxa0 hz1 hxa hxb hb2 hz hW hS hq1 hq2 r1 r2 k1 k2
  go_enter Try.func10, Try.ntmps10
  go_upto_region 3 with fail
  rw [HW.out, HS.out]
  go_wp2_with fail
  rw [HZ.out]
  refine R1.out.mono ?_
  rintro e w2 ⟨rfl, hb3, hr3⟩
  have hxa2 := (hb3.block S (by have := HZ.out; omega)).trans HXA.out
  have hxb2 := (hb3.block (S + 1) (by have := HZ.out; omega)).trans HXB.out
  have am : w2.cell? ⟨S, 2, none⟩ = some (.int .i64 (-1)) := cell_ofF hxa2 rfl
  have amf : w2.frozen? ⟨S, 2, none⟩ = false := frz_ofF hxa2
  have hxa3 := heap_setCell_same w2 S 2 _ _ (.int .i64 30) hxa2
  have hxb3 := (heap_setCell_other w2 ⟨S, 2, none⟩ (S + 1) (.int .i64 30) (by show S + 1 ≠ S; omega)).trans hxb2
  have hr4 : Row (w2.setCell ⟨S, 2, none⟩ (.int .i64 30)) (S + 1 + 1 + 1) 2 q1.1.len := hr3.other (by omega) _
  have hb4 : Below w.heap.size w (w2.setCell ⟨S, 2, none⟩ (.int .i64 30)) := (HB2.out.trans (hb3.mono HB2.out.size)).setCell (p := ⟨S, 2, none⟩) (by have := HS.out; show w.heap.size ≤ S; omega) _
  have HXA3 := Lib.hid hxa3
  have HXB3 := Lib.hid hxb3
  have HR4 := Lib.hid hr4
  have HB4 := Lib.hid hb4
  clear a0 a1 a2 a3 a4 a5 a6 b0 b1 b2 b3 b4 b5 b6 hb3 hr3 hxa2 hxb2 hxa3 hxb3 hr4 hb4 R1
  go_upto_region 5 with fail
  clear am amf
  generalize w2.setCell ⟨S, 2, none⟩ (.int .i64 30) = w3 at HXA3 HXB3 HR4 HB4 ⊢
  have hxa3 : w3.heap[S]? = some (.cells #[.int .i64 10, .int .i64 0, .int .i64 30, .int .i64 0, .int .i64 0, .int .i64 1000, .int .i64 0] 34 (0, 0)) := HXA3.out
  have hxb3 := HXB3.out
  have a0 : w3.cell? ⟨S, 0, none⟩ = some (.int .i64 10) := cell_ofF hxa3 rfl
  have a1 : w3.cell? ⟨S, 1, none⟩ = some (.int .i64 0) := cell_ofF hxa3 rfl
  have a2 : w3.cell? ⟨S, 2, none⟩ = some (.int .i64 30) := cell_ofF hxa3 rfl
  have a3 : w3.cell? ⟨S, 3, none⟩ = some (.int .i64 0) := cell_ofF hxa3 rfl
  have a4 : w3.cell? ⟨S, 4, none⟩ = some (.int .i64 0) := cell_ofF hxa3 rfl
  have a5 : w3.cell? ⟨S, 5, none⟩ = some (.int .i64 1000) := cell_ofF hxa3 rfl
  have a6 : w3.cell? ⟨S, 6, none⟩ = some (.int .i64 0) := cell_ofF hxa3 rfl
  have b0 : w3.cell? ⟨S + 1, 0, none⟩ = some (.int .i64 20) := cell_ofF hxb3 rfl
  have b1 : w3.cell? ⟨S + 1, 1, none⟩ = some (.int .i64 0) := cell_ofF hxb3 rfl
  have b2 : w3.cell? ⟨S + 1, 2, none⟩ = some (.int .i64 (-1)) := cell_ofF hxb3 rfl
  have b3 : w3.cell? ⟨S + 1, 3, none⟩ = some (.int .i64 0) := cell_ofF hxb3 rfl
  have b4 : w3.cell? ⟨S + 1, 4, none⟩ = some (.int .i64 0) := cell_ofF hxb3 rfl
  have b5 : w3.cell? ⟨S + 1, 5, none⟩ = some (.int .i64 1000) := cell_ofF hxb3 rfl
  have b6 : w3.cell? ⟨S + 1, 6, none⟩ = some (.int .i64 0) := cell_ofF hxb3 rfl
  have R2 := Lib.hid (RR2.out w3)
  clear hxa3 hxb3
  go_wp2_with fail
  refine R2.out.mono ?_
  rintro e w4 ⟨rfl, hb5, hr5⟩
  have hr45 := HR4.out.below hb5 (Row_lt HR4.out (by decide))
  have hb45 := HB4.out.trans (hb5.mono HB4.out.size)
  have I1 := Lib.hid (ints_two w.heap.size w w4 (S + 1 + 1 + 1) _ 45 55 (Nat.le_refl _) hb45 hr45 K1.out.1 K1.out.2)
  have HR5 := Lib.hid hr5
  have hz5 := Row_lt hr5 (by decide)
  clear a0 a1 a2 a3 a4 a5 a6 b0 b1 b2 b3 b4 b5 b6 hb5 hr5 hr45 hb45 R2
  go_wp2_with fail
  refine I1.out.mono ?_
  rintro e w5 ⟨rfl, hb6, hb7⟩
  have hr6 := HR5.out.below hb7 hz5
  have I2 := Lib.hid (ints_two w.heap.size w w5 (w3.heap.size + 1) _ 30 70 (Nat.le_refl _) hb6 hr6 K2.out.1 K2.out.2.1)
  have k3 := K2.out.2.2
  clear hb6 hb7 hr6 hz5
  go_wp2_with fail
  refine I2.out.mono ?_
  rintro e w6 ⟨rfl, hb8, _⟩
  have HB8 := Lib.hid hb8
  clear hb8
  go_wp2_with fail
  go_ret
  exact ⟨rfl, HB8.out⟩

theorem few21_any (a : Option Addr) (n cap : Nat) (w : World) : Calls Try.prog 9 #[.slice a n cap] w fun e w' => e = .returned (.bool (decide (n ≤ 60))) ∧ w = w' := by
  by_cases h : n ≤ 60
  · have hz : (n : Int) ≤ 60 := by omega
    rw [decide_eq_true h]
    go_enter Try.func9, Try.ntmps9
    go_wp2_with fail
    go_ret
    first | exact ⟨rfl, rfl⟩ | exact ⟨congrArg (fun b => Ending.returned (Value.bool b)) (decide_eq_true hz), rfl⟩
  · have hz : (60 : Int) < (n : Int) := by omega
    rw [decide_eq_false h]
    go_enter Try.func9, Try.ntmps9
    go_wp2_with fail
    go_ret
    first | exact ⟨congrArg (fun b => Ending.returned (Value.bool b)) (decide_eq_false (by omega)), rfl⟩ | exact ⟨rfl, rfl⟩

set_option maxRecDepth 100000 in
set_option maxHeartbeats 1000000 in
theorem FlexlineRounds_walk (a : Option Addr) (n cap : Nat) (L0 : Nat → It) (room : Int) (w : World) (hA : ItA w a n L0) :
    Calls Try.prog 6 #[.slice a n cap, .int .i64 room] w fun e w' => e = .returned (.bool true) ∧ Below w.heap.size w w' := by
  have F := Lib.hid (few21_any a n cap w)
  by_cases hn : n ≤ 60
  · have RC := Lib.hid (Resolve_any a n cap L0 (fun i => hI (L0 i)) room w (by omega) hA (fun _ => rfl))
    have hr := resolveF_rounds (fun i => hI (L0 i)) (H room) n
    obtain ⟨rn, hrn⟩ : ∃ rn, (resolveF (fun i => hI (L0 i)) (H room) n).2 = rn := ⟨_, rfl⟩
    rw [hrn] at RC hr
    have hrz : (rn : Int) ≤ (n : Int) := by omega
    rw [decide_eq_true hn] at F
    clear hA hrn
    go_enter Try.func6, Try.ntmps6
    go_wp2_with fail
    refine F.out.mono ?_
    rintro e w' ⟨rfl, rfl⟩
    go_wp2_with fail
    refine RC.out.mono ?_
    rintro e w1 ⟨rfl, hb1, _⟩
    have HB1 := Lib.hid hb1
    clear hb1
    go_wp2_with fail
    refine (known21_any w1).mono ?_
    rintro e w2 ⟨rfl, hb2⟩
    have HB2 := Lib.hid (HB1.out.trans (hb2.mono HB1.out.size))
    clear hb2
    go_wp2_with fail
    go_ret
    exact ⟨rfl, HB2.out⟩
  · rw [decide_eq_false hn] at F
    clear hA
    go_enter Try.func6, Try.ntmps6
    go_wp2_with fail
    refine F.out.mono ?_
    rintro e w' ⟨rfl, rfl⟩
    go_wp2_with fail
    refine (known21_any w).mono ?_
    rintro e w2 ⟨rfl, hb2⟩
    have HB2 := Lib.hid hb2
    clear hb2
    go_wp2_with fail
    go_ret
    exact ⟨rfl, HB2.out⟩
end Go.Proofs.Ytaegajlffiepoaa
