/- Joined texts: PropB1 PropBz. -/
import Derived.Test.YtbodmfbpmeapoaaGreatPropYa
import Derived.Test.YtbodmfbpmeapoaaGreatPropR6
import Derived.Test.YtbodmfbpmeapoaaGreatValWd
import Derived.Test.YtbodmfbpmeapoaaGreatLexE
import Derived.Deep.RegionHeld
namespace Go.Proofs.YtbodmfbpmeapoaaGreat
open Go.RowKit TreN LexP FixP SynP ValP PropP FixM
set_option linter.unusedVariables false

/-- a raw declaration that was told -/
def RwOk (w : World) (name : List UInt8) (v : Val) (imp : Bool) (e : Ending) (w' : World) : Prop :=
  (∃ a c, e = .returned (.tuple #[.agg #[.string ⟨name.toArray⟩, .slice a (tokV v).length c, .bool imp], .int .i64 0]) ∧ Tks w' a (tokV v) ∧ (tokV v).length ≤ c ∧ c ≤ maxLen) ∧ Below w.heap.size w w'
def RwNo (w : World) (code : Int) (e : Ending) (w' : World) : Prop :=
  e = .returned (.tuple #[.agg #[.string ⟨#[]⟩, .slice none 0 0, .bool false], .int .i64 code]) ∧ Below w.heap.size w w'

/-- two boxes at the start -/
theorem raw_boxes (w : World) (p k n d : Int) (nm : ByteArray) (imp : Bool) : ∃ wb, (w.alloc (.cells #[.int .i64 p, .int .i64 k, .int .i64 n, .int .i64 d, .string nm, .bool imp] 25)).alloc (.cells #[.string ⟨#[]⟩, .slice none 0 0, .bool false] 28) = wb ∧ Hid (Below w.heap.size w wb) ∧
    Hid (wb.heap[w.heap.size]? = some (.cells #[.int .i64 p, .int .i64 k, .int .i64 n, .int .i64 d, .string nm, .bool imp] 25 (0, 0))) ∧ Hid (wb.heap[w.heap.size + 1]? = some (.cells #[.string ⟨#[]⟩, .slice none 0 0, .bool false] 28 (0, 0))) := by
  refine ⟨_, rfl, Lib.hid ((below_oneP w _).alloc (by simp) _), Lib.hid ?_, Lib.hid ?_⟩
  · exact (Below.heap_alloc _ _ _ (by simp)).trans (heap_alloc_new w _)
  · have := heap_alloc_new (w.alloc (.cells #[.int .i64 p, .int .i64 k, .int .i64 n, .int .i64 d, .string nm, .bool imp] 25)) (.cells #[.string ⟨#[]⟩, .slice none 0 0, .bool false] 28)
    simpa using this

set_option maxRecDepth 100000 in
set_option maxHeartbeats 4000000 in
theorem Raw_no (p k n d : Int) (nm : List UInt8) (imp : Bool) (w : World) (hp : ¬ (1 ≤ p ∧ p ≤ 37)) : Calls Tryz.prog 4 #[.agg #[.int .i64 p, .int .i64 k, .int .i64 n, .int .i64 d, .string ⟨nm.toArray⟩, .bool imp]] w (RwNo w 23) := by
  obtain ⟨wb, hwb, HB, HX, HZ⟩ := raw_boxes w p k n d ⟨nm.toArray⟩ imp
  have c0 : wb.cell? ⟨w.heap.size, 0, none⟩ = some (.int .i64 p) := cell_of HX.out rfl
  have N := fun W => Name10_any p W
  rw [nameOf_no hp] at N
  have NH := Lib.hid N
  have HWB := Lib.hid hwb
  clear N hwb hp
  go_enter Tryz.func4, Tryz.ntmps4
  go_upto_region 1 with (fail)
  rw [HWB.out]
  go_wp2_with fail
  refine (NH.out _).mono ?_
  rintro e w1 ⟨rfl, hb1⟩
  have HB1 := Lib.hid (HB.out.trans (hb1.mono HB.out.size))
  have hz1 := (hb1.block _ (blk_ltP HZ.out)).trans HZ.out
  obtain ⟨x1, x2, x3, ⟨p0, q0, r0⟩, ⟨p1, q1, r1⟩, ⟨p2, q2, r2⟩, h3⟩ := three_store w1 (w.heap.size + 1) 28 _ _ _ (.string ⟨#[]⟩) (.slice none 0 0) (.bool false) hz1
  have e0 := cell_of (k := 0) h3.here rfl
  have e1 := cell_of (k := 1) h3.here rfl
  have e2 := cell_of (k := 2) h3.here rfl
  have HBE := Lib.hid (h3.below w.heap.size w (by omega) HB1.out)
  clear hb1 hz1 h3 c0
  go_wp2_with fail
  exact bodyPost_ret (v := .tuple #[.agg #[.string ⟨#[]⟩, .slice none 0 0, .bool false], .int .i64 23]) (by simp [results, Tryz.results4, go_sem, e0, e1, e2]) rfl ⟨rfl, HBE.out⟩

set_option maxRecDepth 100000 in
set_option maxHeartbeats 4000000 in
theorem Raw_odd (p k n d : Int) (nm : List UInt8) (imp : Bool) (w : World) (hp : 1 ≤ p ∧ p ≤ 37) (ht : takesP p ⟨k, n, d, nm⟩ = false) (hs : nm.length ≤ maxLen) : Calls Tryz.prog 4 #[.agg #[.int .i64 p, .int .i64 k, .int .i64 n, .int .i64 d, .string ⟨nm.toArray⟩, .bool imp]] w (RwNo w 22) := by
  obtain ⟨wb, hwb, HB, HX, HZ⟩ := raw_boxes w p k n d ⟨nm.toArray⟩ imp
  have c0 : wb.cell? ⟨w.heap.size, 0, none⟩ = some (.int .i64 p) := cell_of HX.out rfl
  have N := fun W => Name10_any p W
  have T := fun W => Takes10_any p k n d nm W hs
  rw [ht] at T
  have hne := nameOf_ne hp.1 hp.2
  obtain ⟨cc, rr, hX⟩ : ∃ c r, txtP namesL p = c :: r := by
    cases h : txtP namesL p with
    | nil => exact absurd h hne
    | cons c r => exact ⟨c, r, rfl⟩
  rw [hX] at N
  have NH := Lib.hid N
  have TH := Lib.hid T
  have HWB := Lib.hid hwb
  clear N T hwb hp hX hne ht hs
  go_enter Tryz.func4, Tryz.ntmps4
  go_upto_region 1 with (fail)
  rw [HWB.out]
  go_wp2_with fail
  refine (NH.out _).mono ?_
  rintro e w1 ⟨rfl, hb1⟩
  have HB1 := Lib.hid (HB.out.trans (hb1.mono HB.out.size))
  have HZ1 := Lib.hid ((hb1.block _ (blk_ltP HZ.out)).trans HZ.out)
  have hx1 := (hb1.block _ (blk_ltP HX.out)).trans HX.out
  have c0 : w1.cell? ⟨w.heap.size, 0, none⟩ = some (.int .i64 p) := cell_of hx1 rfl
  have c1 : w1.cell? ⟨w.heap.size, 1, none⟩ = some (.int .i64 k) := cell_of hx1 rfl
  have c2 : w1.cell? ⟨w.heap.size, 2, none⟩ = some (.int .i64 n) := cell_of hx1 rfl
  have c3 : w1.cell? ⟨w.heap.size, 3, none⟩ = some (.int .i64 d) := cell_of hx1 rfl
  have c4 : w1.cell? ⟨w.heap.size, 4, none⟩ = some (.string ⟨nm.toArray⟩) := cell_of hx1 rfl
  clear hb1 hx1
  go_wp2_with fail
  refine (TH.out _).mono ?_
  rintro e w2 ⟨rfl, hb2⟩
  have HB2 := Lib.hid (HB1.out.trans (hb2.mono HB1.out.size))
  have hz1 := (hb2.block _ (blk_ltP HZ1.out)).trans HZ1.out
  obtain ⟨x1, x2, x3, ⟨p0, q0, r0⟩, ⟨p1, q1, r1⟩, ⟨p2, q2, r2⟩, h3⟩ := three_store w2 (w.heap.size + 1) 28 _ _ _ (.string ⟨#[]⟩) (.slice none 0 0) (.bool false) hz1
  have e0 := cell_of (k := 0) h3.here rfl
  have e1 := cell_of (k := 1) h3.here rfl
  have e2 := cell_of (k := 2) h3.here rfl
  have HBE := Lib.hid (h3.below w.heap.size w (by omega) HB2.out)
  clear hb2 hz1 h3 c0 c1 c2 c3 c4
  go_wp2_with fail
  exact bodyPost_ret (v := .tuple #[.agg #[.string ⟨#[]⟩, .slice none 0 0, .bool false], .int .i64 22]) (by simp [results, Tryz.results4, go_sem, e0, e1, e2]) rfl ⟨rfl, HBE.out⟩

set_option maxRecDepth 100000 in
set_option maxHeartbeats 4000000 in
theorem Raw_yes (p k n d : Int) (nm : List UInt8) (imp : Bool) (w : World) (hp : 1 ≤ p ∧ p ≤ 37) (ht : takesP p ⟨k, n, d, nm⟩ = true) (hs : nm.length ≤ maxLen) : Calls Tryz.prog 4 #[.agg #[.int .i64 p, .int .i64 k, .int .i64 n, .int .i64 d, .string ⟨nm.toArray⟩, .bool imp]] w (RwOk w (txtP namesL p) ⟨k, n, d, nm⟩ imp) := by
  obtain ⟨wb, hwb, HB, HX, HZ⟩ := raw_boxes w p k n d ⟨nm.toArray⟩ imp
  have c0 : wb.cell? ⟨w.heap.size, 0, none⟩ = some (.int .i64 p) := cell_of HX.out rfl
  have N := fun W => Name10_any p W
  have T := fun W => Takes10_any p k n d nm W hs
  rw [ht] at T
  have TK := fun W => Tokens9_any k n d nm W hs
  unfold ToldCap at TK
  obtain ⟨L, hL⟩ : ∃ L, tokV ⟨k, n, d, nm⟩ = L := ⟨_, rfl⟩
  unfold RwOk
  rw [hL] at TK ⊢
  obtain ⟨m, hm⟩ : ∃ m, L.length = m := ⟨_, rfl⟩
  rw [hm] at TK ⊢
  have hne := nameOf_ne hp.1 hp.2
  obtain ⟨cc, rr, hX⟩ : ∃ c r, txtP namesL p = c :: r := by
    cases h : txtP namesL p with
    | nil => exact absurd h hne
    | cons c r => exact ⟨c, r, rfl⟩
  rw [hX] at N ⊢
  have NH := Lib.hid N
  have TH := Lib.hid T
  have TKH := Lib.hid TK
  have HWB := Lib.hid hwb
  clear N T TK hwb hp hX hne ht hs hL hm
  go_enter Tryz.func4, Tryz.ntmps4
  go_upto_region 1 with (fail)
  rw [HWB.out]
  go_wp2_with fail
  refine (NH.out _).mono ?_
  rintro e w1 ⟨rfl, hb1⟩
  have HB1 := Lib.hid (HB.out.trans (hb1.mono HB.out.size))
  have HZ1 := Lib.hid ((hb1.block _ (blk_ltP HZ.out)).trans HZ.out)
  have HX1 := Lib.hid ((hb1.block _ (blk_ltP HX.out)).trans HX.out)
  have c0 : w1.cell? ⟨w.heap.size, 0, none⟩ = some (.int .i64 p) := cell_of HX1.out rfl
  have c1 : w1.cell? ⟨w.heap.size, 1, none⟩ = some (.int .i64 k) := cell_of HX1.out rfl
  have c2 : w1.cell? ⟨w.heap.size, 2, none⟩ = some (.int .i64 n) := cell_of HX1.out rfl
  have c3 : w1.cell? ⟨w.heap.size, 3, none⟩ = some (.int .i64 d) := cell_of HX1.out rfl
  have c4 : w1.cell? ⟨w.heap.size, 4, none⟩ = some (.string ⟨nm.toArray⟩) := cell_of HX1.out rfl
  clear hb1
  go_wp2_with fail
  refine (TH.out _).mono ?_
  rintro e w2 ⟨rfl, hb2⟩
  have HB2 := Lib.hid (HB1.out.trans (hb2.mono HB1.out.size))
  have HZ2 := Lib.hid ((hb2.block _ (blk_ltP HZ1.out)).trans HZ1.out)
  have HX2 := Lib.hid ((hb2.block _ (blk_ltP HX1.out)).trans HX1.out)
  have c0 : w2.cell? ⟨w.heap.size, 0, none⟩ = some (.int .i64 p) := cell_of HX2.out rfl
  have c1 : w2.cell? ⟨w.heap.size, 1, none⟩ = some (.int .i64 k) := cell_of HX2.out rfl
  have c2 : w2.cell? ⟨w.heap.size, 2, none⟩ = some (.int .i64 n) := cell_of HX2.out rfl
  have c3 : w2.cell? ⟨w.heap.size, 3, none⟩ = some (.int .i64 d) := cell_of HX2.out rfl
  have c4 : w2.cell? ⟨w.heap.size, 4, none⟩ = some (.string ⟨nm.toArray⟩) := cell_of HX2.out rfl
  have c5 : w2.cell? ⟨w.heap.size, 5, none⟩ = some (.bool imp) := cell_of HX2.out rfl
  clear hb2
  go_upto_region 5 with (fail)
  go_region_with (first
    | (go_at_call 10
       refine (NH.out _).mono ?_
       rintro e w3 ⟨rfl, hb3⟩
       have hx3 := (hb3.block _ (blk_ltP HX2.out)).trans HX2.out
       have HZ3 := Lib.hid ((hb3.block _ (blk_ltP HZ2.out)).trans HZ2.out)
       have HX3 := Lib.hid hx3
       have HBB3 := Lib.hid (((Below.refl w2.heap.size w2).drew).trans hb3)
       have f0 : w3.cell? ⟨w.heap.size, 0, none⟩ = some (.int .i64 p) := cell_of hx3 rfl
       have f1 : w3.cell? ⟨w.heap.size, 1, none⟩ = some (.int .i64 k) := cell_of hx3 rfl
       have f2 : w3.cell? ⟨w.heap.size, 2, none⟩ = some (.int .i64 n) := cell_of hx3 rfl
       have f3 : w3.cell? ⟨w.heap.size, 3, none⟩ = some (.int .i64 d) := cell_of hx3 rfl
       have f4 : w3.cell? ⟨w.heap.size, 4, none⟩ = some (.string ⟨nm.toArray⟩) := cell_of hx3 rfl
       have f5 : w3.cell? ⟨w.heap.size, 5, none⟩ = some (.bool imp) := cell_of hx3 rfl
       clear hx3 hb3)
    | (go_at_call 12
       refine (TKH.out _).mono ?_
       rintro e w4 ⟨ta, tc, rfl, hT4, hb4, g1, g2⟩
       have hx4 := (hb4.block _ (blk_ltP HX3.out)).trans HX3.out
       have hz4 := (hb4.block _ (blk_ltP HZ3.out)).trans HZ3.out
       have f6 : w4.cell? ⟨w.heap.size, 5, none⟩ = some (.bool imp) := cell_of hx4 rfl
       obtain ⟨x1, x2, x3, ⟨p0, q0, r0⟩, ⟨p1, q1, r1⟩, ⟨p2, q2, r2⟩, h3⟩ := three_store w4 (w.heap.size + 1) 28 _ _ _ (.string ⟨(cc :: rr).toArray⟩) (.slice ta m tc) (.bool imp) hz4))
  all_goals
    have e0 := cell_of (k := 0) h3.here rfl
    have e1 := cell_of (k := 1) h3.here rfl
    have e2 := cell_of (k := 2) h3.here rfl
    have HT : Hid (Tks x3 ta L) := Lib.hid (tks_other hT4 (by intro k; simp) hz4 h3)
    have HBE : Hid (Below w.heap.size w x3) := Lib.hid (h3.below w.heap.size w (by omega) (HB2.out.trans ((HBB3.out.trans (hb4.mono HBB3.out.size)).mono HB2.out.size)))
    clear hT4 hb4 hx4 hz4 h3 p0 q0 r0 p1 q1 r1 p2 q2 r2 f6 c0 c1 c2 c3 c4 c5
    go_wp2_with fail
    exact bodyPost_ret (v := .tuple #[.agg #[.string ⟨(cc :: rr).toArray⟩, .slice ta m tc, .bool imp], .int .i64 0]) (by simp [results, Tryz.results4, go_sem, e0, e1, e2]) rfl ⟨⟨ta, tc, rfl, HT.out, g1, g2⟩, HBE.out⟩
end Go.Proofs.YtbodmfbpmeapoaaGreat

namespace Go.Proofs.YtbodmfbpmeapoaaGreat
open Go.RowKit TreN LexP FixP SynP ValP PropP FixM
set_option linter.unusedVariables false

theorem names_atB (W : World) (j : Nat) (h1 : 1 ≤ j) (h2 : j ≤ 37) : (W.alloc (.cells (txcs ([] :: namesL)) 9)).cell? ⟨W.heap.size, j, none⟩ = some (.string ⟨(txtP namesL (j : Int)).toArray⟩) := by
  have h := TxAt.made W ([] :: namesL) j (by show j < 38; omega)
  rw [h]
  congr 3
  exact congrArg List.toArray (txtP_at (L := namesL) h1 (by show j < 38; omega))

set_option maxRecDepth 100000 in
set_option maxHeartbeats 4000000 in
theorem refRaw_no (p k n d : Int) (nm : List UInt8) (imp : Bool) (w : World) (hp : ¬ (1 ≤ p ∧ p ≤ 37)) : Calls Tryz.prog 5 #[.agg #[.int .i64 p, .int .i64 k, .int .i64 n, .int .i64 d, .string ⟨nm.toArray⟩, .bool imp]] w (RwNo w 23) := by
  obtain ⟨wb, hwb, HB, HX, HZ⟩ := raw_boxes w p k n d ⟨nm.toArray⟩ imp
  have c0 : wb.cell? ⟨w.heap.size, 0, none⟩ = some (.int .i64 p) := cell_of HX.out rfl
  have HWB := Lib.hid hwb
  obtain ⟨x1, x2, x3, ⟨p0, q0, r0⟩, ⟨p1, q1, r1⟩, ⟨p2, q2, r2⟩, h3⟩ := three_store wb (w.heap.size + 1) 28 _ _ _ (.string ⟨#[]⟩) (.slice none 0 0) (.bool false) HZ.out
  have e0 := cell_of (k := 0) h3.here rfl
  have e1 := cell_of (k := 1) h3.here rfl
  have e2 := cell_of (k := 2) h3.here rfl
  have HBE := Lib.hid (h3.below w.heap.size w (by omega) HB.out)
  have hc : p < 1 ∨ (1 ≤ p ∧ 37 < p) := by omega
  clear hwb h3 hp
  rcases hc with h1 | ⟨h1, h2⟩
  all_goals
    go_enter Tryz.func5, Tryz.ntmps5
    go_upto_region 1 with (fail)
    rw [HWB.out]
    go_wp2_with fail
    exact bodyPost_ret (v := .tuple #[.agg #[.string ⟨#[]⟩, .slice none 0 0, .bool false], .int .i64 23]) (by simp [results, Tryz.results5, go_sem, e0, e1, e2]) rfl ⟨rfl, HBE.out⟩

set_option maxRecDepth 100000 in
set_option maxHeartbeats 4000000 in
theorem refRaw_odd (p k n d : Int) (nm : List UInt8) (imp : Bool) (w : World) (hp : 1 ≤ p ∧ p ≤ 37) (ht : takesP p ⟨k, n, d, nm⟩ = false) (hs : nm.length ≤ maxLen) : Calls Tryz.prog 5 #[.agg #[.int .i64 p, .int .i64 k, .int .i64 n, .int .i64 d, .string ⟨nm.toArray⟩, .bool imp]] w (RwNo w 22) := by
  obtain ⟨wb, hwb, HB, HX, HZ⟩ := raw_boxes w p k n d ⟨nm.toArray⟩ imp
  have c0 : wb.cell? ⟨w.heap.size, 0, none⟩ = some (.int .i64 p) := cell_of HX.out rfl
  have c1 : wb.cell? ⟨w.heap.size, 1, none⟩ = some (.int .i64 k) := cell_of HX.out rfl
  have c2 : wb.cell? ⟨w.heap.size, 2, none⟩ = some (.int .i64 n) := cell_of HX.out rfl
  have c3 : wb.cell? ⟨w.heap.size, 3, none⟩ = some (.int .i64 d) := cell_of HX.out rfl
  have c4 : wb.cell? ⟨w.heap.size, 4, none⟩ = some (.string ⟨nm.toArray⟩) := cell_of HX.out rfl
  have T := fun W => refTakes10_any p k n d nm W hs
  rw [ht] at T
  have TH := Lib.hid T
  have HWB := Lib.hid hwb
  obtain ⟨h1, h2⟩ := hp
  clear T hwb ht hs
  go_enter Tryz.func5, Tryz.ntmps5
  go_upto_region 1 with (fail)
  rw [HWB.out]
  go_wp2_with fail
  refine (TH.out _).mono ?_
  rintro e w2 ⟨rfl, hb2⟩
  have HB2 := Lib.hid (HB.out.trans (hb2.mono HB.out.size))
  have hz1 := (hb2.block _ (blk_ltP HZ.out)).trans HZ.out
  obtain ⟨x1, x2, x3, ⟨p0, q0, r0⟩, ⟨p1, q1, r1⟩, ⟨p2, q2, r2⟩, h3⟩ := three_store w2 (w.heap.size + 1) 28 _ _ _ (.string ⟨#[]⟩) (.slice none 0 0) (.bool false) hz1
  have e0 := cell_of (k := 0) h3.here rfl
  have e1 := cell_of (k := 1) h3.here rfl
  have e2 := cell_of (k := 2) h3.here rfl
  have HBE := Lib.hid (h3.below w.heap.size w (by omega) HB2.out)
  clear hb2 hz1 h3 c0 c1 c2 c3 c4
  go_wp2_with fail
  exact bodyPost_ret (v := .tuple #[.agg #[.string ⟨#[]⟩, .slice none 0 0, .bool false], .int .i64 22]) (by simp [results, Tryz.results5, go_sem, e0, e1, e2]) rfl ⟨rfl, HBE.out⟩

end Go.Proofs.YtbodmfbpmeapoaaGreat

namespace Go.Proofs.YtbodmfbpmeapoaaGreat
open Go.RowKit TreN LexP FixP SynP ValP PropP FixM
set_option linter.unusedVariables false

/-- whatever order is picked, under more that holds -/
theorem wpAnyH_strong {P : Program} {md : Region.Mode} {ops : Array Oper} {Q : Exit → Act → World → Prop} {S S' : World → Prop} (h : ∀ w, S' w → S w) : ∀ (fuel : Nat) (listed : Array Bool) (a : Act) (w : World), wpAnyH P md ops Q S' fuel listed a w → wpAnyH P md ops Q S fuel listed a w
  | 0, _, _, _, k => k
  | f + 1, _, _, _, k => ⟨k.1, fun i hi => wpOp_mono (fun a' w' h' => ⟨h _ h'.1, wpAnyH_strong h f _ a' w' h'.2⟩) (k.2 i hi)⟩

set_option maxRecDepth 100000 in
set_option maxHeartbeats 4000000 in
theorem refRaw_yes (p k n d : Int) (nm : List UInt8) (imp : Bool) (w : World) (hp : 1 ≤ p ∧ p ≤ 37) (ht : takesP p ⟨k, n, d, nm⟩ = true) (hs : nm.length ≤ maxLen) : Calls Tryz.prog 5 #[.agg #[.int .i64 p, .int .i64 k, .int .i64 n, .int .i64 d, .string ⟨nm.toArray⟩, .bool imp]] w (RwOk w (txtP namesL p) ⟨k, n, d, nm⟩ imp) := by
  obtain ⟨wb, hwb, HB, HX, HZ⟩ := raw_boxes w p k n d ⟨nm.toArray⟩ imp
  have T := fun W => refTakes10_any p k n d nm W hs
  rw [ht] at T
  have TK := fun W => refTokens9_any k n d nm W hs
  unfold ToldCap at TK
  obtain ⟨L, hL⟩ : ∃ L, tokV ⟨k, n, d, nm⟩ = L := ⟨_, rfl⟩
  unfold RwOk
  rw [hL] at TK ⊢
  obtain ⟨m, hm⟩ : ∃ m, L.length = m := ⟨_, rfl⟩
  rw [hm] at TK ⊢
  obtain ⟨j, rfl⟩ : ∃ j : Nat, p = (j : Int) := ⟨p.toNat, by omega⟩
  have NA := Lib.hid (fun W : World => names_atB W j (by omega) (by omega))
  have NR := Lib.hid (fun W => NamesR10_any W)
  obtain ⟨X, hX⟩ : ∃ X, txtP namesL (j : Int) = X := ⟨_, rfl⟩
  rw [hX] at NA ⊢
  have TH := Lib.hid T
  have TKH := Lib.hid TK
  have HWB := Lib.hid hwb
  obtain ⟨h1, h2⟩ := hp
  have hj0 : (0 : Int) ≤ (j : Int) := by omega
  have hj38 : (j : Int) < 38 := by omega
  have c0 : wb.cell? ⟨w.heap.size, 0, none⟩ = some (.int .i64 j) := cell_of HX.out rfl
  have c1 : wb.cell? ⟨w.heap.size, 1, none⟩ = some (.int .i64 k) := cell_of HX.out rfl
  have c2 : wb.cell? ⟨w.heap.size, 2, none⟩ = some (.int .i64 n) := cell_of HX.out rfl
  have c3 : wb.cell? ⟨w.heap.size, 3, none⟩ = some (.int .i64 d) := cell_of HX.out rfl
  have c4 : wb.cell? ⟨w.heap.size, 4, none⟩ = some (.string ⟨nm.toArray⟩) := cell_of HX.out rfl
  clear T TK hwb hX ht hs hL hm
  go_enter Tryz.func5, Tryz.ntmps5
  go_upto_region 1 with (fail)
  rw [HWB.out]
  go_wp2_with fail
  refine (TH.out _).mono ?_
  rintro e w2 ⟨rfl, hb2⟩
  have HB2 := Lib.hid (HB.out.trans (hb2.mono HB.out.size))
  have HZ2 := Lib.hid ((hb2.block _ (blk_ltP HZ.out)).trans HZ.out)
  have HX2 := Lib.hid ((hb2.block _ (blk_ltP HX.out)).trans HX.out)
  have c0 : w2.cell? ⟨w.heap.size, 0, none⟩ = some (.int .i64 j) := cell_of HX2.out rfl
  have c1 : w2.cell? ⟨w.heap.size, 1, none⟩ = some (.int .i64 k) := cell_of HX2.out rfl
  have c2 : w2.cell? ⟨w.heap.size, 2, none⟩ = some (.int .i64 n) := cell_of HX2.out rfl
  have c3 : w2.cell? ⟨w.heap.size, 3, none⟩ = some (.int .i64 d) := cell_of HX2.out rfl
  have c4 : w2.cell? ⟨w.heap.size, 4, none⟩ = some (.string ⟨nm.toArray⟩) := cell_of HX2.out rfl
  have c5 : w2.cell? ⟨w.heap.size, 5, none⟩ = some (.bool imp) := cell_of HX2.out rfl
  clear hb2
  go_upto_region 5 with (fail)
  refine wp_region_held_drew (S := fun w' => (w'.cell? ⟨w.heap.size, 0, none⟩ = some (.int .i64 j) ∧ w'.cell? ⟨w.heap.size, 1, none⟩ = some (.int .i64 k) ∧ w'.cell? ⟨w.heap.size, 2, none⟩ = some (.int .i64 n) ∧ w'.cell? ⟨w.heap.size, 3, none⟩ = some (.int .i64 d) ∧ w'.cell? ⟨w.heap.size, 4, none⟩ = some (.string ⟨nm.toArray⟩) ∧ w'.cell? ⟨w.heap.size, 5, none⟩ = some (.bool imp))) (by kernel_rfl) ⟨c0, c1, c2, c3, c4, c5⟩ (fun hS0 => ?_)
  refine wpAnyH_take (i := 1) (v := ?_) rfl (by kernel_rfl) (by kernel_rfl) (by kernel_rfl) (fun _ _ _ h => h) (Or.inl ⟨by rfl, ?_⟩) hS0 ?_
  rotate_left
  · (intro w hSw; (try dsimp only at hSw); go_simp; (try with_reducible rfl))
  try simp only [Act.put, List.setIfInBounds_toArray]
  refine wpAnyH_take (i := 2) (v := ?_) rfl (by kernel_rfl) (by kernel_rfl) (by kernel_rfl) (fun _ _ _ h => h) (Or.inl ⟨by rfl, ?_⟩) hS0 ?_
  rotate_left
  · (intro w hSw; (try dsimp only at hSw); go_simp; (try with_reducible rfl))
  try simp only [Act.put]
  refine wpAnyH_take (i := 5) (v := ?_) rfl (by kernel_rfl) (by kernel_rfl) (by kernel_rfl) (fun _ _ _ h => h) (Or.inl ⟨by rfl, ?_⟩) hS0 ?_
  rotate_left
  · (intro w hSw; (try dsimp only at hSw); go_simp; (try with_reducible rfl))
  try simp only [Act.put]
  refine wpAnyH_take (i := 6) (v := ?_) rfl (by kernel_rfl) (by kernel_rfl) (by kernel_rfl) (fun _ _ _ h => h) (Or.inl ⟨by rfl, ?_⟩) hS0 ?_
  rotate_left
  · (intro w hSw; (try dsimp only at hSw); go_simp; (try with_reducible rfl))
  try simp only [Act.put]
  refine wpAnyH_take (i := 8) (v := ?_) rfl (by kernel_rfl) (by kernel_rfl) (by kernel_rfl) (fun _ _ _ h => h) (Or.inl ⟨by rfl, ?_⟩) hS0 ?_
  rotate_left
  · (intro w hSw; (try dsimp only at hSw); go_simp; (try with_reducible rfl))
  try simp only [Act.put]
  refine wpAnyH_take (i := 9) (v := ?_) rfl (by kernel_rfl) (by kernel_rfl) (by kernel_rfl) (fun _ _ _ h => h) (Or.inl ⟨by rfl, ?_⟩) hS0 ?_
  rotate_left
  · (intro w hSw; (try dsimp only at hSw); go_simp; (try with_reducible rfl))
  try simp only [Act.put]
  refine wpAnyH_ready (rs := [0]) (by kernel_rfl) (by simp) ?_
  refine AllReadyH.cons rfl (fun K hK => ?_) AllReadyH.nil
  go_simp
  go_at_call 14
  refine (NR.out _).mono ?_
  rintro e w3 ⟨rfl, hw3⟩
  have n1 : w3.cell? ⟨w2.heap.size, j, none⟩ = some (.string ⟨X.toArray⟩) := by rw [hw3]; exact NA.out _
  have hb3 : Below w2.heap.size w2 w3 := by rw [hw3]; exact (Below.refl _ _).drew.alloc (Nat.le_refl _) _
  have hnl : w2.heap.size < w3.heap.size := by rw [hw3]; simp
  have hx3 := (hb3.block _ (blk_ltP HX2.out)).trans HX2.out
  have HZ3 := Lib.hid ((hb3.block _ (blk_ltP HZ2.out)).trans HZ2.out)
  have HX3 := Lib.hid hx3
  have HBB3 := Lib.hid hb3
  have f0 : w3.cell? ⟨w.heap.size, 0, none⟩ = some (.int .i64 j) := cell_of hx3 rfl
  have f1 : w3.cell? ⟨w.heap.size, 1, none⟩ = some (.int .i64 k) := cell_of hx3 rfl
  have f2 : w3.cell? ⟨w.heap.size, 2, none⟩ = some (.int .i64 n) := cell_of hx3 rfl
  have f3 : w3.cell? ⟨w.heap.size, 3, none⟩ = some (.int .i64 d) := cell_of hx3 rfl
  have f4 : w3.cell? ⟨w.heap.size, 4, none⟩ = some (.string ⟨nm.toArray⟩) := cell_of hx3 rfl
  have f5 : w3.cell? ⟨w.heap.size, 5, none⟩ = some (.bool imp) := cell_of hx3 rfl
  clear hx3 hb3 hw3
  refine hK.out _ _ ⟨f0, f1, f2, f3, f4, f5⟩ (fun hS1 => ?_)
  clear hK K
  refine wpAnyH_strong (S' := fun w' => (w'.cell? ⟨w.heap.size, 0, none⟩ = some (.int .i64 j) ∧ w'.cell? ⟨w.heap.size, 1, none⟩ = some (.int .i64 k) ∧ w'.cell? ⟨w.heap.size, 2, none⟩ = some (.int .i64 n) ∧ w'.cell? ⟨w.heap.size, 3, none⟩ = some (.int .i64 d) ∧ w'.cell? ⟨w.heap.size, 4, none⟩ = some (.string ⟨nm.toArray⟩) ∧ w'.cell? ⟨w.heap.size, 5, none⟩ = some (.bool imp)) ∧ w'.cell? ⟨w2.heap.size, j, none⟩ = some (.string ⟨X.toArray⟩)) (fun _ h => h.1) _ _ _ _ ?_
  have hS2 : (fun w' : World => (w'.cell? ⟨w.heap.size, 0, none⟩ = some (.int .i64 j) ∧ w'.cell? ⟨w.heap.size, 1, none⟩ = some (.int .i64 k) ∧ w'.cell? ⟨w.heap.size, 2, none⟩ = some (.int .i64 n) ∧ w'.cell? ⟨w.heap.size, 3, none⟩ = some (.int .i64 d) ∧ w'.cell? ⟨w.heap.size, 4, none⟩ = some (.string ⟨nm.toArray⟩) ∧ w'.cell? ⟨w.heap.size, 5, none⟩ = some (.bool imp)) ∧ w'.cell? ⟨w2.heap.size, j, none⟩ = some (.string ⟨X.toArray⟩)) w3 := ⟨hS1, n1⟩
  refine wpAnyH_take (i := 3) (v := ?_) rfl (by kernel_rfl) (by kernel_rfl) (by kernel_rfl) (fun _ _ _ h => h) (Or.inl ⟨by rfl, ?_⟩) hS2 ?_
  rotate_left
  · (intro w hSw; (try dsimp only at hSw); go_simp; (try with_reducible rfl))
  try simp only [Act.put, List.setIfInBounds_toArray]
  refine wpAnyH_take (i := 4) (v := ?_) rfl (by kernel_rfl) (by kernel_rfl) (by kernel_rfl) (fun _ _ _ h => h) (Or.inl ⟨by rfl, ?_⟩) hS2 ?_
  rotate_left
  · (intro w hSw; (try dsimp only at hSw); go_simp; (try with_reducible rfl))
  try simp only [Act.put]
  refine wpAnyH_ready (rs := [7]) (by kernel_rfl) (by simp) ?_
  refine AllReadyH.cons rfl (fun K hK => ?_) AllReadyH.nil
  go_simp
  go_at_call 15
  refine (TKH.out _).mono ?_
  rintro e w4 ⟨ta, tc, rfl, hT4, hb4, g1, g2⟩
  have hx4 := (hb4.block _ (blk_ltP HX3.out)).trans HX3.out
  have hz4 := (hb4.block _ (blk_ltP HZ3.out)).trans HZ3.out
  have n2 : w4.cell? ⟨w2.heap.size, j, none⟩ = some (.string ⟨X.toArray⟩) := (hb4.cell (p := ⟨w2.heap.size, j, none⟩) hnl).trans n1
  have y0 : w4.cell? ⟨w.heap.size, 0, none⟩ = some (.int .i64 j) := cell_of hx4 rfl
  have y1 : w4.cell? ⟨w.heap.size, 1, none⟩ = some (.int .i64 k) := cell_of hx4 rfl
  have y2 : w4.cell? ⟨w.heap.size, 2, none⟩ = some (.int .i64 n) := cell_of hx4 rfl
  have y3 : w4.cell? ⟨w.heap.size, 3, none⟩ = some (.int .i64 d) := cell_of hx4 rfl
  have y4 : w4.cell? ⟨w.heap.size, 4, none⟩ = some (.string ⟨nm.toArray⟩) := cell_of hx4 rfl
  have y5 : w4.cell? ⟨w.heap.size, 5, none⟩ = some (.bool imp) := cell_of hx4 rfl
  obtain ⟨x1, x2, x3, ⟨p0, q0, r0⟩, ⟨p1, q1, r1⟩, ⟨p2, q2, r2⟩, h3⟩ := three_store w4 (w.heap.size + 1) 28 _ _ _ (.string ⟨X.toArray⟩) (.slice ta m tc) (.bool imp) hz4
  have hx5 := (h3.there w.heap.size (by omega)).trans hx4
  have hn5 : x3.cell? ⟨w2.heap.size, j, none⟩ = some (.string ⟨X.toArray⟩) := (cell_heap (h3.there w2.heap.size (by have := blk_ltP HZ2.out; omega)) _).trans n2
  have v0 : x3.cell? ⟨w.heap.size, 0, none⟩ = some (.int .i64 j) := cell_of hx5 rfl
  have v1 : x3.cell? ⟨w.heap.size, 1, none⟩ = some (.int .i64 k) := cell_of hx5 rfl
  have v2 : x3.cell? ⟨w.heap.size, 2, none⟩ = some (.int .i64 n) := cell_of hx5 rfl
  have v3 : x3.cell? ⟨w.heap.size, 3, none⟩ = some (.int .i64 d) := cell_of hx5 rfl
  have v4 : x3.cell? ⟨w.heap.size, 4, none⟩ = some (.string ⟨nm.toArray⟩) := cell_of hx5 rfl
  have v5 : x3.cell? ⟨w.heap.size, 5, none⟩ = some (.bool imp) := cell_of hx5 rfl
  refine hK.out _ _ ⟨⟨y0, y1, y2, y3, y4, y5⟩, n2⟩ (fun hS4 => ?_)
  clear hK K
  refine wpAnyH_take (i := 10) (v := ?_) rfl (by kernel_rfl) (by kernel_rfl) (by kernel_rfl) (fun _ _ _ h => h) (Or.inl ⟨by rfl, ?_⟩) hS4 ?_
  rotate_left
  · (intro w hSw; (try dsimp only at hSw); go_simp; (try with_reducible rfl))
  try simp only [Act.put, List.setIfInBounds_toArray]
  refine wpAnyH_ready (rs := [11]) (by kernel_rfl) (by simp) ?_
  refine AllReadyH.cons rfl (fun K hK => ?_) AllReadyH.nil
  go_simp
  refine hK.out _ _ ⟨⟨v0, v1, v2, v3, v4, v5⟩, hn5⟩ (fun hS5 => ?_)
  clear hK K
  refine wpAnyH_take (i := 12) (v := ?_) rfl (by kernel_rfl) (by kernel_rfl) (by kernel_rfl) (fun _ _ _ h => h) (Or.inl ⟨by rfl, ?_⟩) hS5 ?_
  rotate_left
  · (intro w hSw; (try dsimp only at hSw); go_simp; (try with_reducible rfl))
  try simp only [Act.put, List.setIfInBounds_toArray]
  refine wpAnyH_done (by kernel_rfl) ?_ _
  all_goals
    have e0 := cell_of (k := 0) h3.here rfl
    have e1 := cell_of (k := 1) h3.here rfl
    have e2 := cell_of (k := 2) h3.here rfl
    have HT : Hid (Tks x3 ta L) := Lib.hid (tks_other hT4 (by intro k; simp) hz4 h3)
    have HBE : Hid (Below w.heap.size w x3) := Lib.hid (h3.below w.heap.size w (by omega) (HB2.out.trans ((HBB3.out.trans (hb4.mono HBB3.out.size)).mono HB2.out.size)))
    clear hT4 hb4 hx4 hz4 h3 p0 q0 r0 p1 q1 r1 p2 q2 r2 n2 c0 c1 c2 c3 c4 c5
    go_wp2_with fail
    exact bodyPost_ret (v := .tuple #[.agg #[.string ⟨X.toArray⟩, .slice ta m tc, .bool imp], .int .i64 0]) (by simp [results, Tryz.results5, go_sem, e0, e1, e2]) rfl ⟨⟨ta, tc, rfl, HT.out, g1, g2⟩, HBE.out⟩
end Go.Proofs.YtbodmfbpmeapoaaGreat

namespace Go.Proofs.YtbodmfbpmeapoaaGreat
open Go.RowKit TreN LexP FixP SynP ValP PropP FixM
set_option linter.unusedVariables false

set_option maxRecDepth 100000 in
set_option maxHeartbeats 2000000 in
theorem refSameDecls_one (g1 g2 c1 c2 : Nat) (nm : List UInt8) (l : List Tok) (m : Nat) (b1 b2 : Option Addr) (y1 y2 : Nat) (im : Bool) (w : World) (hm : l.length = m) (hl : m ≤ 100)
    (d1 : w.cell? ⟨g1, 0, none⟩ = some (.string ⟨nm.toArray⟩)) (d2 : w.cell? ⟨g1, 1, none⟩ = some (.slice b1 m y1)) (d4 : w.cell? ⟨g1, 2, none⟩ = some (.bool im))
    (e1 : w.cell? ⟨g2, 0, none⟩ = some (.string ⟨nm.toArray⟩)) (e2 : w.cell? ⟨g2, 1, none⟩ = some (.slice b2 m y2)) (e4 : w.cell? ⟨g2, 2, none⟩ = some (.bool im)) (T1 : Tks w b1 l) (T2 : Tks w b2 l) :
    Calls Tryz.prog 16 #[.slice (some ⟨g1, 0, none⟩) 1 c1, .slice (some ⟨g2, 0, none⟩) 1 c2] w fun e w' => e = .returned (.bool true) ∧ ∃ q, w' = w.drewN q := by
  have HC := Lib.hid (And.intro d1 (And.intro d2 (And.intro d4 (And.intro e1 (And.intro e2 e4)))))
  have HT := Lib.hid (And.intro T1 T2)
  have HM := Lib.hid hm
  clear d1 d2 d4 e1 e2 e4 T1 T2 hm
  go_enter Tryz.func16, Tryz.ntmps16
  go_wp2_with fail
  go_loopw [5] (fun vi wr => ∃ k q : Nat, vi = .int .i64 (k : Int) ∧ k ≤ 1 ∧ wr = w.drewN q) (fun vi _ => 1 - (intOf vi).toNat)
  case atStart => exact ⟨0, 0, rfl, by omega, rfl⟩
  case round =>
    obtain ⟨k, q, rfl, hk, rfl⟩ := hrel
    by_cases hlt : k < 1
    · have hltz : (k : Int) < 1 := by omega
      have hk3 : k * 3 = 0 := by omega
      have S := fun (mm : Nat) => refSame_any b1 b2 y1 y2 l l ((w.drewN q).drewN mm) (by have := HM.out; omega) (HT.out.1.below (below_drewN2 (below_drewN2 (Below.refl _ _) q) mm)) (HT.out.2.below (below_drewN2 (below_drewN2 (Below.refl _ _) q) mm))
      rw [decide_eq_true rfl] at S
      obtain ⟨d1, d2, d4, e1, e2, e4⟩ := HC.out
      have d1' : (w.drewN q).cell? ⟨g1, k * 3, none⟩ = some (.string ⟨nm.toArray⟩) := by rw [hk3]; exact d1
      have d2' : (w.drewN q).cell? ⟨g1, k * 3 + 1, none⟩ = some (.slice b1 m y1) := by rw [hk3]; exact d2
      have d4' : (w.drewN q).cell? ⟨g1, k * 3 + 2, none⟩ = some (.bool im) := by rw [hk3]; exact d4
      have e1' : (w.drewN q).cell? ⟨g2, k * 3, none⟩ = some (.string ⟨nm.toArray⟩) := by rw [hk3]; exact e1
      have e2' : (w.drewN q).cell? ⟨g2, k * 3 + 1, none⟩ = some (.slice b2 m y2) := by rw [hk3]; exact e2
      have e4' : (w.drewN q).cell? ⟨g2, k * 3 + 2, none⟩ = some (.bool im) := by rw [hk3]; exact e4
      generalize hwq : w.drewN q = wq at *
      have HW := Lib.hid hwq
      rw [HM.out] at S
      have SS := Lib.hid S
      have hkn0 : (0 : Int) ≤ (k : Int) := by omega
      clear d1 d2 d4 e1 e2 e4 S hwq hk3
      go_wp2_with fail
      go_quiet (first | (go_at_call 39; refine Calls.quiet_of (SS.out _)))
      go_wp2_with fail
      go_roundw
      case rel => exact ⟨k + 1, q + nq, by go_num, by omega, by rw [← HW.out, World.drewN_drewN]⟩
      case measure => simp [intOf]; omega
    · have hltz : ¬ (k : Int) < 1 := by omega
      go_wp2_with fail
      go_ret
      exact ⟨rfl, q, rfl⟩

set_option maxRecDepth 100000 in
set_option maxHeartbeats 2000000 in
theorem One_any (nm : List UInt8) (l : List Tok) (m : Nat) (b1 b2 : Option Addr) (y1 y2 : Nat) (im : Bool) (w : World) (hm : l.length = m) (hl : m ≤ 100) (T1 : Tks w b1 l) (T2 : Tks w b2 l) :
    Calls Tryz.prog 6 #[.agg #[.string ⟨nm.toArray⟩, .slice b1 m y1, .bool im], .agg #[.string ⟨nm.toArray⟩, .slice b2 m y2, .bool im]] w fun e w' => e = .returned (.bool true) ∧ Below w.heap.size w w' := by
  obtain ⟨D1, hD1⟩ : ∃ D, Obj.cells #[.string ⟨nm.toArray⟩, .slice b1 m y1, .bool im] 28 = D := ⟨_, rfl⟩
  obtain ⟨D2, hD2⟩ : ∃ D, Obj.cells #[.string ⟨nm.toArray⟩, .slice b2 m y2, .bool im] 28 = D := ⟨_, rfl⟩
  have hb4 : Below w.heap.size w ((((w.alloc D1).alloc D2).alloc D1).alloc D2) := ((((Below.refl _ _).alloc (Nat.le_refl _) _).alloc (by simp) _).alloc (by simp; omega) _).alloc (by simp; omega) _
  have h1 : ((((w.alloc D1).alloc D2).alloc D1).alloc D2).heap[w.heap.size + 1 + 1]? = some D1 := by
    rw [Below.heap_alloc _ _ _ (by simp)]
    have := heap_alloc_new ((w.alloc D1).alloc D2) D1
    simpa using this
  have h2 : ((((w.alloc D1).alloc D2).alloc D1).alloc D2).heap[w.heap.size + 1 + 1 + 1]? = some D2 := by
    have := heap_alloc_new (((w.alloc D1).alloc D2).alloc D1) D2
    simpa using this
  subst hD1; subst hD2
  have S := Lib.hid (refSameDecls_one (w.heap.size + 1 + 1) (w.heap.size + 1 + 1 + 1) 1 1 nm l m b1 b2 y1 y2 im _ hm hl (cell_of h1 rfl) (cell_of h1 rfl) (cell_of h1 rfl) (cell_of h2 rfl) (cell_of h2 rfl) (cell_of h2 rfl) (T1.below hb4) (T2.below hb4))
  have HB := Lib.hid hb4
  clear hb4 h1 h2 T1 T2 hm
  go_enter Tryz.func6, Tryz.ntmps6
  go_wp2_with fail
  refine S.out.mono ?_
  rintro e w5 ⟨rfl, q, hw5⟩
  have HB5 : Hid (Below w.heap.size w w5) := Lib.hid (by rw [hw5]; exact below_drewN2 HB.out q)
  clear hw5
  go_wp2_with fail
  go_ret
  exact ⟨rfl, HB5.out⟩
end Go.Proofs.YtbodmfbpmeapoaaGreat

namespace Go.Proofs.YtbodmfbpmeapoaaGreat
open Go.RowKit TreN LexP FixP SynP ValP PropP FixM
set_option linter.unusedVariables false

def RefYes : Prop := ∀ (p k n d : Int) (nm : List UInt8) (imp : Bool) (w : World) (hp : 1 ≤ p ∧ p ≤ 37) (ht : takesP p ⟨k, n, d, nm⟩ = true) (hs : nm.length ≤ maxLen), Calls Tryz.prog 5 #[.agg #[.int .i64 p, .int .i64 k, .int .i64 n, .int .i64 d, .string ⟨nm.toArray⟩, .bool imp]] w (RwOk w (txtP namesL p) ⟨k, n, d, nm⟩ imp)

set_option maxRecDepth 100000 in
set_option maxHeartbeats 4000000 in
/-- where nothing is told: both refuse with one code -/
theorem PropBack_no (p k n d : Int) (nm : List UInt8) (imp : Bool) (w : World) (code : Int) (hc : code = 22 ∨ code = 23)
    (R1 : ∀ W, Calls Tryz.prog 4 #[.agg #[.int .i64 p, .int .i64 k, .int .i64 n, .int .i64 d, .string ⟨nm.toArray⟩, .bool imp]] W (RwNo W code))
    (R2 : ∀ W, Calls Tryz.prog 5 #[.agg #[.int .i64 p, .int .i64 k, .int .i64 n, .int .i64 d, .string ⟨nm.toArray⟩, .bool imp]] W (RwNo W code)) :
    Calls Tryz.prog 3 #[.agg #[.int .i64 p, .int .i64 k, .int .i64 n, .int .i64 d, .string ⟨nm.toArray⟩, .bool imp]] w fun e w' => e = .returned (.bool true) ∧ Below w.heap.size w w' := by
  have KN := Lib.hid (fun W => known10_any W)
  have HB := Lib.hid (below_oneP w (.cells #[.int .i64 p, .int .i64 k, .int .i64 n, .int .i64 d, .string ⟨nm.toArray⟩, .bool imp] 25))
  have HX : Hid ((w.alloc (.cells #[.int .i64 p, .int .i64 k, .int .i64 n, .int .i64 d, .string ⟨nm.toArray⟩, .bool imp] 25)).heap[w.heap.size]? = some (.cells #[.int .i64 p, .int .i64 k, .int .i64 n, .int .i64 d, .string ⟨nm.toArray⟩, .bool imp] 25 (0, 0))) := Lib.hid (heap_alloc_new w _)
  have R1H := Lib.hid R1
  have R2H := Lib.hid R2
  have ON := Lib.hid (fun W => One_any [] [] 0 none none 0 0 false W rfl (by omega) (Or.inl rfl) (Or.inl rfl))
  clear R1 R2
  rcases hc with rfl | rfl
  all_goals
    go_enter Tryz.func3, Tryz.ntmps3
    go_wp2_with fail
    refine (R1H.out _).mono ?_
    rintro e w1 ⟨rfl, hb1⟩
    have HB1 := Lib.hid (HB.out.trans (hb1.mono HB.out.size))
    have HX1 := Lib.hid ((hb1.block _ (blk_ltP HX.out)).trans HX.out)
    clear hb1
    go_upto_region 2 with (fail)
    have HB2 := Lib.hid (HB1.out.alloc HB1.out.size (.cells #[.string ⟨#[]⟩, .slice none 0 0, .bool false] 28))
    have hx2 := (Below.heap_alloc w1 (.cells #[.string ⟨#[]⟩, .slice none 0 0, .bool false] 28) _ (blk_ltP HX1.out)).trans HX1.out
    have hr2 := heap_alloc_new w1 (.cells #[.string ⟨#[]⟩, .slice none 0 0, .bool false] 28)
    obtain ⟨w2, hw2⟩ : ∃ x, w1.alloc (.cells #[.string ⟨#[]⟩, .slice none 0 0, .bool false] 28) = x := ⟨_, rfl⟩
    rw [hw2] at HB2 hx2 hr2 ⊢
    obtain ⟨B1, hB1⟩ : ∃ B, w1.heap.size = B := ⟨_, rfl⟩
    rw [hB1] at hr2 ⊢
    have HR2 := Lib.hid hr2
    have c0 : w2.cell? ⟨w.heap.size, 0, none⟩ = some (.int .i64 p) := cell_of hx2 rfl
    have c1 : w2.cell? ⟨w.heap.size, 1, none⟩ = some (.int .i64 k) := cell_of hx2 rfl
    have c2 : w2.cell? ⟨w.heap.size, 2, none⟩ = some (.int .i64 n) := cell_of hx2 rfl
    have c3 : w2.cell? ⟨w.heap.size, 3, none⟩ = some (.int .i64 d) := cell_of hx2 rfl
    have c4 : w2.cell? ⟨w.heap.size, 4, none⟩ = some (.string ⟨nm.toArray⟩) := cell_of hx2 rfl
    have c5 : w2.cell? ⟨w.heap.size, 5, none⟩ = some (.bool imp) := cell_of hx2 rfl
    clear hw2 hB1 hx2 hr2
    go_wp2_with fail
    refine (R2H.out _).mono ?_
    rintro e w3 ⟨rfl, hb3⟩
    have HB3 := Lib.hid (HB2.out.trans (hb3.mono HB2.out.size))
    have HR3 := Lib.hid ((hb3.block _ (blk_ltP HR2.out)).trans HR2.out)
    clear hb3 c0 c1 c2 c3 c4 c5
    go_upto_region 3 with (fail)
    have HB4 := Lib.hid (HB3.out.alloc HB3.out.size (.cells #[.string ⟨#[]⟩, .slice none 0 0, .bool false] 28))
    have hr4 := (Below.heap_alloc w3 (.cells #[.string ⟨#[]⟩, .slice none 0 0, .bool false] 28) _ (blk_ltP HR3.out)).trans HR3.out
    have hs4 := heap_alloc_new w3 (.cells #[.string ⟨#[]⟩, .slice none 0 0, .bool false] 28)
    obtain ⟨w4, hw4⟩ : ∃ x, w3.alloc (.cells #[.string ⟨#[]⟩, .slice none 0 0, .bool false] 28) = x := ⟨_, rfl⟩
    rw [hw4] at HB4 hr4 hs4 ⊢
    obtain ⟨B3, hB3⟩ : ∃ B, w3.heap.size = B := ⟨_, rfl⟩
    rw [hB3] at hs4 ⊢
    have d0 : w4.cell? ⟨B1, 0, none⟩ = some (.string ⟨#[]⟩) := cell_of hr4 rfl
    have d1 : w4.cell? ⟨B1, 1, none⟩ = some (.slice none 0 0) := cell_of hr4 rfl
    have d2 : w4.cell? ⟨B1, 2, none⟩ = some (.bool false) := cell_of hr4 rfl
    have e0 : w4.cell? ⟨B3, 0, none⟩ = some (.string ⟨#[]⟩) := cell_of hs4 rfl
    have e1 : w4.cell? ⟨B3, 1, none⟩ = some (.slice none 0 0) := cell_of hs4 rfl
    have e2 : w4.cell? ⟨B3, 2, none⟩ = some (.bool false) := cell_of hs4 rfl
    clear hw4 hB3 hr4 hs4
    go_wp2_with fail
    refine (ON.out _).mono ?_
    rintro e w5 ⟨rfl, hb5⟩
    have HB5 := Lib.hid (HB4.out.trans (hb5.mono HB4.out.size))
    clear hb5 d0 d1 d2 e0 e1 e2
    go_wp2_with fail
    refine (KN.out _).mono ?_
    rintro e w9 ⟨rfl, hb9⟩
    have HB9 := Lib.hid (HB5.out.trans (hb9.mono HB5.out.size))
    clear hb9
    go_wp2_with fail
    go_ret
    exact ⟨rfl, HB9.out⟩

set_option maxRecDepth 100000 in
set_option maxHeartbeats 4000000 in
theorem PropBack_yes (RY : RefYes) (p : Nat) (k n d : Int) (nm : List UInt8) (imp : Bool) (w : World) (h1 : 1 ≤ p) (h2 : p ≤ 37) (ht : takesP p ⟨k, n, d, nm⟩ = true) (hs : nm.length ≤ maxLen) :
    Calls Tryz.prog 3 #[.agg #[.int .i64 (p : Nat), .int .i64 k, .int .i64 n, .int .i64 d, .string ⟨nm.toArray⟩, .bool imp]] w fun e w' => e = .returned (.bool true) ∧ Below w.heap.size w w' := by
  have KN := Lib.hid (fun W => known10_any W)
  have HB := Lib.hid (below_oneP w (.cells #[.int .i64 (p : Nat), .int .i64 k, .int .i64 n, .int .i64 d, .string ⟨nm.toArray⟩, .bool imp] 25))
  have HX : Hid ((w.alloc (.cells #[.int .i64 (p : Nat), .int .i64 k, .int .i64 n, .int .i64 d, .string ⟨nm.toArray⟩, .bool imp] 25)).heap[w.heap.size]? = some (.cells #[.int .i64 (p : Nat), .int .i64 k, .int .i64 n, .int .i64 d, .string ⟨nm.toArray⟩, .bool imp] 25 (0, 0))) := Lib.hid (heap_alloc_new w _)
  have R1 := fun W => Raw_yes p k n d nm imp W ⟨by omega, by omega⟩ ht hs
  have R2 := fun W => RY p k n d nm imp W ⟨by omega, by omega⟩ ht hs
  have hvr : rightV ⟨k, n, d, nm⟩ = true := by
    have := ht
    unfold takesP at this
    simp only [Bool.and_eq_true] at this
    exact this.2.1
  have PO := fun W a m c hm g1 g2 hT => Parse_own p h1 h2 ⟨k, n, d, nm⟩ hvr imp W a m c hm g1 g2 hT
  rw [if_pos ht] at PO
  unfold RwOk at R1 R2
  have h5 := (tok_texts (rv_of hvr)).1
  obtain ⟨L, hL⟩ : ∃ L, tokV ⟨k, n, d, nm⟩ = L := ⟨_, rfl⟩
  obtain ⟨X, hXX⟩ : ∃ X, txtP namesL (p : Int) = X := ⟨_, rfl⟩
  simp only [hL, hXX] at R1 R2 PO h5
  obtain ⟨m, hm⟩ : ∃ m, L.length = m := ⟨_, rfl⟩
  simp only [hm] at R1 R2 h5
  have ON := Lib.hid (fun W b1 b2 y1 y2 T1 T2 => One_any X L m b1 b2 y1 y2 imp W hm (by omega) T1 T2)
  have POH : Hid (∀ W a c, m ≤ c → c ≤ maxLen → Tks W a L → Calls Tryz.prog 8 #[.agg #[.string ⟨X.toArray⟩, .slice a m c, .bool imp]] W fun e w' => ∃ a6 c6, e = .returned (.tuple #[.slice (some ⟨a6, 0, none⟩) 1 c6, .int .i64 0]) ∧ Hid (Ds w' (some ⟨a6, 0, none⟩) [⟨(p : Int), ⟨k, n, d, nm⟩, imp⟩] ∧ Below W.heap.size W w')) := Lib.hid fun W a c g1 g2 hT => (PO W a m c hm g1 g2 hT).mono fun e w' h => by
    obtain ⟨⟨a6, c6, he, hd6⟩, hb6⟩ := h
    have hd6 : Ds w' a6 [⟨(p : Int), ⟨k, n, d, nm⟩, imp⟩] := hd6
    obtain ⟨b6, rfl, _⟩ := hd6.get (i := 0) (by simp)
    exact ⟨b6, c6, he, hd6, hb6⟩
  have R1H := Lib.hid R1
  have R2H := Lib.hid R2
  clear R1 R2 PO hL hXX hm ht hs hvr h5
  go_enter Tryz.func3, Tryz.ntmps3
  go_wp2_with fail
  refine (R1H.out _).mono ?_
  rintro e w1 ⟨⟨a1, c1, rfl, hT1, g1, g2⟩, hb1⟩
  have HB1 := Lib.hid (HB.out.trans (hb1.mono HB.out.size))
  have HX1 := Lib.hid ((hb1.block _ (blk_ltP HX.out)).trans HX.out)
  have HG1 := Lib.hid (And.intro g1 g2)
  clear hb1 g1 g2
  go_upto_region 2 with (fail)
  have hbz1 := below_oneP w1 (.cells #[.string ⟨X.toArray⟩, .slice a1 m c1, .bool imp] 28)
  have HB2 := Lib.hid (HB1.out.trans (hbz1.mono HB1.out.size))
  have hx2 := (hbz1.block _ (blk_ltP HX1.out)).trans HX1.out
  have hr2 := heap_alloc_new w1 (.cells #[.string ⟨X.toArray⟩, .slice a1 m c1, .bool imp] 28)
  have hT2 := hT1.below hbz1
  obtain ⟨w2, hw2⟩ : ∃ x, w1.alloc (.cells #[.string ⟨X.toArray⟩, .slice a1 m c1, .bool imp] 28) = x := ⟨_, rfl⟩
  rw [hw2] at HB2 hx2 hr2 hT2 ⊢
  obtain ⟨B1, hB1⟩ : ∃ B, w1.heap.size = B := ⟨_, rfl⟩
  rw [hB1] at hr2 ⊢
  have HR2 := Lib.hid hr2
  have HX2 := Lib.hid hx2
  have HT2 := Lib.hid hT2
  have z0 : w2.cell? ⟨w.heap.size, 0, none⟩ = some (.int .i64 (p : Nat)) := cell_of hx2 rfl
  have z1 : w2.cell? ⟨w.heap.size, 1, none⟩ = some (.int .i64 k) := cell_of hx2 rfl
  have z2 : w2.cell? ⟨w.heap.size, 2, none⟩ = some (.int .i64 n) := cell_of hx2 rfl
  have z3 : w2.cell? ⟨w.heap.size, 3, none⟩ = some (.int .i64 d) := cell_of hx2 rfl
  have z4 : w2.cell? ⟨w.heap.size, 4, none⟩ = some (.string ⟨nm.toArray⟩) := cell_of hx2 rfl
  have z5 : w2.cell? ⟨w.heap.size, 5, none⟩ = some (.bool imp) := cell_of hx2 rfl
  clear hbz1 hw2 hB1 hx2 hr2 hT1 hT2
  go_wp2_with fail
  refine (R2H.out _).mono ?_
  rintro e w3 ⟨⟨a3, c3, rfl, hT3, g1, g2⟩, hb3⟩
  have HB3 := Lib.hid (HB2.out.trans (hb3.mono HB2.out.size))
  have HR3 := Lib.hid ((hb3.block _ (blk_ltP HR2.out)).trans HR2.out)
  have HX3 := Lib.hid ((hb3.block _ (blk_ltP HX2.out)).trans HX2.out)
  have HT3 := Lib.hid (HT2.out.below hb3)
  clear hb3 z0 z1 z2 z3 z4 z5 g1 g2
  go_upto_region 3 with (fail)
  have hbz3 := below_oneP w3 (.cells #[.string ⟨X.toArray⟩, .slice a3 m c3, .bool imp] 28)
  have HB4 := Lib.hid (HB3.out.trans (hbz3.mono HB3.out.size))
  have hr4 := (hbz3.block _ (blk_ltP HR3.out)).trans HR3.out
  have hx4 := (hbz3.block _ (blk_ltP HX3.out)).trans HX3.out
  have hs4 := heap_alloc_new w3 (.cells #[.string ⟨X.toArray⟩, .slice a3 m c3, .bool imp] 28)
  have hT4 := HT3.out.below hbz3
  have hU4 := hT3.below hbz3
  obtain ⟨w4, hw4⟩ : ∃ x, w3.alloc (.cells #[.string ⟨X.toArray⟩, .slice a3 m c3, .bool imp] 28) = x := ⟨_, rfl⟩
  rw [hw4] at HB4 hr4 hx4 hs4 hT4 hU4 ⊢
  obtain ⟨B3, hB3⟩ : ∃ B, w3.heap.size = B := ⟨_, rfl⟩
  rw [hB3] at hs4 ⊢
  have HR4 := Lib.hid hr4
  have HX4 := Lib.hid hx4
  have HT4 := Lib.hid hT4
  have O4 := Lib.hid (ON.out w4 a1 a3 c1 c3 hT4 hU4)
  have d0 : w4.cell? ⟨B1, 0, none⟩ = some (.string ⟨X.toArray⟩) := cell_of hr4 rfl
  have d1 : w4.cell? ⟨B1, 1, none⟩ = some (.slice a1 m c1) := cell_of hr4 rfl
  have d2 : w4.cell? ⟨B1, 2, none⟩ = some (.bool imp) := cell_of hr4 rfl
  have e0 : w4.cell? ⟨B3, 0, none⟩ = some (.string ⟨X.toArray⟩) := cell_of hs4 rfl
  have e1 : w4.cell? ⟨B3, 1, none⟩ = some (.slice a3 m c3) := cell_of hs4 rfl
  have e2 : w4.cell? ⟨B3, 2, none⟩ = some (.bool imp) := cell_of hs4 rfl
  clear hbz3 hw4 hB3 hr4 hx4 hs4 hT3 hT4 hU4
  go_wp2_with fail
  refine O4.out.mono ?_
  rintro e w5 ⟨rfl, hb5⟩
  have HB5 := Lib.hid (HB4.out.trans (hb5.mono HB4.out.size))
  have hr5 := (hb5.block _ (blk_ltP HR4.out)).trans HR4.out
  have HX5 := Lib.hid ((hb5.block _ (blk_ltP HX4.out)).trans HX4.out)
  have d0 : w5.cell? ⟨B1, 0, none⟩ = some (.string ⟨X.toArray⟩) := cell_of hr5 rfl
  have d1 : w5.cell? ⟨B1, 1, none⟩ = some (.slice a1 m c1) := cell_of hr5 rfl
  have d2 : w5.cell? ⟨B1, 2, none⟩ = some (.bool imp) := cell_of hr5 rfl
  have P5 := Lib.hid (POH.out w5 a1 c1 HG1.out.1 HG1.out.2 (HT4.out.below hb5))
  clear hb5 hr5 e0 e1 e2
  go_wp2_with fail
  refine P5.out.mono ?_
  rintro e w6 ⟨g, gc, rfl, HF⟩
  have HB6 := Lib.hid (HB5.out.trans (HF.out.2.mono HB5.out.size))
  have hx6 := (HF.out.2.block _ (blk_ltP HX5.out)).trans HX5.out
  have z0 : w6.cell? ⟨w.heap.size, 0, none⟩ = some (.int .i64 (p : Nat)) := cell_of hx6 rfl
  have z1 : w6.cell? ⟨w.heap.size, 1, none⟩ = some (.int .i64 k) := cell_of hx6 rfl
  have z2 : w6.cell? ⟨w.heap.size, 2, none⟩ = some (.int .i64 n) := cell_of hx6 rfl
  have z3 : w6.cell? ⟨w.heap.size, 3, none⟩ = some (.int .i64 d) := cell_of hx6 rfl
  have z4 : w6.cell? ⟨w.heap.size, 4, none⟩ = some (.string ⟨nm.toArray⟩) := cell_of hx6 rfl
  have z5 : w6.cell? ⟨w.heap.size, 5, none⟩ = some (.bool imp) := cell_of hx6 rfl
  have hbz6 := below_oneP w6 (.cells #[.int .i64 (p : Nat), .int .i64 k, .int .i64 n, .int .i64 d, .string ⟨nm.toArray⟩, .bool imp] 25)
  have hn6 := heap_alloc_new w6 (.cells #[.int .i64 (p : Nat), .int .i64 k, .int .i64 n, .int .i64 d, .string ⟨nm.toArray⟩, .bool imp] 25)
  have hD2 : Ds (w6.alloc (.cells #[.int .i64 (p : Nat), .int .i64 k, .int .i64 n, .int .i64 d, .string ⟨nm.toArray⟩, .bool imp] 25)) (some ⟨w6.heap.size, 0, none⟩) [⟨(p : Int), ⟨k, n, d, nm⟩, imp⟩] := by
    refine Or.inr ⟨_, rfl, by simp, fun i hi => ?_⟩
    have hi0 : i = 0 := by simp at hi; omega
    subst hi0
    exact ⟨cell_of hn6 rfl, cell_of hn6 rfl, cell_of hn6 rfl, cell_of hn6 rfl, cell_of hn6 rfl, cell_of hn6 rfl⟩
  have SM := Lib.hid (refSame10_eq (some ⟨g, 0, none⟩) (some ⟨w6.heap.size, 0, none⟩) gc 1 [⟨(p : Int), ⟨k, n, d, nm⟩, imp⟩] 1 _ rfl (by omega) (HF.out.1.below hbz6) hD2)
  have HB7 := Lib.hid (HB6.out.trans (hbz6.mono HB6.out.size))
  clear hx6 hbz6 hn6 hD2 d0 d1 d2
  go_wp2_with fail
  refine SM.out.mono ?_
  rintro e w8 ⟨rfl, q, hw8⟩
  have HB8 : Hid (Below w.heap.size w w8) := Lib.hid (by rw [hw8]; exact below_drewN2 HB7.out q)
  clear hw8
  go_wp2_with fail
  refine (KN.out _).mono ?_
  rintro e w9 ⟨rfl, hb9⟩
  have HB9 := Lib.hid (HB8.out.trans (hb9.mono HB8.out.size))
  clear hb9
  go_wp2_with fail
  go_ret
  exact ⟨rfl, HB9.out⟩

theorem PropBack_of (RY : RefYes) (p k n d : Int) (nm : List UInt8) (imp : Bool) (w : World) (hs : nm.length ≤ maxLen) :
    Calls Tryz.prog 3 #[.agg #[.int .i64 p, .int .i64 k, .int .i64 n, .int .i64 d, .string ⟨nm.toArray⟩, .bool imp]] w fun e w' => e = .returned (.bool true) ∧ Below w.heap.size w w' := by
  by_cases hp : 1 ≤ p ∧ p ≤ 37
  · cases ht : takesP p ⟨k, n, d, nm⟩ with
    | true =>
      obtain ⟨j, rfl⟩ : ∃ j : Nat, p = (j : Int) := ⟨p.toNat, by omega⟩
      exact PropBack_yes RY j k n d nm imp w (by omega) (by omega) ht hs
    | false => exact PropBack_no p k n d nm imp w 22 (Or.inl rfl) (fun W => Raw_odd p k n d nm imp W hp ht hs) (fun W => refRaw_odd p k n d nm imp W hp ht hs)
  · exact PropBack_no p k n d nm imp w 23 (Or.inr rfl) (fun W => Raw_no p k n d nm imp W hp) (fun W => refRaw_no p k n d nm imp W hp)
theorem PropBack_walk (p k n d : Int) (nm : List UInt8) (imp : Bool) (w : World) (hs : nm.length ≤ maxLen) :
    Calls Tryz.prog 3 #[.agg #[.int .i64 p, .int .i64 k, .int .i64 n, .int .i64 d, .string ⟨nm.toArray⟩, .bool imp]] w fun e w' => e = .returned (.bool true) ∧ Below w.heap.size w w' :=
  PropBack_of refRaw_yes p k n d nm imp w hs
end Go.Proofs.YtbodmfbpmeapoaaGreat
