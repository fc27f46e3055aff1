/- Joined texts: SelEq SelEs SelEt. -/
import Derived.Test.YtfbfndknhabmhaaGreatSelMa
import Derived.Test.YtfbfndknhabmhaaGreatWalkA
import Derived.Test.YtfbfndknhabmhaaGreatSynU1
import Derived.Test.YtfbfndknhabmhaaGreatSelGa
import Derived.Laws.StructEq
import Derived.Deep.QuietTactic
import Derived.BigQuiet
import Derived.Lib.QuietBelow
import Derived.StillTailTactics
namespace Go.Proofs.YtfbfndknhabmhaaGreat
open Go.RowKit TreN LexP FixP SynP ValP SelP FixM
set_option linter.unusedVariables false

theorem below_drewE {B : Nat} {a w : World} (h : Below B a w) (q : Nat) : Below B a (w.drewN q) := ⟨h.os, h.tape, h.output, h.size, h.block⟩
theorem str_eq7 (x : List UInt8) : (x == x) = true := by simp
theorem str_ne7 (x : List UInt8) : (x != x) = false := by simp

set_option maxRecDepth 100000 in
set_option maxHeartbeats 1000000 in
theorem refSameTexts_eq7 (a a2 : Option Addr) (l : List (List UInt8)) (n c c2 : Nat) (w : World) (hn : l.length = n) (hl : n ≤ 9223372036854775807) (h1 : Txs w a l) (h2 : Txs w a2 l) :
    Calls Tryz.prog 42 #[.slice a n c, .slice a2 n c2] w fun e w' => e = .returned (.bool true) ∧ ∃ q, w' = w.drewN q := by
  have H1 := Lib.hid h1
  have H2 := Lib.hid h2
  have HN := Lib.hid hn
  clear h1 h2 hn
  go_enter Tryz.func42, Tryz.ntmps42
  go_wp2_with fail
  go_loopw [5] (fun vi wr => ∃ k q : Nat, vi = .int .i64 (k : Int) ∧ k ≤ n ∧ wr = w.drewN q) (fun vi _ => n - (intOf vi).toNat)
  case atStart => exact ⟨0, 0, rfl, by omega, rfl⟩
  case round =>
    obtain ⟨k, q, rfl, hk, rfl⟩ := hrel
    by_cases hlt : k < n
    · have hltz : (k : Int) < (n : Int) := by omega
      have hkl : k < l.length := by have := HN.out; omega
      obtain ⟨b1, o1, rfl, _, c1⟩ := H1.out.get hkl
      obtain ⟨b2, o2, rfl, _, c2'⟩ := H2.out.get hkl
      obtain ⟨y, hy⟩ : ∃ y, l[k] = y := ⟨_, rfl⟩
      rw [hy] at c1 c2'
      clear hy hkl
      have d1 : (w.drewN q).cell? ⟨b1, o1 + k, none⟩ = some (.string ⟨y.toArray⟩) := c1
      have d2 : (w.drewN q).cell? ⟨b2, o2 + k, none⟩ = some (.string ⟨y.toArray⟩) := c2'
      clear c1 c2'
      have hse := str_eq7 y
      generalize hwq : w.drewN q = wq at d1 d2 ⊢
      have HW := Lib.hid hwq
      clear hwq
      go_wp2_with fail
      go_quiet (fail)
      go_wp2_with fail
      go_roundw
      case rel => exact ⟨k + 1, q + nq, by go_num, by omega, by rw [← HW.out, World.drewN_drewN]⟩
      case measure => simp [intOf]; omega
    · have hltz : ¬ (k : Int) < (n : Int) := by omega
      go_wp2_with fail
      go_ret
      exact ⟨rfl, q, rfl⟩

set_option maxRecDepth 100000 in
theorem tst_same7 (x y : ByteArray) (b : Bool) (w : World) : (binOp .neq 57 (.agg #[.string x, .bool b, .string y]) (.agg #[.string x, .bool b, .string y])).run Tryz.prog w = .ok (.bool false) w := by
  rw [run_neq_struct, run_equalIn_agg w 9999 57 _ _ (by kernel_rfl) (by kernel_rfl)]
  have hf : Tryz.prog.fieldsOf 57 = (match Tryz.prog.underlying 57 with | some (.struct fs) => fs | _ => #[]) := rfl
  rw [hf, Tryz.underlying57]
  have p1 : ∀ (w : World), (part 9 #[.string x, .bool b, .string y] 0).run Tryz.prog w = .ok (.string x) w := fun w => by kernel_rfl
  have p2 : ∀ (w : World), (part 4 #[.string x, .bool b, .string y] 1).run Tryz.prog w = .ok (.bool b) w := fun w => by kernel_rfl
  have p3 : ∀ (w : World), (part 9 #[.string x, .bool b, .string y] 2).run Tryz.prog w = .ok (.string y) w := fun w => by kernel_rfl
  simp only [Op.eqFields, Sem.run_ite, Sem.run_bind, p1, p2, p3, Result.andThen_ok, run_equalIn_string w 9998 9 x x Tryz.underlying9, run_equalIn_string w 9998 9 y y Tryz.underlying9, run_equalIn_bool w 9998 4 b b Tryz.underlying4]
  simp

set_option maxRecDepth 100000 in
set_option maxHeartbeats 4000000 in
theorem refSamePart_eq7 (co st : Int) (tg id : List UInt8) (cl : List (List UInt8)) (ts : List Tst) (n m : Nat) (ca ta ca2 ta2 : Option Addr) (cc tc cc2 tc2 : Nat) (w : World) (hn : cl.length = n) (hm : ts.length = m) (hn8 : n ≤ maxLen) (hm8 : m ≤ maxLen)
    (h1 : Txs w ca cl) (h2 : Txs w ca2 cl) (h3 : Tss w ta ts) (h4 : Tss w ta2 ts) :
    Calls Tryz.prog 22 #[.agg #[.int .i64 co, .string ⟨tg.toArray⟩, .string ⟨id.toArray⟩, .slice ca n cc, .slice ta m tc, .int .i64 st], .agg #[.int .i64 co, .string ⟨tg.toArray⟩, .string ⟨id.toArray⟩, .slice ca2 n cc2, .slice ta2 m tc2, .int .i64 st]] w fun e w' => e = .returned (.bool true) ∧ Below w.heap.size w w' := by
  unfold maxLen at hn8 hm8
  have hnz : (n : Int) ≤ 9223372036854775807 := by omega
  have hmz : (m : Int) ≤ 9223372036854775807 := by omega
  obtain ⟨wb, hwb⟩ : ∃ wb, (w.alloc (.cells #[.int .i64 co, .string ⟨tg.toArray⟩, .string ⟨id.toArray⟩, .slice ca n cc, .slice ta m tc, .int .i64 st] 36)).alloc (.cells #[.int .i64 co, .string ⟨tg.toArray⟩, .string ⟨id.toArray⟩, .slice ca2 n cc2, .slice ta2 m tc2, .int .i64 st] 36) = wb := ⟨_, rfl⟩
  have hbel : Below w.heap.size w wb := by rw [← hwb]; exact (below_one7 w _).alloc (by simp) _
  have CS := Lib.hid (refSameTexts_eq7 ca ca2 cl n cc cc2 wb hn (by omega) (h1.below hbel) (h2.below hbel))
  have HA2 := Lib.hid (h3.below hbel)
  have HB2 := Lib.hid (h4.below hbel)
  have HBEL := Lib.hid hbel
  have HM := Lib.hid hm
  have e1 := str_eq7 tg
  have e2 := str_eq7 id
  have hA : wb.heap[w.heap.size]? = some (.cells #[.int .i64 co, .string ⟨tg.toArray⟩, .string ⟨id.toArray⟩, .slice ca n cc, .slice ta m tc, .int .i64 st] 36) := by
    rw [← hwb]; exact ((below_one7 _ _).block w.heap.size (by simp)).trans (heap_alloc_new w _)
  have hB : wb.heap[w.heap.size + 1]? = some (.cells #[.int .i64 co, .string ⟨tg.toArray⟩, .string ⟨id.toArray⟩, .slice ca2 n cc2, .slice ta2 m tc2, .int .i64 st] 36) := by
    rw [← hwb]
    have := heap_alloc_new (w.alloc (.cells #[.int .i64 co, .string ⟨tg.toArray⟩, .string ⟨id.toArray⟩, .slice ca n cc, .slice ta m tc, .int .i64 st] 36)) (.cells #[.int .i64 co, .string ⟨tg.toArray⟩, .string ⟨id.toArray⟩, .slice ca2 n cc2, .slice ta2 m tc2, .int .i64 st] 36)
    rwa [show (w.alloc (.cells #[.int .i64 co, .string ⟨tg.toArray⟩, .string ⟨id.toArray⟩, .slice ca n cc, .slice ta m tc, .int .i64 st] 36)).heap.size = w.heap.size + 1 by simp] at this
  have d0 := cell_of hA (k := 0) rfl
  have d1 := cell_of hA (k := 1) rfl
  have d2 := cell_of hA (k := 2) rfl
  have d3 := cell_of hA (k := 3) rfl
  have d4 := cell_of hA (k := 4) rfl
  have d5 := cell_of hA (k := 5) rfl
  have f0 := cell_of hB (k := 0) rfl
  have f1 := cell_of hB (k := 1) rfl
  have f2 := cell_of hB (k := 2) rfl
  have f3 := cell_of hB (k := 3) rfl
  have f4 := cell_of hB (k := 4) rfl
  have f5 := cell_of hB (k := 5) rfl
  have D4 := Lib.hid d4
  have F4 := Lib.hid f4
  clear h1 h2 h3 h4 hbel hm hn hA hB
  go_enter Tryz.func22, Tryz.ntmps22
  go_wp2_with fail
  clear hwb d0 d1 d2 d3 d4 d5 f0 f1 f2 f3 f4 f5 e1 e2
  refine CS.out.mono ?_
  rintro e w1 ⟨rfl, q, rfl⟩
  have c4' : (wb.drewN q).cell? ⟨w.heap.size, 4, none⟩ = some (.slice ta m tc) := D4.out
  have g4' : (wb.drewN q).cell? ⟨w.heap.size + 1, 4, none⟩ = some (.slice ta2 m tc2) := F4.out
  have HA3 : Hid (Tss (wb.drewN q) ta ts) := HA2
  have HB3 : Hid (Tss (wb.drewN q) ta2 ts) := HB2
  have HBL := Lib.hid (below_drewE HBEL.out q)
  clear CS HA2 HB2 D4 F4
  generalize wb.drewN q = w1 at c4' g4' HA3 HB3 HBL ⊢
  go_wp2_with fail
  have HC4 := Lib.hid c4'
  have HD4 := Lib.hid g4'
  clear c4' g4'
  go_loopw [5] (fun vi wr => ∃ k q : Nat, vi = .int .i64 (k : Int) ∧ k ≤ m ∧ wr = w1.drewN q) (fun vi _ => m - (intOf vi).toNat)
  case atStart => exact ⟨0, 0, rfl, by omega, rfl⟩
  case round =>
    obtain ⟨k, q, rfl, hk, rfl⟩ := hrel
    have f4 : (w1.drewN q).cell? ⟨w.heap.size, 4, none⟩ = some (.slice ta m tc) := HC4.out
    have g4 : (w1.drewN q).cell? ⟨w.heap.size + 1, 4, none⟩ = some (.slice ta2 m tc2) := HD4.out
    by_cases hlt : k < m
    · have hltz : (k : Int) < (m : Int) := by omega
      have hkl : k < ts.length := by have := HM.out; omega
      obtain ⟨b1, o1, ha1, _, c1, c2, c3⟩ := HA3.out.get hkl
      obtain ⟨b2, o2, ha2, _, c4, c5, c6⟩ := HB3.out.get hkl
      rw [ha1] at f4
      rw [ha2] at g4
      obtain ⟨⟨x, b, y⟩, hx⟩ : ∃ t, ts[k] = t := ⟨_, rfl⟩
      rw [hx] at c1 c2 c3 c4 c5 c6
      have hsame : ∀ w : World, (binOp .neq 57 (.agg #[.string ⟨x.toArray⟩, .bool b, .string ⟨y.toArray⟩]) (.agg #[.string ⟨x.toArray⟩, .bool b, .string ⟨y.toArray⟩])).run Tryz.prog w = .ok (.bool false) w := fun w => tst_same7 _ _ b w
      have k1 : (w1.drewN q).cell? ⟨b1, o1 + k * 3, none⟩ = some (.string ⟨x.toArray⟩) := c1
      have k2 : (w1.drewN q).cell? ⟨b1, o1 + k * 3 + 1, none⟩ = some (.bool b) := c2
      have k3 : (w1.drewN q).cell? ⟨b1, o1 + k * 3 + 2, none⟩ = some (.string ⟨y.toArray⟩) := c3
      have k4 : (w1.drewN q).cell? ⟨b2, o2 + k * 3, none⟩ = some (.string ⟨x.toArray⟩) := c4
      have k5 : (w1.drewN q).cell? ⟨b2, o2 + k * 3 + 1, none⟩ = some (.bool b) := c5
      have k6 : (w1.drewN q).cell? ⟨b2, o2 + k * 3 + 2, none⟩ = some (.string ⟨y.toArray⟩) := c6
      clear c1 c2 c3 c4 c5 c6 hx ha1 ha2 hkl
      generalize hwq : w1.drewN q = wq at f4 g4 k1 k2 k3 k4 k5 k6 ⊢
      have HW := Lib.hid hwq
      clear hwq
      go_wp2_with fail
      go_quiet (fail)
      go_wp2_with fail
      go_roundw
      case rel => exact ⟨k + 1, q + nq, by go_num, by omega, by rw [← HW.out, World.drewN_drewN]⟩
      case measure => simp [intOf]; omega
    · have hltz : ¬ (k : Int) < (m : Int) := by omega
      go_wp2_with fail
      go_ret
      exact ⟨rfl, below_drewE HBL.out q⟩
end Go.Proofs.YtfbfndknhabmhaaGreat

namespace Go.Proofs.YtfbfndknhabmhaaGreat
open Go.RowKit TreN LexP FixP SynP ValP SelP FixM
set_option linter.unusedVariables false

set_option maxRecDepth 100000 in
set_option maxHeartbeats 4000000 in
theorem refSameOne_eq7 (a1 a2 : Option Addr) (l1 l2 : List PtV) (n c1 c2 : Nat) (w : World) (hn : l1.length = n) (hm : n ≤ maxLen) (he : l1.map PtV.p = l2.map PtV.p) (h1 : Pts w a1 l1) (h2 : Pts w a2 l2) :
    Calls Tryz.prog 11 #[.agg #[.slice a1 n c1], .agg #[.slice a2 n c2]] w fun e w' => e = .returned (.bool true) ∧ Below w.heap.size w w' := by
  unfold maxLen at hm
  have hnz : (n : Int) ≤ 9223372036854775807 := by omega
  have hn2 : l2.length = n := by have := congrArg List.length he; rw [List.length_map, List.length_map] at this; omega
  obtain ⟨wb, hwb⟩ : ∃ wb, (w.alloc (.cells #[.slice a1 n c1] 24)).alloc (.cells #[.slice a2 n c2] 24) = wb := ⟨_, rfl⟩
  have hbel : Below w.heap.size w wb := by rw [← hwb]; exact (below_one7 w _).alloc (by simp) _
  have hA : wb.heap[w.heap.size]? = some (.cells #[.slice a1 n c1] 24) := by
    rw [← hwb]; exact ((below_one7 _ _).block w.heap.size (by simp)).trans (heap_alloc_new w _)
  have hB : wb.heap[w.heap.size + 1]? = some (.cells #[.slice a2 n c2] 24) := by
    rw [← hwb]
    have := heap_alloc_new (w.alloc (.cells #[.slice a1 n c1] 24)) (.cells #[.slice a2 n c2] 24)
    rwa [show (w.alloc (.cells #[.slice a1 n c1] 24)).heap.size = w.heap.size + 1 by simp] at this
  have hs2 : w.heap.size + 1 < wb.heap.size := by rw [← hwb]; simp
  have d0 := cell_of hA (k := 0) rfl
  have f0 := cell_of hB (k := 0) rfl
  have D0 := Lib.hid d0
  have F0 := Lib.hid f0
  have H1 := Lib.hid (h1.below hbel)
  have H2 := Lib.hid (h2.below hbel)
  have HN := Lib.hid hn
  have HN2 := Lib.hid hn2
  have HE := Lib.hid he
  have HBEL := Lib.hid hbel
  clear h1 h2 hn hn2 he hA hB hbel
  go_enter Tryz.func11, Tryz.ntmps11
  go_wp2_with fail
  clear d0 f0 hwb
  go_loopw [5] (fun vi wr => ∃ k : Nat, vi = .int .i64 (k : Int) ∧ k ≤ n ∧ Hid (Below wb.heap.size wb wr)) (fun vi _ => n - (intOf vi).toNat)
  case atStart => exact ⟨0, rfl, by omega, Lib.hid (Below.refl _ _)⟩
  case round =>
    obtain ⟨k, rfl, hk, HW⟩ := hrel
    have d0 : wr.cell? ⟨w.heap.size, 0, none⟩ = some (.slice a1 n c1) := (HW.out.cell (p := ⟨w.heap.size, 0, none⟩) (by show w.heap.size < _; omega)).trans D0.out
    have f0 : wr.cell? ⟨w.heap.size + 1, 0, none⟩ = some (.slice a2 n c2) := (HW.out.cell (p := ⟨w.heap.size + 1, 0, none⟩) (by show w.heap.size + 1 < _; omega)).trans F0.out
    by_cases hlt : k < n
    · have hltz : (k : Int) < (n : Int) := by omega
      have hk1 : k < l1.length := by have := HN.out; omega
      have hk2 : k < l2.length := by have := HN2.out; omega
      obtain ⟨b1, o1, e1, g1, hat1, hok1⟩ := H1.out.get hk1
      obtain ⟨b2, o2, e2, g2, hat2, hok2⟩ := H2.out.get hk2
      have hxy : (l1[k]).p = (l2[k]).p := by
        have := congrArg (fun z => z[k]?) HE.out
        simp only [List.getElem?_map, List.getElem?_eq_getElem hk1, List.getElem?_eq_getElem hk2, Option.map_some] at this
        injection this
      rw [e1] at d0
      rw [e2] at f0
      have hat1 := hat1.below HW.out g1
      have hat2 := hat2.below HW.out g2
      have hok1 := fun W (hW : Below wb.heap.size wb W) => hok1.below hW
      have hok2 := fun W (hW : Below wb.heap.size wb W) => hok2.below hW
      generalize l1[k] = x at *
      generalize l2[k] = y at *
      obtain ⟨⟨co, tg, id, cl, ts, st⟩, ca, cc, ta, tc⟩ := x
      obtain ⟨p2, ca2, cc2, ta2, tc2⟩ := y
      simp only at hxy
      subst hxy
      obtain ⟨p0, p1, p2, p3, p4, p5⟩ := hat1
      obtain ⟨q0, q1, q2, q3, q4, q5⟩ := hat2
      simp only at p0 p1 p2 p3 p4 p5 q0 q1 q2 q3 q4 q5
      obtain ⟨ln, hln⟩ : ∃ n, cl.length = n := ⟨_, rfl⟩
      obtain ⟨lm, hlm⟩ : ∃ n, ts.length = n := ⟨_, rfl⟩
      have CL := Lib.hid fun W (hW : Below wb.heap.size wb W) => refSamePart_eq7 co st tg id cl ts ln lm ca ta ca2 ta2 cc tc cc2 tc2 W hln hlm
        (by have := (hok1 W hW).hcc; have := (hok1 W hW).hcm; simp only at *; omega) (by have := (hok1 W hW).htc; have := (hok1 W hW).htm; simp only at *; omega)
        (hok1 W hW).hc (hok2 W hW).hc (hok1 W hW).ht (hok2 W hW).ht
      rw [hln] at p3 q3
      rw [hlm] at p4 q4
      clear hok1 hok2 hln hlm e1 e2 hk1 hk2
      go_wp2_with fail
      refine wp_region_still_tail 10 (by kernel_rfl) (by kernel_rfl) ?_
      simp only [List.take_succ_cons, List.take_zero, List.drop_succ_cons, List.drop_zero]
      repeat still_step
      refine wpStill_nil ?_
      change wpList _ _ _ _ _ wr.drew
      clear p0 p1 p2 p3 p4 p5 q0 q1 q2 q3 q4 q5 d0 f0
      have HD := Lib.hid (Below.drew (Below.refl wr.heap.size wr))
      generalize wr.drew = wd at HD ⊢
      go_wp2_with fail
      refine (CL.out _ (HW.out.trans (HD.out.mono HW.out.size))).mono ?_
      rintro e w1 ⟨rfl, hb⟩
      have HB1 := Lib.hid (HW.out.trans ((HD.out.trans (hb.mono HD.out.size)).mono HW.out.size))
      clear hb
      go_wp2_with fail
      go_roundw
      case rel => exact ⟨k + 1, by go_num, by omega, HB1⟩
      case measure => simp [intOf]; omega
    · have hltz : ¬ (k : Int) < (n : Int) := by omega
      go_wp2_with fail
      go_ret
      exact ⟨rfl, HBEL.out.trans (HW.out.mono HBEL.out.size)⟩

end Go.Proofs.YtfbfndknhabmhaaGreat

namespace Go.Proofs.YtfbfndknhabmhaaGreat
open Go.RowKit TreN LexP FixP SynP ValP SelP FixM
set_option linter.unusedVariables false

end Go.Proofs.YtfbfndknhabmhaaGreat
