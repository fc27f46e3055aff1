/- Layer 7: parts and selectors held against each other, whatever they are. -/
import Derived.Test.YtfbfndknhabmhaaGreatSelZa
import Derived.Test.YtfbfndknhabmhaaGreatSelWa
import Derived.StillTailTactics
namespace Go.Proofs.YtfbfndknhabmhaaGreat
open Go.RowKit TreN LexP FixP SynP ValP SelP FixM
set_option linter.unusedVariables false

/-- two boxes of parts -/
structure TwoPt (w wb : World) (A B : Array Value) : Prop where
  a : wb.heap[w.heap.size]? = some (.cells A 36 (0, 0))
  b : wb.heap[w.heap.size + 1]? = some (.cells B 36 (0, 0))
  bel : Below w.heap.size w wb
theorem TwoPt.mk' (w : World) (A B : Array Value) : TwoPt w ((w.alloc (.cells A 36)).alloc (.cells B 36)) A B := by
  refine ⟨((below_one7 _ _).block w.heap.size (by simp)).trans (heap_alloc_new w _), ?_, (below_one7 w _).alloc (by simp) _⟩
  have := heap_alloc_new (w.alloc (.cells A 36)) (.cells B 36)
  rwa [show (w.alloc (.cells A 36)).heap.size = w.heap.size + 1 by simp] at this
theorem prt_ne {co st co' st' : Int} {tg id tg' id' : List UInt8} {cl cl' : List (List UInt8)} {ts ts' : List Tst} (h : ¬ (co = co' ∧ tg = tg' ∧ id = id' ∧ st = st' ∧ cl = cl' ∧ ts = ts')) : decide ((⟨co, tg, id, cl, ts, st⟩ : Prt) = ⟨co', tg', id', cl', ts', st'⟩) = false :=
  decide_eq_false fun e => h (by injection e with e1 e2 e3 e4 e5 e6; exact ⟨e1, e2, e3, e6, e4, e5⟩)
set_option maxRecDepth 100000 in
set_option maxHeartbeats 4000000 in
theorem same7_gen (co st co' st' : Int) (tg id tg' id' : List UInt8) (ca ta ca' ta' : Option Addr) (cc tc cc' tc' n m n' m' : Nat) (cl cl' : List (List UInt8)) (ts ts' : List Tst) (w : World) (hn : cl.length = n) (hm : ts.length = m) (hn' : cl'.length = n') (hm' : ts'.length = m')
    (hl1 : n ≤ maxLen) (hl2 : m ≤ maxLen) (hl3 : n' ≤ maxLen) (hl4 : m' ≤ maxLen) (h1 : Txs w ca cl) (h2 : Txs w ca' cl') (h3 : Tss w ta ts) (h4 : Tss w ta' ts') :
    Calls Tryz.prog 17 #[.agg #[.int .i64 co, .string ⟨tg.toArray⟩, .string ⟨id.toArray⟩, .slice ca n cc, .slice ta m tc, .int .i64 st], .agg #[.int .i64 co', .string ⟨tg'.toArray⟩, .string ⟨id'.toArray⟩, .slice ca' n' cc', .slice ta' m' tc', .int .i64 st']] w fun e w' => e = .returned (.bool (decide ((⟨co, tg, id, cl, ts, st⟩ : Prt) = ⟨co', tg', id', cl', ts', st'⟩))) ∧ Below w.heap.size w w' := by
  unfold maxLen at hl1 hl2 hl3 hl4
  have z1 : (n : Int) ≤ 9223372036854775807 := by omega
  have z2 : (m : Int) ≤ 9223372036854775807 := by omega
  have z3 : (n' : Int) ≤ 9223372036854775807 := by omega
  have z4x : (m' : Int) ≤ 9223372036854775807 := by omega
  have TW := TwoPt.mk' w #[.int .i64 co, .string ⟨tg.toArray⟩, .string ⟨id.toArray⟩, .slice ca n cc, .slice ta m tc, .int .i64 st] #[.int .i64 co', .string ⟨tg'.toArray⟩, .string ⟨id'.toArray⟩, .slice ca' n' cc', .slice ta' m' tc', .int .i64 st']
  obtain ⟨wb, hwb⟩ : ∃ wb, (w.alloc (.cells #[.int .i64 co, .string ⟨tg.toArray⟩, .string ⟨id.toArray⟩, .slice ca n cc, .slice ta m tc, .int .i64 st] 36)).alloc (.cells #[.int .i64 co', .string ⟨tg'.toArray⟩, .string ⟨id'.toArray⟩, .slice ca' n' cc', .slice ta' m' tc', .int .i64 st'] 36) = wb := ⟨_, rfl⟩
  rw [hwb] at TW
  have d0 := cell_of TW.a (k := 0) rfl
  have d1 := cell_of TW.a (k := 1) rfl
  have d2 := cell_of TW.a (k := 2) rfl
  have d3 := cell_of TW.a (k := 3) rfl
  have d4 := cell_of TW.a (k := 4) rfl
  have d5 := cell_of TW.a (k := 5) rfl
  have f0 := cell_of TW.b (k := 0) rfl
  have f1 := cell_of TW.b (k := 1) rfl
  have f2 := cell_of TW.b (k := 2) rfl
  have f3 := cell_of TW.b (k := 3) rfl
  have f4 := cell_of TW.b (k := 4) rfl
  have f5 := cell_of TW.b (k := 5) rfl
  have HTW := Lib.hid TW
  have C1 := Lib.hid (slEqStr7 ca ca' cl cl' n n' cc cc' wb hn hn' (by omega) (by omega) (h1.below TW.bel) (h2.below TW.bel))
  by_cases e0 : co = co'
  · subst e0
    by_cases e1 : tg = tg'
    · subst e1
      have g1 : (tg == tg) = true := str_eq7 tg
      by_cases e2 : id = id'
      · subst e2
        have g2 : (id == id) = true := str_eq7 id
        by_cases e3 : st = st'
        · subst e3
          obtain ⟨R1, hR1⟩ : ∃ b, decide (cl = cl') = b := ⟨_, rfl⟩
          rw [hR1] at C1
          cases R1
          · rw [prt_ne (fun h => (of_decide_eq_false hR1) h.2.2.2.2.1)]
            clear hR1 h1 h2 h3 h4 hn hm hn' hm'
            go_enter Tryz.func17, Tryz.ntmps17
            go_wp2_with fail
            refine C1.out.mono ?_
            rintro e w1 ⟨rfl, q, rfl⟩
            have HB := Lib.hid (below_drewE HTW.out.bel q)
            generalize wb.drewN q = w1 at *
            go_wp2_with fail
            go_ret
            exact ⟨rfl, HB.out⟩
          · have hcl := of_decide_eq_true hR1
            subst hcl
            have e : decide ((⟨co, tg, id, cl, ts, st⟩ : Prt) = ⟨co, tg, id, cl, ts', st⟩) = decide (ts = ts') := decide_eq_decide.2 ⟨fun h => by injection h, fun h => by rw [h]⟩
            rw [e]
            have C2 := Lib.hid (fun W (hW : Below w.heap.size w W) => slEqTst7 ta ta' ts ts' m m' tc tc' W hm hm' (by omega) (by omega) (h3.below hW) (h4.below hW))
            obtain ⟨R2, hR2⟩ : ∃ b, decide (ts = ts') = b := ⟨_, rfl⟩
            rw [hR2] at C2 ⊢
            clear e hR1 hR2 h1 h2 h3 h4 hn hm hn' hm'
            go_enter Tryz.func17, Tryz.ntmps17
            go_wp2_with fail
            refine C1.out.mono ?_
            rintro e w1 ⟨rfl, q, rfl⟩
            have HB := Lib.hid (below_drewE HTW.out.bel q)
            have d4' : (wb.drewN q).cell? ⟨w.heap.size, 4, none⟩ = _ := d4
            have f4' : (wb.drewN q).cell? ⟨w.heap.size + 1, 4, none⟩ = _ := f4
            clear d0 d1 d2 d3 d4 d5 f0 f1 f2 f3 f4 f5 hwb C1
            generalize wb.drewN q = w1 at *
            go_wp2_with fail
            refine (C2.out _ HB.out).mono ?_
            rintro e w2 ⟨rfl, q2, rfl⟩
            have HB2 := Lib.hid (below_drewE HB.out q2)
            generalize w1.drewN q2 = w2 at *
            go_wp2_with fail
            go_ret
            exact ⟨rfl, HB2.out⟩
        · rw [prt_ne (fun h => e3 h.2.2.2.1)]
          have g3 : (st == st') = false := by simpa using e3
          have g3n : (st != st') = true := by simpa using e3
          clear e3 C1 h1 h2 h3 h4 hn hm hn' hm'
          go_enter Tryz.func17, Tryz.ntmps17
          go_wp2_with fail
          go_ret
          exact ⟨rfl, HTW.out.bel⟩
      · rw [prt_ne (fun h => e2 h.2.2.1)]
        have g2 : (id == id') = false := by simpa using e2
        clear e2 C1 h1 h2 h3 h4 hn hm hn' hm'
        go_enter Tryz.func17, Tryz.ntmps17
        go_wp2_with fail
        go_ret
        exact ⟨rfl, HTW.out.bel⟩
    · rw [prt_ne (fun h => e1 h.2.1)]
      have g1 : (tg == tg') = false := by simpa using e1
      clear e1 C1 h1 h2 h3 h4 hn hm hn' hm'
      go_enter Tryz.func17, Tryz.ntmps17
      go_wp2_with fail
      go_ret
      exact ⟨rfl, HTW.out.bel⟩
  · rw [prt_ne (fun h => e0 h.1)]
    have g0 : (co == co') = false := by simpa using e0
    have g0n : (co != co') = true := by simpa using e0
    clear e0 C1 h1 h2 h3 h4 hn hm hn' hm'
    go_enter Tryz.func17, Tryz.ntmps17
    go_wp2_with fail
    go_ret
    exact ⟨rfl, HTW.out.bel⟩
set_option maxRecDepth 100000 in
set_option maxHeartbeats 4000000 in
theorem refSamePart7_gen (co st co' st' : Int) (tg id tg' id' : List UInt8) (ca ta ca' ta' : Option Addr) (cc tc cc' tc' n m n' m' : Nat) (cl cl' : List (List UInt8)) (ts ts' : List Tst) (w : World) (hn : cl.length = n) (hm : ts.length = m) (hn' : cl'.length = n') (hm' : ts'.length = m')
    (hl1 : n ≤ maxLen) (hl2 : m ≤ maxLen) (hl3 : n' ≤ maxLen) (hl4 : m' ≤ maxLen) (h1 : Txs w ca cl) (h2 : Txs w ca' cl') (h3 : Tss w ta ts) (h4 : Tss w ta' ts') :
    Calls Tryz.prog 22 #[.agg #[.int .i64 co, .string ⟨tg.toArray⟩, .string ⟨id.toArray⟩, .slice ca n cc, .slice ta m tc, .int .i64 st], .agg #[.int .i64 co', .string ⟨tg'.toArray⟩, .string ⟨id'.toArray⟩, .slice ca' n' cc', .slice ta' m' tc', .int .i64 st']] w fun e w' => e = .returned (.bool (decide ((⟨co, tg, id, cl, ts, st⟩ : Prt) = ⟨co', tg', id', cl', ts', st'⟩))) ∧ Below w.heap.size w w' := by
  unfold maxLen at hl1 hl2 hl3 hl4
  have z1 : (n : Int) ≤ 9223372036854775807 := by omega
  have z2 : (m : Int) ≤ 9223372036854775807 := by omega
  have z3 : (n' : Int) ≤ 9223372036854775807 := by omega
  have z4x : (m' : Int) ≤ 9223372036854775807 := by omega
  have TW := TwoPt.mk' w #[.int .i64 co, .string ⟨tg.toArray⟩, .string ⟨id.toArray⟩, .slice ca n cc, .slice ta m tc, .int .i64 st] #[.int .i64 co', .string ⟨tg'.toArray⟩, .string ⟨id'.toArray⟩, .slice ca' n' cc', .slice ta' m' tc', .int .i64 st']
  obtain ⟨wb, hwb⟩ : ∃ wb, (w.alloc (.cells #[.int .i64 co, .string ⟨tg.toArray⟩, .string ⟨id.toArray⟩, .slice ca n cc, .slice ta m tc, .int .i64 st] 36)).alloc (.cells #[.int .i64 co', .string ⟨tg'.toArray⟩, .string ⟨id'.toArray⟩, .slice ca' n' cc', .slice ta' m' tc', .int .i64 st'] 36) = wb := ⟨_, rfl⟩
  rw [hwb] at TW
  have d0 := cell_of TW.a (k := 0) rfl
  have d1 := cell_of TW.a (k := 1) rfl
  have d2 := cell_of TW.a (k := 2) rfl
  have d3 := cell_of TW.a (k := 3) rfl
  have d4 := cell_of TW.a (k := 4) rfl
  have d5 := cell_of TW.a (k := 5) rfl
  have f0 := cell_of TW.b (k := 0) rfl
  have f1 := cell_of TW.b (k := 1) rfl
  have f2 := cell_of TW.b (k := 2) rfl
  have f3 := cell_of TW.b (k := 3) rfl
  have f4 := cell_of TW.b (k := 4) rfl
  have f5 := cell_of TW.b (k := 5) rfl
  have HTW := Lib.hid TW
  have C1 := Lib.hid (refTexts7 ca ca' cl cl' n n' cc cc' wb hn hn' (by omega) (by omega) (h1.below TW.bel) (h2.below TW.bel))
  by_cases e0 : co = co'
  · subst e0
    by_cases e1 : tg = tg'
    · subst e1
      have g1 : (tg == tg) = true := str_eq7 tg
      by_cases e2 : id = id'
      · subst e2
        have g2 : (id == id) = true := str_eq7 id
        by_cases e3 : st = st'
        · subst e3
          obtain ⟨R1, hR1⟩ : ∃ b, decide (cl = cl') = b := ⟨_, rfl⟩
          rw [hR1] at C1
          cases R1
          · rw [prt_ne (fun h => (of_decide_eq_false hR1) h.2.2.2.2.1)]
            clear hR1 h1 h2 h3 h4 hn hm hn' hm'
            go_enter Tryz.func22, Tryz.ntmps22
            go_wp2_with fail
            refine C1.out.mono ?_
            rintro e w1 ⟨rfl, q, rfl⟩
            have HB := Lib.hid (below_drewE HTW.out.bel q)
            generalize wb.drewN q = w1 at *
            go_wp2_with fail
            go_ret
            exact ⟨rfl, HB.out⟩
          · have hcl := of_decide_eq_true hR1
            subst hcl
            have e : decide ((⟨co, tg, id, cl, ts, st⟩ : Prt) = ⟨co, tg, id, cl, ts', st⟩) = decide (ts = ts') := decide_eq_decide.2 ⟨fun h => by injection h, fun h => by rw [h]⟩
            rw [e]
            obtain ⟨R, hR⟩ : ∃ b, decide (ts = ts') = b := ⟨_, rfl⟩
            rw [hR]
            have HR := Lib.hid hR
            have H3 := Lib.hid (h3.below HTW.out.bel)
            have H4 := Lib.hid (h4.below HTW.out.bel)
            have HM := Lib.hid hm
            have HM' := Lib.hid hm'
            have D4 := Lib.hid d4
            have F4 := Lib.hid f4
            by_cases hmm : m = m'
            · subst hmm
              clear e hR1 hR h1 h2 h3 h4 hn hm hn' hm'
              go_enter Tryz.func22, Tryz.ntmps22
              go_wp2_with fail
              refine C1.out.mono ?_
              rintro e w1 ⟨rfl, q, rfl⟩
              have HB := Lib.hid (below_drewE HTW.out.bel q)
              have d4' : (wb.drewN q).cell? ⟨w.heap.size, 4, none⟩ = _ := D4.out
              have f4' : (wb.drewN q).cell? ⟨w.heap.size + 1, 4, none⟩ = _ := F4.out
              clear d0 d1 d2 d3 d4 d5 f0 f1 f2 f3 f4 f5 hwb C1
              go_wp2_with fail
              clear d4' f4'
              go_loopw [5] (fun vi wr => ∃ k q : Nat, vi = .int .i64 (k : Int) ∧ k ≤ m ∧ wr = wb.drewN q ∧ Hid (∀ i (h1 : i < ts.length) (h2 : i < ts'.length), i < k → ts[i] = ts'[i])) (fun vi _ => m - (intOf vi).toNat)
              case atStart => exact ⟨0, q, rfl, by omega, rfl, fun i _ _ h => by omega⟩
              case round =>
                obtain ⟨k, q, rfl, hk, rfl, HE⟩ := hrel
                have d4' : (wb.drewN q).cell? ⟨w.heap.size, 4, none⟩ = _ := D4.out
                have f4' : (wb.drewN q).cell? ⟨w.heap.size + 1, 4, none⟩ = _ := F4.out
                by_cases hlt : k < m
                · have hltz : (k : Int) < (m : Int) := by omega
                  have hkl : k < ts.length := by have := HM.out; omega
                  have hkm : k < ts'.length := by have := HM'.out; omega
                  obtain ⟨b1, o1, ha1, _, c1, c3, c5⟩ := H3.out.get hkl
                  obtain ⟨b2, o2, ha2, _, c2, c4, c6⟩ := H4.out.get hkm
                  obtain ⟨⟨x, xb, xv⟩, hx⟩ : ∃ y, ts[k] = y := ⟨_, rfl⟩
                  obtain ⟨⟨y, yb, yv⟩, hy⟩ : ∃ y, ts'[k] = y := ⟨_, rfl⟩
                  rw [hx] at c1 c3 c5
                  rw [hy] at c2 c4 c6
                  rw [ha1] at d4'
                  rw [ha2] at f4'
                  have k1 : (wb.drewN q).cell? ⟨b1, o1 + k * 3, none⟩ = some (.string ⟨x.toArray⟩) := c1
                  have k3 : (wb.drewN q).cell? ⟨b1, o1 + k * 3 + 1, none⟩ = some (.bool xb) := c3
                  have k5 : (wb.drewN q).cell? ⟨b1, o1 + k * 3 + 2, none⟩ = some (.string ⟨xv.toArray⟩) := c5
                  have k2 : (wb.drewN q).cell? ⟨b2, o2 + k * 3, none⟩ = some (.string ⟨y.toArray⟩) := c2
                  have k4 : (wb.drewN q).cell? ⟨b2, o2 + k * 3 + 1, none⟩ = some (.bool yb) := c4
                  have k6 : (wb.drewN q).cell? ⟨b2, o2 + k * 3 + 2, none⟩ = some (.string ⟨yv.toArray⟩) := c6
                  have hse : ∀ w : World, (binOp .neq 57 (.agg #[.string ⟨x.toArray⟩, .bool xb, .string ⟨xv.toArray⟩]) (.agg #[.string ⟨y.toArray⟩, .bool yb, .string ⟨yv.toArray⟩])).run Tryz.prog w = .ok (.bool (!decide ((⟨x, xb, xv⟩ : Tst) = ⟨y, yb, yv⟩))) w := fun w => tst_ne7 _ _ _ _ _ _ w
                  clear c1 c2 c3 c4 c5 c6 ha1 ha2
                  by_cases hxy : (⟨x, xb, xv⟩ : Tst) = ⟨y, yb, yv⟩
                  · rw [decide_eq_true hxy] at hse
                    have HE2 : Hid (∀ i (h1 : i < ts.length) (h2 : i < ts'.length), i < k + 1 → ts[i] = ts'[i]) := Lib.hid fun i h1 h2 h => by
                      by_cases e : i = k
                      · subst e; rw [hx, hy, hxy]
                      · exact HE.out i h1 h2 (by omega)
                    simp only [Bool.not_true] at hse
                    clear hx hy hkl hkm HE hxy
                    generalize hwq : wb.drewN q = wq at d4' f4' k1 k2 k3 k4 k5 k6 ⊢
                    have HW := Lib.hid hwq
                    clear hwq
                    go_wp2_with fail
                    go_quiet (fail)
                    go_wp2_with fail
                    go_roundw
                    case rel => exact ⟨k + 1, q + nq, by go_num, by omega, by rw [← HW.out, World.drewN_drewN], HE2⟩
                    case measure => simp [intOf]; omega
                  · rw [decide_eq_false hxy] at hse
                    have HF : Hid (R = false) := Lib.hid (by rw [← HR.out]; exact decide_eq_false (by rintro rfl; exact hxy (hx.symm.trans hy)))
                    simp only [Bool.not_false] at hse
                    clear hx hy hkl hkm HE hxy
                    generalize hwq : wb.drewN q = wq at d4' f4' k1 k2 k3 k4 k5 k6 ⊢
                    have HW := Lib.hid hwq
                    clear hwq
                    go_wp2_with fail
                    go_quiet (fail)
                    go_wp2_with fail
                    go_ret
                    exact ⟨ret_bool HF.out.symm, by rw [← HW.out, World.drewN_drewN]; exact below_drewE HTW.out.bel _⟩
                · have hltz : ¬ (k : Int) < (m : Int) := by omega
                  have HF : Hid (R = true) := Lib.hid (by rw [← HR.out]; exact eq_all (by have := HM.out; have := HM'.out; omega) fun i h1 h2 => HE.out i h1 h2 (by have := HM.out; omega))
                  clear HE
                  go_wp2_with fail
                  go_ret
                  exact ⟨ret_bool HF.out.symm, below_drewE HTW.out.bel q⟩
            · have hz : ((m : Int) != (m' : Int)) = true := by rw [bne_iff_ne]; omega
              have hlz : ¬ (m : Int) = (m' : Int) := by omega
              have HF : Hid (R = false) := Lib.hid (by rw [← HR.out]; exact decide_eq_false (by rintro rfl; omega))
              clear e hR1 hR h1 h2 h3 h4 hn hm hn' hm'
              go_enter Tryz.func22, Tryz.ntmps22
              go_wp2_with fail
              refine C1.out.mono ?_
              rintro e w1 ⟨rfl, q, rfl⟩
              have HB := Lib.hid (below_drewE HTW.out.bel q)
              have d4' : (wb.drewN q).cell? ⟨w.heap.size, 4, none⟩ = _ := D4.out
              have f4' : (wb.drewN q).cell? ⟨w.heap.size + 1, 4, none⟩ = _ := F4.out
              clear d0 d1 d2 d3 d4 d5 f0 f1 f2 f3 f4 f5 hwb C1
              generalize wb.drewN q = w1 at *
              go_wp2_with fail
              go_ret
              exact ⟨ret_bool HF.out.symm, HB.out⟩
        · rw [prt_ne (fun h => e3 h.2.2.2.1)]
          have g3 : (st == st') = false := by simpa using e3
          have g3n : (st != st') = true := by simpa using e3
          clear e3 C1 h1 h2 h3 h4 hn hm hn' hm'
          go_enter Tryz.func22, Tryz.ntmps22
          go_wp2_with fail
          go_ret
          exact ⟨rfl, HTW.out.bel⟩
      · rw [prt_ne (fun h => e2 h.2.2.1)]
        have g2 : (id == id') = false := by simpa using e2
        clear e2 C1 h1 h2 h3 h4 hn hm hn' hm'
        go_enter Tryz.func22, Tryz.ntmps22
        go_wp2_with fail
        go_ret
        exact ⟨rfl, HTW.out.bel⟩
    · rw [prt_ne (fun h => e1 h.2.1)]
      have g1 : (tg == tg') = false := by simpa using e1
      clear e1 C1 h1 h2 h3 h4 hn hm hn' hm'
      go_enter Tryz.func22, Tryz.ntmps22
      go_wp2_with fail
      go_ret
      exact ⟨rfl, HTW.out.bel⟩
  · rw [prt_ne (fun h => e0 h.1)]
    have g0 : (co == co') = false := by simpa using e0
    have g0n : (co != co') = true := by simpa using e0
    clear e0 C1 h1 h2 h3 h4 hn hm hn' hm'
    go_enter Tryz.func22, Tryz.ntmps22
    go_wp2_with fail
    go_ret
    exact ⟨rfl, HTW.out.bel⟩
end Go.Proofs.YtfbfndknhabmhaaGreat
