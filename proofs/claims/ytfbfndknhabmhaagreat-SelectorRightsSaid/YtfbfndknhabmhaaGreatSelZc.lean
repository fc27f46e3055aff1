/- Layer 7: selectors held against each other, whatever they are. -/
import Derived.Test.YtfbfndknhabmhaaGreatSelZb
namespace Go.Proofs.YtfbfndknhabmhaaGreat
open Go.RowKit TreN LexP FixP SynP ValP SelP FixM
set_option linter.unusedVariables false

theorem enters_same7 : ∀ args w, (callFunc 17 args).run Tryz.prog w = .ok (.enter 17 args) w := enters_of Tryz.func17 (by kernel_rfl) rfl
theorem enters_Same1 : ∀ args w, (callFunc 15 args).run Tryz.prog w = .ok (.enter 15 args) w := enters_of Tryz.func15 (by kernel_rfl) rfl
theorem map_eq_all {α β : Type} [DecidableEq β] (f : α → β) {l m : List α} (h : l.length = m.length) (ha : ∀ i (h1 : i < l.length) (h2 : i < m.length), f l[i] = f m[i]) : decide (l.map f = m.map f) = true :=
  decide_eq_true (List.ext_getElem (by simpa using h) fun i h1 h2 => by rw [List.getElem_map, List.getElem_map]; exact ha i _ _)
theorem map_eq_no {α β : Type} [DecidableEq β] (f : α → β) {l m : List α} {k : Nat} (h1 : k < l.length) (h2 : k < m.length) (h : f l[k] ≠ f m[k]) : decide (l.map f = m.map f) = false :=
  decide_eq_false fun e => h (by
    have := congrArg (fun z => z[k]?) e
    simp only [List.getElem?_map, List.getElem?_eq_getElem h1, List.getElem?_eq_getElem h2, Option.map_some] at this
    injection this)
theorem map_eq_len {α β : Type} [DecidableEq β] (f : α → β) {l m : List α} (h : l.length ≠ m.length) : decide (l.map f = m.map f) = false :=
  decide_eq_false fun e => h (by have := congrArg List.length e; simpa using this)
set_option maxRecDepth 100000 in
set_option maxHeartbeats 4000000 in
theorem EqPart7 (a a2 : Option Addr) (l m : List PtV) (n n2 c c2 : Nat) (w : World) (hn : l.length = n) (hn2 : m.length = n2) (hl : n ≤ maxLen) (hl2 : n2 ≤ maxLen) (h1 : Pts w a l) (h2 : Pts w a2 m) :
    Calls Tryz.prog 16 #[.slice a n c, .slice a2 n2 c2, .func (.func 17) #[] #[]] w fun e w' => e = .returned (.bool (decide (l.map PtV.p = m.map PtV.p))) ∧ Below w.heap.size w w' := by
  unfold maxLen at hl hl2
  have z1 : (n : Int) ≤ 9223372036854775807 := by omega
  have z2 : (n2 : Int) ≤ 9223372036854775807 := by omega
  have eqf := enters_same7
  by_cases hlen : n = n2
  · subst hlen
    obtain ⟨R, hR⟩ : ∃ R, decide (l.map PtV.p = m.map PtV.p) = R := ⟨_, rfl⟩
    rw [hR]
    have HR := Lib.hid hR
    have H1 := Lib.hid h1
    have H2 := Lib.hid h2
    have HN := Lib.hid hn
    have HN2 := Lib.hid hn2
    clear h1 h2 hn hn2 hR
    go_enter Tryz.func16, Tryz.ntmps16
    go_wp2_with fail
    go_loopw [17] (fun vi wr => ∃ k : Nat, vi = .int .i64 (k : Int) ∧ k ≤ n ∧ Hid (Below w.heap.size w wr) ∧ Hid (∀ i (h1 : i < l.length) (h2 : i < m.length), i < k → (l[i]).p = (m[i]).p)) (fun vi _ => n - (intOf vi).toNat)
    case atStart => exact ⟨0, rfl, by omega, Lib.hid (Below.refl _ _), fun i _ _ h => by omega⟩
    case round =>
      obtain ⟨k, rfl, hk, HW, HE⟩ := hrel
      by_cases hlt : k < n
      · have hltz : (k : Int) < (n : Int) := by omega
        have hk1 : k < l.length := by have := HN.out; omega
        have hk2 : k < m.length := by have := HN2.out; omega
        obtain ⟨b1, o1, e1, g1, hat1, hok1⟩ := H1.out.get hk1
        obtain ⟨b2, o2, e2, g2, hat2, hok2⟩ := H2.out.get hk2
        have hb1 : b1 < wr.heap.size := Nat.lt_of_lt_of_le g1 HW.out.size
        have hb2 : b2 < wr.heap.size := Nat.lt_of_lt_of_le g2 HW.out.size
        have HNO : Hid ((l[k]).p ≠ (m[k]).p → R = false) := Lib.hid fun h => by rw [← HR.out]; exact map_eq_no PtV.p hk1 hk2 h
        have HYES : Hid ((l[k]).p = (m[k]).p → ∀ i (h1 : i < l.length) (h2 : i < m.length), i < k + 1 → (l[i]).p = (m[i]).p) := Lib.hid fun hh i h1 h2 h => by
          by_cases e : i = k
          · subst e; exact hh
          · exact HE.out i h1 h2 (by omega)
        subst e1
        subst e2
        have hat1 := hat1.below HW.out g1
        have hat2 := hat2.below HW.out g2
        have hok1 := fun W (hW : Below w.heap.size w W) => hok1.below hW
        have hok2 := fun W (hW : Below w.heap.size w W) => hok2.below hW
        generalize l[k] = x at *
        generalize m[k] = y at *
        obtain ⟨⟨co, tg, id, cl, ts, st⟩, ca, cc, ta, tc⟩ := x
        obtain ⟨⟨co', tg', id', cl', ts', st'⟩, ca', cc', ta', tc'⟩ := y
        obtain ⟨p0, p1, p2, p3, p4, p5⟩ := hat1
        obtain ⟨q0, q1, q2, q3, q4, q5⟩ := hat2
        simp only at p0 p1 p2 p3 p4 p5 q0 q1 q2 q3 q4 q5
        obtain ⟨ln, hln⟩ : ∃ n, cl.length = n := ⟨_, rfl⟩
        obtain ⟨lm, hlm⟩ : ∃ n, ts.length = n := ⟨_, rfl⟩
        obtain ⟨ln', hln'⟩ : ∃ n, cl'.length = n := ⟨_, rfl⟩
        obtain ⟨lm', hlm'⟩ : ∃ n, ts'.length = n := ⟨_, rfl⟩
        have CL := fun W (hW : Below w.heap.size w W) => same7_gen co st co' st' tg id tg' id' ca ta ca' ta' cc tc cc' tc' ln lm ln' lm' cl cl' ts ts' W hln hlm hln' hlm'
          (by have := (hok1 W hW).hcc; have := (hok1 W hW).hcm; simp only at *; omega) (by have := (hok1 W hW).htc; have := (hok1 W hW).htm; simp only at *; omega)
          (by have := (hok2 W hW).hcc; have := (hok2 W hW).hcm; simp only at *; omega) (by have := (hok2 W hW).htc; have := (hok2 W hW).htm; simp only at *; omega)
          (hok1 W hW).hc (hok2 W hW).hc (hok1 W hW).ht (hok2 W hW).ht
        rw [hln] at p3
        rw [hlm] at p4
        rw [hln'] at q3
        rw [hlm'] at q4
        obtain ⟨sb, hsb⟩ : ∃ b, decide ((⟨co, tg, id, cl, ts, st⟩ : Prt) = ⟨co', tg', id', cl', ts', st'⟩) = b := ⟨_, rfl⟩
        rw [hsb] at CL
        have HCL := Lib.hid CL
        have HSB := Lib.hid hsb
        clear hok1 hok2 hln hlm hln' hlm' hsb CL hk1 hk2
        go_wp2_with fail
        have HW2 := Lib.hid (HW.out.trans (((below_one7 wr (.cells #[.int .i64 co, .string ⟨tg.toArray⟩, .string ⟨id.toArray⟩, .slice ca ln cc, .slice ta lm tc, .int .i64 st] 36)).alloc (by simp) (.cells #[.int .i64 co', .string ⟨tg'.toArray⟩, .string ⟨id'.toArray⟩, .slice ca' ln' cc', .slice ta' lm' tc', .int .i64 st'] 36)).mono HW.out.size))
        refine (HCL.out _ HW2.out).mono ?_
        rintro e w1 ⟨rfl, hb⟩
        have HB1 := Lib.hid (HW2.out.trans (hb.mono HW2.out.size))
        clear hb p0 p1 p2 p3 p4 p5 q0 q1 q2 q3 q4 q5
        cases sb
        · have HF : Hid (R = false) := Lib.hid (HNO.out (of_decide_eq_false HSB.out))
          clear HNO HYES
          go_wp2_with fail
          go_ret
          exact ⟨ret_bool HF.out.symm, HB1.out⟩
        · have HE2 := Lib.hid (HYES.out (of_decide_eq_true HSB.out))
          clear HNO HYES
          go_wp2_with fail
          go_roundw
          case rel => exact ⟨k + 1, by go_num, by omega, HB1, HE2⟩
          case measure => simp [intOf]; omega
      · have hltz : ¬ (k : Int) < (n : Int) := by omega
        have HF : Hid (R = true) := Lib.hid (by rw [← HR.out]; exact map_eq_all PtV.p (by have := HN.out; have := HN2.out; omega) fun i h1 h2 => HE.out i h1 h2 (by have := HN.out; omega))
        clear HE
        go_wp2_with fail
        go_ret
        exact ⟨ret_bool HF.out.symm, HW.out⟩
  · have hz : ((n : Int) != (n2 : Int)) = true := by rw [bne_iff_ne]; omega
    have hlz : ¬ (n : Int) = (n2 : Int) := by omega
    have HF : Hid (decide (l.map PtV.p = m.map PtV.p) = false) := Lib.hid (map_eq_len PtV.p (by omega))
    rw [HF.out]
    clear h1 h2 hn hn2 HF
    go_enter Tryz.func16, Tryz.ntmps16
    go_wp2_with fail
    go_ret
    exact ⟨rfl, Below.refl _ _⟩
set_option maxRecDepth 100000 in
set_option maxHeartbeats 1000000 in
theorem Same1_7 (a a2 : Option Addr) (l m : List PtV) (n n2 c c2 : Nat) (w : World) (hn : l.length = n) (hn2 : m.length = n2) (hl : n ≤ maxLen) (hl2 : n2 ≤ maxLen) (h1 : Pts w a l) (h2 : Pts w a2 m) :
    Calls Tryz.prog 15 #[.agg #[.slice a n c], .agg #[.slice a2 n2 c2]] w fun e w' => e = .returned (.bool (decide (l.map PtV.p = m.map PtV.p))) ∧ Below w.heap.size w w' := by
  have hb : Below w.heap.size w ((w.alloc (.cells #[.slice a n c] 24)).alloc (.cells #[.slice a2 n2 c2] 24)) := (below_one7 w _).alloc (by simp) _
  have C := Lib.hid (EqPart7 a a2 l m n n2 c c2 _ hn hn2 hl hl2 (h1.below hb) (h2.below hb))
  have HB := Lib.hid hb
  have hmf : ∀ (fn : Fn) (first cap : Array Value) (w : World), (Instr.makeFunc fn first cap).run Tryz.prog w = .ok (.func fn first cap) w := fun _ _ _ _ => rfl
  obtain ⟨R, hR⟩ : ∃ R, decide (l.map PtV.p = m.map PtV.p) = R := ⟨_, rfl⟩
  rw [hR] at C ⊢
  clear h1 h2 hn hn2 hb hR hl hl2
  go_enter Tryz.func15, Tryz.ntmps15
  go_wp2_with fail
  refine C.out.mono ?_
  rintro e w1 ⟨rfl, hb1⟩
  have HB1 := Lib.hid (HB.out.trans (hb1.mono HB.out.size))
  clear hb1
  go_wp2_with fail
  go_ret
  exact ⟨rfl, HB1.out⟩
set_option maxRecDepth 100000 in
set_option maxHeartbeats 4000000 in
theorem EqSel7 (a a2 : Option Addr) (l m : List SelV) (n n2 c c2 : Nat) (w : World) (hn : l.length = n) (hn2 : m.length = n2) (hl : n ≤ maxLen) (hl2 : n2 ≤ maxLen) (h1 : Sls w a l) (h2 : Sls w a2 m) :
    Calls Tryz.prog 14 #[.slice a n c, .slice a2 n2 c2, .func (.func 15) #[] #[]] w fun e w' => e = .returned (.bool (decide (l.map SelV.pure = m.map SelV.pure))) ∧ Below w.heap.size w w' := by
  unfold maxLen at hl hl2
  have z1 : (n : Int) ≤ 9223372036854775807 := by omega
  have z2 : (n2 : Int) ≤ 9223372036854775807 := by omega
  have eqf := enters_Same1
  by_cases hlen : n = n2
  · subst hlen
    obtain ⟨R, hR⟩ : ∃ R, decide (l.map SelV.pure = m.map SelV.pure) = R := ⟨_, rfl⟩
    rw [hR]
    have HR := Lib.hid hR
    have H1 := Lib.hid h1
    have H2 := Lib.hid h2
    have HN := Lib.hid hn
    have HN2 := Lib.hid hn2
    clear h1 h2 hn hn2 hR
    go_enter Tryz.func14, Tryz.ntmps14
    go_wp2_with fail
    go_loopw [17] (fun vi wr => ∃ k : Nat, vi = .int .i64 (k : Int) ∧ k ≤ n ∧ Hid (Below w.heap.size w wr) ∧ Hid (∀ i (h1 : i < l.length) (h2 : i < m.length), i < k → (l[i]).pure = (m[i]).pure)) (fun vi _ => n - (intOf vi).toNat)
    case atStart => exact ⟨0, rfl, by omega, Lib.hid (Below.refl _ _), fun i _ _ h => by omega⟩
    case round =>
      obtain ⟨k, rfl, hk, HW, HE⟩ := hrel
      by_cases hlt : k < n
      · have hltz : (k : Int) < (n : Int) := by omega
        have hk1 : k < l.length := by have := HN.out; omega
        have hk2 : k < m.length := by have := HN2.out; omega
        obtain ⟨b1, o1, e1, g1, hat1, hok1⟩ := H1.out.get hk1
        obtain ⟨b2, o2, e2, g2, hat2, hok2⟩ := H2.out.get hk2
        have hb1 : b1 < wr.heap.size := Nat.lt_of_lt_of_le g1 HW.out.size
        have hb2 : b2 < wr.heap.size := Nat.lt_of_lt_of_le g2 HW.out.size
        have HNO : Hid ((l[k]).pure ≠ (m[k]).pure → R = false) := Lib.hid fun h => by rw [← HR.out]; exact map_eq_no SelV.pure hk1 hk2 h
        have HYES : Hid ((l[k]).pure = (m[k]).pure → ∀ i (h1 : i < l.length) (h2 : i < m.length), i < k + 1 → (l[i]).pure = (m[i]).pure) := Lib.hid fun hh i h1 h2 h => by
          by_cases e : i = k
          · subst e; exact hh
          · exact HE.out i h1 h2 (by omega)
        subst e1
        subst e2
        have p0 := (HW.out.cell (p := ⟨b1, o1 + k, none⟩) g1).trans hat1
        have q0 := (HW.out.cell (p := ⟨b2, o2 + k, none⟩) g2).trans hat2
        have hok1 := fun W (hW : Below w.heap.size w W) => hok1.below hW
        have hok2 := fun W (hW : Below w.heap.size w W) => hok2.below hW
        generalize l[k] = x at *
        generalize m[k] = y at *
        obtain ⟨ps1, pa1, pc1⟩ := x
        obtain ⟨ps2, pa2, pc2⟩ := y
        obtain ⟨ln, hln⟩ : ∃ n, ps1.length = n := ⟨_, rfl⟩
        obtain ⟨ln', hln'⟩ : ∃ n, ps2.length = n := ⟨_, rfl⟩
        have p9 : wr.cell? ⟨b1, o1 + k, none⟩ = some (.slice pa1 ln pc1) := by rw [p0, ← hln]; rfl
        have q9 : wr.cell? ⟨b2, o2 + k, none⟩ = some (.slice pa2 ln' pc2) := by rw [q0, ← hln']; rfl
        clear p0 q0
        have CL := fun W (hW : Below w.heap.size w W) => Same1_7 pa1 pa2 ps1 ps2 ln ln' pc1 pc2 W hln hln' (by have := (hok1 W hW).len; have := (hok1 W hW).cap; simp only at *; omega) (by have := (hok2 W hW).len; have := (hok2 W hW).cap; simp only at *; omega) (hok1 W hW).pts (hok2 W hW).pts
        obtain ⟨sb, hsb⟩ : ∃ b, decide (ps1.map PtV.p = ps2.map PtV.p) = b := ⟨_, rfl⟩
        rw [hsb] at CL
        have HCL := Lib.hid CL
        have HSB := Lib.hid hsb
        clear hok1 hok2 hln hln' hsb CL hk1 hk2 hat1 hat2
        go_wp2_with fail
        have HW2 := Lib.hid (HW.out.trans (((below_one7 wr (.cells #[.slice pa1 ln pc1] 24)).alloc (by simp) (.cells #[.slice pa2 ln' pc2] 24)).mono HW.out.size))
        refine (HCL.out _ HW2.out).mono ?_
        rintro e w1 ⟨rfl, hb⟩
        have HB1 := Lib.hid (HW2.out.trans (hb.mono HW2.out.size))
        clear hb p9 q9
        cases sb
        · have HF : Hid (R = false) := Lib.hid (HNO.out (of_decide_eq_false HSB.out))
          clear HNO HYES
          go_wp2_with fail
          go_ret
          exact ⟨ret_bool HF.out.symm, HB1.out⟩
        · have HE2 := Lib.hid (HYES.out (of_decide_eq_true HSB.out))
          clear HNO HYES
          go_wp2_with fail
          go_roundw
          case rel => exact ⟨k + 1, by go_num, by omega, HB1, HE2⟩
          case measure => simp [intOf]; omega
      · have hltz : ¬ (k : Int) < (n : Int) := by omega
        have HF : Hid (R = true) := Lib.hid (by rw [← HR.out]; exact map_eq_all SelV.pure (by have := HN.out; have := HN2.out; omega) fun i h1 h2 => HE.out i h1 h2 (by have := HN.out; omega))
        clear HE
        go_wp2_with fail
        go_ret
        exact ⟨ret_bool HF.out.symm, HW.out⟩
  · have hz : ((n : Int) != (n2 : Int)) = true := by rw [bne_iff_ne]; omega
    have hlz : ¬ (n : Int) = (n2 : Int) := by omega
    have HF : Hid (decide (l.map SelV.pure = m.map SelV.pure) = false) := Lib.hid (map_eq_len SelV.pure (by omega))
    rw [HF.out]
    clear h1 h2 hn hn2 HF
    go_enter Tryz.func14, Tryz.ntmps14
    go_wp2_with fail
    go_ret
    exact ⟨rfl, Below.refl _ _⟩
set_option maxRecDepth 100000 in
set_option maxHeartbeats 1000000 in
theorem Same7_any (a a2 : Option Addr) (l m : List SelV) (n n2 c c2 : Nat) (w : World) (hn : l.length = n) (hn2 : m.length = n2) (hl : n ≤ maxLen) (hl2 : n2 ≤ maxLen) (h1 : Sls w a l) (h2 : Sls w a2 m) :
    Calls Tryz.prog 5 #[.slice a n c, .slice a2 n2 c2] w fun e w' => e = .returned (.bool (decide (l.map SelV.pure = m.map SelV.pure))) ∧ Below w.heap.size w w' := by
  have C := Lib.hid (EqSel7 a a2 l m n n2 c c2 w hn hn2 hl hl2 h1 h2)
  have hmf : ∀ (fn : Fn) (first cap : Array Value) (w : World), (Instr.makeFunc fn first cap).run Tryz.prog w = .ok (.func fn first cap) w := fun _ _ _ _ => rfl
  obtain ⟨R, hR⟩ : ∃ R, decide (l.map SelV.pure = m.map SelV.pure) = R := ⟨_, rfl⟩
  rw [hR] at C ⊢
  clear h1 h2 hn hn2 hR hl hl2
  go_enter Tryz.func5, Tryz.ntmps5
  go_wp2_with fail
  refine C.out.mono ?_
  rintro e w1 ⟨rfl, hb1⟩
  have HB1 := Lib.hid hb1
  clear hb1
  go_wp2_with fail
  go_ret
  exact ⟨rfl, HB1.out⟩
set_option maxRecDepth 100000 in
set_option maxHeartbeats 4000000 in
theorem refSameOne7_gen (a a2 : Option Addr) (l m : List PtV) (n n2 c c2 : Nat) (w : World) (hn : l.length = n) (hn2 : m.length = n2) (hl : n ≤ maxLen) (hl2 : n2 ≤ maxLen) (h1 : Pts w a l) (h2 : Pts w a2 m) :
    Calls Tryz.prog 11 #[.agg #[.slice a n c], .agg #[.slice a2 n2 c2]] w fun e w' => e = .returned (.bool (decide (l.map PtV.p = m.map PtV.p))) ∧ Below w.heap.size w w' := by
  unfold maxLen at hl hl2
  have z1 : (n : Int) ≤ 9223372036854775807 := by omega
  have z2 : (n2 : Int) ≤ 9223372036854775807 := by omega
  obtain ⟨wb, hwb⟩ : ∃ wb, (w.alloc (.cells #[.slice a n c] 24)).alloc (.cells #[.slice a2 n2 c2] 24) = wb := ⟨_, rfl⟩
  have hbel : Below w.heap.size w wb := by rw [← hwb]; exact (below_one7 w _).alloc (by simp) _
  have hA : wb.heap[w.heap.size]? = some (.cells #[.slice a n c] 24) := by
    rw [← hwb]; exact ((below_one7 _ _).block w.heap.size (by simp)).trans (heap_alloc_new w _)
  have hB : wb.heap[w.heap.size + 1]? = some (.cells #[.slice a2 n2 c2] 24) := by
    rw [← hwb]
    have := heap_alloc_new (w.alloc (.cells #[.slice a n c] 24)) (.cells #[.slice a2 n2 c2] 24)
    rwa [show (w.alloc (.cells #[.slice a n c] 24)).heap.size = w.heap.size + 1 by simp] at this
  have hs2 : w.heap.size + 1 < wb.heap.size := by rw [← hwb]; simp
  have d0 := cell_of hA (k := 0) rfl
  have f0 := cell_of hB (k := 0) rfl
  have D0 := Lib.hid d0
  have F0 := Lib.hid f0
  have HBEL := Lib.hid hbel
  by_cases hlen : n = n2
  · subst hlen
    obtain ⟨R, hR⟩ : ∃ R, decide (l.map PtV.p = m.map PtV.p) = R := ⟨_, rfl⟩
    rw [hR]
    have HR := Lib.hid hR
    have H1 := Lib.hid (h1.below hbel)
    have H2 := Lib.hid (h2.below hbel)
    have HN := Lib.hid hn
    have HN2 := Lib.hid hn2
    clear h1 h2 hn hn2 hR hA hB hbel
    go_enter Tryz.func11, Tryz.ntmps11
    go_wp2_with fail
    clear d0 f0 hwb
    go_loopw [5] (fun vi wr => ∃ k : Nat, vi = .int .i64 (k : Int) ∧ k ≤ n ∧ Hid (Below wb.heap.size wb wr) ∧ Hid (∀ i (h1 : i < l.length) (h2 : i < m.length), i < k → (l[i]).p = (m[i]).p)) (fun vi _ => n - (intOf vi).toNat)
    case atStart => exact ⟨0, rfl, by omega, Lib.hid (Below.refl _ _), fun i _ _ h => by omega⟩
    case round =>
      obtain ⟨k, rfl, hk, HW, HE⟩ := hrel
      have d0 : wr.cell? ⟨w.heap.size, 0, none⟩ = some (.slice a n c) := (HW.out.cell (p := ⟨w.heap.size, 0, none⟩) (by show w.heap.size < _; omega)).trans D0.out
      have f0 : wr.cell? ⟨w.heap.size + 1, 0, none⟩ = some (.slice a2 n c2) := (HW.out.cell (p := ⟨w.heap.size + 1, 0, none⟩) (by show w.heap.size + 1 < _; omega)).trans F0.out
      by_cases hlt : k < n
      · have hltz : (k : Int) < (n : Int) := by omega
        have hk1 : k < l.length := by have := HN.out; omega
        have hk2 : k < m.length := by have := HN2.out; omega
        obtain ⟨b1, o1, e1, g1, hat1, hok1⟩ := H1.out.get hk1
        obtain ⟨b2, o2, e2, g2, hat2, hok2⟩ := H2.out.get hk2
        have hb1 : b1 < wr.heap.size := Nat.lt_of_lt_of_le g1 HW.out.size
        have hb2 : b2 < wr.heap.size := Nat.lt_of_lt_of_le g2 HW.out.size
        have HNO : Hid ((l[k]).p ≠ (m[k]).p → R = false) := Lib.hid fun h => by rw [← HR.out]; exact map_eq_no PtV.p hk1 hk2 h
        have HYES : Hid ((l[k]).p = (m[k]).p → ∀ i (h1 : i < l.length) (h2 : i < m.length), i < k + 1 → (l[i]).p = (m[i]).p) := Lib.hid fun hh i h1 h2 h => by
          by_cases e : i = k
          · subst e; exact hh
          · exact HE.out i h1 h2 (by omega)
        rw [e1] at d0
        rw [e2] at f0
        have hat1 := hat1.below HW.out g1
        have hat2 := hat2.below HW.out g2
        have hok1 := fun W (hW : Below wb.heap.size wb W) => hok1.below hW
        have hok2 := fun W (hW : Below wb.heap.size wb W) => hok2.below hW
        generalize l[k] = x at *
        generalize m[k] = y at *
        obtain ⟨⟨co, tg, id, cl, ts, st⟩, ca, cc, ta, tc⟩ := x
        obtain ⟨⟨co', tg', id', cl', ts', st'⟩, ca', cc', ta', tc'⟩ := y
        obtain ⟨p0, p1, p2, p3, p4, p5⟩ := hat1
        obtain ⟨q0, q1, q2, q3, q4, q5⟩ := hat2
        simp only at p0 p1 p2 p3 p4 p5 q0 q1 q2 q3 q4 q5
        obtain ⟨ln, hln⟩ : ∃ n, cl.length = n := ⟨_, rfl⟩
        obtain ⟨lm, hlm⟩ : ∃ n, ts.length = n := ⟨_, rfl⟩
        obtain ⟨ln', hln'⟩ : ∃ n, cl'.length = n := ⟨_, rfl⟩
        obtain ⟨lm', hlm'⟩ : ∃ n, ts'.length = n := ⟨_, rfl⟩
        have CL := fun W (hW : Below wb.heap.size wb W) => refSamePart7_gen co st co' st' tg id tg' id' ca ta ca' ta' cc tc cc' tc' ln lm ln' lm' cl cl' ts ts' W hln hlm hln' hlm'
          (by have := (hok1 W hW).hcc; have := (hok1 W hW).hcm; simp only at *; omega) (by have := (hok1 W hW).htc; have := (hok1 W hW).htm; simp only at *; omega)
          (by have := (hok2 W hW).hcc; have := (hok2 W hW).hcm; simp only at *; omega) (by have := (hok2 W hW).htc; have := (hok2 W hW).htm; simp only at *; omega)
          (hok1 W hW).hc (hok2 W hW).hc (hok1 W hW).ht (hok2 W hW).ht
        rw [hln] at p3
        rw [hlm] at p4
        rw [hln'] at q3
        rw [hlm'] at q4
        obtain ⟨sb, hsb⟩ : ∃ b, decide ((⟨co, tg, id, cl, ts, st⟩ : Prt) = ⟨co', tg', id', cl', ts', st'⟩) = b := ⟨_, rfl⟩
        rw [hsb] at CL
        have HCL := Lib.hid CL
        have HSB := Lib.hid hsb
        clear hok1 hok2 hln hlm hln' hlm' hsb CL hk1 hk2 e1 e2
        go_wp2_with fail
        refine wp_region_still_tail 10 (by kernel_rfl) (by kernel_rfl) ?_
        simp only [List.take_succ_cons, List.take_zero, List.drop_succ_cons, List.drop_zero]
        repeat still_step
        refine wpStill_nil ?_
        change wpList _ _ _ _ _ wr.drew
        clear p0 p1 p2 p3 p4 p5 q0 q1 q2 q3 q4 q5 d0 f0
        have HD := Lib.hid (Below.drew (Below.refl wr.heap.size wr))
        generalize wr.drew = wd at HD ⊢
        go_wp2_with fail
        refine (HCL.out _ (HW.out.trans (HD.out.mono HW.out.size))).mono ?_
        rintro e w1 ⟨rfl, hb⟩
        have HB1 := Lib.hid (HW.out.trans ((HD.out.trans (hb.mono HD.out.size)).mono HW.out.size))
        clear hb
        cases sb
        · have HF : Hid (R = false) := Lib.hid (HNO.out (of_decide_eq_false HSB.out))
          clear HNO HYES
          go_wp2_with fail
          go_ret
          exact ⟨ret_bool HF.out.symm, HBEL.out.trans (HB1.out.mono HBEL.out.size)⟩
        · have HE2 := Lib.hid (HYES.out (of_decide_eq_true HSB.out))
          clear HNO HYES
          go_wp2_with fail
          go_roundw
          case rel => exact ⟨k + 1, by go_num, by omega, HB1, HE2⟩
          case measure => simp [intOf]; omega
      · have hltz : ¬ (k : Int) < (n : Int) := by omega
        have HF : Hid (R = true) := Lib.hid (by rw [← HR.out]; exact map_eq_all PtV.p (by have := HN.out; have := HN2.out; omega) fun i h1 h2 => HE.out i h1 h2 (by have := HN.out; omega))
        clear HE
        go_wp2_with fail
        go_ret
        exact ⟨ret_bool HF.out.symm, HBEL.out.trans (HW.out.mono HBEL.out.size)⟩
  · have hz : ((n : Int) != (n2 : Int)) = true := by rw [bne_iff_ne]; omega
    have hlz : ¬ (n : Int) = (n2 : Int) := by omega
    have HF : Hid (decide (l.map PtV.p = m.map PtV.p) = false) := Lib.hid (map_eq_len PtV.p (by omega))
    rw [HF.out]
    clear h1 h2 hn hn2 HF
    go_enter Tryz.func11, Tryz.ntmps11
    go_wp2_with fail
    go_ret
    exact ⟨rfl, HBEL.out⟩
end Go.Proofs.YtfbfndknhabmhaaGreat
