/- The law TreeBuilds. -/
import Derived.Test.YtlnglpjmfoigmaaTreY
import Derived.Test.YtlnglpjmfoigmaaTreK
import Derived.Test.YtlnglpjmfoigmaaTreW9
import Derived.Test.YtlnglpjmfoigmaaTreW13
namespace Go.Proofs.Ytlnglpjmfoigmaa
open Go.RowKit TreN TreP
set_option linter.unusedVariables false

theorem emB_eq {s : ByteArray} (h : emB s = true) : (s.toList == []) = true := by
  unfold emB at h
  cases hl : s.toList with
  | nil => rfl
  | cons x r => rw [hl] at h; cases h
theorem emB_ne {s : ByteArray} (h : emB s = false) : (s.toList == []) = false := by
  unfold emB at h
  cases hl : s.toList with
  | nil => rw [hl] at h; cases h
  | cons x r => rfl
/-- calls that came in: a kind, and a node -/
def Ops (w : World) (a : Option Addr) (len : Nat) (K : Nat → Int) (L : Nat → Nd) : Prop := len = 0 ∨ ∃ b off, a = some ⟨b, off, none⟩ ∧ b < w.heap.size ∧ ∀ i, i < len →
  w.cell? ⟨b, off + i * 7, none⟩ = some (.int .i64 (K i)) ∧
  (w.cell? ⟨b, off + i * 7 + 1, none⟩ = some (.int .i64 (L i).par) ∧ w.cell? ⟨b, off + i * 7 + 2, none⟩ = some (.string (L i).tag) ∧ w.cell? ⟨b, off + i * 7 + 3, none⟩ = some (.string (L i).id) ∧
   w.cell? ⟨b, off + i * 7 + 4, none⟩ = some (.slice (L i).ca (L i).cl (L i).cc) ∧ w.cell? ⟨b, off + i * 7 + 5, none⟩ = some (.slice (L i).aa (L i).al (L i).ac) ∧ w.cell? ⟨b, off + i * 7 + 6, none⟩ = some (.string (L i).tx)) ∧ NdIn w (L i)
theorem Ops.below {w w' : World} {a : Option Addr} {len : Nat} {K : Nat → Int} {L : Nat → Nd} (h : Ops w a len K L) (hb : Below w.heap.size w w') : Ops w' a len K L := by
  rcases h with h | ⟨b, off, e, hlt, h⟩
  · exact Or.inl h
  · refine Or.inr ⟨b, off, e, by have := hb.size; omega, fun i hi => ?_⟩
    have hc : ∀ k, w'.cell? ⟨b, k, none⟩ = w.cell? ⟨b, k, none⟩ := fun k => hb.cell (p := ⟨b, k, none⟩) hlt
    obtain ⟨h0, ⟨h1, h2, h3, h4, h5, h6⟩, h7⟩ := h i hi
    exact ⟨(hc _).trans h0, ⟨(hc _).trans h1, (hc _).trans h2, (hc _).trans h3, (hc _).trans h4, (hc _).trans h5, (hc _).trans h6⟩, h7.below hb⟩

theorem right8 {n : Nd} (h : rightB n = true) : n.cl ≤ 8 ∧ n.al ≤ 8 := by
  unfold rightB at h
  by_cases ht : emB n.tag = true
  · rw [if_pos ht] at h
    simp only [Bool.and_eq_true, decide_eq_true_eq] at h
    omega
  · rw [if_neg ht] at h
    unfold mkB at h
    simp only [Bool.and_eq_true, decide_eq_true_eq] at h
    exact ⟨h.2.2.2.1, h.2.2.2.2.1⟩
/-- a number put behind own numbers -/
theorem app_int {w4 : World} {P K : Nat} {vo : Value} {O : List Nat} (k : Nat) (hKO : O.length = K) (hK : K ≤ 1000) (ho : w4.ownsRow (P + 1) 3 1 vo O.length (ins O)) (hb : P + 1 ≤ w4.heap.size) :
    ∃ g cap w5, (Builtin.append_ #[30, 30] 30 #[vo, .slice (some ⟨w4.heap.size, 0, none⟩) 1 1]).run Try.prog (w4.alloc (.cells #[.int .i64 (k : Int)] 3)) = .ok (.slice (some ⟨g, 0, none⟩) (K + 1) cap) w5 ∧
      w5.ownsRow (P + 1) 3 1 (.slice (some ⟨g, 0, none⟩) (O.length + 1) cap) (O.length + 1) (ins (O ++ [k])) ∧ (w4.alloc (.cells #[.int .i64 (k : Int)] 3)).grownBy w5 vo.ownBlock ∧ (vo.ownBlock = some g ∨ (w4.alloc (.cells #[.int .i64 (k : Int)] 3)).heap.size ≤ g) := by
  obtain ⟨j0, hj0, hy0, hy1, hy2⟩ := info_parts info_int
  obtain ⟨g, cap, w5, r1, r2, r3, r4, _⟩ := run_append_lies (P := Try.prog) (w4.alloc (.cells #[.int .i64 (k : Int)] 3)) 30 30 (P + 1) 3 j0 _ 1 8 und_ints hj0 hy0 hy1 hy2 rfl (by decide) vo O.length (ins O) (ho.alloc (.cells #[.int .i64 (k : Int)] 3)) ⟨w4.heap.size, 0, none⟩ 1 1 [.int .i64 (k : Int)] rfl (World.news_of_block (heap_alloc_new w4 _)) (by intro u hu; simp only [List.mem_singleton] at hu; subst hu; rfl) (by decide) (by unfold maxLen; omega) (by omega) (by simp; omega) _ rfl
  refine ⟨g, cap, w5, by rw [← hKO]; exact r1, ?_, r3, r4.imp id (fun h => by rw [h]; exact Nat.le_refl _)⟩
  unfold ins; rw [List.map_append]; exact r2
theorem refPut_st {w3 : World} {P : Nat} {la oa : Option Addr} {N lc K oc : Nat} {L : Nat → Nd} {O : List Nat} {n : Nd} (hKO : O.length = K) (hN : N ≤ 1000) (hK : K ≤ 1000) (hl : Nods w3 la N L) (ho : w3.ownsRow (P + 1) 3 1 (.slice oa K oc) O.length (ins O)) (hn : NdIn w3 n) :
    Calls Try.prog 34 #[.slice la N lc, .slice oa K oc, .agg n.val] w3 fun e w' => ∃ g cap, e = .returned (.slice (some ⟨g, 0, none⟩) (N + 1) cap) ∧ NAt w' g 0 (N + 1) (putS L N (n.withP (lastO O))) ∧ Below w3.heap.size w3 w' ∧ w3.heap.size ≤ g := by
  rw [hKO] at ho
  by_cases h0 : K = 0
  · have hO : O = [] := List.eq_nil_of_length_eq_zero (by omega)
    subst h0; subst hO
    exact refPut_none la oa N lc oc L n w3 hN hl hn
  · obtain ⟨og, cap, hv, hg, hgl⟩ := ho.form (by omega)
    injection hv with hv1 _ hv3
    subst hv1; subst hv3
    obtain ⟨O', p, rfl⟩ := snoc_of (l := O) (by intro e; subst e; simp at hKO; omega)
    rw [lastO_snoc]
    refine refPut_some la N lc og K oc (p : Int) L n w3 hN (by omega) hK hgl ?_ hl hn
    rw [List.length_append, List.length_singleton] at hKO
    rw [ho.cellAt (K - 1) (by omega)]
    unfold ins
    rw [List.map_append, List.getElem?_append_right (by rw [List.length_map]; omega), List.length_map, show K - 1 - O'.length = 0 by omega]
    rfl

set_option maxRecDepth 100000 in
set_option maxHeartbeats 4000000 in
theorem TreeBuilds_walk (a : Option Addr) (len cap : Nat) (Kd : Nat → Int) (Ln : Nat → Nd) (w : World) (hm : len ≤ maxLen) (hO : Ops w a len Kd Ln) :
    Calls Try.prog 8 #[.slice a len cap] w fun e w' => e = .returned (.bool true) ∧ Below w.heap.size w w' := by
  have HO := Lib.hid hO
  have HST := Lib.hid (St.start w Ln)
  have hNew := New_any w
  have HN := Lib.hid hNew
  unfold maxLen at hm
  clear hO hNew
  go_enter Try.func8, Try.ntmps8
  go_wp2_with fail
  refine HN.out.mono ?_
  rintro e w1 ⟨rfl, rfl⟩
  obtain ⟨P, hP⟩ : ∃ P, w.heap.size = P := ⟨_, rfl⟩
  have HP := Lib.hid hP
  rw [hP] at HST ⊢
  clear hP HN
  generalize newB w = wb at *
  go_wp2_with fail
  go_loopw [4, 5, 6] (fun v4 v5 vi wr => ∃ (k N K : Nat) (la oa : Option Addr) (lc oc : Nat), vi = .int .i64 (k : Int) ∧ k ≤ 300 ∧ N ≤ k ∧ K ≤ 64 ∧ v4 = .slice la N lc ∧ v5 = .slice oa K oc ∧ Hid (∃ nv ov D L O, O.length = K ∧ St w wr P nv ov D L N O O la (.slice oa K oc))) (fun _ _ vi _ => 300 - (intOf vi).toNat)
  case atStart => exact ⟨0, 0, 0, none, none, 0, 0, rfl, by omega, by omega, by omega, rfl, rfl, Lib.hid ⟨_, _, _, _, [], rfl, HST.out⟩⟩
  case round =>
    obtain ⟨k, N, K, la, oa, lc, oc, rfl, hk, hN, hK, rfl, rfl, HS⟩ := hrel
    by_cases hlt : k < len ∧ k < 300
    · obtain ⟨h1, h2⟩ := hlt
      have z1 : (k : Int) < (len : Int) := by omega
      have z2 : (k : Int) < 300 := by omega
      have z3 : (0 : Int) ≤ (k : Int) := by omega
      obtain ⟨nv, ov, D, L, O, hKO, hst⟩ := HS.out
      obtain ⟨na, nc, rfl⟩ := row_slice hst.b.nodes
      obtain ⟨oa2, oc2, rfl⟩ := row_slice hst.b.open_
      rw [hKO] at hst
      have hO2 := HO.out.below hst.b.bel
      have hOin : NdIn w (Ln k) := by
        rcases HO.out with q | ⟨_, _, _, _, q⟩
        · omega
        · exact (q k h1).2.2
      rcases hO2 with q | ⟨b1, o1, ha, hbl, hat⟩
      · omega
      subst ha
      obtain ⟨c0, ⟨c1, c2, c3, c4, c5, c6⟩, _⟩ := hat k h1
      obtain ⟨n, hn⟩ : ∃ n, Ln k = n := ⟨_, rfl⟩
      obtain ⟨kd, hkd⟩ : ∃ n, Kd k = n := ⟨_, rfl⟩
      rw [hn] at c1 c2 c3 c4 c5 c6 hOin
      rw [hkd] at c0
      have hb1 : Below wr.heap.size wr (boxed wr n) := boxed_below wr n
      have hst1 := hst.below hb1
      have hG : (boxed wr n).heap[wr.heap.size]? = some (.cells #[.int .i64 n.par, .string n.tag, .string n.id, .slice n.ca n.cl n.cc, .slice n.aa n.al n.ac, .string n.tx] 39 (0, 0)) := heap_alloc_new wr _
      have hbx : wr.alloc (.cells #[.int .i64 n.par, .string n.tag, .string n.id, .slice n.ca n.cl n.cc, .slice n.aa n.al n.ac, .string n.tx] 39) = boxed wr n := rfl
      have hnW : NdIn (boxed wr n) n := hOin.below hst1.b.bel
      obtain ⟨G, hGe⟩ : ∃ G, wr.heap.size = G := ⟨_, rfl⟩
      have HGX : Hid (P ≠ G ∧ (∀ q, (Value.slice na N nc).ownBlock = some q → q < G) ∧ (∀ q, (Value.slice oa2 K oc2).ownBlock = some q → q < G)) := Lib.hid ⟨by
        have : P < wr.heap.size := by
          obtain ⟨hlt, _⟩ := Array.getElem?_eq_some_iff.1 hst.b.box
          exact hlt
        omega, fun q hq => by rw [← hGe]; exact (own_lt hst.b.nodes hq).2, fun q hq => by rw [← hGe]; exact (own_lt hst.b.open_ hq).2⟩
      have c0' : (boxed wr n).cell? ⟨b1, o1 + k * 7, none⟩ = some (.int .i64 kd) := (hb1.cell (p := ⟨b1, o1 + k * 7, none⟩) hbl).trans c0
      have hbl' : b1 < wr.heap.size := hbl
      generalize boxed wr n = W1 at *
      rw [hGe] at hG
      have g0 := cell_of (k := 0) hG rfl
      have g1 := cell_of (k := 1) hG rfl
      have g2 := cell_of (k := 2) hG rfl
      have g3 := cell_of (k := 3) hG rfl
      have g4 := cell_of (k := 4) hG rfl
      have g5 := cell_of (k := 5) hG rfl
      have HG := Lib.hid hG
      have HS1 := Lib.hid hst1
      have HKO := Lib.hid hKO
      have HNW := Lib.hid hnW
      have HNI := Lib.hid hOin
      clear HS hst hst1 hKO hat hOin hn hkd hb1 hG hnW hbl
      by_cases hk0 : kd = 0
      · subst hk0
        by_cases hbad : (0 < N ∧ K = 0) ∨ emB n.tag = true ∨ rightB n = false
        · have OB := Open_bad w W1 P na oa2 nc oc2 K D N O n HS1.out.b (by omega) (by omega) HNW.out hbad
          have RR := fun W (hW : Below W1.heap.size W1 W) => refRight_any n W (HNW.out.below hW)
          rw [Nd.val_eq] at OB RR
          have HOB := Lib.hid OB
          have HRR := Lib.hid RR
          clear OB RR
          go_wp2_with fail
          refine HOB.out.mono ?_
          rintro e w2 ⟨rfl, hb2⟩
          have HBX := Lib.hid hb2
          have HSX := Lib.hid (HS1.out.below hb2)
          clear hb2 g0 g1 g2 g3 g4 g5 hbx c0 c0' c1 c2 c3 c4 c5 c6
          have hG2 := blk_keepV HBX.out HG.out
          have g0 := cell_of (k := 0) hG2 rfl
          have g1 := cell_of (k := 1) hG2 rfl
          have g2 := cell_of (k := 2) hG2 rfl
          have g3 := cell_of (k := 3) hG2 rfl
          have g4 := cell_of (k := 4) hG2 rfl
          have g5 := cell_of (k := 5) hG2 rfl
          clear hG2
          by_cases hcl : 0 < N ∧ K = 0
          · obtain ⟨y1, y2⟩ := hcl
            have y3 : (0 : Int) < (N : Int) := by omega
            have y4 : decide (0 < N) = true := by simp; omega
            have y5 : ((K : Int) == 0) = true := by rw [y2]; rfl
            clear hbad y2
            go_wp2_with fail
            go_roundw
            case rel => exact ⟨k + 1, N, K, la, oa, lc, oc, by go_num, by omega, by omega, by omega, rfl, rfl, Lib.hid ⟨_, _, _, _, _, HKO.out, HSX.out⟩⟩
            case measure => simp [intOf]; omega
          · have hcl2 : N = 0 ∨ 0 < K := by omega
            by_cases hN0 : N = 0
            · have y3 : ¬ (0 : Int) < (N : Int) := by omega
              have y4 : decide (0 < N) = false := by simp; omega
              clear hN0
              by_cases hte : emB n.tag = true
              · have ht1 : (n.tag.toList == []) = true := emB_eq hte
                clear hbad
                generalize n.tag = tg at *
                clear hte
                go_wp2_with fail
                go_roundw
                case rel => exact ⟨k + 1, N, K, la, oa, lc, oc, by go_num, by omega, by omega, by omega, rfl, rfl, Lib.hid ⟨_, _, _, _, _, HKO.out, HSX.out⟩⟩
                case measure => simp [intOf]; omega
              · have hte' : emB n.tag = false := by simpa using hte
                have htr : rightB n = false := by rcases hbad with q | q | q; exact absurd q hcl; exact absurd q hte; exact q
                have ht1 : (n.tag.toList == []) = false := emB_ne hte'
                rw [htr] at HRR
                clear hbad hte hte' htr
                generalize n.tag = tg at *
                go_wp2_with fail
                refine (HRR.out _ HBX.out).mono ?_
                rintro e w3 ⟨rfl, hb3⟩
                have HSX := Lib.hid (HSX.out.below hb3)
                clear hb3 g0 g1 g2 g3 g4 g5
                go_wp2_with fail
                go_roundw
                case rel => exact ⟨k + 1, N, K, la, oa, lc, oc, by go_num, by omega, by omega, by omega, rfl, rfl, Lib.hid ⟨_, _, _, _, _, HKO.out, HSX.out⟩⟩
                case measure => simp [intOf]; omega
            · have y3 : (0 : Int) < (N : Int) := by omega
              have y4 : decide (0 < N) = true := by simp; omega
              have y5 : ((K : Int) == 0) = false := by rw [beq_eq_false_iff_ne]; omega
              clear hN0
              by_cases hte : emB n.tag = true
              · have ht1 : (n.tag.toList == []) = true := emB_eq hte
                clear hbad
                generalize n.tag = tg at *
                clear hte
                go_wp2_with fail
                go_roundw
                case rel => exact ⟨k + 1, N, K, la, oa, lc, oc, by go_num, by omega, by omega, by omega, rfl, rfl, Lib.hid ⟨_, _, _, _, _, HKO.out, HSX.out⟩⟩
                case measure => simp [intOf]; omega
              · have hte' : emB n.tag = false := by simpa using hte
                have htr : rightB n = false := by rcases hbad with q | q | q; exact absurd q hcl; exact absurd q hte; exact q
                have ht1 : (n.tag.toList == []) = false := emB_ne hte'
                rw [htr] at HRR
                clear hbad hte hte' htr
                generalize n.tag = tg at *
                go_wp2_with fail
                refine (HRR.out _ HBX.out).mono ?_
                rintro e w3 ⟨rfl, hb3⟩
                have HSX := Lib.hid (HSX.out.below hb3)
                clear hb3 g0 g1 g2 g3 g4 g5
                go_wp2_with fail
                go_roundw
                case rel => exact ⟨k + 1, N, K, la, oa, lc, oc, by go_num, by omega, by omega, by omega, rfl, rfl, Lib.hid ⟨_, _, _, _, _, HKO.out, HSX.out⟩⟩
                case measure => simp [intOf]; omega
        · have hte : emB n.tag = false := by
            cases h : emB n.tag with
            | false => rfl
            | true => exact absurd (Or.inr (Or.inl h)) hbad
          have htr : rightB n = true := by
            cases h : rightB n with
            | true => rfl
            | false => exact absurd (Or.inr (Or.inr h)) hbad
          have hcl : N = 0 ∨ 0 < K := by
            by_cases h : 0 < N ∧ K = 0
            · exact absurd (Or.inl h) hbad
            · omega
          clear hbad
          by_cases hK64 : K = 64
          · have OB := Open_full w W1 P na oa2 nc oc2 K D N O n HS1.out.b (by omega) (by omega) (by omega) HNW.out hte htr
            have RR := fun W (hW : Below W1.heap.size W1 W) => refRight_any n W (HNW.out.below hW)
            rw [htr] at RR
            rw [Nd.val_eq] at OB RR
            have HOB := Lib.hid OB
            have HRR := Lib.hid RR
            have ht1 : (n.tag.toList == []) = false := emB_ne hte
            have y6 : ((K : Int) == 64) = true := by rw [beq_iff_eq]; omega
            have y5 : ((K : Int) == 0) = false := by rw [beq_eq_false_iff_ne]; omega
            clear OB RR hte htr hcl hK64
            generalize n.tag = tg at *
            go_wp2_with fail
            refine HOB.out.mono ?_
            rintro e w2 ⟨rfl, hb2⟩
            have HBX := Lib.hid hb2
            have HSX := Lib.hid (HS1.out.below hb2)
            clear hb2 g0 g1 g2 g3 g4 g5 hbx c0 c0' c1 c2 c3 c4 c5 c6
            have hG2 := blk_keepV HBX.out HG.out
            have g0 := cell_of (k := 0) hG2 rfl
            have g1 := cell_of (k := 1) hG2 rfl
            have g2 := cell_of (k := 2) hG2 rfl
            have g3 := cell_of (k := 3) hG2 rfl
            have g4 := cell_of (k := 4) hG2 rfl
            have g5 := cell_of (k := 5) hG2 rfl
            clear hG2
            by_cases hN0 : N = 0
            · have y3 : ¬ (0 : Int) < (N : Int) := by omega
              have y4 : decide (0 < N) = false := by simp; omega
              clear hN0
              go_wp2_with fail
              refine (HRR.out _ HBX.out).mono ?_
              rintro e w3 ⟨rfl, hb3⟩
              have HSX := Lib.hid (HSX.out.below hb3)
              clear hb3 g0 g1 g2 g3 g4 g5
              go_wp2_with fail
              go_roundw
              case rel => exact ⟨k + 1, N, K, la, oa, lc, oc, by go_num, by omega, by omega, by omega, rfl, rfl, Lib.hid ⟨_, _, _, _, _, HKO.out, HSX.out⟩⟩
              case measure => simp [intOf]; omega
            · have y3 : (0 : Int) < (N : Int) := by omega
              have y4 : decide (0 < N) = true := by simp; omega
              clear hN0
              go_wp2_with fail
              refine (HRR.out _ HBX.out).mono ?_
              rintro e w3 ⟨rfl, hb3⟩
              have HSX := Lib.hid (HSX.out.below hb3)
              clear hb3 g0 g1 g2 g3 g4 g5
              go_wp2_with fail
              go_roundw
              case rel => exact ⟨k + 1, N, K, la, oa, lc, oc, by go_num, by omega, by omega, by omega, rfl, rfl, Lib.hid ⟨_, _, _, _, _, HKO.out, HSX.out⟩⟩
              case measure => simp [intOf]; omega
          · obtain ⟨h8, h8'⟩ := right8 htr
            have OB := Open_ok w W1 P na oa2 nc oc2 K D N O n HKO.out HS1.out.b (by omega) (by omega) hcl HNW.out h8 h8' hte htr
            have RR := fun W (hW : Below w.heap.size w W) => refRight_any n W (HNI.out.below hW)
            have PP := fun (W : World) (hl : Nods W la N L) (ho : W.ownsRow (P + 1) 3 1 (.slice oa K oc) O.length (ins O)) (hW : Below w.heap.size w W) => refPut_st (lc := lc) (n := n) HKO.out (by omega) (by omega) hl ho (HNI.out.below hW)
            rw [htr] at RR
            rw [Nd.val_eq] at OB RR PP
            have HOB := Lib.hid OB
            have HRR := Lib.hid RR
            have HPP := Lib.hid PP
            have HTE := Lib.hid (And.intro hte htr)
            have HCL := Lib.hid hcl
            have ht1 : (n.tag.toList == []) = false := emB_ne hte
            have y6 : ((K : Int) == 64) = false := by rw [beq_eq_false_iff_ne]; omega
            have hKlt : K < 64 := by omega
            clear OB RR PP hte htr hK64 h8 h8'
            go_wp2_with fail
            refine HOB.out.mono ?_
            rintro e w2 ⟨rfl, x, nv', ov', hx1, hx2, hx3, hbd, hon1, hon2, hfr⟩
            have hG2 : w2.heap[G]? = some (.cells #[.int .i64 n.par, .string n.tag, .string n.id, .slice n.ca n.cl n.cc, .slice n.aa n.al n.ac, .string n.tx] 39 (0, 0)) := by
              rw [hfr.2 G (by obtain ⟨hlt, _⟩ := Array.getElem?_eq_some_iff.1 HG.out; exact hlt) (fun e => HGX.out.1 e.symm) (fun e => by have := HGX.out.2.1 G e; omega) (fun e => by have := HGX.out.2.2 G e; omega)]
              exact HG.out
            have HG2 := Lib.hid hG2
            have hinv := HS1.out.inv.open_ x (by rw [rightB_eq n x hx1]; exact HTE.out.2) hx2 (by rw [HKO.out]; exact hKlt) (by rw [HKO.out]; exact HCL.out) (by rw [hx1.tag]; exact HTE.out.1)
            obtain ⟨s1, s2, s3⟩ := HS1.out.side hbd.bel hfr hon1 hon2
            have HSD := Lib.hid (And.intro s1 s2)
            have HBW := Lib.hid hbd.bel
            have HPT := Lib.hid (fun (w4 : World) (g : Nat) (hb4 : Below w2.heap.size w2 w4) (hg : w2.heap.size ≤ g) (hl : NAt w4 g 0 (N + 1) (putS L N (n.withP (lastO O)))) => HS1.out.put hbd hinv hon1 hon2 hfr hx3 hx1 hx2 HNI.out hb4 hg hl)
            have HBX := Lib.hid (Below.refl w2.heap.size w2)
            clear hx1 hx2 hx3 hbd hon1 hon2 hfr hG2 hinv s1 s2 s3 g0 g1 g2 g3 g4 g5 hbx c0 c0' c1 c2 c3 c4 c5 c6
            have hG2 := blk_keepV HBX.out HG2.out
            have g0 := cell_of (k := 0) hG2 rfl
            have g1 := cell_of (k := 1) hG2 rfl
            have g2 := cell_of (k := 2) hG2 rfl
            have g3 := cell_of (k := 3) hG2 rfl
            have g4 := cell_of (k := 4) hG2 rfl
            have g5 := cell_of (k := 5) hG2 rfl
            clear hG2
            by_cases hN0 : N = 0
            · have y3 : ¬ (0 : Int) < (N : Int) := by omega
              have y4 : decide (0 < N) = false := by simp; omega
              clear hN0 hcl
              go_wp2_with fail
              refine (HRR.out _ HBW.out).mono ?_
              rintro e w3 ⟨rfl, hb3⟩
              have HBX := Lib.hid hb3
              clear g0 g1 g2 g3 g4 g5
              have hG2 := blk_keepV HBX.out HG2.out
              have g0 := cell_of (k := 0) hG2 rfl
              have g1 := cell_of (k := 1) hG2 rfl
              have g2 := cell_of (k := 2) hG2 rfl
              have g3 := cell_of (k := 3) hG2 rfl
              have g4 := cell_of (k := 4) hG2 rfl
              have g5 := cell_of (k := 5) hG2 rfl
              clear hG2
              have PQ := HPP.out w3 (HSD.out.1.below hb3) (ownsRow_belowV HSD.out.2 hb3) (HBW.out.trans (hb3.mono HBW.out.size))
              have HPQ := Lib.hid PQ
              clear PQ hb3
              go_wp2_with fail
              refine HPQ.out.mono ?_
              rintro e w4 ⟨g, gc, rfl, hnat, hb4, hgl⟩
              have hst4 := HPT.out w4 g (HBX.out.trans (hb4.mono HBX.out.size)) (Nat.le_trans HBX.out.size hgl) hnat
              have hPb : P + 1 ≤ w4.heap.size := by
                have : P < w4.heap.size := by
                  obtain ⟨hlt, _⟩ := Array.getElem?_eq_some_iff.1 hst4.b.box
                  exact hlt
                exact this
              obtain ⟨g5', cap5, w5, hr5, hown5, hgrow5, hgn5⟩ := app_int N HKO.out (by omega) hst4.o hPb
              have hst5 := (hst4.below ((Below.refl _ _).alloc (Nat.le_refl _) _)).pushQ hgrow5 hown5 hgn5
              have HR5 := Lib.hid hr5
              have HS5 := Lib.hid hst5
              obtain ⟨M, hM⟩ : ∃ M, N + 1 = M := ⟨_, rfl⟩
              have hw : IntKind.i64.wrap ((M : Int) - 1) = (N : Int) := by
                have e : (M : Int) - 1 = (N : Int) := by omega
                rw [e]; exact IntWalk.i64_in _ (by omega)
              have HM := Lib.hid hM
              rw [hM]
              clear hnat hb4 hgl hst4 hr5 hown5 hgrow5 hgn5 hst5 hM g0 g1 g2 g3 g4 g5
              go_wp2_with (at_builtin; refine wpList_append_run rfl _ _ 30 rfl _ _ _ _ rfl rfl HR5.out ?_)
              go_roundw
              case rel => exact ⟨k + 1, M, K + 1, some ⟨g, 0, none⟩, some ⟨g5', 0, none⟩, gc, cap5, by go_num, by omega, by have := HM.out; omega, by omega, rfl, rfl, Lib.hid ⟨_, _, _, _, O ++ [N], by rw [List.length_append, HKO.out]; rfl, by have := HS5.out; rw [HKO.out, HM.out] at this; exact this⟩⟩
              case measure => simp [intOf]; omega
            · have y3 : (0 : Int) < (N : Int) := by omega
              have y4 : decide (0 < N) = true := by simp; omega
              have y5 : ((K : Int) == 0) = false := by rw [beq_eq_false_iff_ne]; omega
              clear hN0 hcl
              go_wp2_with fail
              refine (HRR.out _ HBW.out).mono ?_
              rintro e w3 ⟨rfl, hb3⟩
              have HBX := Lib.hid hb3
              clear g0 g1 g2 g3 g4 g5
              have hG2 := blk_keepV HBX.out HG2.out
              have g0 := cell_of (k := 0) hG2 rfl
              have g1 := cell_of (k := 1) hG2 rfl
              have g2 := cell_of (k := 2) hG2 rfl
              have g3 := cell_of (k := 3) hG2 rfl
              have g4 := cell_of (k := 4) hG2 rfl
              have g5 := cell_of (k := 5) hG2 rfl
              clear hG2
              have PQ := HPP.out w3 (HSD.out.1.below hb3) (ownsRow_belowV HSD.out.2 hb3) (HBW.out.trans (hb3.mono HBW.out.size))
              have HPQ := Lib.hid PQ
              clear PQ hb3
              go_wp2_with fail
              refine HPQ.out.mono ?_
              rintro e w4 ⟨g, gc, rfl, hnat, hb4, hgl⟩
              have hst4 := HPT.out w4 g (HBX.out.trans (hb4.mono HBX.out.size)) (Nat.le_trans HBX.out.size hgl) hnat
              have hPb : P + 1 ≤ w4.heap.size := by
                have : P < w4.heap.size := by
                  obtain ⟨hlt, _⟩ := Array.getElem?_eq_some_iff.1 hst4.b.box
                  exact hlt
                exact this
              obtain ⟨g5', cap5, w5, hr5, hown5, hgrow5, hgn5⟩ := app_int N HKO.out (by omega) hst4.o hPb
              have hst5 := (hst4.below ((Below.refl _ _).alloc (Nat.le_refl _) _)).pushQ hgrow5 hown5 hgn5
              have HR5 := Lib.hid hr5
              have HS5 := Lib.hid hst5
              obtain ⟨M, hM⟩ : ∃ M, N + 1 = M := ⟨_, rfl⟩
              have hw : IntKind.i64.wrap ((M : Int) - 1) = (N : Int) := by
                have e : (M : Int) - 1 = (N : Int) := by omega
                rw [e]; exact IntWalk.i64_in _ (by omega)
              have HM := Lib.hid hM
              rw [hM]
              clear hnat hb4 hgl hst4 hr5 hown5 hgrow5 hgn5 hst5 hM g0 g1 g2 g3 g4 g5
              go_wp2_with (at_builtin; refine wpList_append_run rfl _ _ 30 rfl _ _ _ _ rfl rfl HR5.out ?_)
              go_roundw
              case rel => exact ⟨k + 1, M, K + 1, some ⟨g, 0, none⟩, some ⟨g5', 0, none⟩, gc, cap5, by go_num, by omega, by have := HM.out; omega, by omega, rfl, rfl, Lib.hid ⟨_, _, _, _, O ++ [N], by rw [List.length_append, HKO.out]; rfl, by have := HS5.out; rw [HKO.out, HM.out] at this; exact this⟩⟩
              case measure => simp [intOf]; omega
      · have z4 : (kd == 0) = false := by rw [beq_eq_false_iff_ne]; exact hk0
        by_cases hk1 : kd = 1
        · have z5 : (kd == 1) = true := by rw [beq_iff_eq]; exact hk1
          have RT := fun W => refText_any n.tx HNI.out.stx W
          have HRT := Lib.hid RT
          clear hk0 hk1 RT
          by_cases hbad : K = 0 ∨ textB n.tx = false
          · have WB := Words_bad w W1 P na oa2 nc oc2 K D N O n.tx HS1.out.b (by omega) HNI.out.stx hbad
            have HWB := Lib.hid WB
            obtain ⟨tx, htx⟩ : ∃ x, textB n.tx = x := ⟨_, rfl⟩
            rw [htx] at hbad HRT
            clear WB htx
            generalize n.tx = ntx at *
            go_wp2_with fail
            refine HWB.out.mono ?_
            rintro e w2 ⟨rfl, rfl⟩
            have HSX := HS1
            by_cases hK0 : K = 0
            · have y5 : ((K : Int) == 0) = true := by rw [hK0]; rfl
              clear hK0 hbad
              go_wp2_with fail
              go_roundw
              case rel => exact ⟨k + 1, N, K, la, oa, lc, oc, by go_num, by omega, by omega, by omega, rfl, rfl, Lib.hid ⟨_, _, _, _, _, HKO.out, HSX.out⟩⟩
              case measure => simp [intOf]; omega
            · have y5 : ((K : Int) == 0) = false := by rw [beq_eq_false_iff_ne]; omega
              have htr : tx = false := by rcases hbad with q | q; exact absurd q hK0; exact q
              subst htr
              clear hK0 hbad
              go_wp2_with fail
              refine (HRT.out _).mono ?_
              rintro e w3 ⟨rfl, rfl⟩
              go_wp2_with fail
              go_roundw
              case rel => exact ⟨k + 1, N, K, la, oa, lc, oc, by go_num, by omega, by omega, by omega, rfl, rfl, Lib.hid ⟨_, _, _, _, _, HKO.out, HSX.out⟩⟩
              case measure => simp [intOf]; omega
          · have htx : textB n.tx = true := by
              cases h : textB n.tx with
              | true => rfl
              | false => exact absurd (Or.inr h) hbad
            have hK0 : 0 < K := by omega
            have y5 : ((K : Int) == 0) = false := by rw [beq_eq_false_iff_ne]; omega
            rw [htx] at HRT
            clear hbad
            by_cases hK64 : K = 64
            · have WP := Words_put 31 (fun w' => Below W1.heap.size W1 w') w W1 P na oa2 nc oc2 K D N O n.tx HS1.out.b (by omega) HNI.out.stx hK0 htx (put_full w W1 P na oa2 nc oc2 K D N O (wordN n.tx) HS1.out.b (by omega) (by omega) (by omega))
              have HWP := Lib.hid WP
              have y6 : ((K : Int) == 64) = true := by rw [beq_iff_eq]; omega
              clear WP htx hK64
              have hgw : W1.heap.size = W1.heap.size := rfl
              go_wp2_with fail
              refine HWP.out.mono ?_
              rintro e w2 ⟨rfl, hb2⟩
              have HBX := Lib.hid hb2
              have HSX := Lib.hid (HS1.out.below hb2)
              clear hb2 g0 g1 g2 g3 g4 g5 hbx c0 c0' c1 c2 c3 c4 c5 c6
              have hG2 := blk_keepV HBX.out HG.out
              have g0 := cell_of (k := 0) hG2 rfl
              have g1 := cell_of (k := 1) hG2 rfl
              have g2 := cell_of (k := 2) hG2 rfl
              have g3 := cell_of (k := 3) hG2 rfl
              have g4 := cell_of (k := 4) hG2 rfl
              have g5 := cell_of (k := 5) hG2 rfl
              clear hG2
              generalize n.tx = ntx at *
              go_wp2_with fail
              refine (HRT.out _).mono ?_
              rintro e w3 ⟨rfl, rfl⟩
              go_wp2_with fail
              go_roundw
              case rel => exact ⟨k + 1, N, K, la, oa, lc, oc, by go_num, by omega, by omega, by omega, rfl, rfl, Lib.hid ⟨_, _, _, _, _, HKO.out, HSX.out⟩⟩
              case measure => simp [intOf]; omega
            · have WP := Words_put 0 _ w W1 P na oa2 nc oc2 K D N O n.tx HS1.out.b (by omega) HNI.out.stx hK0 htx (put_ok w W1 P na oa2 nc oc2 K D N O (wordN n.tx) HKO.out HS1.out.b (by omega) (by omega) (wordN_in _ _ HNI.out.stx) (Nat.zero_le _) (Nat.zero_le _))
              have HWP := Lib.hid WP
              have PP := fun (W : World) (hl : Nods W la N L) (ho : W.ownsRow (P + 1) 3 1 (.slice oa K oc) O.length (ins O)) => refPut_st (lc := lc) (n := wordN n.tx) HKO.out (by omega) (by omega) hl ho (wordN_in _ _ HNI.out.stx)
              rw [wordN_val] at PP
              have HPP := Lib.hid PP
              have HTX := Lib.hid htx
              have y6 : ((K : Int) == 64) = false := by rw [beq_eq_false_iff_ne]; omega
              have hKlt : K < 64 := by omega
              clear WP PP htx hK64
              go_wp2_with fail
              refine HWP.out.mono ?_
              rintro e w2 ⟨rfl, x, nv', hx1, hx2, hx3, hbd, hon1, hfr⟩
              have hG2 : w2.heap[G]? = some (.cells #[.int .i64 n.par, .string n.tag, .string n.id, .slice n.ca n.cl n.cc, .slice n.aa n.al n.ac, .string n.tx] 39 (0, 0)) := by
                rw [hfr.2 G (by obtain ⟨hlt, _⟩ := Array.getElem?_eq_some_iff.1 HG.out; exact hlt) (fun e => HGX.out.1 e.symm) (fun e => by have := HGX.out.2.1 G e; omega) (fun e => by have := HGX.out.2.2 G e; omega)]
                exact HG.out
              have HG2 := Lib.hid hG2
              have hinv := HS1.out.inv.words x (by rw [rightB_eq (wordN n.tx) x hx1]; exact wordN_right HTX.out) hx2 (by rw [HKO.out]; exact hKlt) (by rw [HKO.out]; exact hK0)
              obtain ⟨s1, s2, s3⟩ := HS1.out.side hbd.bel hfr hon1 (Own.refl _ _)
              have HSD := Lib.hid (And.intro s1 s2)
              have HPT := Lib.hid (fun (w4 : World) (g : Nat) (hb4 : Below w2.heap.size w2 w4) (hg : w2.heap.size ≤ g) (hl : NAt w4 g 0 (N + 1) (putS L N ((wordN n.tx).withP (lastO O)))) => HS1.out.put hbd hinv hon1 (Own.refl _ _) hfr hx3 hx1 hx2 (wordN_in _ _ HNI.out.stx) hb4 hg hl)
              have HBX := Lib.hid (Below.refl w2.heap.size w2)
              clear hx1 hx2 hx3 hbd hon1 hfr hG2 hinv s1 s2 s3 g0 g1 g2 g3 g4 g5 hbx c0 c0' c1 c2 c3 c4 c5 c6
              have hG2 := blk_keepV HBX.out HG2.out
              have g0 := cell_of (k := 0) hG2 rfl
              have g1 := cell_of (k := 1) hG2 rfl
              have g2 := cell_of (k := 2) hG2 rfl
              have g3 := cell_of (k := 3) hG2 rfl
              have g4 := cell_of (k := 4) hG2 rfl
              have g5 := cell_of (k := 5) hG2 rfl
              clear hG2
              go_wp2_with fail
              refine (HRT.out _).mono ?_
              rintro e w3 ⟨rfl, rfl⟩
              have PQ := HPP.out _ HSD.out.1 HSD.out.2
              have HPQ := Lib.hid PQ
              clear PQ
              go_wp2_with fail
              refine HPQ.out.mono ?_
              rintro e w4 ⟨g, gc, rfl, hnat, hb4, hgl⟩
              have HS4 := Lib.hid (HPT.out w4 g hb4 hgl hnat)
              obtain ⟨M, hM⟩ : ∃ M, N + 1 = M := ⟨_, rfl⟩
              have HM := Lib.hid hM
              rw [hM]
              clear hnat hb4 hgl hM g0 g1 g2 g3 g4 g5
              go_wp2_with fail
              go_roundw
              case rel => exact ⟨k + 1, M, K, some ⟨g, 0, none⟩, oa, gc, oc, by go_num, by omega, by have := HM.out; omega, by omega, rfl, rfl, Lib.hid ⟨_, _, _, _, O, HKO.out, by have := HS4.out; rw [HM.out] at this; exact this⟩⟩
              case measure => simp [intOf]; omega
        · have z5 : (kd == 1) = false := by rw [beq_eq_false_iff_ne]; exact hk1
          have p1 : W1.cell? ⟨P, 1, none⟩ = some (.slice oa2 K oc2) := cell_of HS1.out.b.box rfl
          have pf : W1.frozen? ⟨P, 1, none⟩ = false := unfrozen_of HS1.out.b.box
          clear hk0 hk1
          by_cases hK0 : K = 0
          · have y5 : ((K : Int) == 0) = true := by rw [hK0]; rfl
            rw [hK0] at p1
            have HC := Lib.hid (Close_none P oa2 oc2 W1 p1)
            have HSX := HS1
            clear hK0 p1 pf
            go_wp2_with fail
            refine HC.out.mono ?_
            rintro e w2 ⟨rfl, rfl⟩
            go_wp2_with fail
            go_roundw
            case rel => exact ⟨k + 1, N, K, la, oa, lc, oc, by go_num, by omega, by omega, by omega, rfl, rfl, Lib.hid ⟨_, _, _, _, _, HKO.out, HSX.out⟩⟩
            case measure => simp [intOf]; omega
          · have y5 : ((K : Int) == 0) = false := by rw [beq_eq_false_iff_ne]; omega
            obtain ⟨O', kk, hOe⟩ := snoc_of (l := O) (by intro e; have := HKO.out; rw [e] at this; simp at this; omega)
            have hKj : K = O'.length + 1 := by have := HKO.out; rw [hOe, List.length_append] at this; simpa using this.symm
            have hst := HS1.out
            have h1 := hst.b.open_
            have h2 := hst.o
            rw [HKO.out] at h1 h2
            obtain ⟨og2, cp2, hv2, _, _⟩ := h1.form (by omega)
            obtain ⟨og, cp, hv, _, _⟩ := h2.form (by omega)
            injection hv2 with hv21 _ hv23
            injection hv with hv1 _ hv3
            subst hv21; subst hv23; subst hv1; subst hv3
            rw [hOe, hKj] at hst
            have hq1 := (owns_pop hst.b.open_).2
            have hq2 := (owns_pop hst.o).2
            have hst2 := hst.popB.popQ
            obtain ⟨j, hj⟩ : ∃ j, O'.length = j := ⟨_, rfl⟩
            rw [hj] at hst2 hKj hq1 hq2
            have C := Close_some P og2 K oc2 W1 (by omega) (by omega) (by omega) p1 pf
            rw [show K - 1 = j by omega] at C
            have HC := Lib.hid C
            have HS2 := Lib.hid hst2
            have HJ := Lib.hid hj
            have hw : IntKind.i64.wrap ((K : Int) - 1) = (j : Int) := by
              have e : (K : Int) - 1 = (j : Int) := by omega
              rw [e]; exact IntWalk.i64_in _ (by omega)
            have x1 : (0 : Int) ≤ (j : Int) := by omega
            have x2 : (j : Int) ≤ (oc : Int) := by omega
            have x3 : ¬ oc = 0 := by omega
            have x4 : j ≤ 63 := by omega
            clear C hst hst2 h1 h2 hOe hKj hq1 hq2 hj p1 pf hK0
            go_wp2_with fail
            refine HC.out.mono ?_
            rintro e w2 ⟨rfl, rfl⟩
            go_wp2_with fail
            go_roundw
            case rel => exact ⟨k + 1, N, j, la, some ⟨og, 0, none⟩, lc, oc, by go_num, by omega, by omega, by omega, rfl, rfl, Lib.hid ⟨_, _, _, _, O', HJ.out, HS2.out⟩⟩
            case measure => simp [intOf]; omega
    · by_cases hk1 : k < len
      · have z1 : (k : Int) < (len : Int) := by omega
        have z2 : ¬ (k : Int) < 300 := by omega
        clear hlt hk1
        obtain ⟨nv, ov, D, L, O, hKO, hst⟩ := HS.out
        obtain ⟨na, nc, rfl⟩ := row_slice hst.b.nodes
        obtain ⟨oa2, oc2, rfl⟩ := row_slice hst.b.open_
        rw [hKO] at hst
        have p0 : wr.cell? ⟨P, 0, none⟩ = some (.slice na N nc) := cell_of hst.b.box rfl
        have p1 : wr.cell? ⟨P, 1, none⟩ = some (.slice oa2 K oc2) := cell_of hst.b.box rfl
        have HST2 := Lib.hid hst
        have HKO := Lib.hid hKO
        have HBW := Lib.hid hst.b.bel
        by_cases hop : 0 < K ∨ (K = 0 ∧ N = 0)
        · have DN := Lib.hid (Done_open P na oa2 N nc K oc2 wr p0 p1 hop)
          clear HS hst hKO p0 p1
          by_cases hN0 : N = 0
          · have y1 : ((N : Int) == 0) = true := by rw [hN0]; rfl
            clear hN0 hop
            go_wp2_with fail
            refine DN.out.mono ?_
            rintro e w2 ⟨rfl, rfl⟩
            go_wp2_with fail
            refine (known4_any _).mono ?_
            rintro e w3 ⟨rfl, hb3⟩
            have HB3 := Lib.hid (HBW.out.trans (hb3.mono HBW.out.size))
            clear hb3
            go_wp2_with fail
            go_ret
            exact ⟨rfl, HB3.out⟩
          · have hK0 : 0 < K := by omega
            have y1 : ((N : Int) == 0) = false := by rw [beq_eq_false_iff_ne]; omega
            have y2 : (0 : Int) < (K : Int) := by omega
            clear hN0 hop
            go_wp2_with fail
            refine DN.out.mono ?_
            rintro e w2 ⟨rfl, rfl⟩
            go_wp2_with fail
            refine (known4_any _).mono ?_
            rintro e w3 ⟨rfl, hb3⟩
            have HB3 := Lib.hid (HBW.out.trans (hb3.mono HBW.out.size))
            clear hb3
            go_wp2_with fail
            go_ret
            exact ⟨rfl, HB3.out⟩
        · have hK0 : K = 0 := by omega
          have hN0 : 0 < N := by omega
          have hO0 : O = [] := List.eq_nil_of_length_eq_zero (by omega)
          obtain ⟨g1, cp1, hv1, _, hgl1⟩ := hst.b.nodes.form hN0
          injection hv1 with hv11 _ hv13
          subst hv11; subst hv13
          have hnat : NAt wr g1 0 N D := NAt.of hgl1 (ndcs_back hst.b.nodes) (fun i hi => (hst.b.all i hi).1)
          rw [hK0] at p1
          have DN := Lib.hid (Done_some P g1 N nc oc2 oa2 D wr hN0 (by omega) p0 p1 hnat (fun i hi => ⟨(hst.b.all i hi).2.1, (hst.b.all i hi).2.2.1⟩))
          have y1 : ((N : Int) == 0) = false := by rw [beq_eq_false_iff_ne]; omega
          have y2 : ¬ (0 : Int) < (K : Int) := by omega
          have HN0 := Lib.hid hN0
          obtain ⟨g2, hla, _⟩ : ∃ g2, la = some ⟨g2, 0, none⟩ ∧ True := by
            rcases hst.lap with q | ⟨g2, e, _⟩
            · omega
            · exact ⟨g2, e, trivial⟩
          subst hla
          clear HS hst hKO p0 p1 hnat hop hK0 hO0
          go_wp2_with fail
          refine DN.out.mono ?_
          rintro e w2 ⟨b, rfl, ⟨Bd, hB1, hB2⟩, hb2⟩
          have hl2 := HST2.out.l.below hb2
          have hnl : NAt w2 g2 0 N L := by
            rcases hl2 with q | ⟨b', off', e', hlt', hat'⟩
            · have := HN0.out; omega
            · injection e' with e'; injection e' with e1 e2 _; subst e1; subst e2; exact ⟨hlt', hat'⟩
          have SM := Lib.hid (Same_eq b 0 g2 0 N N lc Bd L w2 (by omega) hB1 hnl (fun i hi => by
            obtain ⟨q1, q2⟩ := hB2 i hi
            obtain ⟨q3, q4⟩ := HST2.out.eql i hi
            have q5 := HST2.out.b.all i hi
            refine ⟨⟨q3.tag.trans q1.tag.symm, q3.id.trans q1.id.symm, q3.tx.trans q1.tx.symm, q3.cl.trans q1.cl.symm, q3.al.trans q1.al.symm, fun j hj => ?_, fun j hj => ?_, fun j hj => ?_⟩, q4.trans q2.symm, by rw [q1.cl]; exact q5.2.1, by rw [q1.al]; exact q5.2.2.1⟩
            · rw [q1.cl] at hj; exact (q3.cs j hj).trans (q1.cs j hj).symm
            · rw [q1.al] at hj; exact (q3.an j hj).trans (q1.an j hj).symm
            · rw [q1.al] at hj; exact (q3.av j hj).trans (q1.av j hj).symm))
          have hck : checkS Bd N = 0 := by rw [checkS_eq D Bd N hB2]; exact HST2.out.inv.tree HN0.out (by omega)
          have CK := fun W (hW : Below w2.heap.size w2 W) => refCheck_any (some ⟨b, 0, none⟩) N N Bd W (hB1.nods.below hW)
          unfold ToldC at CK
          rw [hck] at CK
          have HCK := Lib.hid CK
          have HB2 := Lib.hid (HBW.out.trans (hb2.mono HBW.out.size))
          clear hl2 hnl hck CK hB1 hB2 hb2
          go_wp2_with fail
          refine SM.out.mono ?_
          rintro e w3 ⟨rfl, hb3⟩
          have HX3 := Lib.hid hb3
          have HB3 := Lib.hid (HB2.out.trans (hb3.mono HB2.out.size))
          clear hb3
          go_wp2_with fail
          refine (HCK.out _ HX3.out).mono ?_
          rintro e w4 ⟨rfl, hb4⟩
          have HB4 := Lib.hid (HB3.out.trans (hb4.mono HB3.out.size))
          clear hb4
          go_wp2_with fail
          refine (known4_any _).mono ?_
          rintro e w5 ⟨rfl, hb5⟩
          have HB5 := Lib.hid (HB4.out.trans (hb5.mono HB4.out.size))
          clear hb5
          go_wp2_with fail
          go_ret
          exact ⟨rfl, HB5.out⟩
      · have z1 : ¬ (k : Int) < (len : Int) := by omega
        clear hlt hk1
        obtain ⟨nv, ov, D, L, O, hKO, hst⟩ := HS.out
        obtain ⟨na, nc, rfl⟩ := row_slice hst.b.nodes
        obtain ⟨oa2, oc2, rfl⟩ := row_slice hst.b.open_
        rw [hKO] at hst
        have p0 : wr.cell? ⟨P, 0, none⟩ = some (.slice na N nc) := cell_of hst.b.box rfl
        have p1 : wr.cell? ⟨P, 1, none⟩ = some (.slice oa2 K oc2) := cell_of hst.b.box rfl
        have HST2 := Lib.hid hst
        have HKO := Lib.hid hKO
        have HBW := Lib.hid hst.b.bel
        by_cases hop : 0 < K ∨ (K = 0 ∧ N = 0)
        · have DN := Lib.hid (Done_open P na oa2 N nc K oc2 wr p0 p1 hop)
          clear HS hst hKO p0 p1
          by_cases hN0 : N = 0
          · have y1 : ((N : Int) == 0) = true := by rw [hN0]; rfl
            clear hN0 hop
            go_wp2_with fail
            refine DN.out.mono ?_
            rintro e w2 ⟨rfl, rfl⟩
            go_wp2_with fail
            refine (known4_any _).mono ?_
            rintro e w3 ⟨rfl, hb3⟩
            have HB3 := Lib.hid (HBW.out.trans (hb3.mono HBW.out.size))
            clear hb3
            go_wp2_with fail
            go_ret
            exact ⟨rfl, HB3.out⟩
          · have hK0 : 0 < K := by omega
            have y1 : ((N : Int) == 0) = false := by rw [beq_eq_false_iff_ne]; omega
            have y2 : (0 : Int) < (K : Int) := by omega
            clear hN0 hop
            go_wp2_with fail
            refine DN.out.mono ?_
            rintro e w2 ⟨rfl, rfl⟩
            go_wp2_with fail
            refine (known4_any _).mono ?_
            rintro e w3 ⟨rfl, hb3⟩
            have HB3 := Lib.hid (HBW.out.trans (hb3.mono HBW.out.size))
            clear hb3
            go_wp2_with fail
            go_ret
            exact ⟨rfl, HB3.out⟩
        · have hK0 : K = 0 := by omega
          have hN0 : 0 < N := by omega
          have hO0 : O = [] := List.eq_nil_of_length_eq_zero (by omega)
          obtain ⟨g1, cp1, hv1, _, hgl1⟩ := hst.b.nodes.form hN0
          injection hv1 with hv11 _ hv13
          subst hv11; subst hv13
          have hnat : NAt wr g1 0 N D := NAt.of hgl1 (ndcs_back hst.b.nodes) (fun i hi => (hst.b.all i hi).1)
          rw [hK0] at p1
          have DN := Lib.hid (Done_some P g1 N nc oc2 oa2 D wr hN0 (by omega) p0 p1 hnat (fun i hi => ⟨(hst.b.all i hi).2.1, (hst.b.all i hi).2.2.1⟩))
          have y1 : ((N : Int) == 0) = false := by rw [beq_eq_false_iff_ne]; omega
          have y2 : ¬ (0 : Int) < (K : Int) := by omega
          have HN0 := Lib.hid hN0
          obtain ⟨g2, hla, _⟩ : ∃ g2, la = some ⟨g2, 0, none⟩ ∧ True := by
            rcases hst.lap with q | ⟨g2, e, _⟩
            · omega
            · exact ⟨g2, e, trivial⟩
          subst hla
          clear HS hst hKO p0 p1 hnat hop hK0 hO0
          go_wp2_with fail
          refine DN.out.mono ?_
          rintro e w2 ⟨b, rfl, ⟨Bd, hB1, hB2⟩, hb2⟩
          have hl2 := HST2.out.l.below hb2
          have hnl : NAt w2 g2 0 N L := by
            rcases hl2 with q | ⟨b', off', e', hlt', hat'⟩
            · have := HN0.out; omega
            · injection e' with e'; injection e' with e1 e2 _; subst e1; subst e2; exact ⟨hlt', hat'⟩
          have SM := Lib.hid (Same_eq b 0 g2 0 N N lc Bd L w2 (by omega) hB1 hnl (fun i hi => by
            obtain ⟨q1, q2⟩ := hB2 i hi
            obtain ⟨q3, q4⟩ := HST2.out.eql i hi
            have q5 := HST2.out.b.all i hi
            refine ⟨⟨q3.tag.trans q1.tag.symm, q3.id.trans q1.id.symm, q3.tx.trans q1.tx.symm, q3.cl.trans q1.cl.symm, q3.al.trans q1.al.symm, fun j hj => ?_, fun j hj => ?_, fun j hj => ?_⟩, q4.trans q2.symm, by rw [q1.cl]; exact q5.2.1, by rw [q1.al]; exact q5.2.2.1⟩
            · rw [q1.cl] at hj; exact (q3.cs j hj).trans (q1.cs j hj).symm
            · rw [q1.al] at hj; exact (q3.an j hj).trans (q1.an j hj).symm
            · rw [q1.al] at hj; exact (q3.av j hj).trans (q1.av j hj).symm))
          have hck : checkS Bd N = 0 := by rw [checkS_eq D Bd N hB2]; exact HST2.out.inv.tree HN0.out (by omega)
          have CK := fun W (hW : Below w2.heap.size w2 W) => refCheck_any (some ⟨b, 0, none⟩) N N Bd W (hB1.nods.below hW)
          unfold ToldC at CK
          rw [hck] at CK
          have HCK := Lib.hid CK
          have HB2 := Lib.hid (HBW.out.trans (hb2.mono HBW.out.size))
          clear hl2 hnl hck CK hB1 hB2 hb2
          go_wp2_with fail
          refine SM.out.mono ?_
          rintro e w3 ⟨rfl, hb3⟩
          have HX3 := Lib.hid hb3
          have HB3 := Lib.hid (HB2.out.trans (hb3.mono HB2.out.size))
          clear hb3
          go_wp2_with fail
          refine (HCK.out _ HX3.out).mono ?_
          rintro e w4 ⟨rfl, hb4⟩
          have HB4 := Lib.hid (HB3.out.trans (hb4.mono HB3.out.size))
          clear hb4
          go_wp2_with fail
          refine (known4_any _).mono ?_
          rintro e w5 ⟨rfl, hb5⟩
          have HB5 := Lib.hid (HB4.out.trans (hb5.mono HB4.out.size))
          clear hb5
          go_wp2_with fail
          go_ret
          exact ⟨rfl, HB5.out⟩
end Go.Proofs.Ytlnglpjmfoigmaa
