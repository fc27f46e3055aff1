/- Layer 4: put. -/
import Derived.Test.YtlnglpjmfoigmaaTreV
import Derived.Deep.RegionLawGrows
import Derived.Deep.AppendLies
import Derived.Deep.DeepCutAuto
namespace Go.Proofs.Ytlnglpjmfoigmaa
open Go.RowKit TreN TreP
set_option linter.unusedVariables false

/-- the number that a new node is told -/
def lastO (O : List Nat) : Int := match O.getLast? with | none => -1 | some k => (k : Int)
theorem Six.inside {w x : World} {b o : Nat} {n0 n1 n2 n3 n4 n5 : Value} (h : Six w x b o n0 n1 n2 n3 n4 n5) {n : Nd} (hn : NdIn w n) (h1 : ∀ g off, n.ca = some ⟨g, off, none⟩ → n.cl ≠ 0 → g ≠ b) (h2 : ∀ g off, n.aa = some ⟨g, off, none⟩ → n.al ≠ 0 → g ≠ b) : NdIn x n := by
  refine hn.moved (by rw [h.size]; exact Nat.le_refl _) ?_ ?_
  · by_cases hz : n.cl = 0
    · exact Or.inl hz
    · rcases hn.hc with q | ⟨g, off, e, _⟩
      · exact absurd q hz
      · exact Or.inr ⟨g, off, e, fun k => h.other g k (Or.inl (h1 g off e hz))⟩
  · by_cases hz : n.al = 0
    · exact Or.inl hz
    · rcases hn.ha with q | ⟨g, off, e, _⟩
      · exact absurd q hz
      · exact Or.inr ⟨g, off, e, fun k => h.other g k (Or.inl (h2 g off e hz))⟩

theorem grown_box {w0 w4 w5 : World} {P : Nat} {nv ov : Value} {D : Nat → Nd} {N : Nat} {O : List Nat} (h : BdAt w0 w4 P nv ov D N O) (hgrow : w4.grownBy w5 nv.ownBlock) : w5.heap[P]? = some (.cells #[nv, ov] 65 (0, 0)) := by
  have hP : P < w4.heap.size := by
    obtain ⟨hlt, _⟩ := Array.getElem?_eq_some_iff.1 h.box
    exact hlt
  rw [hgrow.block P hP (fun e => by have := (own_lt h.nodes e.symm).1; omega)]; exact h.box
theorem grown_boxO {w0 w4 w5 : World} {P : Nat} {nv ov : Value} {D : Nat → Nd} {N : Nat} {O : List Nat} (h : BdAt w0 w4 P nv ov D N O) (hgrow : w4.grownBy w5 ov.ownBlock) : w5.heap[P]? = some (.cells #[nv, ov] 65 (0, 0)) := by
  have hP : P < w4.heap.size := by
    obtain ⟨hlt, _⟩ := Array.getElem?_eq_some_iff.1 h.box
    exact hlt
  rw [hgrow.block P hP (fun e => by have := (own_lt h.open_ e.symm).1; omega)]; exact h.box

set_option maxRecDepth 100000 in
set_option maxHeartbeats 4000000 in
theorem put_ok (w0 w : World) (P : Nat) (na oa : Option Addr) (nc oc K : Nat) (D : Nat → Nd) (N : Nat) (O : List Nat) (n : Nd) (hK : O.length = K) (h : BdAt w0 w P (.slice na N nc) (.slice oa K oc) D N O) (hN : N ≤ 1000) (hO : K < 64) (hn : NdIn w n) (h8 : n.cl ≤ 8) (h8' : n.al ≤ 8) :
    Calls Try.prog 57 #[.pointer (some ⟨P, 0, none⟩), .agg n.val] w fun e w' => e = .returned (.int .i64 0) ∧ ∃ x nv', Eqn n x ∧ x.par = lastO O ∧ (Up w.heap.size x.ca x.cl ∧ Up w.heap.size x.aa x.al) ∧ BdAt w0 w' P nv' (.slice oa K oc) (putS D N x) (N + 1) O ∧ Own w (.slice na N nc) nv' ∧ Fr w w' P (.slice na N nc) (.slice oa K oc) := by
  obtain ⟨i0, hi0, hz0, hz1, hz2⟩ := info_parts info_node
  have hPw : P < w.heap.size := by
    obtain ⟨hlt, _⟩ := Array.getElem?_eq_some_iff.1 h.box
    exact hlt
  have hb1 : Below w.heap.size w (boxed w n) := boxed_below w n
  have hs1 : (boxed w n).heap.size = w.heap.size + 1 := by unfold boxed; simp
  have hG : (boxed w n).heap[w.heap.size]? = some (.cells #[.int .i64 n.par, .string n.tag, .string n.id, .slice n.ca n.cl n.cc, .slice n.aa n.al n.ac, .string n.tx] 39 (0, 0)) := heap_alloc_new w _
  have hC := clone_any n (boxed w n) (hn.below hb1) h8 h8'
  have h1 := h.keep hb1
  have hbx : w.alloc (.cells #[.int .i64 n.par, .string n.tag, .string n.id, .slice n.ca n.cl n.cc, .slice n.aa n.al n.ac, .string n.tx] 39) = boxed w n := rfl
  rw [Nd.val_eq] at hC ⊢
  obtain ⟨G, hGe⟩ : ∃ G, w.heap.size = G := ⟨_, rfl⟩
  generalize boxed w n = W1 at *
  rw [hGe] at hG hs1 hPw
  have g0 := cell_of (k := 0) hG rfl
  have g1 := cell_of (k := 1) hG rfl
  have g2 := cell_of (k := 2) hG rfl
  have g3 := cell_of (k := 3) hG rfl
  have g4 := cell_of (k := 4) hG rfl
  have g5 := cell_of (k := 5) hG rfl
  have p0 : W1.cell? ⟨P, 0, none⟩ = some (.slice na N nc) := cell_of h1.box rfl
  have p1 : W1.cell? ⟨P, 1, none⟩ = some (.slice oa K oc) := cell_of h1.box rfl
  have HB := Lib.hid h
  have HC := Lib.hid hC
  have HG := Lib.hid hG
  have HE := Lib.hid hGe
  have HS1 := Lib.hid hs1
  have HB1 := Lib.hid hb1
  have HKO := Lib.hid hK
  have hnz1 : ¬ (1024 : Int) ≤ (N : Int) := by omega
  have hnz2 : (N : Int) < 1024 := by omega
  have hkz1 : ¬ (64 : Int) ≤ (K : Int) := by omega
  have hkz2 : (K : Int) < 64 := by omega
  clear h hC hG hs1 hb1 h1 hK hn
  go_enter Try.func57, Try.ntmps57
  go_wp2_with fail
  refine HC.out.mono ?_
  rintro e w2 ⟨B, rfl, hEq, hpar, hB, hU1, hU2, hB2⟩
  rw [Nd.val_eq]
  have hs2 := hB2.size
  have hGW : G < W1.heap.size := by have := HS1.out; omega
  have hG2 := (hB2.block G hGW).trans HG.out
  have hsix : ∀ j, j < 6 → ∃ v, w2.cell? ⟨G, 0 + j, none⟩ = some v := by
    intro j hj
    rcases j with _ | _ | _ | _ | _ | _ | j
    · exact ⟨_, cell_of hG2 rfl⟩
    · exact ⟨_, cell_of hG2 rfl⟩
    · exact ⟨_, cell_of hG2 rfl⟩
    · exact ⟨_, cell_of hG2 rfl⟩
    · exact ⟨_, cell_of hG2 rfl⟩
    · exact ⟨_, cell_of hG2 rfl⟩
    · omega
  obtain ⟨x1, x2, x3, x4, x5, x6, v0, v1, v2, v3, v4, v5, s0, s1, s2, s3, s4, s5, h6⟩ := six_store w2 G 0 (.int .i64 B.par) (.string B.tag) (.string B.id) (.slice B.ca B.cl B.cc) (.slice B.aa B.al B.ac) (.string B.tx) hsix (fun j _ => unfrozen_of hG2)
  simp only [Nat.zero_add] at s1 s2 s3 s4 s5
  obtain ⟨e0, q0, r0⟩ := s0
  obtain ⟨e1, q1, r1⟩ := s1
  obtain ⟨e2, q2, r2⟩ := s2
  obtain ⟨e3, q3, r3⟩ := s3
  obtain ⟨e4, q4, r4⟩ := s4
  obtain ⟨e5, q5, r5⟩ := s5
  have hB1w2 : BdAt w0 w2 P (.slice na N nc) (.slice oa K oc) D N O := (HB.out.keep HB1.out).keep hB2
  have hPG : P ≠ G := by omega
  -- the parent, told anew
  have t0 := h6.h0
  have tf : x6.frozen? ⟨G, 0, none⟩ = false := (h6.froz _).trans (unfrozen_of hG2)
  obtain ⟨x7, r7⟩ : ∃ y, x6.setCell ⟨G, 0, none⟩ (.int .i64 (-1)) = y := ⟨_, rfl⟩
  have h7 : Six w2 x7 G 0 (.int .i64 (-1)) (.string B.tag) (.string B.id) (.slice B.ca B.cl B.cc) (.slice B.aa B.al B.ac) (.string B.tx) := by rw [← r7]; exact h6.reset _
  have u1 : x7.cell? ⟨P, 1, none⟩ = some (.slice oa K oc) := (h7.other P 1 (Or.inl hPG)).trans (cell_of hB1w2.box rfl)
  have u0 := h7.h0
  have uf : x7.frozen? ⟨G, 0, none⟩ = false := (h7.froz _).trans (unfrozen_of hG2)
  have H7 := Lib.hid h7
  have HBW2 := Lib.hid hB1w2
  have HEQ := Lib.hid hEq
  have HBI := Lib.hid (And.intro hB (And.intro hU1 (And.intro hU2 hB2)))
  clear hsix h6 h7 hB1w2 hEq hB hU1 hU2 hB2 hpar g0 g1 g2 g3 g4 g5 p0 p1 hbx hs2 hGW hG2
  go_upto_if 27 with fail
  go_cut [] (fun wx => Hid (Six w2 wx G 0 (.int .i64 (lastO O)) (.string B.tag) (.string B.id) (.slice B.ca B.cl B.cc) (.slice B.aa B.al B.ac) (.string B.tx)))
  case first =>
    by_cases hk0 : K = 0
    · have hO0 : O = [] := List.eq_nil_of_length_eq_zero (by rw [HKO.out]; exact hk0)
      have HX : Hid (Six w2 x7 G 0 (.int .i64 (lastO O)) (.string B.tag) (.string B.id) (.slice B.ca B.cl B.cc) (.slice B.aa B.al B.ac) (.string B.tx)) := Lib.hid (by rw [hO0]; exact H7.out)
      have hkz : ¬ (0 : Int) < (K : Int) := by omega
      subst hk0
      clear hO0
      go_wp2_with fail
      go_meet
      exact HX
    · obtain ⟨j, hj⟩ : ∃ j, K = j + 1 := ⟨K - 1, by omega⟩
      have hkz : (0 : Int) < (K : Int) := by omega
      have hkd : decide (0 < K) = true := by simp; omega
      obtain ⟨og, oc', hov, hog1, hog2⟩ : ∃ og oc', Value.slice oa K oc = .slice (some ⟨og, 0, none⟩) K oc' ∧ P + 1 ≤ og ∧ og < w.heap.size := by
        have := HB.out.open_
        rw [HKO.out] at this
        obtain ⟨g, cap, hv, hg, hgl⟩ := this.form (by omega)
        exact ⟨g, cap, hv, hg, hgl⟩
      injection hov with hov1 _ hov3
      subst hov1; subst hov3
      have hjO : j < O.length := by have := HKO.out; omega
      obtain ⟨kk, hkk⟩ : ∃ kk, O[j] = kk := ⟨_, rfl⟩
      have hlast : lastO O = (kk : Int) := by
        unfold lastO
        rw [List.getLast?_eq_getElem?, show O.length - 1 = j by have := HKO.out; omega, List.getElem?_eq_getElem hjO, hkk]
      have hcell : x7.cell? ⟨og, j, none⟩ = some (.int .i64 (kk : Int)) := by
        have ho := HBW2.out.open_
        rw [HKO.out] at ho
        rw [H7.out.other og j (Or.inl (by have := HE.out; omega)), ho.cellAt j (by omega)]
        unfold ins
        rw [List.getElem?_map, List.getElem?_eq_getElem hjO, hkk]; rfl
      have HX : Hid (Six w2 (x7.setCell ⟨G, 0, none⟩ (.int .i64 (kk : Int))) G 0 (.int .i64 (lastO O)) (.string B.tag) (.string B.id) (.slice B.ca B.cl B.cc) (.slice B.aa B.al B.ac) (.string B.tx)) := Lib.hid (by rw [hlast]; exact H7.out.reset _)
      have hw : IntKind.i64.wrap ((K : Int) - 1) = (j : Int) := by
        have e : (K : Int) - 1 = (j : Int) := by omega
        rw [e]; exact IntWalk.i64_in _ (by omega)
      have hy1 : ¬ (j : Int) < 0 := by omega
      have hy2 : (j : Int) < (K : Int) := by omega
      have hy3 : (0 : Int) ≤ (j : Int) := by omega
      have hy4 : j < K := by omega
      clear hj hjO hkk hlast hk0 hog1 hog2
      go_wp2_with fail
      go_meet
      exact HX
  case rest =>
    have HS := Lib.hid hcut
    have hbw : Below w.heap.size w w2 := HB1.out.trans (HBI.out.2.2.2.mono HB1.out.size)
    have hbc : Below w.heap.size w wc := hcut.out.below _ _ (by rw [HE.out]; exact Nat.le_refl _) hbw
    have hbd := HB.out.keep hbc
    have hcs : wc.heap.size = w2.heap.size := hcut.out.size
    have hBin : NdIn wc B := hcut.out.inside HBI.out.1 (fun g off e hz => by
      rcases HBI.out.2.1 with q | ⟨g', off', e', hg⟩
      · exact absurd q hz
      · rw [e] at e'; injection e' with e'; injection e' with e1 _; have := HS1.out; omega) (fun g off e hz => by
      rcases HBI.out.2.2.1 with q | ⟨g', off', e', hg⟩
      · exact absurd q hz
      · rw [e] at e'; injection e' with e'; injection e' with e1 _; have := HS1.out; omega)
    have upx : ∀ (a : Option Addr) (m : Nat), Up W1.heap.size a m → Upx (P + 1) (.slice na N nc) (.slice oa K oc) a m := fun a m hu => by
      rcases hu with q | ⟨g, off, e, hg⟩
      · exact Or.inl q
      · refine Or.inr ⟨g, off, e, by have := HS1.out; omega, fun hq => ?_, fun hq => ?_⟩
        · have := (own_lt HB.out.nodes hq).2; have := HS1.out; have := HE.out; omega
        · have := (own_lt HB.out.open_ hq).2; have := HS1.out; have := HE.out; omega
    have hok : NdOk wc (P + 1) (.slice na N nc) (.slice oa K oc) (B.withP (lastO O)) := ⟨hBin.withP' _, by show B.cl ≤ 8; rw [HEQ.out.cl]; exact h8, by show B.al ≤ 8; rw [HEQ.out.al]; exact h8', upx _ _ HBI.out.2.1, upx _ _ HBI.out.2.2.1⟩
    have p0 : wc.cell? ⟨P, 0, none⟩ = some (.slice na N nc) := cell_of hbd.box rfl
    have pf : wc.frozen? ⟨P, 0, none⟩ = false := unfrozen_of hbd.box
    have g0 : wc.cell? ⟨G, 0, none⟩ = some (.int .i64 (lastO O)) := hcut.out.h0
    have g1 : wc.cell? ⟨G, 1, none⟩ = some (.string B.tag) := hcut.out.h1
    have g2 : wc.cell? ⟨G, 2, none⟩ = some (.string B.id) := hcut.out.h2
    have g3 : wc.cell? ⟨G, 3, none⟩ = some (.slice B.ca B.cl B.cc) := hcut.out.h3
    have g4 : wc.cell? ⟨G, 4, none⟩ = some (.slice B.aa B.al B.ac) := hcut.out.h4
    have g5 : wc.cell? ⟨G, 5, none⟩ = some (.string B.tx) := hcut.out.h5
    have hPc : P < wc.heap.size := by have := hbc.size; have := HE.out; omega
    have hGc : G < wc.heap.size := by have := hbw.size; have := HBI.out.2.2.2.size; have := HS1.out; omega
    have hown := hbd.nodes
    have HBD := Lib.hid hbd
    have HOK := Lib.hid hok
    have HBC := Lib.hid hbc
    have p3 : ∀ ob, (wc.alloc ob).cell? ⟨P, 0, none⟩ = some (.slice na N nc) := fun ob => (((Below.refl wc.heap.size wc).alloc (Nat.le_refl _) ob).cell (World.block_lt_of_cell? _ _ p0)).trans p0
    have hbase : P + 1 ≤ wc.heap.size := hPc
    clear hbd hok upx hBin hbc hbw hcut H7 HBW2 t0 tf u0 u1 uf r7 r0 r1 r2 r3 r4 r5 q0 q1 q2 q3 q4 q5 e0 e1 e2 e3 e4 e5
    have HBA : Hid (BdAt w0 (wc.alloc (.cells #[.int .i64 (lastO O), .string B.tag, .string B.id, .slice B.ca B.cl B.cc, .slice B.aa B.al B.ac, .string B.tx] 39)).drew P (.slice na N nc) (.slice oa K oc) D N O) := Lib.hid (HBD.out.keep (((Below.refl _ _).alloc (Nat.le_refl _) _).drew))
    go_upto_region 10 with fail
    go_region_law (refine step_append_lies _ rfl (.tmp 41) (.tmp 43) 24 rfl (P + 1) 39 i0 _ 6 104 und_nodes hi0 hz0 hz1 hz2 rfl (by decide) (.slice na N nc) N (ndcs D N) (by simp [Act.eval]) (hown.alloc _) ⟨wc.heap.size, 0, none⟩ 1 1 [.int .i64 (lastO O), .string B.tag, .string B.id, .slice B.ca B.cl B.cc, .slice B.aa B.al B.ac, .string B.tx] (by simp [Act.eval]) rfl (World.news_of_block (heap_alloc_new wc _)) (by intro u hu; simp only [List.mem_cons, List.not_mem_nil, or_false] at hu; rcases hu with rfl | rfl | rfl | rfl | rfl | rfl <;> rfl) (by decide) (by unfold maxLen; omega) (by omega) (by simp; omega) _ rfl ?_; intro g cp w5 hown5 hgrow hgn hglt; have q0 : w5.heap[P]? = some (.cells #[.slice na N nc, .slice oa K oc] 65 (0, 0)) := grown_box HBA.out hgrow; have q1 : w5.cell? ⟨P, 0, none⟩ = some (.slice na N nc) := cell_of q0 rfl; have q2 : w5.frozen? ⟨P, 0, none⟩ = false := unfrozen_of q0; have G5 := Lib.hid (And.intro hown5 (And.intro hgrow hgn)); clear hown5 hgrow hgn hglt q0)
    all_goals
      go_wp2_with fail
      go_ret
      obtain ⟨r1, r2, r3⟩ := G5.out
      have r1' : w5.ownsRow (P + 1) 39 6 (.slice (some ⟨g, 0, none⟩) (N + 1) cp) (N + 1) (ndcs (putS D N (B.withP (lastO O))) (N + 1)) := by
        rw [← put_succ]; exact r1
      refine ⟨rfl, B.withP (lastO O), .slice (some ⟨g, 0, none⟩) (N + 1) cp, ⟨HEQ.out.tag, HEQ.out.id, HEQ.out.tx, HEQ.out.cl, HEQ.out.al, HEQ.out.cs, HEQ.out.an, HEQ.out.av⟩, rfl, ⟨HBI.out.2.1.mono (by have := HS1.out; have := HE.out; omega), HBI.out.2.2.1.mono (by have := HS1.out; have := HE.out; omega)⟩, HBA.out.pushN (HOK.out.below (((Below.refl _ _).alloc (Nat.le_refl _) _).drew)) r2 r1' (r3.imp id (fun h => by rw [h]; exact Nat.le_refl _)), fun q hq => ?_, ?_⟩
      · have hq : g = q := Option.some.inj hq
        subst hq
        rcases r3 with h | h
        · exact Or.inl h
        · right
          rw [h]
          show w.heap.size ≤ (wc.alloc _).heap.size
          have := HBC.out.size
          simp; omega
      · have hsz : wc.heap.size ≤ (wc.alloc (.cells #[.int .i64 (lastO O), .string B.tag, .string B.id, .slice B.ca B.cl B.cc, .slice B.aa B.al B.ac, .string B.tx] 39)).drew.heap.size := (((Below.refl _ _).alloc (Nat.le_refl _) _).drew : Below wc.heap.size wc _).size
        have hbz := HBC.out.size
        refine ⟨by rw [setCell_size]; have := r2.size; omega, fun q hq q1 q2 q3 => ?_⟩
        rw [setCell_there _ (by show q ≠ P; exact q1), r2.block q (by omega) (fun e => q2 e.symm)]
        rw [(((Below.refl _ _).alloc (Nat.le_refl _) _).drew : Below wc.heap.size wc _).block q (by omega)]
        exact HBC.out.block q hq
end Go.Proofs.Ytlnglpjmfoigmaa
