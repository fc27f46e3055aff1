/- Layer 4: put without room; Open and Words. -/
import Derived.Test.YtlnglpjmfoigmaaTreW22
import Derived.Test.YtlnglpjmfoigmaaTreW8
namespace Go.Proofs.Ytlnglpjmfoigmaa
open Go.RowKit TreN TreP
set_option linter.unusedVariables false

set_option maxRecDepth 100000 in
set_option maxHeartbeats 1000000 in
theorem put_full (w0 w : World) (P : Nat) (na oa : Option Addr) (nc oc K : Nat) (D : Nat → Nd) (N : Nat) (O : List Nat) (n : Nd) (h : BdAt w0 w P (.slice na N nc) (.slice oa K oc) D N O) (hN : N ≤ 1000) (hO : 64 ≤ K) (hK : K ≤ 1000) :
    Calls Try.prog 57 #[.pointer (some ⟨P, 0, none⟩), .agg n.val] w fun e w' => e = .returned (.int .i64 31) ∧ Below w.heap.size w w' := by
  have hb1 : Below w.heap.size w (boxed w n) := boxed_below w n
  have h1 := h.keep hb1
  have hbx : w.alloc (.cells #[.int .i64 n.par, .string n.tag, .string n.id, .slice n.ca n.cl n.cc, .slice n.aa n.al n.ac, .string n.tx] 39) = boxed w n := rfl
  rw [Nd.val_eq]
  generalize boxed w n = W1 at *
  have p0 : W1.cell? ⟨P, 0, none⟩ = some (.slice na N nc) := cell_of h1.box rfl
  have p1 : W1.cell? ⟨P, 1, none⟩ = some (.slice oa K oc) := cell_of h1.box rfl
  have HB1 := Lib.hid hb1
  have hnz1 : ¬ (1024 : Int) ≤ (N : Int) := by omega
  have hnz2 : (N : Int) < 1024 := by omega
  have hkz1 : (64 : Int) ≤ (K : Int) := by omega
  clear h h1 hb1
  go_enter Try.func57, Try.ntmps57
  go_wp2_with fail
  go_ret
  exact ⟨rfl, HB1.out⟩

theorem blk_keepV {W w2 : World} {b : Nat} {o : Obj} (hb : Below W.heap.size W w2) (h : W.heap[b]? = some o) : w2.heap[b]? = some o := by
  obtain ⟨hlt, _⟩ := Array.getElem?_eq_some_iff.1 h
  exact (hb.block b hlt).trans h

set_option maxRecDepth 100000 in
set_option maxHeartbeats 2000000 in
theorem Open_bad (w0 w : World) (P : Nat) (na oa : Option Addr) (nc oc K : Nat) (D : Nat → Nd) (N : Nat) (O : List Nat) (n : Nd) (h : BdAt w0 w P (.slice na N nc) (.slice oa K oc) D N O) (hN : N ≤ 1000) (hK : K ≤ 1000) (hn : NdIn w n) (hbad : (0 < N ∧ K = 0) ∨ emB n.tag = true ∨ rightB n = false) :
    Calls Try.prog 32 #[.pointer (some ⟨P, 0, none⟩), .agg n.val] w fun e w' => e = .returned (.int .i64 34) ∧ Below w.heap.size w w' := by
  have hb1 : Below w.heap.size w (boxed w n) := boxed_below w n
  have h1 := h.keep hb1
  have hG : (boxed w n).heap[w.heap.size]? = some (.cells #[.int .i64 n.par, .string n.tag, .string n.id, .slice n.ca n.cl n.cc, .slice n.aa n.al n.ac, .string n.tx] 39 (0, 0)) := heap_alloc_new w _
  have hbx : w.alloc (.cells #[.int .i64 n.par, .string n.tag, .string n.id, .slice n.ca n.cl n.cc, .slice n.aa n.al n.ac, .string n.tx] 39) = boxed w n := rfl
  have hE := fun W => element_any n W
  have hR := fun W (hW : Below w.heap.size w W) => right_any n W (hn.below hW)
  rw [Nd.val_eq] at hE hR ⊢
  obtain ⟨G, hGe⟩ : ∃ G, w.heap.size = G := ⟨_, rfl⟩
  generalize boxed w n = W1 at *
  rw [hGe] at hG
  have g0 := cell_of (k := 0) hG rfl
  have g1 := cell_of (k := 1) hG rfl
  have g2 := cell_of (k := 2) hG rfl
  have g3 := cell_of (k := 3) hG rfl
  have g4 := cell_of (k := 4) hG rfl
  have g5 := cell_of (k := 5) hG rfl
  have p0 : W1.cell? ⟨P, 0, none⟩ = some (.slice na N nc) := cell_of h1.box rfl
  have p1 : W1.cell? ⟨P, 1, none⟩ = some (.slice oa K oc) := cell_of h1.box rfl
  have HB := Lib.hid h
  have HG := Lib.hid hG
  have HB1 := Lib.hid hb1
  have HEE := Lib.hid hE
  have HRR := Lib.hid hR
  by_cases hcl : 0 < N ∧ K = 0
  · obtain ⟨c1, c2⟩ := hcl
    subst c2
    have hz1 : (0 : Int) < (N : Int) := by omega
    have hz2 : decide (0 < N) = true := by simp; omega
    clear h h1 hb1 hG hE hR hn hbad
    go_enter Try.func32, Try.ntmps32
    go_wp2_with fail
    go_ret
    exact ⟨rfl, HB1.out⟩
  · have hclosed : N = 0 ∨ 0 < K := by omega
    obtain ⟨te, hte⟩ : ∃ x, emB n.tag = x := ⟨_, rfl⟩
    obtain ⟨tr, htr⟩ : ∃ x, rightB n = x := ⟨_, rfl⟩
    rw [hte] at HEE
    rw [htr] at HRR
    have HBAD : Hid (te = true ∨ tr = false) := Lib.hid (by rw [← hte, ← htr]; rcases hbad with q | q; exact absurd q hcl; exact q)
    clear h h1 hb1 hG hE hR hn hbad hcl hte htr
    have fin : ∀ W : World, True := fun _ => trivial
    by_cases hN0 : N = 0
    · subst hN0
      clear fin hclosed
      go_enter Try.func32, Try.ntmps32
      go_wp2_with fail
      refine (HEE.out _).mono ?_
      rintro e w2 ⟨rfl, hb2⟩
      have HBX := Lib.hid hb2
      have HB2 := Lib.hid (HB1.out.trans (hb2.mono HB1.out.size))
      clear hb2 g0 g1 g2 g3 g4 g5
      have hG2 := blk_keepV HBX.out HG.out
      have g0 := cell_of (k := 0) hG2 rfl
      have g1 := cell_of (k := 1) hG2 rfl
      have g2 := cell_of (k := 2) hG2 rfl
      have g3 := cell_of (k := 3) hG2 rfl
      have g4 := cell_of (k := 4) hG2 rfl
      have g5 := cell_of (k := 5) hG2 rfl
      clear hG2
      cases te with
      | true =>
        go_wp2_with fail
        go_ret
        exact ⟨rfl, HB2.out⟩
      | false =>
        have htr : tr = false := by rcases HBAD.out with q | q; cases q; exact q
        subst htr
        go_wp2_with fail
        refine (HRR.out _ HB2.out).mono ?_
        rintro e w3 ⟨rfl, hb3⟩
        have HB3 := Lib.hid (HB2.out.trans (hb3.mono HB2.out.size))
        clear hb3
        go_wp2_with fail
        go_ret
        exact ⟨rfl, HB3.out⟩
    · have hK0 : 0 < K := by omega
      have hz1 : (0 : Int) < (N : Int) := by omega
      have hz2 : decide (0 < N) = true := by simp; omega
      have hz3 : ((K : Int) == 0) = false := by rw [beq_eq_false_iff_ne]; omega
      have hz4 : ¬ K = 0 := by omega
      clear fin hclosed
      go_enter Try.func32, Try.ntmps32
      go_wp2_with fail
      refine (HEE.out _).mono ?_
      rintro e w2 ⟨rfl, hb2⟩
      have HBX := Lib.hid hb2
      have HB2 := Lib.hid (HB1.out.trans (hb2.mono HB1.out.size))
      clear hb2 g0 g1 g2 g3 g4 g5
      have hG2 := blk_keepV HBX.out HG.out
      have g0 := cell_of (k := 0) hG2 rfl
      have g1 := cell_of (k := 1) hG2 rfl
      have g2 := cell_of (k := 2) hG2 rfl
      have g3 := cell_of (k := 3) hG2 rfl
      have g4 := cell_of (k := 4) hG2 rfl
      have g5 := cell_of (k := 5) hG2 rfl
      clear hG2
      cases te with
      | true =>
        go_wp2_with fail
        go_ret
        exact ⟨rfl, HB2.out⟩
      | false =>
        have htr : tr = false := by rcases HBAD.out with q | q; cases q; exact q
        subst htr
        go_wp2_with fail
        refine (HRR.out _ HB2.out).mono ?_
        rintro e w3 ⟨rfl, hb3⟩
        have HB3 := Lib.hid (HB2.out.trans (hb3.mono HB2.out.size))
        clear hb3
        go_wp2_with fail
        go_ret
        exact ⟨rfl, HB3.out⟩

set_option maxRecDepth 100000 in
set_option maxHeartbeats 2000000 in
theorem Open_full (w0 w : World) (P : Nat) (na oa : Option Addr) (nc oc K : Nat) (D : Nat → Nd) (N : Nat) (O : List Nat) (n : Nd) (h : BdAt w0 w P (.slice na N nc) (.slice oa K oc) D N O) (hN : N ≤ 1000) (hK : K ≤ 1000) (hO : 64 ≤ K) (hn : NdIn w n) (hte : emB n.tag = false) (htr : rightB n = true) :
    Calls Try.prog 32 #[.pointer (some ⟨P, 0, none⟩), .agg n.val] w fun e w' => e = .returned (.int .i64 31) ∧ Below w.heap.size w w' := by
  have hF := fun W (hW : Below w.heap.size w W) => put_full w0 W P na oa nc oc K D N O n (h.keep hW) hN hO hK
  rw [Nd.val_eq] at hF
  have hb1 : Below w.heap.size w (boxed w n) := boxed_below w n
  have h1 := h.keep hb1
  have hG : (boxed w n).heap[w.heap.size]? = some (.cells #[.int .i64 n.par, .string n.tag, .string n.id, .slice n.ca n.cl n.cc, .slice n.aa n.al n.ac, .string n.tx] 39 (0, 0)) := heap_alloc_new w _
  have hbx : w.alloc (.cells #[.int .i64 n.par, .string n.tag, .string n.id, .slice n.ca n.cl n.cc, .slice n.aa n.al n.ac, .string n.tx] 39) = boxed w n := rfl
  have hE := fun W => element_any n W
  have hR := fun W (hW : Below w.heap.size w W) => right_any n W (hn.below hW)
  rw [Nd.val_eq] at hE hR ⊢
  obtain ⟨G, hGe⟩ : ∃ G, w.heap.size = G := ⟨_, rfl⟩
  generalize boxed w n = W1 at *
  rw [hGe] at hG
  have g0 := cell_of (k := 0) hG rfl
  have g1 := cell_of (k := 1) hG rfl
  have g2 := cell_of (k := 2) hG rfl
  have g3 := cell_of (k := 3) hG rfl
  have g4 := cell_of (k := 4) hG rfl
  have g5 := cell_of (k := 5) hG rfl
  have p0 : W1.cell? ⟨P, 0, none⟩ = some (.slice na N nc) := cell_of h1.box rfl
  have p1 : W1.cell? ⟨P, 1, none⟩ = some (.slice oa K oc) := cell_of h1.box rfl
  have HB := Lib.hid h
  have HG := Lib.hid hG
  have HB1 := Lib.hid hb1
  have HEE := Lib.hid hE
  have HRR := Lib.hid hR
  rw [hte] at HEE
  rw [htr] at HRR
  have HFF := Lib.hid hF
  have hK0 : 0 < K := by omega
  have hz3 : ((K : Int) == 0) = false := by rw [beq_eq_false_iff_ne]; omega
  have hz4 : ¬ K = 0 := by omega
  clear h h1 hb1 hG hE hR hn hte htr hF
  by_cases hN0 : N = 0
  · subst hN0
    go_enter Try.func32, Try.ntmps32
    go_wp2_with fail
    refine (HEE.out _).mono ?_
    rintro e w2 ⟨rfl, hb2⟩
    have HBX := Lib.hid hb2
    have HB2 := Lib.hid (HB1.out.trans (hb2.mono HB1.out.size))
    clear hb2 g0 g1 g2 g3 g4 g5
    have hG2 := blk_keepV HBX.out HG.out
    have g0 := cell_of (k := 0) hG2 rfl
    have g1 := cell_of (k := 1) hG2 rfl
    have g2 := cell_of (k := 2) hG2 rfl
    have g3 := cell_of (k := 3) hG2 rfl
    have g4 := cell_of (k := 4) hG2 rfl
    have g5 := cell_of (k := 5) hG2 rfl
    clear hG2
    go_wp2_with fail
    refine (HRR.out _ HB2.out).mono ?_
    rintro e w3 ⟨rfl, hb3⟩
    have HB3 := Lib.hid (HB2.out.trans (hb3.mono HB2.out.size))
    have HBX := Lib.hid (HBX.out.trans (hb3.mono HBX.out.size))
    clear hb3 g0 g1 g2 g3 g4 g5
    have hG2 := blk_keepV HBX.out HG.out
    have g0 := cell_of (k := 0) hG2 rfl
    have g1 := cell_of (k := 1) hG2 rfl
    have g2 := cell_of (k := 2) hG2 rfl
    have g3 := cell_of (k := 3) hG2 rfl
    have g4 := cell_of (k := 4) hG2 rfl
    have g5 := cell_of (k := 5) hG2 rfl
    clear hG2
    go_wp2_with fail
    refine (HFF.out _ HB3.out).mono ?_
    rintro e w4 ⟨rfl, hb4⟩
    have HB4 := Lib.hid (HB3.out.trans (hb4.mono HB3.out.size))
    clear hb4
    go_wp2_with fail
    go_ret
    exact ⟨rfl, HB4.out⟩
  · have hz1 : (0 : Int) < (N : Int) := by omega
    have hz2 : decide (0 < N) = true := by simp; omega
    go_enter Try.func32, Try.ntmps32
    go_wp2_with fail
    refine (HEE.out _).mono ?_
    rintro e w2 ⟨rfl, hb2⟩
    have HBX := Lib.hid hb2
    have HB2 := Lib.hid (HB1.out.trans (hb2.mono HB1.out.size))
    clear hb2 g0 g1 g2 g3 g4 g5
    have hG2 := blk_keepV HBX.out HG.out
    have g0 := cell_of (k := 0) hG2 rfl
    have g1 := cell_of (k := 1) hG2 rfl
    have g2 := cell_of (k := 2) hG2 rfl
    have g3 := cell_of (k := 3) hG2 rfl
    have g4 := cell_of (k := 4) hG2 rfl
    have g5 := cell_of (k := 5) hG2 rfl
    clear hG2
    go_wp2_with fail
    refine (HRR.out _ HB2.out).mono ?_
    rintro e w3 ⟨rfl, hb3⟩
    have HB3 := Lib.hid (HB2.out.trans (hb3.mono HB2.out.size))
    have HBX := Lib.hid (HBX.out.trans (hb3.mono HBX.out.size))
    clear hb3 g0 g1 g2 g3 g4 g5
    have hG2 := blk_keepV HBX.out HG.out
    have g0 := cell_of (k := 0) hG2 rfl
    have g1 := cell_of (k := 1) hG2 rfl
    have g2 := cell_of (k := 2) hG2 rfl
    have g3 := cell_of (k := 3) hG2 rfl
    have g4 := cell_of (k := 4) hG2 rfl
    have g5 := cell_of (k := 5) hG2 rfl
    clear hG2
    go_wp2_with fail
    refine (HFF.out _ HB3.out).mono ?_
    rintro e w4 ⟨rfl, hb4⟩
    have HB4 := Lib.hid (HB3.out.trans (hb4.mono HB3.out.size))
    clear hb4
    go_wp2_with fail
    go_ret
    exact ⟨rfl, HB4.out⟩

theorem row_slice {w : World} {base : Nat} {E : TypeId} {size : Nat} {v : Value} {n : Nat} {xs : List Value} (h : w.ownsRow base E size v n xs) : ∃ a c, v = .slice a n c := by
  rcases h.2 with ⟨hv, h0⟩ | ⟨g, cap, cur, hv, _⟩
  · exact ⟨none, 0, by rw [hv, h0]⟩
  · exact ⟨_, cap, hv⟩
theorem info_int : (Try.prog.info? 3).map (fun i => (i.zero, i.size, i.bytes)) = some (some (.int .i64 0), 1, 8) := by kernel_rfl
theorem und_ints : Try.prog.underlying 30 = some (.slice 3) := by kernel_rfl

set_option maxRecDepth 100000 in
set_option maxHeartbeats 4000000 in
theorem Open_ok (w0 w : World) (P : Nat) (na oa : Option Addr) (nc oc K : Nat) (D : Nat → Nd) (N : Nat) (O : List Nat) (n : Nd) (hKO : O.length = K) (h : BdAt w0 w P (.slice na N nc) (.slice oa K oc) D N O) (hN : N ≤ 999) (hO : K < 64) (hcl : N = 0 ∨ 0 < K) (hn : NdIn w n) (h8 : n.cl ≤ 8) (h8' : n.al ≤ 8) (hte : emB n.tag = false) (htr : rightB n = true) :
    Calls Try.prog 32 #[.pointer (some ⟨P, 0, none⟩), .agg n.val] w fun e w' => e = .returned (.int .i64 0) ∧ ∃ x nv' ov', Eqn n x ∧ x.par = lastO O ∧ (Up w.heap.size x.ca x.cl ∧ Up w.heap.size x.aa x.al) ∧ BdAt w0 w' P nv' ov' (putS D N x) (N + 1) (O ++ [N]) ∧ Own w (.slice na N nc) nv' ∧ Own w (.slice oa K oc) ov' ∧ Fr w w' P (.slice na N nc) (.slice oa K oc) := by
  obtain ⟨j0, hj0, hy0, hy1, hy2⟩ := info_parts info_int
  have hF := fun W (hW : Below w.heap.size w W) => put_ok w0 W P na oa nc oc K D N O n hKO (h.keep hW) (by omega) hO (hn.below hW) h8 h8'
  rw [Nd.val_eq] at hF
  have hb1 : Below w.heap.size w (boxed w n) := boxed_below w n
  have h1 := h.keep hb1
  have hG : (boxed w n).heap[w.heap.size]? = some (.cells #[.int .i64 n.par, .string n.tag, .string n.id, .slice n.ca n.cl n.cc, .slice n.aa n.al n.ac, .string n.tx] 39 (0, 0)) := heap_alloc_new w _
  have hbx : w.alloc (.cells #[.int .i64 n.par, .string n.tag, .string n.id, .slice n.ca n.cl n.cc, .slice n.aa n.al n.ac, .string n.tx] 39) = boxed w n := rfl
  have hE := fun W => element_any n W
  have hR := fun W (hW : Below w.heap.size w W) => right_any n W (hn.below hW)
  rw [Nd.val_eq] at hE hR ⊢
  obtain ⟨G, hGe⟩ : ∃ G, w.heap.size = G := ⟨_, rfl⟩
  generalize boxed w n = W1 at *
  rw [hGe] at hG
  have g0 := cell_of (k := 0) hG rfl
  have g1 := cell_of (k := 1) hG rfl
  have g2 := cell_of (k := 2) hG rfl
  have g3 := cell_of (k := 3) hG rfl
  have g4 := cell_of (k := 4) hG rfl
  have g5 := cell_of (k := 5) hG rfl
  have p0 : W1.cell? ⟨P, 0, none⟩ = some (.slice na N nc) := cell_of h1.box rfl
  have p1 : W1.cell? ⟨P, 1, none⟩ = some (.slice oa K oc) := cell_of h1.box rfl
  have HB := Lib.hid h
  have HG := Lib.hid hG
  have HB1 := Lib.hid hb1
  have HEE := Lib.hid hE
  have HRR := Lib.hid hR
  rw [hte] at HEE
  rw [htr] at HRR
  have HFF := Lib.hid hF
  have HKO := Lib.hid hKO
  clear h h1 hb1 hG hE hR hn hte htr hF hKO h8 h8'
  by_cases hN0 : N = 0
  · have hz1 : ¬ (0 : Int) < (N : Int) := by omega
    have hz2 : decide (0 < N) = false := by simp; omega
    clear hcl hN0
    go_enter Try.func32, Try.ntmps32
    go_wp2_with fail
    refine (HEE.out _).mono ?_
    rintro e w2 ⟨rfl, hb2⟩
    have HBX := Lib.hid hb2
    have HB2 := Lib.hid (HB1.out.trans (hb2.mono HB1.out.size))
    clear hb2 g0 g1 g2 g3 g4 g5
    have hG2 := blk_keepV HBX.out HG.out
    have g0 := cell_of (k := 0) hG2 rfl
    have g1 := cell_of (k := 1) hG2 rfl
    have g2 := cell_of (k := 2) hG2 rfl
    have g3 := cell_of (k := 3) hG2 rfl
    have g4 := cell_of (k := 4) hG2 rfl
    have g5 := cell_of (k := 5) hG2 rfl
    clear hG2
    go_wp2_with fail
    refine (HRR.out _ HB2.out).mono ?_
    rintro e w3 ⟨rfl, hb3⟩
    have HB3 := Lib.hid (HB2.out.trans (hb3.mono HB2.out.size))
    have HBX := Lib.hid (HBX.out.trans (hb3.mono HBX.out.size))
    clear hb3 g0 g1 g2 g3 g4 g5
    have hG2 := blk_keepV HBX.out HG.out
    have g0 := cell_of (k := 0) hG2 rfl
    have g1 := cell_of (k := 1) hG2 rfl
    have g2 := cell_of (k := 2) hG2 rfl
    have g3 := cell_of (k := 3) hG2 rfl
    have g4 := cell_of (k := 4) hG2 rfl
    have g5 := cell_of (k := 5) hG2 rfl
    clear hG2
    go_wp2_with fail
    refine (HFF.out _ HB3.out).mono ?_
    rintro e w4 ⟨rfl, x, nv, hx1, hx2, hxu, hbd, hon, hfr⟩
    have HX := Lib.hid (And.intro hx1 hx2)
    obtain ⟨na4, nc4, rfl⟩ := row_slice hbd.nodes
    have HON := Lib.hid (And.intro hxu (And.intro hon hfr))
    have p0 : w4.cell? ⟨P, 0, none⟩ = some (.slice na4 (N + 1) nc4) := cell_of hbd.box rfl
    have p1 : w4.cell? ⟨P, 1, none⟩ = some (.slice oa K oc) := cell_of hbd.box rfl
    have pf : w4.frozen? ⟨P, 1, none⟩ = false := unfrozen_of hbd.box
    have hPc : P < w4.heap.size := World.block_lt_of_cell? _ _ p0
    have hown := hbd.open_
    rw [HKO.out] at hown
    have HBD := Lib.hid hbd
    have HBA : Hid (BdAt w0 (w4.alloc (.cells #[.int .i64 (N : Int)] 3)).drew P (.slice na4 (N + 1) nc4) (.slice oa K oc) (putS D N x) (N + 1) O) := Lib.hid (hbd.keep (((Below.refl _ _).alloc (Nat.le_refl _) _).drew))
    obtain ⟨M, hM⟩ : ∃ M, N + 1 = M := ⟨_, rfl⟩
    have hw : IntKind.i64.wrap ((M : Int) - 1) = (N : Int) := by
      have e : (M : Int) - 1 = (N : Int) := by omega
      rw [e]; exact IntWalk.i64_in _ (by omega)
    have HM := Lib.hid hM
    rw [hM] at p0
    have hbase : P + 1 ≤ w4.heap.size := hPc
    clear hx1 hx2 hxu hon hfr hbd hM g0 g1 g2 g3 g4 g5
    go_wp2_with fail
    go_region_law (refine step_append_lies _ rfl (.tmp 44) (.tmp 51) 30 rfl (P + 1) 3 j0 _ 1 8 und_ints hj0 hy0 hy1 hy2 rfl (by decide) (.slice oa K oc) K (ins O) (by simp [Act.eval]) (hown.alloc _) ⟨w4.heap.size, 0, none⟩ 1 1 [.int .i64 (N : Int)] (by simp [Act.eval]) rfl (World.news_of_block (heap_alloc_new w4 _)) (by intro u hu; simp only [List.mem_singleton] at hu; subst hu; rfl) (by decide) (by unfold maxLen; omega) (by omega) (by simp; omega) _ rfl ?_; intro g cp w5 hown5 hgrow hgn hglt; have q0 : w5.heap[P]? = some (.cells #[.slice na4 (N + 1) nc4, .slice oa K oc] 65 (0, 0)) := grown_boxO HBA.out hgrow; have q1 : w5.cell? ⟨P, 1, none⟩ = some (.slice oa K oc) := cell_of q0 rfl; have q2 : w5.frozen? ⟨P, 1, none⟩ = false := unfrozen_of q0; have G5 := Lib.hid (And.intro hown5 (And.intro hgrow hgn)); clear hown5 hgrow hgn hglt q0)
    all_goals
      go_wp2_with fail
      go_ret
      obtain ⟨r1, r2, r3⟩ := G5.out
      have r1' : w5.ownsRow (P + 1) 3 1 (.slice (some ⟨g, 0, none⟩) (O.length + 1) cp) (O.length + 1) (ins (O ++ [N])) := by
        rw [HKO.out]; unfold ins; rw [List.map_append]; exact r1
      have hfin := HBA.out.pushO r2 r1' (r3.imp id (fun h => by rw [h]; exact Nat.le_refl _))
      rw [HKO.out] at hfin
      obtain ⟨⟨hu1, hu2⟩, hon, hfr⟩ := HON.out
      have hs3 := HB3.out.size
      have hs4 := hfr.1
      have hfr2 : Fr w4 (w5.setCell ⟨P, 1, none⟩ (.slice (some ⟨g, 0, none⟩) (K + 1) cp)) P (.slice na4 (N + 1) nc4) (.slice oa K oc) := by
        have hbz : Below w4.heap.size w4 (w4.alloc (.cells #[.int .i64 (N : Int)] 3)).drew := ((Below.refl _ _).alloc (Nat.le_refl _) _).drew
        have hsz := hbz.size
        refine ⟨by rw [setCell_size]; have := r2.size; omega, fun q hq q1 q2 q3 => ?_⟩
        rw [setCell_there _ (by show q ≠ P; exact q1), r2.block q (by omega) (fun e => q3 e.symm)]
        exact hbz.block q hq
      have hon1 : Own w (.slice na N nc) (.slice na4 (N + 1) nc4) := fun q hq => by
        rcases hon q hq with h | h
        · exact Or.inl h
        · exact Or.inr (by omega)
      refine ⟨rfl, x, _, _, HX.out.1, HX.out.2, ⟨hu1.mono hs3, hu2.mono hs3⟩, hfin, hon1, fun q hq => ?_, ?_⟩
      · have hq : g = q := Option.some.inj hq
        subst hq
        rcases r3 with h | h
        · exact Or.inl h
        · right
          rw [h]
          show w.heap.size ≤ (w4.alloc _).heap.size
          simp; omega
      · exact ((Fr.of_below HB3.out P _ _).trans hfr (Own.refl _ _) (Own.refl _ _)).trans hfr2 hon1 (Own.refl _ _)
  · have hK0 : 0 < K := by omega
    have hz1 : (0 : Int) < (N : Int) := by omega
    have hz2 : decide (0 < N) = true := by simp; omega
    have hz3 : ((K : Int) == 0) = false := by rw [beq_eq_false_iff_ne]; omega
    have hz4 : ¬ K = 0 := by omega
    clear hcl
    go_enter Try.func32, Try.ntmps32
    go_wp2_with fail
    refine (HEE.out _).mono ?_
    rintro e w2 ⟨rfl, hb2⟩
    have HBX := Lib.hid hb2
    have HB2 := Lib.hid (HB1.out.trans (hb2.mono HB1.out.size))
    clear hb2 g0 g1 g2 g3 g4 g5
    have hG2 := blk_keepV HBX.out HG.out
    have g0 := cell_of (k := 0) hG2 rfl
    have g1 := cell_of (k := 1) hG2 rfl
    have g2 := cell_of (k := 2) hG2 rfl
    have g3 := cell_of (k := 3) hG2 rfl
    have g4 := cell_of (k := 4) hG2 rfl
    have g5 := cell_of (k := 5) hG2 rfl
    clear hG2
    go_wp2_with fail
    refine (HRR.out _ HB2.out).mono ?_
    rintro e w3 ⟨rfl, hb3⟩
    have HB3 := Lib.hid (HB2.out.trans (hb3.mono HB2.out.size))
    have HBX := Lib.hid (HBX.out.trans (hb3.mono HBX.out.size))
    clear hb3 g0 g1 g2 g3 g4 g5
    have hG2 := blk_keepV HBX.out HG.out
    have g0 := cell_of (k := 0) hG2 rfl
    have g1 := cell_of (k := 1) hG2 rfl
    have g2 := cell_of (k := 2) hG2 rfl
    have g3 := cell_of (k := 3) hG2 rfl
    have g4 := cell_of (k := 4) hG2 rfl
    have g5 := cell_of (k := 5) hG2 rfl
    clear hG2
    go_wp2_with fail
    refine (HFF.out _ HB3.out).mono ?_
    rintro e w4 ⟨rfl, x, nv, hx1, hx2, hxu, hbd, hon, hfr⟩
    have HX := Lib.hid (And.intro hx1 hx2)
    obtain ⟨na4, nc4, rfl⟩ := row_slice hbd.nodes
    have HON := Lib.hid (And.intro hxu (And.intro hon hfr))
    have p0 : w4.cell? ⟨P, 0, none⟩ = some (.slice na4 (N + 1) nc4) := cell_of hbd.box rfl
    have p1 : w4.cell? ⟨P, 1, none⟩ = some (.slice oa K oc) := cell_of hbd.box rfl
    have pf : w4.frozen? ⟨P, 1, none⟩ = false := unfrozen_of hbd.box
    have hPc : P < w4.heap.size := World.block_lt_of_cell? _ _ p0
    have hown := hbd.open_
    rw [HKO.out] at hown
    have HBD := Lib.hid hbd
    have HBA : Hid (BdAt w0 (w4.alloc (.cells #[.int .i64 (N : Int)] 3)).drew P (.slice na4 (N + 1) nc4) (.slice oa K oc) (putS D N x) (N + 1) O) := Lib.hid (hbd.keep (((Below.refl _ _).alloc (Nat.le_refl _) _).drew))
    obtain ⟨M, hM⟩ : ∃ M, N + 1 = M := ⟨_, rfl⟩
    have hw : IntKind.i64.wrap ((M : Int) - 1) = (N : Int) := by
      have e : (M : Int) - 1 = (N : Int) := by omega
      rw [e]; exact IntWalk.i64_in _ (by omega)
    have HM := Lib.hid hM
    rw [hM] at p0
    have hbase : P + 1 ≤ w4.heap.size := hPc
    clear hx1 hx2 hxu hon hfr hbd hM g0 g1 g2 g3 g4 g5
    go_wp2_with fail
    go_region_law (refine step_append_lies _ rfl (.tmp 44) (.tmp 51) 30 rfl (P + 1) 3 j0 _ 1 8 und_ints hj0 hy0 hy1 hy2 rfl (by decide) (.slice oa K oc) K (ins O) (by simp [Act.eval]) (hown.alloc _) ⟨w4.heap.size, 0, none⟩ 1 1 [.int .i64 (N : Int)] (by simp [Act.eval]) rfl (World.news_of_block (heap_alloc_new w4 _)) (by intro u hu; simp only [List.mem_singleton] at hu; subst hu; rfl) (by decide) (by unfold maxLen; omega) (by omega) (by simp; omega) _ rfl ?_; intro g cp w5 hown5 hgrow hgn hglt; have q0 : w5.heap[P]? = some (.cells #[.slice na4 (N + 1) nc4, .slice oa K oc] 65 (0, 0)) := grown_boxO HBA.out hgrow; have q1 : w5.cell? ⟨P, 1, none⟩ = some (.slice oa K oc) := cell_of q0 rfl; have q2 : w5.frozen? ⟨P, 1, none⟩ = false := unfrozen_of q0; have G5 := Lib.hid (And.intro hown5 (And.intro hgrow hgn)); clear hown5 hgrow hgn hglt q0)
    all_goals
      go_wp2_with fail
      go_ret
      obtain ⟨r1, r2, r3⟩ := G5.out
      have r1' : w5.ownsRow (P + 1) 3 1 (.slice (some ⟨g, 0, none⟩) (O.length + 1) cp) (O.length + 1) (ins (O ++ [N])) := by
        rw [HKO.out]; unfold ins; rw [List.map_append]; exact r1
      have hfin := HBA.out.pushO r2 r1' (r3.imp id (fun h => by rw [h]; exact Nat.le_refl _))
      rw [HKO.out] at hfin
      obtain ⟨⟨hu1, hu2⟩, hon, hfr⟩ := HON.out
      have hs3 := HB3.out.size
      have hs4 := hfr.1
      have hfr2 : Fr w4 (w5.setCell ⟨P, 1, none⟩ (.slice (some ⟨g, 0, none⟩) (K + 1) cp)) P (.slice na4 (N + 1) nc4) (.slice oa K oc) := by
        have hbz : Below w4.heap.size w4 (w4.alloc (.cells #[.int .i64 (N : Int)] 3)).drew := ((Below.refl _ _).alloc (Nat.le_refl _) _).drew
        have hsz := hbz.size
        refine ⟨by rw [setCell_size]; have := r2.size; omega, fun q hq q1 q2 q3 => ?_⟩
        rw [setCell_there _ (by show q ≠ P; exact q1), r2.block q (by omega) (fun e => q3 e.symm)]
        exact hbz.block q hq
      have hon1 : Own w (.slice na N nc) (.slice na4 (N + 1) nc4) := fun q hq => by
        rcases hon q hq with h | h
        · exact Or.inl h
        · exact Or.inr (by omega)
      refine ⟨rfl, x, _, _, HX.out.1, HX.out.2, ⟨hu1.mono hs3, hu2.mono hs3⟩, hfin, hon1, fun q hq => ?_, ?_⟩
      · have hq : g = q := Option.some.inj hq
        subst hq
        rcases r3 with h | h
        · exact Or.inl h
        · right
          rw [h]
          show w.heap.size ≤ (w4.alloc _).heap.size
          simp; omega
      · exact ((Fr.of_below HB3.out P _ _).trans hfr (Own.refl _ _) (Own.refl _ _)).trans hfr2 hon1 (Own.refl _ _)
end Go.Proofs.Ytlnglpjmfoigmaa
