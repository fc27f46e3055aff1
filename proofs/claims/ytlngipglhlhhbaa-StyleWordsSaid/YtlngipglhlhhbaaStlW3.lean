/- Layer 17: what a size comes to; what is told of a property. (Written by gen_stl3.py.) -/
import Derived.Test.YtlngipglhlhhbaaStlW2
import Derived.Test.YtlngipglhlhhbaaPropTkc
import Derived.Test.YtlngipglhlhhbaaPropFi
import Derived.Test.YtlngipglhlhhbaaVsA
namespace Go.Proofs.Ytlngipglhlhhbaa
open Go.RowKit TreN LexP FixP SynP ValP PropP FixM
set_option linter.unusedVariables false

/-- a block of its own that is answered: a size -/
structure Sz (w W : World) (R : Nat) (x y : Int) : Prop where
  r : W.heap[R]? = some (.cells #[.int .i64 x, .int .i64 y] 23 (0, 0))
  low : w.heap.size ≤ R
  bel : Below w.heap.size w W
theorem Sz.below {w W W' : World} {R : Nat} {x y : Int} (h : Sz w W R x y) (hb : Below W.heap.size W W') : Sz w W' R x y :=
  ⟨(hb.block _ (Array.getElem?_eq_some_iff.1 h.r).1).trans h.r, h.low, h.bel.trans (hb.mono h.bel.size)⟩
theorem Sz.cells {w W : World} {R : Nat} {x y : Int} (h : Sz w W R x y) : W.cell? ⟨R, 0, none⟩ = some (.int .i64 x) ∧ W.cell? ⟨R, 1, none⟩ = some (.int .i64 y) ∧ W.frozen? ⟨R, 0, none⟩ = false ∧ W.frozen? ⟨R, 1, none⟩ = false ∧ R < W.heap.size :=
  ⟨cell_of h.r rfl, cell_of h.r rfl, unfrozen_of h.r, unfrozen_of h.r, (Array.getElem?_eq_some_iff.1 h.r).1⟩
theorem Sz.set {w W : World} {R : Nat} {x y : Int} (h : Sz w W R x y) (x2 y2 : Int) : Sz w ((W.setCell ⟨R, 0, none⟩ (.int .i64 x2)).setCell ⟨R, 1, none⟩ (.int .i64 y2)) R x2 y2 :=
  ⟨heap_setCell_same _ R 1 _ _ (.int .i64 y2) (heap_setCell_same _ R 0 _ _ (.int .i64 x2) h.r), h.low, (h.bel.setCell (p := ⟨R, 0, none⟩) h.low _).setCell (p := ⟨R, 1, none⟩) h.low _⟩
theorem size_fin {w W : World} {R : Nat} {x y : Int} (h : Sz w W R x y) (f : Act) (hf : f.tmps[4]? = some (.pointer (some ⟨R, 0, none⟩))) (hd : f.defers = []) :
    bodyPost Try.prog Try.f27 (fun e w' => e = .returned (.agg #[.int .i64 x, .int .i64 y]) ∧ Below w.heap.size w w') .ret f W := by
  obtain ⟨y0, y1, _⟩ := h.cells
  exact bodyPost_ret (v := .agg #[.int .i64 x, .int .i64 y]) (by simp [results, Try.results27, go_sem, hf, y0, y1]) hd ⟨rfl, h.bel⟩
theorem two_allocs (w : World) (A : Array Value) (t : TypeId) (x y : Int) : Sz w ((w.alloc (.cells A t)).alloc (.cells #[.int .i64 x, .int .i64 y] 23)) (w.heap.size + 1) x y := by
  have hs0 : (w.alloc (.cells A t)).heap.size = w.heap.size + 1 := by simp
  have hx1 := heap_alloc_new (w.alloc (.cells A t)) (.cells #[.int .i64 x, .int .i64 y] 23)
  rw [hs0] at hx1
  exact ⟨hx1, Nat.le_succ _, ((Below.refl _ _).alloc (Nat.le_refl _) _).alloc (by rw [hs0]; omega) _⟩

set_option maxRecDepth 100000 in
set_option maxHeartbeats 4000000 in
theorem size_up (b : Nat) (v : Val) (f x y : Int) (w : World) (h : Mb w b f x y) : Calls Try.prog 27 #[vlV v, .func (.func 25) #[.pointer (some ⟨b, 0, none⟩)] #[]] w fun e w' => e = .returned (.agg #[.int .i64 (sizK1 v), .int .i64 (sizN1 v (upS v f x y))]) ∧ Below w.heap.size w w' := by
  have hz0 := two_allocs w (vlB v) 34 0 0
  have hm0 := (h.below ((Below.refl w.heap.size w).alloc (Nat.le_refl _) (.cells (vlB v) 34)))
  have hm1 := (hm0.below ((Below.refl _ _).alloc (Nat.le_refl _) (.cells #[.int .i64 0, .int .i64 0] 23)))
  have C0 := up17_any b v f x y _ hm1
  generalize upS v f x y = m at C0 ⊢
  have CS := Lib.hid (fun W => wordS_any v W)
  have CC := Lib.hid (fun W => called17_any (wordS v) W)
  obtain ⟨kz, hk⟩ : ∃ k, sizK1 v = k := ⟨_, rfl⟩
  obtain ⟨nz, hn⟩ : ∃ n, sizN1 v m = n := ⟨_, rfl⟩
  rw [hk, hn]
  unfold sizK1 at hk
  unfold sizN1 at hn
  generalize callS (wordS v) = q at CC hk
  generalize wordS v = s at CC CS
  have HZ := Lib.hid hz0
  have C1 := Lib.hid C0
  unfold vlV vlB at *
  obtain ⟨k, n, d, nm⟩ := v
  simp only at HZ C1 CS hk hn ⊢
  clear h hz0 hm0 hm1 C0
  obtain ⟨r0, r1, g0, g1, l1⟩ := HZ.out.cells
  by_cases h2 : k = 2
  · subst h2
    rw [if_pos rfl] at hk hn
    subst hk; subst hn
    clear r0 r1 g0 g1 l1
    go_enter Try.func27, Try.ntmps27
    go_wp2_with fail
    refine C1.out.mono ?_
    rintro e w1 ⟨rfl, hb1⟩
    have HZ1 := Lib.hid (HZ.out.below hb1)
    obtain ⟨r0, r1, g0, g1, l1⟩ := HZ1.out.cells
    clear hb1
    go_wp2_with fail
    exact size_fin (HZ1.out.set 1 m) _ rfl rfl
  · have z2 : (k == 2) = false := by rw [beq_eq_false_iff_ne]; exact h2
    rw [if_neg h2] at hk hn
    by_cases h3 : k = 3
    · subst h3
      rw [if_pos rfl] at hk hn
      subst hk; subst hn
      go_enter Try.func27, Try.ntmps27
      go_wp2_with fail
      exact size_fin (two_allocs w _ _ 2 n) _ rfl rfl
    · have z3 : (k == 3) = false := by rw [beq_eq_false_iff_ne]; exact h3
      rw [if_neg h3] at hk hn
      subst hk; subst hn
      clear r0 r1 g0 g1 l1
      go_enter Try.func27, Try.ntmps27
      go_wp2_with fail
      refine (CS.out _).mono ?_
      rintro e w1 ⟨rfl, hb1⟩
      have HZ1 := Lib.hid (HZ.out.below hb1)
      obtain ⟨r0, r1, g0, g1, l1⟩ := HZ1.out.cells
      clear hb1
      go_wp2_with fail
      refine (CC.out _).mono ?_
      rintro e w2 ⟨rfl, rfl⟩
      go_wp2_with fail
      exact size_fin (HZ1.out.set q 0) _ rfl rfl

set_option maxRecDepth 100000 in
set_option maxHeartbeats 4000000 in
theorem size_ms (b : Nat) (v : Val) (f x y : Int) (w : World) (h : Mb w b f x y) : Calls Try.prog 27 #[vlV v, .func (.func 28) #[.pointer (some ⟨b, 0, none⟩)] #[]] w fun e w' => e = .returned (.agg #[.int .i64 (sizK1 v), .int .i64 (sizN1 v (msS v f x y))]) ∧ Below w.heap.size w w' := by
  have hz0 := two_allocs w (vlB v) 34 0 0
  have hm0 := (h.below ((Below.refl w.heap.size w).alloc (Nat.le_refl _) (.cells (vlB v) 34)))
  have hm1 := (hm0.below ((Below.refl _ _).alloc (Nat.le_refl _) (.cells #[.int .i64 0, .int .i64 0] 23)))
  have C0 := measure17_any b v f x y _ hm1
  generalize msS v f x y = m at C0 ⊢
  have CS := Lib.hid (fun W => wordS_any v W)
  have CC := Lib.hid (fun W => called17_any (wordS v) W)
  obtain ⟨kz, hk⟩ : ∃ k, sizK1 v = k := ⟨_, rfl⟩
  obtain ⟨nz, hn⟩ : ∃ n, sizN1 v m = n := ⟨_, rfl⟩
  rw [hk, hn]
  unfold sizK1 at hk
  unfold sizN1 at hn
  generalize callS (wordS v) = q at CC hk
  generalize wordS v = s at CC CS
  have HZ := Lib.hid hz0
  have C1 := Lib.hid C0
  unfold vlV vlB at *
  obtain ⟨k, n, d, nm⟩ := v
  simp only at HZ C1 CS hk hn ⊢
  clear h hz0 hm0 hm1 C0
  obtain ⟨r0, r1, g0, g1, l1⟩ := HZ.out.cells
  by_cases h2 : k = 2
  · subst h2
    rw [if_pos rfl] at hk hn
    subst hk; subst hn
    clear r0 r1 g0 g1 l1
    go_enter Try.func27, Try.ntmps27
    go_wp2_with fail
    refine C1.out.mono ?_
    rintro e w1 ⟨rfl, hb1⟩
    have HZ1 := Lib.hid (HZ.out.below hb1)
    obtain ⟨r0, r1, g0, g1, l1⟩ := HZ1.out.cells
    clear hb1
    go_wp2_with fail
    exact size_fin (HZ1.out.set 1 m) _ rfl rfl
  · have z2 : (k == 2) = false := by rw [beq_eq_false_iff_ne]; exact h2
    rw [if_neg h2] at hk hn
    by_cases h3 : k = 3
    · subst h3
      rw [if_pos rfl] at hk hn
      subst hk; subst hn
      go_enter Try.func27, Try.ntmps27
      go_wp2_with fail
      exact size_fin (two_allocs w _ _ 2 n) _ rfl rfl
    · have z3 : (k == 3) = false := by rw [beq_eq_false_iff_ne]; exact h3
      rw [if_neg h3] at hk hn
      subst hk; subst hn
      clear r0 r1 g0 g1 l1
      go_enter Try.func27, Try.ntmps27
      go_wp2_with fail
      refine (CS.out _).mono ?_
      rintro e w1 ⟨rfl, hb1⟩
      have HZ1 := Lib.hid (HZ.out.below hb1)
      obtain ⟨r0, r1, g0, g1, l1⟩ := HZ1.out.cells
      clear hb1
      go_wp2_with fail
      refine (CC.out _).mono ?_
      rintro e w2 ⟨rfl, rfl⟩
      go_wp2_with fail
      exact size_fin (HZ1.out.set q 0) _ rfl rfl

/-- what is told, in memory -/
structure Td (w : World) (a : Option Addr) (n : Nat) (L : List Val) : Prop where
  len : L.length = n
  vs : Vs w a L
  nm : ∀ v, v ∈ L → v.name.length ≤ maxLen
theorem Td.below {w w' : World} {a : Option Addr} {n : Nat} {L : List Val} (h : Td w a n L) (hb : Below w.heap.size w w') : Td w' a n L := ⟨h.len, h.vs.below hb, h.nm⟩
theorem Td.at_ {w : World} {a : Option Addr} {n : Nat} {L : List Val} (h : Td w a n L) (k : Nat) (hk : k < n) : ∃ b o v, a = some ⟨b, o, none⟩ ∧ b < w.heap.size ∧ L[k]? = some v ∧ v.name.length ≤ maxLen ∧
    w.cell? ⟨b, o + k * 4, none⟩ = some (.int .i64 v.kind) ∧ w.cell? ⟨b, o + k * 4 + 1, none⟩ = some (.int .i64 v.n) ∧ w.cell? ⟨b, o + k * 4 + 2, none⟩ = some (.int .i64 v.d) ∧ w.cell? ⟨b, o + k * 4 + 3, none⟩ = some (.string ⟨v.name.toArray⟩) := by
  have hl : k < L.length := by rw [h.len]; exact hk
  rcases h.vs with h0 | ⟨b, o, ha, hb, hc⟩
  · rw [h0] at hl; simp at hl
  · obtain ⟨c1, c2, c3, c4⟩ := hc k hl
    exact ⟨b, o, L[k], ha, hb, List.getElem?_eq_getElem hl, h.nm _ (List.getElem_mem hl), c1, c2, c3, c4⟩
def retO (o : Option Val) : Value := .tuple #[vlV (o.getD zeroV), .bool o.isSome]
/-- a block of its own that is answered: a value -/
structure Vz (w W : World) (R : Nat) (v : Val) : Prop where
  r : W.heap[R]? = some (.cells #[.int .i64 v.kind, .int .i64 v.n, .int .i64 v.d, .string ⟨v.name.toArray⟩] 34 (0, 0))
  low : w.heap.size ≤ R
  bel : Below w.heap.size w W
theorem Vz.below {w W W' : World} {R : Nat} {v : Val} (h : Vz w W R v) (hb : Below W.heap.size W W') : Vz w W' R v :=
  ⟨(hb.block _ (Array.getElem?_eq_some_iff.1 h.r).1).trans h.r, h.low, h.bel.trans (hb.mono h.bel.size)⟩
theorem Vz.cells {w W : World} {R : Nat} {v : Val} (h : Vz w W R v) : W.cell? ⟨R, 0, none⟩ = some (.int .i64 v.kind) ∧ W.cell? ⟨R, 1, none⟩ = some (.int .i64 v.n) ∧ W.cell? ⟨R, 2, none⟩ = some (.int .i64 v.d) ∧ W.cell? ⟨R, 3, none⟩ = some (.string ⟨v.name.toArray⟩) ∧ W.frozen? ⟨R, 0, none⟩ = false ∧ W.frozen? ⟨R, 1, none⟩ = false ∧ W.frozen? ⟨R, 2, none⟩ = false ∧ W.frozen? ⟨R, 3, none⟩ = false ∧ R < W.heap.size :=
  ⟨cell_of h.r rfl, cell_of h.r rfl, cell_of h.r rfl, cell_of h.r rfl, unfrozen_of h.r, unfrozen_of h.r, unfrozen_of h.r, unfrozen_of h.r, (Array.getElem?_eq_some_iff.1 h.r).1⟩
theorem Vz.set {w W : World} {R : Nat} {v : Val} (h : Vz w W R v) (u : Val) : Vz w ((((W.setCell ⟨R, 0, none⟩ (.int .i64 u.kind)).setCell ⟨R, 1, none⟩ (.int .i64 u.n)).setCell ⟨R, 2, none⟩ (.int .i64 u.d)).setCell ⟨R, 3, none⟩ (.string ⟨u.name.toArray⟩)) R u :=
  ⟨heap_setCell_same _ R 3 _ _ _ (heap_setCell_same _ R 2 _ _ _ (heap_setCell_same _ R 1 _ _ _ (heap_setCell_same _ R 0 _ _ _ h.r))), h.low, (((h.bel.setCell (p := ⟨R, 0, none⟩) h.low _).setCell (p := ⟨R, 1, none⟩) h.low _).setCell (p := ⟨R, 2, none⟩) h.low _).setCell (p := ⟨R, 3, none⟩) h.low _⟩
theorem Vz.new (w : World) : Vz w (w.alloc (.cells #[.int .i64 0, .int .i64 0, .int .i64 0, .string ⟨#[]⟩] 34)) w.heap.size zeroV := ⟨heap_alloc_new w _, Nat.le_refl _, below_one7h _ _⟩
theorem tells_fin {w W : World} {R : Nat} {v : Val} {s : Bool} (h : Vz w W R v) (f : Act) (hf : f.tmps[4]? = some (.pointer (some ⟨R, 0, none⟩))) (hs : f.tmps[5]? = some (.bool s)) (hd : f.defers = []) :
    bodyPost Try.prog Try.f20 (fun e w' => e = .returned (.tuple #[vlV v, .bool s]) ∧ Below w.heap.size w w') .ret f W := by
  obtain ⟨y0, y1, y2, y3, _⟩ := h.cells
  exact bodyPost_ret (v := .tuple #[vlV v, .bool s]) (by unfold vlV; simp [results, Try.results20, go_sem, hf, hs, y0, y1, y2, y3]) hd ⟨rfl, h.bel⟩

set_option maxRecDepth 100000 in
set_option maxHeartbeats 4000000 in
theorem tells17_any (a : Option Addr) (n cap : Nat) (L : List Val) (k : Nat) (P : Int) (w : World) (hP : P = (k : Int) + 1) (hk : k < 37) (hT : Td w a n L) : Calls Try.prog 20 #[.slice a n cap, .int .i64 P] w fun e w' => e = .returned (retO (tellS L (k + 1))) ∧ Below w.heap.size w w' := by
  have HZ := Lib.hid (Vz.new w)
  obtain ⟨r0, r1, r2, r3, g0, g1, g2, g3, l1⟩ := HZ.out.cells
  unfold zeroV at r0 r1 r2 r3
  simp only at r0 r1 r2 r3
  by_cases hn : k < n
  · have hT1 := hT.below HZ.out.bel
    obtain ⟨b, o, v, rfl, hb, hv, hnm, c0, c1, c2, c3⟩ := hT1.at_ k hn
    have hte : tellS L (k + 1) = if takesP P v = true then some v else none := by
      unfold tellS
      rw [Nat.add_sub_cancel, hv, hP]
      rfl
    rw [hte]
    have C := Lib.hid (fun W => Takes10_any P v.kind v.n v.d v.name W hnm)
    have hvv : (⟨v.kind, v.n, v.d, v.name⟩ : Val) = v := rfl
    rw [hvv] at C
    obtain ⟨x, hx⟩ : ∃ x, takesP P v = x := ⟨_, rfl⟩
    rw [hx] at C ⊢
    have p1 : P - 1 = (k : Int) := by omega
    have p2 : P ≤ (n : Int) := by omega
    have p3 : (k : Int) < (n : Int) := by omega
    have p4 : 1 ≤ P ∧ P ≤ 37 := by omega
    have p5 := p4.1
    have p6 := p4.2
    clear hT hT1 hte hv hnm hvv hx hP p4
    have s0 : b < (w.alloc (.cells #[.int .i64 0, .int .i64 0, .int .i64 0, .string ⟨#[]⟩] 34)).heap.size := hb
    clear hb
    cases x
    · simp only [if_neg (show ¬ false = true by decide)]
      unfold retO
      simp only [Option.getD_none, Option.isSome_none]
      go_enter Try.func20, Try.ntmps20
      go_wp2_with fail
      refine (C.out _).mono ?_
      rintro e w1 ⟨rfl, hb1⟩
      have HZ1 := Lib.hid (HZ.out.below hb1)
      clear r0 r1 r2 r3 g0 g1 g2 g3 l1 hb1
      obtain ⟨r0, r1, r2, r3, g0, g1, g2, g3, l1⟩ := HZ1.out.cells
      go_wp2_with fail
      exact tells_fin (HZ1.out.set zeroV) _ rfl rfl rfl
    · simp only [if_true]
      unfold retO
      simp only [Option.getD_some, Option.isSome_some]
      go_enter Try.func20, Try.ntmps20
      go_wp2_with fail
      refine (C.out _).mono ?_
      rintro e w1 ⟨rfl, hb1⟩
      have HZ1 := Lib.hid (HZ.out.below hb1)
      have q0 := keepY hb1 c0
      have q1 := keepY hb1 c1
      have q2 := keepY hb1 c2
      have q3 := keepY hb1 c3
      clear r0 r1 r2 r3 g0 g1 g2 g3 l1 hb1 c0 c1 c2 c3
      obtain ⟨r0, r1, r2, r3, g0, g1, g2, g3, l1⟩ := HZ1.out.cells
      go_wp2_with fail
      exact tells_fin (HZ1.out.set v) _ rfl rfl rfl
  · have hte : tellS L (k + 1) = none := by
      unfold tellS
      rw [Nat.add_sub_cancel, List.getElem?_eq_none (by rw [hT.len]; omega)]
    rw [hte]
    have p2 : (n : Int) < P := by omega
    have p5 : 1 ≤ P := by omega
    have p6 : P ≤ 37 := by omega
    unfold retO
    simp only [Option.getD_none, Option.isSome_none]
    clear hte hT hP
    go_enter Try.func20, Try.ntmps20
    go_wp2_with fail
    exact tells_fin (Vz.new w) _ rfl rfl rfl
end Go.Proofs.Ytlngipglhlhhbaa
