/- Layer 17: what must come of fixed calls. (Written by gen_stlk.py.) -/
import Derived.Test.YtlngipglhlhhbaaStlRs
namespace Go.Proofs.Ytlngipglhlhhbaa
open Go.RowKit TreN LexP FixP SynP ValP PropP FixM
set_option linter.unusedVariables false

/-- a row of 37 values that may be written -/
def Rv (W : World) (g : Nat) (f : Nat → Val) : Prop := ∀ j, j < 148 → W.cell? ⟨g, j, none⟩ = some (vcC (f (j / 4)) (j % 4)) ∧ W.frozen? ⟨g, j, none⟩ = false
theorem Rv.cells {W : World} {g : Nat} {f : Nat → Val} (h : Rv W g f) (i : Nat) (hi : i < 37) :
    (W.cell? ⟨g, i * 4, none⟩ = some (.int .i64 (f i).kind) ∧ W.cell? ⟨g, i * 4 + 1, none⟩ = some (.int .i64 (f i).n) ∧ W.cell? ⟨g, i * 4 + 2, none⟩ = some (.int .i64 (f i).d) ∧ W.cell? ⟨g, i * 4 + 3, none⟩ = some (.string ⟨(f i).name.toArray⟩)) ∧
    (W.frozen? ⟨g, i * 4, none⟩ = false ∧ W.frozen? ⟨g, i * 4 + 1, none⟩ = false ∧ W.frozen? ⟨g, i * 4 + 2, none⟩ = false ∧ W.frozen? ⟨g, i * 4 + 3, none⟩ = false) := by
  have c0 := h (i * 4) (by omega)
  have c1 := h (i * 4 + 1) (by omega)
  have c2 := h (i * 4 + 2) (by omega)
  have c3 := h (i * 4 + 3) (by omega)
  rw [show (i * 4) / 4 = i by omega, show (i * 4) % 4 = 0 by omega] at c0
  rw [show (i * 4 + 1) / 4 = i by omega, show (i * 4 + 1) % 4 = 1 by omega] at c1
  rw [show (i * 4 + 2) / 4 = i by omega, show (i * 4 + 2) % 4 = 2 by omega] at c2
  rw [show (i * 4 + 3) / 4 = i by omega, show (i * 4 + 3) % 4 = 3 by omega] at c3
  exact ⟨⟨c0.1, c1.1, c2.1, c3.1⟩, ⟨c0.2, c1.2, c2.2, c3.2⟩⟩
theorem Rv.set {W : World} {g : Nat} {f : Nat → Val} (h : Rv W g f) (i : Nat) (hi : i < 37) (u : Val) :
    Rv ((((W.setCell ⟨g, i * 4, none⟩ (.int .i64 u.kind)).setCell ⟨g, i * 4 + 1, none⟩ (.int .i64 u.n)).setCell ⟨g, i * 4 + 2, none⟩ (.int .i64 u.d)).setCell ⟨g, i * 4 + 3, none⟩ (.string ⟨u.name.toArray⟩)) g (fun k => if k = i then u else f k) := by
  intro j hj
  refine ⟨?_, by simp only [World.frozen?_setCell]; exact (h j hj).2⟩
  have hc := (h j hj).1
  by_cases e3 : j = i * 4 + 3
  · subst e3
    rw [World.cell?_setCell_same (h := by
      rw [World.cell?_setCell_other (h := by intro q; injection q; omega), World.cell?_setCell_other (h := by intro q; injection q; omega), World.cell?_setCell_other (h := by intro q; injection q; omega)]
      exact hc)]
    rw [show (i * 4 + 3) / 4 = i by omega, show (i * 4 + 3) % 4 = 3 by omega]
    dsimp only
    rw [if_pos rfl]
    rfl
  · rw [World.cell?_setCell_other (h := by intro q; injection q; omega)]
    by_cases e2 : j = i * 4 + 2
    · subst e2
      rw [World.cell?_setCell_same (h := by
        rw [World.cell?_setCell_other (h := by intro q; injection q; omega), World.cell?_setCell_other (h := by intro q; injection q; omega)]
        exact hc)]
      rw [show (i * 4 + 2) / 4 = i by omega, show (i * 4 + 2) % 4 = 2 by omega]
      dsimp only
      rw [if_pos rfl]
      rfl
    · rw [World.cell?_setCell_other (h := by intro q; injection q; omega)]
      by_cases e1 : j = i * 4 + 1
      · subst e1
        rw [World.cell?_setCell_same (h := by
          rw [World.cell?_setCell_other (h := by intro q; injection q; omega)]
          exact hc)]
        rw [show (i * 4 + 1) / 4 = i by omega, show (i * 4 + 1) % 4 = 1 by omega]
        dsimp only
        rw [if_pos rfl]
        rfl
      · rw [World.cell?_setCell_other (h := by intro q; injection q; omega)]
        by_cases e0 : j = i * 4
        · subst e0
          rw [World.cell?_setCell_same (h := hc)]
          rw [show (i * 4) / 4 = i by omega, show (i * 4) % 4 = 0 by omega]
          dsimp only
          rw [if_pos rfl]
          rfl
        · rw [World.cell?_setCell_other (h := by intro q; injection q; omega)]
          dsimp only
          rw [if_neg (by omega)]
          exact hc
theorem Rv.lt {W : World} {g : Nat} {f : Nat → Val} (h : Rv W g f) : g < W.heap.size := World.block_lt_of_cell? W _ (h 0 (by decide)).1
theorem Rv.below {W W' : World} {g B : Nat} {f : Nat → Val} (h : Rv W g f) (hb : Below B W W') (hB : g < B) : Rv W' g f := fun j hj => by
  rw [hb.cell (p := ⟨g, j, none⟩) hB, hb.frozen (p := ⟨g, j, none⟩) hB]
  exact h j hj
theorem Rv.ext {W : World} {g : Nat} {f f' : Nat → Val} (h : Rv W g f) (e : ∀ i, i < 37 → f i = f' i) : Rv W g f' := fun j hj => by
  rw [← e (j / 4) (by omega)]
  exact h j hj
theorem made_get (i : Nat) (h : i < 148) : (madeCells zv17 148)[i]? = some (vcC zeroV (i % 4)) := by
  unfold madeCells
  have hz : zv17.size = 4 := rfl
  simp only [hz]
  rw [Array.getElem?_map, Array.getElem?_range, if_pos h]
  have h4 : i % 4 < 4 := Nat.mod_lt _ (by decide)
  simp only [Option.map_some]
  congr 1
  generalize i % 4 = m at h4
  match m, h4 with
  | 0, _ => rfl
  | 1, _ => rfl
  | 2, _ => rfl
  | 3, _ => rfl
theorem Rv.made {W : World} {g : Nat} {t : TypeId} (h : W.heap[g]? = some (.cells (madeCells zv17 148) t (0, 0))) : Rv W g (fun _ => zeroV) := fun j hj => ⟨cell_of h (made_get j hj), unfrozen_of h⟩
theorem Rv.td {W : World} {g : Nat} {f : Nat → Val} (h : Rv W g f) (hn : ∀ i, i < 37 → (f i).name.length ≤ maxLen) : Td W (some ⟨g, 0, none⟩) 37 ((List.range 37).map f) := by
  refine ⟨by simp, Or.inr ⟨g, 0, rfl, h.lt, fun i hi => ?_⟩, fun v hv => ?_⟩
  · have hi2 : i < 37 := by simpa using hi
    simp only [List.getElem_map, List.getElem_range, Nat.zero_add]
    exact (h.cells i hi2).1
  · obtain ⟨i, hi, rfl⟩ := List.mem_map.1 hv
    exact hn i (List.mem_range.1 hi)
theorem setCells_below {B : Nat} {w W : World} (h : Below B w W) (g : Nat) (hg : B ≤ g) (i : Nat) (a b c d : Value) : Below B w ((((W.setCell ⟨g, i * 4, none⟩ a).setCell ⟨g, i * 4 + 1, none⟩ b).setCell ⟨g, i * 4 + 2, none⟩ c).setCell ⟨g, i * 4 + 3, none⟩ d) :=
  (((h.setCell (p := ⟨g, i * 4, none⟩) hg a).setCell (p := ⟨g, i * 4 + 1, none⟩) hg b).setCell (p := ⟨g, i * 4 + 2, none⟩) hg c).setCell (p := ⟨g, i * 4 + 3, none⟩) hg d

def kA : Val := ⟨2, 2000, 2, []⟩
def kB : Val := ⟨2, 10000, 2, []⟩
def kF (i : Nat) : Val := if i = 2 then kB else if i = 35 then kA else zeroV
def kC : List Value := cells17 sL (hasS ((List.range 37).map kF)) 1024 0 0
set_option maxRecDepth 100000 in
theorem kC_53 : kC[53]? = some (.int .i64 2048) := by kernel_rfl
set_option maxRecDepth 100000 in
theorem kC_2 : kC[2]? = some (.int .i64 1) := by kernel_rfl
set_option maxRecDepth 100000 in
theorem kC_3 : kC[3]? = some (.int .i64 20480) := by kernel_rfl
theorem kF_nm : ∀ i, i < 37 → (kF i).name.length ≤ maxLen := fun i _ => by
  unfold kF
  repeat' split
  all_goals exact Nat.zero_le _
theorem cells17_one (As : List Value) (hl : As.length = 55) (h1 : ∀ v, v ∈ As → v.oneCell' = true) (G : Nat → Option Val) (pf x y : Int) : ∀ v, v ∈ cells17 As G pf x y → v.oneCell' = true := by
  intro v hv
  unfold cells17 at hv
  obtain ⟨i, hi, rfl⟩ := List.mem_map.1 hv
  refine stS_one _ G _ x y 37 i ?_
  have hi2 := List.mem_range.1 hi
  show (As.getD i undef).oneCell' = true
  rw [List.getD_eq_getElem?_getD, List.getElem?_eq_getElem (by omega)]
  exact h1 _ (List.getElem_mem _)
set_option maxRecDepth 100000 in
theorem field_line (W : World) : (Instr.field 27 (.agg sL.toArray) 28).run Try.prog W = .ok (.int .i64 1200) W := by kernel_rfl

set_option maxRecDepth 100000 in
set_option maxHeartbeats 4000000 in
theorem known17_any (w : World) : Calls Try.prog 10 #[] w fun e w' => e = .returned (.bool true) ∧ Below w.heap.size w w' := by
  have hmk := fun u => make_vals u
  have hv0 : Rv (w.alloc (.cells (madeCells zv17 148) 34)) w.heap.size (fun _ => zeroV) := Rv.made (heap_alloc_new w _)
  have hb0 := below_one7h w (.cells (madeCells zv17 148) 34)
  have ST := Lib.hid (fun W => start17_any W)
  have HF := Lib.hid (fun W => field_line W)
  have CC := Lib.hid (fun a n cap W (hT : Td W a n ((List.range 37).map kF)) => compute17_any a n cap _ sL 1024 0 0 W rfl sL_one rfl hT)
  have hcl : kC.length = 55 := cells17_len _ _ _ _ _
  have hc1 := cells17_one sL rfl sL_one (hasS ((List.range 37).map kF)) 1024 0 0
  have e53 := kC_53
  have e2 := kC_2
  have e3 := kC_3
  have hkc : cells17 sL (hasS ((List.range 37).map kF)) 1024 0 0 = kC := rfl
  rw [hkc] at CC hc1
  clear hkc
  generalize kC = Cs at *
  have hfl : ∀ W, (Instr.field 27 (.agg sL.toArray) 28).run Try.prog W = .ok (.int .i64 1200) W := field_line
  generalize hSL : sL.toArray = SA at *
  go_enter Try.func10, Try.ntmps10
  go_upto_region 2 with fail
  generalize w.alloc (.cells (madeCells zv17 148) 34) = W1 at *
  obtain ⟨g, hg⟩ : ∃ g, w.heap.size = g := ⟨_, rfl⟩
  rw [hg] at hv0 hb0 ⊢
  obtain ⟨⟨a0, a1, a2, a3⟩, ⟨f0, f1, f2, f3⟩⟩ := hv0.cells 35 (by decide)
  obtain ⟨⟨a4, a5, a6, a7⟩, ⟨f4, f5, f6, f7⟩⟩ := hv0.cells 2 (by decide)
  have hv1 : Rv ((((((((W1.setCell ⟨g, 140, none⟩ (.int .i64 2)).setCell ⟨g, 141, none⟩ (.int .i64 2000)).setCell ⟨g, 142, none⟩ (.int .i64 2)).setCell ⟨g, 143, none⟩ (.string ⟨#[]⟩)).setCell ⟨g, 8, none⟩ (.int .i64 2)).setCell ⟨g, 9, none⟩ (.int .i64 10000)).setCell ⟨g, 10, none⟩ (.int .i64 2)).setCell ⟨g, 11, none⟩ (.string ⟨#[]⟩)) g kF := ((hv0.set 35 (by decide) kA).set 2 (by decide) kB).ext (fun i _ => by
    unfold kF
    rfl)
  have hb1 : Below g w ((((((((W1.setCell ⟨g, 140, none⟩ (.int .i64 2)).setCell ⟨g, 141, none⟩ (.int .i64 2000)).setCell ⟨g, 142, none⟩ (.int .i64 2)).setCell ⟨g, 143, none⟩ (.string ⟨#[]⟩)).setCell ⟨g, 8, none⟩ (.int .i64 2)).setCell ⟨g, 9, none⟩ (.int .i64 10000)).setCell ⟨g, 10, none⟩ (.int .i64 2)).setCell ⟨g, 11, none⟩ (.string ⟨#[]⟩)) := setCells_below (setCells_below hb0 g (Nat.le_refl g) 35 _ _ _ _) g (Nat.le_refl g) 2 _ _ _ _
  go_upto_region 4 with fail
  generalize ((((((((W1.setCell ⟨g, 140, none⟩ (.int .i64 2)).setCell ⟨g, 141, none⟩ (.int .i64 2000)).setCell ⟨g, 142, none⟩ (.int .i64 2)).setCell ⟨g, 143, none⟩ (.string ⟨#[]⟩)).setCell ⟨g, 8, none⟩ (.int .i64 2)).setCell ⟨g, 9, none⟩ (.int .i64 10000)).setCell ⟨g, 10, none⟩ (.int .i64 2)).setCell ⟨g, 11, none⟩ (.string ⟨#[]⟩)) = W2 at *
  have HV := Lib.hid hv1
  have HB := Lib.hid hb1
  clear hv0 hb0 hv1 hb1 a0 a1 a2 a3 a4 a5 a6 a7 f0 f1 f2 f3 f4 f5 f6 f7 hmk
  go_wp2_with fail
  refine (ST.out _).mono ?_
  rintro e w3 ⟨rfl, hb3⟩
  have hv3 := HV.out.below hb3 HV.out.lt
  have HB3 := Lib.hid (HB.out.trans (hb3.mono (by have := HV.out.lt; omega)))
  have CC3 := Lib.hid (CC.out (some ⟨g, 0, none⟩) 37 37 w3 (hv3.td kF_nm))
  clear hb3 hv3 HV HB CC
  go_wp2_with fail
  refine CC3.out.mono ?_
  rintro e w4 ⟨rfl, hb4⟩
  have HB4 := Lib.hid (HB3.out.trans (hb4.mono (by have := HB3.out.size; omega)))
  clear hb4 HB3 CC3
  dsimp only
  rename_i K' hK'
  refine hK' _ _ ?_
  clear hK'
  go_step
  go_step
  rename_i K' hK'
  refine hK' _ _ ?_
  clear hK'
  have hts := there_of_block (heap_alloc_new w4 (.cells #[Value.int .i64 0, Value.bool false, Value.int .i64 0, Value.int .i64 0, Value.int .i64 0, Value.int .i64 0, Value.int .i64 0, Value.int .i64 0, Value.int .i64 0, Value.int .i64 0, Value.int .i64 0, Value.int .i64 0, Value.int .i64 0, Value.int .i64 0, Value.int .i64 0, Value.int .i64 0, Value.int .i64 0, Value.int .i64 0, Value.int .i64 0, Value.int .i64 0, Value.int .i64 0, Value.int .i64 0, Value.int .i64 0, Value.int .i64 0, Value.int .i64 0, Value.int .i64 0, Value.int .i64 0, Value.int .i64 0, Value.int .i64 0, Value.int .i64 0, Value.int .i64 0, Value.int .i64 0, Value.int .i64 0, Value.int .i64 0, Value.int .i64 0, Value.int .i64 0, Value.int .i64 0, Value.int .i64 0, Value.int .i64 0, Value.int .i64 0, Value.int .i64 0, Value.int .i64 0, Value.int .i64 0, Value.int .i64 0, Value.int .i64 0, Value.int .i64 0, Value.int .i64 0, Value.int .i64 0, Value.int .i64 0, Value.int .i64 0, Value.int .i64 0, Value.int .i64 0, Value.string ⟨#[]⟩, Value.int .i64 0, Value.int .i64 0] 27))
  have hts2 : (w4.alloc (.cells #[Value.int .i64 0, Value.bool false, Value.int .i64 0, Value.int .i64 0, Value.int .i64 0, Value.int .i64 0, Value.int .i64 0, Value.int .i64 0, Value.int .i64 0, Value.int .i64 0, Value.int .i64 0, Value.int .i64 0, Value.int .i64 0, Value.int .i64 0, Value.int .i64 0, Value.int .i64 0, Value.int .i64 0, Value.int .i64 0, Value.int .i64 0, Value.int .i64 0, Value.int .i64 0, Value.int .i64 0, Value.int .i64 0, Value.int .i64 0, Value.int .i64 0, Value.int .i64 0, Value.int .i64 0, Value.int .i64 0, Value.int .i64 0, Value.int .i64 0, Value.int .i64 0, Value.int .i64 0, Value.int .i64 0, Value.int .i64 0, Value.int .i64 0, Value.int .i64 0, Value.int .i64 0, Value.int .i64 0, Value.int .i64 0, Value.int .i64 0, Value.int .i64 0, Value.int .i64 0, Value.int .i64 0, Value.int .i64 0, Value.int .i64 0, Value.int .i64 0, Value.int .i64 0, Value.int .i64 0, Value.int .i64 0, Value.int .i64 0, Value.int .i64 0, Value.int .i64 0, Value.string ⟨#[]⟩, Value.int .i64 0, Value.int .i64 0] 27)).there w4.heap.size 0 55 := hts
  have hcs : Cs.toArray.size = 55 := by simpa using hcl
  refine wpList_store_mid rfl 27 _ _ rfl w4.heap.size 0 Cs.toArray rfl rfl (by rw [hcs]; exact hts2) (by rw [hcs]; exact size17) (all_oneCell_toArray hc1) ?_
  have hrr := World.rangeAt_setCells_same (w4.alloc (.cells #[Value.int .i64 0, Value.bool false, Value.int .i64 0, Value.int .i64 0, Value.int .i64 0, Value.int .i64 0, Value.int .i64 0, Value.int .i64 0, Value.int .i64 0, Value.int .i64 0, Value.int .i64 0, Value.int .i64 0, Value.int .i64 0, Value.int .i64 0, Value.int .i64 0, Value.int .i64 0, Value.int .i64 0, Value.int .i64 0, Value.int .i64 0, Value.int .i64 0, Value.int .i64 0, Value.int .i64 0, Value.int .i64 0, Value.int .i64 0, Value.int .i64 0, Value.int .i64 0, Value.int .i64 0, Value.int .i64 0, Value.int .i64 0, Value.int .i64 0, Value.int .i64 0, Value.int .i64 0, Value.int .i64 0, Value.int .i64 0, Value.int .i64 0, Value.int .i64 0, Value.int .i64 0, Value.int .i64 0, Value.int .i64 0, Value.int .i64 0, Value.int .i64 0, Value.int .i64 0, Value.int .i64 0, Value.int .i64 0, Value.int .i64 0, Value.int .i64 0, Value.int .i64 0, Value.int .i64 0, Value.int .i64 0, Value.int .i64 0, Value.int .i64 0, Value.int .i64 0, Value.string ⟨#[]⟩, Value.int .i64 0, Value.int .i64 0] 27)) w4.heap.size 0 Cs (by rw [hcl]; exact hts2)
  have hg4 : g ≤ w4.heap.size := by have := HB4.out.size; omega
  have hbf := below_setCells (HB4.out.alloc hg4 (.cells #[Value.int .i64 0, Value.bool false, Value.int .i64 0, Value.int .i64 0, Value.int .i64 0, Value.int .i64 0, Value.int .i64 0, Value.int .i64 0, Value.int .i64 0, Value.int .i64 0, Value.int .i64 0, Value.int .i64 0, Value.int .i64 0, Value.int .i64 0, Value.int .i64 0, Value.int .i64 0, Value.int .i64 0, Value.int .i64 0, Value.int .i64 0, Value.int .i64 0, Value.int .i64 0, Value.int .i64 0, Value.int .i64 0, Value.int .i64 0, Value.int .i64 0, Value.int .i64 0, Value.int .i64 0, Value.int .i64 0, Value.int .i64 0, Value.int .i64 0, Value.int .i64 0, Value.int .i64 0, Value.int .i64 0, Value.int .i64 0, Value.int .i64 0, Value.int .i64 0, Value.int .i64 0, Value.int .i64 0, Value.int .i64 0, Value.int .i64 0, Value.int .i64 0, Value.int .i64 0, Value.int .i64 0, Value.int .i64 0, Value.int .i64 0, Value.int .i64 0, Value.int .i64 0, Value.int .i64 0, Value.int .i64 0, Value.int .i64 0, Value.int .i64 0, Value.int .i64 0, Value.string ⟨#[]⟩, Value.int .i64 0, Value.int .i64 0] 27)) w4.heap.size hg4 Cs 0
  have e55 : Cs.toArray.toList = Cs := rfl
  rw [e55]
  generalize (w4.alloc (.cells #[Value.int .i64 0, Value.bool false, Value.int .i64 0, Value.int .i64 0, Value.int .i64 0, Value.int .i64 0, Value.int .i64 0, Value.int .i64 0, Value.int .i64 0, Value.int .i64 0, Value.int .i64 0, Value.int .i64 0, Value.int .i64 0, Value.int .i64 0, Value.int .i64 0, Value.int .i64 0, Value.int .i64 0, Value.int .i64 0, Value.int .i64 0, Value.int .i64 0, Value.int .i64 0, Value.int .i64 0, Value.int .i64 0, Value.int .i64 0, Value.int .i64 0, Value.int .i64 0, Value.int .i64 0, Value.int .i64 0, Value.int .i64 0, Value.int .i64 0, Value.int .i64 0, Value.int .i64 0, Value.int .i64 0, Value.int .i64 0, Value.int .i64 0, Value.int .i64 0, Value.int .i64 0, Value.int .i64 0, Value.int .i64 0, Value.int .i64 0, Value.int .i64 0, Value.int .i64 0, Value.int .i64 0, Value.int .i64 0, Value.int .i64 0, Value.int .i64 0, Value.int .i64 0, Value.int .i64 0, Value.int .i64 0, Value.int .i64 0, Value.int .i64 0, Value.int .i64 0, Value.string ⟨#[]⟩, Value.int .i64 0, Value.int .i64 0] 27)).setCells w4.heap.size 0 Cs = wf at *
  have q53 := hrr 53 _ e53
  have q2 := hrr 2 _ e2
  have q3 := hrr 3 _ e3
  rw [Nat.zero_add] at q53 q2 q3
  clear e55 hts hts2 hrr e53 e2 e3 hc1 hcl hcs
  have HB5 := Lib.hid hbf
  clear hbf
  go_step
  go_wp2_with fail
  refine (ST.out _).mono ?_
  rintro e w6 ⟨rfl, hb6⟩
  have HB6 := Lib.hid (HB5.out.trans (hb6.mono (by have := HB5.out.size; omega)))
  clear hb6
  go_wp2_with fail
  go_ret
  exact ⟨rfl, hg ▸ HB6.out⟩
end Go.Proofs.Ytlngipglhlhhbaa
