/- Joined texts: SizQ SizK1 SizK2. -/
import Derived.Test.YthfabalnioggcaaSizWa
import Derived.Test.YthfabalnioggcaaSizD1
import Derived.Test.YthfabalnioggcaaSizW6
import Derived.Test.YthfabalnioggcaaStyC
namespace Go.Proofs.Ythfabalnioggcaa
open Go.RowKit FixP FixM
set_option linter.unusedVariables false

def Hd (v : Int) : Prop := -1073741824 ≤ v ∧ v ≤ 1073741824
theorem hd_addZ (a b : Int) : Hd (addZ a b) := addZ_bd a b
theorem hd_subZ (a b : Int) : Hd (subZ a b) := subZ_bd a b
theorem hd_H (a : Int) : Hd (H a) := H_bd a
theorem hd_max {a b : Int} (ha : Hd a) (hb : Hd b) : Hd (max a b) := by unfold Hd at *; omega
theorem hd_min {a b : Int} (ha : Hd a) (hb : Hd b) : Hd (min a b) := by unfold Hd at *; omega
theorem hd_zero : Hd 0 := by unfold Hd; decide
theorem hd_x (c : Cz) : Hd c.x := hd_addZ _ _
theorem hd_y (c : Cz) : Hd c.y := hd_addZ _ _
theorem hd_box (b : Bool) (n e : Int) (he : Hd e) : Hd (boxZ b n e) := by
  unfold boxZ
  split
  · exact hd_max (hd_H n) he
  · exact hd_addZ _ _
theorem hd_says (c : Cz) (k n v : Int) (h : c.says k n = some v) : Hd v := by
  unfold Cz.says at h
  split at h
  · injection h with h; rw [← h]; exact hd_box _ _ _ (hd_x c)
  · split at h
    · injection h with h; rw [← h]; exact hd_max (hd_H _) hd_zero
    · split at h
      · injection h with h; rw [← h]; exact hd_max (hd_H _) hd_zero
      · split at h
        · injection h with h
          rw [← h]
          exact hd_max (hd_min (hd_max (hd_H _) hd_zero) (hd_max (hd_subZ _ _) (hd_x c))) (hd_max (hd_H _) hd_zero)
        · cases h
theorem hd_saysH (c : Cz) (k n v : Int) (h : c.saysH k n = some v) : Hd v := by
  unfold Cz.saysH at h
  split at h
  · injection h with h; rw [← h]; exact hd_box _ _ _ (hd_y c)
  · split at h
    · injection h with h; rw [← h]; exact hd_box _ _ _ (hd_y c)
    · cases h
theorem keep_idem (h y : Int) (o p : Option Int) (ho : ∀ v, o = some v → Hd v) (hp : ∀ v, p = some v → Hd v) (hy : Hd y) : max (betw (max (betw h o p) y) o p) y = max (betw h o p) y := by
  have hh := hd_H h
  have hid : ∀ u, Hd u → H u = u := fun u hu => H_id hu.1 hu.2
  unfold betw
  cases o with
  | none =>
    cases p with
    | none =>
      simp only
      rw [hid _ (hd_max hh hy)]
      omega
    | some l =>
      have hl := hp l rfl
      simp only
      rw [hid _ (hd_max (hd_max hh hl) hy)]
      omega
  | some g =>
    have hg := ho g rfl
    cases p with
    | none =>
      simp only
      rw [hid _ (hd_max (hd_min hh hg) hy)]
      omega
    | some l =>
      have hl := hp l rfl
      simp only
      rw [hid _ (hd_max (hd_max (hd_min hh hg) hl) hy)]
      omega
theorem keepW_idem (c : Cz) (n : Int) : c.keepW (c.keepW n) = c.keepW n := keep_idem n c.x _ _ (fun v h => hd_says c _ _ v h) (fun v h => hd_says c _ _ v h) (hd_x c)
theorem keepH_idem (c : Cz) (n : Int) : c.keepH (c.keepH n) = c.keepH n := keep_idem n c.y _ _ (fun v h => hd_saysH c _ _ v h) (fun v h => hd_saysH c _ _ v h) (hd_y c)
theorem high_is (c : Cz) (n k : Int) : (match c.given with | some h => h | none => c.keepH (c.high0 n k)) = c.keepH (c.high0 n k) := by
  cases hg : c.given with
  | none => rfl
  | some h =>
    simp only
    have h0 : c.high0 n k = h := by unfold Cz.high0; rw [hg]
    rw [h0]
    unfold Cz.given at hg
    cases hs : c.saysH (c.z 4) (c.z 5) with
    | none => rw [hs] at hg; cases hg
    | some v =>
      rw [hs] at hg
      injection hg with hg
      rw [← hg]
      exact (keepH_idem c v).symm
theorem x_nonneg (c : Cz) : 0 ≤ c.x := by
  unfold Cz.x Cz.pair addZ
  have h1 := fun a b : Int => H_nonneg (x := a + b)
  have p : ∀ i, 0 ≤ H (c.pad i) := fun i => H_nonneg (by unfold Cz.pad; omega)
  have e : ∀ i, 0 ≤ H (c.edge i) := fun i => H_nonneg (by unfold Cz.edge; omega)
  have a := p 3; have b := p 1; have d := e 3; have f := e 1
  have g1 := H_nonneg (H_nonneg (x := H (c.pad 3) + H (c.pad 1)) (by omega))
  have g2 := H_nonneg (H_nonneg (x := H (c.edge 3) + H (c.edge 1)) (by omega))
  exact H_nonneg (by omega)
theorem y_nonneg (c : Cz) : 0 ≤ c.y := by
  unfold Cz.y Cz.pair addZ
  have p : ∀ i, 0 ≤ H (c.pad i) := fun i => H_nonneg (by unfold Cz.pad; omega)
  have e : ∀ i, 0 ≤ H (c.edge i) := fun i => H_nonneg (by unfold Cz.edge; omega)
  have a := p 0; have b := p 2; have d := e 0; have f := e 2
  have g1 := H_nonneg (H_nonneg (x := H (c.pad 0) + H (c.pad 2)) (by omega))
  have g2 := H_nonneg (H_nonneg (x := H (c.edge 0) + H (c.edge 2)) (by omega))
  exact H_nonneg (by omega)
theorem wide_x (c : Cz) : c.x ≤ c.wide := by unfold Cz.wide Cz.keepW; omega
theorem high_y (c : Cz) (h : Int) : c.y ≤ c.keepH h := by unfold Cz.keepH; omega
end Go.Proofs.Ythfabalnioggcaa

namespace Go.Proofs.Ythfabalnioggcaa
open Go.RowKit TreN LexP FixP SynP ValP PropP FixM
set_option linter.unusedVariables false

theorem High20_any (c : Cz) (n k : Int) (w : World) : Calls Try.prog 30 #[.agg (caseL c).toArray, .int .i64 n, .int .i64 k] w fun e w' => e = .returned (.int .i64 (match c.given with | some h => h | none => c.keepH (c.high0 n k))) ∧ Below w.heap.size w w' := by
  cases hg : c.given with
  | some h => exact High20_some c n k h hg w
  | none =>
    simp only []
    cases hr : c.rated with
    | true => rw [high0_c n k hg hr]; exact High20_rated c n k hg hr w
    | false => rw [high0_b n k hg hr]; exact High20_plain c n k hg hr w
/-- a style's cells, in a case -/
def stL (c : Cz) : List Value := [Value.int .i64 (c.z 0), Value.bool c.b, Value.int .i64 (c.z 2), Value.int .i64 (c.z 3), Value.int .i64 (c.z 4), Value.int .i64 (c.z 5), Value.int .i64 (c.z 6), Value.int .i64 (c.z 7), Value.int .i64 (c.z 8), Value.int .i64 (c.z 9), Value.int .i64 (c.z 10), Value.int .i64 (c.z 11), Value.int .i64 (c.z 12), Value.int .i64 (c.z 13), Value.int .i64 (c.z 14), Value.int .i64 (c.z 15), Value.int .i64 (c.z 16), Value.int .i64 (c.z 17), Value.int .i64 (c.z 18), Value.int .i64 (c.z 19), Value.int .i64 (c.z 20), Value.int .i64 (c.z 21), Value.int .i64 (c.z 22), Value.int .i64 (c.z 23), Value.int .i64 (c.z 24), Value.int .i64 (c.z 25), Value.int .i64 (c.z 26), Value.int .i64 (c.z 27), Value.int .i64 (c.z 28), Value.int .i64 (c.z 29), Value.int .i64 (c.z 30), Value.int .i64 (c.z 31), Value.int .i64 (c.z 32), Value.int .i64 (c.z 33), Value.int .i64 (c.z 34), Value.int .i64 (c.z 35), Value.int .i64 (c.z 36), Value.int .i64 (c.z 37), Value.int .i64 (c.z 38), Value.int .i64 (c.z 39), Value.int .i64 (c.z 40), Value.int .i64 (c.z 41), Value.int .i64 (c.z 42), Value.int .i64 (c.z 43), Value.int .i64 (c.z 44), Value.int .i64 (c.z 45), Value.int .i64 (c.z 46), Value.int .i64 (c.z 47), Value.int .i64 (c.z 48), Value.int .i64 (c.z 49), Value.int .i64 (c.z 50), Value.int .i64 (c.z 51), Value.string c.nm, Value.int .i64 (c.z 53), Value.int .i64 (c.z 54)]
theorem stL_len (c : Cz) : (stL c).length = 55 := rfl
theorem caseL_pre (c : Cz) : caseL c = stL c ++ [.int .i64 c.av, .int .i64 c.bs, .int .i64 c.ls, .int .i64 c.ms] := rfl
theorem caseL_one (c : Cz) : ∀ v, v ∈ caseL c → v.oneCell' = true := by
  intro v hv
  unfold caseL at hv
  simp only [List.mem_cons, List.not_mem_nil, or_false] at hv
  repeat' (rcases hv with rfl | hv; · rfl)
theorem run_buildR (c : Cz) (w : World) : (Instr.build 36 #[(0, .agg (stL c).toArray), (1, .int .i64 c.av), (2, .int .i64 c.bs), (3, .int .i64 c.ls), (4, .int .i64 c.ms)]).run Try.prog w = .ok (.agg (caseL c).toArray) w := by kernel_rfl
theorem wpList_buildR {ops : Array Oper} {rest : List Oper} {op : Oper} {a : Act} {w : World} {Q : Exit → Act → World → Prop} (hgd : op.guard = none) (x0 x1 x2 x3 x4 : Operand) (ho : op.op = .build 36 #[(0, x0), (1, x1), (2, x2), (3, x3), (4, x4)]) (c : Cz)
    (h0 : a.eval x0 = .agg (stL c).toArray) (h1 : a.eval x1 = .int .i64 c.av) (h2 : a.eval x2 = .int .i64 c.bs) (h3 : a.eval x3 = .int .i64 c.ls) (h4 : a.eval x4 = .int .i64 c.ms)
    (h : wpList Try.prog ops Q rest (a.put op.dst (.agg (caseL c).toArray)) w) : wpList Try.prog ops Q (op :: rest) a w :=
  wpList_plain hgd fun K hK => by
    unfold Oper.wp execOp
    have e : (#[(0, x0), (1, x1), (2, x2), (3, x3), (4, x4)] : Array (Nat × Operand)).map (fun (i, x) => (i, a.eval x)) = #[(0, .agg (stL c).toArray), (1, .int .i64 c.av), (2, .int .i64 c.bs), (3, .int .i64 c.ls), (4, .int .i64 c.ms)] := by simp [h0, h1, h2, h3, h4]
    simp only [ho, e, Sem.run_bind, run_buildR c w, Result.andThen_ok, Sem.run_pure]
    exact hK _ _ h
theorem resultsR {fn : Func} {p : Tmp} (h : fn.results = #[.cell p 36]) (tmps : Array Value) (w : World) (b : Nat) (As : List Value) (hl : As.length = 59) (hp : tmps.getD p undef = .pointer (some ⟨b, 0, none⟩)) (hr : w.rangeAt b 0 As) :
    (results fn tmps).run Try.prog w = .ok (.agg As.toArray) w := by
  have hv := run_loadVar_mid (P := Try.prog) w b 0 36 As _ hr Try.underlying36 rfl (by rw [size20r, hl])
  have hp' : tmps[p]?.getD undef = .pointer (some ⟨b, 0, none⟩) := by simpa using hp
  simp [results, h, hp', asAddr, hv]
set_option maxRecDepth 100000 in
set_option maxHeartbeats 2000000 in
theorem of_any (c : Cz) (w : World) : Calls Try.prog 11 #[.agg (caseL c).toArray] w fun e w' => e = .returned (.agg (caseL c).toArray) ∧ Below w.heap.size w w' := by
  have HAL := Lib.hid (caseL_len c)
  have HCE := Lib.hid (fun i h => caseL_at c i h)
  have hx := Bx.new w (caseL c) 29
  have hpre0 := caseL_pre c
  have hone0 := caseL_one c
  obtain ⟨As, hAs⟩ : ∃ L, caseL c = L := ⟨_, rfl⟩
  rw [hAs] at HAL HCE hx hpre0 hone0 ⊢
  have has0 := hAs
  clear hAs
  have hal := HAL.out
  have HSL := stL_len c
  have HPRE := Lib.hid hpre0
  have HONE := Lib.hid hone0
  have HAS := Lib.hid has0
  clear hpre0 hone0 has0
  have hs1 : (w.alloc (.cells As.toArray 29)).heap.size = w.heap.size + 1 := by simp
  have hb2 := below_one7h (w.alloc (.cells As.toArray 29)) (.cells #[Value.int .i64 0, Value.bool false, Value.int .i64 0, Value.int .i64 0, Value.int .i64 0, Value.int .i64 0, Value.int .i64 0, Value.int .i64 0, Value.int .i64 0, Value.int .i64 0, Value.int .i64 0, Value.int .i64 0, Value.int .i64 0, Value.int .i64 0, Value.int .i64 0, Value.int .i64 0, Value.int .i64 0, Value.int .i64 0, Value.int .i64 0, Value.int .i64 0, Value.int .i64 0, Value.int .i64 0, Value.int .i64 0, Value.int .i64 0, Value.int .i64 0, Value.int .i64 0, Value.int .i64 0, Value.int .i64 0, Value.int .i64 0, Value.int .i64 0, Value.int .i64 0, Value.int .i64 0, Value.int .i64 0, Value.int .i64 0, Value.int .i64 0, Value.int .i64 0, Value.int .i64 0, Value.int .i64 0, Value.int .i64 0, Value.int .i64 0, Value.int .i64 0, Value.int .i64 0, Value.int .i64 0, Value.int .i64 0, Value.int .i64 0, Value.int .i64 0, Value.int .i64 0, Value.int .i64 0, Value.int .i64 0, Value.int .i64 0, Value.int .i64 0, Value.int .i64 0, Value.string ⟨#[]⟩, Value.int .i64 0, Value.int .i64 0, Value.int .i64 0, Value.int .i64 0, Value.int .i64 0, Value.int .i64 0] 36)
  have t1 := thereS_of_block (heap_alloc_new (w.alloc (.cells As.toArray 29)) (.cells #[Value.int .i64 0, Value.bool false, Value.int .i64 0, Value.int .i64 0, Value.int .i64 0, Value.int .i64 0, Value.int .i64 0, Value.int .i64 0, Value.int .i64 0, Value.int .i64 0, Value.int .i64 0, Value.int .i64 0, Value.int .i64 0, Value.int .i64 0, Value.int .i64 0, Value.int .i64 0, Value.int .i64 0, Value.int .i64 0, Value.int .i64 0, Value.int .i64 0, Value.int .i64 0, Value.int .i64 0, Value.int .i64 0, Value.int .i64 0, Value.int .i64 0, Value.int .i64 0, Value.int .i64 0, Value.int .i64 0, Value.int .i64 0, Value.int .i64 0, Value.int .i64 0, Value.int .i64 0, Value.int .i64 0, Value.int .i64 0, Value.int .i64 0, Value.int .i64 0, Value.int .i64 0, Value.int .i64 0, Value.int .i64 0, Value.int .i64 0, Value.int .i64 0, Value.int .i64 0, Value.int .i64 0, Value.int .i64 0, Value.int .i64 0, Value.int .i64 0, Value.int .i64 0, Value.int .i64 0, Value.int .i64 0, Value.int .i64 0, Value.int .i64 0, Value.int .i64 0, Value.string ⟨#[]⟩, Value.int .i64 0, Value.int .i64 0, Value.int .i64 0, Value.int .i64 0, Value.int .i64 0, Value.int .i64 0] 36))
  rw [show (#[Value.int .i64 0, Value.bool false, Value.int .i64 0, Value.int .i64 0, Value.int .i64 0, Value.int .i64 0, Value.int .i64 0, Value.int .i64 0, Value.int .i64 0, Value.int .i64 0, Value.int .i64 0, Value.int .i64 0, Value.int .i64 0, Value.int .i64 0, Value.int .i64 0, Value.int .i64 0, Value.int .i64 0, Value.int .i64 0, Value.int .i64 0, Value.int .i64 0, Value.int .i64 0, Value.int .i64 0, Value.int .i64 0, Value.int .i64 0, Value.int .i64 0, Value.int .i64 0, Value.int .i64 0, Value.int .i64 0, Value.int .i64 0, Value.int .i64 0, Value.int .i64 0, Value.int .i64 0, Value.int .i64 0, Value.int .i64 0, Value.int .i64 0, Value.int .i64 0, Value.int .i64 0, Value.int .i64 0, Value.int .i64 0, Value.int .i64 0, Value.int .i64 0, Value.int .i64 0, Value.int .i64 0, Value.int .i64 0, Value.int .i64 0, Value.int .i64 0, Value.int .i64 0, Value.int .i64 0, Value.int .i64 0, Value.int .i64 0, Value.int .i64 0, Value.int .i64 0, Value.string ⟨#[]⟩, Value.int .i64 0, Value.int .i64 0, Value.int .i64 0, Value.int .i64 0, Value.int .i64 0, Value.int .i64 0] : Array Value).size = 59 from by kernel_rfl, hs1] at t1
  have hx := hx.call hb2
  clear hb2 hs1
  go_enter Try.func11, Try.ntmps11
  go_upto_region 1 with fail
  obtain ⟨W1, hW⟩ : ∃ W, ((w.alloc (.cells As.toArray 29)).alloc (.cells #[Value.int .i64 0, Value.bool false, Value.int .i64 0, Value.int .i64 0, Value.int .i64 0, Value.int .i64 0, Value.int .i64 0, Value.int .i64 0, Value.int .i64 0, Value.int .i64 0, Value.int .i64 0, Value.int .i64 0, Value.int .i64 0, Value.int .i64 0, Value.int .i64 0, Value.int .i64 0, Value.int .i64 0, Value.int .i64 0, Value.int .i64 0, Value.int .i64 0, Value.int .i64 0, Value.int .i64 0, Value.int .i64 0, Value.int .i64 0, Value.int .i64 0, Value.int .i64 0, Value.int .i64 0, Value.int .i64 0, Value.int .i64 0, Value.int .i64 0, Value.int .i64 0, Value.int .i64 0, Value.int .i64 0, Value.int .i64 0, Value.int .i64 0, Value.int .i64 0, Value.int .i64 0, Value.int .i64 0, Value.int .i64 0, Value.int .i64 0, Value.int .i64 0, Value.int .i64 0, Value.int .i64 0, Value.int .i64 0, Value.int .i64 0, Value.int .i64 0, Value.int .i64 0, Value.int .i64 0, Value.int .i64 0, Value.int .i64 0, Value.int .i64 0, Value.int .i64 0, Value.string ⟨#[]⟩, Value.int .i64 0, Value.int .i64 0, Value.int .i64 0, Value.int .i64 0, Value.int .i64 0, Value.int .i64 0] 36)) = W := ⟨_, rfl⟩
  rw [hW] at hx t1 ⊢
  clear hW
  obtain ⟨br, hbr⟩ : ∃ x, w.heap.size + 1 = x := ⟨_, rfl⟩
  obtain ⟨b, hb⟩ : ∃ b, w.heap.size = b := ⟨_, rfl⟩
  rw [hbr] at t1
  rw [hb] at hx
  rw [hbr, hb]
  have HX := Lib.hid hx
  have HT : Hid (W1.there br 0 59) := Lib.hid t1
  have HBR : Hid (w.heap.size ≤ br) := Lib.hid (by omega)
  clear hx t1 hbr
  have hrs : W1.rangeAt b 0 (stL c) := fun j v hv => HX.out.rng j v (by rw [HPRE.out, List.getElem?_append_left (List.getElem?_eq_some_iff.1 hv).1]; exact hv)
  generalize hSt : stL c = Ss at *
  have HST := Lib.hid hSt
  clear hSt
  have q55 : W1.cell? ⟨b, 55, none⟩ = some (.int .i64 c.av) := HX.out.at_ 55 _ (HCE.out 55 (by decide))
  have q56 : W1.cell? ⟨b, 56, none⟩ = some (.int .i64 c.bs) := HX.out.at_ 56 _ (HCE.out 56 (by decide))
  have q57 : W1.cell? ⟨b, 57, none⟩ = some (.int .i64 c.ls) := HX.out.at_ 57 _ (HCE.out 57 (by decide))
  have q58 : W1.cell? ⟨b, 58, none⟩ = some (.int .i64 c.ms) := HX.out.at_ 58 _ (HCE.out 58 (by decide))
  refine wp_region_lit ?_
  go_step
  go_step
  rename_i K' hK'
  refine hK' _ _ ?_
  clear hK'
  refine wpList_load_mid rfl 27 _ rfl b 0 rfl Ss _ hrs Try.underlying27 rfl (by rw [sizeS17, HSL]) ?_
  go_step
  go_step
  rename_i K' hK'
  refine hK' _ _ ?_
  clear hK'
  go_step
  go_step
  rename_i K' hK'
  refine hK' _ _ ?_
  clear hK'
  go_step
  go_step
  rename_i K' hK'
  refine hK' _ _ ?_
  clear hK'
  go_step
  go_step
  rename_i K' hK'
  refine hK' _ _ ?_
  clear hK'
  go_step
  go_step
  rename_i K' hK'
  refine hK' _ _ ?_
  clear hK'
  go_step
  go_step
  rename_i K' hK'
  refine hK' _ _ ?_
  clear hK'
  go_step
  go_step
  rename_i K' hK'
  refine hK' _ _ ?_
  clear hK'
  go_step
  go_step
  rename_i K' hK'
  refine hK' _ _ ?_
  clear hK'
  refine wpList_buildR rfl _ _ _ _ _ rfl c (by rw [HST.out]; kernel_rfl) (by kernel_rfl) (by kernel_rfl) (by kernel_rfl) (by kernel_rfl) ?_
  rw [HAS.out]
  clear q55 q56 q57 q58 hrs
  have hAz : As.toArray.size = 59 := by simpa using HAL.out
  refine wpList_store_mid rfl 36 _ _ rfl br 0 As.toArray (by kernel_rfl) (by kernel_rfl) (by rw [hAz]; exact HT.out) (by rw [hAz]; exact size20r) (all_oneCell_toArray HONE.out) ?_
  have hrr := World.rangeAt_setCells_same W1 br 0 As (by rw [HAL.out]; exact HT.out)
  have hbf := belowS_setCells HX.out.bel br HBR.out As 0
  have e55 : As.toArray.toList = As := rfl
  rw [e55]
  generalize W1.setCells br 0 As = wf at *
  clear HX HT e55
  go_wp2_with fail
  exact bodyPost_ret (resultsR rfl _ _ br As HAL.out (by kernel_rfl) hrr) rfl ⟨rfl, hbf⟩
end Go.Proofs.Ythfabalnioggcaa

namespace Go.Proofs.Ythfabalnioggcaa
open Go.RowKit TreN LexP FixP SynP ValP PropP FixM
set_option linter.unusedVariables false

def kS : Cz := { z := fun i => ([0, 0, 0, 0, 0, 0, 0, 0, 0, 0, 6, 0, 6, 0, 1, 0, 1, 640, 1, 0, 1, 640, 1, 0, 1, 0, 1, 0, 1, 0, 0, 0, 0, 0, 0, 0, 0, 0, 0, 1000, 0, 0, 0, 0, 0, 0, 0, 1, 0, 1, 0, 0, 0, 1024, 1200] : List Int).getD i 0, b := false, nm := ⟨#[]⟩, av := 6400, bs := -1, ls := 0, ms := 0 }
def kT : Cz := { z := fun i => ([0, 0, 2, 50000, 0, 0, 0, 0, 0, 0, 6, 0, 6, 0, 1, 0, 1, 0, 1, 0, 1, 0, 1, 0, 1, 64, 1, 0, 1, 64, 0, 0, 0, 0, 0, 0, 0, 0, 0, 1000, 0, 0, 0, 0, 0, 0, 0, 1, 0, 1, 0, 0, 0, 1024, 1200] : List Int).getD i 0, b := false, nm := ⟨#[]⟩, av := 6400, bs := -1, ls := 0, ms := 0 }
def kU : Cz := { kT with b := true }
theorem kS_wide : kS.wide = 5120 := by decide +kernel
theorem kT_wide : kT.wide = 3328 := by decide +kernel
theorem kU_wide : kU.wide = 3200 := by decide +kernel
theorem kS_set : ((((startS.set 20 (.int .i64 1)).set 21 (.int .i64 640)).set 16 (.int .i64 1)).set 17 (.int .i64 640)) = stL kS := by kernel_rfl
theorem kT_set : ((((((startS.set 2 (.int .i64 2)).set 3 (.int .i64 50000)).set 28 (.int .i64 1)).set 29 (.int .i64 64)).set 24 (.int .i64 1)).set 25 (.int .i64 64)) = stL kT := by kernel_rfl
theorem kU_set : (stL kT).set 1 (.bool true) = stL kU := by kernel_rfl
theorem stL_one (c : Cz) : ∀ v, v ∈ stL c → v.oneCell' = true := by
  intro v hv
  unfold stL at hv
  simp only [List.mem_cons, List.not_mem_nil, or_false] at hv
  repeat' (rcases hv with rfl | hv; · rfl)
theorem run_buildS20 (c : Cz) (h1 : c.av = 6400) (h2 : c.bs = -1) (h3 : c.ls = 0) (h4 : c.ms = 0) (w : World) : (Instr.build 29 #[(0, .agg (stL c).toArray), (1, .int .i64 6400), (2, .int .i64 (-1))]).run Try.prog w = .ok (.agg (caseL c).toArray) w := by
  unfold caseL
  rw [h1, h2, h3, h4]
  kernel_rfl
theorem wp_build3 {op : Oper} {a : Act} {w : World} {K : Act → World → Prop} {Q : Exit → Act → World → Prop} (T : TypeId) (x0 x1 x2 : Operand) (ho : op.op = .build T #[(0, x0), (1, x1), (2, x2)]) (v0 v1 v2 r : Value) (h0 : a.eval x0 = v0) (h1 : a.eval x1 = v1) (h2 : a.eval x2 = v2)
    (hr : ∀ w, (Instr.build T #[(0, v0), (1, v1), (2, v2)]).run Try.prog w = .ok r w) (h : K (a.put op.dst r) w) : op.wp Try.prog a w K Q := by
  unfold Oper.wp execOp
  have e : (#[(0, x0), (1, x1), (2, x2)] : Array (Nat × Operand)).map (fun (i, x) => (i, a.eval x)) = #[(0, v0), (1, v1), (2, v2)] := by simp [h0, h1, h2]
  simp only [ho, e, Sem.run_bind, hr w, Result.andThen_ok, Sem.run_pure]
  exact h
/-- a style's variable -/
structure Sx (w W : World) (b : Nat) (Ls : List Value) : Prop where
  bel : Below w.heap.size w W
  rng : W.rangeAt b 0 Ls
  th : W.there b 0 55
  lt : b < W.heap.size
  hb : w.heap.size ≤ b
theorem Sx.call {w W W' : World} {b : Nat} {Ls : List Value} (h : Sx w W b Ls) (hb : Below W.heap.size W W') : Sx w W' b Ls :=
  ⟨h.bel.trans (hb.mono h.bel.size), rangeS_below h.rng hb h.lt, thereS_below h.th hb h.lt, Nat.lt_of_lt_of_le h.lt hb.size, h.hb⟩
theorem Sx.set {w W : World} {b : Nat} {Ls : List Value} (h : Sx w W b Ls) (j : Nat) (v : Value) : Sx w (W.setCell ⟨b, j, none⟩ v) b (Ls.set j v) :=
  ⟨h.bel.setCell (p := ⟨b, j, none⟩) h.hb v, rangeS_set h.rng j v, thereS_set h.th j v, by simpa using h.lt, h.hb⟩
theorem Sx.other {w W : World} {b b2 : Nat} {Ls : List Value} (h : Sx w W b Ls) (hn : b2 ≠ b) (h2 : w.heap.size ≤ b2) (j : Nat) (v : Value) : Sx w (W.setCell ⟨b2, j, none⟩ v) b Ls :=
  ⟨h.bel.setCell (p := ⟨b2, j, none⟩) h2 v, rangeS_other h.rng hn j v, thereS_set h.th j v, by simpa using h.lt, h.hb⟩
theorem Sx.c {w W : World} {b : Nat} {Ls : List Value} (h : Sx w W b Ls) (i : Nat) (hi : i < 55) : ∃ v, W.cell? ⟨b, i, none⟩ = some v ∧ W.frozen? ⟨b, i, none⟩ = false := by
  have := h.th i hi
  rw [Nat.zero_add] at this
  obtain ⟨v, hv⟩ := Option.isSome_iff_exists.1 this.1
  exact ⟨v, hv, this.2⟩
theorem Sx.made {w W : World} (hb : Below w.heap.size w W) (L : List Value) (hL : L.length = 55) : Sx w ((W.alloc (.cells #[Value.int .i64 0, Value.bool false, Value.int .i64 0, Value.int .i64 0, Value.int .i64 0, Value.int .i64 0, Value.int .i64 0, Value.int .i64 0, Value.int .i64 0, Value.int .i64 0, Value.int .i64 0, Value.int .i64 0, Value.int .i64 0, Value.int .i64 0, Value.int .i64 0, Value.int .i64 0, Value.int .i64 0, Value.int .i64 0, Value.int .i64 0, Value.int .i64 0, Value.int .i64 0, Value.int .i64 0, Value.int .i64 0, Value.int .i64 0, Value.int .i64 0, Value.int .i64 0, Value.int .i64 0, Value.int .i64 0, Value.int .i64 0, Value.int .i64 0, Value.int .i64 0, Value.int .i64 0, Value.int .i64 0, Value.int .i64 0, Value.int .i64 0, Value.int .i64 0, Value.int .i64 0, Value.int .i64 0, Value.int .i64 0, Value.int .i64 0, Value.int .i64 0, Value.int .i64 0, Value.int .i64 0, Value.int .i64 0, Value.int .i64 0, Value.int .i64 0, Value.int .i64 0, Value.int .i64 0, Value.int .i64 0, Value.int .i64 0, Value.int .i64 0, Value.int .i64 0, Value.string ⟨#[]⟩, Value.int .i64 0, Value.int .i64 0] 27)).setCells W.heap.size 0 L) W.heap.size L := by
  have h := Bx.made hb #[Value.int .i64 0, Value.bool false, Value.int .i64 0, Value.int .i64 0, Value.int .i64 0, Value.int .i64 0, Value.int .i64 0, Value.int .i64 0, Value.int .i64 0, Value.int .i64 0, Value.int .i64 0, Value.int .i64 0, Value.int .i64 0, Value.int .i64 0, Value.int .i64 0, Value.int .i64 0, Value.int .i64 0, Value.int .i64 0, Value.int .i64 0, Value.int .i64 0, Value.int .i64 0, Value.int .i64 0, Value.int .i64 0, Value.int .i64 0, Value.int .i64 0, Value.int .i64 0, Value.int .i64 0, Value.int .i64 0, Value.int .i64 0, Value.int .i64 0, Value.int .i64 0, Value.int .i64 0, Value.int .i64 0, Value.int .i64 0, Value.int .i64 0, Value.int .i64 0, Value.int .i64 0, Value.int .i64 0, Value.int .i64 0, Value.int .i64 0, Value.int .i64 0, Value.int .i64 0, Value.int .i64 0, Value.int .i64 0, Value.int .i64 0, Value.int .i64 0, Value.int .i64 0, Value.int .i64 0, Value.int .i64 0, Value.int .i64 0, Value.int .i64 0, Value.int .i64 0, Value.string ⟨#[]⟩, Value.int .i64 0, Value.int .i64 0] 27 L (by rw [hL]; rfl)
  exact ⟨h.bel, h.rng, World.there_setCells (thereS_of_block (heap_alloc_new W (.cells #[Value.int .i64 0, Value.bool false, Value.int .i64 0, Value.int .i64 0, Value.int .i64 0, Value.int .i64 0, Value.int .i64 0, Value.int .i64 0, Value.int .i64 0, Value.int .i64 0, Value.int .i64 0, Value.int .i64 0, Value.int .i64 0, Value.int .i64 0, Value.int .i64 0, Value.int .i64 0, Value.int .i64 0, Value.int .i64 0, Value.int .i64 0, Value.int .i64 0, Value.int .i64 0, Value.int .i64 0, Value.int .i64 0, Value.int .i64 0, Value.int .i64 0, Value.int .i64 0, Value.int .i64 0, Value.int .i64 0, Value.int .i64 0, Value.int .i64 0, Value.int .i64 0, Value.int .i64 0, Value.int .i64 0, Value.int .i64 0, Value.int .i64 0, Value.int .i64 0, Value.int .i64 0, Value.int .i64 0, Value.int .i64 0, Value.int .i64 0, Value.int .i64 0, Value.int .i64 0, Value.int .i64 0, Value.int .i64 0, Value.int .i64 0, Value.int .i64 0, Value.int .i64 0, Value.int .i64 0, Value.int .i64 0, Value.int .i64 0, Value.int .i64 0, Value.int .i64 0, Value.string ⟨#[]⟩, Value.int .i64 0, Value.int .i64 0] 27))) _ _ _, h.lt, hb.size⟩
theorem made_below {W : World} (L : List Value) : Below W.heap.size W ((W.alloc (.cells #[Value.int .i64 0, Value.bool false, Value.int .i64 0, Value.int .i64 0, Value.int .i64 0, Value.int .i64 0, Value.int .i64 0, Value.int .i64 0, Value.int .i64 0, Value.int .i64 0, Value.int .i64 0, Value.int .i64 0, Value.int .i64 0, Value.int .i64 0, Value.int .i64 0, Value.int .i64 0, Value.int .i64 0, Value.int .i64 0, Value.int .i64 0, Value.int .i64 0, Value.int .i64 0, Value.int .i64 0, Value.int .i64 0, Value.int .i64 0, Value.int .i64 0, Value.int .i64 0, Value.int .i64 0, Value.int .i64 0, Value.int .i64 0, Value.int .i64 0, Value.int .i64 0, Value.int .i64 0, Value.int .i64 0, Value.int .i64 0, Value.int .i64 0, Value.int .i64 0, Value.int .i64 0, Value.int .i64 0, Value.int .i64 0, Value.int .i64 0, Value.int .i64 0, Value.int .i64 0, Value.int .i64 0, Value.int .i64 0, Value.int .i64 0, Value.int .i64 0, Value.int .i64 0, Value.int .i64 0, Value.int .i64 0, Value.int .i64 0, Value.int .i64 0, Value.int .i64 0, Value.string ⟨#[]⟩, Value.int .i64 0, Value.int .i64 0] 27)).setCells W.heap.size 0 L) :=
  belowS_setCells (below_one7h W (.cells #[Value.int .i64 0, Value.bool false, Value.int .i64 0, Value.int .i64 0, Value.int .i64 0, Value.int .i64 0, Value.int .i64 0, Value.int .i64 0, Value.int .i64 0, Value.int .i64 0, Value.int .i64 0, Value.int .i64 0, Value.int .i64 0, Value.int .i64 0, Value.int .i64 0, Value.int .i64 0, Value.int .i64 0, Value.int .i64 0, Value.int .i64 0, Value.int .i64 0, Value.int .i64 0, Value.int .i64 0, Value.int .i64 0, Value.int .i64 0, Value.int .i64 0, Value.int .i64 0, Value.int .i64 0, Value.int .i64 0, Value.int .i64 0, Value.int .i64 0, Value.int .i64 0, Value.int .i64 0, Value.int .i64 0, Value.int .i64 0, Value.int .i64 0, Value.int .i64 0, Value.int .i64 0, Value.int .i64 0, Value.int .i64 0, Value.int .i64 0, Value.int .i64 0, Value.int .i64 0, Value.int .i64 0, Value.int .i64 0, Value.int .i64 0, Value.int .i64 0, Value.int .i64 0, Value.int .i64 0, Value.int .i64 0, Value.int .i64 0, Value.int .i64 0, Value.int .i64 0, Value.string ⟨#[]⟩, Value.int .i64 0, Value.int .i64 0] 27)) W.heap.size (Nat.le_refl _) L 0
set_option maxRecDepth 100000 in
set_option maxHeartbeats 4000000 in
theorem known20_any (w : World) : Calls Try.prog 18 #[] w fun e w' => e = .returned (.bool true) ∧ Below w.heap.size w w' := by
  have CS := Lib.hid (fun W => StartS W)
  have HKS := Lib.hid kS_set
  have HKT := Lib.hid kT_set
  have HKU := Lib.hid kU_set
  have hSl := startS_len
  have HSO := Lib.hid startS_one
  have C1 := fun W => Wide_any kS W
  have C2 := fun W => Wide_any kT W
  have C3 := fun W => Wide_any kU W
  rw [kS_wide] at C1
  rw [kT_wide] at C2
  rw [kU_wide] at C3
  have D1 := Lib.hid C1
  have D2 := Lib.hid C2
  have D3 := Lib.hid C3
  clear C1 C2 C3
  have R1 := Lib.hid (fun w => run_buildS20 kS rfl rfl rfl rfl w)
  have R2 := Lib.hid (fun w => run_buildS20 kT rfl rfl rfl rfl w)
  have R3 := Lib.hid (fun w => run_buildS20 kU rfl rfl rfl rfl w)
  have L1 := stL_len kS
  have L2 := stL_len kT
  have L3 := stL_len kU
  have HO2 := Lib.hid (stL_one kT)
  generalize caseL kS = A1 at *
  generalize caseL kT = A2 at *
  generalize caseL kU = A3 at *
  generalize stL kS = E1 at *
  generalize stL kT = E2 at *
  generalize stL kU = E3 at *
  generalize startS = Ss at *
  have hSz : Ss.toArray.size = 55 := by simpa using hSl
  have hEz : E2.toArray.size = 55 := by simpa using L2
  go_enter Try.func18, Try.ntmps18
  go_wp2_with fail
  refine (CS.out _).mono ?_
  rintro e w1 ⟨rfl, hb1⟩
  dsimp only
  rename_i K' hK'
  refine hK' _ _ ?_
  clear hK'
  go_step
  go_step
  rename_i K' hK'
  refine hK' _ _ ?_
  clear hK'
  refine wpList_store_mid rfl 27 _ _ rfl w1.heap.size 0 Ss.toArray (by kernel_rfl) (by kernel_rfl) (by rw [hSz]; exact thereS_of_block (heap_alloc_new w1 (.cells #[Value.int .i64 0, Value.bool false, Value.int .i64 0, Value.int .i64 0, Value.int .i64 0, Value.int .i64 0, Value.int .i64 0, Value.int .i64 0, Value.int .i64 0, Value.int .i64 0, Value.int .i64 0, Value.int .i64 0, Value.int .i64 0, Value.int .i64 0, Value.int .i64 0, Value.int .i64 0, Value.int .i64 0, Value.int .i64 0, Value.int .i64 0, Value.int .i64 0, Value.int .i64 0, Value.int .i64 0, Value.int .i64 0, Value.int .i64 0, Value.int .i64 0, Value.int .i64 0, Value.int .i64 0, Value.int .i64 0, Value.int .i64 0, Value.int .i64 0, Value.int .i64 0, Value.int .i64 0, Value.int .i64 0, Value.int .i64 0, Value.int .i64 0, Value.int .i64 0, Value.int .i64 0, Value.int .i64 0, Value.int .i64 0, Value.int .i64 0, Value.int .i64 0, Value.int .i64 0, Value.int .i64 0, Value.int .i64 0, Value.int .i64 0, Value.int .i64 0, Value.int .i64 0, Value.int .i64 0, Value.int .i64 0, Value.int .i64 0, Value.int .i64 0, Value.int .i64 0, Value.string ⟨#[]⟩, Value.int .i64 0, Value.int .i64 0] 27))) (by rw [hSz]; exact sizeS17) (all_oneCell_toArray HSO.out) ?_
  have e55 : Ss.toArray.toList = Ss := rfl
  rw [e55]
  clear e55
  have hs := Sx.made hb1 Ss hSl
  obtain ⟨W2, hW⟩ : ∃ X, (w1.alloc (.cells #[Value.int .i64 0, Value.bool false, Value.int .i64 0, Value.int .i64 0, Value.int .i64 0, Value.int .i64 0, Value.int .i64 0, Value.int .i64 0, Value.int .i64 0, Value.int .i64 0, Value.int .i64 0, Value.int .i64 0, Value.int .i64 0, Value.int .i64 0, Value.int .i64 0, Value.int .i64 0, Value.int .i64 0, Value.int .i64 0, Value.int .i64 0, Value.int .i64 0, Value.int .i64 0, Value.int .i64 0, Value.int .i64 0, Value.int .i64 0, Value.int .i64 0, Value.int .i64 0, Value.int .i64 0, Value.int .i64 0, Value.int .i64 0, Value.int .i64 0, Value.int .i64 0, Value.int .i64 0, Value.int .i64 0, Value.int .i64 0, Value.int .i64 0, Value.int .i64 0, Value.int .i64 0, Value.int .i64 0, Value.int .i64 0, Value.int .i64 0, Value.int .i64 0, Value.int .i64 0, Value.int .i64 0, Value.int .i64 0, Value.int .i64 0, Value.int .i64 0, Value.int .i64 0, Value.int .i64 0, Value.int .i64 0, Value.int .i64 0, Value.int .i64 0, Value.int .i64 0, Value.string ⟨#[]⟩, Value.int .i64 0, Value.int .i64 0] 27)).setCells w1.heap.size 0 Ss = X := ⟨_, rfl⟩
  rw [hW] at hs ⊢
  clear hW
  obtain ⟨b1, hq⟩ : ∃ x, w1.heap.size = x := ⟨_, rfl⟩
  rw [hq] at hs ⊢
  clear hq hb1
  have HS := Lib.hid hs
  clear hs
  obtain ⟨v20, c20, f20⟩ := HS.out.c 20 (by decide)
  obtain ⟨v21, c21, f21⟩ := HS.out.c 21 (by decide)
  obtain ⟨v16, c16, f16⟩ := HS.out.c 16 (by decide)
  obtain ⟨v17, c17, f17⟩ := HS.out.c 17 (by decide)
  go_upto_region 3 with fail
  have hs := ((((HS.out.set 20 (.int .i64 1)).set 21 (.int .i64 640)).set 16 (.int .i64 1)).set 17 (.int .i64 640))
  rw [HKS.out] at hs
  obtain ⟨W3, hW⟩ : ∃ X, ((((W2.setCell ⟨b1, 20, none⟩ (.int .i64 1)).setCell ⟨b1, 21, none⟩ (.int .i64 640)).setCell ⟨b1, 16, none⟩ (.int .i64 1)).setCell ⟨b1, 17, none⟩ (.int .i64 640)) = X := ⟨_, rfl⟩
  rw [hW] at hs ⊢
  clear hW HS c20 f20 v20 c21 f21 v21 c16 f16 v16 c17 f17 v17
  have HS := Lib.hid hs
  clear hs
  go_wp2_with fail
  refine (CS.out _).mono ?_
  rintro e w4 ⟨rfl, hb4⟩
  have hs := HS.out.call hb4
  clear hb4 HS
  dsimp only
  rename_i K' hK'
  refine hK' _ _ ?_
  clear hK'
  go_step
  go_step
  rename_i K' hK'
  refine hK' _ _ ?_
  clear hK'
  refine wpList_store_mid rfl 27 _ _ rfl w4.heap.size 0 Ss.toArray (by kernel_rfl) (by kernel_rfl) (by rw [hSz]; exact thereS_of_block (heap_alloc_new w4 (.cells #[Value.int .i64 0, Value.bool false, Value.int .i64 0, Value.int .i64 0, Value.int .i64 0, Value.int .i64 0, Value.int .i64 0, Value.int .i64 0, Value.int .i64 0, Value.int .i64 0, Value.int .i64 0, Value.int .i64 0, Value.int .i64 0, Value.int .i64 0, Value.int .i64 0, Value.int .i64 0, Value.int .i64 0, Value.int .i64 0, Value.int .i64 0, Value.int .i64 0, Value.int .i64 0, Value.int .i64 0, Value.int .i64 0, Value.int .i64 0, Value.int .i64 0, Value.int .i64 0, Value.int .i64 0, Value.int .i64 0, Value.int .i64 0, Value.int .i64 0, Value.int .i64 0, Value.int .i64 0, Value.int .i64 0, Value.int .i64 0, Value.int .i64 0, Value.int .i64 0, Value.int .i64 0, Value.int .i64 0, Value.int .i64 0, Value.int .i64 0, Value.int .i64 0, Value.int .i64 0, Value.int .i64 0, Value.int .i64 0, Value.int .i64 0, Value.int .i64 0, Value.int .i64 0, Value.int .i64 0, Value.int .i64 0, Value.int .i64 0, Value.int .i64 0, Value.int .i64 0, Value.string ⟨#[]⟩, Value.int .i64 0, Value.int .i64 0] 27))) (by rw [hSz]; exact sizeS17) (all_oneCell_toArray HSO.out) ?_
  have e55 : Ss.toArray.toList = Ss := rfl
  rw [e55]
  clear e55
  have ht := Sx.made hs.bel Ss hSl
  have hs2 := hs.call (made_below (W := w4) Ss)
  have hne : w4.heap.size ≠ b1 := by have := hs.lt; omega
  clear hs
  obtain ⟨W5, hW⟩ : ∃ X, (w4.alloc (.cells #[Value.int .i64 0, Value.bool false, Value.int .i64 0, Value.int .i64 0, Value.int .i64 0, Value.int .i64 0, Value.int .i64 0, Value.int .i64 0, Value.int .i64 0, Value.int .i64 0, Value.int .i64 0, Value.int .i64 0, Value.int .i64 0, Value.int .i64 0, Value.int .i64 0, Value.int .i64 0, Value.int .i64 0, Value.int .i64 0, Value.int .i64 0, Value.int .i64 0, Value.int .i64 0, Value.int .i64 0, Value.int .i64 0, Value.int .i64 0, Value.int .i64 0, Value.int .i64 0, Value.int .i64 0, Value.int .i64 0, Value.int .i64 0, Value.int .i64 0, Value.int .i64 0, Value.int .i64 0, Value.int .i64 0, Value.int .i64 0, Value.int .i64 0, Value.int .i64 0, Value.int .i64 0, Value.int .i64 0, Value.int .i64 0, Value.int .i64 0, Value.int .i64 0, Value.int .i64 0, Value.int .i64 0, Value.int .i64 0, Value.int .i64 0, Value.int .i64 0, Value.int .i64 0, Value.int .i64 0, Value.int .i64 0, Value.int .i64 0, Value.int .i64 0, Value.int .i64 0, Value.string ⟨#[]⟩, Value.int .i64 0, Value.int .i64 0] 27)).setCells w4.heap.size 0 Ss = X := ⟨_, rfl⟩
  rw [hW] at ht hs2 ⊢
  clear hW
  obtain ⟨b2, hq⟩ : ∃ x, w4.heap.size = x := ⟨_, rfl⟩
  rw [hq] at ht hne ⊢
  clear hq
  have HS := Lib.hid hs2
  have HT := Lib.hid ht
  have HNE := Lib.hid hne
  clear hs2 ht hne
  obtain ⟨v2, c2, f2⟩ := HT.out.c 2 (by decide)
  obtain ⟨v3, c3, f3⟩ := HT.out.c 3 (by decide)
  go_upto_region 5 with fail
  have ht := ((HT.out.set 2 (.int .i64 2)).set 3 (.int .i64 50000))
  have hs := ((HS.out.other HNE.out HT.out.hb 2 (.int .i64 2)).other HNE.out HT.out.hb 3 (.int .i64 50000))
  obtain ⟨W6, hW⟩ : ∃ X, ((W5.setCell ⟨b2, 2, none⟩ (.int .i64 2)).setCell ⟨b2, 3, none⟩ (.int .i64 50000)) = X := ⟨_, rfl⟩
  rw [hW] at hs ht ⊢
  clear hW HS HT c2 f2 v2 c3 f3 v3
  have HS := Lib.hid hs
  have HT := Lib.hid ht
  clear hs ht
  obtain ⟨v28, c28, f28⟩ := HT.out.c 28 (by decide)
  obtain ⟨v29, c29, f29⟩ := HT.out.c 29 (by decide)
  obtain ⟨v24, c24, f24⟩ := HT.out.c 24 (by decide)
  obtain ⟨v25, c25, f25⟩ := HT.out.c 25 (by decide)
  go_upto_region 6 with fail
  have ht := ((((HT.out.set 28 (.int .i64 1)).set 29 (.int .i64 64)).set 24 (.int .i64 1)).set 25 (.int .i64 64))
  have hs := ((((HS.out.other HNE.out HT.out.hb 28 (.int .i64 1)).other HNE.out HT.out.hb 29 (.int .i64 64)).other HNE.out HT.out.hb 24 (.int .i64 1)).other HNE.out HT.out.hb 25 (.int .i64 64))
  obtain ⟨W7, hW⟩ : ∃ X, ((((W6.setCell ⟨b2, 28, none⟩ (.int .i64 1)).setCell ⟨b2, 29, none⟩ (.int .i64 64)).setCell ⟨b2, 24, none⟩ (.int .i64 1)).setCell ⟨b2, 25, none⟩ (.int .i64 64)) = X := ⟨_, rfl⟩
  rw [hW] at hs ht ⊢
  clear hW HS HT c28 f28 v28 c29 f29 v29 c24 f24 v24 c25 f25 v25
  have HS := Lib.hid hs
  have HT := Lib.hid ht
  clear hs ht
  have ht := HT.out
  rw [HKT.out] at ht
  clear HT
  have HT := Lib.hid ht
  clear ht
  refine wp_region_lit ?_
  refine wpList_load_mid rfl 27 _ rfl b2 0 rfl E2 _ HT.out.rng Try.underlying27 rfl (by rw [sizeS17, L2]) ?_
  go_step
  go_step
  rename_i K' hK'
  refine hK' _ _ ?_
  clear hK'
  refine wpList_store_mid rfl 27 _ _ rfl W7.heap.size 0 E2.toArray (by kernel_rfl) (by kernel_rfl) (by rw [hEz]; exact thereS_of_block (heap_alloc_new W7 (.cells #[Value.int .i64 0, Value.bool false, Value.int .i64 0, Value.int .i64 0, Value.int .i64 0, Value.int .i64 0, Value.int .i64 0, Value.int .i64 0, Value.int .i64 0, Value.int .i64 0, Value.int .i64 0, Value.int .i64 0, Value.int .i64 0, Value.int .i64 0, Value.int .i64 0, Value.int .i64 0, Value.int .i64 0, Value.int .i64 0, Value.int .i64 0, Value.int .i64 0, Value.int .i64 0, Value.int .i64 0, Value.int .i64 0, Value.int .i64 0, Value.int .i64 0, Value.int .i64 0, Value.int .i64 0, Value.int .i64 0, Value.int .i64 0, Value.int .i64 0, Value.int .i64 0, Value.int .i64 0, Value.int .i64 0, Value.int .i64 0, Value.int .i64 0, Value.int .i64 0, Value.int .i64 0, Value.int .i64 0, Value.int .i64 0, Value.int .i64 0, Value.int .i64 0, Value.int .i64 0, Value.int .i64 0, Value.int .i64 0, Value.int .i64 0, Value.int .i64 0, Value.int .i64 0, Value.int .i64 0, Value.int .i64 0, Value.int .i64 0, Value.int .i64 0, Value.int .i64 0, Value.string ⟨#[]⟩, Value.int .i64 0, Value.int .i64 0] 27))) (by rw [hEz]; exact sizeS17) (all_oneCell_toArray HO2.out) ?_
  have e55 : E2.toArray.toList = E2 := rfl
  rw [e55]
  clear e55
  have hu := Sx.made HT.out.bel E2 L2
  have hs2 := HS.out.call (made_below (W := W7) E2)
  have ht2 := HT.out.call (made_below (W := W7) E2)
  have hn1 : W7.heap.size ≠ b1 := by have := HS.out.lt; omega
  have hn2 : W7.heap.size ≠ b2 := by have := HT.out.lt; omega
  obtain ⟨W8, hW⟩ : ∃ X, (W7.alloc (.cells #[Value.int .i64 0, Value.bool false, Value.int .i64 0, Value.int .i64 0, Value.int .i64 0, Value.int .i64 0, Value.int .i64 0, Value.int .i64 0, Value.int .i64 0, Value.int .i64 0, Value.int .i64 0, Value.int .i64 0, Value.int .i64 0, Value.int .i64 0, Value.int .i64 0, Value.int .i64 0, Value.int .i64 0, Value.int .i64 0, Value.int .i64 0, Value.int .i64 0, Value.int .i64 0, Value.int .i64 0, Value.int .i64 0, Value.int .i64 0, Value.int .i64 0, Value.int .i64 0, Value.int .i64 0, Value.int .i64 0, Value.int .i64 0, Value.int .i64 0, Value.int .i64 0, Value.int .i64 0, Value.int .i64 0, Value.int .i64 0, Value.int .i64 0, Value.int .i64 0, Value.int .i64 0, Value.int .i64 0, Value.int .i64 0, Value.int .i64 0, Value.int .i64 0, Value.int .i64 0, Value.int .i64 0, Value.int .i64 0, Value.int .i64 0, Value.int .i64 0, Value.int .i64 0, Value.int .i64 0, Value.int .i64 0, Value.int .i64 0, Value.int .i64 0, Value.int .i64 0, Value.string ⟨#[]⟩, Value.int .i64 0, Value.int .i64 0] 27)).setCells W7.heap.size 0 E2 = X := ⟨_, rfl⟩
  rw [hW] at hu hs2 ht2 ⊢
  clear hW
  obtain ⟨b3, hq⟩ : ∃ x, W7.heap.size = x := ⟨_, rfl⟩
  rw [hq] at hu hn1 hn2 ⊢
  clear hq HS HT
  have HS := Lib.hid hs2
  have HT := Lib.hid ht2
  have HU := Lib.hid hu
  have HN1 := Lib.hid hn1
  have HN2 := Lib.hid hn2
  clear hs2 ht2 hu hn1 hn2
  obtain ⟨v1, c1, f1⟩ := HU.out.c 1 (by decide)
  go_upto_region 8 with fail
  have hu := HU.out.set 1 (.bool true)
  rw [HKU.out] at hu
  have hs := HS.out.other HN1.out HU.out.hb 1 (.bool true)
  have ht := HT.out.other HN2.out HU.out.hb 1 (.bool true)
  obtain ⟨W9, hW⟩ : ∃ X, W8.setCell ⟨b3, 1, none⟩ (.bool true) = X := ⟨_, rfl⟩
  rw [hW] at hs ht hu ⊢
  clear hW HS HT HU c1 f1 v1
  have HS := Lib.hid hs
  have HT := Lib.hid ht
  have HU := Lib.hid hu
  clear hs ht hu
  refine wp_region_lit ?_
  refine wpList_step (fun K hK => ?_)
  rw [if_pos (by kernel_rfl)]
  refine wp_load_mid 27 _ rfl b1 0 (by kernel_rfl) E1 _ HS.out.rng Try.underlying27 rfl (by rw [sizeS17, L1]) ?_
  refine hK _ _ ?_
  clear hK
  refine wpList_step (fun K hK => ?_)
  rw [if_pos (by kernel_rfl)]
  refine wp_build3 29 _ _ _ rfl (.agg E1.toArray) (.int .i64 6400) (.int .i64 (-1)) (.agg A1.toArray) (by kernel_rfl) (by kernel_rfl) (by kernel_rfl) R1.out ?_
  refine hK _ _ ?_
  clear hK
  refine wpList_step (fun K hK => ?_)
  rw [if_pos (by kernel_rfl)]
  go_simp
  refine (D1.out _).mono ?_
  rintro e wa ⟨rfl, hb⟩
  have HS2 := Lib.hid (HS.out.call hb)
  clear HS
  have HS := HS2
  clear HS2
  have HT2 := Lib.hid (HT.out.call hb)
  clear HT
  have HT := HT2
  clear HT2
  have HU2 := Lib.hid (HU.out.call hb)
  clear HU
  have HU := HU2
  clear HU2
  clear hb
  dsimp only
  refine hK _ _ ?_
  clear hK
  refine wpList_step (fun K hK => ?_)
  go_simp
  refine hK _ _ ?_
  clear hK
  refine wpList_step (fun K hK => ?_)
  go_simp
  refine hK _ _ ?_
  clear hK
  refine wpList_step (fun K hK => ?_)
  rw [if_pos (by kernel_rfl)]
  refine wp_load_mid 27 _ rfl b2 0 (by kernel_rfl) E2 _ HT.out.rng Try.underlying27 rfl (by rw [sizeS17, L2]) ?_
  refine hK _ _ ?_
  clear hK
  refine wpList_step (fun K hK => ?_)
  rw [if_pos (by kernel_rfl)]
  refine wp_build3 29 _ _ _ rfl (.agg E2.toArray) (.int .i64 6400) (.int .i64 (-1)) (.agg A2.toArray) (by kernel_rfl) (by kernel_rfl) (by kernel_rfl) R2.out ?_
  refine hK _ _ ?_
  clear hK
  refine wpList_step (fun K hK => ?_)
  rw [if_pos (by kernel_rfl)]
  go_simp
  refine (D2.out _).mono ?_
  rintro e wb ⟨rfl, hb⟩
  have HS2 := Lib.hid (HS.out.call hb)
  clear HS
  have HS := HS2
  clear HS2
  have HT2 := Lib.hid (HT.out.call hb)
  clear HT
  have HT := HT2
  clear HT2
  have HU2 := Lib.hid (HU.out.call hb)
  clear HU
  have HU := HU2
  clear HU2
  clear hb
  dsimp only
  refine hK _ _ ?_
  clear hK
  refine wpList_step (fun K hK => ?_)
  go_simp
  refine hK _ _ ?_
  clear hK
  refine wpList_step (fun K hK => ?_)
  go_simp
  refine hK _ _ ?_
  clear hK
  refine wpList_step (fun K hK => ?_)
  go_simp
  refine hK _ _ ?_
  clear hK
  refine wpList_step (fun K hK => ?_)
  rw [if_pos (by kernel_rfl)]
  refine wp_load_mid 27 _ rfl b3 0 (by kernel_rfl) E3 _ HU.out.rng Try.underlying27 rfl (by rw [sizeS17, L3]) ?_
  refine hK _ _ ?_
  clear hK
  refine wpList_step (fun K hK => ?_)
  rw [if_pos (by kernel_rfl)]
  refine wp_build3 29 _ _ _ rfl (.agg E3.toArray) (.int .i64 6400) (.int .i64 (-1)) (.agg A3.toArray) (by kernel_rfl) (by kernel_rfl) (by kernel_rfl) R3.out ?_
  refine hK _ _ ?_
  clear hK
  refine wpList_step (fun K hK => ?_)
  rw [if_pos (by kernel_rfl)]
  go_simp
  refine (D3.out _).mono ?_
  rintro e wd ⟨rfl, hb⟩
  have HS2 := Lib.hid (HS.out.call hb)
  clear HS
  have HS := HS2
  clear HS2
  have HT2 := Lib.hid (HT.out.call hb)
  clear HT
  have HT := HT2
  clear HT2
  have HU2 := Lib.hid (HU.out.call hb)
  clear HU
  have HU := HU2
  clear HU2
  clear hb
  dsimp only
  refine hK _ _ ?_
  clear hK
  go_wp2_with fail
  go_ret
  exact ⟨rfl, HS.out.bel⟩
end Go.Proofs.Ythfabalnioggcaa
