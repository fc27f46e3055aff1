/- Joined texts: StlR StlS. -/
import Derived.Test.YtlngipglhlhhbaaStlW8
import Derived.Laws.IdiomCopy
namespace Go.Proofs.Ytlngipglhlhhbaa
open Go.RowKit TreN LexP FixP SynP ValP PropP FixM
set_option linter.unusedVariables false

set_option maxRecDepth 100000 in
set_option maxHeartbeats 1000000 in
theorem mul64_37 (w : World) : Calls Try.prog 33 #[.int .u64 1, .int .u64 37] w fun e w' => e = .returned (.tuple #[.int .u64 0, .int .u64 37]) ∧ w = w' := by
  go_enter Try.func33, Try.ntmps33
  go_wp2_with fail
  go_ret2
  exact ⟨rfl, rfl⟩
set_option maxRecDepth 100000 in
set_option maxHeartbeats 1000000 in
theorem mul_37 (w : World) : Calls Try.prog 19 #[.int .u64 1, .int .u64 37] w fun e w' => e = .returned (.tuple #[.int .u64 0, .int .u64 37]) ∧ w = w' := by
  go_enter Try.func19, Try.ntmps19
  go_wp2_with fail
  refine (mul64_37 _).mono ?_
  rintro e w' ⟨rfl, rfl⟩
  go_wp2_with fail
  go_ret2
  exact ⟨rfl, rfl⟩
/-- a copy of elements of four cells -/
theorem run_copy4 (w : World) (dT sT ty elem : TypeId) (b o dLen dCap : Nat) (a : Addr) (sLen sCap n : Nat) (cs : List Value)
    (hu : Try.prog.underlying dT = some (.slice elem)) (hs : (Try.prog.info? elem).map (·.size) = some 4) (hn : n = Nat.min sLen dLen) (hl4 : cs.length = n * 4)
    (hsrc : ∀ j v, cs[j]? = some v → w.cell? (a.add j) = some v) (hc : ∀ j, j < cs.length → (w.cell? ⟨b, o + j, none⟩).isSome = true) (hf : ∀ j, j < cs.length → w.frozen? ⟨b, o + j, none⟩ = false) (h1 : ∀ v ∈ cs, v.oneCell' = true) :
    (Builtin.copy_ #[dT, sT] ty #[.slice (some ⟨b, o, none⟩) dLen dCap, .slice (some a) sLen sCap]).run Try.prog w = .ok (goInt n) (w.setCells b o cs) := by
  have hl := run_loadCells_list (P := Try.prog) w a cs hsrc
  have hst := run_storeCells_cells (P := Try.prog) b o cs 0 w (by simpa using hc) (by simpa using hf) h1
  cases hq : Try.prog.info? elem with
  | none => simp [hq] at hs
  | some i =>
    have hi : i.size = 4 := by simpa [hq] using hs
    rw [hl4] at hl
    simp [Builtin.copy_, run_underlying hu, Builtin.lenOf, Builtin.firstCells, sizeOf, typeInfo, hq, hi, ← hn, hl, hst]
theorem wpList_copy4 {w : World} {ops : Array Oper} {rest : List Oper} {op : Oper} {a : Act} {Q : Exit → Act → World → Prop} (hgd : op.guard = none) (d s : Operand) (dT sT : TypeId)
    (ho : op.op = .call { callee := .builtin .copy, args := #[d, s], argTypes := #[dT, sT] }) (elem : TypeId) (hu : Try.prog.underlying dT = some (.slice elem)) (hsz : (Try.prog.info? elem).map (·.size) = some 4)
    (b o dLen dCap : Nat) (ad : Addr) (sLen sCap n : Nat) (hd : a.eval d = .slice (some ⟨b, o, none⟩) dLen dCap) (hs : a.eval s = .slice (some ad) sLen sCap)
    (cs : List Value) (hn : n = Nat.min sLen dLen) (hl4 : cs.length = n * 4)
    (hsrc : ∀ j v, cs[j]? = some v → w.cell? (ad.add j) = some v) (hc : ∀ j, j < cs.length → (w.cell? ⟨b, o + j, none⟩).isSome = true ∧ w.frozen? ⟨b, o + j, none⟩ = false) (h1 : ∀ v ∈ cs, v.oneCell' = true)
    (h : wpList Try.prog ops Q rest (a.put op.dst (goInt n)) (w.setCells b o cs)) : wpList Try.prog ops Q (op :: rest) a w := by
  refine wpList_plain hgd fun K hK => ?_
  have hrun := run_copy4 w dT sT op.type elem b o dLen dCap ad sLen sCap n cs hu hsz hn hl4 hsrc (fun j hj => (hc j hj).1) (fun j hj => (hc j hj).2) h1
  unfold Oper.wp
  simp [execOp, ho, resolve, invoke, builtin, hd, hs, hrun, Result.andThen]
  exact hK _ _ h
theorem size_setCells (w : World) (b : Nat) : ∀ (vs : List Value) (o : Nat), w.heap.size ≤ (w.setCells b o vs).heap.size := by
  intro vs
  induction vs generalizing w with
  | nil => intro o; exact Nat.le_refl _
  | cons v r ih => intro o; exact Nat.le_trans (by simp) (ih (w.setCell ⟨b, o, none⟩ v) (o + 1))
def zv17 : Array Value := #[.int .i64 0, .int .i64 0, .int .i64 0, .string ⟨#[]⟩]
theorem made_size : (madeCells zv17 148).size = 148 := size_madeCells _ _
theorem info_val17 : (Try.prog.info? 34).map (fun i => (i.zero, i.size, i.bytes)) = some (some (.agg zv17), 4, 40) := by kernel_rfl
theorem make_vals (u : World) : (Instr.makeSlice 32 (.int .i64 37) (.int .i64 37)).run Try.prog u = .ok (.slice (some ⟨u.heap.size, 0, none⟩) 37 37) (u.alloc (.cells (madeCells zv17 148) 34)) := by
  cases hq : Try.prog.info? 34 with
  | none => have := info_val17; simp [hq] at this
  | some i =>
    have hi := info_val17
    simp only [hq, Option.map_some, Option.some.injEq, Prod.mk.injEq] at hi
    obtain ⟨hz0, hz1, hz2⟩ := hi
    have h := run_make (P := Try.prog) u 32 34 i (.agg zv17) Try.underlying32 hq hz0 .i64 .i64 37 37 (by omega) (Int.le_refl _) (by rw [hz2]; omega) (by omega)
    rw [hz1] at h
    exact h
theorem sizeV : (Try.prog.info? 34).map (·.size) = some 4 := by kernel_rfl
def vcC (v : Val) (j : Nat) : Value := if j = 0 then .int .i64 v.kind else if j = 1 then .int .i64 v.n else if j = 2 then .int .i64 v.d else .string ⟨v.name.toArray⟩
theorem vcC_one (v : Val) (j : Nat) : (vcC v j).oneCell' = true := by
  unfold vcC
  repeat' split
  all_goals rfl
/-- a row of 37 values of which the first k are v -/
structure Rp (W : World) (g k : Nat) (v : Val) : Prop where
  there : W.there g 0 148
  at_ : ∀ c, c < k * 4 → W.cell? ⟨g, c, none⟩ = some (vcC v (c % 4))
def rpL (v : Val) (m : Nat) : List Value := (List.range (m * 4)).map (fun c => vcC v (c % 4))
theorem rpL_len (v : Val) (m : Nat) : (rpL v m).length = m * 4 := by unfold rpL; simp
theorem rpL_get (v : Val) (m j : Nat) (u : Value) (h : (rpL v m)[j]? = some u) : j < m * 4 ∧ u = vcC v (j % 4) := by
  have hj : j < m * 4 := by have := (List.getElem?_eq_some_iff.1 h).1; rw [rpL_len] at this; exact this
  unfold rpL at h
  simp [hj] at h
  exact ⟨hj, h.symm⟩
theorem rpL_one (v : Val) (m : Nat) : ∀ u, u ∈ rpL v m → u.oneCell' = true := fun u hu => by
  unfold rpL at hu
  obtain ⟨c, _, rfl⟩ := List.mem_map.1 hu
  exact vcC_one v _
theorem Rp.more {W : World} {g k m : Nat} {v : Val} (h : Rp W g k v) (hm : k + m ≤ 37) : Rp (W.setCells g (k * 4) (rpL v m)) g (k + m) v := by
  have hc : ∀ j, j < (rpL v m).length → (W.cell? ⟨g, k * 4 + j, none⟩).isSome = true := fun j hj => by
    rw [rpL_len] at hj
    have := (h.there (k * 4 + j) (by omega)).1
    rw [Nat.zero_add] at this
    exact this
  refine ⟨World.there_setCells h.there _ _ _, fun c hcl => ?_⟩
  by_cases hk : c < k * 4
  · rw [World.cell?_setCells_out g _ _ _ _ (fun _ _ => Or.inl hk)]
    exact h.at_ c hk
  · obtain ⟨j, rfl⟩ : ∃ j, c = k * 4 + j := ⟨c - k * 4, by omega⟩
    have hj : j < (rpL v m).length := by rw [rpL_len]; omega
    rw [World.cell?_setCells_in g (rpL v m) (k * 4) W hc j hj]
    have e : (rpL v m)[j]? = some (rpL v m)[j] := List.getElem?_eq_getElem hj
    have e2 := (rpL_get v m j _ e).2
    rw [e2]
    have e3 : (k * 4 + j) % 4 = j % 4 := by omega
    rw [e3]
theorem Rp.drewY {W : World} {g k : Nat} {v : Val} (h : Rp W g k v) : Rp W.drew g k v := ⟨fun j hj => h.there j hj, h.at_⟩
theorem Rp.zero {W : World} {g : Nat} {v : Val} {t : TypeId} (h : W.heap[g]? = some (.cells (madeCells zv17 148) t (0, 0))) : Rp W g 0 v := by
  have ht := there_of_block h
  rw [made_size] at ht
  exact ⟨ht, fun c hc => by omega⟩

set_option maxRecDepth 100000 in
set_option maxHeartbeats 4000000 in
theorem repeat_37 (b cap : Nat) (v : Val) (w : World) (h0 : w.cell? ⟨b, 0, none⟩ = some (.int .i64 v.kind)) (h1 : w.cell? ⟨b, 1, none⟩ = some (.int .i64 v.n)) (h2 : w.cell? ⟨b, 2, none⟩ = some (.int .i64 v.d)) (h3 : w.cell? ⟨b, 3, none⟩ = some (.string ⟨v.name.toArray⟩)) :
    Calls Try.prog 13 #[.slice (some ⟨b, 0, none⟩) 1 cap, .int .i64 37] w fun e w' => ∃ g, e = .returned (.slice (some ⟨g, 0, none⟩) 37 37) ∧ w.heap.size ≤ g ∧ g < w'.heap.size ∧ Below w.heap.size w w' ∧ Rp w' g 37 v := by
  have hmk := fun u => make_vals u
  have hb := below_one7h w (.cells (madeCells zv17 148) 34)
  have hr0 : Rp (w.alloc (.cells (madeCells zv17 148) 34)) w.heap.size 0 v := Rp.zero (heap_alloc_new w _)
  have hsrc : ∀ j u, (rpL v 1)[j]? = some u → (w.alloc (.cells (madeCells zv17 148) 34)).cell? ((⟨b, 0, none⟩ : Addr).add j) = some u := fun j u hj => by
    obtain ⟨hj, rfl⟩ := rpL_get v 1 j u hj
    rw [Addr.add_mid, Nat.zero_add]
    have hbl : b < w.heap.size := World.block_lt_of_cell? w _ h0
    rw [hb.cell (p := ⟨b, j, none⟩) hbl]
    match j, hj with
    | 0, _ => exact h0
    | 1, _ => exact h1
    | 2, _ => exact h2
    | 3, _ => exact h3
  obtain ⟨g, hg⟩ : ∃ g, w.heap.size = g := ⟨_, rfl⟩
  have hgl : g < (w.alloc (.cells (madeCells zv17 148) 34)).heap.size := by simp; omega
  have HG := Lib.hid hg
  clear h0 h1 h2 h3
  go_enter Try.func13, Try.ntmps13
  go_wp2_with fail
  refine (mul_37 _).mono ?_
  rintro e w' ⟨rfl, rfl⟩
  go_upto_region 7 with fail
  generalize w.alloc (.cells (madeCells zv17 148) 34) = W1 at *
  rw [hg] at hr0 hb
  have hr1 := hr0.more (m := 1) (by omega)
  have hb1 : Below g w (W1.setCells g (0 * 4) (rpL v 1)) := below_setCells hb g (Nat.le_refl g) _ _
  have hbl : g < (W1.setCells g (0 * 4) (rpL v 1)).heap.size := Nat.lt_of_lt_of_le hgl (size_setCells W1 g (rpL v 1) (0 * 4))
  have hth : ∀ j, j < (rpL v 1).length → (W1.cell? ⟨g, 0 + j, none⟩).isSome = true ∧ W1.frozen? ⟨g, 0 + j, none⟩ = false := fun j hj => hr0.there j (by rw [rpL_len] at hj; omega)
  have HR := Lib.hid hr1
  have HB := Lib.hid hb1
  have HL := Lib.hid hbl
  clear hr0 hb hr1 hb1 hgl hg hbl
  have hcp : (Builtin.copy_ #[32, 32] 3 #[.slice (some ⟨g, 0, none⟩) 37 37, .slice (some ⟨b, 0, none⟩) 1 cap]).run Try.prog W1 = .ok (.int .i64 1) (W1.setCells g 0 (rpL v 1)) :=
    run_copy4 W1 _ _ _ 34 g 0 37 37 ⟨b, 0, none⟩ 1 cap 1 (rpL v 1) Try.underlying32 sizeV rfl (rpL_len v 1) hsrc (fun j hj => (hth j hj).1) (fun j hj => (hth j hj).2) (rpL_one v 1)
  have e0 : W1.setCells g (0 * 4) (rpL v 1) = W1.setCells g 0 (rpL v 1) := rfl
  rw [e0] at HR HB HL
  generalize W1.setCells g 0 (rpL v 1) = W2 at *
  clear hsrc hth e0
  go_wp2_with fail
  go_loopw [8] (fun vn wr => ∃ k : Nat, vn = .int .i64 k ∧ 1 ≤ k ∧ k ≤ 37 ∧ Hid (Below g w wr) ∧ Hid (g < wr.heap.size) ∧ Hid (Rp wr g k v)) (fun vn _ => 37 - (intOf vn).toNat)
  case atStart => exact ⟨1, rfl, by omega, by omega, HB, HL, HR⟩
  case round =>
    clear HR HB HL hcp
    obtain ⟨k, rfl, hk1, hk, HB, HL, HR⟩ := hrel
    by_cases hlt : k < 37
    · have hltz : (k : Int) < 37 := by omega
      have hkz1 : (1 : Int) ≤ (k : Int) := by omega
      obtain ⟨m, hm⟩ : ∃ m, Nat.min k (37 - k) = m := ⟨_, rfl⟩
      have hm1 : 1 ≤ m := by rw [← hm]; exact Nat.le_min.2 ⟨hk1, by omega⟩
      have hm2 : m ≤ k := by rw [← hm]; exact Nat.min_le_left _ _
      have hm3 : k + m ≤ 37 := by have : m ≤ 37 - k := by rw [← hm]; exact Nat.min_le_right _ _
                                  omega
      have hk4 : (k : Int) ≤ 37 := by omega
      have hmz : (m : Int) ≤ 37 := by omega
      have hmz0 : (1 : Int) ≤ (m : Int) := by omega
      have hcp : (Builtin.copy_ #[32, 32] 3 #[.slice (some ⟨g, k * 4, none⟩) (37 - k) (37 - k), .slice (some ⟨g, 0, none⟩) k 37]).run Try.prog wr.drew = .ok (.int .i64 (m : Int)) (wr.drew.setCells g (k * 4) (rpL v m)) := by
        refine run_copy4 wr.drew _ _ _ 34 g (k * 4) (37 - k) (37 - k) ⟨g, 0, none⟩ k 37 m (rpL v m) Try.underlying32 sizeV hm.symm (rpL_len v m) (fun j u hj => ?_) (fun j hj => ?_) (fun j hj => ?_) (rpL_one v m)
        · obtain ⟨hj, rfl⟩ := rpL_get v m j u hj
          rw [Addr.add_mid, Nat.zero_add]
          exact HR.out.at_ j (by omega)
        · rw [rpL_len] at hj
          have := (HR.out.there (k * 4 + j) (by omega)).1
          rw [Nat.zero_add] at this
          exact this
        · rw [rpL_len] at hj
          have := (HR.out.there (k * 4 + j) (by omega)).2
          rw [Nat.zero_add] at this
          exact this
      have HR2 := Lib.hid ((HR.out.drewY).more (m := m) hm3)
      have HB2 := Lib.hid (below_setCells HB.out.drew g (Nat.le_refl g) (rpL v m) (k * 4))
      have HL2 := Lib.hid (Nat.lt_of_lt_of_le (show g < wr.drew.heap.size from HL.out) (size_setCells wr.drew g (rpL v m) (k * 4)))
      obtain ⟨k2, hk2⟩ : ∃ k2, k + m = k2 := ⟨_, rfl⟩
      rw [hk2] at HR2
      have hw : IntKind.i64.wrap ((k : Int) + (m : Int)) = (k2 : Int) := by
        have e : (k : Int) + (m : Int) = (k2 : Int) := by omega
        rw [e]
        exact IntWalk.i64_in _ (by omega)
      have hq1 : 1 ≤ k2 := by omega
      have hq2 : k2 ≤ 37 := by omega
      have hq3 : 37 - (k2 : Int).toNat < 37 - (k : Int).toNat := by omega
      clear hm HR HB HL
      generalize wr.drew.setCells g (k * 4) (rpL v m) = W3 at *
      go_upto_region 9 with fail
      go_region_with fail
      all_goals
        refine ⟨?rel, ?measure⟩
        case rel =>
          repeat apply Exists.intro
          exact ⟨⟨k2, rfl, hq1, hq2, HB2, HL2, HR2⟩, rfl⟩
        case measure =>
          exact hq3
    · have hkn : k = 37 := by omega
      subst hkn
      go_wp2_with fail
      go_ret
      exact ⟨g, rfl, by have := HG.out; omega, HL.out, HG.out ▸ HB.out, HR.out⟩
end Go.Proofs.Ytlngipglhlhhbaa

namespace Go.Proofs.Ytlngipglhlhhbaa
open Go.RowKit TreN LexP FixP SynP ValP PropP FixM
set_option linter.unusedVariables false

def z55 : List Value := [Value.int .i64 0, Value.bool false, Value.int .i64 0, Value.int .i64 0, Value.int .i64 0, Value.int .i64 0, Value.int .i64 0, Value.int .i64 0, Value.int .i64 0, Value.int .i64 0, Value.int .i64 0, Value.int .i64 0, Value.int .i64 0, Value.int .i64 0, Value.int .i64 0, Value.int .i64 0, Value.int .i64 0, Value.int .i64 0, Value.int .i64 0, Value.int .i64 0, Value.int .i64 0, Value.int .i64 0, Value.int .i64 0, Value.int .i64 0, Value.int .i64 0, Value.int .i64 0, Value.int .i64 0, Value.int .i64 0, Value.int .i64 0, Value.int .i64 0, Value.int .i64 0, Value.int .i64 0, Value.int .i64 0, Value.int .i64 0, Value.int .i64 0, Value.int .i64 0, Value.int .i64 0, Value.int .i64 0, Value.int .i64 0, Value.int .i64 0, Value.int .i64 0, Value.int .i64 0, Value.int .i64 0, Value.int .i64 0, Value.int .i64 0, Value.int .i64 0, Value.int .i64 0, Value.int .i64 0, Value.int .i64 0, Value.int .i64 0, Value.int .i64 0, Value.int .i64 0, Value.string ⟨#[]⟩, Value.int .i64 0, Value.int .i64 0]
def sL : List Value := [Value.int .i64 0, Value.bool false, Value.int .i64 0, Value.int .i64 0, Value.int .i64 0, Value.int .i64 0, Value.int .i64 0, Value.int .i64 0, Value.int .i64 0, Value.int .i64 0, Value.int .i64 6, Value.int .i64 0, Value.int .i64 6, Value.int .i64 0, Value.int .i64 1, Value.int .i64 0, Value.int .i64 1, Value.int .i64 0, Value.int .i64 1, Value.int .i64 0, Value.int .i64 1, Value.int .i64 0, Value.int .i64 1, Value.int .i64 0, Value.int .i64 1, Value.int .i64 0, Value.int .i64 1, Value.int .i64 0, Value.int .i64 1, Value.int .i64 0, Value.int .i64 0, Value.int .i64 0, Value.int .i64 0, Value.int .i64 0, Value.int .i64 0, Value.int .i64 0, Value.int .i64 0, Value.int .i64 0, Value.int .i64 0, Value.int .i64 1000, Value.int .i64 0, Value.int .i64 0, Value.int .i64 0, Value.int .i64 0, Value.int .i64 0, Value.int .i64 0, Value.int .i64 0, Value.int .i64 1, Value.int .i64 0, Value.int .i64 1, Value.int .i64 0, Value.int .i64 0, Value.string ⟨#[]⟩, Value.int .i64 1024, Value.int .i64 1200]
theorem cells17_congr (As : List Value) (G G' : Nat → Option Val) (pf x y : Int) (h : ∀ p, 1 ≤ p → p ≤ 37 → G p = G' p) : cells17 As G pf x y = cells17 As G' pf x y := by
  unfold cells17
  rw [h 36 (by decide) (by decide)]
  refine List.map_congr_left (fun c hc => ?_)
  have hb := cells_pof ⟨c, List.mem_range.1 hc⟩
  simp only at hb
  unfold stS
  rw [h (pofC c) hb.2.2.1 hb.2.2.2]
set_option maxRecDepth 100000 in
theorem start_is : cells17 z55 (fun p => some (firstZ (p : Int))) 0 0 0 = sL := by kernel_rfl
def iv : Val := ⟨1, 29, 0, []⟩
theorem iv_takes : ∀ p : Fin 38, 1 ≤ p.val → takesP (p.val : Int) iv = true := by decide
theorem iv_word : wordS iv = iniT := by decide
theorem ini_word : wordP iniT = 29 := by decide
theorem hasS_iv (p : Nat) (h1 : 1 ≤ p) (h2 : p ≤ 37) : hasS (List.replicate 37 iv) p = some (firstZ (p : Int)) := by
  have ht : tellS (List.replicate 37 iv) p = some iv := by
    unfold tellS
    rw [List.getElem?_replicate, if_pos (by omega)]
    simp only
    have := iv_takes ⟨p, by omega⟩ h1
    simp only at this
    rw [if_pos this]
  unfold hasS
  rw [ht]
  exact hasO_ini iv p iv_word
theorem Rp.td {W : World} {g : Nat} (hg : g < W.heap.size) (h : Rp W g 37 iv) : Td W (some ⟨g, 0, none⟩) 37 (List.replicate 37 iv) := by
  refine ⟨by simp, Or.inr ⟨g, 0, rfl, hg, fun i hi => ?_⟩, fun v hv => by rw [List.eq_of_mem_replicate hv]; exact Nat.zero_le _⟩
  have hi2 : i < 37 := by simpa using hi
  have e : (List.replicate 37 iv)[i] = iv := List.eq_of_mem_replicate (List.getElem_mem hi)
  rw [e, Nat.zero_add]
  have c0 := h.at_ (i * 4) (by omega)
  have c1 := h.at_ (i * 4 + 1) (by omega)
  have c2 := h.at_ (i * 4 + 2) (by omega)
  have c3 := h.at_ (i * 4 + 3) (by omega)
  rw [show (i * 4) % 4 = 0 by omega] at c0
  rw [show (i * 4 + 1) % 4 = 1 by omega] at c1
  rw [show (i * 4 + 2) % 4 = 2 by omega] at c2
  rw [show (i * 4 + 3) % 4 = 3 by omega] at c3
  exact ⟨c0, c1, c2, c3⟩
theorem z55_one : ∀ v, v ∈ z55 → v.oneCell' = true := by
  intro v hv
  unfold z55 at hv
  simp only [List.mem_cons, List.not_mem_nil, or_false] at hv
  repeat' (rcases hv with rfl | hv; · rfl)

theorem sL_one : ∀ v, v ∈ sL → v.oneCell' = true := by
  intro v hv
  unfold sL at hv
  simp only [List.mem_cons, List.not_mem_nil, or_false] at hv
  repeat' (rcases hv with rfl | hv; · rfl)

set_option maxRecDepth 100000 in
set_option maxHeartbeats 4000000 in
theorem start17_any (w : World) : Calls Try.prog 8 #[] w fun e w' => e = .returned (.agg sL.toArray) ∧ Below w.heap.size w w' := by
  have CW0 : ∀ W, Calls Try.prog 12 #[.string ⟨#[105, 110, 105, 116, 105, 97, 108]⟩] W fun e w' => e = .returned (.int .i64 29) ∧ Below W.heap.size W w' := fun W => by
    have h := Word_any iniT W
    rw [ini_word] at h
    exact h
  have CW := Lib.hid CW0
  clear CW0
  have CR := Lib.hid (fun b cap W => repeat_37 b cap iv W)
  unfold iv at CR
  simp only at CR
  have CC := Lib.hid (fun a n cap L W (hT : Td W a n L) => compute17_any a n cap L z55 0 0 0 W rfl z55_one rfl hT)
  obtain ⟨Cs, hCs⟩ : ∃ Cs, sL = Cs := ⟨_, rfl⟩
  have HCS : Hid (cells17 z55 (fun p => some (firstZ (p : Int))) 0 0 0 = Cs) := start_is.trans hCs
  have HCL : Hid (Cs.length = 55) := by rw [← hCs]; rfl
  have HC1 : Hid (∀ v, v ∈ Cs → v.oneCell' = true) := by rw [← hCs]; exact sL_one
  rw [hCs]
  clear hCs
  have hr0 := there_of_block (heap_alloc_new w (.cells z55.toArray 27))
  have hb0 := below_one7h w (.cells z55.toArray 27)
  have hz : w.heap.size < (w.alloc (.cells z55.toArray 27)).heap.size := by simp
  have hr1 : (w.alloc (.cells z55.toArray 27)).there w.heap.size 0 55 := hr0
  have HR := Lib.hid hr1
  have HB := Lib.hid hb0
  have HZ := Lib.hid hz
  clear hr0 hb0 hz hr1
  unfold z55 at HR HB HZ CC HCS
  go_enter Try.func8, Try.ntmps8
  go_upto_region 1 with fail
  generalize w.alloc (.cells #[Value.int .i64 0, Value.bool false, Value.int .i64 0, Value.int .i64 0, Value.int .i64 0, Value.int .i64 0, Value.int .i64 0, Value.int .i64 0, Value.int .i64 0, Value.int .i64 0, Value.int .i64 0, Value.int .i64 0, Value.int .i64 0, Value.int .i64 0, Value.int .i64 0, Value.int .i64 0, Value.int .i64 0, Value.int .i64 0, Value.int .i64 0, Value.int .i64 0, Value.int .i64 0, Value.int .i64 0, Value.int .i64 0, Value.int .i64 0, Value.int .i64 0, Value.int .i64 0, Value.int .i64 0, Value.int .i64 0, Value.int .i64 0, Value.int .i64 0, Value.int .i64 0, Value.int .i64 0, Value.int .i64 0, Value.int .i64 0, Value.int .i64 0, Value.int .i64 0, Value.int .i64 0, Value.int .i64 0, Value.int .i64 0, Value.int .i64 0, Value.int .i64 0, Value.int .i64 0, Value.int .i64 0, Value.int .i64 0, Value.int .i64 0, Value.int .i64 0, Value.int .i64 0, Value.int .i64 0, Value.int .i64 0, Value.int .i64 0, Value.int .i64 0, Value.int .i64 0, Value.string ⟨#[]⟩, Value.int .i64 0, Value.int .i64 0] 27) = W0 at *
  go_wp2_with fail
  refine (CW.out _).mono ?_
  rintro e w1 ⟨rfl, hb1⟩
  have HB1 := Lib.hid (HB.out.trans (hb1.mono HB.out.size))
  have HR1 := Lib.hid (there_below17 HR.out hb1 HZ.out)
  have hz1 := Nat.lt_of_lt_of_le HZ.out hb1.size
  have hb2 := below_one7h w1 (.cells #[.int .i64 1, .int .i64 29, .int .i64 0, .string ⟨#[]⟩] 34)
  have HB2 := Lib.hid (HB1.out.trans (hb2.mono HB1.out.size))
  have HR2 := Lib.hid (there_below17 HR1.out hb2 hz1)
  have hz2 := Nat.lt_of_lt_of_le hz1 hb2.size
  have HZ2 := Lib.hid hz2
  clear hb1 hb2 hz1 hz2 HB HR HZ HB1 HR1
  go_upto_region 2 with fail
  go_wp2_with fail
  have hz3 : (w1.alloc (.cells #[.int .i64 1, .int .i64 29, .int .i64 0, .string ⟨#[]⟩] 34)).heap.size = w1.heap.size + 1 := by simp
  have hx3 := heap_alloc_new (w1.alloc (.cells #[.int .i64 1, .int .i64 29, .int .i64 0, .string ⟨#[]⟩] 34)) (.cells #[.int .i64 1, .int .i64 29, .int .i64 0, .string ⟨#[]⟩] 34)
  rw [hz3] at hx3
  have hb3 := below_one7h (w1.alloc (.cells #[.int .i64 1, .int .i64 29, .int .i64 0, .string ⟨#[]⟩] 34)) (.cells #[.int .i64 1, .int .i64 29, .int .i64 0, .string ⟨#[]⟩] 34)
  refine (CR.out (w1.heap.size + 1) 1 _ (cell_of hx3 rfl) (cell_of hx3 rfl) (cell_of hx3 rfl) (cell_of hx3 rfl)).mono ?_
  have HB3 := Lib.hid (HB2.out.trans (hb3.mono HB2.out.size))
  have HR3 := Lib.hid (there_below17 HR2.out hb3 HZ2.out)
  have hz4 := Nat.lt_of_lt_of_le HZ2.out hb3.size
  rintro e w4 ⟨g, rfl, hg1, hg2, hb4, hrp⟩
  have HB4 := Lib.hid (HB3.out.trans (hb4.mono HB3.out.size))
  have HR4 := Lib.hid (there_below17 HR3.out hb4 hz4)
  have hz5 := Nat.lt_of_lt_of_le hz4 hb4.size
  have HZ4 := Lib.hid hz5
  have hC := CC.out _ _ 37 _ w4 (Rp.td hg2 hrp)
  rw [cells17_congr _ _ _ _ _ _ hasS_iv] at hC
  have hC2 : Calls Try.prog 9 #[.slice (some ⟨g, 0, none⟩) 37 37, .agg #[Value.int .i64 0, Value.bool false, Value.int .i64 0, Value.int .i64 0, Value.int .i64 0, Value.int .i64 0, Value.int .i64 0, Value.int .i64 0, Value.int .i64 0, Value.int .i64 0, Value.int .i64 0, Value.int .i64 0, Value.int .i64 0, Value.int .i64 0, Value.int .i64 0, Value.int .i64 0, Value.int .i64 0, Value.int .i64 0, Value.int .i64 0, Value.int .i64 0, Value.int .i64 0, Value.int .i64 0, Value.int .i64 0, Value.int .i64 0, Value.int .i64 0, Value.int .i64 0, Value.int .i64 0, Value.int .i64 0, Value.int .i64 0, Value.int .i64 0, Value.int .i64 0, Value.int .i64 0, Value.int .i64 0, Value.int .i64 0, Value.int .i64 0, Value.int .i64 0, Value.int .i64 0, Value.int .i64 0, Value.int .i64 0, Value.int .i64 0, Value.int .i64 0, Value.int .i64 0, Value.int .i64 0, Value.int .i64 0, Value.int .i64 0, Value.int .i64 0, Value.int .i64 0, Value.int .i64 0, Value.int .i64 0, Value.int .i64 0, Value.int .i64 0, Value.int .i64 0, Value.string ⟨#[]⟩, Value.int .i64 0, Value.int .i64 0], .int .i64 0, .int .i64 0] w4 fun e w' => e = .returned (.agg Cs.toArray) ∧ Below w4.heap.size w4 w' := by
    rw [← HCS.out]
    exact hC
  have HC := Lib.hid hC2
  clear hC hC2 hx3 hb3 hz3 hg1 hb4 hrp hz4 hz5 HB2 HR2 HZ2 HB3 HR3 CC CR CW
  go_wp2_with fail
  refine HC.out.mono ?_
  rintro e w5 ⟨rfl, hb5⟩
  have HB5 := Lib.hid (HB4.out.trans (hb5.mono HB4.out.size))
  have hts := there_below17 HR4.out hb5 HZ4.out
  clear hb5 HC
  dsimp only
  rename_i K' hK'
  refine hK' _ _ ?_
  clear hK'
  have hcl := HCL.out
  have hcs : Cs.toArray.size = 55 := by simpa using hcl
  refine wpList_store_mid rfl 27 _ _ rfl w.heap.size 0 Cs.toArray rfl rfl (by rw [hcs]; exact hts) (by rw [hcs]; exact size17) (all_oneCell_toArray HC1.out) ?_
  have hrr := World.rangeAt_setCells_same w5 w.heap.size 0 Cs (by rw [hcl]; exact hts)
  have hbf := below_setCells HB5.out w.heap.size (Nat.le_refl _) Cs 0
  have e55 : Cs.toArray.toList = Cs := rfl
  rw [e55]
  generalize w5.setCells w.heap.size 0 Cs = wf at *
  clear e55 hts
  go_step
  go_wp2_with fail
  exact bodyPost_ret (results_style rfl _ _ w.heap.size Cs hcl rfl hrr) rfl ⟨rfl, hbf⟩
end Go.Proofs.Ytlngipglhlhhbaa
