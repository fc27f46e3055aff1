/- Layer 17: Compute. (Written by gen_stl8.py.) -/
import Derived.Test.YtlngipglhlhhbaaStlX
namespace Go.Proofs.Ytlngipglhlhhbaa
open Go.RowKit TreN LexP FixP SynP ValP PropP FixM
set_option linter.unusedVariables false

theorem stS_53 (P : Nat → Value) (G : Nat → Option Val) (em a b : Int) (k : Nat) : stS P G em a b k 53 = .int .i64 em := by unfold stS; rw [if_pos rfl]
theorem stS_some (P : Nat → Value) (G : Nat → Option Val) (em a b : Int) (k : Nat) (v : Val) (h : G (k + 1) = some v) (c : Nat) : putF (stS P G em a b k) (k + 1) v em a b c = stS P G em a b (k + 1) c := by
  unfold putF
  by_cases hc : c = 53
  · subst hc
    rw [stS_53, stS_53, if_neg (fun q => q.2 (by rw [← q.1]; rfl))]
  · unfold stS
    rw [if_neg hc, if_neg hc]
    by_cases hp : pofC c = k + 1
    · have h36 : k + 1 ≠ 36 := by
        intro e
        rw [e] at hp
        unfold pofC at hp
        repeat' split at hp
        all_goals omega
      rw [if_pos ⟨hp, h36⟩, if_pos (by omega), hp, h]
    · rw [if_neg (fun q => hp q.1)]
      by_cases hk : pofC c ≤ k
      · rw [if_pos hk, if_pos (by omega)]
      · rw [if_neg hk, if_neg (by omega)]
theorem stS_none (P : Nat → Value) (G : Nat → Option Val) (em a b : Int) (k : Nat) (h : G (k + 1) = none) (c : Nat) : stS P G em a b k c = stS P G em a b (k + 1) c := by
  unfold stS
  by_cases hc : c = 53
  · rw [if_pos hc, if_pos hc]
  · rw [if_neg hc, if_neg hc]
    by_cases hp : pofC c = k + 1
    · rw [if_neg (by omega), if_pos (by omega), hp, h]
    · by_cases hk : pofC c ≤ k
      · rw [if_pos hk, if_pos (by omega)]
      · rw [if_neg hk, if_neg (by omega)]
theorem first_bd : ∀ p : Fin 38, -1073741824 ≤ (firstP p.val).n ∧ (firstP p.val).n ≤ 1073741824 := by decide
theorem right_bd (v : Val) (h : rightV v = true) : -1073741824 ≤ v.n ∧ v.n ≤ 1073741824 := by
  unfold rightV at h
  have hb := H_bd v.n
  repeat' split at h
  all_goals first
    | (have := of_decide_eq_true h; omega)
    | (cases h)
theorem has_bd (L : List Val) (p : Nat) (v : Val) (h1 : 1 ≤ p) (h2 : p ≤ 37) (h : hasS L p = some v) : -1073741824 ≤ v.n ∧ v.n ≤ 1073741824 := by
  unfold hasS hasO at h
  split at h
  · cases h
  · split at h
    · injection h with h
      subst h
      unfold firstZ
      rw [if_pos (by omega)]
      exact first_bd ⟨p, by omega⟩
    · unfold tellS at h
      split at h
      · split at h
        · rename_i u _ ht
          injection h with h
          subst h
          unfold takesP at ht
          simp only [Bool.and_eq_true] at ht
          exact right_bd _ ht.2.1
        · cases h
      · cases h
/-- the style that is computed -/
def cells17 (As : List Value) (G : Nat → Option Val) (pf x y : Int) : List Value := (List.range 55).map (stS (fun i => As.getD i undef) G (emS (G 36) pf x y) x y 37)
theorem cells17_len (As : List Value) (G : Nat → Option Val) (pf x y : Int) : (cells17 As G pf x y).length = 55 := by unfold cells17; simp
theorem Mk.range {W : World} {b : Nat} {c : Nat → Value} {x y : Int} (h : Mk W b c x y) : W.rangeAt b 0 ((List.range 55).map c) := fun j v hv => by
  rw [Nat.zero_add]
  have hj : j < 55 := by have := (List.getElem?_eq_some_iff.1 hv).1; simpa using this
  rw [(h.at_ j hj).1, ← hv]
  simp [hj]
theorem wpList_move17 {ops : Array Oper} {rest : List Oper} {op : Oper} {a : Act} {w : World} {Q : Exit → Act → World → Prop} (hgd : op.guard = none) (x : Operand) (ho : op.op = .move x)
    (h : wpList Try.prog ops Q rest (a.put op.dst (a.eval x)) w) : wpList Try.prog ops Q (op :: rest) a w :=
  wpList_plain hgd fun K hK => by
    unfold Oper.wp execOp
    simp only [ho]
    exact hK _ _ h
/-- a maker just made -/
theorem Mk.made (W : World) (Z : Array Value) (t : TypeId) (hz : Z.size = 57) (As : List Value) (hl : As.length = 55) (x y : Int) : Mk ((W.alloc (.cells Z t)).setCells W.heap.size 0 (As ++ [Value.int .i64 x, Value.int .i64 y])) W.heap.size (fun i => As.getD i undef) x y := by
  have ht := there_of_block (heap_alloc_new W (.cells Z t))
  rw [hz] at ht
  have hr := World.rangeAt_setCells_same (W.alloc (.cells Z t)) W.heap.size 0 (As ++ [Value.int .i64 x, Value.int .i64 y]) (by simpa [hl] using ht)
  have ht2 := World.there_setCells ht W.heap.size 0 (As ++ [Value.int .i64 x, Value.int .i64 y])
  refine ⟨fun i hi => ⟨?_, ?_⟩, ?_, ?_⟩
  · have h := hr i (As.getD i undef) (by rw [List.getElem?_append_left (by omega), List.getD_eq_getElem?_getD, List.getElem?_eq_getElem (by omega)]; rfl)
    rw [Nat.zero_add] at h
    exact h
  · have h := (ht2 i (by omega)).2
    rw [Nat.zero_add] at h
    exact h
  · have h := hr 55 (.int .i64 x) (by rw [List.getElem?_append_right (by omega), hl]; rfl)
    rw [Nat.zero_add] at h
    exact h
  · have h := hr 56 (.int .i64 y) (by rw [List.getElem?_append_right (by omega), hl]; rfl)
    rw [Nat.zero_add] at h
    exact h
theorem below_setCells {B : Nat} {w W : World} (h : Below B w W) (b : Nat) (hb : B ≤ b) : ∀ (vs : List Value) (o : Nat), Below B w (W.setCells b o vs) := by
  intro vs
  induction vs generalizing W with
  | nil => intro o; exact h
  | cons v r ih => intro o; exact ih (h.setCell (p := ⟨b, o, none⟩) hb v) (o + 1)

theorem outC_one (p : Nat) (v : Val) (em a b : Int) (j : Nat) : (outC p v em a b j).oneCell' = true := by
  unfold outC
  repeat' split
  all_goals rfl
theorem stS_one (P : Nat → Value) (G : Nat → Option Val) (em a b : Int) (k c : Nat) (h : (P c).oneCell' = true) : (stS P G em a b k c).oneCell' = true := by
  unfold stS
  split
  · rfl
  · split
    · split
      · exact outC_one _ _ _ _ _ _
      · exact h
    · exact h
theorem vlV_zero : vlV zeroV = .agg #[.int .i64 0, .int .i64 0, .int .i64 0, .string ⟨#[]⟩] := rfl
theorem there_below17 {W W' : World} {b n B : Nat} (h : W.there b 0 n) (hb : Below B W W') (hB : b < B) : W'.there b 0 n := fun j hj => by
  have h2 := h j hj
  rw [Nat.zero_add] at h2 ⊢
  rw [hb.cell (p := ⟨b, j, none⟩) hB, hb.frozen (p := ⟨b, j, none⟩) hB]
  exact h2
theorem there_set17 {W : World} {b b2 n : Nat} (h : W.there b 0 n) (hb : b2 ≠ b) (o : Nat) (v : Value) : (W.setCell ⟨b2, o, none⟩ v).there b 0 n := fun j hj => by
  have h2 := h j hj
  rw [Nat.zero_add] at h2 ⊢
  rw [World.cell?_setCell_other (h := by intro q; injection q; omega), World.frozen?_setCell]
  exact h2
theorem stS_zero (P : Nat → Value) (G : Nat → Option Val) (em a b : Int) (c : Nat) (hc : c ≠ 53) (hi : c < 55) : stS P G em a b 0 c = P c := by
  have h := (cells_pof ⟨c, hi⟩).2.2.1
  simp only at h
  unfold stS
  rw [if_neg hc, if_neg (by omega)]

set_option maxRecDepth 100000 in
set_option maxHeartbeats 4000000 in
theorem compute17_any (a : Option Addr) (n cap : Nat) (L : List Val) (As : List Value) (pf x y : Int) (w : World) (hl : As.length = 55) (h1 : ∀ v, v ∈ As → v.oneCell' = true) (hf : As.getD 53 undef = .int .i64 pf) (hT : Td w a n L) :
    Calls Try.prog 9 #[.slice a n cap, .agg As.toArray, .int .i64 x, .int .i64 y] w fun e w' => e = .returned (.agg (cells17 As (hasS L) pf x y).toArray) ∧ Below w.heap.size w w' := by
  obtain ⟨Cs, hCs⟩ : ∃ Cs, cells17 As (hasS L) pf x y = Cs := ⟨_, rfl⟩
  rw [hCs]
  have hs0 : (w.alloc (.cells As.toArray 27)).heap.size = w.heap.size + 1 := by simp
  have A1 : ((w.alloc (.cells As.toArray 27)).alloc (.cells #[Value.int .i64 0, Value.bool false, Value.int .i64 0, Value.int .i64 0, Value.int .i64 0, Value.int .i64 0, Value.int .i64 0, Value.int .i64 0, Value.int .i64 0, Value.int .i64 0, Value.int .i64 0, Value.int .i64 0, Value.int .i64 0, Value.int .i64 0, Value.int .i64 0, Value.int .i64 0, Value.int .i64 0, Value.int .i64 0, Value.int .i64 0, Value.int .i64 0, Value.int .i64 0, Value.int .i64 0, Value.int .i64 0, Value.int .i64 0, Value.int .i64 0, Value.int .i64 0, Value.int .i64 0, Value.int .i64 0, Value.int .i64 0, Value.int .i64 0, Value.int .i64 0, Value.int .i64 0, Value.int .i64 0, Value.int .i64 0, Value.int .i64 0, Value.int .i64 0, Value.int .i64 0, Value.int .i64 0, Value.int .i64 0, Value.int .i64 0, Value.int .i64 0, Value.int .i64 0, Value.int .i64 0, Value.int .i64 0, Value.int .i64 0, Value.int .i64 0, Value.int .i64 0, Value.int .i64 0, Value.int .i64 0, Value.int .i64 0, Value.int .i64 0, Value.int .i64 0, Value.string ⟨#[]⟩, Value.int .i64 0, Value.int .i64 0] 27)).heap[w.heap.size]? = some (.cells As.toArray 27 (0, 0)) := by
    rw [Go.heap_alloc_old (h := by rw [hs0]; omega)]
    exact heap_alloc_new w _
  have A2 : ((w.alloc (.cells As.toArray 27)).alloc (.cells #[Value.int .i64 0, Value.bool false, Value.int .i64 0, Value.int .i64 0, Value.int .i64 0, Value.int .i64 0, Value.int .i64 0, Value.int .i64 0, Value.int .i64 0, Value.int .i64 0, Value.int .i64 0, Value.int .i64 0, Value.int .i64 0, Value.int .i64 0, Value.int .i64 0, Value.int .i64 0, Value.int .i64 0, Value.int .i64 0, Value.int .i64 0, Value.int .i64 0, Value.int .i64 0, Value.int .i64 0, Value.int .i64 0, Value.int .i64 0, Value.int .i64 0, Value.int .i64 0, Value.int .i64 0, Value.int .i64 0, Value.int .i64 0, Value.int .i64 0, Value.int .i64 0, Value.int .i64 0, Value.int .i64 0, Value.int .i64 0, Value.int .i64 0, Value.int .i64 0, Value.int .i64 0, Value.int .i64 0, Value.int .i64 0, Value.int .i64 0, Value.int .i64 0, Value.int .i64 0, Value.int .i64 0, Value.int .i64 0, Value.int .i64 0, Value.int .i64 0, Value.int .i64 0, Value.int .i64 0, Value.int .i64 0, Value.int .i64 0, Value.int .i64 0, Value.int .i64 0, Value.string ⟨#[]⟩, Value.int .i64 0, Value.int .i64 0] 27)).heap[w.heap.size + 1]? = some (.cells #[Value.int .i64 0, Value.bool false, Value.int .i64 0, Value.int .i64 0, Value.int .i64 0, Value.int .i64 0, Value.int .i64 0, Value.int .i64 0, Value.int .i64 0, Value.int .i64 0, Value.int .i64 0, Value.int .i64 0, Value.int .i64 0, Value.int .i64 0, Value.int .i64 0, Value.int .i64 0, Value.int .i64 0, Value.int .i64 0, Value.int .i64 0, Value.int .i64 0, Value.int .i64 0, Value.int .i64 0, Value.int .i64 0, Value.int .i64 0, Value.int .i64 0, Value.int .i64 0, Value.int .i64 0, Value.int .i64 0, Value.int .i64 0, Value.int .i64 0, Value.int .i64 0, Value.int .i64 0, Value.int .i64 0, Value.int .i64 0, Value.int .i64 0, Value.int .i64 0, Value.int .i64 0, Value.int .i64 0, Value.int .i64 0, Value.int .i64 0, Value.int .i64 0, Value.int .i64 0, Value.int .i64 0, Value.int .i64 0, Value.int .i64 0, Value.int .i64 0, Value.int .i64 0, Value.int .i64 0, Value.int .i64 0, Value.int .i64 0, Value.int .i64 0, Value.int .i64 0, Value.string ⟨#[]⟩, Value.int .i64 0, Value.int .i64 0] 27 (0, 0)) := heap_alloc2_new w _ _
  have A3 : Below w.heap.size w ((w.alloc (.cells As.toArray 27)).alloc (.cells #[Value.int .i64 0, Value.bool false, Value.int .i64 0, Value.int .i64 0, Value.int .i64 0, Value.int .i64 0, Value.int .i64 0, Value.int .i64 0, Value.int .i64 0, Value.int .i64 0, Value.int .i64 0, Value.int .i64 0, Value.int .i64 0, Value.int .i64 0, Value.int .i64 0, Value.int .i64 0, Value.int .i64 0, Value.int .i64 0, Value.int .i64 0, Value.int .i64 0, Value.int .i64 0, Value.int .i64 0, Value.int .i64 0, Value.int .i64 0, Value.int .i64 0, Value.int .i64 0, Value.int .i64 0, Value.int .i64 0, Value.int .i64 0, Value.int .i64 0, Value.int .i64 0, Value.int .i64 0, Value.int .i64 0, Value.int .i64 0, Value.int .i64 0, Value.int .i64 0, Value.int .i64 0, Value.int .i64 0, Value.int .i64 0, Value.int .i64 0, Value.int .i64 0, Value.int .i64 0, Value.int .i64 0, Value.int .i64 0, Value.int .i64 0, Value.int .i64 0, Value.int .i64 0, Value.int .i64 0, Value.int .i64 0, Value.int .i64 0, Value.int .i64 0, Value.int .i64 0, Value.string ⟨#[]⟩, Value.int .i64 0, Value.int .i64 0] 27)) := ((Below.refl _ _).alloc (Nat.le_refl _) _).alloc (by rw [hs0]; omega) _
  have A4 : ((w.alloc (.cells As.toArray 27)).alloc (.cells #[Value.int .i64 0, Value.bool false, Value.int .i64 0, Value.int .i64 0, Value.int .i64 0, Value.int .i64 0, Value.int .i64 0, Value.int .i64 0, Value.int .i64 0, Value.int .i64 0, Value.int .i64 0, Value.int .i64 0, Value.int .i64 0, Value.int .i64 0, Value.int .i64 0, Value.int .i64 0, Value.int .i64 0, Value.int .i64 0, Value.int .i64 0, Value.int .i64 0, Value.int .i64 0, Value.int .i64 0, Value.int .i64 0, Value.int .i64 0, Value.int .i64 0, Value.int .i64 0, Value.int .i64 0, Value.int .i64 0, Value.int .i64 0, Value.int .i64 0, Value.int .i64 0, Value.int .i64 0, Value.int .i64 0, Value.int .i64 0, Value.int .i64 0, Value.int .i64 0, Value.int .i64 0, Value.int .i64 0, Value.int .i64 0, Value.int .i64 0, Value.int .i64 0, Value.int .i64 0, Value.int .i64 0, Value.int .i64 0, Value.int .i64 0, Value.int .i64 0, Value.int .i64 0, Value.int .i64 0, Value.int .i64 0, Value.int .i64 0, Value.int .i64 0, Value.int .i64 0, Value.string ⟨#[]⟩, Value.int .i64 0, Value.int .i64 0] 27)).heap.size = w.heap.size + 2 := by simp
  have A5 := there_of_block A2
  have A6 := range_of_block A1
  go_enter Try.func9, Try.ntmps9
  go_upto_region 1 with fail
  generalize ((w.alloc (.cells As.toArray 27)).alloc (.cells #[Value.int .i64 0, Value.bool false, Value.int .i64 0, Value.int .i64 0, Value.int .i64 0, Value.int .i64 0, Value.int .i64 0, Value.int .i64 0, Value.int .i64 0, Value.int .i64 0, Value.int .i64 0, Value.int .i64 0, Value.int .i64 0, Value.int .i64 0, Value.int .i64 0, Value.int .i64 0, Value.int .i64 0, Value.int .i64 0, Value.int .i64 0, Value.int .i64 0, Value.int .i64 0, Value.int .i64 0, Value.int .i64 0, Value.int .i64 0, Value.int .i64 0, Value.int .i64 0, Value.int .i64 0, Value.int .i64 0, Value.int .i64 0, Value.int .i64 0, Value.int .i64 0, Value.int .i64 0, Value.int .i64 0, Value.int .i64 0, Value.int .i64 0, Value.int .i64 0, Value.int .i64 0, Value.int .i64 0, Value.int .i64 0, Value.int .i64 0, Value.int .i64 0, Value.int .i64 0, Value.int .i64 0, Value.int .i64 0, Value.int .i64 0, Value.int .i64 0, Value.int .i64 0, Value.int .i64 0, Value.int .i64 0, Value.int .i64 0, Value.int .i64 0, Value.int .i64 0, Value.string ⟨#[]⟩, Value.int .i64 0, Value.int .i64 0] 27)) = W1 at *
  have hts : W1.there (w.heap.size + 1) 0 55 := A5
  have HTS := Lib.hid hts
  have HA3 := Lib.hid A3
  clear A1 A2 A5 hts
  refine wp_region_lit ?_
  refine wpList_load_mid rfl 27 _ rfl w.heap.size 0 rfl As _ A6 Try.underlying27 rfl (by rw [size17, hl]) ?_
  refine wpList_move17 rfl _ rfl ?_
  refine wpList_move17 rfl _ rfl ?_
  refine wpList_build_mk rfl _ _ _ rfl As hl x y rfl rfl rfl ?_
  go_step
  go_step
  rename_i K' hK'
  refine hK' _ _ ?_
  clear hK'
  have hm := Mk.made W1 #[Value.int .i64 0, Value.bool false, Value.int .i64 0, Value.int .i64 0, Value.int .i64 0, Value.int .i64 0, Value.int .i64 0, Value.int .i64 0, Value.int .i64 0, Value.int .i64 0, Value.int .i64 0, Value.int .i64 0, Value.int .i64 0, Value.int .i64 0, Value.int .i64 0, Value.int .i64 0, Value.int .i64 0, Value.int .i64 0, Value.int .i64 0, Value.int .i64 0, Value.int .i64 0, Value.int .i64 0, Value.int .i64 0, Value.int .i64 0, Value.int .i64 0, Value.int .i64 0, Value.int .i64 0, Value.int .i64 0, Value.int .i64 0, Value.int .i64 0, Value.int .i64 0, Value.int .i64 0, Value.int .i64 0, Value.int .i64 0, Value.int .i64 0, Value.int .i64 0, Value.int .i64 0, Value.int .i64 0, Value.int .i64 0, Value.int .i64 0, Value.int .i64 0, Value.int .i64 0, Value.int .i64 0, Value.int .i64 0, Value.int .i64 0, Value.int .i64 0, Value.int .i64 0, Value.int .i64 0, Value.int .i64 0, Value.int .i64 0, Value.int .i64 0, Value.int .i64 0, Value.string ⟨#[]⟩, Value.int .i64 0, Value.int .i64 0, Value.int .i64 0, Value.int .i64 0] 42 rfl As hl x y
  have ht0 := there_of_block (heap_alloc_new W1 (.cells #[Value.int .i64 0, Value.bool false, Value.int .i64 0, Value.int .i64 0, Value.int .i64 0, Value.int .i64 0, Value.int .i64 0, Value.int .i64 0, Value.int .i64 0, Value.int .i64 0, Value.int .i64 0, Value.int .i64 0, Value.int .i64 0, Value.int .i64 0, Value.int .i64 0, Value.int .i64 0, Value.int .i64 0, Value.int .i64 0, Value.int .i64 0, Value.int .i64 0, Value.int .i64 0, Value.int .i64 0, Value.int .i64 0, Value.int .i64 0, Value.int .i64 0, Value.int .i64 0, Value.int .i64 0, Value.int .i64 0, Value.int .i64 0, Value.int .i64 0, Value.int .i64 0, Value.int .i64 0, Value.int .i64 0, Value.int .i64 0, Value.int .i64 0, Value.int .i64 0, Value.int .i64 0, Value.int .i64 0, Value.int .i64 0, Value.int .i64 0, Value.int .i64 0, Value.int .i64 0, Value.int .i64 0, Value.int .i64 0, Value.int .i64 0, Value.int .i64 0, Value.int .i64 0, Value.int .i64 0, Value.int .i64 0, Value.int .i64 0, Value.int .i64 0, Value.int .i64 0, Value.string ⟨#[]⟩, Value.int .i64 0, Value.int .i64 0, Value.int .i64 0, Value.int .i64 0] 42))
  have hbm : Below w.heap.size w ((W1.alloc (.cells #[Value.int .i64 0, Value.bool false, Value.int .i64 0, Value.int .i64 0, Value.int .i64 0, Value.int .i64 0, Value.int .i64 0, Value.int .i64 0, Value.int .i64 0, Value.int .i64 0, Value.int .i64 0, Value.int .i64 0, Value.int .i64 0, Value.int .i64 0, Value.int .i64 0, Value.int .i64 0, Value.int .i64 0, Value.int .i64 0, Value.int .i64 0, Value.int .i64 0, Value.int .i64 0, Value.int .i64 0, Value.int .i64 0, Value.int .i64 0, Value.int .i64 0, Value.int .i64 0, Value.int .i64 0, Value.int .i64 0, Value.int .i64 0, Value.int .i64 0, Value.int .i64 0, Value.int .i64 0, Value.int .i64 0, Value.int .i64 0, Value.int .i64 0, Value.int .i64 0, Value.int .i64 0, Value.int .i64 0, Value.int .i64 0, Value.int .i64 0, Value.int .i64 0, Value.int .i64 0, Value.int .i64 0, Value.int .i64 0, Value.int .i64 0, Value.int .i64 0, Value.int .i64 0, Value.int .i64 0, Value.int .i64 0, Value.int .i64 0, Value.int .i64 0, Value.int .i64 0, Value.string ⟨#[]⟩, Value.int .i64 0, Value.int .i64 0, Value.int .i64 0, Value.int .i64 0] 42)).setCells W1.heap.size 0 (As ++ [Value.int .i64 x, Value.int .i64 y])) := below_setCells (HA3.out.alloc HA3.out.size _) _ HA3.out.size _ _
  have htr : ((W1.alloc (.cells #[Value.int .i64 0, Value.bool false, Value.int .i64 0, Value.int .i64 0, Value.int .i64 0, Value.int .i64 0, Value.int .i64 0, Value.int .i64 0, Value.int .i64 0, Value.int .i64 0, Value.int .i64 0, Value.int .i64 0, Value.int .i64 0, Value.int .i64 0, Value.int .i64 0, Value.int .i64 0, Value.int .i64 0, Value.int .i64 0, Value.int .i64 0, Value.int .i64 0, Value.int .i64 0, Value.int .i64 0, Value.int .i64 0, Value.int .i64 0, Value.int .i64 0, Value.int .i64 0, Value.int .i64 0, Value.int .i64 0, Value.int .i64 0, Value.int .i64 0, Value.int .i64 0, Value.int .i64 0, Value.int .i64 0, Value.int .i64 0, Value.int .i64 0, Value.int .i64 0, Value.int .i64 0, Value.int .i64 0, Value.int .i64 0, Value.int .i64 0, Value.int .i64 0, Value.int .i64 0, Value.int .i64 0, Value.int .i64 0, Value.int .i64 0, Value.int .i64 0, Value.int .i64 0, Value.int .i64 0, Value.int .i64 0, Value.int .i64 0, Value.int .i64 0, Value.int .i64 0, Value.string ⟨#[]⟩, Value.int .i64 0, Value.int .i64 0, Value.int .i64 0, Value.int .i64 0] 42)).setCells W1.heap.size 0 (As ++ [Value.int .i64 x, Value.int .i64 y])).there (w.heap.size + 1) 0 55 := World.there_setCells (World.there_alloc HTS.out _) _ _ _
  rw [A4] at hm ht0 hbm htr
  refine wpList_store_mid rfl 42 _ _ rfl (w.heap.size + 2) 0 (As ++ [Value.int .i64 x, Value.int .i64 y]).toArray rfl rfl ?ht ?hi ?h1 ?_
  case ht =>
    have e : (As ++ [Value.int .i64 x, Value.int .i64 y]).toArray.size = 57 := by simp [hl]
    rw [e]
    exact ht0
  case hi =>
    have e : (As ++ [Value.int .i64 x, Value.int .i64 y]).toArray.size = 57 := by simp [hl]
    rw [e]
    exact size17m
  case h1 =>
    refine all_oneCell_toArray (fun v hv => ?_)
    rcases List.mem_append.1 hv with hv | hv
    · exact h1 v hv
    · simp at hv
      rcases hv with rfl | rfl <;> rfl
  have e57 : (As ++ [Value.int .i64 x, Value.int .i64 y]).toArray.toList = As ++ [Value.int .i64 x, Value.int .i64 y] := rfl
  rw [e57]
  generalize ((W1.alloc (.cells #[Value.int .i64 0, Value.bool false, Value.int .i64 0, Value.int .i64 0, Value.int .i64 0, Value.int .i64 0, Value.int .i64 0, Value.int .i64 0, Value.int .i64 0, Value.int .i64 0, Value.int .i64 0, Value.int .i64 0, Value.int .i64 0, Value.int .i64 0, Value.int .i64 0, Value.int .i64 0, Value.int .i64 0, Value.int .i64 0, Value.int .i64 0, Value.int .i64 0, Value.int .i64 0, Value.int .i64 0, Value.int .i64 0, Value.int .i64 0, Value.int .i64 0, Value.int .i64 0, Value.int .i64 0, Value.int .i64 0, Value.int .i64 0, Value.int .i64 0, Value.int .i64 0, Value.int .i64 0, Value.int .i64 0, Value.int .i64 0, Value.int .i64 0, Value.int .i64 0, Value.int .i64 0, Value.int .i64 0, Value.int .i64 0, Value.int .i64 0, Value.int .i64 0, Value.int .i64 0, Value.int .i64 0, Value.int .i64 0, Value.int .i64 0, Value.int .i64 0, Value.int .i64 0, Value.int .i64 0, Value.int .i64 0, Value.int .i64 0, Value.int .i64 0, Value.int .i64 0, Value.string ⟨#[]⟩, Value.int .i64 0, Value.int .i64 0, Value.int .i64 0, Value.int .i64 0] 42)).setCells (w.heap.size + 2) 0 (As ++ [Value.int .i64 x, Value.int .i64 y])) = W2 at *
  clear ht0 e57 HTS HA3 A4 A6
  have HM := Lib.hid hm
  have HB := Lib.hid hbm
  have HT := Lib.hid htr
  clear hm hbm htr
  clear hs0
  obtain ⟨bm, hbm⟩ : ∃ bm, w.heap.size + 2 = bm := ⟨_, rfl⟩
  obtain ⟨br, hbr⟩ : ∃ br, w.heap.size + 1 = br := ⟨_, rfl⟩
  rw [hbm] at HM
  rw [hbr] at HT
  have hbb : br < bm := by omega
  have hbl : w.heap.size ≤ br := by omega
  obtain ⟨G, hG⟩ : ∃ G, hasS L = G := ⟨_, rfl⟩
  have HG := Lib.hid hG
  have CH := Lib.hid (fun (k : Nat) (P : Int) (W : World) (hP : P = (k : Int) + 1) (hk : k < 37) (hB : Below w.heap.size w W) => has17_any a n cap L k P W hP hk (hT.below hB))
  have HBD := Lib.hid (fun p v h1 h2 h => has_bd L p v h1 h2 h)
  rw [hG] at CH HBD hCs
  have HL := Lib.hid hl
  have HF := Lib.hid hf
  have hP1 : ∀ i, i < 55 → (As.getD i undef).oneCell' = true := fun i hi => by
    rw [List.getD_eq_getElem?_getD, List.getElem?_eq_getElem (by omega)]
    exact h1 _ (List.getElem_mem _)
  clear hG hT h1 hf hl
  rw [hbm, hbr]
  have C36 := Lib.hid (CH.out 35 36 W2 rfl (by decide) HB.out)
  obtain ⟨em, hem⟩ : ∃ em, emS (G 36) pf x y = em := ⟨_, rfl⟩
  have hcl : (List.range 55).map (stS (fun i => As.getD i undef) G em x y 37) = Cs := by rw [← hCs]; unfold cells17; rw [hem]
  have HCS := Lib.hid hcl
  have HC1 : Hid (∀ v, v ∈ Cs → v.oneCell' = true) := fun v hv => by
    rw [← HCS.out] at hv
    obtain ⟨i, hi, rfl⟩ := List.mem_map.1 hv
    exact stS_one (fun i => As.getD i undef) G em x y 37 i (hP1 i (List.mem_range.1 hi))
  clear hcl hCs hP1
  cases h36 : G 36 with
  | none =>
    have e36 : G (35 + 1) = none := h36
    rw [e36] at C36
    unfold retO at C36
    simp only [Option.getD_none, Option.isSome_none] at C36
    rw [vlV_zero] at C36
    have hpe : pf = em := by rw [← hem, h36]; rfl
    have HM0 : Hid (Mk W2 bm (stS (fun i => As.getD i undef) G em x y 0) x y) := HM.out.ext (fun i hi => by
      by_cases c : i = 53
      · subst c; rw [stS_53, HF.out, hpe]
      · exact (stS_zero (fun i => As.getD i undef) _ _ _ _ i c hi).symm)
    clear HM h36 e36 hem
    go_wp2_with fail
    refine C36.out.mono ?_
    rintro e w3 ⟨rfl, hb3⟩
    have HB3 := Lib.hid (HB.out.trans (hb3.mono HB.out.size))
    have HM3 := Lib.hid (HM0.out.below hb3)
    have HT3 := Lib.hid (there_below17 HT.out hb3 (by have := HM0.out.lt; omega))
    clear hb3
    have hb4 := below_one7h w3 (.cells #[.int .i64 0, .int .i64 0, .int .i64 0, .string ⟨#[]⟩] 34)
    have HB4 := Lib.hid (HB3.out.trans (hb4.mono HB3.out.size))
    have HM4 := Lib.hid (HM3.out.below hb4)
    have HT4 := Lib.hid (there_below17 HT3.out hb4 (by have := HM3.out.lt; omega))
    clear hb4 HB HM0 HT C36 HB3 HM3 HT3
    go_wp2_with fail
    go_loopw [29] (fun vi wr => ∃ k : Nat, vi = .int .i64 k ∧ k ≤ 37 ∧ Hid (Below w.heap.size w wr) ∧ Hid (wr.there br 0 55) ∧ Hid (Mk wr bm (stS (fun i => As.getD i undef) G em x y k) x y)) (fun vi _ => 37 - (intOf vi).toNat)
    case atStart => exact ⟨0, rfl, by omega, HB4, HT4, HM4⟩
    case round =>
      clear HB4 HT4 HM4
      obtain ⟨k, rfl, hk, HB, HT, HM⟩ := hrel
      by_cases hlt : k < 37
      · have hltz : (k : Int) < 37 := by omega
        have CK := Lib.hid (CH.out k ((k : Int) + 1) wr rfl hlt HB.out)
        cases hg : G (k + 1) with
        | none =>
          rw [hg] at CK
          unfold retO at CK
          simp only [Option.getD_none, Option.isSome_none] at CK
          rw [vlV_zero] at CK
          have hst := stS_none (fun i => As.getD i undef) G em x y k hg
          have HMn : Hid (Mk wr bm (stS (fun i => As.getD i undef) G em x y (k + 1)) x y) := HM.out.ext (fun i _ => hst i)
          clear hst hg
          go_wp2_with fail
          refine CK.out.mono ?_
          rintro e w6 ⟨rfl, hb6⟩
          have hb7 := below_one7h w6 (.cells #[.int .i64 0, .int .i64 0, .int .i64 0, .string ⟨#[]⟩] 34)
          have HB7 := Lib.hid ((HB.out.trans (hb6.mono HB.out.size)).trans (hb7.mono (HB.out.trans (hb6.mono HB.out.size)).size))
          have HM7 := Lib.hid ((HMn.out.below hb6).below hb7)
          have HT7 := Lib.hid (there_below17 (there_below17 HT.out hb6 (by have := HMn.out.lt; omega)) hb7 (by have := (HMn.out.below hb6).lt; omega))
          clear hb6 hb7 HB HM HT HMn CK
          go_wp2_with fail
          go_roundw
          case rel => exact ⟨k + 1, by go_num, by omega, HB7, HT7, HM7⟩
          case measure => (simp [intOf] <;> omega)
        | some v =>
          rw [hg] at CK
          unfold retO at CK
          simp only [Option.getD_some, Option.isSome_some] at CK
          have hbd := HBD.out (k + 1) v (by omega) (by omega) hg
          have hst := stS_some (fun i => As.getD i undef) G em x y k v hg
          have CP := Lib.hid (fun W (h : Mk W bm (stS (fun i => As.getD i undef) G em x y k) x y) => put17_any k ((k : Int) + 1) rfl hlt bm v _ em x y W h (stS_53 _ _ _ _ _ _) hbd.1 hbd.2)
          unfold PutIs at CP
          have HST : Hid (∀ c, putF (stS (fun i => As.getD i undef) G em x y k) (k + 1) v em x y c = stS (fun i => As.getD i undef) G em x y (k + 1) c) := hst
          obtain ⟨pc, hpc⟩ : ∃ pc, putF (stS (fun i => As.getD i undef) G em x y k) (k + 1) v em x y = pc := ⟨_, rfl⟩
          rw [hpc] at CP HST
          unfold vlV at CK CP
          obtain ⟨vk, vn, vd, vnm⟩ := v
          simp only at CK CP
          clear hg hbd hst hpc
          go_wp2_with fail
          refine CK.out.mono ?_
          rintro e w6 ⟨rfl, hb6⟩
          have hb7 := below_one7h w6 (.cells #[.int .i64 vk, .int .i64 vn, .int .i64 vd, .string ⟨vnm.toArray⟩] 34)
          have HB7 := Lib.hid ((HB.out.trans (hb6.mono HB.out.size)).trans (hb7.mono (HB.out.trans (hb6.mono HB.out.size)).size))
          have HM7 := Lib.hid ((HM.out.below hb6).below hb7)
          have HT7 := Lib.hid (there_below17 (there_below17 HT.out hb6 (by have := HM.out.lt; omega)) hb7 (by have := (HM.out.below hb6).lt; omega))
          have CP7 := Lib.hid (CP.out _ HM7.out)
          clear hb6 hb7 HB HM HT CK CP
          go_wp2_with fail
          refine CP7.out.mono ?_
          rintro e w8 ⟨rfl, hb8, hm8⟩
          have HB8 := Lib.hid (HB7.out.trans (hb8.mono (show w.heap.size ≤ bm by omega)))
          have HM8 := Lib.hid (hm8.ext (fun i _ => HST.out i))
          have HT8 := Lib.hid (there_below17 HT7.out hb8 hbb)
          clear hb8 hm8 HB7 HM7 HT7 CP7
          go_wp2_with fail
          go_roundw
          case rel => exact ⟨k + 1, by go_num, by omega, HB8, HT8, HM8⟩
          case measure => (simp [intOf] <;> omega)
      · have hkn : k = 37 := by omega
        subst hkn
        have hr := HM.out.range
        have hcl : Cs.length = 55 := by rw [← HCS.out]; simp
        rw [HCS.out] at hr
        go_upto_region 12 with fail
        refine wp_region_lit ?_
        go_step
        go_step
        rename_i K' hK'
        refine hK' _ _ ?_
        clear hK'
        refine wpList_load_mid rfl 27 _ rfl bm 0 rfl Cs _ hr Try.underlying27 rfl (by rw [size17, hcl]) ?_
        have hcs : Cs.toArray.size = 55 := by simpa using hcl
        refine wpList_store_mid rfl 27 _ _ rfl br 0 Cs.toArray rfl rfl (by rw [hcs]; exact HT.out) (by rw [hcs]; exact size17) (all_oneCell_toArray HC1.out) ?_
        have hrr := World.rangeAt_setCells_same wr br 0 Cs (by rw [hcl]; exact HT.out)
        have hbf := below_setCells HB.out br hbl Cs 0
        have e55 : Cs.toArray.toList = Cs := rfl
        rw [e55]
        generalize wr.setCells br 0 Cs = wf at *
        clear HT HM hr e55
        go_wp2_with fail
        exact bodyPost_ret (results_style rfl _ _ br Cs hcl rfl hrr) rfl ⟨rfl, hbf⟩
  | some v =>
    have e36 : G (35 + 1) = some v := h36
    rw [e36] at C36
    unfold retO at C36
    simp only [Option.getD_some, Option.isSome_some] at C36
    have hpe : fontS v pf x y = em := by rw [← hem, h36]; rfl
    have CF := Lib.hid (fun W (h : Mb W bm pf x y) => font17_any bm v pf x y W h)
    rw [hpe] at CF
    unfold vlV at C36 CF
    obtain ⟨vk, vn, vd, vnm⟩ := v
    simp only at C36 CF
    clear h36 e36 hem hpe
    go_wp2_with fail
    refine C36.out.mono ?_
    rintro e w3 ⟨rfl, hb3⟩
    have HB3 := Lib.hid (HB.out.trans (hb3.mono HB.out.size))
    have HM3 := Lib.hid (HM.out.below hb3)
    have HT3 := Lib.hid (there_below17 HT.out hb3 (by have := HM.out.lt; omega))
    clear hb3
    have hb4 := below_one7h w3 (.cells #[.int .i64 vk, .int .i64 vn, .int .i64 vd, .string ⟨vnm.toArray⟩] 34)
    have HB5 := Lib.hid (HB3.out.trans (hb4.mono HB3.out.size))
    have HM5 := Lib.hid (HM3.out.below hb4)
    have HT5 := Lib.hid (there_below17 HT3.out hb4 (by have := HM3.out.lt; omega))
    have CF5 := Lib.hid (CF.out _ (HM5.out.mb HF.out))
    clear hb4 HB HM HT C36 HB3 HM3 HT3
    go_wp2_with fail
    refine CF5.out.mono ?_
    rintro e w5 ⟨rfl, hb5⟩
    have HB6 := Lib.hid (HB5.out.trans (hb5.mono HB5.out.size))
    have HM6 := Lib.hid (HM5.out.below hb5)
    have HT6 := Lib.hid (there_below17 HT5.out hb5 (by have := HM5.out.lt; omega))
    obtain ⟨s0, t0⟩ := HM6.out.at_ 53 (by decide)
    have HM4 : Hid (Mk (w5.setCell ⟨bm, 53, none⟩ (.int .i64 em)) bm (stS (fun i => As.getD i undef) G em x y 0) x y) := (HM6.out.set 53 (by decide) (.int .i64 em)).ext (fun i hi => by
      by_cases c : i = 53
      · subst c; rw [stS_53, if_pos rfl]
      · rw [if_neg c]; exact (stS_zero (fun i => As.getD i undef) _ _ _ _ i c hi).symm)
    have HB4 := Lib.hid (HB6.out.setCell (p := ⟨bm, 53, none⟩) (show w.heap.size ≤ bm by omega) (.int .i64 em))
    have HT4 := Lib.hid (there_set17 HT6.out (show bm ≠ br by omega) 53 (.int .i64 em))
    clear hb5 HB5 HM5 HT5 CF CF5 HB6 HM6 HT6
    go_wp2_with fail
    go_loopw [29] (fun vi wr => ∃ k : Nat, vi = .int .i64 k ∧ k ≤ 37 ∧ Hid (Below w.heap.size w wr) ∧ Hid (wr.there br 0 55) ∧ Hid (Mk wr bm (stS (fun i => As.getD i undef) G em x y k) x y)) (fun vi _ => 37 - (intOf vi).toNat)
    case atStart => exact ⟨0, rfl, by omega, HB4, HT4, HM4⟩
    case round =>
      clear HB4 HT4 HM4
      obtain ⟨k, rfl, hk, HB, HT, HM⟩ := hrel
      by_cases hlt : k < 37
      · have hltz : (k : Int) < 37 := by omega
        have CK := Lib.hid (CH.out k ((k : Int) + 1) wr rfl hlt HB.out)
        cases hg : G (k + 1) with
        | none =>
          rw [hg] at CK
          unfold retO at CK
          simp only [Option.getD_none, Option.isSome_none] at CK
          rw [vlV_zero] at CK
          have hst := stS_none (fun i => As.getD i undef) G em x y k hg
          have HMn : Hid (Mk wr bm (stS (fun i => As.getD i undef) G em x y (k + 1)) x y) := HM.out.ext (fun i _ => hst i)
          clear hst hg
          go_wp2_with fail
          refine CK.out.mono ?_
          rintro e w6 ⟨rfl, hb6⟩
          have hb7 := below_one7h w6 (.cells #[.int .i64 0, .int .i64 0, .int .i64 0, .string ⟨#[]⟩] 34)
          have HB7 := Lib.hid ((HB.out.trans (hb6.mono HB.out.size)).trans (hb7.mono (HB.out.trans (hb6.mono HB.out.size)).size))
          have HM7 := Lib.hid ((HMn.out.below hb6).below hb7)
          have HT7 := Lib.hid (there_below17 (there_below17 HT.out hb6 (by have := HMn.out.lt; omega)) hb7 (by have := (HMn.out.below hb6).lt; omega))
          clear hb6 hb7 HB HM HT HMn CK
          go_wp2_with fail
          go_roundw
          case rel => exact ⟨k + 1, by go_num, by omega, HB7, HT7, HM7⟩
          case measure => (simp [intOf] <;> omega)
        | some v =>
          rw [hg] at CK
          unfold retO at CK
          simp only [Option.getD_some, Option.isSome_some] at CK
          have hbd := HBD.out (k + 1) v (by omega) (by omega) hg
          have hst := stS_some (fun i => As.getD i undef) G em x y k v hg
          have CP := Lib.hid (fun W (h : Mk W bm (stS (fun i => As.getD i undef) G em x y k) x y) => put17_any k ((k : Int) + 1) rfl hlt bm v _ em x y W h (stS_53 _ _ _ _ _ _) hbd.1 hbd.2)
          unfold PutIs at CP
          have HST : Hid (∀ c, putF (stS (fun i => As.getD i undef) G em x y k) (k + 1) v em x y c = stS (fun i => As.getD i undef) G em x y (k + 1) c) := hst
          obtain ⟨pc, hpc⟩ : ∃ pc, putF (stS (fun i => As.getD i undef) G em x y k) (k + 1) v em x y = pc := ⟨_, rfl⟩
          rw [hpc] at CP HST
          unfold vlV at CK CP
          obtain ⟨vk, vn, vd, vnm⟩ := v
          simp only at CK CP
          clear hg hbd hst hpc
          go_wp2_with fail
          refine CK.out.mono ?_
          rintro e w6 ⟨rfl, hb6⟩
          have hb7 := below_one7h w6 (.cells #[.int .i64 vk, .int .i64 vn, .int .i64 vd, .string ⟨vnm.toArray⟩] 34)
          have HB7 := Lib.hid ((HB.out.trans (hb6.mono HB.out.size)).trans (hb7.mono (HB.out.trans (hb6.mono HB.out.size)).size))
          have HM7 := Lib.hid ((HM.out.below hb6).below hb7)
          have HT7 := Lib.hid (there_below17 (there_below17 HT.out hb6 (by have := HM.out.lt; omega)) hb7 (by have := (HM.out.below hb6).lt; omega))
          have CP7 := Lib.hid (CP.out _ HM7.out)
          clear hb6 hb7 HB HM HT CK CP
          go_wp2_with fail
          refine CP7.out.mono ?_
          rintro e w8 ⟨rfl, hb8, hm8⟩
          have HB8 := Lib.hid (HB7.out.trans (hb8.mono (show w.heap.size ≤ bm by omega)))
          have HM8 := Lib.hid (hm8.ext (fun i _ => HST.out i))
          have HT8 := Lib.hid (there_below17 HT7.out hb8 hbb)
          clear hb8 hm8 HB7 HM7 HT7 CP7
          go_wp2_with fail
          go_roundw
          case rel => exact ⟨k + 1, by go_num, by omega, HB8, HT8, HM8⟩
          case measure => (simp [intOf] <;> omega)
      · have hkn : k = 37 := by omega
        subst hkn
        have hr := HM.out.range
        have hcl : Cs.length = 55 := by rw [← HCS.out]; simp
        rw [HCS.out] at hr
        go_upto_region 12 with fail
        refine wp_region_lit ?_
        go_step
        go_step
        rename_i K' hK'
        refine hK' _ _ ?_
        clear hK'
        refine wpList_load_mid rfl 27 _ rfl bm 0 rfl Cs _ hr Try.underlying27 rfl (by rw [size17, hcl]) ?_
        have hcs : Cs.toArray.size = 55 := by simpa using hcl
        refine wpList_store_mid rfl 27 _ _ rfl br 0 Cs.toArray rfl rfl (by rw [hcs]; exact HT.out) (by rw [hcs]; exact size17) (all_oneCell_toArray HC1.out) ?_
        have hrr := World.rangeAt_setCells_same wr br 0 Cs (by rw [hcl]; exact HT.out)
        have hbf := below_setCells HB.out br hbl Cs 0
        have e55 : Cs.toArray.toList = Cs := rfl
        rw [e55]
        generalize wr.setCells br 0 Cs = wf at *
        clear HT HM hr e55
        go_wp2_with fail
        exact bodyPost_ret (results_style rfl _ _ br Cs hcl rfl hrr) rfl ⟨rfl, hbf⟩
end Go.Proofs.Ytlngipglhlhhbaa
