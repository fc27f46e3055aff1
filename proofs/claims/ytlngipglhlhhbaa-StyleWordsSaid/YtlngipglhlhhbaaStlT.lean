/- Layer 17: a computed style is one of ints, a truth and a text. -/
import Derived.Test.YtlngipglhlhhbaaStlL1
namespace Go.Proofs.Ytlngipglhlhhbaa
open Go.RowKit TreN LexP FixP SynP ValP PropP FixM
set_option linter.unusedVariables false

theorem wfI_of {n : Int} (h1 : -4611686018427387904 ≤ n) (h2 : n ≤ 4611686018427387904) : WfI n := by
  unfold WfI Lit.wf
  simp only [Bool.and_eq_true, decide_eq_true_eq]
  have e1 : IntKind.i64.min = -9223372036854775808 := by decide
  have e2 : IntKind.i64.max = 9223372036854775807 := by decide
  rw [e1, e2]
  omega
theorem PT_bd17 (a n d : Int) : -1073741824 ≤ PT a n d ∧ PT a n d ≤ 1073741824 := by
  unfold PT
  split
  · omega
  · exact H_bd _
theorem ms_bd (v : Val) (f a b : Int) : -1073741824 ≤ msS v f a b ∧ msS v f a b ≤ 1073741824 := by
  unfold msS measS
  repeat' split
  all_goals first
    | exact PT_bd17 _ _ _
    | omega
theorem up_bd (v : Val) (f a b : Int) : -1073741824 ≤ upS v f a b ∧ upS v f a b ≤ 1073741824 := by
  have := ms_bd v f a b
  unfold upS
  omega
theorem font_bd (v : Val) (f a b : Int) : -1073741824 ≤ fontS v f a b ∧ fontS v f a b ≤ 1073741824 := by
  unfold fontS
  split
  · have := PT_bd17 f v.n 100000
    omega
  · exact up_bd v f a b
/-- a value that a property may have -/
structure Vb17 (v : Val) : Prop where
  n1 : -1073741824 ≤ v.n
  n2 : v.n ≤ 1073741824
  d1 : v.kind = 5 → 0 ≤ v.d ∧ v.d ≤ 1073741824
  nm : v.name.length ≤ maxLen
theorem wrds_len17 : ∀ p : Fin 38, (wrdsP p.val).length ≤ 31 := by decide
theorem place_bd (p : Nat) (hp : p < 38) (v : Val) : -1 ≤ placeS p v ∧ placeS p v ≤ 40 := by
  have h := plc_bd (wrdsP p) (wordS v) 1
  have h2 := wrds_len17 ⟨p, hp⟩
  simp only at h2
  unfold placeS
  omega
theorem tdiv_bd (n : Int) (h1 : -1073741824 ≤ n) (h2 : n ≤ 1073741824) : -1073741824 ≤ n.tdiv 1000 ∧ n.tdiv 1000 ≤ 1073741824 := by
  rcases Int.le_total 0 n with h | h
  · rw [Int.tdiv_eq_ediv_of_nonneg h]; omega
  · have e : n.tdiv 1000 = -((-n).tdiv 1000) := by rw [Int.neg_tdiv]; omega
    rw [e, Int.tdiv_eq_ediv_of_nonneg (by omega)]; omega
theorem out_int (p : Nat) (h1 : 1 ≤ p) (hp : p < 38) (h2 : p ≠ 2) (h35 : p ≠ 35) (v : Val) (hv : Vb17 v) (em a b : Int) (j : Nat) : ∃ n, outC p v em a b j = .int .i64 n ∧ WfI n := by
  have b1 := place_bd p hp v
  have b2 := ms_bd v em a b
  have b3 := up_bd v em a b
  have n1 := hv.n1
  have n2 := hv.n2
  have b4 := tdiv_bd v.n n1 n2
  have bk : 0 ≤ sizK1 v ∧ sizK1 v ≤ 6 := by
    unfold sizK1 callS
    repeat' split
    all_goals omega
  have bn : ∀ m, -1073741824 ≤ m → m ≤ 1073741824 → -1073741824 ≤ sizN1 v m ∧ sizN1 v m ≤ 1073741824 := fun m q1 q2 => by
    unfold sizN1
    repeat' split
    all_goals omega
  have bu := bn _ b3.1 b3.2
  have bm := bn _ b2.1 b2.2
  have br : 0 ≤ ratD v ∧ ratD v ≤ 1073741824 := by
    unfold ratD
    split
    · omega
    · split
      · exact hv.d1 (by assumption)
      · omega
  have bt : -1073741824 ≤ ratN v ∧ ratN v ≤ 1073741824 := by
    unfold ratN
    repeat' split
    all_goals omega
  have bl : -1073741824 ≤ lineS v ∧ lineS v ≤ 1073741824 := by
    unfold lineS
    split <;> omega
  unfold outC
  split
  · exact ⟨_, rfl, wfI_of (by omega) (by omega)⟩
  try rw [if_neg h2]
  split
  · split
    · exact ⟨_, rfl, wfI_of (by omega) (by omega)⟩
    · exact ⟨_, rfl, wfI_of (by omega) (by omega)⟩
  split
  · split
    · exact ⟨_, rfl, wfI_of (by omega) (by omega)⟩
    · exact ⟨_, rfl, wfI_of (by omega) (by omega)⟩
  split
  · exact ⟨_, rfl, wfI_of (by omega) (by omega)⟩
  split
  · split
    · exact ⟨_, rfl, wfI_of (by omega) (by omega)⟩
    · exact ⟨_, rfl, wfI_of (by omega) (by omega)⟩
  split
  · exact ⟨_, rfl, wfI_of (by omega) (by omega)⟩
  split
  · exact ⟨_, rfl, wfI_of (by omega) (by omega)⟩
  try rw [if_neg h35]
  exact ⟨_, rfl, wfI_of (by omega) (by omega)⟩
def intV : Value → Int
  | .int _ n => n
  | _ => 0
def boolV : Value → Bool
  | .bool b => b
  | _ => false
def strV : Value → ByteArray
  | .string s => s
  | _ => ByteArray.empty
theorem tyL_map (z : Nat → Int) (b : Bool) (nm : ByteArray) : (List.range 55).map (fun i => if i = 1 then Value.bool b else if i = 52 then .string nm else .int .i64 (z i)) = tyL z b nm := by kernel_rfl
theorem tyL_get (z : Nat → Int) (b : Bool) (nm : ByteArray) (i : Nat) (hi : i < 55) : (tyL z b nm).getD i undef = if i = 1 then Value.bool b else if i = 52 then .string nm else .int .i64 (z i) := by
  rw [← tyL_map]
  rw [List.getD_eq_getElem?_getD, List.getElem?_map, List.getElem?_range hi]
  rfl
theorem pof_12 : ∀ i : Fin 55, (pofC i.val = 2 ↔ i.val = 1) ∧ (pofC i.val = 35 ↔ i.val = 52) := by decide
theorem typed17 (z : Nat → Int) (b : Bool) (nm : ByteArray) (hz : ∀ i, WfI (z i)) (hn : nm.size ≤ maxLen) (G : Nat → Option Val) (hG : ∀ p v, 1 ≤ p → p ≤ 37 → G p = some v → Vb17 v) (x y : Int) :
    ∃ z' b' nm', cells17 (tyL z b nm) G (z 53) x y = tyL z' b' nm' ∧ (∀ i, WfI (z' i)) ∧ nm'.size ≤ maxLen := by
  obtain ⟨s, hs⟩ : ∃ s, stS (fun i => (tyL z b nm).getD i undef) G (emS (G 36) (z 53) x y) x y 37 = s := ⟨_, rfl⟩
  have hem : WfI (emS (G 36) (z 53) x y) := by
    unfold emS
    split
    · rename_i v _
      have := font_bd v (z 53) x y
      exact wfI_of (by omega) (by omega)
    · exact hz 53
  have hint : ∀ i, i < 55 → i ≠ 1 → i ≠ 52 → ∃ n, s i = .int .i64 n ∧ WfI n := fun i hi h1 h52 => by
    rw [← hs]
    have hb := cells_pof ⟨i, hi⟩
    have h12 := pof_12 ⟨i, hi⟩
    simp only at hb h12
    unfold stS
    split
    · exact ⟨_, rfl, hem⟩
    · rw [if_pos hb.2.2.2]
      cases hg : G (pofC i) with
      | none =>
        simp only
        rw [tyL_get z b nm i hi, if_neg h1, if_neg h52]
        exact ⟨_, rfl, hz i⟩
      | some v =>
        simp only
        exact out_int (pofC i) hb.2.2.1 (by omega) (fun e => h1 (h12.1.1 e)) (fun e => h52 (h12.2.1 e)) v (hG _ v hb.2.2.1 hb.2.2.2 hg) _ x y _
  have hbool : ∃ q, s 1 = .bool q := by
    rw [← hs]
    unfold stS
    rw [if_neg (by decide), if_pos (by decide)]
    cases hg : G (pofC 1) with
    | none => exact ⟨_, rfl⟩
    | some v => exact ⟨_, rfl⟩
  have hstr : ∃ q, s 52 = .string q ∧ q.size ≤ maxLen := by
    rw [← hs]
    unfold stS
    rw [if_neg (by decide), if_pos (by decide)]
    cases hg : G (pofC 52) with
    | none => exact ⟨_, rfl, hn⟩
    | some v => exact ⟨⟨v.name.toArray⟩, rfl, by have := (hG 35 v (by decide) (by decide) hg).nm; simpa [ByteArray.size] using this⟩
  obtain ⟨q1, hq1⟩ := hbool
  obtain ⟨q2, hq2, hq3⟩ := hstr
  refine ⟨fun i => if i < 55 ∧ i ≠ 1 ∧ i ≠ 52 then intV (s i) else 0, q1, q2, ?_, fun i => ?_, hq3⟩
  · unfold cells17
    rw [hs, ← tyL_map]
    refine List.map_congr_left (fun i hi => ?_)
    have hi2 := List.mem_range.1 hi
    by_cases c1 : i = 1
    · subst c1; rw [if_pos rfl, hq1]
    · rw [if_neg c1]
      by_cases c2 : i = 52
      · subst c2; rw [if_pos rfl, hq2]
      · rw [if_neg c2]
        try dsimp only
        rw [if_pos ⟨hi2, c1, c2⟩]
        obtain ⟨n, hn2, _⟩ := hint i hi2 c1 c2
        rw [hn2]
        rfl
  · dsimp only
    split
    · rename_i h
      obtain ⟨n, hn2, hw⟩ := hint i h.1 h.2.1 h.2.2
      rw [hn2]
      exact hw
    · exact (by decide : (Lit.int .i64 0).wf = true)
end Go.Proofs.Ytlngipglhlhhbaa
