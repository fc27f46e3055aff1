/- Layer 14, the laws: what a query says. -/
import Derived.Test.YtoaenlbbochjhaaTruL1
import Derived.Lib.QuietBelow
import Derived.Deep.QuietTactic
import Derived.Test.YtoaenlbbochjhaaTruR3
namespace Go.Proofs.Ytoaenlbbochjhaa
open Go.RowKit TreN LexP FixP SynP ValP FixM QryP TruP Go.Sort
set_option linter.unusedVariables false

set_option maxRecDepth 100000 in
set_option maxHeartbeats 8000000 in
theorem TruthSays_walk (x : List UInt8) (hs : x.length ≤ maxLen) (a : Option Addr) (L : List QN) (n c : Nat) (t : Int) (nm : ByteArray) (ww hh : Int) (w : World) (hn : L.length = n) (hm : n ≤ maxLen) (hQ : Qns w a L) :
    Calls Try.prog 5 #[.agg #[.string ⟨x.toArray⟩, .slice a n c], .agg #[.int .i64 t, .string nm, .int .i64 ww, .int .i64 hh]] w fun e w' => e = .returned (.bool true) ∧ Below w.heap.size w w' := by
  have E := fun W (hW : Below w.heap.size w W) => Eval14_any x hs a L n c t nm ww hh W hn hm (hQ.below hW)
  have F := fun W (hW : Below w.heap.size w W) => refEval14_any x hs a L n c t nm ww hh W hn hm (hQ.below hW)
  unfold exA at E F
  generalize sayQ ⟨x.toArray⟩ L t ww hh = r at E F
  unfold maxLen at hm
  have b1 := below_oneQ w (.cells #[.string ⟨x.toArray⟩, .slice a n c] 29)
  have h1 := heap_alloc_new w (.cells #[.string ⟨x.toArray⟩, .slice a n c] 29)
  generalize hW1 : w.alloc (.cells #[.string ⟨x.toArray⟩, .slice a n c] 29) = W1 at *
  have b2 := below_oneQ W1 (.cells #[.int .i64 t, .string nm, .int .i64 ww, .int .i64 hh] 31)
  have h2 := heap_alloc_new W1 (.cells #[.int .i64 t, .string nm, .int .i64 ww, .int .i64 hh] 31)
  have h1 := (b2.block _ (blk_ltQ h1)).trans h1
  generalize hW2 : W1.alloc (.cells #[.int .i64 t, .string nm, .int .i64 ww, .int .i64 hh] 31) = W2 at *
  have HB2 := Lib.hid (b1.trans (b2.mono b1.size))
  have q0 : W2.cell? ⟨w.heap.size, 0, none⟩ = some (.string ⟨x.toArray⟩) := cell_of h1 rfl
  have q1 : W2.cell? ⟨w.heap.size, 1, none⟩ = some (.slice a n c) := cell_of h1 rfl
  have e0 : W2.cell? ⟨W1.heap.size, 0, none⟩ = some (.int .i64 t) := cell_of h2 rfl
  have e1 : W2.cell? ⟨W1.heap.size, 1, none⟩ = some (.string nm) := cell_of h2 rfl
  have e2 : W2.cell? ⟨W1.heap.size, 2, none⟩ = some (.int .i64 ww) := cell_of h2 rfl
  have e3 : W2.cell? ⟨W1.heap.size, 3, none⟩ = some (.int .i64 hh) := cell_of h2 rfl
  have r0 := cell_regrown q0
  have r1 := cell_regrown q1
  have s0 := cell_regrown e0
  have s1 := cell_regrown e1
  have s2 := cell_regrown e2
  have s3 := cell_regrown e3
  have cE := fun (dd : Nat) (os : Array Obj) => Calls.regrown_of (E (grow (redrawn W2 dd) os) (HB2.out.trans ((below_regrown W2 dd os).mono HB2.out.size)))
  have cF := fun (dd : Nat) (os : Array Obj) => Calls.regrown_of (F (grow (redrawn W2 dd) os) (HB2.out.trans ((below_regrown W2 dd os).mono HB2.out.size)))
  have cK := fun (dd : Nat) (os : Array Obj) => Calls.regrown_of (knownT_any (grow (redrawn W2 dd) os))
  clear E F b1 b2 h1 h2 q0 q1 e0 e1 e2 e3 hQ hn
  by_cases h40 : 40 < n
  · have hz : (40 : Int) < (n : Int) := by omega
    have hzd : decide (40 < n) = true := by simp; omega
    clear cE cF s0 s1 s2 s3
    go_enter Try.func5, Try.ntmps5
    go_wp2_with fail
    refine wp_region_quiet_below (by kernel_rfl) (by kernel_rfl) ?_
    quiet_step (with_reducible exact cK _ _)
    quiet_step (with_reducible exact cK _ _)
    quiet_step (with_reducible exact cK _ _)
    quiet_step (with_reducible exact cK _ _)
    quiet_step (with_reducible exact cK _ _)
    quiet_step (with_reducible exact cK _ _)
    quiet_step (with_reducible exact cK _ _)
    refine wpQuiet_step (fun K hK => ?_)
    try subst hA
    go_simp
    generalize hA : (⟨_, _⟩ : Act) = aa
    refine hK aa ?_
    clear hK K
    refine wpQuiet_step (fun K hK => ?_)
    try subst hA
    go_simp
    generalize hA : (⟨_, _⟩ : Act) = aa
    refine hK aa ?_
    clear hK K
    refine wpQuiet_step (fun K hK => ?_)
    try subst hA
    go_simp
    generalize hA : (⟨_, _⟩ : Act) = aa
    refine hK aa ?_
    clear hK K
    refine wpQuiet_step (fun K hK => ?_)
    try subst hA
    go_simp
    generalize hA : (⟨_, _⟩ : Act) = aa
    refine hK aa ?_
    clear hK K
    refine wpQuiet_step (fun K hK => ?_)
    try subst hA
    go_simp
    generalize hA : (⟨_, _⟩ : Act) = aa
    refine hK aa ?_
    clear hK K
    refine wpQuiet_step (fun K hK => ?_)
    try subst hA
    go_simp
    generalize hA : (⟨_, _⟩ : Act) = aa
    refine hK aa ?_
    clear hK K
    refine wpQuiet_step (fun K hK => ?_)
    try subst hA
    go_simp
    generalize hA : (⟨_, _⟩ : Act) = aa
    refine hK aa ?_
    clear hK K
    refine wpQuiet_step (fun K hK => ?_)
    try subst hA
    go_simp
    generalize hA : (⟨_, _⟩ : Act) = aa
    refine hK aa ?_
    clear hK K
    refine wpQuiet_step (fun K hK => ?_)
    try subst hA
    go_simp
    generalize hA : (⟨_, _⟩ : Act) = aa
    refine hK aa ?_
    clear hK K
    refine wpQuiet_step (fun K hK => ?_)
    try subst hA
    go_simp
    generalize hA : (⟨_, _⟩ : Act) = aa
    refine hK aa ?_
    clear hK K
    refine wpQuiet_step (fun K hK => ?_)
    try subst hA
    go_simp
    generalize hA : (⟨_, _⟩ : Act) = aa
    refine hK aa ?_
    clear hK K
    refine wpQuiet_step (fun K hK => ?_)
    try subst hA
    go_simp
    generalize hA : (⟨_, _⟩ : Act) = aa
    refine hK aa ?_
    clear hK K
    refine wpQuiet_step (fun K hK => ?_)
    try subst hA
    go_simp
    generalize hA : (⟨_, _⟩ : Act) = aa
    refine hK aa ?_
    clear hK K
    refine wpQuiet_nil ?_
    subst hA
    intro _ hw'
    obtain ⟨⟨dq, osq⟩, hw''⟩ := hw'
    subst hw''
    go_wp2_with fail
    go_ret
    exact ⟨rfl, HB2.out.trans ((below_regrown W2 dq osq).mono HB2.out.size)⟩
  · have hzd : decide (40 < n) = false := by simp; omega
    have hzi : decide ((40 : Int) < (n : Int)) = false := by simp; omega
    have hzf : ((40 : Int) < (n : Int)) = False := by simp; omega
    have hzn : (n : Int) ≤ 40 := by omega
    go_enter Try.func5, Try.ntmps5
    go_wp2_with fail
    refine wp_region_quiet_below (by kernel_rfl) (by kernel_rfl) ?_
    quiet_step (with_reducible exact cK _ _)
    quiet_step (with_reducible exact cK _ _)
    quiet_step (with_reducible exact cK _ _)
    quiet_step (with_reducible exact cK _ _)
    quiet_step (with_reducible exact cK _ _)
    refine wpQuiet_step (fun K hK => ?_)
    try subst hA
    go_simp
    generalize hA : (⟨_, _⟩ : Act) = aa
    refine hK aa ?_
    clear hK K
    refine wpQuiet_step (fun K hK => ?_)
    try subst hA
    go_simp
    generalize hA : (⟨_, _⟩ : Act) = aa
    refine hK aa ?_
    clear hK K
    refine wpQuiet_step (fun K hK => ?_)
    try subst hA
    go_simp
    generalize hA : (⟨_, _⟩ : Act) = aa
    refine hK aa ?_
    clear hK K
    refine wpQuiet_step (fun K hK => ?_)
    try subst hA
    go_simp
    generalize hA : (⟨_, _⟩ : Act) = aa
    refine hK aa ?_
    clear hK K
    refine wpQuiet_step (fun K hK => ?_)
    try subst hA
    go_simp
    generalize hA : (⟨_, _⟩ : Act) = aa
    refine hK aa ?_
    clear hK K
    refine wpQuiet_step (fun K hK => ?_)
    subst hA
    go_simp
    refine ⟨_, fun _ => cE _ _, ?_⟩
    generalize hA : (⟨_, _⟩ : Act) = aa
    refine hK aa ?_
    clear hK K
    refine wpQuiet_step (fun K hK => ?_)
    try subst hA
    go_simp
    generalize hA : (⟨_, _⟩ : Act) = aa
    refine hK aa ?_
    clear hK K
    refine wpQuiet_step (fun K hK => ?_)
    try subst hA
    go_simp
    generalize hA : (⟨_, _⟩ : Act) = aa
    refine hK aa ?_
    clear hK K
    refine wpQuiet_step (fun K hK => ?_)
    subst hA
    go_simp
    refine ⟨_, fun _ => cF _ _, ?_⟩
    generalize hA : (⟨_, _⟩ : Act) = aa
    refine hK aa ?_
    clear hK K
    refine wpQuiet_step (fun K hK => ?_)
    try subst hA
    go_simp
    generalize hA : (⟨_, _⟩ : Act) = aa
    refine hK aa ?_
    clear hK K
    refine wpQuiet_step (fun K hK => ?_)
    try subst hA
    go_simp
    generalize hA : (⟨_, _⟩ : Act) = aa
    refine hK aa ?_
    clear hK K
    refine wpQuiet_step (fun K hK => ?_)
    subst hA
    go_simp
    refine ⟨_, fun _ => cK _ _, ?_⟩
    generalize hA : (⟨_, _⟩ : Act) = aa
    refine hK aa ?_
    clear hK K
    refine wpQuiet_step (fun K hK => ?_)
    try subst hA
    go_simp
    generalize hA : (⟨_, _⟩ : Act) = aa
    refine hK aa ?_
    clear hK K
    refine wpQuiet_step (fun K hK => ?_)
    try subst hA
    go_simp
    generalize hA : (⟨_, _⟩ : Act) = aa
    refine hK aa ?_
    clear hK K
    refine wpQuiet_step (fun K hK => ?_)
    try subst hA
    go_simp
    generalize hA : (⟨_, _⟩ : Act) = aa
    refine hK aa ?_
    clear hK K
    refine wpQuiet_nil ?_
    subst hA
    intro _ hw'
    obtain ⟨⟨dq, osq⟩, hw''⟩ := hw'
    subst hw''
    go_wp2_with fail
    go_ret
    exact ⟨rfl, HB2.out.trans ((below_regrown W2 dq osq).mono HB2.out.size)⟩
end Go.Proofs.Ytoaenlbbochjhaa
