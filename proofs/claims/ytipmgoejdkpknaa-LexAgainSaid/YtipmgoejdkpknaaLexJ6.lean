/- lex.cut, whole. -/
import Derived.Test.YtipmgoejdkpknaaLexJ5
namespace Go.Proofs.Ytipmgoejdkpknaa
open Go.RowKit TreN LexP FixP

theorem jumps_mono {J J' : Nat → Act → World → Prop} {Q : Exit → Act → World → Prop} (h : ∀ l a w, J l a w → J' l a w) : ∀ e a w, jumps J Q e a w → jumps J' Q e a w := by
  intro e a w hj
  cases e with
  | goto l => exact h _ _ _ hj
  | normal => exact hj
  | exit id => exact hj
  | ret => exact hj
  | panic ch => exact hj
  | outgrown => exact hj

set_option maxRecDepth 100000 in
set_option maxHeartbeats 1000000 in
theorem cut_any {σ : Type} (s : ByteArray) (stp : σ → Tok → σ) (cont : σ → Tok → Bool) (st0 : σ) (g : Nat) (caps : Array Value) (R : σ → World → Prop) (w : World) (hC : CutCb g caps w.heap.size R stp cont (runT stp cont st0 (cut s.data.toList))) (hs : s.size ≤ 40000)
    (h0 : R st0 (w.alloc (.cells #[.int .i64 0, .string ⟨#[]⟩, .int .i64 0] 23))) :
    Calls Try.prog 25 #[.string s, .func (.func g) #[] caps] w fun e w' => e = .returned (.tuple #[]) ∧ R (runT stp cont st0 (cut s.data.toList)) w' := by
  obtain ⟨fin, hfin⟩ : ∃ fin, runT stp cont st0 (cut s.data.toList) = fin := ⟨_, rfl⟩
  rw [hfin] at hC ⊢
  have hT0 : TokIn (w.alloc (.cells #[.int .i64 0, .string ⟨#[]⟩, .int .i64 0] 23)) w.heap.size (.int .i64 0) (.string ⟨#[]⟩) (.int .i64 0) := heap_alloc_new w _
  have hrest : Rest s stp cont fin st0 0 := hfin
  have HC := Lib.hid hC
  have H0 := Lib.hid h0
  have HT := Lib.hid hT0
  have HF := Lib.hid hrest
  clear hC h0 hT0 hfin hrest
  go_enter Try.func25, Try.ntmps25
  go_wp2_with fail
  have hQn : ∀ (a : Act) (w' : World), a.defers = [] → R fin w' → bodyPost Try.prog Try.f25 (fun e w' => e = .returned (.tuple #[]) ∧ R fin w') .normal a w' := by
    intro a w' ha hr
    exact bodyPost_end (results_none rfl _ _ _) ha ⟨rfl, hr⟩
  have hQr : ∀ (a : Act) (w' : World), a.defers = [] → R fin w' → bodyPost Try.prog Try.f25 (fun e w' => e = .returned (.tuple #[]) ∧ R fin w') .ret a w' := by
    intro a w' ha hr
    exact bodyPost_ret (results_none rfl _ _ _) ha ⟨rfl, hr⟩
  have key : ∀ l a' w', CutJ s w.heap.size stp cont fin g caps R l a' w' → CutQ s w.heap.size stp cont fin g caps R l (bodyPost Try.prog Try.f25 (fun e w' => e = .returned (.tuple #[]) ∧ R fin w')) a' w' := by
    intro l a' w' hJ
    match l, hJ with
    | 0, hJ => exact cut_0 s _ stp cont fin g caps R _ HC.out hs hQr a' w' hJ
    | 1, hJ => exact cut_1 s _ stp cont fin g caps R _ HC.out hs a' w' hJ
    | 2, hJ => exact cut_2 s _ stp cont fin g caps R _ HC.out hs a' w' hJ
    | 3, hJ => exact cut_3 s _ stp cont fin g caps R _ HC.out hs a' w' hJ
    | 4, hJ => exact cut_4 s _ stp cont fin g caps R _ HC.out hs a' w' hJ
    | 5, hJ => exact cut_5 s _ stp cont fin g caps R _ HC.out hs a' w' hJ
    | 6, hJ => exact cut_6 s _ stp cont fin g caps R _ HC.out hs hQn a' w' hJ
    | 7, hJ => exact cut_7 s _ stp cont fin g caps R _ HC.out hQn a' w' hJ
    | n + 8, hJ => obtain ⟨_, _, _, _, _, _, hx⟩ := hJ; exact hx.elim
  have hb : Try.f25.body = some (.scope _) := rfl
  have KEY := Lib.hid key
  have HQN := Lib.hid hQn
  have HQR := Lib.hid hQr
  clear key hQn hQr
  refine wp_scope_labels (CutJ s w.heap.size stp cont fin g caps R) (CutM s.size) ?_ ?_
  · have hxq : ∀ a1 w1 X, CutJ s w.heap.size stp cont fin g caps R 0 a1 w1 → (∀ c, Try.f25.body = some (.scope c) → findLabel c 0 = some (.seq .skip X)) → X.wp Try.prog (jumps (CutJ s w.heap.size stp cont fin g caps R) (bodyPost Try.prog Try.f25 (fun e w' => e = .returned (.tuple #[]) ∧ R fin w'))) a1 w1 := by
      intro a1 w1 X hJ hX
      obtain ⟨X2, ⟨c, hc1, hc2⟩, hX2⟩ := KEY.out 0 _ _ hJ
      have hc3 := Option.some.inj ((hX c hc1).symm.trans hc2)
      have hc4 := (Code.seq.inj hc3).2
      rw [hc4]
      exact wp_mono hX2 (jumps_mono fun _ _ _ h => h.1)
    have HXQ := Lib.hid hxq
    clear hxq
    go_wp2_with fail
    go_step3
    rename_i K hK
    refine hK _ _ ?_
    refine HXQ.out _ _ _ ⟨st0, 0, .int .i64 0, ⟨rfl, rfl, rfl, rfl, rfl, rfl, rfl⟩, H0.out, by omega, ⟨_, _, _, HT.out⟩, HF.out⟩ ?_
    intro c hc
    rw [hb] at hc
    injection hc with hc
    injection hc with hc
    rw [← hc]
    rfl
  · intro l a' w' hJ
    obtain ⟨X, ⟨c, hc1, hc2⟩, hX⟩ := KEY.out l _ _ hJ
    refine ⟨X, ?_, hX⟩
    rw [hb] at hc1
    injection hc1 with hc1
    injection hc1 with hc1
    rw [← hc1] at hc2
    exact hc2
end Go.Proofs.Ytipmgoejdkpknaa
