/- The walks of layer 1's texts: what the reference prints. -/
import Derived.Test.YtjmjjnbpbofjhaaFixWa
import Derived.Test.YtjmjjnbpbofjhaaFixAll
import Derived.Deep.RegionWith
namespace Go.Proofs.Ytjmjjnbpbofjhaa
open Go.RowKit FixM FixP

theorem bcell {W w1 : World} (hb : Below W.heap.size W w1) : (∀ b o, b < W.heap.size → w1.cell? ⟨b, o, none⟩ = W.cell? ⟨b, o, none⟩) ∧ (∀ b o, b < W.heap.size → w1.frozen? ⟨b, o, none⟩ = W.frozen? ⟨b, o, none⟩) :=
  ⟨fun b o h => hb.cell (p := ⟨b, o, none⟩) h, fun b o h => hb.frozen (p := ⟨b, o, none⟩) h⟩

/-- nothing that was there has turned; what is new is free to write -/
def BG (w w' : World) : Prop := Below w.heap.size w w' ∧ Grown w w'
theorem BG.refl (w : World) : BG w w := ⟨Below.refl _ _, Grown.refl _⟩
theorem BG.trans {a b c : World} (h1 : BG a b) (h2 : BG b c) : BG a c :=
  ⟨h1.1.trans (h2.1.mono h1.1.size), World.keptBut_trans h1.2.1 h2.2.1, fun x => (h2.2.2.1 x).trans (h1.2.2.1 x), Nat.le_trans h1.2.2.2 h2.2.2.2⟩
theorem BG.alloc {a b : World} (h : BG a b) (c : Array Value) (t : TypeId) : BG a (b.alloc (.cells c t)) := ⟨h.1.alloc h.1.size _, h.2.alloc _ _⟩
theorem BG.drew {a b : World} (h : BG a b) : BG a b.drew := ⟨h.1.drew, h.2.drew⟩

theorem one_byte (W : World) (b : Nat) (d : Int) (h0 : 0 ≤ d) (h9 : d ≤ 9) (h : W.cell? ⟨b, 0, none⟩ = some (.int .u8 (48 + d))) :
    (convert 76 9 (.slice (some ⟨b, 0, none⟩) 1 1)).run Try.prog W = .ok (.string ⟨#[dgc d]⟩) W := by
  refine run_convert_bytes_back W _ _ 5 ⟨b, 0, none⟩ 1 [dgc d] Try.underlying76 Try.underlying5 Try.underlying9 ?_
  intro j hj
  have hj0 : j = 0 := by simpa using hj
  subst hj0
  have ha : (⟨b, 0, none⟩ : Addr).add 0 = ⟨b, 0, none⟩ := by simp [Addr.add]
  rw [ha, h]
  simp [dgc_nat h0 h9]

set_option maxRecDepth 100000 in
set_option maxHeartbeats 400000 in
theorem Whole_low (n : Int) (w : World) (h0 : 0 ≤ n) (h1 : n < 10) (k : Nat) :
    Calls Try.prog 104 #[.int .i64 n] w fun e w' => e = .returned (.string ⟨(whl (k + 1) n).toArray⟩) ∧ BG w w' := by
  have hw : whl (k + 1) n = [dgc n] := by unfold whl; rw [if_pos h1]
  have hd := dgc_nat h0 (by omega)
  have HW := Lib.hid hw
  have HD := Lib.hid hd
  clear hw hd
  have hcv := fun W b => one_byte W b n h0 (by omega)
  go_enter Try.func104, Try.ntmps104
  go_wp2_with fail
  go_ret
  rw [HW.out]
  exact ⟨rfl, (BG.refl _).alloc _ _⟩

set_option maxRecDepth 100000 in
set_option maxHeartbeats 400000 in
theorem Whole_high (n : Int) (w : World) (h1 : 10 ≤ n) (h2 : n ≤ 1073741824) (t : List UInt8) (ht : t.length ≤ 100)
    (ih : ∀ w, Calls Try.prog 104 #[.int .i64 (n / 10)] w fun e w' => e = .returned (.string ⟨t.toArray⟩) ∧ BG w w') :
    Calls Try.prog 104 #[.int .i64 n] w fun e w' => e = .returned (.string ⟨(t ++ [dgc (n % 10)]).toArray⟩) ∧ BG w w' := by
  have HI := Lib.hid ih
  clear ih
  have d0 : 0 ≤ n % 10 := by omega
  have d9 : n % 10 ≤ 9 := by omega
  have hcv := fun W b => one_byte W b (n % 10) d0 d9
  go_enter Try.func104, Try.ntmps104
  go_wp2_with fail
  have hadd : ∀ W, (Op.stringOp .add ⟨t.toArray⟩ ⟨#[dgc (n % 10)]⟩).run Try.prog W = .ok (.string ⟨(t ++ [dgc (n % 10)]).toArray⟩) W := fun W =>
    run_string_add_lists W t [dgc (n % 10)] (by omega) (by simp)
  have q1 : n.tdiv 10 = n / 10 := Int.tdiv_eq_ediv_of_nonneg (by omega)
  have q2 : n.tmod 10 = n % 10 := Int.tmod_eq_emod_of_nonneg (by omega)
  have q3 : IntKind.i64.wrap (n / 10) = n / 10 := IntWalk.i64_in _ (by omega)
  have q4 : IntKind.i64.wrap (n % 10) = n % 10 := IntWalk.i64_in _ (by omega)
  have q5 : IntKind.i64.wrap (48 + n % 10) = 48 + n % 10 := IntWalk.i64_in _ (by omega)
  have q6 : IntKind.u8.wrap (48 + n % 10) = 48 + n % 10 := by simp [IntKind.wrap, IntKind.signed, IntKind.bits]; omega
  go_region_with (go_at_call 104; refine (HI.out _).mono ?_; rintro e w1 ⟨rfl, hb⟩; obtain ⟨hc, hf⟩ := bcell hb.1; have HBG := Lib.hid hb; clear hb)
  all_goals (go_wp2_with fail; go_ret)
  all_goals refine ⟨rfl, ?_⟩
  all_goals first
    | exact BG.alloc (BG.trans (BG.drew (BG.refl _)) HBG.out) _ _
    | exact BG.trans (BG.alloc (BG.drew (BG.refl _)) _ _) HBG.out

theorem Whole_any : ∀ (k : Nat) (n : Int) (w : World), k ≤ 9 → 0 ≤ n → n < 10 ^ (k + 1) → n ≤ 1073741824 →
    Calls Try.prog 104 #[.int .i64 n] w fun e w' => e = .returned (.string ⟨(whl (k + 1) n).toArray⟩) ∧ BG w w'
  | 0, n, w, _, h0, h1, _ => Whole_low n w h0 (by simpa using h1) 0
  | k + 1, n, w, hk, h0, h1, h2 => by
    by_cases h : n < 10
    · exact Whole_low n w h0 h (k + 1)
    · have hw : whl (k + 2) n = whl (k + 1) (n / 10) ++ [dgc (n % 10)] := by
        show (if n < 10 then _ else _) = _
        rw [if_neg h]
      rw [hw]
      have h3 : n / 10 < 10 ^ (k + 1) := by
        rw [Int.pow_succ] at h1
        omega
      exact Whole_high n w (by omega) h2 _ (by have := whl_len (k + 1) (n / 10); omega) (fun w => Whole_any k (n / 10) w (by omega) (by omega) h3 (by omega))

end Go.Proofs.Ytjmjjnbpbofjhaa
