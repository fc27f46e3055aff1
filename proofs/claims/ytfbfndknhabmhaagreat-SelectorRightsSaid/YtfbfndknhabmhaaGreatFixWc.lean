/- Joined texts: FixW11 FixW12 FixW13. -/
import Derived.Test.YtfbfndknhabmhaaGreatFixWa
import Derived.Test.YtfbfndknhabmhaaGreatFixAll
import Derived.Deep.RegionWith
import Derived.Deep.LoopGhost
namespace Go.Proofs.YtfbfndknhabmhaaGreat
open Go.RowKit FixM FixP

theorem bcell {W w1 : World} (hb : Below W.heap.size W w1) : (∀ b o, b < W.heap.size → w1.cell? ⟨b, o, none⟩ = W.cell? ⟨b, o, none⟩) ∧ (∀ b o, b < W.heap.size → w1.frozen? ⟨b, o, none⟩ = W.frozen? ⟨b, o, none⟩) :=
  ⟨fun b o h => hb.cell (p := ⟨b, o, none⟩) h, fun b o h => hb.frozen (p := ⟨b, o, none⟩) h⟩

/-- nothing that was there has turned; what is new is free to write -/
def BG (w w' : World) : Prop := Below w.heap.size w w' ∧ Grown w w'
theorem BG.refl (w : World) : BG w w := ⟨Below.refl _ _, Grown.refl _⟩
theorem BG.trans {a b c : World} (h1 : BG a b) (h2 : BG b c) : BG a c :=
  ⟨h1.1.trans (h2.1.mono h1.1.size), World.keptBut_trans h1.2.1 h2.2.1, fun x => (h2.2.2.1 x).trans (h1.2.2.1 x), Nat.le_trans h1.2.2.2 h2.2.2.2⟩
theorem BG.alloc {a b : World} (h : BG a b) (c : Array Value) (t : TypeId) : BG a (b.alloc (.cells c t)) := ⟨h.1.alloc h.1.size _, h.2.alloc _ _⟩
theorem BG.drew {a b : World} (h : BG a b) : BG a b.drew := ⟨h.1.drew, h.2.drew⟩

theorem one_byte (W : World) (b : Nat) (d : Int) (h0 : 0 ≤ d) (h9 : d ≤ 9) (h : W.cell? ⟨b, 0, none⟩ = some (.int .u8 (48 + d))) :
    (convert 116 9 (.slice (some ⟨b, 0, none⟩) 1 1)).run Tryz.prog W = .ok (.string ⟨#[dgc d]⟩) W := by
  refine run_convert_bytes_back W _ _ 5 ⟨b, 0, none⟩ 1 [dgc d] Tryz.underlying116 Tryz.underlying5 Tryz.underlying9 ?_
  intro j hj
  have hj0 : j = 0 := by simpa using hj
  subst hj0
  have ha : (⟨b, 0, none⟩ : Addr).add 0 = ⟨b, 0, none⟩ := by simp [Addr.add]
  rw [ha, h]
  simp [dgc_nat h0 h9]

set_option maxRecDepth 100000 in
set_option maxHeartbeats 400000 in
theorem Whole_low (n : Int) (w : World) (h0 : 0 ≤ n) (h1 : n < 10) (k : Nat) :
    Calls Tryz.prog 101 #[.int .i64 n] w fun e w' => e = .returned (.string ⟨(whl (k + 1) n).toArray⟩) ∧ BG w w' := by
  have hw : whl (k + 1) n = [dgc n] := by unfold whl; rw [if_pos h1]
  have hd := dgc_nat h0 (by omega)
  have HW := Lib.hid hw
  have HD := Lib.hid hd
  clear hw hd
  have hcv := fun W b => one_byte W b n h0 (by omega)
  go_enter Tryz.func101, Tryz.ntmps101
  go_wp2_with fail
  go_ret
  rw [HW.out]
  exact ⟨rfl, (BG.refl _).alloc _ _⟩

set_option maxRecDepth 100000 in
set_option maxHeartbeats 400000 in
theorem Whole_high (n : Int) (w : World) (h1 : 10 ≤ n) (h2 : n ≤ 1073741824) (t : List UInt8) (ht : t.length ≤ 100)
    (ih : ∀ w, Calls Tryz.prog 101 #[.int .i64 (n / 10)] w fun e w' => e = .returned (.string ⟨t.toArray⟩) ∧ BG w w') :
    Calls Tryz.prog 101 #[.int .i64 n] w fun e w' => e = .returned (.string ⟨(t ++ [dgc (n % 10)]).toArray⟩) ∧ BG w w' := by
  have HI := Lib.hid ih
  clear ih
  have d0 : 0 ≤ n % 10 := by omega
  have d9 : n % 10 ≤ 9 := by omega
  have hcv := fun W b => one_byte W b (n % 10) d0 d9
  go_enter Tryz.func101, Tryz.ntmps101
  go_wp2_with fail
  have hadd : ∀ W, (Op.stringOp .add ⟨t.toArray⟩ ⟨#[dgc (n % 10)]⟩).run Tryz.prog W = .ok (.string ⟨(t ++ [dgc (n % 10)]).toArray⟩) W := fun W =>
    run_string_add_lists W t [dgc (n % 10)] (by omega) (by simp)
  have q1 : n.tdiv 10 = n / 10 := Int.tdiv_eq_ediv_of_nonneg (by omega)
  have q2 : n.tmod 10 = n % 10 := Int.tmod_eq_emod_of_nonneg (by omega)
  have q3 : IntKind.i64.wrap (n / 10) = n / 10 := IntWalk.i64_in _ (by omega)
  have q4 : IntKind.i64.wrap (n % 10) = n % 10 := IntWalk.i64_in _ (by omega)
  have q5 : IntKind.i64.wrap (48 + n % 10) = 48 + n % 10 := IntWalk.i64_in _ (by omega)
  have q6 : IntKind.u8.wrap (48 + n % 10) = 48 + n % 10 := by simp [IntKind.wrap, IntKind.signed, IntKind.bits]; omega
  go_region_with (go_at_call 101; refine (HI.out _).mono ?_; rintro e w1 ⟨rfl, hb⟩; obtain ⟨hc, hf⟩ := bcell hb.1; have HBG := Lib.hid hb; clear hb)
  all_goals (go_wp2_with fail; go_ret)
  all_goals refine ⟨rfl, ?_⟩
  all_goals first
    | exact BG.alloc (BG.trans (BG.drew (BG.refl _)) HBG.out) _ _
    | exact BG.trans (BG.alloc (BG.drew (BG.refl _)) _ _) HBG.out

theorem Whole_any : ∀ (k : Nat) (n : Int) (w : World), k ≤ 9 → 0 ≤ n → n < 10 ^ (k + 1) → n ≤ 1073741824 →
    Calls Tryz.prog 101 #[.int .i64 n] w fun e w' => e = .returned (.string ⟨(whl (k + 1) n).toArray⟩) ∧ BG w w'
  | 0, n, w, _, h0, h1, _ => Whole_low n w h0 (by simpa using h1) 0
  | k + 1, n, w, hk, h0, h1, h2 => by
    by_cases h : n < 10
    · exact Whole_low n w h0 h (k + 1)
    · have hw : whl (k + 2) n = whl (k + 1) (n / 10) ++ [dgc (n % 10)] := by
        show (if n < 10 then _ else _) = _
        rw [if_neg h]
      rw [hw]
      have h3 : n / 10 < 10 ^ (k + 1) := by
        rw [Int.pow_succ] at h1
        omega
      exact Whole_high n w (by omega) h2 _ (by have := whl_len (k + 1) (n / 10); omega) (fun w => Whole_any k (n / 10) w (by omega) (by omega) h3 (by omega))

end Go.Proofs.YtfbfndknhabmhaaGreat

namespace Go.Proofs.YtfbfndknhabmhaaGreat
open Go.RowKit FixM FixP

theorem add_txt (W : World) (x y : List UInt8) (hx : x.length ≤ 1000) (hy : y.length ≤ 1000) : (Op.stringOp .add ⟨x.toArray⟩ ⟨y.toArray⟩).run Tryz.prog W = .ok (.string ⟨(x ++ y).toArray⟩) W :=
  run_string_add_lists W x y (by omega) (by omega)

set_option maxRecDepth 100000 in
set_option maxHeartbeats 1000000 in
/-- the reference's 'Print' of a number that is not below 0 -/
theorem refPrint_pos (n : Int) (w : World) (hn : 0 ≤ H n) :
    Calls Tryz.prog 87 #[.int .i64 n] w fun e w' => e = .returned (.string ⟨(prt (H n)).toArray⟩) ∧ BG w w' := by
  have hH := H_bd n
  obtain ⟨a, ha⟩ : ∃ a, H n = a := ⟨_, rfl⟩
  rw [ha] at hn hH ⊢
  have a1 : a ≤ 1073741824 := hH.2
  have href := prt_eq_ref a hn a1
  have hh : ∀ w, Calls Tryz.prog 100 #[.int .i64 n] w fun e w' => e = .returned (.int .i64 a) ∧ w = w' := fun w => by
    have := refHold_any n w
    rwa [ha] at this
  have hb0 := Whole_any 6 (a / 1000)
  have HH := Lib.hid hh
  have HR := Lib.hid href
  obtain ⟨b, hb⟩ : ∃ b, whl 7 (a / 1000) = b := ⟨_, rfl⟩
  have hbl : b.length ≤ 7 := by rw [← hb]; exact whl_len _ _
  have hcall : ∀ w, Calls Tryz.prog 101 #[.int .i64 (a / 1000)] w fun e w' => e = .returned (.string ⟨b.toArray⟩) ∧ BG w w' := fun w => by
    have := Whole_any 6 (a / 1000) w (by omega) (by omega) (by show a / 1000 < 10000000; omega) (by omega)
    rwa [show (6 + 1) = 7 from rfl, hb] at this
  have HC := Lib.hid hcall
  have HB := Lib.hid hb
  obtain ⟨q, hq⟩ : ∃ q, a % 1000 = q := ⟨_, rfl⟩
  have q0 : 0 ≤ q := by omega
  have q1 : q < 1000 := by omega
  have HQ := Lib.hid hq
  clear hh href hb hcall ha hH hb0
  go_enter Tryz.func87, Tryz.ntmps87
  go_wp2_with fail
  refine (HH.out _).mono ?_
  rintro e w' ⟨rfl, rfl⟩
  go_wp2_with fail
  refine (HC.out _).mono ?_
  rintro e w1 ⟨rfl, hb1⟩
  have HB1 := Lib.hid hb1
  by_cases hz : q = 0
  · have hfin : prt a = b := by have := HR.out; rw [HQ.out, if_pos hz, HB.out] at this; exact this
    have HF := Lib.hid hfin
    have bz : (q == 0) = true := by simp [hz]
    clear hz hfin
    go_wp2_with fail
    go_ret
    rw [HF.out]
    exact ⟨rfl, HB1.out⟩
  · have bz : (q == 0) = false := by simp [hz]
    have hadd := add_txt w1 b [46] (by omega) (by simp)
    have qp : 0 < q := by omega
    clear hz hb1
    go_wp2_with fail
    rw [HQ.out]
    clear hadd bz
    go_loopw [4, 5, 6] (fun s p k wr => ∃ j : Nat, j ≤ 3 ∧ s = .string ⟨(frs b q j).toArray⟩ ∧ p = .int .i64 (frp q j) ∧ k = .int .i64 (frk j) ∧ Hid (BG w wr) ∧ Hid (∀ i, i < j → 0 < i → 0 < frp q i)) (fun _ _ k _ => (intOf k).toNat)
    case atStart => exact ⟨0, by omega, rfl, rfl, rfl, HB1, fun i h => by omega⟩
    case round =>
      obtain ⟨j, hj, rfl, rfl, rfl, HBw, HI⟩ := hrel
      by_cases hp : 0 < frp q j
      · have hj2 : j ≤ 2 := by
          by_cases h : j = 3
          · subst h; exact absurd hp (by show ¬ (0 : Int) < 0; omega)
          · omega
        obtain ⟨f1, f2, f3, f4, f5, f6, f7, f8⟩ := fr_facts q q0 q1 j hj2
        have hsl := frs_len b q j
        have hadd := add_txt
        have hs1 : frs b q (j + 1) = frs b q j ++ [dgc (frp q j / frk j)] := rfl
        obtain ⟨P, hP⟩ : ∃ P, frp q j = P := ⟨_, rfl⟩
        obtain ⟨K, hK⟩ : ∃ K, frk j = K := ⟨_, rfl⟩
        obtain ⟨T, hT⟩ : ∃ T, frs b q j = T := ⟨_, rfl⟩
        rw [hP, hK] at f5 f6 f7
        rw [hP] at f1 f2 hp
        rw [hK] at f3 f4 f8
        rw [hP, hK, hT] at hs1
        rw [hT] at hsl
        rw [hP, hK, hT]
        have hadd : ∀ W, (Op.stringOp .add ⟨T.toArray⟩ ⟨#[dgc (P / K)]⟩).run Tryz.prog W = .ok (.string ⟨(T ++ [dgc (P / K)]).toArray⟩) W := fun W => add_txt W T [dgc (P / K)] (by omega) (by simp)
        have hcall : ∀ w, Calls Tryz.prog 101 #[.int .i64 (P / K)] w fun e w' => e = .returned (.string ⟨#[dgc (P / K)]⟩) ∧ BG w w' := fun w => by
          have := Whole_low (P / K) w f5 f6 0
          rwa [whl_digit f6 0] at this
        have hnew : ∀ i, i < j + 1 → 0 < i → 0 < frp q i := by
          intro i h1 h2
          by_cases h : i = j
          · rw [h, hP]; exact hp
          · exact HI.out i (by omega) h2
        have HS1 := Lib.hid hs1
        have HC2 := Lib.hid hcall
        have HNEW := Lib.hid hnew
        have HF7 := Lib.hid f7
        have HF8 := Lib.hid f8
        have hK0 : 0 ≤ K := by omega
        have hm := Int.emod_nonneg P (show K ≠ 0 by omega)
        clear hs1 hcall hnew f7 f8 hsl hP hK hT
        go_wp2_with fail
        refine (HC2.out _).mono ?_
        rintro e w2 ⟨rfl, hb2⟩
        have HB2 := Lib.hid hb2
        clear hb2
        go_wp2_with fail
        go_roundw
        case rel => exact ⟨j + 1, by omega, by rw [HS1.out], by rw [HF7.out], by rw [HF8.out], Lib.hid (HBw.out.trans HB2.out), HNEW⟩
        case measure => simp [intOf]; omega
      · have hfin : frp q j = 0 → frr b q = frs b q j := fun hz => frr_eq b q qp j hj hz HI.out
        have hge : 0 ≤ frp q j := by
          by_cases h : j = 3
          · subst h; exact Int.le_refl 0
          · exact (fr_facts q q0 q1 j (by omega)).1
        have hz : frp q j = 0 := by omega
        have hres : prt a = frs b q j := by
          have := HR.out
          rw [HQ.out, if_neg (by omega), HB.out, hfin hz] at this
          exact this
        have HRES := Lib.hid hres
        clear hres hfin hz
        go_wp2_with fail
        go_ret
        rw [HRES.out]
        exact ⟨rfl, HBw.out⟩
end Go.Proofs.YtfbfndknhabmhaaGreat

namespace Go.Proofs.YtfbfndknhabmhaaGreat
open Go.RowKit FixM FixP

set_option maxRecDepth 100000 in
set_option maxHeartbeats 400000 in
theorem refPrint_any (n : Int) (w : World) :
    Calls Tryz.prog 87 #[.int .i64 n] w fun e w' => e = .returned (.string ⟨(prn (H n)).toArray⟩) ∧ BG w w' := by
  have hH := H_bd n
  by_cases h : 0 ≤ H n
  · have e : prn (H n) = prt (H n) := by unfold prn; rw [if_neg (by omega)]
    rw [e]
    exact refPrint_pos n w h
  · have e : prn (H n) = 45 :: prt (-H n) := by unfold prn; rw [if_pos (by omega)]
    have hid : H (-H n) = -H n := H_id (by omega) (by omega)
    have hlen : (prt (-H n)).length ≤ 1000 := by
      have h1 := prt_eq_ref (-H n) (by omega) (by omega)
      have h2 := whl_len 7 ((-H n) / 1000)
      have h3 := frs_len (whl 7 ((-H n) / 1000)) ((-H n) % 1000)
      rw [h1]
      split
      · omega
      · unfold frr
        split
        · rw [h3]; omega
        · split
          · rw [h3]; omega
          · rw [h3]; omega
    have hcall : ∀ w, Calls Tryz.prog 87 #[.int .i64 (-H n)] w fun e w' => e = .returned (.string ⟨(prt (-H n)).toArray⟩) ∧ BG w w' := fun w => by
      have := refPrint_pos (-H n) w (by omega)
      rwa [hid] at this
    have hadd : ∀ W, (Op.stringOp .add ⟨#[45]⟩ ⟨(prt (-H n)).toArray⟩).run Tryz.prog W = .ok (.string ⟨(45 :: prt (-H n)).toArray⟩) W := fun W => add_txt W [45] _ (by simp) hlen
    rw [e]
    obtain ⟨t, ht⟩ : ∃ t, prt (-H n) = t := ⟨_, rfl⟩
    rw [ht] at hcall hadd ⊢
    have HC := Lib.hid hcall
    clear hcall hid hlen e ht
    go_enter Tryz.func87, Tryz.ntmps87
    go_wp2_with fail
    refine (refHold_any _ _).mono ?_
    rintro e w' ⟨rfl, rfl⟩
    go_wp2_with fail
    refine (HC.out _).mono ?_
    rintro e w1 ⟨rfl, hb⟩
    have HB := Lib.hid hb
    clear hb
    go_wp2_with fail
    go_ret
    exact ⟨rfl, HB.out⟩
end Go.Proofs.YtfbfndknhabmhaaGreat
