/- The walks of layer 2: a total is dealt, with its sign. -/
import Derived.Test.YtaegajlffiepoaaShaW11
import Derived.Test.YtaegajlffiepoaaShaD3
namespace Go.Proofs.Ytaegajlffiepoaa
open Go.RowKit FixM ShaD ShaM Go.Sort

/-- the shares of a total that is held: what is known of them -/
def Shares (t : Int) (ws : List Int) (f : Nat → Int) : Prop :=
  if wsum ws = 0 then f = fun _ => 0
  else ∃ d : Array Int, d.size = ws.length ∧ Rng ws.length d ∧ (∀ i j, i < j → j < ws.length → d[i]! ≠ d[j]!) ∧ Srt (LTo (fun x => rs (if t < 0 then -t else t) (wsum ws) ws x.toNat)) 0 ws.length d ∧
    f = fun i => if t < 0 then -(qs (-t) (wsum ws) ws i + pk d (-t - qsum (-t) (wsum ws) ws ws.length).toNat i) else qs t (wsum ws) ws i + pk d (t - qsum t (wsum ws) ws ws.length).toNat i

/-- what the walk is told of a list of numbers that came in -/
def Lst (w : World) (a : Option Addr) (ws : List Int) : Prop := ws = [] ∨ ∃ b off, a = some ⟨b, off, none⟩ ∧ b < w.heap.size ∧ ∀ i, i < ws.length → w.cell? ⟨b, off + i, none⟩ = some (.int .i64 (ws.getD i 0))

set_option maxRecDepth 100000 in
set_option maxHeartbeats 400000 in
theorem sum_empty (a : Option Addr) (cap : Nat) (w : World) :
    Calls Try.prog 59 #[.slice a 0 cap] w fun e w' => e = .returned (.int .i64 0) ∧ w = w' := by
  go_enter Try.func59, Try.ntmps59
  go_wp2_with fail
  go_loop [3, 8] (fun s i => i = .int .i64 0 ∧ s = .int .i64 0) (fun _ _ => 0)
  case atStart => exact ⟨rfl, rfl⟩
  case round =>
    obtain ⟨rfl, rfl⟩ := hrel
    go_wp2_with fail
    go_ret
    exact ⟨rfl, rfl⟩

/-- 'deal' of a total that is not below 0 -/
theorem deal_any (t : Int) (a : Option Addr) (cap : Nat) (ws : List Int) (w : World) (ht : 0 ≤ t) (ht2 : t ≤ 1073741824) (hl : ws.length ≤ 1000) (hL : Lst w a ws) :
    Calls Try.prog 52 #[.int .i64 t, .slice a ws.length cap] w fun e w' =>
      e = .returned (.slice (some ⟨w.heap.size, 0, none⟩) ws.length ws.length) ∧ Below w.heap.size w w' ∧ ∃ f, Shares t ws f ∧ Row w' w.heap.size ws.length f := by
  have hnt : ¬ t < 0 := by omega
  by_cases hz : wsum ws = 0
  · have hsum : ∀ w', Below w.heap.size w w' → Calls Try.prog 59 #[.slice a ws.length cap] w' fun e w'' => e = .returned (.int .i64 0) ∧ w' = w'' := fun w' hb => by
      rcases hL with rfl | ⟨b, off, rfl, hbs, hc⟩
      · exact sum_empty a cap w'
      · have := sum_any b off cap ws w' hl (fun i hi => by rw [hb.cell (p := ⟨b, off + i, none⟩) hbs]; exact hc i hi)
        rwa [hz] at this
    refine (deal_none t a ws.length cap w hl hsum).mono ?_
    rintro e w' ⟨rfl, hb, hr⟩
    exact ⟨rfl, hb, fun _ => 0, by unfold Shares; rw [if_pos hz], hr⟩
  · have hp : 0 < wsum ws := by have := (wsum_bd ws).1; omega
    have hn : 0 < ws.length := by
      cases ws with
      | nil => exact absurd rfl hz
      | cons x l => simp
    rcases hL with rfl | ⟨b, off, rfl, hbs, hc⟩
    · simp at hn
    · refine (deal_some t b off cap ws (wsum ws) w ht ht2 rfl hp hl hn hbs hc).mono ?_
      rintro e w' ⟨rfl, hb, d, d1, d2, d3, d4, hr⟩
      refine ⟨rfl, hb, _, ?_, hr⟩
      unfold Shares
      rw [if_neg hz]
      refine ⟨d, d1, d2, d3, ?_, ?_⟩
      · rw [if_neg hnt]; exact d4
      · simp only [hnt, if_false]

set_option maxRecDepth 100000 in
set_option maxHeartbeats 1000000 in
theorem Deal_any (t : Int) (a : Option Addr) (cap : Nat) (ws : List Int) (w : World) (hl : ws.length ≤ 1000) (hL : Lst w a ws) :
    Calls Try.prog 39 #[.int .i64 t, .slice a ws.length cap] w fun e w' =>
      e = .returned (.slice (some ⟨w.heap.size, 0, none⟩) ws.length ws.length) ∧ Below w.heap.size w w' ∧ ∃ f, Shares (H t) ws f ∧ Row w' w.heap.size ws.length f := by
  have hH := H_bd t
  by_cases hneg : H t < 0
  · have c := deal_any (-H t) a cap ws w (by omega) (by omega) hl hL
    have C := Lib.hid c
    obtain ⟨n, hn⟩ : ∃ n, ws.length = n := ⟨_, rfl⟩
    rw [hn] at C hl ⊢
    have HN := Lib.hid hn
    clear c hL hn
    go_enter Try.func39, Try.ntmps39
    go_wp2_with fail
    refine (Hold_any _ _).mono ?_
    rintro e w' ⟨rfl, rfl⟩
    go_wp2_with fail
    refine C.out.mono ?_
    rintro e w1 ⟨rfl, hb, f, hsh, hrow⟩
    obtain ⟨S, hS⟩ : ∃ S, S = w.heap.size := ⟨_, rfl⟩
    rw [← hS] at hb hrow ⊢
    have HS := Lib.hid hS
    have HB := Lib.hid hb
    have HSH := Lib.hid hsh
    have HROW := Lib.hid hrow
    clear hS hb hsh hrow
    go_wp2_with fail
    go_loopw [21] (fun vi wr => ∃ k : Nat, vi = .int .i64 k ∧ k ≤ n ∧ Hid (Below S w wr) ∧ Hid (Row wr S n (fun i => if i < k then -(f i) else f i))) (fun vi _ => n - (intOf vi).toNat)
    case atStart => exact ⟨0, rfl, by omega, HB, HROW.out.ext (fun i _ => by rw [if_neg (by omega)])⟩
    case round =>
      clear HB HROW
      obtain ⟨k, rfl, hk, HB, HROW⟩ := hrel
      by_cases hlt : k < n
      · have hltz : (k : Int) < (n : Int) := by omega
        obtain ⟨ck, fk⟩ := HROW.out k hlt
        simp only [Nat.lt_irrefl, if_false] at ck
        have hfb : 0 ≤ f k ∧ f k ≤ 1073741825 := by
          have h := HSH.out
          unfold Shares at h
          by_cases hz : wsum ws = 0
          · rw [if_pos hz] at h; rw [h]; show (0 : Int) ≤ 0 ∧ (0 : Int) ≤ 1073741825; decide
          · rw [if_neg hz] at h
            obtain ⟨d, _, _, _, _, hf⟩ := h
            have hp : 0 < wsum ws := by have := (wsum_bd ws).1; omega
            have hq := qs_bd (t := -H t) (by omega) ws rfl hp k
            have hpk := pk_bd d (-H t - qsum (-H t) (wsum ws) ws ws.length).toNat k
            rw [hf]
            simp only [show ¬ -H t < 0 by omega, if_false]
            omega
        obtain ⟨v, hv⟩ : ∃ v, f k = v := ⟨_, rfl⟩
        rw [hv] at ck hfb
        have v0 : 0 ≤ v := hfb.1
        have v1 : v ≤ 1073741825 := hfb.2
        have N1 := Lib.hid (HROW.out.set hlt (-v))
        have N2 := Lib.hid (HB.out.setCell (p := ⟨S, k, none⟩) (Nat.le_refl S) (.int .i64 (-v)))
        have HV := Lib.hid hv
        clear hfb hv
        go_wp2_with fail
        go_roundw
        case rel =>
          refine ⟨k + 1, by go_num, by omega, N2.out, N1.out.ext (fun i hi => ?_)⟩
          by_cases c : i = k
          · rw [if_pos c, c, if_pos (by omega), HV.out]
          · rw [if_neg c]
            by_cases c2 : i < k
            · rw [if_pos c2, if_pos (by omega)]
            · rw [if_neg c2, if_neg (by omega)]
        case measure => simp [intOf]; omega
      · have hkn : k = n := by omega
        have hfin : Row wr S n (fun i => -(f i)) := HROW.out.ext (fun i hi => by rw [if_pos (by omega)])
        have HF := Lib.hid hfin
        clear hfin hkn
        go_wp2_with fail
        go_ret
        have hsh : Shares (H t) ws (fun i => -(f i)) := by
          have h := HSH.out
          unfold Shares at h ⊢
          by_cases hz : wsum ws = 0
          · rw [if_pos hz] at h ⊢; rw [h]; simp
          · rw [if_neg hz] at h ⊢
            obtain ⟨d, d1, d2, d3, d4, hf⟩ := h
            refine ⟨d, d1, d2, d3, ?_, ?_⟩
            · rw [if_pos hneg]; rw [if_neg (by omega)] at d4; exact d4
            · rw [hf]; simp only [show ¬ -H t < 0 by omega, if_false, hneg, if_true]
        have hs := HS.out
        rw [← hs]
        exact ⟨rfl, HB.out, _, hsh, HF.out⟩
  · have c := deal_any (H t) a cap ws w (by omega) hH.2 hl hL
    have C := Lib.hid c
    have hge : 0 ≤ H t := by omega
    clear c hL
    go_enter Try.func39, Try.ntmps39
    go_wp2_with fail
    refine (Hold_any _ _).mono ?_
    rintro e w' ⟨rfl, rfl⟩
    go_wp2_with fail
    refine C.out.mono ?_
    rintro e w1 ⟨rfl, hb, f, hsh, hrow⟩
    have HB := Lib.hid hb
    have HSH := Lib.hid hsh
    have HROW := Lib.hid hrow
    clear hb hsh hrow
    go_wp2_with fail
    go_ret
    exact ⟨rfl, HB.out, f, HSH.out, HROW.out⟩

/-- the shares, told outright -/
theorem Shares_eq {t : Int} {ws : List Int} {f : Nat → Int} (h : Shares t ws f) (i : Nat) (hi : i < ws.length) : f i = shareS t ws i := by
  unfold Shares at h
  unfold shareS share0
  by_cases hz : wsum ws = 0
  · rw [if_pos hz] at h
    rw [h, if_pos hz, if_pos hz]
    split <;> rfl
  · rw [if_neg hz] at h
    obtain ⟨d, d1, d2, d3, d4, hf⟩ := h
    rw [hf, if_neg hz, if_neg hz]
    by_cases hn : t < 0
    · rw [if_pos hn] at d4
      simp only [hn, if_true]
      rw [pk_rk (rs (-t) (wsum ws) ws) d2 d3 d4 _ i hi]
    · rw [if_neg hn] at d4
      simp only [hn, if_false]
      rw [pk_rk (rs t (wsum ws) ws) d2 d3 d4 _ i hi]

theorem Deal_told (t : Int) (a : Option Addr) (cap : Nat) (ws : List Int) (w : World) (hl : ws.length ≤ 1000) (hL : Lst w a ws) :
    Calls Try.prog 39 #[.int .i64 t, .slice a ws.length cap] w fun e w' =>
      e = .returned (.slice (some ⟨w.heap.size, 0, none⟩) ws.length ws.length) ∧ Below w.heap.size w w' ∧ Row w' w.heap.size ws.length (shareS (H t) ws) := by
  refine (Deal_any t a cap ws w hl hL).mono ?_
  rintro e w' ⟨rfl, hb, f, hf, hr⟩
  exact ⟨rfl, hb, hr.ext (fun i hi => Shares_eq hf i hi)⟩
end Go.Proofs.Ytaegajlffiepoaa
