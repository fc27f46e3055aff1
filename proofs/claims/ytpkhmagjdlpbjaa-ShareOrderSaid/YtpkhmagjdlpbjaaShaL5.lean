/- The walk of a law of layer 2: the shares are the whole total. -/
import Derived.Test.YtpkhmagjdlpbjaaShaL4
namespace Go.Proofs.Ytpkhmagjdlpbjaa
open Go.RowKit FixM ShaD ShaM Go.Sort

/-- the first of them together -/
def ssum (f : Nat → Int) : Nat → Int
  | 0 => 0
  | k + 1 => ssum f k + f k

theorem ssum_ext {f g : Nat → Int} : ∀ n, (∀ i, i < n → f i = g i) → ssum f n = ssum g n
  | 0, _ => rfl
  | n + 1, h => by
    show ssum f n + f n = ssum g n + g n
    rw [ssum_ext n (fun i hi => h i (by omega)), h n (by omega)]
theorem ssum_add (f g : Nat → Int) : ∀ n, ssum (fun i => f i + g i) n = ssum f n + ssum g n
  | 0 => rfl
  | n + 1 => by
    show ssum (fun i => f i + g i) n + (f n + g n) = (ssum f n + f n) + (ssum g n + g n)
    rw [ssum_add f g n]; omega
theorem ssum_neg (f : Nat → Int) : ∀ n, ssum (fun i => -(f i)) n = -(ssum f n)
  | 0 => rfl
  | n + 1 => by
    show ssum (fun i => -(f i)) n + -(f n) = -(ssum f n + f n)
    rw [ssum_neg f n]; omega
theorem ssum_zero : ∀ n, ssum (fun _ => 0) n = 0
  | 0 => rfl
  | n + 1 => by
    show ssum (fun _ => 0) n + 0 = 0
    rw [ssum_zero n]; rfl
theorem ssum_bump (g : Nat → Int) (j : Nat) : ∀ n, ssum (fun i => if (j : Int) = (i : Int) then g i + 1 else g i) n = ssum g n + if j < n then 1 else 0
  | 0 => by simp [ssum]
  | n + 1 => by
    show ssum (fun i => if (j : Int) = (i : Int) then g i + 1 else g i) n + (if (j : Int) = (n : Int) then g n + 1 else g n) = (ssum g n + g n) + if j < n + 1 then 1 else 0
    rw [ssum_bump g j n]
    by_cases c : j = n
    · subst c; rw [if_neg (by omega), if_pos rfl, if_pos (by omega)]; omega
    · rw [if_neg (show ¬ (j : Int) = (n : Int) by omega)]
      by_cases c2 : j < n
      · rw [if_pos c2, if_pos (by omega)]; omega
      · rw [if_neg c2, if_neg (by omega)]; omega
theorem qsum_ssum (t A : Int) (ws : List Int) : ∀ n, ssum (qs t A ws) n = qsum t A ws n
  | 0 => rfl
  | n + 1 => by
    show ssum (qs t A ws) n + qs t A ws n = qsum t A ws n + qs t A ws n
    rw [qsum_ssum t A ws n]
theorem pk_ssum (n : Nat) (d : Array Int) (hr : Rng n d) (hinj : ∀ i j, i < j → j < n → d[i]! ≠ d[j]!) : ∀ L, L ≤ n → ssum (pk d L) n = L
  | 0, _ => by
    rw [ssum_ext (g := fun _ => 0) n (fun i _ => pk_zero d i), ssum_zero]; rfl
  | L + 1, h => by
    have ih := pk_ssum n d hr hinj L (by omega)
    have hb := hr L (by omega)
    obtain ⟨j, hj⟩ := Int.eq_ofNat_of_zero_le (show 0 ≤ d[L]! by omega)
    rw [ssum_ext (g := fun i => if (j : Int) = (i : Int) then pk d L i + 1 else pk d L i) n (fun i _ => by rw [pk_next d n L (by omega) hinj i, hj]), ssum_bump, ih, if_pos (by omega)]
    omega

theorem Shares_sum {t : Int} {ws : List Int} {f : Nat → Int} (h : Shares t ws f) : ssum f ws.length = if wsum ws = 0 then 0 else t := by
  unfold Shares at h
  by_cases hz : wsum ws = 0
  · rw [if_pos hz] at h
    rw [if_pos hz, h, ssum_zero]
  · rw [if_neg hz] at h
    rw [if_neg hz]
    obtain ⟨d, _, hr, hinj, _, hf⟩ := h
    have hp : 0 < wsum ws := by have := (wsum_bd ws).1; omega
    have hn : 0 < ws.length := by
      cases ws with
      | nil => exact absurd rfl hz
      | cons x l => simp
    by_cases c : t < 0
    · have hl := left_bd (t := -t) ws rfl hp hn
      have e : f = fun i => -(qs (-t) (wsum ws) ws i + pk d (-t - qsum (-t) (wsum ws) ws ws.length).toNat i) := by rw [hf]; simp only [c, if_true]
      rw [e, ssum_neg, ssum_add, qsum_ssum, pk_ssum ws.length d hr hinj _ (by omega)]
      omega
    · have hl := left_bd (t := t) ws rfl hp hn
      have e : f = fun i => qs t (wsum ws) ws i + pk d (t - qsum t (wsum ws) ws ws.length).toNat i := by rw [hf]; simp only [c, if_false]
      rw [e, ssum_add, qsum_ssum, pk_ssum ws.length d hr hinj _ (by omega)]
      omega

theorem ssum_bd {f : Nat → Int} : ∀ n, (∀ i, i < n → -1073741825 ≤ f i ∧ f i ≤ 1073741825) → -1073741825 * (n : Int) ≤ ssum f n ∧ ssum f n ≤ 1073741825 * (n : Int)
  | 0, _ => by simp [ssum]
  | n + 1, h => by
    have h1 := ssum_bd n (fun i hi => h i (by omega))
    have h2 := h n (by omega)
    simp only [ssum]
    omega

set_option maxHeartbeats 2000000 in
theorem ShareWhole_walk (t : Int) (a : Option Addr) (cap : Nat) (ws : List Int) (w : World) (hL : Lst w a ws) :
    Calls Try.prog 11 #[.int .i64 t, .slice a ws.length cap] w fun e w' => e = .returned (.bool true) ∧ Below w.heap.size w w' := by
  by_cases hfew : ws.length ≤ 300
  · have F := Lib.hid (few_yes a ws.length cap w hfew)
    have WW : ∀ w1, Below w.heap.size w w1 → Calls Try.prog 34 #[.slice a ws.length cap] w1 fun e w' => e = .returned (.int .i64 (wsum ws)) ∧ w1 = w' := fun w1 hb => refWeights_any a cap ws w1 (by omega) (Lst_below hL hb)
    have WW := Lib.hid WW
    have D1 := Lib.hid (Deal_any t a cap ws w (by omega) hL)
    have hsb : ∀ f, Shares (H t) ws f → ssum f ws.length = (if wsum ws = 0 then 0 else H t) ∧ ∀ i, i < ws.length → -1073741825 ≤ f i ∧ f i ≤ 1073741825 := fun f hf => ⟨Shares_sum hf, fun i hi => by rw [Shares_eq hf i hi]; exact shareS_bd _ _ _⟩
    have SB := Lib.hid hsb
    obtain ⟨v, hv⟩ : ∃ v, H t = v := ⟨_, rfl⟩
    have hvb := H_bd t
    rw [hv] at hvb SB
    have v0 : -1073741824 ≤ v := hvb.1
    have v1 : v ≤ 1073741824 := hvb.2
    have HV := Lib.hid hv
    obtain ⟨A, hA⟩ : ∃ A, wsum ws = A := ⟨_, rfl⟩
    have hA1 := wsum_bd ws
    rw [hA] at WW SB hA1
    have A0 : 0 ≤ A := hA1.1
    have A1 : A ≤ 1073741824000 := by omega
    clear hL hv hvb hA1 hA hsb
    obtain ⟨n, hn⟩ : ∃ n, ws.length = n := ⟨_, rfl⟩
    rw [hn] at F WW D1 SB hfew ⊢
    clear hn
    go_enter Try.func11, Try.ntmps11
    go_wp2_with fail
    refine F.out.mono ?_
    rintro e w' ⟨rfl, rfl⟩
    go_wp2_with fail
    refine D1.out.mono ?_
    rintro e w1 ⟨rfl, hb1, f, hsh, hr1⟩
    rw [HV.out] at hsh
    obtain ⟨hsum, hbd⟩ := SB.out f hsh
    have C2 := Lib.hid (WW.out w1 hb1)
    obtain ⟨S1, hS1⟩ : ∃ S, S = w.heap.size := ⟨_, rfl⟩
    rw [← hS1] at hb1 hr1 ⊢
    have HB1 := Lib.hid hb1
    have HR1 := Lib.hid hr1
    have HS1 := Lib.hid hS1
    have HSUM := Lib.hid hsum
    have BD := Lib.hid hbd
    clear hb1 hr1 hS1 D1 WW hsum hbd hsh SB
    go_wp2_with fail
    go_loop [6, 7] (fun vs vi => ∃ k : Nat, vi = .int .i64 k ∧ k ≤ n ∧ vs = .int .i64 (ssum f k)) (fun _ vi => n - (intOf vi).toNat)
    case atStart => exact ⟨0, rfl, by omega, rfl⟩
    case round =>
      obtain ⟨k, rfl, hk, rfl⟩ := hrel
      have hsk := ssum_bd (f := f) k (fun i hi => BD.out i (by omega))
      obtain ⟨s, hs⟩ : ∃ s, ssum f k = s := ⟨_, rfl⟩
      rw [hs] at hsk ⊢
      have s0 : -1073741825000 ≤ s := by omega
      have s1 : s ≤ 1073741825000 := by omega
      clear hsk
      by_cases hlt : k < n
      · have hltz : (k : Int) < (n : Int) := by omega
        have c1 := (HR1.out k hlt).1
        have hb := BD.out k hlt
        obtain ⟨x, hx⟩ : ∃ x, f k = x := ⟨_, rfl⟩
        rw [hx] at c1 hb
        have x0 : -1073741825 ≤ x := hb.1
        have x1 : x ≤ 1073741825 := hb.2
        have hnx : ssum f (k + 1) = s + x := by show ssum f k + f k = s + x; rw [hs, hx]
        have NX := Lib.hid hnx
        clear hb hx hs hnx
        go_wp2_with fail
        go_round
        case rel => exact ⟨k + 1, by go_num, by omega, by rw [NX.out]⟩
        case measure => simp [intOf]; omega
      · have hkn : k = n := by omega
        have hsv : s = if A = 0 then 0 else v := by rw [← hs, hkn]; exact HSUM.out
        clear hs hkn
        by_cases hz : A = 0
        · rw [if_pos hz] at hsv
          subst hz
          subst hsv
          go_wp2_with fail
          refine (refHold_any _ _).mono ?_
          rintro e w' ⟨rfl, rfl⟩
          rw [HV.out]
          go_wp2_with fail
          refine C2.out.mono ?_
          rintro e w' ⟨rfl, rfl⟩
          go_wp2_with fail
          refine (known2_any _).mono ?_
          rintro e w4 ⟨rfl, hb4⟩
          have hfin : Below S1 w w4 := HB1.out.trans (hb4.mono (by have := HB1.out.size; have := HS1.out; omega))
          have HFIN := Lib.hid hfin
          clear hfin hb4
          go_wp2_with fail
          go_ret
          have := HS1.out
          rw [← this]
          exact ⟨rfl, HFIN.out⟩
        · rw [if_neg hz] at hsv
          subst hsv
          have bA : (A == 0) = false := by simp; omega
          go_wp2_with fail
          refine (refHold_any _ _).mono ?_
          rintro e w' ⟨rfl, rfl⟩
          rw [HV.out]
          go_wp2_with fail
          refine C2.out.mono ?_
          rintro e w' ⟨rfl, rfl⟩
          go_wp2_with fail
          refine (known2_any _).mono ?_
          rintro e w4 ⟨rfl, hb4⟩
          have hfin : Below S1 w w4 := HB1.out.trans (hb4.mono (by have := HB1.out.size; have := HS1.out; omega))
          have HFIN := Lib.hid hfin
          clear hfin hb4
          go_wp2_with fail
          go_ret
          have := HS1.out
          rw [← this]
          exact ⟨rfl, HFIN.out⟩
  · have F := Lib.hid (few_no a ws.length cap w hfew)
    clear hL
    obtain ⟨n, hn⟩ : ∃ n, ws.length = n := ⟨_, rfl⟩
    rw [hn] at F ⊢
    clear hn hfew
    go_enter Try.func11, Try.ntmps11
    go_wp2_with fail
    refine F.out.mono ?_
    rintro e w' ⟨rfl, rfl⟩
    go_wp2_with fail
    refine (known2_any _).mono ?_
    rintro e w4 ⟨rfl, hb4⟩
    have HFIN := Lib.hid hb4
    clear hb4
    go_wp2_with fail
    go_ret
    exact ⟨rfl, HFIN.out⟩
end Go.Proofs.Ytpkhmagjdlpbjaa
