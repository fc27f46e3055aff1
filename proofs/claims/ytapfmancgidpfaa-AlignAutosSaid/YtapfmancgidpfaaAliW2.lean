/- The walks of layer 22: what is free is dealt to weights that a function tells; weights of the other text. -/
import Derived.Test.YtapfmancgidpfaaAliW1
import Derived.Test.YtapfmancgidpfaaShaW14
import Derived.Test.YtapfmancgidpfaaShaL5
namespace Go.Proofs.Ytapfmancgidpfaa
open Go.RowKit FixM ShaD ShaM Go.Sort

/-- a row that was written, as a list that is read -/
theorem Lst_row {w : World} {S n : Nat} {f : Nat → Int} (h : Row w S n f) : Lst w (some ⟨S, 0, none⟩) ((List.range n).map f) := by
  by_cases hn : n = 0
  · subst hn; exact Or.inl rfl
  · refine Or.inr ⟨S, 0, rfl, Row_lt h (by omega), fun i hi => ?_⟩
    have hi' : i < n := by simpa using hi
    rw [Nat.zero_add, (h i hi').1]
    simp [List.getD, hi']
theorem getD_row (n : Nat) (f : Nat → Int) (i : Nat) (h : i < n) : ((List.range n).map f).getD i 0 = f i := by simp [List.getD, h]
theorem len_row (n : Nat) (f : Nat → Int) : ((List.range n).map f).length = n := by simp

set_option maxRecDepth 100000 in
set_option maxHeartbeats 1000000 in
theorem deal22_any (t : Int) (n : Nat) (g : Nat) (cb : Array Value) (f : Nat → Int) (w : World) (hn : n ≤ 1000)
    (eg : ∀ args w, (callFunc g args).run Try.prog w = .ok (.enter g args) w)
    (hc : ∀ W, Below w.heap.size w W → ∀ i : Nat, i < n → Calls Try.prog g (#[.int .i64 (i : Int)] ++ cb) W fun e w' => e = .returned (.int .i64 (f i)) ∧ W = w') :
    Calls Try.prog 22 #[.int .i64 t, .int .i64 (n : Int), .func (.func g) #[] cb] w fun e w' =>
      e = .returned (.slice (some ⟨w.heap.size + 1, 0, none⟩) n n) ∧ Below w.heap.size w w' ∧ Row w' (w.heap.size + 1) n (shareS (H t) ((List.range n).map f)) := by
  have hmk := make_ints n hn
  have HC := Lib.hid hc
  have B0 := Lib.hid (below_mk0 w n)
  have R0 := Lib.hid (row_mk0 w n)
  have Z0 : Hid ((mk0 w n).heap.size = w.heap.size + 1) := by unfold mk0 Hid; simp
  clear hc
  obtain ⟨S, hS⟩ : ∃ S, S = w.heap.size := ⟨_, rfl⟩
  rw [← hS] at HC B0 R0 Z0 ⊢
  have HS := Lib.hid hS
  clear hS
  go_enter Try.func22, Try.ntmps22
  go_wp2_with fail
  rw [← HS.out]
  clear hmk
  generalize mk0 w n = w0 at B0 R0 Z0 ⊢
  go_loopw [13] (fun vi wr => ∃ k : Nat, vi = .int .i64 k ∧ k ≤ n ∧ Hid (wr.heap.size = S + 1) ∧ Hid (Below S w wr) ∧ Hid (Row wr S n (fun i => if i < k then f i else 0))) (fun vi _ => n - (intOf vi).toNat)
  case atStart => exact ⟨0, rfl, by omega, Z0, B0, R0.out.ext (fun i _ => by rw [if_neg (by omega)])⟩
  case round =>
    clear B0 R0 Z0
    obtain ⟨k, rfl, hk, HZ, HB, HR⟩ := hrel
    by_cases hlt : k < n
    · have hltz : (k : Int) < (n : Int) := by omega
      obtain ⟨ck, fk⟩ := HR.out k hlt
      simp only [Nat.lt_irrefl, if_false] at ck
      have CK := Lib.hid (HC.out wr HB.out k hlt)
      have N1 := Lib.hid (HR.out.set hlt (f k))
      have N2 := Lib.hid (HB.out.setCell (p := ⟨S, k, none⟩) (Nat.le_refl S) (.int .i64 (f k)))
      have N3 : Hid ((wr.setCell ⟨S, k, none⟩ (.int .i64 (f k))).heap.size = S + 1) := by have := HZ.out; simpa [Hid] using this
      obtain ⟨v, hv⟩ : ∃ v, f k = v := ⟨_, rfl⟩
      rw [hv] at CK N1 N2 N3
      have HV := Lib.hid hv
      clear hv
      go_wp2_with fail
      refine CK.out.mono ?_
      rintro e w' ⟨rfl, rfl⟩
      go_wp2_with fail
      go_roundw
      case rel =>
        refine ⟨k + 1, by go_num, by omega, N3, N2, N1.out.ext (fun i hi => ?_)⟩
        by_cases c : i = k
        · rw [if_pos c, c, if_pos (by omega), HV.out]
        · rw [if_neg c]
          by_cases c2 : i < k
          · rw [if_pos c2, if_pos (by omega)]
          · rw [if_neg c2, if_neg (by omega)]
      case measure => simp [intOf]; omega
    · have hkn : k = n := by omega
      have hrow : Row wr S n f := HR.out.ext (fun i hi => by rw [if_pos (by omega)])
      have hl : ((List.range n).map f).length = n := len_row n f
      have D := Deal_told t (some ⟨S, 0, none⟩) n ((List.range n).map f) wr (by rw [hl]; exact hn) (Lst_row hrow)
      rw [hl, HZ.out] at D
      have DD := Lib.hid D
      clear D hl hrow hkn
      go_wp2_with fail
      refine DD.out.mono ?_
      rintro e w2 ⟨rfl, hb, hr⟩
      have HB2 := Lib.hid hb
      have HR2 := Lib.hid hr
      clear hb hr
      go_wp2_with fail
      go_ret
      exact ⟨rfl, HB.out.trans (HB2.out.mono (by omega)), HR2.out⟩

/-- the weights of spaces: of both ends, and between -/
def wts22 (ends others : Int) (n : Nat) (i : Nat) : Int := if i = 0 ∨ i = n then ends else others

set_option maxRecDepth 100000 in
set_option maxHeartbeats 1000000 in
theorem refWeights22_any (n : Nat) (ends others : Int) (w : World) (hn : n ≤ 999) :
    Calls Try.prog 28 #[.int .i64 (n : Int), .int .i64 ends, .int .i64 others] w fun e w' =>
      e = .returned (.slice (some ⟨w.heap.size, 0, none⟩) (n + 1 : Nat) (n + 1 : Nat)) ∧ w'.heap.size = w.heap.size + 1 ∧ Below w.heap.size w w' ∧ Row w' w.heap.size (n + 1) (wts22 ends others n) := by
  obtain ⟨m, hm⟩ : ∃ m, n + 1 = m := ⟨_, rfl⟩
  rw [hm]
  have hmk := make_ints m (by omega)
  have e1 : (m : Int) = (n : Int) + 1 := by omega
  rw [e1] at hmk
  have B0 := Lib.hid (below_mk0 w m)
  have R0 := Lib.hid (row_mk0 w m)
  have Z0 : Hid ((mk0 w m).heap.size = w.heap.size + 1) := by unfold mk0 Hid; simp
  obtain ⟨S, hS⟩ : ∃ S, S = w.heap.size := ⟨_, rfl⟩
  rw [← hS] at B0 R0 Z0 ⊢
  have HS := Lib.hid hS
  clear hS e1
  go_enter Try.func28, Try.ntmps28
  go_wp2_with fail
  rw [← HS.out]
  clear hmk
  generalize mk0 w m = w0 at B0 R0 Z0 ⊢
  go_loopw [8] (fun vi wr => ∃ k : Nat, vi = .int .i64 k ∧ k ≤ n + 1 ∧ Hid (wr.heap.size = S + 1) ∧ Hid (Below S w wr) ∧ Hid (Row wr S m (fun i => if i < k then wts22 ends others n i else 0))) (fun vi _ => m - (intOf vi).toNat)
  case atStart => exact ⟨0, rfl, by omega, Z0, B0, R0.out.ext (fun i _ => by rw [if_neg (by omega)])⟩
  case round =>
    clear B0 R0 Z0
    obtain ⟨k, rfl, hk, HZ, HB, HR⟩ := hrel
    by_cases hlt : k ≤ n
    · have hltm : k < m := by omega
      have hltz : (k : Int) ≤ (n : Int) := by omega
      have hltz2 : (k : Int) < (m : Int) := by omega
      obtain ⟨ck, fk⟩ := HR.out k hltm
      simp only [Nat.lt_irrefl, if_false] at ck
      have hmid := HR.out.set hltm others
      obtain ⟨ck2, fk2⟩ := hmid k hltm
      simp only [if_true] at ck2
      have N1 := Lib.hid hmid
      have N2 := Lib.hid (HB.out.setCell (p := ⟨S, k, none⟩) (Nat.le_refl S) (.int .i64 others))
      have N3 : Hid ((wr.setCell ⟨S, k, none⟩ (.int .i64 others)).heap.size = S + 1) := by have := HZ.out; simpa [Hid] using this
      clear hmid
      by_cases hend : k = 0 ∨ k = n
      · have hv : wts22 ends others n k = ends := by unfold wts22; rw [if_pos hend]
        have HV := Lib.hid hv
        have bE : ((k : Int) == 0) = true ∨ ((k : Int) == 0) = false ∧ ((k : Int) == (n : Int)) = true := by
          by_cases c : k = 0
          · exact Or.inl (by simp [c])
          · exact Or.inr ⟨by simp; omega, by simp; omega⟩
        have M1 := Lib.hid (N1.out.set hltm ends)
        have M2 := Lib.hid (N2.out.setCell (p := ⟨S, k, none⟩) (Nat.le_refl S) (.int .i64 ends))
        have M3 : Hid (((wr.setCell ⟨S, k, none⟩ (.int .i64 others)).setCell ⟨S, k, none⟩ (.int .i64 ends)).heap.size = S + 1) := by have := HZ.out; simpa [Hid] using this
        have hrel : Hid (Row ((wr.setCell ⟨S, k, none⟩ (.int .i64 others)).setCell ⟨S, k, none⟩ (.int .i64 ends)) S m (fun i => if i < k + 1 then wts22 ends others n i else 0)) := M1.out.ext (fun i hi => by
          by_cases c : i = k
          · rw [if_pos c, c, if_pos (by omega), HV.out]
          · rw [if_neg c, if_neg c]
            by_cases c2 : i < k
            · rw [if_pos c2, if_pos (by omega)]
            · rw [if_neg c2, if_neg (by omega)])
        clear hv hend
        rcases bE with b0 | ⟨b0, b1⟩
        · go_wp2_with fail
          go_roundw
          case rel => exact ⟨k + 1, by go_num, by omega, M3, M2, hrel⟩
          case measure => simp [intOf]; omega
        · go_wp2_with fail
          go_roundw
          case rel => exact ⟨k + 1, by go_num, by omega, M3, M2, hrel⟩
          case measure => simp [intOf]; omega
      · have hv : wts22 ends others n k = others := by unfold wts22; rw [if_neg hend]
        have HV := Lib.hid hv
        have b0 : ((k : Int) == 0) = false := by simp; omega
        have b1 : ((k : Int) == (n : Int)) = false := by simp; omega
        have hrel : Hid (Row (wr.setCell ⟨S, k, none⟩ (.int .i64 others)) S m (fun i => if i < k + 1 then wts22 ends others n i else 0)) := N1.out.ext (fun i hi => by
          by_cases c : i = k
          · rw [if_pos c, c, if_pos (by omega), HV.out]
          · rw [if_neg c]
            by_cases c2 : i < k
            · rw [if_pos c2, if_pos (by omega)]
            · rw [if_neg c2, if_neg (by omega)])
        clear hv hend
        go_wp2_with fail
        go_roundw
        case rel => exact ⟨k + 1, by go_num, by omega, N3, N2, hrel⟩
        case measure => simp [intOf]; omega
    · have hkn : k = m := by omega
      have hrow : Hid (Row wr S m (wts22 ends others n)) := HR.out.ext (fun i hi => by rw [if_pos (by omega)])
      clear hkn
      go_wp2_with fail
      go_ret
      exact ⟨rfl, HZ.out, HB.out, hrow.out⟩
end Go.Proofs.Ytapfmancgidpfaa
