/- The walks of layer 2: equal shares and sums. -/
import Derived.Test.YtanhpdejlodidaaShaW15
namespace Go.Proofs.Ytanhpdejlodidaa
open Go.RowKit FixM ShaD ShaM Go.Sort

/-- all numbers added one by one, each sum held -/
def hsum (l : List Int) : Int := l.foldl (fun s x => H (s + H x)) 0
theorem hsum_snoc (ws : List Int) (k : Nat) (h : k < ws.length) : hsum (ws.take (k + 1)) = H (hsum (ws.take k) + H (ws.getD k 0)) := by
  unfold hsum
  rw [List.take_succ_eq_append_getElem h, List.foldl_append]
  have : ws.getD k 0 = ws[k] := by rw [List.getD_eq_getElem?_getD, List.getElem?_eq_getElem h]; rfl
  rw [this]; rfl
theorem hsum_bd (ws : List Int) (k : Nat) (hk : k ≤ ws.length) : -1073741824 ≤ hsum (ws.take k) ∧ hsum (ws.take k) ≤ 1073741824 := by
  cases k with
  | zero => simp [hsum]
  | succ k => rw [hsum_snoc ws k (by omega)]; exact H_bd _

set_option maxHeartbeats 1000000 in
theorem Sum_any (a : Option Addr) (cap : Nat) (ws : List Int) (w : World) (hl : ws.length ≤ maxLen) (hL : Lst w a ws) :
    Calls Try.prog 17 #[.slice a ws.length cap] w fun e w' => e = .returned (.int .i64 (hsum ws)) ∧ w = w' := by
  have HL := Lib.hid hL
  unfold maxLen at hl
  clear hL
  go_enter Try.func17, Try.ntmps17
  go_wp2_with fail
  go_loop [3, 8] (fun s i => ∃ k : Nat, k ≤ ws.length ∧ i = .int .i64 k ∧ s = .int .i64 (hsum (ws.take k))) (fun _ i => ws.length - (intOf i).toNat)
  case atStart => exact ⟨0, by omega, rfl, rfl⟩
  case round =>
    obtain ⟨k, hk, rfl, rfl⟩ := hrel
    by_cases hlt : k < ws.length
    · have hltz : (k : Int) < (ws.length : Int) := by omega
      have hs := hsum_snoc ws k hlt
      have hb := hsum_bd ws k hk
      have hcell : ∃ b off, a = some ⟨b, off, none⟩ ∧ w.cell? ⟨b, off + k, none⟩ = some (.int .i64 (ws.getD k 0)) := by
        rcases HL.out with h | ⟨b, off, h1, _, h2⟩
        · rw [h] at hlt; simp at hlt
        · exact ⟨b, off, h1, h2 k hlt⟩
      obtain ⟨b, off, rfl, hc⟩ := hcell
      obtain ⟨y, hy⟩ : ∃ y, ws.getD k 0 = y := ⟨_, rfl⟩
      rw [hy] at hs hc
      obtain ⟨s, hsk⟩ : ∃ s, hsum (ws.take k) = s := ⟨_, rfl⟩
      rw [hsk] at hs hb ⊢
      have hH : H s = s := H_id hb.1 hb.2
      have HSN := Lib.hid hs
      have HH := Lib.hid hH
      clear hs hb hy hsk hH
      go_wp2_with fail
      refine (Add_any _ _ _).mono ?_
      rintro e w' ⟨rfl, rfl⟩
      rw [HH.out]
      go_wp2_with fail
      go_round
      case rel => exact ⟨k + 1, by omega, by go_num, by rw [HSN.out]⟩
      case measure => simp [intOf]; omega
    · have ht : ws.take k = ws := List.take_of_length_le (by omega)
      have HT := Lib.hid ht
      clear ht
      go_wp2_with fail
      go_ret
      exact ⟨ret_int (by rw [HT.out]), rfl⟩

set_option maxHeartbeats 1000000 in
theorem refSum_any (a : Option Addr) (cap : Nat) (ws : List Int) (w : World) (hl : ws.length ≤ maxLen) (hL : Lst w a ws) :
    Calls Try.prog 18 #[.slice a ws.length cap] w fun e w' => e = .returned (.int .i64 (hsum ws)) ∧ w = w' := by
  have HL := Lib.hid hL
  unfold maxLen at hl
  clear hL
  go_enter Try.func18, Try.ntmps18
  go_wp2_with fail
  go_loop [3, 4] (fun s i => ∃ k : Nat, k ≤ ws.length ∧ i = .int .i64 k ∧ s = .int .i64 (hsum (ws.take k))) (fun _ i => ws.length - (intOf i).toNat)
  case atStart => exact ⟨0, by omega, rfl, rfl⟩
  case round =>
    obtain ⟨k, hk, rfl, rfl⟩ := hrel
    by_cases hlt : k < ws.length
    · have hltz : (k : Int) < (ws.length : Int) := by omega
      have hs := hsum_snoc ws k hlt
      have hb := hsum_bd ws k hk
      have hcell : ∃ b off, a = some ⟨b, off, none⟩ ∧ w.cell? ⟨b, off + k, none⟩ = some (.int .i64 (ws.getD k 0)) := by
        rcases HL.out with h | ⟨b, off, h1, _, h2⟩
        · rw [h] at hlt; simp at hlt
        · exact ⟨b, off, h1, h2 k hlt⟩
      obtain ⟨b, off, rfl, hc⟩ := hcell
      obtain ⟨y, hy⟩ : ∃ y, ws.getD k 0 = y := ⟨_, rfl⟩
      rw [hy] at hs hc
      obtain ⟨s, hsk⟩ : ∃ s, hsum (ws.take k) = s := ⟨_, rfl⟩
      rw [hsk] at hs hb ⊢
      have hHy := H_bd y
      have b0 := hb.1
      have b1 := hb.2
      have b2 := hHy.1
      have b3 := hHy.2
      have HSN := Lib.hid hs
      clear hs hb hy hsk hHy
      go_wp2_with (go_at_call 21; refine (refHold_any _ _).mono ?_; rintro e w' ⟨rfl, rfl⟩)
      go_round
      case rel => exact ⟨k + 1, by omega, by go_num, by rw [HSN.out]⟩
      case measure => simp [intOf]; omega
    · have ht : ws.take k = ws := List.take_of_length_le (by omega)
      have HT := Lib.hid ht
      clear ht
      go_wp2_with fail
      go_ret
      exact ⟨ret_int (by rw [HT.out]), rfl⟩

/-- a row of ones, as the walks are told of lists -/
theorem Lst_ones {w : World} {S k : Nat} (h : Row w S k (fun _ => 1)) : Lst w (some ⟨S, 0, none⟩) (List.replicate k 1) := by
  by_cases hk : k = 0
  · subst hk; exact Or.inl rfl
  · refine Or.inr ⟨S, 0, rfl, Row_lt h (by omega), fun i hi => ?_⟩
    have hi' : i < k := by simpa using hi
    rw [Nat.zero_add, (h i hi').1]
    congr 2
    rw [List.getD_eq_getElem?_getD, List.getElem?_replicate, if_pos hi']
    rfl

/-- how many weights are made of n -/
def evn (n : Int) : Nat := (max 0 (min n 256)).toNat

theorem row_ones_step {w : World} {S k j : Nat} (h : Row w S k (fun i => if i < j then 1 else 0)) (hj : j < k) : Row (w.setCell ⟨S, j, none⟩ (.int .i64 1)) S k (fun i => if i < j + 1 then 1 else 0) :=
  (h.set hj 1).ext fun i hi => by
    by_cases c : i = j
    · rw [if_pos c, if_pos (by omega)]
    · rw [if_neg c]
      by_cases c2 : i < j
      · rw [if_pos c2, if_pos (by omega)]
      · rw [if_neg c2, if_neg (by omega)]

set_option maxHeartbeats 4000000 in
theorem Even_any (t n : Int) (w : World) :
    Calls Try.prog 16 #[.int .i64 t, .int .i64 n] w fun e w' => ∃ B, e = .returned (.slice (some ⟨B, 0, none⟩) (evn n) (evn n)) ∧ w.heap.size ≤ B ∧ Below w.heap.size w w' ∧ Row w' B (evn n) (shareS (H t) (List.replicate (evn n) 1)) := by
  obtain ⟨k, hk⟩ : ∃ k, evn n = k := ⟨_, rfl⟩
  have hk256 : k ≤ 256 := by rw [← hk]; unfold evn; omega
  have hm : max 0 (min n 256) = (k : Int) := by rw [← hk]; unfold evn; omega
  rw [hk]
  have hmk := make_ints k (by omega)
  clear hk
  go_enter Try.func16, Try.ntmps16
  go_wp2_with fail
  clear hmk hm
  obtain ⟨S, hS⟩ : ∃ S, S = w.heap.size := ⟨_, rfl⟩
  have hbel : Below S w (mk0 w k) := by rw [hS]; exact below_mk0 w k
  have hrow : Row (mk0 w k) S k (fun _ => 0) := by rw [hS]; exact row_mk0 w k
  rw [← hS]
  generalize mk0 w k = w1 at hbel hrow ⊢
  have BEL := Lib.hid hbel
  have ROW := Lib.hid (hrow.ext (g := fun i => if i < 0 then 1 else 0) (fun i _ => by simp))
  have HS := Lib.hid hS
  clear hbel hrow hS
  go_loopw [13] (fun vi wr => ∃ j : Nat, vi = .int .i64 j ∧ j ≤ k ∧ Hid (Below S w wr) ∧ Hid (Row wr S k (fun i => if i < j then 1 else 0))) (fun vi _ => k - (intOf vi).toNat)
  case atStart => exact ⟨0, rfl, by omega, BEL, ROW⟩
  case round =>
    clear BEL ROW
    obtain ⟨j, rfl, hj, BEL, ROW⟩ := hrel
    by_cases hlt : j < k
    · have hltz : (j : Int) < (k : Int) := by omega
      obtain ⟨c, f⟩ := ROW.out j hlt
      simp only [Nat.lt_irrefl, if_false] at c
      have N1 := Lib.hid (row_ones_step ROW.out hlt)
      have N2 := Lib.hid (BEL.out.setCell (p := ⟨S, j, none⟩) (Nat.le_refl S) (.int .i64 1))
      go_wp2_with fail
      go_roundw
      case rel => exact ⟨j + 1, by go_num, by omega, N2, N1⟩
      case measure => simp [intOf]; omega
    · have hrow : Row wr S k (fun _ => 1) := ROW.out.ext (fun i hi => by rw [if_pos (by omega)])
      have c := Deal_told t (some ⟨S, 0, none⟩) k (List.replicate k 1) wr (by simp; omega) (Lst_ones hrow)
      rw [List.length_replicate] at c
      have C := Lib.hid c
      clear c hrow
      go_wp2_with fail
      refine C.out.mono ?_
      rintro e w2 ⟨rfl, hb, hr⟩
      have hsz := BEL.out.size
      have h3 : Below S w w2 := BEL.out.trans (hb.mono (by have := HS.out; omega))
      have H3 := Lib.hid h3
      have HR := Lib.hid hr
      have HSZ := Lib.hid hsz
      clear hb hr h3 hsz
      go_wp2_with fail
      go_ret
      refine ⟨wr.heap.size, rfl, HSZ.out, ?_, HR.out⟩
      have h := H3.out
      rw [HS.out] at h
      exact h

/-- what the law asks of a world -/
def EvensOK (t n : Int) (a : Option Addr) (len cap : Nat) (w : World) : Prop := Calls Try.prog 4 #[.int .i64 t, .int .i64 n, .slice a len cap] w fun e w' => e = .returned (.bool true) ∧ Below w.heap.size w w'

set_option maxHeartbeats 8000000 in
theorem ShareEvens_low (t : Int) (n : Int) (hn : n < 0) (a : Option Addr) (cap : Nat) (ws : List Int) (w : World) (hmax : ws.length ≤ maxLen) (hL : Lst w a ws) : EvensOK t n a ws.length cap w := by
  unfold EvensOK
  have hmk : ∀ u : World, (Instr.makeSlice 22 (.int .i64 0) (.int .i64 0)).run Try.prog u = .ok (.slice (some ⟨u.heap.size, 0, none⟩) 0 0) (mk0 u 0) := fun u => make_ints 0 (by omega) u
  have hev : evn n = 0 := by unfold evn; omega
  have HEV := Lib.hid hev
  have HL := Lib.hid hL
  have HMAX := Lib.hid hmax
  obtain ⟨len, hlen⟩ : ∃ len, ws.length = len := ⟨_, rfl⟩
  have HLEN := Lib.hid hlen
  rw [hlen]
  clear hL hmax hlen hev
  go_enter Try.func4, Try.ntmps4
  go_wp2_with fail
  clear hmk
  obtain ⟨S, hS⟩ : ∃ S, S = w.heap.size := ⟨_, rfl⟩
  have hbel : Below S w (mk0 w 0) := by rw [hS]; exact below_mk0 w 0
  have hrow : Row (mk0 w 0) S 0 (fun _ => 0) := by rw [hS]; exact row_mk0 w 0
  have hlt1 : S < (mk0 w 0).heap.size := by rw [hS]; unfold mk0; simp
  rw [← hS]
  generalize mk0 w 0 = w1 at hbel hrow hlt1 ⊢
  have BEL := Lib.hid hbel
  have ROW := Lib.hid (hrow.ext (g := fun i => if i < 0 then 1 else 0) (fun i _ => by simp))
  have HS := Lib.hid hS
  have HLT := Lib.hid hlt1
  clear hbel hrow hS hlt1
  go_loopw [9] (fun vi wr => ∃ j : Nat, vi = .int .i64 j ∧ j ≤ 0 ∧ Hid (Below S w wr) ∧ Hid (S < wr.heap.size) ∧ Hid (Row wr S 0 (fun i => if i < j then 1 else 0))) (fun vi _ => 0 - (intOf vi).toNat)
  case atStart => exact ⟨0, rfl, by omega, BEL, HLT, ROW⟩
  case round =>
    clear BEL ROW HLT
    obtain ⟨j, rfl, hj, BEL, HLT, ROW⟩ := hrel
    by_cases hlt : j < 0
    · exact absurd hlt (by omega)
    · have hrow : Row wr S 0 (fun _ => 1) := ROW.out.ext (fun i hi => by rw [if_pos (by omega)])
      have hltz : ¬ (j : Int) < 0 := by omega
      have HROW := Lib.hid hrow
      clear hrow
      go_wp2_with fail
      refine (Even_any _ _ _).mono ?_
      rintro e w2 ⟨B, rfl, hB, hb2, hr2⟩
      rw [HEV.out] at hr2 ⊢
      have hrow2 : Row w2 S 0 (fun _ => 1) := HROW.out.below hb2 HLT.out
      have c3 := refDeal_told t (some ⟨S, 0, none⟩) 0 (List.replicate 0 1) w2 (by rw [List.length_replicate]; omega) (Lst_ones hrow2)
      rw [List.length_replicate] at c3
      have C3 := Lib.hid c3
      have h02 : Below S w w2 := BEL.out.trans (hb2.mono (by have := HLT.out; omega))
      have H02 := Lib.hid h02
      have HR2 := Lib.hid hr2
      have HB := Lib.hid hB
      clear hb2 hr2 hrow2 c3 h02 hB
      go_wp2_with fail
      refine C3.out.mono ?_
      rintro e w3 ⟨rfl, hb3, hr3⟩
      have c4 := Ints_yes 0 B 0 0 w2.heap.size 0 0 (shareS (H t) (List.replicate 0 1)) (shareS (H t) (List.replicate 0 1)) w3 (by omega)
        (fun i hi => by rw [Nat.zero_add, hb3.cell (p := ⟨B, i, none⟩) (Row_lt HR2.out (by omega))]; exact (HR2.out i hi).1)
        (fun i hi => by rw [Nat.zero_add]; exact (hr3 i hi).1) (fun _ _ => rfl)
      have C4 := Lib.hid c4
      have h03 : Below S w w3 := H02.out.trans (hb3.mono (by have := H02.out.size; have := HS.out; omega))
      have H03 := Lib.hid h03
      clear hb3 hr3 c4 h03
      go_wp2_with fail
      refine C4.out.mono ?_
      rintro e w4 ⟨rfl, q, rfl⟩
      have h04 := below_drewN' H03.out q
      generalize w3.drewN q = w4 at h04 ⊢
      rw [HS.out] at h04
      have hL4 := Lst_under HL.out h04
      have s1 := Sum_any a cap ws w4 HMAX.out hL4
      have s2 := refSum_any a cap ws w4 HMAX.out hL4
      rw [HLEN.out] at s1 s2
      have S1 := Lib.hid s1
      have S2 := Lib.hid s2
      have H04 := Lib.hid h04
      clear h04 hL4 s1 s2
      go_wp2_with fail
      refine S1.out.mono ?_
      rintro e w' ⟨rfl, rfl⟩
      go_wp2_with fail
      refine S2.out.mono ?_
      rintro e w' ⟨rfl, rfl⟩
      go_wp2_with fail
      refine (known2_any _).mono ?_
      rintro e w5 ⟨rfl, hb5⟩
      have h05 := H04.out.trans (hb5.mono H04.out.size)
      have H05 := Lib.hid h05
      clear hb5 h05
      go_wp2_with fail
      go_ret
      exact ⟨rfl, H05.out⟩

set_option maxHeartbeats 8000000 in
theorem ShareEvens_mid (t : Int) (k : Nat) (hk : k ≤ 256) (a : Option Addr) (cap : Nat) (ws : List Int) (w : World) (hmax : ws.length ≤ maxLen) (hL : Lst w a ws) : EvensOK t (k : Int) a ws.length cap w := by
  unfold EvensOK
  have hmk : ∀ u : World, (Instr.makeSlice 22 (.int .i64 (k : Int)) (.int .i64 (k : Int))).run Try.prog u = .ok (.slice (some ⟨u.heap.size, 0, none⟩) k k) (mk0 u k) := fun u => make_ints k (by omega) u
  have hev : evn (k : Int) = k := by unfold evn; omega
  have HEV := Lib.hid hev
  have HL := Lib.hid hL
  have HMAX := Lib.hid hmax
  obtain ⟨len, hlen⟩ : ∃ len, ws.length = len := ⟨_, rfl⟩
  have HLEN := Lib.hid hlen
  rw [hlen]
  clear hL hmax hlen hev
  go_enter Try.func4, Try.ntmps4
  go_wp2_with fail
  clear hmk
  obtain ⟨S, hS⟩ : ∃ S, S = w.heap.size := ⟨_, rfl⟩
  have hbel : Below S w (mk0 w k) := by rw [hS]; exact below_mk0 w k
  have hrow : Row (mk0 w k) S k (fun _ => 0) := by rw [hS]; exact row_mk0 w k
  have hlt1 : S < (mk0 w k).heap.size := by rw [hS]; unfold mk0; simp
  rw [← hS]
  generalize mk0 w k = w1 at hbel hrow hlt1 ⊢
  have BEL := Lib.hid hbel
  have ROW := Lib.hid (hrow.ext (g := fun i => if i < 0 then 1 else 0) (fun i _ => by simp))
  have HS := Lib.hid hS
  have HLT := Lib.hid hlt1
  clear hbel hrow hS hlt1
  go_loopw [9] (fun vi wr => ∃ j : Nat, vi = .int .i64 j ∧ j ≤ k ∧ Hid (Below S w wr) ∧ Hid (S < wr.heap.size) ∧ Hid (Row wr S k (fun i => if i < j then 1 else 0))) (fun vi _ => k - (intOf vi).toNat)
  case atStart => exact ⟨0, rfl, by omega, BEL, HLT, ROW⟩
  case round =>
    clear BEL ROW HLT
    obtain ⟨j, rfl, hj, BEL, HLT, ROW⟩ := hrel
    by_cases hlt : j < k
    · have hltz : (j : Int) < (k : Int) := by omega
      obtain ⟨c, f⟩ := ROW.out j hlt
      simp only [Nat.lt_irrefl, if_false] at c
      have N1 := Lib.hid (row_ones_step ROW.out hlt)
      have N2 := Lib.hid (BEL.out.setCell (p := ⟨S, j, none⟩) (Nat.le_refl S) (.int .i64 1))
      have N3 : Hid (S < (wr.setCell ⟨S, j, none⟩ (.int .i64 1)).heap.size) := by have := HLT.out; simpa [Hid] using this
      go_wp2_with fail
      go_roundw
      case rel => exact ⟨j + 1, by go_num, by omega, N2, N3, N1⟩
      case measure => simp [intOf]; omega
    · have hrow : Row wr S k (fun _ => 1) := ROW.out.ext (fun i hi => by rw [if_pos (by omega)])
      have hltz : ¬ (j : Int) < (k : Int) := by omega
      have HROW := Lib.hid hrow
      clear hrow
      go_wp2_with fail
      refine (Even_any _ _ _).mono ?_
      rintro e w2 ⟨B, rfl, hB, hb2, hr2⟩
      rw [HEV.out] at hr2 ⊢
      have hrow2 : Row w2 S k (fun _ => 1) := HROW.out.below hb2 HLT.out
      have c3 := refDeal_told t (some ⟨S, 0, none⟩) k (List.replicate k 1) w2 (by rw [List.length_replicate]; omega) (Lst_ones hrow2)
      rw [List.length_replicate] at c3
      have C3 := Lib.hid c3
      have h02 : Below S w w2 := BEL.out.trans (hb2.mono (by have := HLT.out; omega))
      have H02 := Lib.hid h02
      have HR2 := Lib.hid hr2
      have HB := Lib.hid hB
      clear hb2 hr2 hrow2 c3 h02 hB
      go_wp2_with fail
      refine C3.out.mono ?_
      rintro e w3 ⟨rfl, hb3, hr3⟩
      have c4 := Ints_yes k B 0 k w2.heap.size 0 k (shareS (H t) (List.replicate k 1)) (shareS (H t) (List.replicate k 1)) w3 (by omega)
        (fun i hi => by rw [Nat.zero_add, hb3.cell (p := ⟨B, i, none⟩) (Row_lt HR2.out (by omega))]; exact (HR2.out i hi).1)
        (fun i hi => by rw [Nat.zero_add]; exact (hr3 i hi).1) (fun _ _ => rfl)
      have C4 := Lib.hid c4
      have h03 : Below S w w3 := H02.out.trans (hb3.mono (by have := H02.out.size; have := HS.out; omega))
      have H03 := Lib.hid h03
      clear hb3 hr3 c4 h03
      go_wp2_with fail
      refine C4.out.mono ?_
      rintro e w4 ⟨rfl, q, rfl⟩
      have h04 := below_drewN' H03.out q
      generalize w3.drewN q = w4 at h04 ⊢
      rw [HS.out] at h04
      have hL4 := Lst_under HL.out h04
      have s1 := Sum_any a cap ws w4 HMAX.out hL4
      have s2 := refSum_any a cap ws w4 HMAX.out hL4
      rw [HLEN.out] at s1 s2
      have S1 := Lib.hid s1
      have S2 := Lib.hid s2
      have H04 := Lib.hid h04
      clear h04 hL4 s1 s2
      go_wp2_with fail
      refine S1.out.mono ?_
      rintro e w' ⟨rfl, rfl⟩
      go_wp2_with fail
      refine S2.out.mono ?_
      rintro e w' ⟨rfl, rfl⟩
      go_wp2_with fail
      refine (known2_any _).mono ?_
      rintro e w5 ⟨rfl, hb5⟩
      have h05 := H04.out.trans (hb5.mono H04.out.size)
      have H05 := Lib.hid h05
      clear hb5 h05
      go_wp2_with fail
      go_ret
      exact ⟨rfl, H05.out⟩

set_option maxHeartbeats 8000000 in
theorem ShareEvens_high (t : Int) (n : Int) (hn : 256 < n) (a : Option Addr) (cap : Nat) (ws : List Int) (w : World) (hmax : ws.length ≤ maxLen) (hL : Lst w a ws) : EvensOK t n a ws.length cap w := by
  unfold EvensOK
  have hmk : ∀ u : World, (Instr.makeSlice 22 (.int .i64 256) (.int .i64 256)).run Try.prog u = .ok (.slice (some ⟨u.heap.size, 0, none⟩) 256 256) (mk0 u 256) := fun u => make_ints 256 (by omega) u
  have hev : evn n = 256 := by unfold evn; omega
  have HEV := Lib.hid hev
  have HL := Lib.hid hL
  have HMAX := Lib.hid hmax
  obtain ⟨len, hlen⟩ : ∃ len, ws.length = len := ⟨_, rfl⟩
  have HLEN := Lib.hid hlen
  rw [hlen]
  clear hL hmax hlen hev
  go_enter Try.func4, Try.ntmps4
  go_wp2_with fail
  clear hmk
  obtain ⟨S, hS⟩ : ∃ S, S = w.heap.size := ⟨_, rfl⟩
  have hbel : Below S w (mk0 w 256) := by rw [hS]; exact below_mk0 w 256
  have hrow : Row (mk0 w 256) S 256 (fun _ => 0) := by rw [hS]; exact row_mk0 w 256
  have hlt1 : S < (mk0 w 256).heap.size := by rw [hS]; unfold mk0; simp
  rw [← hS]
  generalize mk0 w 256 = w1 at hbel hrow hlt1 ⊢
  have BEL := Lib.hid hbel
  have ROW := Lib.hid (hrow.ext (g := fun i => if i < 0 then 1 else 0) (fun i _ => by simp))
  have HS := Lib.hid hS
  have HLT := Lib.hid hlt1
  clear hbel hrow hS hlt1
  go_loopw [9] (fun vi wr => ∃ j : Nat, vi = .int .i64 j ∧ j ≤ 256 ∧ Hid (Below S w wr) ∧ Hid (S < wr.heap.size) ∧ Hid (Row wr S 256 (fun i => if i < j then 1 else 0))) (fun vi _ => 256 - (intOf vi).toNat)
  case atStart => exact ⟨0, rfl, by omega, BEL, HLT, ROW⟩
  case round =>
    clear BEL ROW HLT
    obtain ⟨j, rfl, hj, BEL, HLT, ROW⟩ := hrel
    by_cases hlt : j < 256
    · have hltz : (j : Int) < 256 := by omega
      obtain ⟨c, f⟩ := ROW.out j hlt
      simp only [Nat.lt_irrefl, if_false] at c
      have N1 := Lib.hid (row_ones_step ROW.out hlt)
      have N2 := Lib.hid (BEL.out.setCell (p := ⟨S, j, none⟩) (Nat.le_refl S) (.int .i64 1))
      have N3 : Hid (S < (wr.setCell ⟨S, j, none⟩ (.int .i64 1)).heap.size) := by have := HLT.out; simpa [Hid] using this
      go_wp2_with fail
      go_roundw
      case rel => exact ⟨j + 1, by go_num, by omega, N2, N3, N1⟩
      case measure => simp [intOf]; omega
    · have hrow : Row wr S 256 (fun _ => 1) := ROW.out.ext (fun i hi => by rw [if_pos (by omega)])
      have hltz : ¬ (j : Int) < 256 := by omega
      have HROW := Lib.hid hrow
      clear hrow
      go_wp2_with fail
      refine (Even_any _ _ _).mono ?_
      rintro e w2 ⟨B, rfl, hB, hb2, hr2⟩
      rw [HEV.out] at hr2 ⊢
      have hrow2 : Row w2 S 256 (fun _ => 1) := HROW.out.below hb2 HLT.out
      have c3 := refDeal_told t (some ⟨S, 0, none⟩) 256 (List.replicate 256 1) w2 (by rw [List.length_replicate]; omega) (Lst_ones hrow2)
      rw [List.length_replicate] at c3
      have C3 := Lib.hid c3
      have h02 : Below S w w2 := BEL.out.trans (hb2.mono (by have := HLT.out; omega))
      have H02 := Lib.hid h02
      have HR2 := Lib.hid hr2
      have HB := Lib.hid hB
      clear hb2 hr2 hrow2 c3 h02 hB
      go_wp2_with fail
      refine C3.out.mono ?_
      rintro e w3 ⟨rfl, hb3, hr3⟩
      have c4 := Ints_yes 256 B 0 256 w2.heap.size 0 256 (shareS (H t) (List.replicate 256 1)) (shareS (H t) (List.replicate 256 1)) w3 (by omega)
        (fun i hi => by rw [Nat.zero_add, hb3.cell (p := ⟨B, i, none⟩) (Row_lt HR2.out (by omega))]; exact (HR2.out i hi).1)
        (fun i hi => by rw [Nat.zero_add]; exact (hr3 i hi).1) (fun _ _ => rfl)
      have C4 := Lib.hid c4
      have h03 : Below S w w3 := H02.out.trans (hb3.mono (by have := H02.out.size; have := HS.out; omega))
      have H03 := Lib.hid h03
      clear hb3 hr3 c4 h03
      go_wp2_with fail
      refine C4.out.mono ?_
      rintro e w4 ⟨rfl, q, rfl⟩
      have h04 := below_drewN' H03.out q
      generalize w3.drewN q = w4 at h04 ⊢
      rw [HS.out] at h04
      have hL4 := Lst_under HL.out h04
      have s1 := Sum_any a cap ws w4 HMAX.out hL4
      have s2 := refSum_any a cap ws w4 HMAX.out hL4
      rw [HLEN.out] at s1 s2
      have S1 := Lib.hid s1
      have S2 := Lib.hid s2
      have H04 := Lib.hid h04
      clear h04 hL4 s1 s2
      go_wp2_with fail
      refine S1.out.mono ?_
      rintro e w' ⟨rfl, rfl⟩
      go_wp2_with fail
      refine S2.out.mono ?_
      rintro e w' ⟨rfl, rfl⟩
      go_wp2_with fail
      refine (known2_any _).mono ?_
      rintro e w5 ⟨rfl, hb5⟩
      have h05 := H04.out.trans (hb5.mono H04.out.size)
      have H05 := Lib.hid h05
      clear hb5 h05
      go_wp2_with fail
      go_ret
      exact ⟨rfl, H05.out⟩

theorem ShareEvens_walk (t n : Int) (a : Option Addr) (cap : Nat) (ws : List Int) (w : World) (hmax : ws.length ≤ maxLen) (hL : Lst w a ws) :
    Calls Try.prog 4 #[.int .i64 t, .int .i64 n, .slice a ws.length cap] w fun e w' => e = .returned (.bool true) ∧ Below w.heap.size w w' := by
  by_cases h : n < 0
  · exact ShareEvens_low t n h a cap ws w hmax hL
  · by_cases h2 : 256 < n
    · exact ShareEvens_high t n h2 a cap ws w hmax hL
    · obtain ⟨k, rfl⟩ := Int.eq_ofNat_of_zero_le (show 0 ≤ n by omega)
      exact ShareEvens_mid t k (by omega) a cap ws w hmax hL

theorem Lst_of2 {w : World} {a : Option Addr} {len cap : Nat} {zs : List Int}
    (h : (a = none ∧ len = 0 ∧ cap = 0 ∧ zs = []) ∨ ∃ x, a = some x ∧ len ≤ cap ∧ cap ≤ maxLen ∧ zs.length = cap ∧ (∀ i, i < zs.length → w.cell? (x.add i) = some (.int .i64 (zs.getD i 0))) ∧ ∀ n ∈ zs, (Lit.int .i64 n).wf = true) :
    ∃ ws : List Int, ws.length = len ∧ ws.length ≤ maxLen ∧ Lst w a ws := by
  obtain ⟨ws, h1, h2⟩ := Lst_of h
  refine ⟨ws, h1, ?_, h2⟩
  rcases h with ⟨_, h, _⟩ | ⟨_, _, h3, h4, _⟩ <;> omega

end Go.Proofs.Ytanhpdejlodidaa
