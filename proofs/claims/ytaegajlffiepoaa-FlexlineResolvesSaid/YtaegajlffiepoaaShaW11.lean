/- The walks of layer 2: a total is dealt. -/
import Derived.Test.YtaegajlffiepoaaShaW10
import Derived.Test.YtaegajlffiepoaaShaD2
import Derived.Laws.EntriesVeiled
namespace Go.Proofs.Ytaegajlffiepoaa
open Go.RowKit FixM ShaD ShaM Go.Sort

/-- a row of numbers that may be written -/
def Row (w : World) (b n : Nat) (f : Nat → Int) : Prop := ∀ i, i < n → w.cell? ⟨b, i, none⟩ = some (.int .i64 (f i)) ∧ w.frozen? ⟨b, i, none⟩ = false
theorem Row.set {w : World} {b n k : Nat} {f : Nat → Int} (h : Row w b n f) (hk : k < n) (v : Int) : Row (w.setCell ⟨b, k, none⟩ (.int .i64 v)) b n (fun i => if i = k then v else f i) := by
  intro i hi
  refine ⟨?_, by rw [World.frozen?_setCell]; exact (h i hi).2⟩
  by_cases c : i = k
  · subst c; rw [World.cell?_setCell_same (h := (h i hi).1)]; simp
  · rw [World.cell?_setCell_other (h := by intro e; injection e; omega)]
    simp only [c, if_false]
    exact (h i hi).1
theorem Row.other {w : World} {b n b' k : Nat} {f : Nat → Int} (h : Row w b n f) (hb : b' ≠ b) (v : Value) : Row (w.setCell ⟨b', k, none⟩ v) b n f := by
  intro i hi
  refine ⟨?_, by rw [World.frozen?_setCell]; exact (h i hi).2⟩
  rw [World.cell?_setCell_other (h := by intro e; injection e; omega)]
  exact (h i hi).1
theorem Row.ext {w : World} {b n : Nat} {f g : Nat → Int} (h : Row w b n f) (e : ∀ i, i < n → f i = g i) : Row w b n g := fun i hi => by rw [← e i hi]; exact h i hi
theorem Row.below {w w' : World} {b n B : Nat} {f : Nat → Int} (h : Row w b n f) (hb : Below B w w') (hB : b < B) : Row w' b n f := by
  intro i hi
  rw [hb.cell (p := ⟨b, i, none⟩) hB, hb.frozen (p := ⟨b, i, none⟩) hB]
  exact h i hi

theorem info_int64 : (Try.prog.info? 2).map (fun i => (i.zero, i.size, i.bytes)) = some (some (.int .i64 0), 1, 8) := by kernel_rfl
theorem make_ints64 (n : Nat) (h : n ≤ 1000) (u : World) : (Instr.makeSlice 72 (.int .i64 (n : Int)) (.int .i64 (n : Int))).run Try.prog u = .ok (.slice (some ⟨u.heap.size, 0, none⟩) n n) (u.alloc (.cells (madeCells #[.int .i64 0] n) 2)) := by
  obtain ⟨i0, hi, hz0, hz1, hz2⟩ := info_parts info_int64
  have h := run_make (P := Try.prog) u 72 2 i0 (.int .i64 0) Try.underlying72 hi hz0 .i64 .i64 (n : Int) (n : Int) (by omega) (Int.le_refl _) (by rw [hz2]; omega) (by omega)
  simpa [hz1, Value.cells] using h

theorem row_mk0 (w : World) (n : Nat) : Row (mk0 w n) w.heap.size n (fun _ => 0) := by
  intro i hi
  unfold mk0
  exact ⟨by rw [World.cell?_alloc_at _ _ _ _ rfl, madeCells_get n i hi], by simp⟩
theorem below_mk0 (w : World) (n : Nat) : Below w.heap.size w (mk0 w n) := (Below.refl _ _).alloc (Nat.le_refl _) _

set_option maxRecDepth 100000 in
set_option maxHeartbeats 400000 in
theorem deal_none (t : Int) (a : Option Addr) (n cap : Nat) (w : World) (hn : n ≤ 1000)
    (hsum : ∀ w', Below w.heap.size w w' → Calls Try.prog 59 #[.slice a n cap] w' fun e w'' => e = .returned (.int .i64 0) ∧ w' = w'') :
    Calls Try.prog 52 #[.int .i64 t, .slice a n cap] w fun e w' =>
      e = .returned (.slice (some ⟨w.heap.size, 0, none⟩) n n) ∧ Below w.heap.size w w' ∧ Row w' w.heap.size n (fun _ => 0) := by
  have hmk := make_ints n hn
  have C := Lib.hid (hsum (mk0 w n) (below_mk0 w n))
  clear hsum
  go_enter Try.func52, Try.ntmps52
  go_wp2_with fail
  refine C.out.mono ?_
  rintro e w' ⟨rfl, rfl⟩
  go_wp2_with fail
  go_ret
  exact ⟨rfl, below_mk0 w n, row_mk0 w n⟩

set_option maxRecDepth 100000 in
set_option maxHeartbeats 2000000 in
theorem deal_some (t : Int) (bw off cap : Nat) (ws : List Int) (A : Int) (w : World) (ht : 0 ≤ t) (ht2 : t ≤ 1073741824) (hA : A = wsum ws) (hp : 0 < A) (hl : ws.length ≤ 1000) (hn : 0 < ws.length)
    (hbw : bw < w.heap.size) (hc : ∀ i, i < ws.length → w.cell? ⟨bw, off + i, none⟩ = some (.int .i64 (ws.getD i 0))) :
    Calls Try.prog 52 #[.int .i64 t, .slice (some ⟨bw, off, none⟩) ws.length cap] w fun e w' =>
      e = .returned (.slice (some ⟨w.heap.size, 0, none⟩) ws.length ws.length) ∧ Below w.heap.size w w' ∧ ∃ d : Array Int, d.size = ws.length ∧ Rng ws.length d ∧ (∀ i j, i < j → j < ws.length → d[i]! ≠ d[j]!) ∧ Srt (LTo (fun x => rs t A ws x.toNat)) 0 ws.length d ∧
        Row w' w.heap.size ws.length (fun i => qs t A ws i + pk d (t - qsum t A ws ws.length).toNat i) := by
  have hmk := make_ints ws.length hl
  have hmk2 := make_ints64 ws.length hl
  have hmf : ∀ (fn : Fn) (first cap : Array Value) (w : World), (Instr.makeFunc fn first cap).run Try.prog w = .ok (.func fn first cap) w := fun _ _ _ _ => rfl
  have hcs : ∀ W, Below w.heap.size w W → ∀ i, i < ws.length → W.cell? ⟨bw, off + i, none⟩ = some (.int .i64 (ws.getD i 0)) := fun W hW i hi => by
    rw [hW.cell (p := ⟨bw, off + i, none⟩) hbw]; exact hc i hi
  have hsum : ∀ W, Below w.heap.size w W → Calls Try.prog 59 #[.slice (some ⟨bw, off, none⟩) ws.length cap] W fun e w' => e = .returned (.int .i64 A) ∧ W = w' := fun W hW => by
    rw [hA]; exact sum_any bw off cap ws W hl (hcs W hW)
  have C1 := Lib.hid (hsum (mk0 w ws.length) (below_mk0 w ws.length))
  have HCS := Lib.hid hcs
  have HA := Lib.hid hA
  have bA : (A == 0) = false := by simp; omega
  have hA2 : A ≤ 1073741824000 := by have := wsum_bd ws; omega
  obtain ⟨n, hnn⟩ : ∃ n, ws.length = n := ⟨_, rfl⟩
  rw [hnn] at hmk hmk2 C1 hl hn ⊢
  have HN := Lib.hid hnn
  clear hc hcs hsum hA hnn
  go_enter Try.func52, Try.ntmps52
  go_wp2_with fail
  refine C1.out.mono ?_
  rintro e w' ⟨rfl, rfl⟩
  go_wp2_with fail
  clear hmk hmk2
  have hqb := fun k => qsum_bd ht ws HA.out hp k
  have hlb := left_bd (t := t) ws HA.out hp (by rw [HN.out]; exact hn)
  rw [HN.out] at hlb
  have HQB := Lib.hid hqb
  have HLB := Lib.hid hlb
  have hq1 := fun k => qs_bd ht ws HA.out hp k
  have HQ1 := Lib.hid hq1
  clear hqb hlb hq1
  obtain ⟨S, hS⟩ : ∃ S, S = w.heap.size := ⟨_, rfl⟩
  obtain ⟨O, hO⟩ : ∃ O, O = (mk0 w n).heap.size := ⟨_, rfl⟩
  have hSO : O = S + 1 := by rw [hO, hS]; unfold mk0; simp
  have hbel : Below S w (((mk0 w n).alloc (.cells (madeCells #[.int .i64 0] n) 2)).alloc (.cells #[.slice (some ⟨O, 0, none⟩) n n] 72)) := by
    rw [hS]
    exact ((below_mk0 w n).alloc (by unfold mk0; simp) _).alloc (by unfold mk0; simp; omega) _
  have hrS : Row (((mk0 w n).alloc (.cells (madeCells #[.int .i64 0] n) 2)).alloc (.cells #[.slice (some ⟨O, 0, none⟩) n n] 72)) S n (fun _ => 0) := by
    have h1 : Below O (mk0 w n) (((mk0 w n).alloc (.cells (madeCells #[.int .i64 0] n) 2)).alloc (.cells #[.slice (some ⟨O, 0, none⟩) n n] 72)) := ((Below.refl _ _).alloc (by rw [hO]; exact Nat.le_refl _) _).alloc (by rw [hO]; simp) _
    have h2 := row_mk0 w n
    rw [← hS] at h2
    exact h2.below h1 (by omega)
  have hrO : Row (((mk0 w n).alloc (.cells (madeCells #[.int .i64 0] n) 2)).alloc (.cells #[.slice (some ⟨O, 0, none⟩) n n] 72)) O n (fun _ => 0) := by
    intro i hi
    rw [World.cell?_alloc_past _ _ _ (by rw [hO]; simp), World.cell?_alloc_at _ _ _ _ hO, madeCells_get n i hi, World.frozen?_alloc_past _ _ _ (by rw [hO]; simp), World.frozen?_alloc_at _ _ _ _ hO]
    exact ⟨rfl, rfl⟩
  have hcB : (((mk0 w n).alloc (.cells (madeCells #[.int .i64 0] n) 2)).alloc (.cells #[.slice (some ⟨O, 0, none⟩) n n] 72)).cell? ⟨O + 1, 0, none⟩ = some (.slice (some ⟨O, 0, none⟩) n n) := by
    rw [World.cell?_alloc_at _ _ _ _ (by rw [hO]; simp)]; rfl
  have hzB : O + 1 < (((mk0 w n).alloc (.cells (madeCells #[.int .i64 0] n) 2)).alloc (.cells #[.slice (some ⟨O, 0, none⟩) n n] 72)).heap.size := by rw [hO]; simp
  rw [← hS, ← hO]
  generalize (((mk0 w n).alloc (.cells (madeCells #[.int .i64 0] n) 2)).alloc (.cells #[.slice (some ⟨O, 0, none⟩) n n] 72)) = w3 at hbel hrS hrO hcB hzB ⊢
  have BEL := Lib.hid hbel
  have RS := Lib.hid hrS
  have RO := Lib.hid hrO
  have CB := Lib.hid hcB
  have HS := Lib.hid hS
  have HSO := Lib.hid hSO
  have nSO : S ≠ O := by omega
  have nSB : S ≠ O + 1 := by omega
  have hbS : bw < S := by rw [hS]; exact hbw
  clear hbel hrS hrO hcB hS hO hSO hbw
  go_loopw [8, 29] (fun vl vi wr => ∃ k : Nat, vi = .int .i64 k ∧ k ≤ n ∧ vl = .int .i64 (t - qsum t A ws k) ∧ O + 1 < wr.heap.size ∧ Hid (Below S w wr) ∧ Hid (Row wr S n (fun i => if i < k then qs t A ws i else 0)) ∧ Hid (Row wr O n (fun i => if i < k then rs t A ws i else 0)) ∧ Hid (wr.cell? ⟨O + 1, 0, none⟩ = some (.slice (some ⟨O, 0, none⟩) n n))) (fun _ vi _ => n - (intOf vi).toNat)
  case atStart => exact ⟨0, rfl, by omega, congrArg (Value.int .i64) (by simp [qsum]), hzB, BEL, by simpa [Hid] using RS.out, by simpa [Hid] using RO.out, CB⟩
  case round =>
    clear BEL RS RO CB hzB
    obtain ⟨k, rfl, hk, rfl, hzB, BEL, RS, RO, CB⟩ := hrel
    have hqk := HQB.out k
    have hqk2 : t * (k : Int) ≤ 1073741824 * 1000 := by
      have h1 := Int.mul_le_mul_of_nonneg_right ht2 (show (0 : Int) ≤ (k : Int) by omega)
      omega
    obtain ⟨Q, hQ⟩ : ∃ Q, qsum t A ws k = Q := ⟨_, rfl⟩
    rw [hQ] at hqk ⊢
    have Q0 : 0 ≤ Q := hqk.1
    have Q1 : Q ≤ 1073741824000 := by omega
    have HQ := Lib.hid hQ
    clear hqk hqk2 hQ
    by_cases hlt : k < n
    · have hltz : (k : Int) < (n : Int) := by omega
      have hcw := HCS.out wr (by rw [← HS.out]; exact BEL.out) k (by rw [HN.out]; exact hlt)
      obtain ⟨x, hx⟩ : ∃ x, ws.getD k 0 = x := ⟨_, rfl⟩
      rw [hx] at hcw
      have hpr := prod_nonneg ht ht2 x
      obtain ⟨P, hP⟩ : ∃ P, t * WT x = P := ⟨_, rfl⟩
      rw [hP] at hpr
      have P0 : 0 ≤ P := hpr.1
      have P1 : P ≤ 1152921504606846976 := hpr.2
      have hq : qs t A ws k = P / A := by unfold qs; rw [hx, hP]
      have hr : rs t A ws k = P % A := by unfold rs; rw [hx, hP]
      have hqq := HQ1.out k
      rw [hq] at hqq
      have g0 : 0 ≤ P / A := hqq.1
      have g1 : P / A ≤ 1073741824 := by omega
      obtain ⟨cS, fS⟩ := RS.out k hlt
      have hB1 : ∀ v, (wr.setCell ⟨S, k, none⟩ v).cell? ⟨O + 1, 0, none⟩ = some (.slice (some ⟨O, 0, none⟩) n n) := fun v => by
        rw [World.cell?_setCell_other (h := by intro e; injection e; omega)]; exact CB.out
      have HB1 := Lib.hid hB1
      have HQv := Lib.hid hq
      have HRv := Lib.hid hr
      have hwt := WT_bd x
      clear hx hpr hqq hq hr hB1
      go_wp2_with (go_at_call 60; refine (weight_any _ _).mono ?_; rintro e w' ⟨rfl, rfl⟩)
      have hS1 := RS.out.set hlt (P / A)
      have hO1 := RO.out.other (k := k) nSO (.int .i64 (P / A))
      have hBl1 := BEL.out.setCell (p := ⟨S, k, none⟩) (Nat.le_refl S) (.int .i64 (P / A))
      have hB2 := HB1.out (.int .i64 (P / A))
      have hzB1 : O + 1 < (wr.setCell ⟨S, k, none⟩ (.int .i64 (P / A))).heap.size := Nat.lt_of_lt_of_le hzB (by simp)
      clear cS fS
      generalize (wr.setCell ⟨S, k, none⟩ (.int .i64 (P / A))) = wq at hS1 hO1 hBl1 hB2 hzB1 ⊢
      obtain ⟨cO, fO⟩ := hO1 k hlt
      have hS2 := hS1.other (k := k) (b' := O) (by omega) (.int .i64 (P % A))
      have hO2 := hO1.set hlt (P % A)
      have hBl2 := hBl1.setCell (p := ⟨O, k, none⟩) (show S ≤ O by have := HSO.out; omega) (.int .i64 (P % A))
      have hB3 : (wq.setCell ⟨O, k, none⟩ (.int .i64 (P % A))).cell? ⟨O + 1, 0, none⟩ = some (.slice (some ⟨O, 0, none⟩) n n) := by
        rw [World.cell?_setCell_other (h := by intro e; injection e; omega)]; exact hB2
      have hcS := (hS2 k hlt).1
      simp only [if_true] at hcS
      have q1 : P.tmod A = P % A := Int.tmod_eq_emod_of_nonneg P0
      have q2 : IntKind.i64.wrap (P % A) = P % A := IntWalk.i64_in _ (by have := Int.emod_nonneg P (show A ≠ 0 by omega); have := Int.emod_lt_of_pos P hp; omega)
      have zA : ¬ A = 0 := by omega
      have HS2 := Lib.hid hS2
      have HO2 := Lib.hid hO2
      have HBl2 := Lib.hid hBl2
      have HB3 := Lib.hid hB3
      have HZ := Lib.hid hzB1
      clear hS1 hO1 hBl1 hzB1 hS2 hO2 hBl2 hB3
      go_big_region
      clear q1 q2
      go_wp2_with fail
      go_roundw
      case rel =>
        refine ⟨k + 1, by go_num, by omega, congrArg (Value.int .i64) (by simp only [qsum]; rw [HQ.out, HQv.out]; omega), ?_, HBl2.out.drew, ?_, ?_, HB3.out⟩
        · show O + 1 < (wq.setCell _ _).heap.size
          simpa using HZ.out
        · intro i hi
          have h := HS2.out i hi
          refine ⟨?_, h.2⟩
          show (wq.setCell _ _).cell? _ = _
          rw [h.1]
          by_cases c : i = k
          · subst c; simp only [if_true]; rw [if_pos (by omega), HQv.out]
          · simp only [c, if_false]
            by_cases c2 : i < k
            · rw [if_pos c2, if_pos (by omega)]
            · rw [if_neg c2, if_neg (by omega)]
        · intro i hi
          have h := HO2.out i hi
          refine ⟨?_, h.2⟩
          show (wq.setCell _ _).cell? _ = _
          rw [h.1]
          by_cases c : i = k
          · subst c; simp only [if_true]; rw [if_pos (by omega), HRv.out]
          · simp only [c, if_false]
            by_cases c2 : i < k
            · rw [if_pos c2, if_pos (by omega)]
            · rw [if_neg c2, if_neg (by omega)]
      case measure => simp [intOf]; omega
    · have hkn : k = n := by omega
      have hrS : Row wr S n (qs t A ws) := RS.out.ext (fun i hi => by rw [if_pos (by omega)])
      have hrO : Row wr O n (rs t A ws) := RO.out.ext (fun i hi => by rw [if_pos (by omega)])
      have hQn : qsum t A ws n = Q := by rw [← hkn]; exact HQ.out
      obtain ⟨L, hL⟩ : ∃ L : Nat, t - Q = (L : Int) := by
        have h := HLB.out
        rw [hQn] at h
        exact ⟨(t - Q).toNat, by omega⟩
      have hLn : L < n := by
        have h := HLB.out
        rw [hQn] at h
        omega
      have hpick := pick_any L n 61 #[.pointer (some ⟨O + 1, 0, none⟩)] (fun x y => cmp3 (rs t A ws y.toNat) (rs t A ws x.toNat)) (LTo (fun x => rs t A ws x.toNat)) wr hl (by omega) (enters_of Try.func61 (by kernel_rfl) rfl) (LTo_ord _) (LTo_cmp _)
        (fun W hW x y h0 h1 h2 => by
          obtain ⟨i, rfl⟩ := Int.eq_ofNat_of_zero_le (show 0 ≤ x by omega)
          obtain ⟨j, rfl⟩ := Int.eq_ofNat_of_zero_le h0
          exact more_any i j (O + 1) O n n (rs t A ws) W (by omega) (by omega) (by rw [hW.cell (p := ⟨O + 1, 0, none⟩) hzB]; exact CB.out) (fun q hq => by rw [hW.cell (p := ⟨O, q, none⟩) (show O < wr.heap.size by omega)]; exact (hrO q hq).1))
      obtain ⟨PB, hPB⟩ : ∃ PB, PB = wr.heap.size := ⟨_, rfl⟩
      rw [← hPB] at hpick
      have C2 := Lib.hid hpick
      have HRS := Lib.hid hrS
      have HQn := Lib.hid hQn
      have HKN := Lib.hid hkn
      have HPB := Lib.hid hPB
      have hLz : (L : Int) < (n : Int) := by omega
      have nPS : PB ≠ S := by have := HSO.out; omega
      have hbl : Below S w wr := BEL.out
      have HBL := Lib.hid hbl
      clear hpick hrS hrO hQn hkn hPB hbl
      go_wp2_with fail
      refine C2.out.mono ?_
      rintro e w' ⟨rfl, d, m, r1, r2, r3, r4, rfl⟩
      have hb1 : Below PB wr (RW (mk0 wr n) PB d m) := by rw [HPB.out]; exact RW_below wr n d m
      have hrow : Row (RW (mk0 wr n) PB d m) PB n (fun i => d[i]!) := fun i hi => by
        have := RW_cells (w := mk0 wr n) (blk := PB) (d0 := Array.replicate n 0) (d := d) (by rw [HPB.out]; exact mk0_holds wr n) (by rw [r1]; simp) m i (by rw [r1]; exact hi)
        exact this
      have hsr : Row (RW (mk0 wr n) PB d m) S n (qs t A ws) := HRS.out.below hb1 (by have := HPB.out; have := HSO.out; omega)
      have hb2 : Below S w (RW (mk0 wr n) PB d m) := HBL.out.trans (hb1.mono (by have := HPB.out; have := HSO.out; omega))
      generalize RW (mk0 wr n) PB d m = wp at hb1 hrow hsr hb2 ⊢
      have D1 := Lib.hid hrow
      have D2 := Lib.hid hsr
      have D3 := Lib.hid hb2
      have R1 := Lib.hid r1
      have R2 := Lib.hid r2
      have R3 := Lib.hid r3
      have R4 := Lib.hid r4
      clear hb1 hrow hsr hb2 r1 r2 r3 r4
      go_wp2_with fail
      go_loopw [64] (fun vk wr => ∃ k2 : Nat, vk = .int .i64 k2 ∧ k2 ≤ L ∧ Hid (Below S w wr) ∧ Hid (Row wr S n (fun i => qs t A ws i + pk d k2 i)) ∧ Hid (Row wr PB n (fun i => d[i]!))) (fun vk _ => L - (intOf vk).toNat)
      case atStart => exact ⟨0, rfl, by omega, D3, D2.out.ext (fun i _ => by rw [pk_zero]; omega), D1⟩
      case round =>
        clear D1 D2 D3
        obtain ⟨k2, rfl, hk2, B1, B2, B3⟩ := hrel
        by_cases hlt2 : k2 < L
        · have hz2 : (k2 : Int) < (L : Int) := by omega
          obtain ⟨cp, fp⟩ := B3.out k2 (by omega)
          have hrng := R2.out k2 (by omega)
          obtain ⟨pn, hpn⟩ := Int.eq_ofNat_of_zero_le hrng.1
          have hpn2 : pn < n := by omega
          simp only [] at cp
          rw [hpn] at cp
          obtain ⟨cs, fs⟩ := B2.out pn hpn2
          simp only [] at cs
          have hqb := HQ1.out pn
          have hpb := pk_bd d k2 pn
          obtain ⟨v, hv⟩ : ∃ v, qs t A ws pn + pk d k2 pn = v := ⟨_, rfl⟩
          rw [hv] at cs
          have v0 : 0 ≤ v := by omega
          have v1 : v ≤ 1073741825 := by omega
          have n1 := B2.out.set hpn2 (v + 1)
          have n2 := B3.out.other (k := pn) (b' := S) (by omega) (.int .i64 (v + 1))
          have n3 := B1.out.setCell (p := ⟨S, pn, none⟩) (Nat.le_refl S) (.int .i64 (v + 1))
          have HV := Lib.hid hv
          have HPN := Lib.hid hpn
          have N1 := Lib.hid n1
          have N2 := Lib.hid n2
          have N3 := Lib.hid n3
          have hz3 : (pn : Int) < (n : Int) := by omega
          clear hrng hqb hpb n1 n2 n3 hv hpn
          go_wp2_with fail
          go_roundw
          case rel =>
            refine ⟨k2 + 1, by go_num, by omega, N3.out, N1.out.ext (fun i hi => ?_), N2.out⟩
            rw [pk_next d n k2 (by omega) R3.out]
            by_cases c : i = pn
            · rw [if_pos c, c, if_pos HPN.out, ← HV.out]; omega
            · rw [if_neg c, if_neg (by rw [HPN.out]; omega)]
          case measure => simp [intOf]; omega
        · have hke : k2 = L := by omega
          have HKE := Lib.hid hke
          clear hke
          go_wp2_with fail
          go_ret
          have hfin : Row wr S n (fun i => qs t A ws i + pk d (t - qsum t A ws n).toNat i) := B2.out.ext (fun i _ => by
            have e : (t - qsum t A ws n).toNat = k2 := by rw [HQn.out]; have := HKE.out; omega
            rw [e])
          have hs := HS.out
          rw [← hs]
          exact ⟨rfl, B1.out, d, R1.out, R2.out, R3.out, R4.out, hfin⟩
end Go.Proofs.Ytaegajlffiepoaa
