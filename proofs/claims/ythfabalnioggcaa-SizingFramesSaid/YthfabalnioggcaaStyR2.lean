/- Layer 17, the other text: the place of a word among those of a property. -/
import Derived.Test.YthfabalnioggcaaStyR1
import Derived.Test.YthfabalnioggcaaPropRa
import Derived.Lib.QuietBelow
import Derived.Deep.QuietTactic
import Derived.Deep.LoopGhost
namespace Go.Proofs.Ythfabalnioggcaa
open Go.RowKit TreN LexP FixP SynP ValP PropP Go.Sort
set_option linter.unusedVariables false

def plcS (p : Int) (k n : Int) : Nat := if ix17 (wrdsP p.toNat) (txtS k n) < (wrdsP p.toNat).length then ix17 (wrdsP p.toNat) (txtS k n) else 0
/-- a value's box, and a list of texts -/
structure Vb (w0 W : World) (B : Nat) (k n d : Int) (nm : List UInt8) (b : Nat) (L : List (List UInt8)) : Prop where
  v : W.heap[B]? = some (.cells #[.int .i64 k, .int .i64 n, .int .i64 d, .string ⟨nm.toArray⟩] 80 (0, 0))
  l : L = [] ∨ (b < W.heap.size ∧ TxAt W b L)
  bel : Below w0.heap.size w0 W
theorem Vb.below {w0 W W' : World} {B : Nat} {k n d : Int} {nm : List UInt8} {b : Nat} {L : List (List UInt8)} (h : Vb w0 W B k n d nm b L) (hb : Below W.heap.size W W') : Vb w0 W' B k n d nm b L :=
  ⟨(hb.block _ (Array.getElem?_eq_some_iff.1 h.v).1).trans h.v, by
    rcases h.l with h1 | ⟨h1, h2⟩
    · exact Or.inl h1
    · exact Or.inr ⟨Nat.lt_of_lt_of_le h1 hb.size, h2.below hb h1⟩, h.bel.trans (hb.mono h.bel.size)⟩
theorem plcS_hit {p k n : Int} {L : List (List UInt8)} {s : List UInt8} {j : Nat} (hL : wrdsP p.toNat = L) (hs : txtS k n = s) (h : j < L.length) (hj : L[j] = s) (hb : ∀ i (hi : i < j), L[i] ≠ s) : plcS p k n = j := by
  subst hL; subst hs
  unfold plcS
  rw [ix17_first h hj hb, if_pos h]
theorem plcS_miss {p k n : Int} {L : List (List UInt8)} {s : List UInt8} (hL : wrdsP p.toNat = L) (hs : txtS k n = s) (hb : ∀ i (hi : i < L.length), L[i] ≠ s) : plcS p k n = 0 := by
  subst hL; subst hs
  unfold plcS
  rw [ix17_none hb, if_neg (Nat.lt_irrefl _)]
theorem wrds_len : ∀ k : Fin 38, (wrdsP k.val).length ≤ 31 := by decide
set_option maxRecDepth 100000 in
set_option maxHeartbeats 2000000 in
theorem Place17_any (p k n d : Int) (nm : List UInt8) (w : World) (h1 : 1 ≤ p) (h2 : p ≤ 37) : Calls Try.prog 77 #[.int .i64 p, .agg #[.int .i64 k, .int .i64 n, .int .i64 d, .string ⟨nm.toArray⟩]] w fun e w' => e = .returned (.int .i64 (plcS p k n : Nat)) ∧ Below w.heap.size w w' := by
  have CW := Lib.hid (fun W => WordsRP_any p h1 h2 W)
  have CT0 := fun W => Text17_any k n d nm W
  obtain ⟨L, hL⟩ : ∃ L, wrdsP p.toNat = L := ⟨_, rfl⟩
  obtain ⟨s, hs⟩ : ∃ s, txtS k n = s := ⟨_, rfl⟩
  have hm : L.length ≤ 31 := by
    have h := wrds_len ⟨p.toNat, by omega⟩
    rw [← hL]; exact h
  obtain ⟨r, hr⟩ : ∃ r, plcS p k n = r := ⟨_, rfl⟩
  have HR := Lib.hid (And.intro hL (And.intro hs hr))
  rw [hL] at CW
  rw [hs] at CT0
  rw [hr]
  have CT := Lib.hid CT0
  obtain ⟨m, hml⟩ : ∃ m, L.length = m := ⟨_, rfl⟩
  have HM := Lib.hid hml
  rw [hml] at hm
  have hb0 : Below w.heap.size w (w.alloc (.cells #[.int .i64 k, .int .i64 n, .int .i64 d, .string ⟨nm.toArray⟩] 80)) := (Below.refl _ _).alloc (Nat.le_refl _) _
  have hx0 := heap_alloc_new w (.cells #[.int .i64 k, .int .i64 n, .int .i64 d, .string ⟨nm.toArray⟩] 80)
  generalize hW : w.alloc (.cells #[.int .i64 k, .int .i64 n, .int .i64 d, .string ⟨nm.toArray⟩] 80) = W at *
  have HB0 := Lib.hid hb0
  have HX0 := Lib.hid hx0
  clear hL hs hr CT0 hml hb0 hx0
  go_enter Try.func77, Try.ntmps77
  go_wp2_with fail
  refine (CW.out _).mono ?_
  rintro e w1 hmt
  obtain ⟨ao, b, rfl, hao, HV⟩ : ∃ ao b, e = .returned (.slice ao m m) ∧ (0 < m → ao = some ⟨b, 0, none⟩) ∧ Hid (Vb w w1 w.heap.size k n d nm b L) := by
    rcases hmt with ⟨h0, rfl, rfl⟩ | ⟨h0, rfl, rfl⟩
    · have hm0 : m = 0 := by rw [← HM.out, h0]; rfl
      exact ⟨none, 0, by rw [hm0], by omega, Lib.hid ⟨HX0.out, Or.inl h0, HB0.out⟩⟩
    · have hbb : Below W.heap.size W (W.alloc (.cells (txcs L) 9)) := (Below.refl _ _).alloc (Nat.le_refl _) _
      exact ⟨_, _, by rw [HM.out], fun _ => rfl, Lib.hid ⟨(hbb.block _ (Array.getElem?_eq_some_iff.1 HX0.out).1).trans HX0.out, Or.inr ⟨by simp, TxAt.made W L⟩, HB0.out.trans (hbb.mono HB0.out.size)⟩⟩
  clear hmt CW
  go_wp2_with fail
  go_loopw [6] (fun i wr => ∃ j : Nat, i = .int .i64 (j : Int) ∧ j ≤ m ∧ Hid (Vb w wr w.heap.size k n d nm b L) ∧ Hid (∀ i (hi : i < j) (hi2 : i < L.length), L[i] ≠ s)) (fun i _ => m - (intOf i).toNat)
  case atStart => exact ⟨0, rfl, by omega, HV, Lib.hid (fun i hi => by omega)⟩
  case round =>
    obtain ⟨j, rfl, hj, HV2, HN⟩ := hrel
    by_cases hlt : j < m
    · have hjl : j < L.length := by rw [HM.out]; exact hlt
      have hz : (j : Int) < (m : Int) := by omega
      obtain rfl := hao (by omega)
      obtain ⟨hbl, hTx⟩ : b < wr.heap.size ∧ TxAt wr b L := by
        rcases HV2.out.l with h | h
        · rw [h] at hjl; simp at hjl
        · exact h
      obtain ⟨x, hx⟩ : ∃ x, L[j] = x := ⟨_, rfl⟩
      have d0 := hTx j hjl
      rw [hx] at d0
      have v0 : wr.cell? ⟨w.heap.size, 0, none⟩ = some (.int .i64 k) := cell_of HV2.out.v rfl
      have v1 : wr.cell? ⟨w.heap.size, 1, none⟩ = some (.int .i64 n) := cell_of HV2.out.v rfl
      have v2 : wr.cell? ⟨w.heap.size, 2, none⟩ = some (.int .i64 d) := cell_of HV2.out.v rfl
      have v3 : wr.cell? ⟨w.heap.size, 3, none⟩ = some (.string ⟨nm.toArray⟩) := cell_of HV2.out.v rfl
      have r0 := cell_regrown d0
      have r1 := cell_regrown v0
      have r2 := cell_regrown v1
      have r3 := cell_regrown v2
      have r4 := cell_regrown v3
      have cT := fun (dd : Nat) (os : Array Obj) => Calls.regrown_of (CT.out (grow (redrawn wr dd) os))
      have HXL := Lib.hid hx
      clear d0 v0 v1 v2 v3 hTx hx
      by_cases hq : x = s
      · have hqb : (x == s) = true := by rw [beq_iff_eq]; exact hq
        have HQ := Lib.hid hq
        have HF : Hid (r = j) := Lib.hid (by rw [← HR.out.2.2]; exact plcS_hit HR.out.1 HR.out.2.1 hjl (HXL.out.trans hq) (fun i hi => HN.out i hi (by omega)))
        clear hq HXL hjl hao
        go_wp2_with fail
        refine wp_region_quiet_below (by kernel_rfl) (by kernel_rfl) ?_
        repeat (quiet_step (with_reducible exact cT _ _))
        refine wpQuiet_nil ?_
        intro _ hw'
        obtain ⟨⟨dq, osq⟩, hw''⟩ := hw'
        subst hw''
        go_wp2_with fail
        go_ret
        exact ⟨by rw [HF.out]; rfl, HV2.out.bel.trans ((below_regrown wr dq osq).mono HV2.out.bel.size)⟩
      · have hqb : (x == s) = false := by rw [beq_eq_false_iff_ne]; exact hq
        have HN2 : Hid (∀ i (hi : i < j + 1) (hi2 : i < L.length), L[i] ≠ s) := Lib.hid (fun i hi hi2 => by
          rcases Nat.lt_or_ge i j with h | h
          · exact HN.out i h hi2
          · have : i = j := by omega
            subst this; rw [HXL.out]; exact hq)
        clear hq HXL hjl hao
        go_wp2_with fail
        refine wp_region_quiet_below (by kernel_rfl) (by kernel_rfl) ?_
        repeat (quiet_step (with_reducible exact cT _ _))
        refine wpQuiet_nil ?_
        intro _ hw'
        obtain ⟨⟨dq, osq⟩, hw''⟩ := hw'
        subst hw''
        have HV3 := Lib.hid (HV2.out.below (below_regrown wr dq osq))
        clear r0 r1 r2 r3 r4 cT
        go_wp2_with fail
        go_roundw
        case rel => exact ⟨j + 1, by go_num, by omega, HV3, HN2⟩
        case measure => simp [intOf]; omega
    · have hz : (m : Int) ≤ (j : Int) := by omega
      have HF : Hid (r = 0) := Lib.hid (by rw [← HR.out.2.2]; exact plcS_miss HR.out.1 HR.out.2.1 (fun i hi => HN.out i (by have := HM.out; omega) hi))
      clear hao
      go_wp2_with fail
      go_ret
      exact ⟨by rw [HF.out]; rfl, HV2.out.bel⟩
end Go.Proofs.Ythfabalnioggcaa
