/- Layer 17, the other text: what a size's word comes to. -/
import Derived.Test.YthfabalnioggcaaStyR3
namespace Go.Proofs.Ythfabalnioggcaa
open Go.RowKit TreN LexP FixP SynP ValP PropP FixM Go.Sort
set_option linter.unusedVariables false

theorem w7_len : w7L.length = 7 := rfl
theorem sizK_hit {k n : Int} {s : List UInt8} {j : Nat} (h2 : k ≠ 2) (h3 : k ≠ 3) (hs : txtS k n = s) (h : j < w7L.length) (hj : w7L[j] = s) (hb : ∀ i (hi : i < j), w7L[i] ≠ s) : sizK k n = (j : Nat) := by
  subst hs
  unfold sizK
  rw [if_neg h2, if_neg h3, ix17_first h hj hb, if_pos (by rw [w7_len] at h; exact h)]
theorem sizK_miss {k n : Int} {s : List UInt8} (h2 : k ≠ 2) (h3 : k ≠ 3) (hs : txtS k n = s) (hb : ∀ i (hi : i < w7L.length), w7L[i] ≠ s) : sizK k n = 4 := by
  subst hs
  unfold sizK
  rw [if_neg h2, if_neg h3, ix17_none hb, if_neg (by rw [w7_len]; omega)]
/-- the words beside the boxes -/
structure Vw (w W : World) (R B : Nat) (k n d : Int) (nm : List UInt8) : Prop where
  z : Vz w W R k n d nm
  b : B < W.heap.size
  t : TxAt W B w7L
theorem Vw.below {w W W' : World} {R B : Nat} {k n d : Int} {nm : List UInt8} (h : Vw w W R B k n d nm) (hb : Below W.heap.size W W') : Vw w W' R B k n d nm := ⟨h.z.below hb, Nat.lt_of_lt_of_le h.b hb.size, h.t.below hb h.b⟩

set_option maxRecDepth 100000 in
set_option maxHeartbeats 4000000 in
theorem Size17_word (k n d : Int) (below : Bool) (font a b : Int) (nm : List UInt8) (w : World) (hk2 : k ≠ 2) (hk3 : k ≠ 3) : Calls Try.prog 81 #[.agg #[.int .i64 k, .int .i64 n, .int .i64 d, .string ⟨nm.toArray⟩], .bool below, .int .i64 font, .int .i64 a, .int .i64 b] w fun e w' => e = .returned (.agg #[.int .i64 (sizK k n), .int .i64 (sizN k n d below font a b)]) ∧ Below w.heap.size w w' := by
  have hn0 : sizN k n d below font a b = 0 := by unfold sizN; rw [if_neg hk2, if_neg hk3]
  rw [hn0]
  clear hn0
  have hz2 : (k == 2) = false := by rw [beq_eq_false_iff_ne]; exact hk2
  have hz3 : (k == 3) = false := by rw [beq_eq_false_iff_ne]; exact hk3
  have CT0 := fun W => Text17_any k n d nm W
  obtain ⟨s, hs⟩ : ∃ s, txtS k n = s := ⟨_, rfl⟩
  rw [hs] at CT0
  have CT := Lib.hid CT0
  obtain ⟨u, hu⟩ : ∃ u, sizK k n = u := ⟨_, rfl⟩
  rw [hu]
  have HU := Lib.hid (And.intro hk2 (And.intro hk3 (And.intro hs hu)))
  have hb0 : Below w.heap.size w (w.alloc (.cells #[.int .i64 k, .int .i64 n, .int .i64 d, .string ⟨nm.toArray⟩] 80)) := (Below.refl _ _).alloc (Nat.le_refl _) _
  have hx0 := heap_alloc_new w (.cells #[.int .i64 k, .int .i64 n, .int .i64 d, .string ⟨nm.toArray⟩] 80)
  have hs0 : (w.alloc (.cells #[.int .i64 k, .int .i64 n, .int .i64 d, .string ⟨nm.toArray⟩] 80)).heap.size = w.heap.size + 1 := by simp
  generalize hW0 : w.alloc (.cells #[.int .i64 k, .int .i64 n, .int .i64 d, .string ⟨nm.toArray⟩] 80) = W0 at *
  have hb1 : Below W0.heap.size W0 (W0.alloc (.cells #[.int .i64 0, .int .i64 0] 23)) := (Below.refl _ _).alloc (Nat.le_refl _) _
  have hx1 := heap_alloc_new W0 (.cells #[.int .i64 0, .int .i64 0] 23)
  generalize hW1 : W0.alloc (.cells #[.int .i64 0, .int .i64 0] 23) = W1 at *
  have hZ : Vz w W1 W0.heap.size k n d nm := ⟨(hb1.block _ (by rw [hs0]; omega)).trans hx0, hx1, hb0.trans (hb1.mono (by rw [hs0]; omega))⟩
  have hb2 : Below W1.heap.size W1 (W1.alloc (.cells (txcs w7L) 9)) := (Below.refl _ _).alloc (Nat.le_refl _) _
  have HV : Hid (Vw w (W1.alloc (.cells (txcs w7L) 9)) W0.heap.size W1.heap.size k n d nm) := Lib.hid ⟨hZ.below hb2, by simp, TxAt.made W1 w7L⟩
  have HS0 : Hid (w.heap.size ≤ W0.heap.size) := Lib.hid (by rw [hs0]; omega)
  obtain ⟨v0, v1, v2, v3, r0, r1, e0, e1, l0, l1⟩ := hZ.cells
  clear hk2 hk3 CT0 hs hu hb0 hx0 hb1 hx1 hZ hb2 hs0
  go_enter Try.func81, Try.ntmps81
  go_upto_region 9 with (fail)
  have hlit : W1.alloc (.cells #[.string ⟨#[97, 117, 116, 111]⟩, .string ⟨#[110, 111, 114, 109, 97, 108]⟩, .string ⟨#[]⟩, .string ⟨#[109, 105, 110, 45, 99, 111, 110, 116, 101, 110, 116]⟩, .string ⟨#[109, 97, 120, 45, 99, 111, 110, 116, 101, 110, 116]⟩, .string ⟨#[102, 105, 116, 45, 99, 111, 110, 116, 101, 110, 116]⟩, .string ⟨#[110, 111, 110, 101]⟩] 9) = W1.alloc (.cells (txcs w7L) 9) := rfl
  rw [hlit]
  clear hlit v0 v1 v2 v3 r0 r1 e0 e1 l0 l1
  generalize W1.alloc (.cells (txcs w7L) 9) = W2 at *
  go_wp2_with fail
  go_loopw [13] (fun i wr => ∃ j : Nat, i = .int .i64 (j : Int) ∧ j ≤ 7 ∧ Hid (Vw w wr W0.heap.size W1.heap.size k n d nm) ∧ Hid (∀ i (hi : i < j) (hi2 : i < w7L.length), w7L[i] ≠ s)) (fun i _ => 7 - (intOf i).toNat)
  case atStart => exact ⟨0, rfl, by omega, HV, Lib.hid (fun i hi => by omega)⟩
  case round =>
    obtain ⟨j, rfl, hj, HV2, HN⟩ := hrel
    obtain ⟨v0, v1, v2, v3, r0, r1, e0, e1, l0, l1⟩ := HV2.out.z.cells
    by_cases hlt : j < 7
    · have hjl : j < w7L.length := by rw [w7_len]; exact hlt
      have hz : (j : Int) < 7 := by omega
      have hbl := HV2.out.b
      obtain ⟨x, hx⟩ : ∃ x, w7L[j] = x := ⟨_, rfl⟩
      have d0 := HV2.out.t j hjl
      rw [hx] at d0
      have q0 := cell_regrown d0
      have q1 := cell_regrown v0
      have q2 := cell_regrown v1
      have q3 := cell_regrown v2
      have q4 := cell_regrown v3
      have cT := fun (dd : Nat) (os : Array Obj) => Calls.regrown_of (CT.out (grow (redrawn wr dd) os))
      by_cases hq : x = s
      · have hqb : (x == s) = true := by rw [beq_iff_eq]; exact hq
        have HF : Hid (u = (j : Nat)) := Lib.hid (by rw [← HU.out.2.2.2]; exact sizK_hit HU.out.1 HU.out.2.1 HU.out.2.2.1 hjl (hx.trans hq) (fun i hi => HN.out i hi (by omega)))
        clear hq hx hjl d0 v0 v1 v2 v3 r0 r1 e0 e1 l0 l1
        go_wp2_with fail
        refine wp_region_quiet_below (by kernel_rfl) (by kernel_rfl) ?_
        repeat (quiet_step (with_reducible exact cT _ _))
        refine wpQuiet_nil ?_
        intro _ hw'
        obtain ⟨⟨dq, osq⟩, hw''⟩ := hw'
        subst hw''
        have HV3 := Lib.hid (HV2.out.below (below_regrown wr dq osq))
        clear q0 q1 q2 q3 q4 cT
        generalize grow (redrawn wr dq) osq = W9 at *
        obtain ⟨v0, v1, v2, v3, r0, r1, e0, e1, l0, l1⟩ := HV3.out.z.cells
        go_wp2_with fail
        exact size_fin HS0.out HV3.out.z.r HV3.out.z.bel HF.out rfl _ rfl rfl
      · have hqb : (x == s) = false := by rw [beq_eq_false_iff_ne]; exact hq
        have HN2 : Hid (∀ i (hi : i < j + 1) (hi2 : i < w7L.length), w7L[i] ≠ s) := Lib.hid (fun i hi hi2 => by
          rcases Nat.lt_or_ge i j with h | h
          · exact HN.out i h hi2
          · have : i = j := by omega
            subst this; rw [hx]; exact hq)
        clear hq hx hjl d0 v0 v1 v2 v3 r0 r1 e0 e1 l0 l1
        go_wp2_with fail
        refine wp_region_quiet_below (by kernel_rfl) (by kernel_rfl) ?_
        repeat (quiet_step (with_reducible exact cT _ _))
        refine wpQuiet_nil ?_
        intro _ hw'
        obtain ⟨⟨dq, osq⟩, hw''⟩ := hw'
        subst hw''
        have HV3 := Lib.hid (HV2.out.below (below_regrown wr dq osq))
        clear q0 q1 q2 q3 q4 cT
        go_wp2_with fail
        go_roundw
        case rel => exact ⟨j + 1, by go_num, by omega, HV3, HN2⟩
        case measure => simp [intOf]; omega
    · have hz : (7 : Int) ≤ (j : Int) := by omega
      have HF : Hid (u = 4) := Lib.hid (by rw [← HU.out.2.2.2]; exact sizK_miss HU.out.1 HU.out.2.1 HU.out.2.2.1 (fun i hi => HN.out i (by rw [w7_len] at hi; omega) hi))
      go_wp2_with fail
      exact size_fin HS0.out HV2.out.z.r HV2.out.z.bel HF.out rfl _ rfl rfl
/-- any value's size -/
theorem Size17_any (k n d : Int) (below : Bool) (font a b : Int) (nm : List UInt8) (w : World) : Calls Try.prog 81 #[.agg #[.int .i64 k, .int .i64 n, .int .i64 d, .string ⟨nm.toArray⟩], .bool below, .int .i64 font, .int .i64 a, .int .i64 b] w fun e w' => e = .returned (.agg #[.int .i64 (sizK k n), .int .i64 (sizN k n d below font a b)]) ∧ Below w.heap.size w w' := by
  by_cases h : k = 2 ∨ k = 3
  · exact Size17_num k n d below font a b nm w h
  · exact Size17_word k n d below font a b nm w (fun e => h (Or.inl e)) (fun e => h (Or.inr e))
end Go.Proofs.Ythfabalnioggcaa
