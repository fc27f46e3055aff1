/- Layer 22: what must come of fixed calls; the laws of offsets, of spaces, of nothing. -/
import Derived.Test.YtapfmancgidpfaaAliW5
import Derived.Laws.Entries
namespace Go.Proofs.Ytapfmancgidpfaa
open Go.RowKit FixM ShaD ShaM Go.Sort
set_option linter.unusedVariables false

theorem four_lit (w : World) (x0 x1 x2 x3 : Int) : ∀ i, i < 4 → (w.alloc (.cells #[.int .i64 x0, .int .i64 x1, .int .i64 x2, .int .i64 x3] 3)).cell? ⟨w.heap.size, 0 + i, none⟩ = some (.int .i64 ([x0, x1, x2, x3].getD i 0)) := fun i hi => by
  rw [World.cell?_alloc_at _ _ _ _ rfl, Nat.zero_add]
  have : i = 0 ∨ i = 1 ∨ i = 2 ∨ i = 3 := by omega
  rcases this with rfl | rfl | rfl | rfl <;> rfl

theorem ints_lit (B : Nat) (w0 w1 : World) (b : Nat) (sp : Nat → Int) (x0 x1 x2 x3 : Int) (hz : B ≤ w0.heap.size) (hB : Below B w0 w1) (hr : Row w1 b 4 sp) (h : ∀ i, i < 4 → sp i = [x0, x1, x2, x3].getD i 0) :
    Calls Try.prog 9 #[.slice (some ⟨b, 0, none⟩) 4 4, .slice (some ⟨w1.heap.size, 0, none⟩) 4 4] (w1.alloc (.cells #[.int .i64 x0, .int .i64 x1, .int .i64 x2, .int .i64 x3] 3)) fun e w' => e = .returned (.bool true) ∧ Below B w0 w' := by
  have hlt : b < w1.heap.size := Row_lt hr (by decide)
  refine (Ints_yes 4 b 0 4 w1.heap.size 0 4 sp (fun i => [x0, x1, x2, x3].getD i 0) _ (by decide) (fun i hi => by rw [Nat.zero_add, World.cell?_alloc_past _ _ _ hlt]; exact (hr i hi).1) (four_lit w1 x0 x1 x2 x3) h).mono ?_
  rintro e w' ⟨rfl, q, rfl⟩
  exact ⟨rfl, below_drewNS' (hB.alloc (Nat.le_trans hz hB.size) _) q⟩

theorem SP4 (way : Int) (w : World) : Calls Try.prog 10 #[.int .i64 10, .int .i64 3, .int .i64 way] w fun e w' =>
    ∃ b, w.heap.size ≤ b ∧ e = .returned (.slice (some ⟨b, 0, none⟩) 4 4) ∧ Below w.heap.size w w' ∧ Row w' b 4 (spS 10 3 way) := by
  have h := Spaces22_any 10 3 way 3 w (by decide) (by decide)
  rwa [show H 10 = 10 from by decide] at h

set_option maxRecDepth 100000 in
set_option maxHeartbeats 1000000 in
theorem known22_any (w : World) : Calls Try.prog 12 #[] w fun e w' => e = .returned (.bool true) ∧ Below w.heap.size w w' := by
  have s1 : ∀ i, i < 4 → spS 10 3 3 i = [0, 5, 5, 0].getD i 0 := by decide +kernel
  have s2 : ∀ i, i < 4 → spS 10 3 4 i = [2, 3, 3, 2].getD i 0 := by decide +kernel
  have s3 : ∀ i, i < 4 → spS 10 3 5 i = [3, 3, 2, 2].getD i 0 := by decide +kernel
  have s4 : ∀ i, i < 4 → spS 10 3 2 i = [5, 0, 0, 5].getD i 0 := by decide +kernel
  have S1 := Lib.hid s1
  have S2 := Lib.hid s2
  have S3 := Lib.hid s3
  have S4 := Lib.hid s4
  clear s1 s2 s3 s4
  go_enter Try.func12, Try.ntmps12
  go_wp2_with fail
  refine (SP4 3 w).mono ?_
  rintro e w1 ⟨b1, hz1, rfl, hb1, hr1⟩
  have I1 := Lib.hid (ints_lit w.heap.size w w1 b1 (spS 10 3 3) 0 5 5 0 (Nat.le_refl _) hb1 hr1 S1.out)
  clear hb1 hr1 hz1 S1
  go_wp2_with fail
  refine I1.out.mono ?_
  rintro e w2 ⟨rfl, hb2⟩
  have HB2 := Lib.hid hb2
  clear hb2
  go_wp2_with fail
  refine (SP4 4 w2).mono ?_
  rintro e w3 ⟨b3, hz3, rfl, hb3, hr3⟩
  have I2 := Lib.hid (ints_lit w.heap.size w w3 b3 (spS 10 3 4) 2 3 3 2 (Nat.le_refl _) (HB2.out.trans (hb3.mono HB2.out.size)) hr3 S2.out)
  clear hb3 hr3 hz3 S2
  go_wp2_with fail
  refine I2.out.mono ?_
  rintro e w4 ⟨rfl, hb4⟩
  have HB4 := Lib.hid hb4
  clear hb4
  go_wp2_with fail
  refine (SP4 5 w4).mono ?_
  rintro e w5 ⟨b5, hz5, rfl, hb5, hr5⟩
  have I3 := Lib.hid (ints_lit w.heap.size w w5 b5 (spS 10 3 5) 3 3 2 2 (Nat.le_refl _) (HB4.out.trans (hb5.mono HB4.out.size)) hr5 S3.out)
  clear hb5 hr5 hz5 S3
  go_wp2_with fail
  refine I3.out.mono ?_
  rintro e w6 ⟨rfl, hb6⟩
  have HB6 := Lib.hid hb6
  clear hb6
  go_wp2_with fail
  refine (SP4 2 w6).mono ?_
  rintro e w7 ⟨b7, hz7, rfl, hb7, hr7⟩
  have I4 := Lib.hid (ints_lit w.heap.size w w7 b7 (spS 10 3 2) 5 0 0 5 (Nat.le_refl _) (HB6.out.trans (hb7.mono HB6.out.size)) hr7 S4.out)
  clear hb7 hr7 hz7 S4
  go_wp2_with fail
  refine I4.out.mono ?_
  rintro e w8 ⟨rfl, hb8⟩
  have HB8 := Lib.hid hb8
  clear hb8
  go_wp2_with fail
  go_ret
  exact ⟨rfl, HB8.out⟩

/-- what 'some' makes of a number -/
def KS (n : Int) : Nat := (BitVec.ofInt 64 n).toNat % 64
theorem KS_bd (n : Int) : KS n ≤ 63 := by unfold KS; omega
theorem and63 (n : Int) : bits .and .i64 n 63 = (KS n : Int) := by
  have h2 : (BitVec.ofInt 64 (63 : Int)).toNat = 63 := by decide
  show IntKind.i64.wrap ((BitVec.ofInt 64 n &&& BitVec.ofInt 64 (63 : Int)).toNat : Int) = _
  rw [BitVec.toNat_and, h2, show (BitVec.ofInt 64 n).toNat &&& 63 = (BitVec.ofInt 64 n).toNat % 64 from Nat.and_two_pow_sub_one_eq_mod _ 6]
  exact IntWalk.i64_in _ (by omega)
set_option maxRecDepth 100000 in
set_option maxHeartbeats 400000 in
theorem some22_any (n : Int) (w : World) : Calls Try.prog 8 #[.int .i64 n] w fun e w' => e = .returned (.int .i64 (KS n : Int)) ∧ w = w' := by
  go_enter Try.func8, Try.ntmps8
  go_wp2_with fail
  go_ret
  exact ⟨ret_intF (and63 n), rfl⟩

theorem ref_off (way room size : Int) : (if way = 2 then H (H room - H size) else if way = 3 then FL (H (H room - H size)) 2 else 0) = AH (H (H room - H size)) (JW way) := by
  have h := H_bd (H room - H size)
  unfold AH JW
  by_cases c2 : way = 2
  · subst c2; rfl
  · by_cases c3 : way = 3
    · subst c3
      simp [half22 h.1 h.2]
    · rw [if_neg c2, if_neg c3]
      split
      · rfl
      · rw [if_neg (by omega), if_neg (by omega)]

set_option maxRecDepth 100000 in
set_option maxHeartbeats 1000000 in
theorem AlignOffsets_walk (way room size : Int) (w : World) (hw : (Lit.int .i64 way).wf = true) :
    Calls Try.prog 4 #[.int .i64 way, .int .i64 room, .int .i64 size] w fun e w' => e = .returned (.bool true) ∧ Below w.heap.size w w' := by
  have C1 := Offset_any way room size w hw
  have C2 := refOffset_any way room size w
  rw [ref_off] at C2
  obtain ⟨x, hx⟩ : ∃ x, AH (H (H room - H size)) (JW way) = x := ⟨_, rfl⟩
  rw [hx] at C1 C2
  have D1 := Lib.hid C1
  have D2 := Lib.hid C2
  clear C1 C2 hx
  go_enter Try.func4, Try.ntmps4
  go_wp2_with (first
    | (go_at_call 13; refine D1.out.mono ?_; rintro e w' ⟨rfl, rfl⟩)
    | (go_at_call 14; refine D2.out.mono ?_; rintro e w' ⟨rfl, rfl⟩)
    | (go_at_call 12; refine (known22_any _).mono ?_; rintro e w' ⟨rfl, hb⟩; have HB := Lib.hid hb; clear hb))
  go_ret
  exact ⟨rfl, HB.out⟩

/-- two lists of spaces that are alike -/
theorem sp_ints (B : Nat) (w0 w1 w2 : World) (b1 b2 M : Nat) (f g : Nat → Int) (hM : M ≤ 1000) (hB : Below B w0 w2) (h1 : Row w2 b1 M f) (h2 : Row w2 b2 M g) (h : ∀ i, i < M → f i = g i) :
    Calls Try.prog 9 #[.slice (some ⟨b1, 0, none⟩) M M, .slice (some ⟨b2, 0, none⟩) M M] w2 fun e w' => e = .returned (.bool true) ∧ Below B w0 w' := by
  refine (Ints_yes M b1 0 M b2 0 M f g w2 hM (fun i hi => by rw [Nat.zero_add]; exact (h1 i hi).1) (fun i hi => by rw [Nat.zero_add]; exact (h2 i hi).1) h).mono ?_
  rintro e w' ⟨rfl, q, rfl⟩
  exact ⟨rfl, below_drewNS' hB q⟩

set_option maxRecDepth 100000 in
set_option maxHeartbeats 1000000 in
theorem AlignSpaces_go (t k n way : Int) (N : Nat) (w : World) (hk : CN k = N) (hN : N ≤ 80) (hc : n ≤ 80 ∧ k = n ∨ 80 < n ∧ k = (KS n : Int)) :
    Calls Try.prog 3 #[.int .i64 t, .int .i64 n, .int .i64 way] w fun e w' => e = .returned (.bool true) ∧ Below w.heap.size w w' := by
  have C1 := Lib.hid (Spaces22_any t k way N w hk (by omega))
  have C2 := Lib.hid (fun W => refSpaces22_any t k way N W hk (by omega))
  unfold SpIs at C2
  have hM : N + 1 ≤ 1000 := by omega
  obtain ⟨sp, hsp⟩ : ∃ sp, spS (H t) N way = sp := ⟨_, rfl⟩
  rw [hsp] at C1 C2
  clear hk hsp
  go_enter Try.func3, Try.ntmps3
  rcases hc with ⟨h1, rfl⟩ | ⟨h1, rfl⟩
  all_goals
    go_wp2_with (go_at_call 8; refine (some22_any _ _).mono ?_; rintro e w' ⟨rfl, rfl⟩)
    refine C1.out.mono ?_
    rintro e w1 ⟨b1, hz1, rfl, hb1, hr1⟩
    have HB1 := Lib.hid hb1
    have HR1 := Lib.hid hr1
    clear hb1 hr1
    go_wp2_with fail
    refine (C2.out w1).mono ?_
    rintro e w2 ⟨b2, hz2, rfl, hb2, hr2⟩
    have HB2 := Lib.hid (HB1.out.trans (hb2.mono HB1.out.size))
    have HR2 := Lib.hid hr2
    have HR1' := Lib.hid (HR1.out.below hb2 (Row_lt HR1.out (by omega)))
    clear hb2 hr2
    have I := Lib.hid (sp_ints w.heap.size w w1 w2 b1 b2 (N + 1) sp sp hM HB2.out HR1'.out HR2.out (fun _ _ => rfl))
    go_wp2_with fail
    refine I.out.mono ?_
    rintro e w3 ⟨rfl, hb3⟩
    have HB3 := Lib.hid hb3
    clear hb3
    go_wp2_with fail
    refine (known22_any w3).mono ?_
    rintro e w4 ⟨rfl, hb4⟩
    have HB4 := Lib.hid (HB3.out.trans (hb4.mono HB3.out.size))
    clear hb4
    go_wp2_with fail
    go_ret
    exact ⟨rfl, HB4.out⟩

theorem AlignSpaces_walk (t n way : Int) (w : World) :
    Calls Try.prog 3 #[.int .i64 t, .int .i64 n, .int .i64 way] w fun e w' => e = .returned (.bool true) ∧ Below w.heap.size w w' := by
  by_cases h : n ≤ 80
  · exact AlignSpaces_go t n n way (CN n).toNat w (by unfold CN; omega) (by unfold CN; omega) (Or.inl ⟨h, rfl⟩)
  · have := KS_bd n
    exact AlignSpaces_go t (KS n : Int) n way (KS n) w (CN_id _ (by omega)) (by omega) (Or.inr ⟨by omega, rfl⟩)

set_option maxRecDepth 100000 in
set_option maxHeartbeats 1000000 in
theorem AlignNothing_walk (n a b : Int) (w : World) (ha : (Lit.int .i64 a).wf = true) (hb : (Lit.int .i64 b).wf = true) :
    Calls Try.prog 7 #[.int .i64 n, .int .i64 a, .int .i64 b] w fun e w' => e = .returned (.bool true) ∧ Below w.heap.size w w' := by
  have hk := KS_bd n
  have SK := Lib.hid (some22_any n)
  obtain ⟨N, hN⟩ : ∃ N, KS n = N := ⟨_, rfl⟩
  rw [hN] at hk SK
  have hc := CN_id N (by omega)
  have h0 : H 0 = 0 := by decide
  have L : ∀ way W, (Lit.int .i64 way).wf = true → Calls Try.prog 17 #[.int .i64 0, .int .i64 (N : Int), .int .i64 way] W (LnIs W N (fun _ => 0) (fun _ => 0)) := fun way W hw => by
    have := Lines22_any 0 N way N W hc (by omega) hw
    rw [h0] at this
    have e1 : lnA 0 N way = fun _ => 0 := by funext i; unfold lnA; rw [if_neg (by omega)]
    have e2 : lnS 0 N way = fun _ => 0 := by funext i; unfold lnS; rw [if_neg (by omega), spS_zero]
    rwa [e1, e2] at this
  have P : ∀ way W, Calls Try.prog 10 #[.int .i64 0, .int .i64 (N : Int), .int .i64 way] W fun e w' =>
      ∃ b, W.heap.size ≤ b ∧ e = .returned (.slice (some ⟨b, 0, none⟩) (N + 1 : Nat) (N + 1 : Nat)) ∧ Below W.heap.size W w' ∧ Row w' b (N + 1) (fun _ => 0) := fun way W => by
    have := Spaces22_any 0 N way N W hc (by omega)
    rw [h0] at this
    have e1 : spS 0 N way = fun _ => 0 := by funext i; exact spS_zero N way i
    rwa [e1] at this
  have hM : N + 1 ≤ 1000 := by omega
  unfold LnIs at L
  have LA := Lib.hid (L a w ha)
  have LB := Lib.hid (fun W => L b W hb)
  have PP := Lib.hid P
  clear hN hk hc h0 L P ha hb
  go_enter Try.func7, Try.ntmps7
  go_wp2_with (go_at_call 8; refine (SK.out _).mono ?_; rintro e w' ⟨rfl, rfl⟩)
  refine LA.out.mono ?_
  rintro e w1 ⟨x1, y1, _, _, rfl, hb1, _, hr1⟩
  have HB1 := Lib.hid hb1
  have HR1 := Lib.hid hr1
  clear hb1 hr1
  go_wp2_with fail
  refine (LB.out w1).mono ?_
  rintro e w2 ⟨x2, y2, _, _, rfl, hb2, _, hr2⟩
  have HB2 := Lib.hid (HB1.out.trans (hb2.mono HB1.out.size))
  have HQ1 := Lib.hid (HR1.out.below hb2 (Row_lt HR1.out (by omega)))
  have HQ2 := Lib.hid hr2
  clear hb2 hr2
  go_wp2_with fail
  refine (PP.out a w2).mono ?_
  rintro e w3 ⟨z1, _, rfl, hb3, hr3⟩
  have HB3 := Lib.hid (HB2.out.trans (hb3.mono HB2.out.size))
  have HS1 := Lib.hid (HQ1.out.below hb3 (Row_lt HQ1.out (by omega)))
  have HS2 := Lib.hid (HQ2.out.below hb3 (Row_lt HQ2.out (by omega)))
  have HS3 := Lib.hid hr3
  clear hb3 hr3
  go_wp2_with fail
  refine (PP.out b w3).mono ?_
  rintro e w4 ⟨z2, _, rfl, hb4, hr4⟩
  have HB4 := Lib.hid (HB3.out.trans (hb4.mono HB3.out.size))
  have HT1 := Lib.hid (HS1.out.below hb4 (Row_lt HS1.out (by omega)))
  have HT2 := Lib.hid (HS2.out.below hb4 (Row_lt HS2.out (by omega)))
  have HT3 := Lib.hid (HS3.out.below hb4 (Row_lt HS3.out (by omega)))
  have HT4 := Lib.hid hr4
  clear hb4 hr4
  have I := Lib.hid (Ints_yes (N + 1) z1 0 (N + 1) z2 0 (N + 1) (fun _ => 0) (fun _ => 0) w4 hM (fun i hi => by rw [Nat.zero_add]; exact (HT3.out i hi).1) (fun i hi => by rw [Nat.zero_add]; exact (HT4.out i hi).1) (fun _ _ => rfl))
  go_wp2_with fail
  refine I.out.mono ?_
  rintro e w5 ⟨rfl, q, rfl⟩
  have I2 := Lib.hid (Ints_yes (N + 1) y1 0 (N + 1) y2 0 (N + 1) (fun _ => 0) (fun _ => 0) (w4.drewN q) hM (fun i hi => by rw [Nat.zero_add]; exact (HT1.out i hi).1) (fun i hi => by rw [Nat.zero_add]; exact (HT2.out i hi).1) (fun _ _ => rfl))
  have HB5 := Lib.hid (below_drewNS' HB4.out q)
  generalize w4.drewN q = w5 at I2 HB5 ⊢
  go_wp2_with fail
  refine I2.out.mono ?_
  rintro e w6 ⟨rfl, q2, rfl⟩
  have HB6 := Lib.hid (below_drewNS' HB5.out q2)
  generalize w5.drewN q2 = w6 at HB6 ⊢
  go_wp2_with fail
  refine (known22_any w6).mono ?_
  rintro e w7 ⟨rfl, hb7⟩
  have HB7 := Lib.hid (HB6.out.trans (hb7.mono HB6.out.size))
  clear hb7
  go_wp2_with fail
  go_ret
  exact ⟨rfl, HB7.out⟩
end Go.Proofs.Ytapfmancgidpfaa
