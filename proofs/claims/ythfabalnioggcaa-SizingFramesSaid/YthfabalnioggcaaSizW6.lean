/- Layer 20, the other text: what is kept, given, high. (Written by gen_siz5.py.) -/
import Derived.Test.YthfabalnioggcaaSizWd
namespace Go.Proofs.Ythfabalnioggcaa
open Go.RowKit TreN LexP FixP SynP ValP PropP FixM
set_option linter.unusedVariables false

theorem wpList_move20 {ops : Array Oper} {rest : List Oper} {op : Oper} {a : Act} {w : World} {Q : Exit → Act → World → Prop} (hgd : op.guard = none) (x : Operand) (ho : op.op = .move x)
    (h : wpList Try.prog ops Q rest (a.put op.dst (a.eval x)) w) : wpList Try.prog ops Q (op :: rest) a w :=
  wpList_plain hgd fun K hK => by
    unfold Oper.wp execOp
    simp only [ho]
    exact hK _ _ h
theorem betw_cases (w : Int) (o p : Option Int) : betw w o p = (let m := if o.isSome = true ∧ o.getD 0 < H w then o.getD 0 else H w; if p.isSome = true then max m (p.getD 0) else m) := by
  unfold betw
  cases o <;> cases p <;> simp <;> (try split) <;> omega
set_option maxRecDepth 100000 in
set_option maxHeartbeats 2000000 in
theorem KeepW20_any (c : Cz) (n : Int) (w : World) : Calls Try.prog 23 #[.agg (caseL c).toArray, .int .i64 n] w fun e w' => e = .returned (.int .i64 (c.keepW n)) ∧ Below w.heap.size w w' := by
  have HAL := Lib.hid (caseL_len c)
  have HCE := Lib.hid (fun i h => caseL_at c i h)
  have hx := Bx.new w (caseL c) 36
  have CA := Lib.hid (fun W => Across20_any c W)
  have CS := Lib.hid (fun k n W => SaysW20_any c k n W)
  generalize caseL c = As at *
  have hal := HAL.out
  obtain ⟨o, ho⟩ : ∃ o, c.says (c.z 10) (c.z 11) = o := ⟨_, rfl⟩
  obtain ⟨p, hp⟩ : ∃ p, c.says (c.z 6) (c.z 7) = p := ⟨_, rfl⟩
  have hk : c.keepW n = max (betw n o p) c.x := by rw [← ho, ← hp]; rfl
  rw [hk]
  clear hk
  have CO := Lib.hid (fun W => CS.out (c.z 10) (c.z 11) W)
  have CP := Lib.hid (fun W => CS.out (c.z 6) (c.z 7) W)
  rw [ho] at CO
  rw [hp] at CP
  clear CS ho hp
  obtain ⟨y, hy⟩ : ∃ y, H n = y := ⟨_, rfl⟩
  rw [betw_cases, hy]
  have CH := Lib.hid (fun W => refHold_any n W)
  rw [hy] at CH
  clear hy
  obtain ⟨ov, hov⟩ : ∃ x, o.getD 0 = x := ⟨_, rfl⟩
  obtain ⟨ob, hob⟩ : ∃ x, o.isSome = x := ⟨_, rfl⟩
  obtain ⟨pv, hpv⟩ : ∃ x, p.getD 0 = x := ⟨_, rfl⟩
  obtain ⟨pb, hpb⟩ : ∃ x, p.isSome = x := ⟨_, rfl⟩
  rw [hov, hob] at CO ⊢
  rw [hpv, hpb] at CP ⊢
  clear hov hob hpv hpb
  cases ob
  · simp only [Bool.false_eq_true, false_and, if_false]
    cases pb
    · simp only [Bool.false_eq_true, if_false]
      go_enter Try.func23, Try.ntmps23
      go_upto_region 1 with fail
      obtain ⟨W1, hW⟩ : ∃ W, w.alloc (.cells As.toArray 36) = W := ⟨_, rfl⟩
      rw [hW] at hx ⊢
      clear hW
      obtain ⟨b, hb⟩ : ∃ b, w.heap.size = b := ⟨_, rfl⟩
      rw [hb] at hx ⊢
      have HX := Lib.hid hx
      clear hx
      go_wp2_with fail
      refine (CH.out _).mono ?_
      rintro e wq ⟨rfl, rfl⟩
      go_upto_region 2 with fail
      refine wp_region_lit ?_
      refine wpList_load_mid rfl 36 _ rfl b 0 rfl As _ HX.out.rng Try.underlying36 rfl (by rw [size20r, HAL.out]) ?_
      have q10 : W1.cell? ⟨b, 10, none⟩ = some (.int .i64 (c.z 10)) := (HX.out.at_ 10 _ (HCE.out 10 (by decide)))
      have q11 : W1.cell? ⟨b, 11, none⟩ = some (.int .i64 (c.z 11)) := (HX.out.at_ 11 _ (HCE.out 11 (by decide)))
      go_wp2_with fail
      refine (CO.out _).mono ?_
      rintro e w2 ⟨rfl, hb2⟩
      have HX2 := Lib.hid (HX.out.call hb2)
      clear hb2 HX
      have HX := HX2
      clear HX2
      clear q10 q11
      go_upto_region 5 with fail
      refine wp_region_lit ?_
      refine wpList_load_mid rfl 36 _ rfl b 0 rfl As _ HX.out.rng Try.underlying36 rfl (by rw [size20r, HAL.out]) ?_
      have q6 : w2.cell? ⟨b, 6, none⟩ = some (.int .i64 (c.z 6)) := (HX.out.at_ 6 _ (HCE.out 6 (by decide)))
      have q7 : w2.cell? ⟨b, 7, none⟩ = some (.int .i64 (c.z 7)) := (HX.out.at_ 7 _ (HCE.out 7 (by decide)))
      go_wp2_with fail
      refine (CP.out _).mono ?_
      rintro e w3 ⟨rfl, hb2⟩
      have HX2 := Lib.hid (HX.out.call hb2)
      clear hb2 HX
      have HX := HX2
      clear HX2
      clear q6 q7
      go_upto_region 8 with (go_at_call 12; refine (Up20_any _ _ _).mono ?_; rintro e wq ⟨rfl, rfl⟩)
      refine wp_region_lit ?_
      refine wpList_move20 rfl _ rfl ?_
      refine wpList_load_mid rfl 36 _ rfl b 0 rfl As _ HX.out.rng Try.underlying36 rfl (by rw [size20r, HAL.out]) ?_
      go_wp2_with fail
      refine (CA.out _).mono ?_
      rintro e w4 ⟨rfl, hb2⟩
      have HX2 := Lib.hid (HX.out.call hb2)
      clear hb2 HX
      have HX := HX2
      clear HX2
      go_wp2_with (go_at_call 12; refine (Up20_any _ _ _).mono ?_; rintro e wq ⟨rfl, rfl⟩)
      go_ret
      exact ⟨by first | rfl | (rw [Int.max_assoc]; rfl), hb ▸ HX.out.bel⟩
    · simp only [if_true]
      go_enter Try.func23, Try.ntmps23
      go_upto_region 1 with fail
      obtain ⟨W1, hW⟩ : ∃ W, w.alloc (.cells As.toArray 36) = W := ⟨_, rfl⟩
      rw [hW] at hx ⊢
      clear hW
      obtain ⟨b, hb⟩ : ∃ b, w.heap.size = b := ⟨_, rfl⟩
      rw [hb] at hx ⊢
      have HX := Lib.hid hx
      clear hx
      go_wp2_with fail
      refine (CH.out _).mono ?_
      rintro e wq ⟨rfl, rfl⟩
      go_upto_region 2 with fail
      refine wp_region_lit ?_
      refine wpList_load_mid rfl 36 _ rfl b 0 rfl As _ HX.out.rng Try.underlying36 rfl (by rw [size20r, HAL.out]) ?_
      have q10 : W1.cell? ⟨b, 10, none⟩ = some (.int .i64 (c.z 10)) := (HX.out.at_ 10 _ (HCE.out 10 (by decide)))
      have q11 : W1.cell? ⟨b, 11, none⟩ = some (.int .i64 (c.z 11)) := (HX.out.at_ 11 _ (HCE.out 11 (by decide)))
      go_wp2_with fail
      refine (CO.out _).mono ?_
      rintro e w2 ⟨rfl, hb2⟩
      have HX2 := Lib.hid (HX.out.call hb2)
      clear hb2 HX
      have HX := HX2
      clear HX2
      clear q10 q11
      go_upto_region 5 with fail
      refine wp_region_lit ?_
      refine wpList_load_mid rfl 36 _ rfl b 0 rfl As _ HX.out.rng Try.underlying36 rfl (by rw [size20r, HAL.out]) ?_
      have q6 : w2.cell? ⟨b, 6, none⟩ = some (.int .i64 (c.z 6)) := (HX.out.at_ 6 _ (HCE.out 6 (by decide)))
      have q7 : w2.cell? ⟨b, 7, none⟩ = some (.int .i64 (c.z 7)) := (HX.out.at_ 7 _ (HCE.out 7 (by decide)))
      go_wp2_with fail
      refine (CP.out _).mono ?_
      rintro e w3 ⟨rfl, hb2⟩
      have HX2 := Lib.hid (HX.out.call hb2)
      clear hb2 HX
      have HX := HX2
      clear HX2
      clear q6 q7
      go_upto_region 8 with (go_at_call 12; refine (Up20_any _ _ _).mono ?_; rintro e wq ⟨rfl, rfl⟩)
      refine wp_region_lit ?_
      refine wpList_move20 rfl _ rfl ?_
      refine wpList_load_mid rfl 36 _ rfl b 0 rfl As _ HX.out.rng Try.underlying36 rfl (by rw [size20r, HAL.out]) ?_
      go_wp2_with fail
      refine (CA.out _).mono ?_
      rintro e w4 ⟨rfl, hb2⟩
      have HX2 := Lib.hid (HX.out.call hb2)
      clear hb2 HX
      have HX := HX2
      clear HX2
      go_wp2_with (go_at_call 12; refine (Up20_any _ _ _).mono ?_; rintro e wq ⟨rfl, rfl⟩)
      go_ret
      exact ⟨by first | rfl | (rw [Int.max_assoc]; rfl), hb ▸ HX.out.bel⟩
  · simp only [true_and]
    by_cases hlt : ov < y
    · rw [if_pos hlt]
      cases pb
      · simp only [Bool.false_eq_true, if_false]
        go_enter Try.func23, Try.ntmps23
        go_upto_region 1 with fail
        obtain ⟨W1, hW⟩ : ∃ W, w.alloc (.cells As.toArray 36) = W := ⟨_, rfl⟩
        rw [hW] at hx ⊢
        clear hW
        obtain ⟨b, hb⟩ : ∃ b, w.heap.size = b := ⟨_, rfl⟩
        rw [hb] at hx ⊢
        have HX := Lib.hid hx
        clear hx
        go_wp2_with fail
        refine (CH.out _).mono ?_
        rintro e wq ⟨rfl, rfl⟩
        go_upto_region 2 with fail
        refine wp_region_lit ?_
        refine wpList_load_mid rfl 36 _ rfl b 0 rfl As _ HX.out.rng Try.underlying36 rfl (by rw [size20r, HAL.out]) ?_
        have q10 : W1.cell? ⟨b, 10, none⟩ = some (.int .i64 (c.z 10)) := (HX.out.at_ 10 _ (HCE.out 10 (by decide)))
        have q11 : W1.cell? ⟨b, 11, none⟩ = some (.int .i64 (c.z 11)) := (HX.out.at_ 11 _ (HCE.out 11 (by decide)))
        go_wp2_with fail
        refine (CO.out _).mono ?_
        rintro e w2 ⟨rfl, hb2⟩
        have HX2 := Lib.hid (HX.out.call hb2)
        clear hb2 HX
        have HX := HX2
        clear HX2
        clear q10 q11
        go_upto_region 5 with fail
        refine wp_region_lit ?_
        refine wpList_load_mid rfl 36 _ rfl b 0 rfl As _ HX.out.rng Try.underlying36 rfl (by rw [size20r, HAL.out]) ?_
        have q6 : w2.cell? ⟨b, 6, none⟩ = some (.int .i64 (c.z 6)) := (HX.out.at_ 6 _ (HCE.out 6 (by decide)))
        have q7 : w2.cell? ⟨b, 7, none⟩ = some (.int .i64 (c.z 7)) := (HX.out.at_ 7 _ (HCE.out 7 (by decide)))
        go_wp2_with fail
        refine (CP.out _).mono ?_
        rintro e w3 ⟨rfl, hb2⟩
        have HX2 := Lib.hid (HX.out.call hb2)
        clear hb2 HX
        have HX := HX2
        clear HX2
        clear q6 q7
        go_upto_region 8 with (go_at_call 12; refine (Up20_any _ _ _).mono ?_; rintro e wq ⟨rfl, rfl⟩)
        refine wp_region_lit ?_
        refine wpList_move20 rfl _ rfl ?_
        refine wpList_load_mid rfl 36 _ rfl b 0 rfl As _ HX.out.rng Try.underlying36 rfl (by rw [size20r, HAL.out]) ?_
        go_wp2_with fail
        refine (CA.out _).mono ?_
        rintro e w4 ⟨rfl, hb2⟩
        have HX2 := Lib.hid (HX.out.call hb2)
        clear hb2 HX
        have HX := HX2
        clear HX2
        go_wp2_with (go_at_call 12; refine (Up20_any _ _ _).mono ?_; rintro e wq ⟨rfl, rfl⟩)
        go_ret
        exact ⟨by first | rfl | (rw [Int.max_assoc]; rfl), hb ▸ HX.out.bel⟩
      · simp only [if_true]
        go_enter Try.func23, Try.ntmps23
        go_upto_region 1 with fail
        obtain ⟨W1, hW⟩ : ∃ W, w.alloc (.cells As.toArray 36) = W := ⟨_, rfl⟩
        rw [hW] at hx ⊢
        clear hW
        obtain ⟨b, hb⟩ : ∃ b, w.heap.size = b := ⟨_, rfl⟩
        rw [hb] at hx ⊢
        have HX := Lib.hid hx
        clear hx
        go_wp2_with fail
        refine (CH.out _).mono ?_
        rintro e wq ⟨rfl, rfl⟩
        go_upto_region 2 with fail
        refine wp_region_lit ?_
        refine wpList_load_mid rfl 36 _ rfl b 0 rfl As _ HX.out.rng Try.underlying36 rfl (by rw [size20r, HAL.out]) ?_
        have q10 : W1.cell? ⟨b, 10, none⟩ = some (.int .i64 (c.z 10)) := (HX.out.at_ 10 _ (HCE.out 10 (by decide)))
        have q11 : W1.cell? ⟨b, 11, none⟩ = some (.int .i64 (c.z 11)) := (HX.out.at_ 11 _ (HCE.out 11 (by decide)))
        go_wp2_with fail
        refine (CO.out _).mono ?_
        rintro e w2 ⟨rfl, hb2⟩
        have HX2 := Lib.hid (HX.out.call hb2)
        clear hb2 HX
        have HX := HX2
        clear HX2
        clear q10 q11
        go_upto_region 5 with fail
        refine wp_region_lit ?_
        refine wpList_load_mid rfl 36 _ rfl b 0 rfl As _ HX.out.rng Try.underlying36 rfl (by rw [size20r, HAL.out]) ?_
        have q6 : w2.cell? ⟨b, 6, none⟩ = some (.int .i64 (c.z 6)) := (HX.out.at_ 6 _ (HCE.out 6 (by decide)))
        have q7 : w2.cell? ⟨b, 7, none⟩ = some (.int .i64 (c.z 7)) := (HX.out.at_ 7 _ (HCE.out 7 (by decide)))
        go_wp2_with fail
        refine (CP.out _).mono ?_
        rintro e w3 ⟨rfl, hb2⟩
        have HX2 := Lib.hid (HX.out.call hb2)
        clear hb2 HX
        have HX := HX2
        clear HX2
        clear q6 q7
        go_upto_region 8 with (go_at_call 12; refine (Up20_any _ _ _).mono ?_; rintro e wq ⟨rfl, rfl⟩)
        refine wp_region_lit ?_
        refine wpList_move20 rfl _ rfl ?_
        refine wpList_load_mid rfl 36 _ rfl b 0 rfl As _ HX.out.rng Try.underlying36 rfl (by rw [size20r, HAL.out]) ?_
        go_wp2_with fail
        refine (CA.out _).mono ?_
        rintro e w4 ⟨rfl, hb2⟩
        have HX2 := Lib.hid (HX.out.call hb2)
        clear hb2 HX
        have HX := HX2
        clear HX2
        go_wp2_with (go_at_call 12; refine (Up20_any _ _ _).mono ?_; rintro e wq ⟨rfl, rfl⟩)
        go_ret
        exact ⟨by first | rfl | (rw [Int.max_assoc]; rfl), hb ▸ HX.out.bel⟩
    · rw [if_neg hlt]
      cases pb
      · simp only [Bool.false_eq_true, if_false]
        go_enter Try.func23, Try.ntmps23
        go_upto_region 1 with fail
        obtain ⟨W1, hW⟩ : ∃ W, w.alloc (.cells As.toArray 36) = W := ⟨_, rfl⟩
        rw [hW] at hx ⊢
        clear hW
        obtain ⟨b, hb⟩ : ∃ b, w.heap.size = b := ⟨_, rfl⟩
        rw [hb] at hx ⊢
        have HX := Lib.hid hx
        clear hx
        go_wp2_with fail
        refine (CH.out _).mono ?_
        rintro e wq ⟨rfl, rfl⟩
        go_upto_region 2 with fail
        refine wp_region_lit ?_
        refine wpList_load_mid rfl 36 _ rfl b 0 rfl As _ HX.out.rng Try.underlying36 rfl (by rw [size20r, HAL.out]) ?_
        have q10 : W1.cell? ⟨b, 10, none⟩ = some (.int .i64 (c.z 10)) := (HX.out.at_ 10 _ (HCE.out 10 (by decide)))
        have q11 : W1.cell? ⟨b, 11, none⟩ = some (.int .i64 (c.z 11)) := (HX.out.at_ 11 _ (HCE.out 11 (by decide)))
        go_wp2_with fail
        refine (CO.out _).mono ?_
        rintro e w2 ⟨rfl, hb2⟩
        have HX2 := Lib.hid (HX.out.call hb2)
        clear hb2 HX
        have HX := HX2
        clear HX2
        clear q10 q11
        go_upto_region 5 with fail
        refine wp_region_lit ?_
        refine wpList_load_mid rfl 36 _ rfl b 0 rfl As _ HX.out.rng Try.underlying36 rfl (by rw [size20r, HAL.out]) ?_
        have q6 : w2.cell? ⟨b, 6, none⟩ = some (.int .i64 (c.z 6)) := (HX.out.at_ 6 _ (HCE.out 6 (by decide)))
        have q7 : w2.cell? ⟨b, 7, none⟩ = some (.int .i64 (c.z 7)) := (HX.out.at_ 7 _ (HCE.out 7 (by decide)))
        go_wp2_with fail
        refine (CP.out _).mono ?_
        rintro e w3 ⟨rfl, hb2⟩
        have HX2 := Lib.hid (HX.out.call hb2)
        clear hb2 HX
        have HX := HX2
        clear HX2
        clear q6 q7
        go_upto_region 8 with (go_at_call 12; refine (Up20_any _ _ _).mono ?_; rintro e wq ⟨rfl, rfl⟩)
        refine wp_region_lit ?_
        refine wpList_move20 rfl _ rfl ?_
        refine wpList_load_mid rfl 36 _ rfl b 0 rfl As _ HX.out.rng Try.underlying36 rfl (by rw [size20r, HAL.out]) ?_
        go_wp2_with fail
        refine (CA.out _).mono ?_
        rintro e w4 ⟨rfl, hb2⟩
        have HX2 := Lib.hid (HX.out.call hb2)
        clear hb2 HX
        have HX := HX2
        clear HX2
        go_wp2_with (go_at_call 12; refine (Up20_any _ _ _).mono ?_; rintro e wq ⟨rfl, rfl⟩)
        go_ret
        exact ⟨by first | rfl | (rw [Int.max_assoc]; rfl), hb ▸ HX.out.bel⟩
      · simp only [if_true]
        go_enter Try.func23, Try.ntmps23
        go_upto_region 1 with fail
        obtain ⟨W1, hW⟩ : ∃ W, w.alloc (.cells As.toArray 36) = W := ⟨_, rfl⟩
        rw [hW] at hx ⊢
        clear hW
        obtain ⟨b, hb⟩ : ∃ b, w.heap.size = b := ⟨_, rfl⟩
        rw [hb] at hx ⊢
        have HX := Lib.hid hx
        clear hx
        go_wp2_with fail
        refine (CH.out _).mono ?_
        rintro e wq ⟨rfl, rfl⟩
        go_upto_region 2 with fail
        refine wp_region_lit ?_
        refine wpList_load_mid rfl 36 _ rfl b 0 rfl As _ HX.out.rng Try.underlying36 rfl (by rw [size20r, HAL.out]) ?_
        have q10 : W1.cell? ⟨b, 10, none⟩ = some (.int .i64 (c.z 10)) := (HX.out.at_ 10 _ (HCE.out 10 (by decide)))
        have q11 : W1.cell? ⟨b, 11, none⟩ = some (.int .i64 (c.z 11)) := (HX.out.at_ 11 _ (HCE.out 11 (by decide)))
        go_wp2_with fail
        refine (CO.out _).mono ?_
        rintro e w2 ⟨rfl, hb2⟩
        have HX2 := Lib.hid (HX.out.call hb2)
        clear hb2 HX
        have HX := HX2
        clear HX2
        clear q10 q11
        go_upto_region 5 with fail
        refine wp_region_lit ?_
        refine wpList_load_mid rfl 36 _ rfl b 0 rfl As _ HX.out.rng Try.underlying36 rfl (by rw [size20r, HAL.out]) ?_
        have q6 : w2.cell? ⟨b, 6, none⟩ = some (.int .i64 (c.z 6)) := (HX.out.at_ 6 _ (HCE.out 6 (by decide)))
        have q7 : w2.cell? ⟨b, 7, none⟩ = some (.int .i64 (c.z 7)) := (HX.out.at_ 7 _ (HCE.out 7 (by decide)))
        go_wp2_with fail
        refine (CP.out _).mono ?_
        rintro e w3 ⟨rfl, hb2⟩
        have HX2 := Lib.hid (HX.out.call hb2)
        clear hb2 HX
        have HX := HX2
        clear HX2
        clear q6 q7
        go_upto_region 8 with (go_at_call 12; refine (Up20_any _ _ _).mono ?_; rintro e wq ⟨rfl, rfl⟩)
        refine wp_region_lit ?_
        refine wpList_move20 rfl _ rfl ?_
        refine wpList_load_mid rfl 36 _ rfl b 0 rfl As _ HX.out.rng Try.underlying36 rfl (by rw [size20r, HAL.out]) ?_
        go_wp2_with fail
        refine (CA.out _).mono ?_
        rintro e w4 ⟨rfl, hb2⟩
        have HX2 := Lib.hid (HX.out.call hb2)
        clear hb2 HX
        have HX := HX2
        clear HX2
        go_wp2_with (go_at_call 12; refine (Up20_any _ _ _).mono ?_; rintro e wq ⟨rfl, rfl⟩)
        go_ret
        exact ⟨by first | rfl | (rw [Int.max_assoc]; rfl), hb ▸ HX.out.bel⟩
set_option maxRecDepth 100000 in
set_option maxHeartbeats 2000000 in
theorem KeepH20_any (c : Cz) (n : Int) (w : World) : Calls Try.prog 24 #[.agg (caseL c).toArray, .int .i64 n] w fun e w' => e = .returned (.int .i64 (c.keepH n)) ∧ Below w.heap.size w w' := by
  have HAL := Lib.hid (caseL_len c)
  have HCE := Lib.hid (fun i h => caseL_at c i h)
  have hx := Bx.new w (caseL c) 36
  have CA := Lib.hid (fun W => Down20_any c W)
  have CS := Lib.hid (fun k n W => SaysH20_any c k n W)
  generalize caseL c = As at *
  have hal := HAL.out
  obtain ⟨o, ho⟩ : ∃ o, c.saysH (c.z 12) (c.z 13) = o := ⟨_, rfl⟩
  obtain ⟨p, hp⟩ : ∃ p, c.saysH (c.z 8) (c.z 9) = p := ⟨_, rfl⟩
  have hk : c.keepH n = max (betw n o p) c.y := by rw [← ho, ← hp]; rfl
  rw [hk]
  clear hk
  have CO := Lib.hid (fun W => CS.out (c.z 12) (c.z 13) W)
  have CP := Lib.hid (fun W => CS.out (c.z 8) (c.z 9) W)
  rw [ho] at CO
  rw [hp] at CP
  clear CS ho hp
  obtain ⟨y, hy⟩ : ∃ y, H n = y := ⟨_, rfl⟩
  rw [betw_cases, hy]
  have CH := Lib.hid (fun W => refHold_any n W)
  rw [hy] at CH
  clear hy
  obtain ⟨ov, hov⟩ : ∃ x, o.getD 0 = x := ⟨_, rfl⟩
  obtain ⟨ob, hob⟩ : ∃ x, o.isSome = x := ⟨_, rfl⟩
  obtain ⟨pv, hpv⟩ : ∃ x, p.getD 0 = x := ⟨_, rfl⟩
  obtain ⟨pb, hpb⟩ : ∃ x, p.isSome = x := ⟨_, rfl⟩
  rw [hov, hob] at CO ⊢
  rw [hpv, hpb] at CP ⊢
  clear hov hob hpv hpb
  cases ob
  · simp only [Bool.false_eq_true, false_and, if_false]
    cases pb
    · simp only [Bool.false_eq_true, if_false]
      go_enter Try.func24, Try.ntmps24
      go_upto_region 1 with fail
      obtain ⟨W1, hW⟩ : ∃ W, w.alloc (.cells As.toArray 36) = W := ⟨_, rfl⟩
      rw [hW] at hx ⊢
      clear hW
      obtain ⟨b, hb⟩ : ∃ b, w.heap.size = b := ⟨_, rfl⟩
      rw [hb] at hx ⊢
      have HX := Lib.hid hx
      clear hx
      go_wp2_with fail
      refine (CH.out _).mono ?_
      rintro e wq ⟨rfl, rfl⟩
      go_upto_region 2 with fail
      refine wp_region_lit ?_
      refine wpList_load_mid rfl 36 _ rfl b 0 rfl As _ HX.out.rng Try.underlying36 rfl (by rw [size20r, HAL.out]) ?_
      have q12 : W1.cell? ⟨b, 12, none⟩ = some (.int .i64 (c.z 12)) := (HX.out.at_ 12 _ (HCE.out 12 (by decide)))
      have q13 : W1.cell? ⟨b, 13, none⟩ = some (.int .i64 (c.z 13)) := (HX.out.at_ 13 _ (HCE.out 13 (by decide)))
      go_wp2_with fail
      refine (CO.out _).mono ?_
      rintro e w2 ⟨rfl, hb2⟩
      have HX2 := Lib.hid (HX.out.call hb2)
      clear hb2 HX
      have HX := HX2
      clear HX2
      clear q12 q13
      go_upto_region 5 with fail
      refine wp_region_lit ?_
      refine wpList_load_mid rfl 36 _ rfl b 0 rfl As _ HX.out.rng Try.underlying36 rfl (by rw [size20r, HAL.out]) ?_
      have q8 : w2.cell? ⟨b, 8, none⟩ = some (.int .i64 (c.z 8)) := (HX.out.at_ 8 _ (HCE.out 8 (by decide)))
      have q9 : w2.cell? ⟨b, 9, none⟩ = some (.int .i64 (c.z 9)) := (HX.out.at_ 9 _ (HCE.out 9 (by decide)))
      go_wp2_with fail
      refine (CP.out _).mono ?_
      rintro e w3 ⟨rfl, hb2⟩
      have HX2 := Lib.hid (HX.out.call hb2)
      clear hb2 HX
      have HX := HX2
      clear HX2
      clear q8 q9
      go_upto_region 8 with (go_at_call 12; refine (Up20_any _ _ _).mono ?_; rintro e wq ⟨rfl, rfl⟩)
      refine wp_region_lit ?_
      refine wpList_move20 rfl _ rfl ?_
      refine wpList_load_mid rfl 36 _ rfl b 0 rfl As _ HX.out.rng Try.underlying36 rfl (by rw [size20r, HAL.out]) ?_
      go_wp2_with fail
      refine (CA.out _).mono ?_
      rintro e w4 ⟨rfl, hb2⟩
      have HX2 := Lib.hid (HX.out.call hb2)
      clear hb2 HX
      have HX := HX2
      clear HX2
      go_wp2_with (go_at_call 12; refine (Up20_any _ _ _).mono ?_; rintro e wq ⟨rfl, rfl⟩)
      go_ret
      exact ⟨by first | rfl | (rw [Int.max_assoc]; rfl), hb ▸ HX.out.bel⟩
    · simp only [if_true]
      go_enter Try.func24, Try.ntmps24
      go_upto_region 1 with fail
      obtain ⟨W1, hW⟩ : ∃ W, w.alloc (.cells As.toArray 36) = W := ⟨_, rfl⟩
      rw [hW] at hx ⊢
      clear hW
      obtain ⟨b, hb⟩ : ∃ b, w.heap.size = b := ⟨_, rfl⟩
      rw [hb] at hx ⊢
      have HX := Lib.hid hx
      clear hx
      go_wp2_with fail
      refine (CH.out _).mono ?_
      rintro e wq ⟨rfl, rfl⟩
      go_upto_region 2 with fail
      refine wp_region_lit ?_
      refine wpList_load_mid rfl 36 _ rfl b 0 rfl As _ HX.out.rng Try.underlying36 rfl (by rw [size20r, HAL.out]) ?_
      have q12 : W1.cell? ⟨b, 12, none⟩ = some (.int .i64 (c.z 12)) := (HX.out.at_ 12 _ (HCE.out 12 (by decide)))
      have q13 : W1.cell? ⟨b, 13, none⟩ = some (.int .i64 (c.z 13)) := (HX.out.at_ 13 _ (HCE.out 13 (by decide)))
      go_wp2_with fail
      refine (CO.out _).mono ?_
      rintro e w2 ⟨rfl, hb2⟩
      have HX2 := Lib.hid (HX.out.call hb2)
      clear hb2 HX
      have HX := HX2
      clear HX2
      clear q12 q13
      go_upto_region 5 with fail
      refine wp_region_lit ?_
      refine wpList_load_mid rfl 36 _ rfl b 0 rfl As _ HX.out.rng Try.underlying36 rfl (by rw [size20r, HAL.out]) ?_
      have q8 : w2.cell? ⟨b, 8, none⟩ = some (.int .i64 (c.z 8)) := (HX.out.at_ 8 _ (HCE.out 8 (by decide)))
      have q9 : w2.cell? ⟨b, 9, none⟩ = some (.int .i64 (c.z 9)) := (HX.out.at_ 9 _ (HCE.out 9 (by decide)))
      go_wp2_with fail
      refine (CP.out _).mono ?_
      rintro e w3 ⟨rfl, hb2⟩
      have HX2 := Lib.hid (HX.out.call hb2)
      clear hb2 HX
      have HX := HX2
      clear HX2
      clear q8 q9
      go_upto_region 8 with (go_at_call 12; refine (Up20_any _ _ _).mono ?_; rintro e wq ⟨rfl, rfl⟩)
      refine wp_region_lit ?_
      refine wpList_move20 rfl _ rfl ?_
      refine wpList_load_mid rfl 36 _ rfl b 0 rfl As _ HX.out.rng Try.underlying36 rfl (by rw [size20r, HAL.out]) ?_
      go_wp2_with fail
      refine (CA.out _).mono ?_
      rintro e w4 ⟨rfl, hb2⟩
      have HX2 := Lib.hid (HX.out.call hb2)
      clear hb2 HX
      have HX := HX2
      clear HX2
      go_wp2_with (go_at_call 12; refine (Up20_any _ _ _).mono ?_; rintro e wq ⟨rfl, rfl⟩)
      go_ret
      exact ⟨by first | rfl | (rw [Int.max_assoc]; rfl), hb ▸ HX.out.bel⟩
  · simp only [true_and]
    by_cases hlt : ov < y
    · rw [if_pos hlt]
      cases pb
      · simp only [Bool.false_eq_true, if_false]
        go_enter Try.func24, Try.ntmps24
        go_upto_region 1 with fail
        obtain ⟨W1, hW⟩ : ∃ W, w.alloc (.cells As.toArray 36) = W := ⟨_, rfl⟩
        rw [hW] at hx ⊢
        clear hW
        obtain ⟨b, hb⟩ : ∃ b, w.heap.size = b := ⟨_, rfl⟩
        rw [hb] at hx ⊢
        have HX := Lib.hid hx
        clear hx
        go_wp2_with fail
        refine (CH.out _).mono ?_
        rintro e wq ⟨rfl, rfl⟩
        go_upto_region 2 with fail
        refine wp_region_lit ?_
        refine wpList_load_mid rfl 36 _ rfl b 0 rfl As _ HX.out.rng Try.underlying36 rfl (by rw [size20r, HAL.out]) ?_
        have q12 : W1.cell? ⟨b, 12, none⟩ = some (.int .i64 (c.z 12)) := (HX.out.at_ 12 _ (HCE.out 12 (by decide)))
        have q13 : W1.cell? ⟨b, 13, none⟩ = some (.int .i64 (c.z 13)) := (HX.out.at_ 13 _ (HCE.out 13 (by decide)))
        go_wp2_with fail
        refine (CO.out _).mono ?_
        rintro e w2 ⟨rfl, hb2⟩
        have HX2 := Lib.hid (HX.out.call hb2)
        clear hb2 HX
        have HX := HX2
        clear HX2
        clear q12 q13
        go_upto_region 5 with fail
        refine wp_region_lit ?_
        refine wpList_load_mid rfl 36 _ rfl b 0 rfl As _ HX.out.rng Try.underlying36 rfl (by rw [size20r, HAL.out]) ?_
        have q8 : w2.cell? ⟨b, 8, none⟩ = some (.int .i64 (c.z 8)) := (HX.out.at_ 8 _ (HCE.out 8 (by decide)))
        have q9 : w2.cell? ⟨b, 9, none⟩ = some (.int .i64 (c.z 9)) := (HX.out.at_ 9 _ (HCE.out 9 (by decide)))
        go_wp2_with fail
        refine (CP.out _).mono ?_
        rintro e w3 ⟨rfl, hb2⟩
        have HX2 := Lib.hid (HX.out.call hb2)
        clear hb2 HX
        have HX := HX2
        clear HX2
        clear q8 q9
        go_upto_region 8 with (go_at_call 12; refine (Up20_any _ _ _).mono ?_; rintro e wq ⟨rfl, rfl⟩)
        refine wp_region_lit ?_
        refine wpList_move20 rfl _ rfl ?_
        refine wpList_load_mid rfl 36 _ rfl b 0 rfl As _ HX.out.rng Try.underlying36 rfl (by rw [size20r, HAL.out]) ?_
        go_wp2_with fail
        refine (CA.out _).mono ?_
        rintro e w4 ⟨rfl, hb2⟩
        have HX2 := Lib.hid (HX.out.call hb2)
        clear hb2 HX
        have HX := HX2
        clear HX2
        go_wp2_with (go_at_call 12; refine (Up20_any _ _ _).mono ?_; rintro e wq ⟨rfl, rfl⟩)
        go_ret
        exact ⟨by first | rfl | (rw [Int.max_assoc]; rfl), hb ▸ HX.out.bel⟩
      · simp only [if_true]
        go_enter Try.func24, Try.ntmps24
        go_upto_region 1 with fail
        obtain ⟨W1, hW⟩ : ∃ W, w.alloc (.cells As.toArray 36) = W := ⟨_, rfl⟩
        rw [hW] at hx ⊢
        clear hW
        obtain ⟨b, hb⟩ : ∃ b, w.heap.size = b := ⟨_, rfl⟩
        rw [hb] at hx ⊢
        have HX := Lib.hid hx
        clear hx
        go_wp2_with fail
        refine (CH.out _).mono ?_
        rintro e wq ⟨rfl, rfl⟩
        go_upto_region 2 with fail
        refine wp_region_lit ?_
        refine wpList_load_mid rfl 36 _ rfl b 0 rfl As _ HX.out.rng Try.underlying36 rfl (by rw [size20r, HAL.out]) ?_
        have q12 : W1.cell? ⟨b, 12, none⟩ = some (.int .i64 (c.z 12)) := (HX.out.at_ 12 _ (HCE.out 12 (by decide)))
        have q13 : W1.cell? ⟨b, 13, none⟩ = some (.int .i64 (c.z 13)) := (HX.out.at_ 13 _ (HCE.out 13 (by decide)))
        go_wp2_with fail
        refine (CO.out _).mono ?_
        rintro e w2 ⟨rfl, hb2⟩
        have HX2 := Lib.hid (HX.out.call hb2)
        clear hb2 HX
        have HX := HX2
        clear HX2
        clear q12 q13
        go_upto_region 5 with fail
        refine wp_region_lit ?_
        refine wpList_load_mid rfl 36 _ rfl b 0 rfl As _ HX.out.rng Try.underlying36 rfl (by rw [size20r, HAL.out]) ?_
        have q8 : w2.cell? ⟨b, 8, none⟩ = some (.int .i64 (c.z 8)) := (HX.out.at_ 8 _ (HCE.out 8 (by decide)))
        have q9 : w2.cell? ⟨b, 9, none⟩ = some (.int .i64 (c.z 9)) := (HX.out.at_ 9 _ (HCE.out 9 (by decide)))
        go_wp2_with fail
        refine (CP.out _).mono ?_
        rintro e w3 ⟨rfl, hb2⟩
        have HX2 := Lib.hid (HX.out.call hb2)
        clear hb2 HX
        have HX := HX2
        clear HX2
        clear q8 q9
        go_upto_region 8 with (go_at_call 12; refine (Up20_any _ _ _).mono ?_; rintro e wq ⟨rfl, rfl⟩)
        refine wp_region_lit ?_
        refine wpList_move20 rfl _ rfl ?_
        refine wpList_load_mid rfl 36 _ rfl b 0 rfl As _ HX.out.rng Try.underlying36 rfl (by rw [size20r, HAL.out]) ?_
        go_wp2_with fail
        refine (CA.out _).mono ?_
        rintro e w4 ⟨rfl, hb2⟩
        have HX2 := Lib.hid (HX.out.call hb2)
        clear hb2 HX
        have HX := HX2
        clear HX2
        go_wp2_with (go_at_call 12; refine (Up20_any _ _ _).mono ?_; rintro e wq ⟨rfl, rfl⟩)
        go_ret
        exact ⟨by first | rfl | (rw [Int.max_assoc]; rfl), hb ▸ HX.out.bel⟩
    · rw [if_neg hlt]
      cases pb
      · simp only [Bool.false_eq_true, if_false]
        go_enter Try.func24, Try.ntmps24
        go_upto_region 1 with fail
        obtain ⟨W1, hW⟩ : ∃ W, w.alloc (.cells As.toArray 36) = W := ⟨_, rfl⟩
        rw [hW] at hx ⊢
        clear hW
        obtain ⟨b, hb⟩ : ∃ b, w.heap.size = b := ⟨_, rfl⟩
        rw [hb] at hx ⊢
        have HX := Lib.hid hx
        clear hx
        go_wp2_with fail
        refine (CH.out _).mono ?_
        rintro e wq ⟨rfl, rfl⟩
        go_upto_region 2 with fail
        refine wp_region_lit ?_
        refine wpList_load_mid rfl 36 _ rfl b 0 rfl As _ HX.out.rng Try.underlying36 rfl (by rw [size20r, HAL.out]) ?_
        have q12 : W1.cell? ⟨b, 12, none⟩ = some (.int .i64 (c.z 12)) := (HX.out.at_ 12 _ (HCE.out 12 (by decide)))
        have q13 : W1.cell? ⟨b, 13, none⟩ = some (.int .i64 (c.z 13)) := (HX.out.at_ 13 _ (HCE.out 13 (by decide)))
        go_wp2_with fail
        refine (CO.out _).mono ?_
        rintro e w2 ⟨rfl, hb2⟩
        have HX2 := Lib.hid (HX.out.call hb2)
        clear hb2 HX
        have HX := HX2
        clear HX2
        clear q12 q13
        go_upto_region 5 with fail
        refine wp_region_lit ?_
        refine wpList_load_mid rfl 36 _ rfl b 0 rfl As _ HX.out.rng Try.underlying36 rfl (by rw [size20r, HAL.out]) ?_
        have q8 : w2.cell? ⟨b, 8, none⟩ = some (.int .i64 (c.z 8)) := (HX.out.at_ 8 _ (HCE.out 8 (by decide)))
        have q9 : w2.cell? ⟨b, 9, none⟩ = some (.int .i64 (c.z 9)) := (HX.out.at_ 9 _ (HCE.out 9 (by decide)))
        go_wp2_with fail
        refine (CP.out _).mono ?_
        rintro e w3 ⟨rfl, hb2⟩
        have HX2 := Lib.hid (HX.out.call hb2)
        clear hb2 HX
        have HX := HX2
        clear HX2
        clear q8 q9
        go_upto_region 8 with (go_at_call 12; refine (Up20_any _ _ _).mono ?_; rintro e wq ⟨rfl, rfl⟩)
        refine wp_region_lit ?_
        refine wpList_move20 rfl _ rfl ?_
        refine wpList_load_mid rfl 36 _ rfl b 0 rfl As _ HX.out.rng Try.underlying36 rfl (by rw [size20r, HAL.out]) ?_
        go_wp2_with fail
        refine (CA.out _).mono ?_
        rintro e w4 ⟨rfl, hb2⟩
        have HX2 := Lib.hid (HX.out.call hb2)
        clear hb2 HX
        have HX := HX2
        clear HX2
        go_wp2_with (go_at_call 12; refine (Up20_any _ _ _).mono ?_; rintro e wq ⟨rfl, rfl⟩)
        go_ret
        exact ⟨by first | rfl | (rw [Int.max_assoc]; rfl), hb ▸ HX.out.bel⟩
      · simp only [if_true]
        go_enter Try.func24, Try.ntmps24
        go_upto_region 1 with fail
        obtain ⟨W1, hW⟩ : ∃ W, w.alloc (.cells As.toArray 36) = W := ⟨_, rfl⟩
        rw [hW] at hx ⊢
        clear hW
        obtain ⟨b, hb⟩ : ∃ b, w.heap.size = b := ⟨_, rfl⟩
        rw [hb] at hx ⊢
        have HX := Lib.hid hx
        clear hx
        go_wp2_with fail
        refine (CH.out _).mono ?_
        rintro e wq ⟨rfl, rfl⟩
        go_upto_region 2 with fail
        refine wp_region_lit ?_
        refine wpList_load_mid rfl 36 _ rfl b 0 rfl As _ HX.out.rng Try.underlying36 rfl (by rw [size20r, HAL.out]) ?_
        have q12 : W1.cell? ⟨b, 12, none⟩ = some (.int .i64 (c.z 12)) := (HX.out.at_ 12 _ (HCE.out 12 (by decide)))
        have q13 : W1.cell? ⟨b, 13, none⟩ = some (.int .i64 (c.z 13)) := (HX.out.at_ 13 _ (HCE.out 13 (by decide)))
        go_wp2_with fail
        refine (CO.out _).mono ?_
        rintro e w2 ⟨rfl, hb2⟩
        have HX2 := Lib.hid (HX.out.call hb2)
        clear hb2 HX
        have HX := HX2
        clear HX2
        clear q12 q13
        go_upto_region 5 with fail
        refine wp_region_lit ?_
        refine wpList_load_mid rfl 36 _ rfl b 0 rfl As _ HX.out.rng Try.underlying36 rfl (by rw [size20r, HAL.out]) ?_
        have q8 : w2.cell? ⟨b, 8, none⟩ = some (.int .i64 (c.z 8)) := (HX.out.at_ 8 _ (HCE.out 8 (by decide)))
        have q9 : w2.cell? ⟨b, 9, none⟩ = some (.int .i64 (c.z 9)) := (HX.out.at_ 9 _ (HCE.out 9 (by decide)))
        go_wp2_with fail
        refine (CP.out _).mono ?_
        rintro e w3 ⟨rfl, hb2⟩
        have HX2 := Lib.hid (HX.out.call hb2)
        clear hb2 HX
        have HX := HX2
        clear HX2
        clear q8 q9
        go_upto_region 8 with (go_at_call 12; refine (Up20_any _ _ _).mono ?_; rintro e wq ⟨rfl, rfl⟩)
        refine wp_region_lit ?_
        refine wpList_move20 rfl _ rfl ?_
        refine wpList_load_mid rfl 36 _ rfl b 0 rfl As _ HX.out.rng Try.underlying36 rfl (by rw [size20r, HAL.out]) ?_
        go_wp2_with fail
        refine (CA.out _).mono ?_
        rintro e w4 ⟨rfl, hb2⟩
        have HX2 := Lib.hid (HX.out.call hb2)
        clear hb2 HX
        have HX := HX2
        clear HX2
        go_wp2_with (go_at_call 12; refine (Up20_any _ _ _).mono ?_; rintro e wq ⟨rfl, rfl⟩)
        go_ret
        exact ⟨by first | rfl | (rw [Int.max_assoc]; rfl), hb ▸ HX.out.bel⟩
set_option maxRecDepth 100000 in
set_option maxHeartbeats 2000000 in
theorem Given20_any (c : Cz) (w : World) : Calls Try.prog 22 #[.agg (caseL c).toArray] w fun e w' => e = .returned (.tuple #[.int .i64 (c.given.getD 0), .bool c.given.isSome]) ∧ Below w.heap.size w w' := by
  have HAL := Lib.hid (caseL_len c)
  have HCE := Lib.hid (fun i h => caseL_at c i h)
  have hx := Bx.new w (caseL c) 36
  have CT := Lib.hid (fun k n W => SaysH20_any c k n W)
  have CK := Lib.hid (fun n W => KeepH20_any c n W)
  generalize caseL c = As at *
  have hal := HAL.out
  unfold Cz.given
  have CS := Lib.hid (fun W => CT.out (c.z 4) (c.z 5) W)
  clear CT
  cases ho : c.saysH (c.z 4) (c.z 5) with
  | none =>
    rw [ho] at CS
    simp only [Option.map_none, Option.getD_none, Option.isSome_none] at CS ⊢
    go_enter Try.func22, Try.ntmps22
    go_upto_region 1 with fail
    obtain ⟨W1, hW⟩ : ∃ W, w.alloc (.cells As.toArray 36) = W := ⟨_, rfl⟩
    rw [hW] at hx ⊢
    clear hW
    obtain ⟨b, hb⟩ : ∃ b, w.heap.size = b := ⟨_, rfl⟩
    rw [hb] at hx ⊢
    have HX := Lib.hid hx
    clear hx
    refine wp_region_lit ?_
    refine wpList_load_mid rfl 36 _ rfl b 0 rfl As _ HX.out.rng Try.underlying36 rfl (by rw [size20r, HAL.out]) ?_
    have q4 : W1.cell? ⟨b, 4, none⟩ = some (.int .i64 (c.z 4)) := (HX.out.at_ 4 _ (HCE.out 4 (by decide)))
    have q5 : W1.cell? ⟨b, 5, none⟩ = some (.int .i64 (c.z 5)) := (HX.out.at_ 5 _ (HCE.out 5 (by decide)))
    go_wp2_with fail
    refine (CS.out _).mono ?_
    rintro e w2 ⟨rfl, hb2⟩
    have HX2 := Lib.hid (HX.out.call hb2)
    clear hb2 HX
    have HX := HX2
    clear HX2
    clear q4 q5
    go_wp2_with fail
    exact bodyPost_ret (results_tmp2 rfl _ _ _) rfl ⟨rfl, hb ▸ HX.out.bel⟩
  | some h =>
    rw [ho] at CS
    simp only [Option.map_some, Option.getD_some, Option.isSome_some] at CS ⊢
    go_enter Try.func22, Try.ntmps22
    go_upto_region 1 with fail
    obtain ⟨W1, hW⟩ : ∃ W, w.alloc (.cells As.toArray 36) = W := ⟨_, rfl⟩
    rw [hW] at hx ⊢
    clear hW
    obtain ⟨b, hb⟩ : ∃ b, w.heap.size = b := ⟨_, rfl⟩
    rw [hb] at hx ⊢
    have HX := Lib.hid hx
    clear hx
    refine wp_region_lit ?_
    refine wpList_load_mid rfl 36 _ rfl b 0 rfl As _ HX.out.rng Try.underlying36 rfl (by rw [size20r, HAL.out]) ?_
    have q4 : W1.cell? ⟨b, 4, none⟩ = some (.int .i64 (c.z 4)) := (HX.out.at_ 4 _ (HCE.out 4 (by decide)))
    have q5 : W1.cell? ⟨b, 5, none⟩ = some (.int .i64 (c.z 5)) := (HX.out.at_ 5 _ (HCE.out 5 (by decide)))
    go_wp2_with fail
    refine (CS.out _).mono ?_
    rintro e w2 ⟨rfl, hb2⟩
    have HX2 := Lib.hid (HX.out.call hb2)
    clear hb2 HX
    have HX := HX2
    clear HX2
    clear q4 q5
    go_upto_region 4 with fail
    refine wp_region_lit ?_
    refine wpList_load_mid rfl 36 _ rfl b 0 rfl As _ HX.out.rng Try.underlying36 rfl (by rw [size20r, HAL.out]) ?_
    go_wp2_with fail
    refine (CK.out h _).mono ?_
    rintro e w3 ⟨rfl, hb2⟩
    have HX2 := Lib.hid (HX.out.call hb2)
    clear hb2 HX
    have HX := HX2
    clear HX2
    go_wp2_with fail
    exact bodyPost_ret (results_tmp2 rfl _ _ _) rfl ⟨rfl, hb ▸ HX.out.bel⟩
set_option maxRecDepth 100000 in
set_option maxHeartbeats 2000000 in
theorem High20_some (c : Cz) (n k h : Int) (hg : c.given = some h) (w : World) : Calls Try.prog 30 #[.agg (caseL c).toArray, .int .i64 n, .int .i64 k] w fun e w' => e = .returned (.int .i64 h) ∧ Below w.heap.size w w' := by
  have HAL := Lib.hid (caseL_len c)
  have HCE := Lib.hid (fun i h => caseL_at c i h)
  have hx := Bx.new w (caseL c) 36
  have CG := Lib.hid (fun W => Given20_any c W)
  generalize caseL c = As at *
  have hal := HAL.out
  rw [hg] at CG
  simp only [Option.getD_some, Option.isSome_some] at CG
  go_enter Try.func30, Try.ntmps30
  go_upto_region 1 with fail
  obtain ⟨W1, hW⟩ : ∃ W, w.alloc (.cells As.toArray 36) = W := ⟨_, rfl⟩
  rw [hW] at hx ⊢
  clear hW
  obtain ⟨b, hb⟩ : ∃ b, w.heap.size = b := ⟨_, rfl⟩
  rw [hb] at hx ⊢
  have HX := Lib.hid hx
  clear hx
  refine wp_region_lit ?_
  refine wpList_load_mid rfl 36 _ rfl b 0 rfl As _ HX.out.rng Try.underlying36 rfl (by rw [size20r, HAL.out]) ?_
  go_wp2_with fail
  refine (CG.out _).mono ?_
  rintro e w2 ⟨rfl, hb2⟩
  have HX2 := Lib.hid (HX.out.call hb2)
  clear hb2 HX
  have HX := HX2
  clear HX2
  go_wp2_with fail
  go_ret
  exact ⟨rfl, hb ▸ HX.out.bel⟩
set_option maxRecDepth 100000 in
set_option maxHeartbeats 2000000 in
theorem High20_rated (c : Cz) (n k : Int) (hg : c.given = none) (hr : c.rated = true) (w : World) : Calls Try.prog 30 #[.agg (caseL c).toArray, .int .i64 n, .int .i64 k] w fun e w' => e = .returned (.int .i64 (c.keepH (boxZ c.b (PT (sizZ c.b n c.x) (c.z 35) (c.z 34)) c.y))) ∧ Below w.heap.size w w' := by
  have HAL := Lib.hid (caseL_len c)
  have HCE := Lib.hid (fun i h => caseL_at c i h)
  have hx := Bx.new w (caseL c) 36
  have CG := Lib.hid (fun W => Given20_any c W)
  have CR := Lib.hid (fun W => Rated20_any c W)
  have CX := Lib.hid (fun W => Across20_any c W)
  have CY := Lib.hid (fun W => Down20_any c W)
  have CB := Lib.hid (fun n e W => Box20_any c n e W)
  have CZ := Lib.hid (fun n e W => Size20_any c n e W)
  have CK := Lib.hid (fun n W => KeepH20_any c n W)
  generalize caseL c = As at *
  have hal := HAL.out
  rw [hr] at CR
  rw [hg] at CG
  simp only [Option.getD_none, Option.isSome_none] at CG
  go_enter Try.func30, Try.ntmps30
  go_upto_region 1 with fail
  obtain ⟨W1, hW⟩ : ∃ W, w.alloc (.cells As.toArray 36) = W := ⟨_, rfl⟩
  rw [hW] at hx ⊢
  clear hW
  obtain ⟨b, hb⟩ : ∃ b, w.heap.size = b := ⟨_, rfl⟩
  rw [hb] at hx ⊢
  have HX := Lib.hid hx
  clear hx
  refine wp_region_lit ?_
  refine wpList_load_mid rfl 36 _ rfl b 0 rfl As _ HX.out.rng Try.underlying36 rfl (by rw [size20r, HAL.out]) ?_
  go_wp2_with fail
  refine (CG.out _).mono ?_
  rintro e w2 ⟨rfl, hb2⟩
  have HX2 := Lib.hid (HX.out.call hb2)
  clear hb2 HX
  have HX := HX2
  clear HX2
  go_upto_region 4 with fail
  refine wp_region_lit ?_
  refine wpList_load_mid rfl 36 _ rfl b 0 rfl As _ HX.out.rng Try.underlying36 rfl (by rw [size20r, HAL.out]) ?_
  go_wp2_with fail
  refine (CR.out _).mono ?_
  rintro e w3 ⟨rfl, hb2⟩
  have HX2 := Lib.hid (HX.out.call hb2)
  clear hb2 HX
  have HX := HX2
  clear HX2
  go_upto_region 5 with fail
  have hS : Below w3.heap.size w3 w3.drew := (Below.refl _ _).drew
  refine wp_region_held_drew (S := fun w' => Below w3.heap.size w3 w') (by kernel_rfl) hS (fun hS => ?_)
  refine wpAnyH_take (i := 0) (v := .agg As.toArray) rfl (by kernel_rfl) (by kernel_rfl) (by kernel_rfl) (fun _ _ _ h => h) (yieldsIf_load_mid (by kernel_rfl) _ _ rfl b 0 (by kernel_rfl) As _ (fun w h => rangeS_below HX.out.rng h HX.out.lt) Try.underlying36 rfl (by rw [size20r, HAL.out])) hS ?_
  simp only [Act.put]
  try simp only [List.getElem_toArray]
  try simp only [List.getElem_cons_succ]
  try simp only [List.getElem_cons_zero]
  try simp only [List.setIfInBounds_toArray]
  try simp only [List.set_cons_succ]
  try simp only [List.set_cons_zero]
  refine wpAnyH_take (i := 1) (v := .agg As.toArray) rfl (by kernel_rfl) (by kernel_rfl) (by kernel_rfl) (fun _ _ _ h => h) (yieldsIf_load_mid (by kernel_rfl) _ _ rfl b 0 (by kernel_rfl) As _ (fun w h => rangeS_below HX.out.rng h HX.out.lt) Try.underlying36 rfl (by rw [size20r, HAL.out])) hS ?_
  simp only [Act.put]
  try simp only [List.getElem_toArray]
  try simp only [List.getElem_cons_succ]
  try simp only [List.getElem_cons_zero]
  try simp only [List.setIfInBounds_toArray]
  try simp only [List.set_cons_succ]
  try simp only [List.set_cons_zero]
  refine wpAnyH_take (i := 2) (v := .agg As.toArray) rfl (by kernel_rfl) (by kernel_rfl) (by kernel_rfl) (fun _ _ _ h => h) (yieldsIf_load_mid (by kernel_rfl) _ _ rfl b 0 (by kernel_rfl) As _ (fun w h => rangeS_below HX.out.rng h HX.out.lt) Try.underlying36 rfl (by rw [size20r, HAL.out])) hS ?_
  simp only [Act.put]
  try simp only [List.getElem_toArray]
  try simp only [List.getElem_cons_succ]
  try simp only [List.getElem_cons_zero]
  try simp only [List.setIfInBounds_toArray]
  try simp only [List.set_cons_succ]
  try simp only [List.set_cons_zero]
  refine wpAnyH_take (i := 3) (v := .int .i64 n) rfl (by kernel_rfl) (by kernel_rfl) (by kernel_rfl) (fun _ _ _ h => h) (Or.inl ⟨by kernel_rfl, fun w _ => by kernel_rfl⟩) hS ?_
  simp only [Act.put]
  try simp only [List.getElem_toArray]
  try simp only [List.getElem_cons_succ]
  try simp only [List.getElem_cons_zero]
  try simp only [List.setIfInBounds_toArray]
  try simp only [List.set_cons_succ]
  try simp only [List.set_cons_zero]
  refine wpAnyH_take (i := 4) (v := .agg As.toArray) rfl (by kernel_rfl) (by kernel_rfl) (by kernel_rfl) (fun _ _ _ h => h) (yieldsIf_load_mid (by kernel_rfl) _ _ rfl b 0 (by kernel_rfl) As _ (fun w h => rangeS_below HX.out.rng h HX.out.lt) Try.underlying36 rfl (by rw [size20r, HAL.out])) hS ?_
  simp only [Act.put]
  try simp only [List.getElem_toArray]
  try simp only [List.getElem_cons_succ]
  try simp only [List.getElem_cons_zero]
  try simp only [List.setIfInBounds_toArray]
  try simp only [List.set_cons_succ]
  try simp only [List.set_cons_zero]
  refine wpAnyH_take (i := 7) (v := .pointer (some ⟨b, 0, none⟩)) rfl (by kernel_rfl) (by kernel_rfl) (by kernel_rfl) (fun _ _ _ h => h) (Or.inl ⟨by kernel_rfl, fun w _ => by kernel_rfl⟩) hS ?_
  simp only [Act.put]
  try simp only [List.getElem_toArray]
  try simp only [List.getElem_cons_succ]
  try simp only [List.getElem_cons_zero]
  try simp only [List.setIfInBounds_toArray]
  try simp only [List.set_cons_succ]
  try simp only [List.set_cons_zero]
  refine wpAnyH_take (i := 8) (v := .pointer (some ⟨b, 35, none⟩)) rfl (by kernel_rfl) (by kernel_rfl) (by kernel_rfl) (fun _ _ _ h => h) (Or.inl ⟨by kernel_rfl, fun w _ => by kernel_rfl⟩) hS ?_
  simp only [Act.put]
  try simp only [List.getElem_toArray]
  try simp only [List.getElem_cons_succ]
  try simp only [List.getElem_cons_zero]
  try simp only [List.setIfInBounds_toArray]
  try simp only [List.set_cons_succ]
  try simp only [List.set_cons_zero]
  refine wpAnyH_take (i := 9) (v := .int .i64 (c.z 35)) rfl (by kernel_rfl) (by kernel_rfl) (by kernel_rfl) (fun _ _ _ h => h) (yieldsIf_load_one (by kernel_rfl) _ _ rfl b 35 (by kernel_rfl) _ (fun w h => (h.cell (p := ⟨b, 35, none⟩) HX.out.lt).trans (HX.out.at_ 35 _ (HCE.out 35 (by decide)))) (isAgg_int20)) hS ?_
  simp only [Act.put]
  try simp only [List.getElem_toArray]
  try simp only [List.getElem_cons_succ]
  try simp only [List.getElem_cons_zero]
  try simp only [List.setIfInBounds_toArray]
  try simp only [List.set_cons_succ]
  try simp only [List.set_cons_zero]
  refine wpAnyH_take (i := 10) (v := .pointer (some ⟨b, 0, none⟩)) rfl (by kernel_rfl) (by kernel_rfl) (by kernel_rfl) (fun _ _ _ h => h) (Or.inl ⟨by kernel_rfl, fun w _ => by kernel_rfl⟩) hS ?_
  simp only [Act.put]
  try simp only [List.getElem_toArray]
  try simp only [List.getElem_cons_succ]
  try simp only [List.getElem_cons_zero]
  try simp only [List.setIfInBounds_toArray]
  try simp only [List.set_cons_succ]
  try simp only [List.set_cons_zero]
  refine wpAnyH_take (i := 11) (v := .pointer (some ⟨b, 34, none⟩)) rfl (by kernel_rfl) (by kernel_rfl) (by kernel_rfl) (fun _ _ _ h => h) (Or.inl ⟨by kernel_rfl, fun w _ => by kernel_rfl⟩) hS ?_
  simp only [Act.put]
  try simp only [List.getElem_toArray]
  try simp only [List.getElem_cons_succ]
  try simp only [List.getElem_cons_zero]
  try simp only [List.setIfInBounds_toArray]
  try simp only [List.set_cons_succ]
  try simp only [List.set_cons_zero]
  refine wpAnyH_take (i := 12) (v := .int .i64 (c.z 34)) rfl (by kernel_rfl) (by kernel_rfl) (by kernel_rfl) (fun _ _ _ h => h) (yieldsIf_load_one (by kernel_rfl) _ _ rfl b 34 (by kernel_rfl) _ (fun w h => (h.cell (p := ⟨b, 34, none⟩) HX.out.lt).trans (HX.out.at_ 34 _ (HCE.out 34 (by decide)))) (isAgg_int20)) hS ?_
  simp only [Act.put]
  try simp only [List.getElem_toArray]
  try simp only [List.getElem_cons_succ]
  try simp only [List.getElem_cons_zero]
  try simp only [List.setIfInBounds_toArray]
  try simp only [List.set_cons_succ]
  try simp only [List.set_cons_zero]
  refine wpAnyH_take (i := 14) (v := .agg As.toArray) rfl (by kernel_rfl) (by kernel_rfl) (by kernel_rfl) (fun _ _ _ h => h) (yieldsIf_load_mid (by kernel_rfl) _ _ rfl b 0 (by kernel_rfl) As _ (fun w h => rangeS_below HX.out.rng h HX.out.lt) Try.underlying36 rfl (by rw [size20r, HAL.out])) hS ?_
  simp only [Act.put]
  try simp only [List.getElem_toArray]
  try simp only [List.getElem_cons_succ]
  try simp only [List.getElem_cons_zero]
  try simp only [List.setIfInBounds_toArray]
  try simp only [List.set_cons_succ]
  try simp only [List.set_cons_zero]
  refine wpAnyH_ready (rs := [5]) (by kernel_rfl) (by simp) ?_
  refine AllReadyH.cons rfl (fun K hK => ?_) AllReadyH.nil
  go_simp
  refine (CX.out _).mono ?_
  rintro e wq1 ⟨rfl, hb⟩
  have hT := hS.trans (hb.mono hS.size)
  clear hb hS
  dsimp only
  refine hK.out _ _ hT (fun hS => ?_)
  clear hK K hT
  refine wpAnyH_ready (rs := [6]) (by kernel_rfl) (by simp) ?_
  refine AllReadyH.cons rfl (fun K hK => ?_) AllReadyH.nil
  go_simp
  refine (CZ.out n c.x _).mono ?_
  rintro e wq2 ⟨rfl, hb⟩
  have hT := hS.trans (hb.mono hS.size)
  clear hb hS
  dsimp only
  refine hK.out _ _ hT (fun hS => ?_)
  clear hK K hT
  refine wpAnyH_ready (rs := [13]) (by kernel_rfl) (by simp) ?_
  refine AllReadyH.cons rfl (fun K hK => ?_) AllReadyH.nil
  go_simp
  refine (refPart_any _ _ _ _).mono ?_
  rintro e wq ⟨rfl, rfl⟩
  refine hK.out _ _ hS (fun hS => ?_)
  clear hK K
  refine wpAnyH_ready (rs := [15]) (by kernel_rfl) (by simp) ?_
  refine AllReadyH.cons rfl (fun K hK => ?_) AllReadyH.nil
  go_simp
  refine (CY.out _).mono ?_
  rintro e wq4 ⟨rfl, hb⟩
  have hT := hS.trans (hb.mono hS.size)
  clear hb hS
  dsimp only
  refine hK.out _ _ hT (fun hS => ?_)
  clear hK K hT
  refine wpAnyH_ready (rs := [16]) (by kernel_rfl) (by simp) ?_
  refine AllReadyH.cons rfl (fun K hK => ?_) AllReadyH.nil
  go_simp
  refine (CB.out (PT (sizZ c.b n c.x) (c.z 35) (c.z 34)) c.y _).mono ?_
  rintro e wq5 ⟨rfl, hb⟩
  have hT := hS.trans (hb.mono hS.size)
  clear hb hS
  dsimp only
  refine hK.out _ _ hT (fun hS => ?_)
  clear hK K hT
  refine wpAnyH_ready (rs := [17]) (by kernel_rfl) (by simp) ?_
  refine AllReadyH.cons rfl (fun K hK => ?_) AllReadyH.nil
  go_simp
  refine (CK.out (boxZ c.b (PT (sizZ c.b n c.x) (c.z 35) (c.z 34)) c.y) _).mono ?_
  rintro e wq6 ⟨rfl, hb⟩
  have hT := hS.trans (hb.mono hS.size)
  clear hb hS
  dsimp only
  refine hK.out _ _ hT (fun hS => ?_)
  clear hK K hT
  refine wpAnyH_take (i := 18) (v := .int .i64 (c.keepH (boxZ c.b (PT (sizZ c.b n c.x) (c.z 35) (c.z 34)) c.y))) rfl (by kernel_rfl) (by kernel_rfl) (by kernel_rfl) (fun _ _ _ h => h) (Or.inl ⟨by kernel_rfl, fun w _ => by kernel_rfl⟩) hS ?_
  simp only [Act.put]
  try simp only [List.getElem_toArray]
  try simp only [List.getElem_cons_succ]
  try simp only [List.getElem_cons_zero]
  try simp only [List.setIfInBounds_toArray]
  try simp only [List.set_cons_succ]
  try simp only [List.set_cons_zero]
  refine wpAnyH_done (by kernel_rfl) ?_ _
  have HE := Lib.hid (HX.out.bel.trans (hS.mono HX.out.bel.size))
  clear hS
  go_wp2_with fail
  go_ret
  exact ⟨rfl, hb ▸ HE.out⟩
set_option maxRecDepth 100000 in
set_option maxHeartbeats 2000000 in
theorem High20_plain (c : Cz) (n k : Int) (hg : c.given = none) (hr : c.rated = false) (w : World) : Calls Try.prog 30 #[.agg (caseL c).toArray, .int .i64 n, .int .i64 k] w fun e w' => e = .returned (.int .i64 (c.keepH (addZ (max k 0) c.y))) ∧ Below w.heap.size w w' := by
  have HAL := Lib.hid (caseL_len c)
  have HCE := Lib.hid (fun i h => caseL_at c i h)
  have hx := Bx.new w (caseL c) 36
  have CG := Lib.hid (fun W => Given20_any c W)
  have CR := Lib.hid (fun W => Rated20_any c W)
  have CX := Lib.hid (fun W => Across20_any c W)
  have CY := Lib.hid (fun W => Down20_any c W)
  have CB := Lib.hid (fun n e W => Box20_any c n e W)
  have CZ := Lib.hid (fun n e W => Size20_any c n e W)
  have CK := Lib.hid (fun n W => KeepH20_any c n W)
  generalize caseL c = As at *
  have hal := HAL.out
  rw [hr] at CR
  rw [hg] at CG
  simp only [Option.getD_none, Option.isSome_none] at CG
  go_enter Try.func30, Try.ntmps30
  go_upto_region 1 with fail
  obtain ⟨W1, hW⟩ : ∃ W, w.alloc (.cells As.toArray 36) = W := ⟨_, rfl⟩
  rw [hW] at hx ⊢
  clear hW
  obtain ⟨b, hb⟩ : ∃ b, w.heap.size = b := ⟨_, rfl⟩
  rw [hb] at hx ⊢
  have HX := Lib.hid hx
  clear hx
  refine wp_region_lit ?_
  refine wpList_load_mid rfl 36 _ rfl b 0 rfl As _ HX.out.rng Try.underlying36 rfl (by rw [size20r, HAL.out]) ?_
  go_wp2_with fail
  refine (CG.out _).mono ?_
  rintro e w2 ⟨rfl, hb2⟩
  have HX2 := Lib.hid (HX.out.call hb2)
  clear hb2 HX
  have HX := HX2
  clear HX2
  go_upto_region 4 with fail
  refine wp_region_lit ?_
  refine wpList_load_mid rfl 36 _ rfl b 0 rfl As _ HX.out.rng Try.underlying36 rfl (by rw [size20r, HAL.out]) ?_
  go_wp2_with fail
  refine (CR.out _).mono ?_
  rintro e w3 ⟨rfl, hb2⟩
  have HX2 := Lib.hid (HX.out.call hb2)
  clear hb2 HX
  have HX := HX2
  clear HX2
  go_upto_region 6 with fail
  have hS : Below w3.heap.size w3 w3.drew := (Below.refl _ _).drew
  refine wp_region_held_drew (S := fun w' => Below w3.heap.size w3 w') (by kernel_rfl) hS (fun hS => ?_)
  refine wpAnyH_take (i := 0) (v := .agg As.toArray) rfl (by kernel_rfl) (by kernel_rfl) (by kernel_rfl) (fun _ _ _ h => h) (yieldsIf_load_mid (by kernel_rfl) _ _ rfl b 0 (by kernel_rfl) As _ (fun w h => rangeS_below HX.out.rng h HX.out.lt) Try.underlying36 rfl (by rw [size20r, HAL.out])) hS ?_
  simp only [Act.put]
  try simp only [List.getElem_toArray]
  try simp only [List.getElem_cons_succ]
  try simp only [List.getElem_cons_zero]
  try simp only [List.setIfInBounds_toArray]
  try simp only [List.set_cons_succ]
  try simp only [List.set_cons_zero]
  refine wpAnyH_take (i := 1) (v := .int .i64 k) rfl (by kernel_rfl) (by kernel_rfl) (by kernel_rfl) (fun _ _ _ h => h) (Or.inl ⟨by kernel_rfl, fun w _ => by kernel_rfl⟩) hS ?_
  simp only [Act.put]
  try simp only [List.getElem_toArray]
  try simp only [List.getElem_cons_succ]
  try simp only [List.getElem_cons_zero]
  try simp only [List.setIfInBounds_toArray]
  try simp only [List.set_cons_succ]
  try simp only [List.set_cons_zero]
  refine wpAnyH_take (i := 3) (v := .agg As.toArray) rfl (by kernel_rfl) (by kernel_rfl) (by kernel_rfl) (fun _ _ _ h => h) (yieldsIf_load_mid (by kernel_rfl) _ _ rfl b 0 (by kernel_rfl) As _ (fun w h => rangeS_below HX.out.rng h HX.out.lt) Try.underlying36 rfl (by rw [size20r, HAL.out])) hS ?_
  simp only [Act.put]
  try simp only [List.getElem_toArray]
  try simp only [List.getElem_cons_succ]
  try simp only [List.getElem_cons_zero]
  try simp only [List.setIfInBounds_toArray]
  try simp only [List.set_cons_succ]
  try simp only [List.set_cons_zero]
  refine wpAnyH_ready (rs := [2]) (by kernel_rfl) (by simp) ?_
  refine AllReadyH.cons rfl (fun K hK => ?_) AllReadyH.nil
  go_simp
  refine (Up20_any _ _ _).mono ?_
  rintro e wq ⟨rfl, rfl⟩
  refine hK.out _ _ hS (fun hS => ?_)
  clear hK K
  refine wpAnyH_ready (rs := [4]) (by kernel_rfl) (by simp) ?_
  refine AllReadyH.cons rfl (fun K hK => ?_) AllReadyH.nil
  go_simp
  refine (CY.out _).mono ?_
  rintro e wq2 ⟨rfl, hb⟩
  have hT := hS.trans (hb.mono hS.size)
  clear hb hS
  dsimp only
  refine hK.out _ _ hT (fun hS => ?_)
  clear hK K hT
  refine wpAnyH_ready (rs := [5]) (by kernel_rfl) (by simp) ?_
  refine AllReadyH.cons rfl (fun K hK => ?_) AllReadyH.nil
  go_simp
  refine (Add20_any _ _ _).mono ?_
  rintro e wq ⟨rfl, rfl⟩
  refine hK.out _ _ hS (fun hS => ?_)
  clear hK K
  refine wpAnyH_ready (rs := [6]) (by kernel_rfl) (by simp) ?_
  refine AllReadyH.cons rfl (fun K hK => ?_) AllReadyH.nil
  go_simp
  refine (CK.out (addZ (max k 0) c.y) _).mono ?_
  rintro e wq4 ⟨rfl, hb⟩
  have hT := hS.trans (hb.mono hS.size)
  clear hb hS
  dsimp only
  refine hK.out _ _ hT (fun hS => ?_)
  clear hK K hT
  refine wpAnyH_take (i := 7) (v := .int .i64 (c.keepH (addZ (max k 0) c.y))) rfl (by kernel_rfl) (by kernel_rfl) (by kernel_rfl) (fun _ _ _ h => h) (Or.inl ⟨by kernel_rfl, fun w _ => by kernel_rfl⟩) hS ?_
  simp only [Act.put]
  try simp only [List.getElem_toArray]
  try simp only [List.getElem_cons_succ]
  try simp only [List.getElem_cons_zero]
  try simp only [List.setIfInBounds_toArray]
  try simp only [List.set_cons_succ]
  try simp only [List.set_cons_zero]
  refine wpAnyH_done (by kernel_rfl) ?_ _
  have HE := Lib.hid (HX.out.bel.trans (hS.mono HX.out.bel.size))
  clear hS
  go_wp2_with fail
  go_ret
  exact ⟨rfl, hb ▸ HE.out⟩
end Go.Proofs.Ythfabalnioggcaa
