/- Layer 10, the other text: what a property takes, whole. -/
import Derived.Test.YtbodmfbpmeapoaaGreatPropR5
namespace Go.Proofs.YtbodmfbpmeapoaaGreat
open Go.RowKit TreN LexP FixP SynP ValP PropP FixM
set_option linter.unusedVariables false

set_option maxRecDepth 100000 in
set_option maxHeartbeats 4000000 in
theorem refTakes10_any (p k n d : Int) (nm : List UInt8) (w : World) (hs : nm.length ≤ maxLen) : Calls Tryz.prog 13 #[.int .i64 p, .agg #[.int .i64 k, .int .i64 n, .int .i64 d, .string ⟨nm.toArray⟩]] w fun e w' => e = .returned (.bool (takesP p ⟨k, n, d, nm⟩)) ∧ Below w.heap.size w w' := by
  have HB := Lib.hid (below_oneP w (.cells #[.int .i64 k, .int .i64 n, .int .i64 d, .string ⟨nm.toArray⟩] 23))
  have HX : Hid ((w.alloc (.cells #[.int .i64 k, .int .i64 n, .int .i64 d, .string ⟨nm.toArray⟩] 23)).heap[w.heap.size]? = some (.cells #[.int .i64 k, .int .i64 n, .int .i64 d, .string ⟨nm.toArray⟩] 23 (0, 0))) := Lib.hid (heap_alloc_new w _)
  obtain ⟨R, hR⟩ : ∃ R, takesP p ⟨k, n, d, nm⟩ = R := ⟨_, rfl⟩
  rw [hR]
  by_cases hp : 1 ≤ p ∧ p ≤ 37
  · obtain ⟨h1, h2⟩ := hp
    have hR2 : (rightV ⟨k, n, d, nm⟩ && (genB ⟨k, n, d, nm⟩ || ownB p.toNat ⟨k, n, d, nm⟩)) = R := by
      rw [← hR]; unfold takesP; rw [decide_eq_true ⟨h1, h2⟩, Bool.true_and]
    have RR := fun W => refRight9_any k n d nm W hs
    clear hR
    cases hr : rightV ⟨k, n, d, nm⟩ with
    | false =>
      rw [hr] at RR
      rw [hr, Bool.false_and] at hR2
      subst hR2
      have RH := Lib.hid RR
      clear RR hr
      go_enter Tryz.func13, Tryz.ntmps13
      go_wp2_with fail
      refine (RH.out _).mono ?_
      rintro e w1 ⟨rfl, hb1⟩
      have HB1 := Lib.hid (HB.out.trans (hb1.mono HB.out.size))
      clear hb1
      go_wp2_with fail
      go_ret
      exact ⟨rfl, HB1.out⟩
    | true =>
      have hk := rv_kind hr
      rw [hr] at RR
      rw [hr, Bool.true_and] at hR2
      have RH := Lib.hid RR
      clear RR
      rcases hk with hk | hk
      · subst hk
        have hO := hR2
        subst hO
        exact refTakes10_word p n d nm w h1 h2 hs hr
      · have hk : k = 2 ∨ k = 3 ∨ k = 4 ∨ k = 5 ∨ k = 6 := hk
        obtain ⟨t1, t2⟩ := takes_oth p.toNat 0 k n d nm hk
        rw [t1, t2, Bool.false_or] at hR2
        have OT := Lib.hid (fun W => OtherP_any p h1 h2 W)
        have ho := oth_le p.toNat
        obtain ⟨o, hoo⟩ : ∃ o, othP p.toNat = o := ⟨_, rfl⟩
        rw [hoo] at hR2 ho OT
        have ho2 : o = 0 ∨ o = 1 ∨ o = 2 ∨ o = 3 ∨ o = 4 ∨ o = 5 ∨ o = 6 ∨ o = 7 := by omega
        clear ho hoo t1 t2 hr
        rcases ho2 with rfl | rfl | rfl | rfl | rfl | rfl | rfl | rfl
        all_goals
          rcases hk with rfl | rfl | rfl | rfl | rfl
          all_goals
            have HR := Lib.hid hR2
            clear hR2
            go_enter Tryz.func13, Tryz.ntmps13
            go_wp2_with fail
            refine (RH.out _).mono ?_
            rintro e w1 ⟨rfl, hb1⟩
            have HB1 := Lib.hid (HB.out.trans (hb1.mono HB.out.size))
            have hx1 := (hb1.block _ (blk_ltP HX.out)).trans HX.out
            have d0 := cell_of (k := 0) hx1 rfl
            have d1 := cell_of (k := 1) hx1 rfl
            have d2 := cell_of (k := 2) hx1 rfl
            have d3 := cell_of (k := 3) hx1 rfl
            clear hb1 hx1
            go_wp2_with fail
            refine (OT.out _).mono ?_
            rintro e w2 ⟨rfl, hw2⟩
            have hw2 := hw2.symm
            subst hw2
            go_wp2_with fail
            all_goals
              go_ret
              exact ⟨ret_bool (by rw [← HR.out]; first | (simp_all [othB]; done) | (rw [Bool.eq_iff_iff]; simp [othB]; done) | (rw [Bool.eq_iff_iff]; simp [othB]; omega)), HB1.out⟩
  · have ho : takesP p ⟨k, n, d, nm⟩ = false := by unfold takesP; rw [decide_eq_false hp, Bool.false_and]
    rw [ho] at hR
    subst hR
    by_cases h1 : p < 1
    · clear ho hp
      go_enter Tryz.func13, Tryz.ntmps13
      go_wp2_with fail
      go_ret
      exact ⟨rfl, HB.out⟩
    · have h2 : 37 < p := by omega
      clear ho hp
      go_enter Tryz.func13, Tryz.ntmps13
      go_wp2_with fail
      go_ret
      exact ⟨rfl, HB.out⟩
end Go.Proofs.YtbodmfbpmeapoaaGreat
