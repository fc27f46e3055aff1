/- Layer 19: a stacker puts one more part. -/
import Derived.Test.YtajmmnmagbnigaaStrW2
namespace Go.Proofs.Ytajmmnmagbnigaa
open Go.RowKit FixM StrP Go.Sort
set_option linter.unusedVariables false

theorem Sw.start {w : World} {K : Nat} {nv : Value} {s : Sk} (h : w.heap[K]? = some (.cells (skc nv s) 49 (0, 0))) (p : Pt) : Sw w (w.alloc (.cells (ptc p) 37)) K nv s p := by
  have lt := blk_ltS h
  have hb : Below w.heap.size w (w.alloc (.cells (ptc p) 37)) := (Below.refl _ _).alloc (Nat.le_refl _) _
  exact ⟨(hb.block _ lt).trans h, heap_alloc_new w _, grown_below _ hb, lt⟩
theorem esc_jnd (s : Sk) (u d : Int) : esc (jnd s u d) = esc s := rfl
theorem Sw.put_std {w0 W : World} {K : Nat} {nv : Value} {s r : Sk} {p : Pt} (h : Sw w0 W K nv s p) (y u d : Int) (e : s = { r with sd := true }) : Sw w0 (((W.setCell ⟨K, 10, none⟩ (.int .i64 y)).setCell ⟨K, 11, none⟩ (.int .i64 u)).setCell ⟨K, 12, none⟩ (.int .i64 d)) K nv (std r y u d) p := by
  subst e
  exact ((h.put (s' := { r with sd := true, y := y }) 10 _ rfl).put (s' := { r with sd := true, y := y, lu := u }) 11 _ rfl).put 12 _ rfl
def Stacked (w : World) (K : Nat) (nv : Value) (s : Sk) (a : Int) (e : Ending) (w' : World) : Prop :=
  e = .returned (.int .i64 a) ∧ w.grownBy w' (some K) ∧ w'.heap[K]? = some (.cells (skc nv s) 49 (0, 0))

set_option maxRecDepth 100000 in
set_option maxHeartbeats 4000000 in
theorem stack_any (K : Nat) (nv : Value) (s : Sk) (p : Pt) (w : World) (h : w.heap[K]? = some (.cells (skc nv s) 49 (0, 0))) : Calls Try.prog 23 #[.pointer (some ⟨K, 0, none⟩), .agg (ptc p)] w (Stacked w K nv (nxt s p) (atP s p)) := by
  have hS := Sw.start h p
  obtain ⟨n1, hn1⟩ : ∃ x, nxt s p = x := ⟨_, rfl⟩
  obtain ⟨a1, ha1⟩ : ∃ x, atP s p = x := ⟨_, rfl⟩
  rw [hn1, ha1]
  have HN1 := Lib.hid hn1
  have HA1 := Lib.hid ha1
  unfold ptc at hS ⊢
  generalize hW : w.alloc (.cells #[.int .i64 p.tu, .int .i64 p.td, .int .i64 p.bu, .int .i64 p.bd, .int .i64 p.h, .bool p.thr] 37) = W at hS
  have HS0 := Lib.hid hS.drew
  obtain ⟨c0, c1, c2, c7, c8, c9, c10, c11, c12, p0, p1, p2, p3, p4, p5, f, lk, ln⟩ := hS.cells
  have f11 := f 11
  have f12 := f 12
  have CJ := Lib.hid (fun w => Join19_any s.lu s.ld p.tu p.td w)
  have HP : Hid (∀ W, W.heap[K]? = some (.cells (skc nv (jnd s p.tu p.td)) 49 (0, 0)) → Calls Try.prog 26 #[.pointer (some ⟨K, 0, none⟩)] W fun e w' => e = .returned (.int .i64 a1) ∧ Below W.heap.size W w') := Lib.hid (fun W hW => by rw [← ha1]; exact place_any K nv _ W hW)
  clear hn1 ha1 f h c1 c2 c7 c8 c9 c10 hS
  go_enter Try.func23, Try.ntmps23
  go_wp2_with fail
  go_region_with (go_at_call 8; refine (CJ.out _).mono ?_; rintro e wq ⟨rfl, hbq⟩; have hS1 := HS0.out.below hbq; have HS1 := Lib.hid hS1; obtain ⟨c0, c1, c2, c7, c8, c9, c10, c11, c12, p0, p1, p2, p3, p4, p5, f, lk, ln⟩ := hS1.cells; have f11 := f 11; have f12 := f 12; clear f hbq hS1 c1 c2 c7 c8 c9 c10)
  all_goals
    have hS2 := HS1.out.put_lu p.tu p.td
    generalize (wq.setCell ⟨K, 11, none⟩ (.int .i64 (jU s.lu p.tu))).setCell ⟨K, 12, none⟩ (.int .i64 (jD s.ld p.td)) = W2 at *
    have HS2 := Lib.hid hS2
    clear c0 c11 c12 p0 p1 p2 p3 p4 p5 f11 f12 lk ln
    have HL := Lib.hid (HP.out W2 hS2.k)
    clear hS2
    go_wp2_with fail
    refine HL.out.mono ?_
    rintro e W3 ⟨rfl, hb3⟩
    have hS3 := HS2.out.below hb3
    have HS3 := Lib.hid hS3
    clear hb3 hS3 HL
    obtain ⟨u, hu⟩ : ∃ u, jnd s p.tu p.td = u := ⟨_, rfl⟩
    rw [hu] at HS3
    have HU := Lib.hid hu
    clear hu
    obtain ⟨c0, c1, c2, c7, c8, c9, c10, c11, c12, p0, p1, p2, p3, p4, p5, f, lk, ln⟩ := HS3.out.cells
    have f1 := f 1
    have f2 := f 2
    have f9 := f 9
    have f10 := f 10
    have f11 := f 11
    have f12 := f 12
    clear f
    cases hthr : p.thr
    · rw [hthr] at p5
      have HTH := Lib.hid hthr
      clear hthr
      have HE := Lib.hid (escapes_any K nv u W3 HS3.out.k)
      have HA : Hid (∀ w, Calls Try.prog 19 #[.int .i64 a1, .int .i64 p.h] w fun e w' => e = .returned (.int .i64 (H (H a1 + H p.h))) ∧ w = w') := Lib.hid (fun w => Add_any a1 p.h w)
      have HH : Hid (∀ w, Calls Try.prog 18 #[.agg #[.int .i64 p.bu, .int .i64 p.bd]] w fun e w' => e = .returned (.agg #[.int .i64 (H p.bu), .int .i64 (H p.bd)]) ∧ Below w.heap.size w w') := Lib.hid (fun w => hold19_any p.bu p.bd w)
      obtain ⟨y2, hy2⟩ : ∃ y, H (H a1 + H p.h) = y := ⟨_, rfl⟩
      obtain ⟨u2, hu2⟩ : ∃ y, H p.bu = y := ⟨_, rfl⟩
      obtain ⟨d2, hd2⟩ : ∃ y, H p.bd = y := ⟨_, rfl⟩
      rw [hy2] at HA
      rw [hu2, hd2] at HH
      have HY := Lib.hid (And.intro hy2 (And.intro hu2 hd2))
      clear hy2 hu2 hd2
      go_wp2_with fail
      refine HE.out.mono ?_
      rintro e w' ⟨rfl, rfl⟩
      cases hes : esc u
      · have HN2 : Hid (n1 = std u y2 u2 d2) := Lib.hid (by
          rw [← HN1.out, ← HY.out.1, ← HY.out.2.1, ← HY.out.2.2, ← HA1.out, ← HU.out]
          unfold nxt atP
          rw [HU.out, if_neg (by rw [HTH.out]; decide), if_neg (by rw [← esc_jnd s p.tu p.td, HU.out, hes]; decide)])
        clear hes
        go_wp2_with fail
        have hS4 := HS3.out.put (s' := { u with sd := true }) 9 (.bool true) rfl
        generalize W3.setCell ⟨K, 9, none⟩ (.bool true) = W4 at *
        have HS4 := Lib.hid hS4.drew
        clear c0 c1 c2 c7 c8 c9 c10 c11 c12 p0 p1 p2 p3 p4 p5 f1 f2 f9 f10 f11 f12 lk ln
        obtain ⟨c0, c1, c2, c7, c8, c9, c10, c11, c12, p0, p1, p2, p3, p4, p5, f, lk, ln⟩ := hS4.cells
        have f10 := f 10
        have f11 := f 11
        have f12 := f 12
        clear f hS4
        go_region_with (first | (go_at_call 19; refine (HA.out _).mono ?_; rintro e w' ⟨rfl, rfl⟩) | (go_at_call 18; refine (HH.out _).mono ?_; rintro e wr ⟨rfl, hbr⟩; have hS5 := HS4.out.below hbr; have HS5 := Lib.hid hS5; obtain ⟨c0, c1, c2, c7, c8, c9, c10, c11, c12, p0, p1, p2, p3, p4, p5, f, lk, ln⟩ := hS5.cells; have f10 := f 10; have f11 := f 11; have f12 := f 12; clear f hbr hS5))
        all_goals (have hS6 := HS5.out.put_std y2 u2 d2 rfl)
        all_goals (generalize ((wr.setCell ⟨K, 10, none⟩ (.int .i64 y2)).setCell ⟨K, 11, none⟩ (.int .i64 u2)).setCell ⟨K, 12, none⟩ (.int .i64 d2) = W6 at *)
        all_goals (have HS6 := Lib.hid hS6; clear hS6)
        all_goals go_wp2_with fail
        all_goals go_ret
        all_goals exact ⟨rfl, HS6.out.g, by rw [HN2.out]; exact HS6.out.k⟩
      · have HN2 : Hid (n1 = std (hed u) y2 u2 d2) := Lib.hid (by
          rw [← HN1.out, ← HY.out.1, ← HY.out.2.1, ← HY.out.2.2, ← HA1.out, ← HU.out]
          unfold nxt atP
          rw [HU.out, if_neg (by rw [HTH.out]; decide), if_pos (by rw [← esc_jnd s p.tu p.td, HU.out, hes])])
        clear hes
        go_wp2_with fail
        have hS4 := ((HS3.out.put (s' := { u with hu := u.lu }) 1 (.int .i64 u.lu) rfl).put (s' := hed u) 2 (.int .i64 u.ld) rfl).put (s' := { hed u with sd := true }) 9 (.bool true) rfl
        generalize ((W3.setCell ⟨K, 1, none⟩ (.int .i64 u.lu)).setCell ⟨K, 2, none⟩ (.int .i64 u.ld)).setCell ⟨K, 9, none⟩ (.bool true) = W4 at *
        have HS4 := Lib.hid hS4.drew
        clear c0 c1 c2 c7 c8 c9 c10 c11 c12 p0 p1 p2 p3 p4 p5 f1 f2 f9 f10 f11 f12 lk ln
        obtain ⟨c0, c1, c2, c7, c8, c9, c10, c11, c12, p0, p1, p2, p3, p4, p5, f, lk, ln⟩ := hS4.cells
        have f10 := f 10
        have f11 := f 11
        have f12 := f 12
        clear f hS4
        go_region_with (first | (go_at_call 19; refine (HA.out _).mono ?_; rintro e w' ⟨rfl, rfl⟩) | (go_at_call 18; refine (HH.out _).mono ?_; rintro e wr ⟨rfl, hbr⟩; have hS5 := HS4.out.below hbr; have HS5 := Lib.hid hS5; obtain ⟨c0, c1, c2, c7, c8, c9, c10, c11, c12, p0, p1, p2, p3, p4, p5, f, lk, ln⟩ := hS5.cells; have f10 := f 10; have f11 := f 11; have f12 := f 12; clear f hbr hS5))
        all_goals (have hS6 := HS5.out.put_std y2 u2 d2 rfl)
        all_goals (generalize ((wr.setCell ⟨K, 10, none⟩ (.int .i64 y2)).setCell ⟨K, 11, none⟩ (.int .i64 u2)).setCell ⟨K, 12, none⟩ (.int .i64 d2) = W6 at *)
        all_goals (have HS6 := Lib.hid hS6; clear hS6)
        all_goals go_wp2_with fail
        all_goals go_ret
        all_goals exact ⟨rfl, HS6.out.g, by rw [HN2.out]; exact HS6.out.k⟩
    · rw [hthr] at p5
      have HTH := Lib.hid hthr
      clear hthr
      by_cases hq : p.bu = p.tu ∧ p.bd = p.td
      · have HN2 : Hid (n1 = u) := Lib.hid (by rw [← HN1.out, ← HU.out]; unfold nxt; rw [if_pos HTH.out, if_pos hq])
        obtain ⟨hq1, hq2⟩ := hq
        rw [hq1] at p2
        rw [hq2] at p3
        clear hq1 hq2
        go_wp2_with fail
        go_ret
        exact ⟨rfl, HS3.out.g, by rw [HN2.out]; exact HS3.out.k⟩
      · have HN2 : Hid (n1 = jnd u p.bu p.bd) := Lib.hid (by rw [← HN1.out, ← HU.out]; unfold nxt; rw [if_pos HTH.out, if_neg hq])
        have CK := Lib.hid (fun w => Join19_any u.lu u.ld p.bu p.bd w)
        have hn : ∀ W : World, (binOp .neq 23 (.agg #[.int .i64 p.bu, .int .i64 p.bd]) (.agg #[.int .i64 p.tu, .int .i64 p.td])).run Try.prog W = .ok (.bool true) W := by
          intro W
          rw [sr_neq, decide_eq_false hq]; rfl
        clear hq
        have HS3d := Lib.hid HS3.out.drew
        go_wp2_with fail
        go_region_with (go_at_call 8; refine (CK.out _).mono ?_; rintro e wr ⟨rfl, hbr⟩; have hS5 := HS3d.out.below hbr; have HS5 := Lib.hid hS5; obtain ⟨c0, c1, c2, c7, c8, c9, c10, c11, c12, p0, p1, p2, p3, p4, p5, f, lk, ln⟩ := hS5.cells; have f11 := f 11; have f12 := f 12; clear f hbr hS5)
        all_goals (have hS6 := HS5.out.put_lu p.bu p.bd)
        all_goals (generalize (wr.setCell ⟨K, 11, none⟩ (.int .i64 (jU u.lu p.bu))).setCell ⟨K, 12, none⟩ (.int .i64 (jD u.ld p.bd)) = W6 at *)
        all_goals (have HS6 := Lib.hid hS6; clear hS6)
        all_goals go_wp2_with fail
        all_goals go_ret
        all_goals exact ⟨rfl, HS6.out.g, by rw [HN2.out]; exact HS6.out.k⟩
end Go.Proofs.Ytajmmnmagbnigaa
