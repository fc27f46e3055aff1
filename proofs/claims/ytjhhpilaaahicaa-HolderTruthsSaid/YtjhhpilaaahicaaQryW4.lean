/- Layer 8: query.Right. -/
import Derived.Test.YtjhhpilaaahicaaQryW3
namespace Go.Proofs.Ytjhhpilaaahicaa
open Go.RowKit FixM FixP TreN QryP
set_option linter.unusedVariables false

theorem nmB_nil : nmB ⟨([] : List UInt8).toArray⟩ = true := rfl
theorem nmB_cons (c : UInt8) (r : List UInt8) : nmB ⟨(c :: r).toArray⟩ = (!rsvB ⟨(c :: r).toArray⟩ && nameB ⟨(c :: r).toArray⟩) := by
  unfold nmB
  have e : decide ((⟨(c :: r).toArray⟩ : ByteArray).size = 0) = false := decide_eq_false (by show ¬ (c :: r).toArray.size = 0; simp)
  rw [e]; rfl
set_option maxRecDepth 100000 in
set_option maxHeartbeats 8000000 in
theorem Right8_any (x : List UInt8) (hs : x.length ≤ maxLen) (a : Option Addr) (L : List QN) (n c : Nat) (w : World) (hn : L.length = n) (hm : n ≤ maxLen) (hQ : Qns w a L) :
    Calls Try.prog 37 #[.agg #[.string ⟨x.toArray⟩, .slice a n c]] w fun e w' => e = .returned (.bool (rightQ ⟨x.toArray⟩ L)) ∧ Below w.heap.size w w' := by
  unfold maxLen at hm
  rw [← rightQ_eq]
  unfold rightQC
  have HB0 := Lib.hid (below_oneQ w (.cells #[.string ⟨x.toArray⟩, .slice a n c] 25))
  have hx := heap_alloc_new w (.cells #[.string ⟨x.toArray⟩, .slice a n c] 25)
  have HQ := Lib.hid hQ
  have HN := Lib.hid hn
  have NM := Lib.hid (fun W => named8_any x hs W)
  have SP := Lib.hid (fun (h : n ≤ 1000) W (hW : Below w.heap.size w W) => Span8_nat ⟨x.toArray⟩ a L n c 0 W hn h (by omega) (hQ.below hW))
  have CT := Lib.hid (fun (h : n ≤ 1000) W (hW : Below w.heap.size w W) => ContainsFuncQ_any 71 #[] (fun t => !ndC t) (enters_of Try.func71 (by kernel_rfl) rfl) a L c W (fun t _ W2 _ => odd8_any t.kind t.count t.feat t.lo.op t.lo.n t.lo.d t.hi.op t.hi.n t.hi.d W2) (by omega) (hQ.below hW))
  have hall : (L.any fun t => !ndC t) = !L.all ndC := by rw [List.not_all_eq_any_not]
  rw [hall, hn] at CT
  rw [hn]
  generalize hW : w.alloc (.cells #[.string ⟨x.toArray⟩, .slice a n c] 25) = W at *
  have HX0 := Lib.hid hx
  obtain ⟨q0, q1⟩ := q_cells hx
  obtain ⟨sp, hsp⟩ : ∃ sp, spanS L 0 = sp := ⟨_, rfl⟩
  rw [hsp] at SP ⊢
  generalize L.all ndC = al at *
  clear hx hQ hn hsp hall
  by_cases h0 : n = 0
  · have z0 : ((n : Int) == 0) = true := by rw [h0]; rfl
    rw [decide_eq_false (by omega)]
    clear h0
    go_enter Try.func37, Try.ntmps37
    go_wp2_with fail
    go_ret
    refine ⟨ret_bool ?_, HB0.out⟩
    first | rfl | (simp; done)
  · have z0 : ((n : Int) == 0) = false := by rw [beq_eq_false_iff_ne]; omega
    by_cases h32 : 32 < n
    · have z32 : (32 : Int) < (n : Int) := by omega
      rw [decide_eq_false (by omega)]
      clear h0
      go_enter Try.func37, Try.ntmps37
      go_wp2_with fail
      go_ret
      refine ⟨ret_bool ?_, HB0.out⟩
      first | rfl | (simp; done)
    · have z32 : ¬ (32 : Int) < (n : Int) := by omega
      have SPP := Lib.hid (SP.out (by omega))
      have CTT := Lib.hid (CT.out (by omega))
      by_cases hs1 : sp = n
      · have zs : ((sp : Int) != (n : Int)) = false := by rw [hs1]; simp
        rw [decide_eq_true (by omega), Bool.true_and]
        clear hs1 h0
        cases x with
        | nil =>
          rw [nmB_nil, Bool.true_and]
          go_enter Try.func37, Try.ntmps37
          go_wp2_with fail
          refine (SPP.out _ HB0.out).mono ?_
          rintro e w1 ⟨rfl, hb⟩
          have hx1 := (hb.block _ (blk_ltQ HX0.out)).trans HX0.out
          obtain ⟨q0, q1⟩ := q_cells hx1
          have HB1 := Lib.hid (HB0.out.trans (hb.mono HB0.out.size))
          have HX1 := Lib.hid hx1
          clear hb hx1
          go_wp2_with fail
          refine (CTT.out _ HB1.out).mono ?_
          rintro e w2 ⟨rfl, hb⟩
          have HB2 := Lib.hid (HB1.out.trans (hb.mono HB1.out.size))
          clear hb
          go_wp2_with fail
          go_ret
          refine ⟨ret_bool ?_, HB2.out⟩
          first | rfl | (simp; done)
        | cons c1 r1 =>
          rw [nmB_cons]
          obtain ⟨nb, hnb⟩ : ∃ nb, (!rsvB ⟨(c1 :: r1).toArray⟩ && nameB ⟨(c1 :: r1).toArray⟩) = nb := ⟨_, rfl⟩
          rw [hnb] at NM ⊢
          clear hnb
          cases nb
          · skip
            go_enter Try.func37, Try.ntmps37
            go_wp2_with fail
            refine (SPP.out _ HB0.out).mono ?_
            rintro e w1 ⟨rfl, hb⟩
            have hx1 := (hb.block _ (blk_ltQ HX0.out)).trans HX0.out
            obtain ⟨q0, q1⟩ := q_cells hx1
            have HB1 := Lib.hid (HB0.out.trans (hb.mono HB0.out.size))
            have HX1 := Lib.hid hx1
            clear hb hx1
            go_wp2_with fail
            refine (NM.out _).mono ?_
            rintro e wq ⟨rfl, rfl⟩
            go_wp2_with fail
            go_ret
            refine ⟨ret_bool ?_, HB1.out⟩
            first | rfl | (simp; done)
          · skip
            go_enter Try.func37, Try.ntmps37
            go_wp2_with fail
            refine (SPP.out _ HB0.out).mono ?_
            rintro e w1 ⟨rfl, hb⟩
            have hx1 := (hb.block _ (blk_ltQ HX0.out)).trans HX0.out
            obtain ⟨q0, q1⟩ := q_cells hx1
            have HB1 := Lib.hid (HB0.out.trans (hb.mono HB0.out.size))
            have HX1 := Lib.hid hx1
            clear hb hx1
            go_wp2_with fail
            refine (NM.out _).mono ?_
            rintro e wq ⟨rfl, rfl⟩
            go_wp2_with fail
            refine (CTT.out _ HB1.out).mono ?_
            rintro e w2 ⟨rfl, hb⟩
            have HB2 := Lib.hid (HB1.out.trans (hb.mono HB1.out.size))
            clear hb
            go_wp2_with fail
            go_ret
            refine ⟨ret_bool ?_, HB2.out⟩
            first | rfl | (simp; done)
      · have zs : ((sp : Int) != (n : Int)) = true := by rw [bne_iff_ne]; omega
        rw [decide_eq_false (by omega)]
        clear hs1 h0
        go_enter Try.func37, Try.ntmps37
        go_wp2_with fail
        refine (SPP.out _ HB0.out).mono ?_
        rintro e w1 ⟨rfl, hb⟩
        have hx1 := (hb.block _ (blk_ltQ HX0.out)).trans HX0.out
        obtain ⟨q0, q1⟩ := q_cells hx1
        have HB1 := Lib.hid (HB0.out.trans (hb.mono HB0.out.size))
        have HX1 := Lib.hid hx1
        clear hb hx1
        go_wp2_with fail
        go_ret
        refine ⟨ret_bool ?_, HB1.out⟩
        first | rfl | (simp; done)
end Go.Proofs.Ytjhhpilaaahicaa
