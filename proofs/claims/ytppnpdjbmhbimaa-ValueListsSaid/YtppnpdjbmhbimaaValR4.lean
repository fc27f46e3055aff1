/- Layer 9's reference: Parse. -/
import Derived.Test.YtppnpdjbmhbimaaValR2m
import Derived.Test.YtppnpdjbmhbimaaValR3
namespace Go.Proofs.Ytppnpdjbmhbimaa
open Go.RowKit TreN LexP FixP SynP ValP FixM
set_option linter.unusedVariables false

set_option maxRecDepth 100000 in
set_option maxHeartbeats 4000000 in
theorem refParse9_any (a : Option Addr) (l : List Tok) (cap : Nat) (w : World) (h1 : l.length ≤ cap) (h2 : cap ≤ maxLen) (hl : l.length ≤ 90000) (hT : Tks w a l) (hx : TxOk l) :
    Calls Try.prog 24 #[.slice a l.length cap] w (PvIs w (parseV l)) := by
  have C := Lib.hid (refTrim_any a l cap w h1 h2 hT)
  have HPV := Lib.hid (rvAt_start l)
  have HTX := Lib.hid (pvAt_start hx).1
  have hml := trm_len l
  obtain ⟨i0, hi0, hz0, hz1, hz2⟩ := info_parts info_value
  obtain ⟨ml, hm⟩ : ∃ m, trm l = m := ⟨_, rfl⟩
  obtain ⟨R, hR⟩ : ∃ R, parseV l = R := ⟨_, rfl⟩
  have HR := Lib.hid hR
  have HM := Lib.hid hm
  rw [hm] at C HTX hml
  rw [hR]
  obtain ⟨n0, hn0⟩ : ∃ n, l.length = n := ⟨_, rfl⟩
  have HTA := Lib.hid hT
  rw [hn0] at C hml hl ⊢
  obtain ⟨nn, hnn⟩ : ∃ n, ml.length = n := ⟨_, rfl⟩
  have HNN := Lib.hid hnn
  rw [hnn] at hml
  have hn9 : nn ≤ 90000 := by omega
  clear h1 h2 hl hT hx hm hR hn0 hml hnn
  go_enter Try.func24, Try.ntmps24
  go_wp2_with fail
  refine C.out.mono ?_
  unfold SlPc
  rw [HNN.out]
  rintro e w1 ⟨⟨a2, c2, rfl, g1, g2, g3⟩, hww⟩
  have hww2 := hww.symm
  clear hww
  subst hww2
  have HT2 := Lib.hid (fun (W : World) (hW : Below w.heap.size w W) => (g3 w HTA.out).below hW)
  have HG2 := Lib.hid g2
  clear g3 g2
  go_wp2_with fail
  go_loopw [5, 6] (fun v5 v6 wr => ∃ (i : Nat) (acc : List Val), v6 = .int .i64 (i : Int) ∧ i ≤ nn ∧ wr.ownsRow w.heap.size 30 4 v5 acc.length (vcs acc) ∧ Hid (Below w.heap.size w wr) ∧ Hid (RvAt l acc i)) (fun _ v6 _ => nn + 1 - (intOf v6).toNat)
  case atStart => exact ⟨0, [], rfl, by omega, World.ownsRow_nil _ _ _ 4, Lib.hid (Below.refl _ _), HPV⟩
  case round =>
    obtain ⟨i, acc, rfl, hi, hown, HB, HP⟩ := hrel
    have HO := Lib.hid hown
    clear hown
    have hi0' : (0 : Int) ≤ (i : Int) := by omega
    by_cases hgo : i < nn ∨ i = 0
    · have HGO : Hid (i < (trm l).length ∨ i = 0) := Lib.hid (by rw [HM.out, HNN.out]; exact hgo)
      have hal : acc.length ≤ i := HP.out.2.1
      have hT2 := HT2.out wr HB.out
      obtain ⟨a3, s1, s2, s3, s4, s5⟩ := sl_from a2 ml c2 nn i HNN.out (i : Int) rfl hi g1 HG2.out
      have RD := refRead9_any a3 (ml.drop i) (nn - i) (c2 - i) wr s2 (by omega) (s5 wr hT2) (HTX.out.suf (List.drop_suffix _ _))
      have hle := readV_le (ml.drop i)
      obtain ⟨⟨vk, vn, vd, vx⟩, hv⟩ : ∃ v, (readV (ml.drop i)).1 = v := ⟨_, rfl⟩
      obtain ⟨q, hq⟩ : ∃ q, (readV (ml.drop i)).2 = q := ⟨_, rfl⟩
      rw [hv, hq] at RD
      rw [hq, s2] at hle
      have RD2 : Hid (Calls Try.prog 22 #[.slice a3 (nn - i) (c2 - i)] wr fun e w' => e = .returned (.tuple #[.agg #[.int .i64 vk, .int .i64 vn, .int .i64 vd, .string ⟨vx.toArray⟩], .int .i64 (q : Nat)]) ∧ Below wr.heap.size wr w') := Lib.hid RD
      have hgb : (decide ((i : Int) < (nn : Int)) || ((i : Int) == 0)) = true := by
        rcases hgo with h | h
        · rw [decide_eq_true (by omega)]; rfl
        · subst h; simp
      have hig : (i : Int) ≤ (nn : Int) := by omega
      have HSI : Hid (nn - i ≤ c2 - i) := Lib.hid s3
      clear RD s5 s3 s4
      rcases Nat.eq_zero_or_pos q with hq0 | hq0
      · subst hq0
        have HF : Hid (R = none) := Lib.hid (by rw [← HR.out]; exact HP.out.fail HGO.out (by rw [HM.out]; exact hq))
        clear hv hq hle s2 hal hT2
        by_cases hlt : i < nn
        · have hz : (i : Int) < (nn : Int) := by omega
          clear hgo hgb
          go_wp2_with fail
          refine RD2.out.mono ?_
          rintro e w2 ⟨rfl, hb2⟩
          have HB2 := Lib.hid (HB.out.trans (hb2.mono HB.out.size))
          clear hb2
          go_wp2_with fail
          go_ret2
          exact pvIs_none HF.out (HB2.out.alloc HB2.out.size _)
        · have hz : ¬ (i : Int) < (nn : Int) := by omega
          have hz0' : ((i : Int) == 0) = true := by rw [beq_iff_eq]; omega
          clear hgo hgb
          go_wp2_with fail
          refine RD2.out.mono ?_
          rintro e w2 ⟨rfl, hb2⟩
          have HB2 := Lib.hid (HB.out.trans (hb2.mono HB.out.size))
          clear hb2
          go_wp2_with fail
          go_ret2
          exact pvIs_none HF.out (HB2.out.alloc HB2.out.size _)
      · have hlt : i < nn := by omega
        have hqz : ((q : Int) == 0) = false := by rw [beq_eq_false_iff_ne]; omega
        have hz : (i : Int) < (nn : Int) := by omega
        obtain ⟨t1, t2, t3⟩ := RvAt.step (v := ⟨vk, vn, vd, vx⟩) (q := q) HP.out HGO.out (by rw [HM.out]; exact hv) (by rw [HM.out]; exact hq) hq0
        rw [HM.out] at t1 t2 t3
        have T2 : Hid (i + q < nn → isP ml (i + q) 20 = false → R = none) := Lib.hid (by rw [← HR.out, ← HNN.out]; exact t2)
        have T3 : Hid ((i + q = nn ∨ isP ml (i + q) 20 = true) → RvAt l (acc ++ [(⟨vk, vn, vd, vx⟩ : Val)]) (skipN ml (i + q))) := Lib.hid (by rw [← HNN.out]; exact t3)
        rw [HNN.out] at t1
        clear t2 t3 hv hq hle s2 hT2 hgb hgo
        go_wp2_with fail
        refine RD2.out.mono ?_
        rintro e w2 ⟨rfl, hb2⟩
        go_upto_region 8 with (fail)
        have hO2 := (ownsRow_below HO.out hb2).alloc (.cells #[.int .i64 vk, .int .i64 vn, .int .i64 vd, .string ⟨vx.toArray⟩] 30)
        have hB2 := (HB.out.trans (hb2.mono HB.out.size)).alloc (Nat.le_trans HB.out.size hb2.size) (.cells #[.int .i64 vk, .int .i64 vn, .int .i64 vd, .string ⟨vx.toArray⟩] 30)
        have hnew : (w2.alloc (.cells #[.int .i64 vk, .int .i64 vn, .int .i64 vd, .string ⟨vx.toArray⟩] 30)).heap[w2.heap.size]? = some (.cells #[.int .i64 vk, .int .i64 vn, .int .i64 vd, .string ⟨vx.toArray⟩] 30 (0, 0)) := heap_alloc_new w2 _
        generalize hw3 : w2.alloc (.cells #[.int .i64 vk, .int .i64 vn, .int .i64 vd, .string ⟨vx.toArray⟩] 30) = w3 at *
        obtain ⟨B3, hB3⟩ : ∃ B, w2.heap.size = B := ⟨_, rfl⟩
        rw [hB3] at hnew ⊢
        have e0 : w3.cell? ⟨B3, 0, none⟩ = some (.int .i64 vk) := cell_of hnew rfl
        have e1 : w3.cell? ⟨B3, 1, none⟩ = some (.int .i64 vn) := cell_of hnew rfl
        have e2 : w3.cell? ⟨B3, 2, none⟩ = some (.int .i64 vd) := cell_of hnew rfl
        have e3 : w3.cell? ⟨B3, 3, none⟩ = some (.string ⟨vx.toArray⟩) := cell_of hnew rfl
        have hrow : ∀ r, u5.ownBlock = some r → w.heap.size ≤ r := fun r hr => (World.ownsRow.lt hO2 r hr).1
        have hw3s : w.heap.size ≤ w3.heap.size := hB2.size
        have HB3 := Lib.hid hB2
        clear hw3 hB3 hnew hb2 hB2
        go_wp2_with (at_builtin; refine wpList_append_own _ rfl _ _ 38 rfl w.heap.size 30 i0 _ 4 40 und_values hi0 hz0 hz1 hz2 rfl (by decide) _ _ _ rfl (hO2.alloc _) ⟨w3.heap.size, 0, none⟩ 1 1 (vc ⟨vk, vn, vd, vx⟩) rfl rfl ?c1 ?c2 ?c3 ?c4 ?c5 ?_)
        case c1 => exact value_news w3 ⟨vk, vn, vd, vx⟩ _ rfl
        case c2 => intro u hu; exact vcs_one [⟨vk, vn, vd, vx⟩] u (by simpa [vcs] using hu)
        case c3 => unfold maxLen; omega
        case c4 => omega
        case c5 => simp; omega
        intro v' w4 hown' hgrow _
        have hB4 : Below w.heap.size w w4 := (HB3.out.alloc HB3.out.size _).grown hgrow (by simp; omega) hrow
        have hO4 : w4.ownsRow w.heap.size 30 4 v' (acc ++ [(⟨vk, vn, vd, vx⟩ : Val)]).length (vcs (acc ++ [(⟨vk, vn, vd, vx⟩ : Val)])) := by
          rw [List.length_append, vcs_append]; simpa [vcs] using hown'
        have HO4 := Lib.hid hO4
        have HB4 := Lib.hid hB4
        have hT4 := HT2.out w4 hB4
        have SK := Lib.hid (refSkip7_any a2 ml nn c2 (i + q) w4 HNN.out (by omega) (by omega) hT4)
        have hsum : IntKind.i64.wrap ((i : Int) + (q : Int)) = ((i + q : Nat) : Int) := by rw [show (i : Int) + (q : Int) = ((i + q : Nat) : Int) by omega]; exact IntWalk.i64_in _ (by omega)
        have hskl : skipN ml (i + q) ≤ nn := by rw [← HNN.out]; exact skipN_le (by rw [HNN.out]; exact t1)
        have hskg := skipN_ge ml (i + q)
        obtain ⟨j, hj⟩ : ∃ j, i + q = j := ⟨_, rfl⟩
        rw [hj] at hsum T2 T3 SK hskl hskg t1
        have hji : i < j := by omega
        clear hown' hgrow hO2 hO4 hB4 hrow hj e0 e1 e2 e3
        by_cases hjn : j < nn
        · have hjz : (j : Int) < (nn : Int) := by omega
          have hj0 : (0 : Int) ≤ (j : Int) := by omega
          have hjl : j < ml.length := by rw [HNN.out]; exact hjn
          obtain ⟨b4, o4, rfl, hb4, ht4⟩ := hT4.get hjl
          have d4 : w4.cell? ⟨b4, o4 + j * 3, none⟩ = some (.int .i64 ml[j].kind) := ht4.kind
          have hisp := isP_lt hjl 20
          obtain ⟨kk, hkk⟩ : ∃ k, ml[j].kind = k := ⟨_, rfl⟩
          rw [hkk] at d4 hisp
          by_cases h20 : kk = 20
          · have hk20 : (kk != 20) = false := by rw [h20]; rfl
            have HRV := Lib.hid (T3.out (Or.inr (by rw [hisp, decide_eq_true h20])))
            obtain ⟨sk, hsk⟩ : ∃ s, skipN ml j = s := ⟨_, rfl⟩
            rw [hsk] at SK hskl hskg HRV
            clear h20 hisp hkk ht4 hT4 hjl hsk
            go_wp2_with fail
            refine SK.out.mono ?_
            rintro e w5 ⟨rfl, rfl⟩
            go_wp2_with fail
            go_roundw
            case rel => exact ⟨sk, _, rfl, hskl, HO4.out, HB4, HRV⟩
            case measure => simp [intOf]; omega
          · have hk20 : (kk != 20) = true := by rw [bne_iff_ne]; exact h20
            have HF := Lib.hid (T2.out hjn (by rw [hisp, decide_eq_false h20]))
            clear h20 hisp hkk ht4 hT4 hjl
            go_wp2_with fail
            go_ret2
            exact pvIs_none HF.out HB4.out
        · have hjz : ¬ (j : Int) < (nn : Int) := by omega
          have HRV := Lib.hid (T3.out (Or.inl (by omega)))
          obtain ⟨sk, hsk⟩ : ∃ s, skipN ml j = s := ⟨_, rfl⟩
          rw [hsk] at SK hskl hskg HRV
          clear hT4 hsk
          go_wp2_with fail
          refine SK.out.mono ?_
          rintro e w5 ⟨rfl, rfl⟩
          go_wp2_with fail
          go_roundw
          case rel => exact ⟨sk, _, rfl, hskl, HO4.out, HB4, HRV⟩
          case measure => simp [intOf]; omega
    · have hin : i = nn := by omega
      have hi1 : ¬ i = 0 := fun h => hgo (Or.inr h)
      subst hin
      have hz : ¬ (i : Int) < (i : Int) := by omega
      have hz2' : ((i : Int) == 0) = false := by rw [beq_eq_false_iff_ne]; omega
      have HF : Hid (R = some acc) := Lib.hid (by
        have h3 := HP.out.2.2
        rw [if_neg (by rw [HM.out, HNN.out]; omega), HR.out] at h3
        exact h3)
      clear hgo
      go_wp2_with fail
      go_ret2
      exact pvIs_some HF.out ⟨_, HO.out⟩ HB.out
end Go.Proofs.Ytppnpdjbmhbimaa
