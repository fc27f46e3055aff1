/- Layer 18's other text: the words of a text. -/
import Derived.Test.YtekmgpbolbkiaaaWdsW4
namespace Go.Proofs.Ytekmgpbolbkiaaa
open Go.RowKit FixM FixP TreN WdsP
set_option linter.unusedVariables false

set_option maxRecDepth 100000 in
set_option maxHeartbeats 4000000 in
theorem refSplit18_any (s : ByteArray) (w : World) (hs : s.size ≤ 300) : Calls Try.prog 13 #[.string s] w (ToldW w (wordsS s)) := by
  obtain ⟨i0, hi, hz0, hz1, hz2⟩ := info_parts info_str18
  obtain ⟨all, hall⟩ : ∃ all, wordsS s = all := ⟨_, rfl⟩
  rw [hall]
  have HALL := Lib.hid hall
  clear hall
  go_enter Try.func13, Try.ntmps13
  go_wp2_with fail
  go_loopw [4, 3] (fun vi v wr => ∃ (k : Nat) (L : List ByteArray), vi = .int .i64 (k : Int) ∧ k ≤ s.size + 1 ∧ L.length ≤ k ∧ wr.ownsRow w.heap.size 9 1 v L.length (strs18 L) ∧ Hid (Below w.heap.size w wr) ∧ Hid (spS s k = (k, L))) (fun vi _ _ => s.size + 1 - (intOf vi).toNat)
  case atStart => exact ⟨0, [], rfl, by omega, by simp, World.ownsRow_nil _ _ _ _, Lib.hid (Below.refl _ _), Lib.hid rfl⟩
  case round =>
    obtain ⟨k, L, rfl, hk, hL, hown, HB, HS⟩ := hrel
    have HO := Lib.hid hown
    clear hown
    by_cases hlt : k < s.size
    · have hlz : (k : Int) < (s.size : Int) := by omega
      go_wp2_with fail
      go_loop [5] (fun ve => ∃ e : Nat, ve = .int .i64 (e : Int) ∧ k ≤ e ∧ e ≤ s.size ∧ Hid (spS s e = (k, L))) (fun ve => s.size - (intOf ve).toNat)
      case atStart => exact ⟨k, rfl, by omega, by omega, HS⟩
      case round =>
        obtain ⟨e, rfl, hke, hes, HE⟩ := hrel
        have hgo : (∃ h : e < s.size, bt s e ≠ 32) ∨ (s.size ≤ e ∨ bt s e = 32) := by
          by_cases h : e < s.size
          · by_cases q : bt s e = 32
            · exact Or.inr (Or.inr q)
            · exact Or.inl ⟨h, q⟩
          · exact Or.inr (Or.inl (by omega))
        rcases hgo with ⟨hks, hne⟩ | hcut
        · have HN := Lib.hid (spS_go HE.out hks hne)
          have hnz : ((s[e].toNat : Int) != 32) = true := by rw [← bt_eq s e hks]; simpa using hne
          have hnz2 : ((s[e].toNat : Int) == 32) = false := by rw [← bt_eq s e hks]; simpa using hne
          have hksz : (e : Int) < (s.size : Int) := by omega
          clear hne
          go_wp2_with fail
          go_round
          case rel => exact ⟨e + 1, by go_num, by omega, by omega, HN⟩
          case measure => simp [intOf]; omega
        · have hcz : (¬ (e : Int) < (s.size : Int)) ∨ ((e : Int) < (s.size : Int) ∧ ∃ h : e < s.size, ((s[e].toNat : Int) != 32) = false ∧ ((s[e].toNat : Int) == 32) = true) := by
            by_cases h : e < s.size
            · refine Or.inr ⟨by omega, h, ?_⟩
              have q : bt s e = 32 := by rcases hcut with c | c; omega; exact c
              rw [← bt_eq s e h, q]; decide
            · exact Or.inl (by omega)
          by_cases hfk : k < e
          · have HN := Lib.hid (spS_cut HE.out hcut hfk)
            have hfz : (k : Int) < (e : Int) := by omega
            clear hcut
            rcases hcz with hcz | ⟨hcz, hks, hq1, hq2⟩
            all_goals
              have hrow : ∀ q, u3.ownBlock = some q → w.heap.size ≤ q := fun q hq => (World.ownsRow.lt HO.out q hq).1
              go_wp2_with (at_builtin; refine wpList_append_own _ rfl _ _ 24 rfl w.heap.size 9 i0 (.string ByteArray.empty) 1 16 Try.underlying24 hi hz0 hz1 hz2 rfl (by decide) _ _ _ rfl (HO.out.alloc _) ⟨wr.heap.size, 0, none⟩ 1 1 [.string (s.extract k e)] rfl rfl (cell_one_new _ _ _) (by simp [Value.oneCell']) (by unfold maxLen; omega) (by omega) (by have := HB.out.size; simp; omega) ?_; intro v' w3 hown' hgrow _; have HO3 : Hid (w3.ownsRow w.heap.size 9 1 v' (L ++ [s.extract k e]).length (strs18 (L ++ [s.extract k e]))) := Lib.hid (by rw [strs18_snoc, List.length_append, List.length_singleton]; exact hown'); have HB3 : Hid (Below w.heap.size w w3) := Lib.hid ((HB.out.alloc HB.out.size _).trans (below_grownW hgrow hrow (by have := HB.out.size; simp; omega))); clear hown' hgrow hrow)
              go_roundw
              case rel => exact ⟨e + 1, L ++ [s.extract k e], by go_num, by omega, by rw [List.length_append, List.length_singleton]; omega, HO3.out, HB3, HN⟩
              case measure => simp [intOf]; omega
          · have HN := Lib.hid (spS_no HE.out hcut hfk)
            have hfz : ¬ (k : Int) < (e : Int) := by omega
            clear hcut
            rcases hcz with hcz | ⟨hcz, hks, hq1, hq2⟩
            all_goals
              go_wp2_with fail
              go_roundw
              case rel => exact ⟨e + 1, L, by go_num, by omega, by omega, HO.out, HB, HN⟩
              case measure => simp [intOf]; omega
    · have hlz : ¬ (k : Int) < (s.size : Int) := by omega
      have hLL : L = all := by
        have h1 := HS.out
        have h2 := HALL.out
        unfold wordsS at h2
        by_cases e : k = s.size + 1
        · rw [← e, h1] at h2; exact h2
        · have e2 : k = s.size := by omega
          rw [← e2, spS_no h1 (Or.inl (by omega)) (by omega)] at h2; exact h2
      subst hLL
      obtain ⟨a, c, hv, h1, h2, h3⟩ := ws_own HO.out
      subst hv
      have H3 := Lib.hid h3
      clear h3 HO
      go_wp2_with fail
      go_ret
      exact ⟨a, c, rfl, h1, h2, HB.out, H3.out⟩

theorem totL_le {L : List ByteArray} {m : Nat} (h : ∀ x ∈ L, x.size ≤ m) : totL L ≤ (800 * m + 250) * L.length := by
  have hs : ∀ L : List ByteArray, (∀ x ∈ L, x.size ≤ m) → sumL L ≤ 800 * m * L.length := by
    intro L
    induction L with
    | nil => intro _; simp [sumL]
    | cons x L ih =>
      intro h
      have h1 := ih fun y hy => h y (List.mem_cons_of_mem _ hy)
      have h2 := (awK_bd x x.size).2
      have h3 := h x List.mem_cons_self
      simp only [sumL, List.length_cons]
      unfold aw
      have e : (800 * (m : Int)) * ((L.length + 1 : Nat) : Int) = 800 * (m : Int) * (L.length : Int) + 800 * (m : Int) := by rw [Int.natCast_add, Int.mul_add]; simp
      rw [e]; omega
  have h1 := hs L h
  unfold totL
  have e : (800 * (m : Int) + 250) * (L.length : Int) = 800 * (m : Int) * (L.length : Int) + 250 * (L.length : Int) := by rw [Int.add_mul]
  rw [e]; omega

set_option maxRecDepth 100000 in
set_option maxHeartbeats 4000000 in
theorem refWidth18_any (a : Option Addr) (L : List ByteArray) (n cap : Nat) (f t : Nat) (font : Int) (w : World) (hn : L.length = n) (hl : n ≤ 1000) (hft : f ≤ t) (htn : t ≤ n) (hx : ∀ x ∈ L, x.size ≤ 1000) (hW : WS w a L) :
    Calls Try.prog 15 #[.slice a n cap, .int .i64 (f : Int), .int .i64 (t : Int), .int .i64 font] w fun e w' => e = .returned (.int .i64 (wid font (seg L f t))) ∧ w = w' := by
  have HWS := Lib.hid hW
  have HX := Lib.hid hx
  have HN := Lib.hid hn
  obtain ⟨v, hv⟩ : ∃ v, wid font (seg L f t) = v := ⟨_, rfl⟩
  rw [hv]
  have HV := Lib.hid hv
  have HTB : Hid (∀ k, k ≤ t → 0 ≤ totL (seg L f k) ∧ totL (seg L f k) ≤ 801000000) := Lib.hid (fun k hk => ⟨totL_nonneg _, by
    have h1 := totL_le (L := seg L f k) (m := 1000) (fun x hx' => hx x (List.mem_of_mem_take (List.mem_of_mem_drop hx')))
    rw [seg_len (by omega)] at h1
    omega⟩)
  clear hW hx hn hv
  go_enter Try.func15, Try.ntmps15
  go_wp2_with fail
  go_loop [10, 9] (fun vi vn => ∃ (k : Nat) (m : Int), vi = .int .i64 (k : Int) ∧ vn = .int .i64 m ∧ f ≤ k ∧ k ≤ t ∧ Hid (m = totL (seg L f k))) (fun vi _ => t - (intOf vi).toNat)
  case atStart => exact ⟨f, 0, rfl, rfl, by omega, by omega, Lib.hid (by rw [seg_nil]; rfl)⟩
  case round =>
    obtain ⟨k, m, rfl, rfl, hfk, hkt, HM⟩ := hrel
    have hmb := HTB.out k hkt
    rw [← HM.out] at hmb
    obtain ⟨hm0, hm1⟩ := hmb
    by_cases hlt : k < t
    · have hkl : k < L.length := by have := HN.out; omega
      have hltz : (k : Int) < (t : Int) := by omega
      obtain ⟨b, o, rfl, hbw, hc⟩ := HWS.out.at_ hkl
      obtain ⟨x, hxk⟩ : ∃ x, L[k] = x := ⟨_, rfl⟩
      rw [hxk] at hc
      have hxs : x.size ≤ 1000 := by rw [← hxk]; exact HX.out _ (List.getElem_mem hkl)
      have hz : (k : Int) < (n : Int) := by omega
      have hzn : k < n := by omega
      have HSG : Hid (totL (seg L f (k + 1)) = m + (if k = f then 0 else 250) + awK x x.size) := Lib.hid (by
        rw [seg_snoc hfk hkl, totL_snoc, hxk, HM.out, seg_len (by omega)]
        by_cases e : k = f
        · rw [if_pos (by omega), if_pos e]; rfl
        · rw [if_neg (by omega), if_neg e]; rfl)
      obtain ⟨m1, hm1e⟩ : ∃ m1, m + (if k = f then 0 else 250) = m1 := ⟨_, rfl⟩
      rw [hm1e] at HSG
      have hm1b : 0 ≤ m1 ∧ m1 ≤ 801000250 := by rw [← hm1e]; split <;> omega
      have hway : (¬ (f : Int) < (k : Int) ∧ m1 = m) ∨ ((f : Int) < (k : Int) ∧ m1 = m + 250) := by
        by_cases e : k = f
        · left; rw [if_pos e] at hm1e; omega
        · right; rw [if_neg e] at hm1e; omega
      clear hxk hm1e HM
      rcases hway with ⟨hw1, hw2⟩ | ⟨hw1, hw2⟩
      all_goals
        have HW2 := Lib.hid hw2
        clear hw2
        go_wp2_with fail
        go_loop [11, 9] (fun vj vn => ∃ j : Nat, vj = .int .i64 (j : Int) ∧ vn = .int .i64 (m1 + awK x j) ∧ j ≤ x.size) (fun vj _ => x.size - (intOf vj).toNat)
        case atStart => exact ⟨0, rfl, by simp only [awK]; rw [HW2.out]; simp, by omega⟩
        case round =>
          obtain ⟨j, rfl, rfl, hj⟩ := hrel
          obtain ⟨ab0, ab1⟩ := awK_bd x j
          by_cases hjx : j < x.size
          · have C := Lib.hid (refAdvance18_any (x[j].toNat : Int))
            have HAW : Hid (awK x (j + 1) = awK x j + advB (x[j].toNat : Int)) := Lib.hid (by rw [← bt_eq x j hjx]; rfl)
            have hjz : (j : Int) < (x.size : Int) := by omega
            obtain ⟨ad0, ad1⟩ := advB_bd (x[j].toNat : Int)
            obtain ⟨ad, had⟩ : ∃ ad, advB (x[j].toNat : Int) = ad := ⟨_, rfl⟩
            rw [had] at C HAW ad0 ad1
            obtain ⟨aj, haj⟩ : ∃ aj, awK x j = aj := ⟨_, rfl⟩
            rw [haj] at HAW ab0 ab1 ⊢
            clear had haj
            go_wp2_with fail
            refine (C.out _).mono ?_
            rintro e w1 ⟨rfl, rfl⟩
            go_wp2_with fail
            go_round
            case rel => exact ⟨j + 1, by go_num, by rw [HAW.out, Int.add_assoc], by omega⟩
            case measure => simp [intOf]; omega
          · have hje : j = x.size := by omega
            have hjz : ¬ (j : Int) < (x.size : Int) := by omega
            have HM2 : Hid (m1 + awK x j = totL (seg L f (k + 1))) := Lib.hid (by rw [HSG.out, hje])
            obtain ⟨m2, hm2⟩ : ∃ m2, m1 + awK x j = m2 := ⟨_, rfl⟩
            rw [hm2] at HM2 ⊢
            clear hm2 hje
            go_wp2_with fail
            go_round
            case rel => exact ⟨k + 1, m2, by go_num, rfl, by omega, by omega, HM2⟩
            case measure => simp [intOf]; omega
    · have hke : k = t := by omega
      have hltz : ¬ (k : Int) < (t : Int) := by omega
      have HVA : Hid (PT font m 1000 = v) := Lib.hid (by rw [← HV.out, HM.out, hke]; rfl)
      clear hke HM
      go_wp2_with fail
      refine (refPart_any _ _ _ _).mono ?_
      rintro e w2 ⟨rfl, rfl⟩
      go_wp2_with fail
      go_ret
      exact ⟨by rw [HVA.out]; rfl, rfl⟩
end Go.Proofs.Ytekmgpbolbkiaaa
