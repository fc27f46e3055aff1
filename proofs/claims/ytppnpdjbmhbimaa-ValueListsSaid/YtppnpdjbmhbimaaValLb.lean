/- Joined texts: ValL3 ValL4. -/
import Derived.Test.YtppnpdjbmhbimaaValQ
import Derived.Test.YtppnpdjbmhbimaaValKa
import Derived.Test.YtppnpdjbmhbimaaValRt
import Derived.Test.YtppnpdjbmhbimaaLexSb
namespace Go.Proofs.Ytppnpdjbmhbimaa
open Go.RowKit TreN LexP FixP SynP ValP FixM
set_option linter.unusedVariables false

theorem words_nm : ∀ x ∈ wordsL, startsL x = true ∧ ∀ c ∈ x, gB c = true := by decide +kernel
theorem units_nm : ∀ x ∈ unitsL, startsL x = true ∧ ∀ c ∈ x, gB c = true := by decide +kernel
theorem bt_nm {x : List UInt8} {i : Nat} (h : i < x.length) : bt ⟨x.toArray⟩ i = (x[i].toNat : Int) := by
  unfold bt
  rw [dif_pos (by show i < x.toArray.size; simpa using h)]
  rfl
theorem name_nm {x : List UInt8} (h : nameL x = true) : nm x := by
  unfold nameL nameB at h
  simp only [Bool.and_eq_true, decide_eq_true_eq] at h
  obtain ⟨h1, h2, h3⟩ := h
  have hsz : (⟨x.toArray⟩ : ByteArray).size = x.length := by show x.toArray.size = _; simp
  constructor
  · unfold begB at h2
    rw [hsz] at h2
    match x, h2 with
    | [], h2 => simp at h2
    | [c], h2 =>
      simp only [List.length_singleton, Nat.lt_irrefl, false_and, if_false, Nat.zero_lt_one, decide_true, Bool.true_and] at h2
      rw [bt_nm (x := [c]) (i := 0) (by simp)] at h2
      show (decide (c.toNat ≠ 45) && lB c) = true
      have h2 : letB (c.toNat : Int) = true := h2
      have hc : lB c = true := h2
      rw [hc, Bool.and_true, decide_eq_true_eq]
      intro e
      unfold letB at h2
      rw [decide_eq_true_eq] at h2
      omega
    | c :: d :: r, h2 =>
      rw [bt_nm (x := c :: d :: r) (i := 0) (by simp), bt_nm (x := c :: d :: r) (i := 1) (by simp)] at h2
      have e0 : ((c :: d :: r)[0]'(by simp)) = c := rfl
      have e1 : ((c :: d :: r)[1]'(by simp)) = d := rfl
      rw [e0, e1] at h2
      show (if c.toNat = 45 then lB d || decide (d.toNat = 45) else lB c) = true
      by_cases hc : c.toNat = 45
      · rw [if_pos ⟨by simp, by omega⟩] at h2
        rw [if_pos hc]
        simp only [Bool.or_eq_true, decide_eq_true_eq] at h2 ⊢
        rcases h2 with h2 | h2
        · right; omega
        · left; exact h2
      · rw [if_neg (by omega)] at h2
        rw [if_neg hc]
        simp only [Bool.and_eq_true, decide_eq_true_eq] at h2
        exact h2.2
  · intro c hc
    obtain ⟨i, hi, rfl⟩ := List.getElem_of_mem hc
    unfold allB at h3
    rw [List.all_eq_true] at h3
    have := h3 i (List.mem_range.2 (by rw [hsz]; exact hi))
    rw [bt_nm hi] at this
    exact this
theorem tok_shape {v : Val} {l : List Tok} (h : RV v l) : ∀ t ∈ l, Shape t := by
  have hin : ∀ (L : List (List UInt8)) (n : Int), 1 ≤ n → n ≤ L.length → txtP L n ∈ L := fun L n a b => txtP_in a b
  cases h with
  | word n a b =>
    intro t ht; rw [List.mem_singleton] at ht; subst ht
    exact Shape.ident _ (words_nm _ (hin wordsL n a (by show n ≤ 30; exact b)))
  | len n d a b c =>
    intro t ht; rw [List.mem_singleton] at ht; subst ht
    exact Shape.dim _ _ (units_nm _ (hin unitsL d b (by show d ≤ 8; exact c))) a.symm
  | pct n a => intro t ht; rw [List.mem_singleton] at ht; subst ht; exact Shape.pct _ a.symm
  | num n a => intro t ht; rw [List.mem_singleton] at ht; subst ht; exact Shape.num _ a.symm
  | rat n d a b c e =>
    intro t ht
    simp only [ratT, List.mem_cons, List.not_mem_nil, or_false] at ht
    have hd : delim 47 := by unfold delim; decide +kernel
    rcases ht with rfl | rfl | rfl | rfl | rfl
    · exact Shape.num _ (held_small (by omega) b).symm
    · exact Shape.space
    · exact Shape.one 47 hd
    · exact Shape.space
    · exact Shape.num _ (held_small (by omega) e).symm
  | name x a b => intro t ht; rw [List.mem_singleton] at ht; subst ht; exact Shape.ident _ (name_nm a)
theorem told_cell {W : World} {v : Value} {l : List Tok} {b : Nat} (h : W.ownsRow b 44 3 v l.length (tkcs l)) : ∃ a c, v = .slice a l.length c ∧ Tks W a l ∧ l.length ≤ c ∧ c ≤ maxLen := Tks_ownC h

theorem readV_back {v : Val} (h : rightV v = true) (more : List Tok) : readV ((tokV v ++ [⟨11, [], 0⟩]) ++ more) = (v, (tokV v).length) := by
  rw [List.append_assoc]
  exact read_tok h (over_semi more)
theorem readV_alone {v : Val} (h : rightV v = true) : readV (tokV v) = (v, (tokV v).length) := by
  have := read_tok h over_nil
  rwa [List.append_nil] at this
theorem txok_tok {v : Val} (h : rightV v = true) : TxOk (tokV v) := fun t ht => by
  have := (tok_texts (rv_of h)).2 t ht
  unfold maxLen; omega

set_option maxRecDepth 100000 in
set_option maxHeartbeats 8000000 in
theorem ValueBack_walk (k n d : Int) (nm : List UInt8) (a : Option Addr) (more : List Tok) (cap : Nat) (w : World) (hs : nm.length ≤ maxLen) (hc : more.length ≤ cap) (hm : cap ≤ maxLen) (hT : Tks w a more) (hx : TxOk more) :
    Calls Try.prog 6 #[.agg #[.int .i64 k, .int .i64 n, .int .i64 d, .string ⟨nm.toArray⟩], .slice a more.length cap] w fun e w' => e = .returned (.bool true) ∧ Below w.heap.size w w' := by
  have KN := Lib.hid known9_any
  have F := fun W => few9_any a more.length cap W (by omega)
  have HTM := Lib.hid (fun (W : World) (hW : Below w.heap.size w W) => hT.below hW)
  have hfx : (w.alloc (.cells #[.int .i64 k, .int .i64 n, .int .i64 d, .string ⟨nm.toArray⟩] 30)).heap[w.heap.size]? = some (.cells #[.int .i64 k, .int .i64 n, .int .i64 d, .string ⟨nm.toArray⟩] 30 (0, 0)) := heap_alloc_new w _
  have HBW := Lib.hid (below_one w (.cells #[.int .i64 k, .int .i64 n, .int .i64 d, .string ⟨nm.toArray⟩] 30))
  obtain ⟨M, hM⟩ : ∃ M, more.length = M := ⟨_, rfl⟩
  have HM := Lib.hid hM
  rw [hM] at F hc ⊢
  have HX := Lib.hid hx
  clear hT hM hx
  by_cases hf : M ≤ 300
  · have FF : Hid (∀ W : World, Calls Try.prog 20 #[.slice a M cap] W fun e w' => e = .returned (.bool true) ∧ w' = W) := Lib.hid fun W => by have := F W; rw [decide_eq_true hf] at this; exact this
    have R2 := fun W => refRight9_any k n d nm W hs
    have T1 := fun W => Tokens9_any k n d nm W hs
    unfold ToldCap at T1
    obtain ⟨L, hL⟩ : ∃ L, tokV ⟨k, n, d, nm⟩ = L := ⟨_, rfl⟩
    have hLn : rightV ⟨k, n, d, nm⟩ = false → L = [] := fun h => by rw [← hL, tokV_no h]
    have hLy : rightV ⟨k, n, d, nm⟩ = true → (∀ mo, readV ((L ++ [⟨11, [], 0⟩]) ++ mo) = (⟨k, n, d, nm⟩, L.length)) ∧ readV L = (⟨k, n, d, nm⟩, L.length) ∧ TxOk L ∧ (∀ t ∈ L, t.text.length ≤ 32) ∧ cut (printL L) = L := fun h => by
      rw [← hL]
      exact ⟨readV_back h, readV_alone h, txok_tok h, (tok_texts (rv_of h)).2, print_cut_nil _ (tok_shape (rv_of h))⟩
    have hm5 : L.length ≤ 5 := by rw [← hL]; exact tokV_le _
    rw [hL] at T1
    obtain ⟨m, hmm⟩ : ∃ m, L.length = m := ⟨_, rfl⟩
    rw [hmm] at T1 hm5 hLy
    have TT1 : Hid (∀ W : World, Calls Try.prog 18 #[.agg #[.int .i64 k, .int .i64 n, .int .i64 d, .string ⟨nm.toArray⟩]] W fun e w' => ∃ a c, e = .returned (.slice a m c) ∧ Hid (Tks w' a L ∧ Below W.heap.size W w' ∧ m ≤ c ∧ c ≤ maxLen)) := Lib.hid fun W => (T1 W).mono fun e w' ⟨a, c, h1, h2, h3, h4, h5⟩ => ⟨a, c, h1, h2, h3, h4, h5⟩
    have RR2 := Lib.hid R2
    have HMM := Lib.hid hmm
    have HLN := Lib.hid hLn
    have HLY := Lib.hid hLy
    generalize hW : w.alloc (.cells #[.int .i64 k, .int .i64 n, .int .i64 d, .string ⟨nm.toArray⟩] 30) = W at *
    obtain ⟨Bx, hBx⟩ : ∃ B, w.heap.size = B := ⟨_, rfl⟩
    rw [hBx] at hfx
    have HFX := Lib.hid hfx
    have c0 : W.cell? ⟨Bx, 0, none⟩ = some (.int .i64 k) := cell_of hfx rfl
    have c1 : W.cell? ⟨Bx, 1, none⟩ = some (.int .i64 n) := cell_of hfx rfl
    have c2 : W.cell? ⟨Bx, 2, none⟩ = some (.int .i64 d) := cell_of hfx rfl
    have c3 : W.cell? ⟨Bx, 3, none⟩ = some (.string ⟨nm.toArray⟩) := cell_of hfx rfl
    have hBl := blk_lt9 hfx
    clear F R2 T1 hL hLn hLy hmm hfx
    go_enter Try.func6, Try.ntmps6
    go_wp2_with fail
    refine (FF.out _).mono ?_
    rintro e w1 ⟨rfl, hw1⟩
    have hw1' := hw1.symm
    clear hw1
    subst hw1'
    go_wp2_with fail
    refine (TT1.out _).mono ?_
    rintro e w2 ⟨a2, k2, rfl, HF⟩
    have HB2 := Lib.hid (HBW.out.trans (HF.out.2.1.mono HBW.out.size))
    have hfx2 := (HF.out.2.1.block _ hBl).trans HFX.out
    have d0 : w2.cell? ⟨Bx, 0, none⟩ = some (.int .i64 k) := cell_of hfx2 rfl
    have d1 : w2.cell? ⟨Bx, 1, none⟩ = some (.int .i64 n) := cell_of hfx2 rfl
    have d2 : w2.cell? ⟨Bx, 2, none⟩ = some (.int .i64 d) := cell_of hfx2 rfl
    have d3 : w2.cell? ⟨Bx, 3, none⟩ = some (.string ⟨nm.toArray⟩) := cell_of hfx2 rfl
    have HFX2 := Lib.hid hfx2
    have hBl2 := blk_lt9 hfx2
    clear hfx2 c0 c1 c2 c3
    cases hr : rightV ⟨k, n, d, nm⟩ with
    | false =>
      have RN : Hid (∀ W : World, Calls Try.prog 16 #[.agg #[.int .i64 k, .int .i64 n, .int .i64 d, .string ⟨nm.toArray⟩]] W fun e w' => e = .returned (.bool false) ∧ Below W.heap.size W w') := Lib.hid fun W => by have := RR2.out W; rw [hr] at this; exact this
      have hm0 : m = 0 := by rw [← HMM.out, HLN.out hr]; rfl
      subst hm0
      clear hr RR2
      go_wp2_with fail
      refine (RN.out _).mono ?_
      rintro e w3 ⟨rfl, hb3⟩
      have HB3 := Lib.hid (HB2.out.trans (hb3.mono HB2.out.size))
      clear hb3
      go_wp2_with fail
      refine (KN.out _).mono ?_
      rintro e w4 ⟨rfl, hb4⟩
      have HB4 := Lib.hid (HB3.out.trans (hb4.mono HB3.out.size))
      clear hb4
      go_wp2_with fail
      go_ret
      exact ⟨rfl, HB4.out⟩
    | true =>
      have RN : Hid (∀ W : World, Calls Try.prog 16 #[.agg #[.int .i64 k, .int .i64 n, .int .i64 d, .string ⟨nm.toArray⟩]] W fun e w' => e = .returned (.bool true) ∧ Below W.heap.size W w') := Lib.hid fun W => by have := RR2.out W; rw [hr] at this; exact this
      obtain ⟨y1, y2, y3, y4, y5⟩ := HLY.out hr
      have Y1 := Lib.hid (y1 more)
      have Y2 := Lib.hid y2
      have Y3 := Lib.hid y3
      have Y4 := Lib.hid y4
      have Y5 := Lib.hid y5
      clear hr RR2 y1 y2 y3 y4 y5 HLY HLN
      go_wp2_with fail
      refine (RN.out _).mono ?_
      rintro e w3 ⟨rfl, hb3⟩
      have HB3 := Lib.hid (HB2.out.trans (hb3.mono HB2.out.size))
      have hT3 := HF.out.1.below hb3
      have hfx3 := (hb3.block _ hBl2).trans HFX2.out
      -- the first append
      obtain ⟨v4, w4, hr4, hown4, hb4⟩ := app_toks w3.heap.size (.slice none 0 0) [] a2 L k2 w3 (Nat.le_refl _) (by simp) (by rw [HMM.out]; omega) (World.ownsRow_nil _ _ _ 3) hT3
      rw [HMM.out] at hr4
      rw [List.nil_append] at hown4
      have hsz4 := hb4.size
      -- the second
      obtain ⟨v5, w5, hr5, hown5, hb5⟩ := app_toks w3.heap.size v4 L (some ⟨w4.heap.size, 0, none⟩) [⟨11, [], 0⟩] 1 (w4.alloc (.cells #[.int .i64 11, .string ⟨#[]⟩, .int .i64 0] 44)) (by simp; omega) (by rw [HMM.out]; omega) (by simp) (hown4.alloc _) (made_toks w4 [⟨11, [], 0⟩])
      have hb5' : Below w3.heap.size w3 w5 := (hb4.alloc hsz4 _).trans hb5
      have hT5 := HTM.out w5 (HB3.out.trans (hb5'.mono HB3.out.size))
      -- the third
      obtain ⟨v6, w6, hr6, hown6, hb6⟩ := app_toks w3.heap.size v5 (L ++ [⟨11, [], 0⟩]) a more cap w5 hb5'.size (by rw [List.length_append, HMM.out]; simp; omega) (by rw [HM.out]; omega) hown5 hT5
      rw [HM.out] at hr6
      have hb6' : Below w3.heap.size w3 w6 := hb5'.trans hb6
      obtain ⟨a6, c6, hv6, hT6, hc6, hcm6⟩ := Tks_ownC hown6
      have hlen6 : ((L ++ [(⟨11, [], 0⟩ : Tok)]) ++ more).length = m + 1 + M := by rw [List.length_append, List.length_append, HMM.out, HM.out]; rfl
      have RD := Read9_any a6 _ c6 w6 hc6 hcm6 hT6 (fun t ht => by
        rcases List.mem_append.1 ht with ht | ht
        · rcases List.mem_append.1 ht with ht | ht
          · exact Y3.out t ht
          · rw [List.mem_singleton] at ht; subst ht; exact Nat.zero_le _
        · exact HX.out t ht)
      rw [Y1.out, hlen6] at RD
      rw [hlen6] at hv6
      have RD2 : Hid (Calls Try.prog 21 #[.slice a6 (m + 1 + M) c6] w6 fun e w' => e = .returned (.tuple #[.agg #[.int .i64 k, .int .i64 n, .int .i64 d, .string ⟨nm.toArray⟩], .int .i64 (m : Nat)]) ∧ Below w6.heap.size w6 w') := Lib.hid RD
      subst hv6
      have HR4 := Lib.hid hr4
      have HR5 := Lib.hid hr5
      have HR6 := Lib.hid hr6
      have HB6 := Lib.hid (HB3.out.trans (hb6'.mono HB3.out.size))
      have hT6L := hT3.below hb6'
      have HT6L := Lib.hid hT6L
      have HFX6 := Lib.hid ((hb6'.block _ (blk_lt9 hfx3)).trans hfx3)
      clear hb3 hT3 hfx3 hr4 hown4 hb4 hr5 hown5 hb5 hb5' hT5 hr6 hown6 hb6 hb6' hT6 hc6 hcm6 hlen6 RD hT6L d0 d1 d2 d3 hsz4
      go_wp2_with (first
        | (at_builtin; refine wpList_append_runL rfl _ _ 33 rfl _ _ _ _ rfl rfl HR4.out ?_)
        | (at_builtin; refine wpList_append_runL rfl _ _ 33 rfl _ _ _ _ rfl rfl HR5.out ?_)
        | (at_builtin; refine wpList_append_runL rfl _ _ 33 rfl _ _ _ _ rfl rfl HR6.out ?_))
      refine RD2.out.mono ?_
      rintro e w7 ⟨rfl, hb7⟩
      have hfx7 := (hb7.block _ (blk_lt9 HFX6.out)).trans HFX6.out
      have HFX7 := Lib.hid ((Below.heap_alloc w7 (.cells #[.int .i64 k, .int .i64 n, .int .i64 d, .string ⟨nm.toArray⟩] 30) _ (blk_lt9 hfx7)).trans hfx7)
      have HN7 := Lib.hid (heap_alloc_new w7 (.cells #[.int .i64 k, .int .i64 n, .int .i64 d, .string ⟨nm.toArray⟩] 30))
      have HB7 := Lib.hid ((HB6.out.trans (hb7.mono HB6.out.size)).alloc (HB6.out.trans (hb7.mono HB6.out.size)).size (.cells #[.int .i64 k, .int .i64 n, .int .i64 d, .string ⟨nm.toArray⟩] 30))
      have HT7 := Lib.hid ((HT6L.out.below hb7).below (below_one w7 (.cells #[.int .i64 k, .int .i64 n, .int .i64 d, .string ⟨nm.toArray⟩] 30)))
      obtain ⟨B7, hB7⟩ : ∃ B, w7.heap.size = B := ⟨_, rfl⟩
      rw [hB7] at HN7
      clear hb7 hfx7
      go_upto_region 10 with (fail)
      clear hB7
      generalize w7.alloc (.cells #[.int .i64 k, .int .i64 n, .int .i64 d, .string ⟨nm.toArray⟩] 30) = w8 at *
      have PR := refPr_any a2 L k2 w8 (by rw [HMM.out]; omega) (by rw [HMM.out]; exact HF.out.2.2.1) HT7.out (fun t ht => by have := Y4.out t ht; omega)
      rw [HMM.out] at PR
      have PRR := Lib.hid PR
      have hlp : (printL L).length ≤ 20000 := by
        have h1 := printL_le L
        have h2 := tot_short L (fun t ht => by have := Y4.out t ht; omega) len_txS
        rw [HMM.out] at h2
        omega
      have CT := fun (W : World) => refCut_cap ⟨(printL L).toArray⟩ W (by show (printL L).toArray.size ≤ 40000; simp; omega)
      have ez : (⟨(printL L).toArray⟩ : ByteArray).data.toList = printL L := by simp
      rw [ez, Y5.out] at CT
      unfold ToldCap at CT
      rw [HMM.out] at CT
      have CC := Lib.hid CT
      generalize printL L = ps at *
      clear PR CT ez
      go_wp2_with fail
      refine PRR.out.mono ?_
      rintro e w9 ⟨rfl, hb9⟩
      have HB9 := Lib.hid (HB7.out.trans (hb9.mono HB7.out.size))
      have HFX9 := Lib.hid ((hb9.block _ (blk_lt9 HFX7.out)).trans HFX7.out)
      have HN9 := Lib.hid ((hb9.block _ (blk_lt9 HN7.out)).trans HN7.out)
      clear hb9
      go_wp2_with fail
      refine (CC.out _).mono ?_
      rintro e w10 ⟨a10, c10, rfl, hT10, hb10, q1, q2⟩
      have HB10 := Lib.hid (HB9.out.trans (hb10.mono HB9.out.size))
      have HFX10 := Lib.hid ((hb10.block _ (blk_lt9 HFX9.out)).trans HFX9.out)
      have HN10 := Lib.hid ((hb10.block _ (blk_lt9 HN9.out)).trans HN9.out)
      have RE := Read9_any a10 L c10 w10 (by rw [HMM.out]; exact q1) q2 hT10 Y3.out
      rw [Y2.out, HMM.out] at RE
      have RE2 : Hid (Calls Try.prog 21 #[.slice a10 m c10] w10 fun e w' => e = .returned (.tuple #[.agg #[.int .i64 k, .int .i64 n, .int .i64 d, .string ⟨nm.toArray⟩], .int .i64 (m : Nat)]) ∧ Below w10.heap.size w10 w') := Lib.hid RE
      clear hb10 hT10 q1 q2 RE
      go_wp2_with fail
      refine RE2.out.mono ?_
      rintro e w11 ⟨rfl, hb11⟩
      have HB11 := Lib.hid (HB10.out.trans (hb11.mono HB10.out.size))
      have hfx11 := (hb11.block _ (blk_lt9 HFX10.out)).trans HFX10.out
      have hn11 := (hb11.block _ (blk_lt9 HN10.out)).trans HN10.out
      have d0 : w11.cell? ⟨Bx, 0, none⟩ = some (.int .i64 k) := cell_of hfx11 rfl
      have d1 : w11.cell? ⟨Bx, 1, none⟩ = some (.int .i64 n) := cell_of hfx11 rfl
      have d2 : w11.cell? ⟨Bx, 2, none⟩ = some (.int .i64 d) := cell_of hfx11 rfl
      have d3 : w11.cell? ⟨Bx, 3, none⟩ = some (.string ⟨nm.toArray⟩) := cell_of hfx11 rfl
      have e0 : w11.cell? ⟨B7, 0, none⟩ = some (.int .i64 k) := cell_of hn11 rfl
      have e1 : w11.cell? ⟨B7, 1, none⟩ = some (.int .i64 n) := cell_of hn11 rfl
      have e2 : w11.cell? ⟨B7, 2, none⟩ = some (.int .i64 d) := cell_of hn11 rfl
      have e3 : w11.cell? ⟨B7, 3, none⟩ = some (.string ⟨nm.toArray⟩) := cell_of hn11 rfl
      have hl1 := blk_lt9 hfx11
      have hl2 := blk_lt9 hn11
      have EQ := fun W => val_eql k n d k n d nm nm W
      rw [decide_eq_true rfl] at EQ
      have HBA := Lib.hid (HB11.out.alloc HB11.out.size (.cells #[.int .i64 k, .int .i64 n, .int .i64 d, .string ⟨nm.toArray⟩] 30))
      clear hb11 hfx11 hn11
      go_wp2_with fail
      refine (KN.out _).mono ?_
      rintro e w12 ⟨rfl, hb12⟩
      have HB12 := Lib.hid (HBA.out.trans (hb12.mono HBA.out.size))
      clear hb12
      go_wp2_with fail
      go_ret
      exact ⟨rfl, HB12.out⟩
  · have FF : Hid (∀ W : World, Calls Try.prog 20 #[.slice a M cap] W fun e w' => e = .returned (.bool false) ∧ w' = W) := Lib.hid fun W => by have := F W; rw [decide_eq_false hf] at this; exact this
    clear F hfx
    go_enter Try.func6, Try.ntmps6
    go_wp2_with fail
    refine (FF.out _).mono ?_
    rintro e w1 ⟨rfl, hw1⟩
    have hw1' := hw1.symm
    clear hw1
    subst hw1'
    go_wp2_with fail
    refine (KN.out _).mono ?_
    rintro e w4 ⟨rfl, hb4⟩
    have HB4 := Lib.hid (HBW.out.trans (hb4.mono HBW.out.size))
    clear hb4
    go_wp2_with fail
    go_ret
    exact ⟨rfl, HB4.out⟩
end Go.Proofs.Ytppnpdjbmhbimaa

namespace Go.Proofs.Ytppnpdjbmhbimaa
open Go.RowKit TreN LexP FixP SynP ValP FixM
set_option linter.unusedVariables false

theorem tailJ_len : ∀ r : List Val, (tailJ r).length ≤ 7 * r.length
  | [] => Nat.le_refl _
  | u :: r => by
    have h1 := tailJ_len r
    have h2 := tokV_le u
    have e : tailJ (u :: r) = spc :: spc :: (tokV u ++ tailJ r) := by simp [tailJ]
    rw [e]
    simp only [List.length_cons, List.length_append]; omega
theorem joinJ_len : ∀ l : List Val, (joinJ l).length ≤ 7 * l.length
  | [] => Nat.le_refl _
  | v :: r => by
    have h1 := tailJ_len r
    have h2 := tokV_le v
    simp only [joinJ, List.length_cons, List.length_append]; omega
theorem joinJ_ok {l : List Val} (h : ∀ v ∈ l, rightV v = true) : TxOk (joinJ l) := by
  have ht : ∀ r : List Val, (∀ v ∈ r, rightV v = true) → TxOk (tailJ r) := by
    intro r
    induction r with
    | nil => intro _ t ht; cases ht
    | cons u r ih =>
      intro hr t ht
      have e : tailJ (u :: r) = spc :: spc :: (tokV u ++ tailJ r) := by simp [tailJ]
      rw [e] at ht
      rcases List.mem_cons.1 ht with rfl | ht
      · exact Nat.zero_le _
      rcases List.mem_cons.1 ht with rfl | ht
      · exact Nat.zero_le _
      rcases List.mem_append.1 ht with ht | ht
      · exact txok_tok (hr u (by simp)) t ht
      · exact ih (fun v hv => hr v (List.mem_cons_of_mem _ hv)) t ht
  cases l with
  | nil => intro t ht; cases ht
  | cons v r =>
    intro t hh
    rcases List.mem_append.1 (show t ∈ tokV v ++ tailJ r from hh) with hh | hh
    · exact txok_tok (h v (by simp)) t hh
    · exact ht r (fun u hu => h u (List.mem_cons_of_mem _ hu)) t hh

set_option maxRecDepth 100000 in
set_option maxHeartbeats 8000000 in
theorem ValueLists_walk (a : Option Addr) (l : List Val) (cap : Nat) (w : World) (hc : l.length ≤ cap) (hm : cap ≤ maxLen) (hT : Vs w a l) (hx : ∀ v ∈ l, v.name.length ≤ maxLen) :
    Calls Try.prog 7 #[.slice a l.length cap] w fun e w' => e = .returned (.bool true) ∧ Below w.heap.size w w' := by
  have KN := Lib.hid known9_any
  have HTM := Lib.hid (fun (W : World) (hW : Below w.heap.size w W) => hT.below hW)
  obtain ⟨N, hN⟩ : ∃ N, l.length = N := ⟨_, rfl⟩
  have HN := Lib.hid hN
  have HX := Lib.hid hx
  rw [hN] at hc ⊢
  have hcz : N ≤ 9223372036854775807 := by unfold maxLen at hm; omega
  have HBW := Lib.hid (Below.refl w.heap.size w)
  clear hT hN hx hc hm
  by_cases h1 : N ≤ 30
  · by_cases h2 : N = 0
    · subst h2
      go_enter Try.func7, Try.ntmps7
      go_wp2_with fail
      refine (KN.out _).mono ?_
      rintro e w4 ⟨rfl, hb4⟩
      have HB4 := Lib.hid hb4
      clear hb4
      go_wp2_with fail
      go_ret
      exact ⟨rfl, HB4.out⟩
    · have hz1 : ¬ (30 : Int) < (N : Int) := by omega
      have hz2 : ((N : Int) == 0) = false := by rw [beq_eq_false_iff_ne]; omega
      have hz3 : ¬ 30 < N := by omega
      go_enter Try.func7, Try.ntmps7
      go_wp2_with fail
      go_loopw [3, 4] (fun v3 v4 wr => ∃ k : Nat, v4 = .int .i64 (k : Int) ∧ k ≤ N ∧ wr.ownsRow w.heap.size 44 3 v3 (joinJ (l.take k)).length (tkcs (joinJ (l.take k))) ∧ Hid (Below w.heap.size w wr) ∧ Hid (∀ v ∈ l.take k, rightV v = true)) (fun _ v4 _ => N - (intOf v4).toNat)
      case atStart => exact ⟨0, rfl, by omega, World.ownsRow_nil _ _ _ 3, HBW, Lib.hid (fun v hv => by cases hv)⟩
      case round =>
        obtain ⟨k, rfl, hk, hown, HB, HR⟩ := hrel
        have HO := Lib.hid hown
        clear hown
        have hJ := joinJ_len (l.take k)
        have hJ2 : (joinJ (l.take k)).length ≤ 210 := by rw [List.length_take, HN.out] at hJ; omega
        have HJ := Lib.hid hJ2
        clear hJ hJ2
        by_cases hlt : k < N
        · have hltz : (k : Int) < (N : Int) := by omega
          have hkl : k < l.length := by rw [HN.out]; exact hlt
          have hk0 : (0 : Int) ≤ (k : Int) := by omega
          rcases HTM.out wr HB.out with h | ⟨b, o, rfl, hb, hcl⟩
          · rw [h] at hkl; simp at hkl
          obtain ⟨d0, d1, d2, d3⟩ := hcl k hkl
          have hxk := HX.out _ (List.getElem_mem hkl)
          have htk : l.take (k + 1) = l.take k ++ [l[k]] := List.take_succ_eq_append_getElem hkl
          obtain ⟨v, hv⟩ : ∃ v, l[k] = v := ⟨_, rfl⟩
          rw [hv] at d0 d1 d2 d3 hxk htk
          obtain ⟨vk, vn, vd, vx⟩ := v
          have RR := Lib.hid (fun W => refRight9_any vk vn vd vx W hxk)
          have T1 := fun W => Tokens9_any vk vn vd vx W hxk
          unfold ToldCap at T1
          have hm5 := tokV_le ⟨vk, vn, vd, vx⟩
          have HTK := Lib.hid htk
          clear hcl hkl htk hv hxk
          cases hr : rightV ⟨vk, vn, vd, vx⟩ with
          | false =>
            have RN : Hid (∀ W : World, Calls Try.prog 16 #[.agg #[.int .i64 vk, .int .i64 vn, .int .i64 vd, .string ⟨vx.toArray⟩]] W fun e w' => e = .returned (.bool false) ∧ Below W.heap.size W w') := Lib.hid fun W => by have := RR.out W; rw [hr] at this; exact this
            clear hr RR T1 hm5
            go_wp2_with fail
            refine (RN.out _).mono ?_
            rintro e w3 ⟨rfl, hb3⟩
            have HB3 := Lib.hid (HB.out.trans (hb3.mono HB.out.size))
            clear hb3
            go_wp2_with fail
            refine (KN.out _).mono ?_
            rintro e w4 ⟨rfl, hb4⟩
            have HB4 := Lib.hid (HB3.out.trans (hb4.mono HB3.out.size))
            clear hb4
            go_wp2_with fail
            go_ret
            exact ⟨rfl, HB4.out⟩
          | true =>
            have RN : Hid (∀ W : World, Calls Try.prog 16 #[.agg #[.int .i64 vk, .int .i64 vn, .int .i64 vd, .string ⟨vx.toArray⟩]] W fun e w' => e = .returned (.bool true) ∧ Below W.heap.size W w') := Lib.hid fun W => by have := RR.out W; rw [hr] at this; exact this
            have HRN : Hid (∀ v ∈ l.take (k + 1), rightV v = true) := Lib.hid (by
              rw [HTK.out]
              intro v hv
              rcases List.mem_append.1 hv with hv | hv
              · exact HR.out v hv
              · rw [List.mem_singleton] at hv; subst hv; exact hr)
            have hjs := joinJ_snoc (l.take k) ⟨vk, vn, vd, vx⟩
            obtain ⟨L, hL⟩ : ∃ L, tokV ⟨vk, vn, vd, vx⟩ = L := ⟨_, rfl⟩
            rw [hL] at hjs T1 hm5
            obtain ⟨m, hmm⟩ : ∃ m, L.length = m := ⟨_, rfl⟩
            have HMM := Lib.hid hmm
            rw [hmm] at T1 hm5
            have TT1 : Hid (∀ W : World, Calls Try.prog 18 #[.agg #[.int .i64 vk, .int .i64 vn, .int .i64 vd, .string ⟨vx.toArray⟩]] W fun e w' => ∃ a c, e = .returned (.slice a m c) ∧ Hid (Tks w' a L ∧ Below W.heap.size W w')) := Lib.hid fun W => (T1 W).mono fun e w' ⟨a, c, h1, h2, h3, h4, h5⟩ => ⟨a, c, h1, h2, h3⟩
            have HJS := Lib.hid hjs
            clear hr RR T1 hjs hL hmm
            obtain ⟨J, hJe⟩ : ∃ J, joinJ (l.take k) = J := ⟨_, rfl⟩
            have HO2 := HO.out
            have HJ2 := HJ.out
            rw [hJe] at HO2 HJ2
            have HJE := Lib.hid hJe
            have HOO := Lib.hid HO2
            clear HO2 hJe
            have hfin : ∀ (J2 : List Tok), J2 = J ++ (if l.take k = [] then [] else [spc, spc]) → J2 ++ L = joinJ (l.take (k + 1)) := fun J2 h => by rw [HTK.out, HJS.out, HJE.out, ← h]
            have HFIN := Lib.hid hfin
            have hn1 : 1 ≤ N - k := by omega
            clear hfin
            rcases Nat.eq_zero_or_pos k with hk00 | hk00
            · subst hk00
              have HF2 := Lib.hid (HFIN.out J (by simp))
              rw [Nat.zero_mul, Nat.add_zero] at d0 d1 d2 d3
              clear HFIN
              go_wp2_with fail
              refine (RN.out _).mono ?_
              rintro e w3 ⟨rfl, hb3⟩
              have HB3 := Lib.hid (HB.out.trans (hb3.mono HB.out.size))
              have HO3 := Lib.hid (ownsRow_below HOO.out hb3)
              have D0 := (hb3.cell (p := ⟨b, o, none⟩) hb).trans d0
              have D1 := (hb3.cell (p := ⟨b, o + 1, none⟩) hb).trans d1
              have D2 := (hb3.cell (p := ⟨b, o + 2, none⟩) hb).trans d2
              have D3 := (hb3.cell (p := ⟨b, o + 3, none⟩) hb).trans d3
              clear hb3 d0 d1 d2 d3
              go_wp2_with fail
              refine (TT1.out _).mono ?_
              rintro e w4 ⟨a4, c4, rfl, HF4⟩
              obtain ⟨v5, w5, hr5, hown5, hb5⟩ := app_toks w.heap.size u3 J a4 L c4 w4 (HB3.out.trans (HF4.out.2.mono HB3.out.size)).size (by omega) (by rw [HMM.out]; omega) (ownsRow_below HO3.out HF4.out.2) HF4.out.1
              rw [HMM.out] at hr5
              rw [HF2.out] at hown5
              have HB5 := Lib.hid ((HB3.out.trans (HF4.out.2.mono HB3.out.size)).trans hb5)
              have HR5 := Lib.hid hr5
              have HO5 := Lib.hid hown5
              clear hr5 hown5 hb5 D0 D1 D2 D3
              go_wp2_with (at_builtin; refine wpList_append_runL rfl _ _ 33 rfl _ _ _ _ rfl rfl HR5.out ?_)
              go_roundw
              case rel => exact ⟨1, by go_num, by omega, HO5.out, HB5, HRN⟩
              case measure => simp [intOf]; omega
            · have hkz : (0 : Int) < (k : Int) := by omega
              have hne : ¬ l.take k = [] := fun h => by
                have := congrArg List.length h
                rw [List.length_take, HN.out] at this
                simp at this; omega
              have HF2 := Lib.hid (HFIN.out (J ++ [spc, spc]) (by rw [if_neg hne]))
              clear HFIN hne
              go_wp2_with fail
              refine (RN.out _).mono ?_
              rintro e w3 ⟨rfl, hb3⟩
              have HB3 := Lib.hid (HB.out.trans (hb3.mono HB.out.size))
              have hO3 := ownsRow_below HOO.out hb3
              have hb' : b < w3.heap.size := Nat.lt_of_lt_of_le hb hb3.size
              have D0 := (hb3.cell (p := ⟨b, o + k * 4, none⟩) hb).trans d0
              have D1 := (hb3.cell (p := ⟨b, o + k * 4 + 1, none⟩) hb).trans d1
              have D2 := (hb3.cell (p := ⟨b, o + k * 4 + 2, none⟩) hb).trans d2
              have D3 := (hb3.cell (p := ⟨b, o + k * 4 + 3, none⟩) hb).trans d3
              have hwb := HB3.out.size
              have HTX := HTM.out
              obtain ⟨v4, w4, hr4, hown4, hb4⟩ := app_toks w.heap.size u3 J (some ⟨w3.heap.size, 0, none⟩) [spc, spc] 2 (w3.alloc (.cells #[.int .i64 20, .string ⟨#[]⟩, .int .i64 0, .int .i64 20, .string ⟨#[]⟩, .int .i64 0] 44)) (by simp; omega) (by omega) (by simp) (hO3.alloc _) (made_toks w3 [spc, spc])
              have HB4 := Lib.hid ((HB3.out.alloc HB3.out.size (.cells #[.int .i64 20, .string ⟨#[]⟩, .int .i64 0, .int .i64 20, .string ⟨#[]⟩, .int .i64 0] 44)).trans hb4)
              have hV4 := HTX w4 HB4.out
              have HR4 := Lib.hid hr4
              have HO4 := Lib.hid hown4
              have HV4 := Lib.hid hV4
              clear hb3 d0 d1 d2 d3 hr4 hown4 hb4 hO3 HTX hV4 D0 D1 D2 D3
              have hkl : k < l.length := by rw [HN.out]; exact hlt
              have E4 : Hid (w4.cell? ⟨b, o + k * 4, none⟩ = some (.int .i64 vk) ∧ w4.cell? ⟨b, o + k * 4 + 1, none⟩ = some (.int .i64 vn) ∧ w4.cell? ⟨b, o + k * 4 + 2, none⟩ = some (.int .i64 vd) ∧ w4.cell? ⟨b, o + k * 4 + 3, none⟩ = some (.string ⟨vx.toArray⟩)) := Lib.hid (by
                have hlv : l[k] = ⟨vk, vn, vd, vx⟩ := by
                  have h1 : l.take (k + 1) = l.take k ++ [l[k]] := List.take_succ_eq_append_getElem hkl
                  rw [HTK.out] at h1
                  exact (List.singleton_inj.1 (List.append_cancel_left h1)).symm
                rcases HV4.out with h | ⟨b2, o2, e2, hb2, hc2⟩
                · rw [h] at hkl; simp at hkl
                · injection e2 with e2; injection e2 with e2 e3; subst e2; subst e3
                  have := hc2 k hkl
                  rw [hlv] at this
                  exact this)
              obtain ⟨E0, E1, E2, E3⟩ := E4.out
              clear hkl
              go_wp2_with (at_builtin; refine wpList_append_runL rfl _ _ 33 rfl _ _ _ _ rfl rfl HR4.out ?_)
              refine (TT1.out _).mono ?_
              rintro e w5 ⟨a5, c5, rfl, HF5⟩
              obtain ⟨v6, w6, hr6, hown6, hb6⟩ := app_toks w.heap.size v4 (J ++ [spc, spc]) a5 L c5 w5 (HB4.out.trans (HF5.out.2.mono HB4.out.size)).size (by simp; omega) (by rw [HMM.out]; omega) (ownsRow_below HO4.out HF5.out.2) HF5.out.1
              rw [HMM.out] at hr6
              rw [HF2.out] at hown6
              have HB6 := Lib.hid ((HB4.out.trans (HF5.out.2.mono HB4.out.size)).trans hb6)
              have HR6 := Lib.hid hr6
              have HO6 := Lib.hid hown6
              clear hr6 hown6 hb6 E0 E1 E2 E3
              go_wp2_with (at_builtin; refine wpList_append_runL rfl _ _ 33 rfl _ _ _ _ rfl rfl HR6.out ?_)
              go_roundw
              case rel => exact ⟨k + 1, by go_num, by omega, HO6.out, HB6, HRN⟩
              case measure => simp [intOf]; omega
        · have hltz : ¬ (k : Int) < (N : Int) := by omega
          have hkN : k = N := by omega
          have htl : l.take k = l := List.take_of_length_le (by rw [HN.out]; omega)
          have hO := HO.out
          have hR := HR.out
          have hJ := HJ.out
          rw [htl] at hO hR hJ
          have hl0 : l ≠ [] := fun h => by have := HN.out; rw [h] at this; exact h2 this.symm
          obtain ⟨a4, c4, hv4, hT4, hc4, hcm4⟩ := Tks_ownC hO
          have PS := Parse9_any a4 (joinJ l) c4 wr hc4 hcm4 (by omega) hT4 (joinJ_ok hR)
          rw [parse_join hl0 hR] at PS
          obtain ⟨jn, hjn⟩ : ∃ j, (joinJ l).length = j := ⟨_, rfl⟩
          rw [hjn] at PS hv4
          have PS2 : Hid (Calls Try.prog 23 #[.slice a4 jn c4] wr fun e w' => ∃ a c, e = .returned (.tuple #[.slice a N c, .int .i64 0]) ∧ Hid (Vs w' a l ∧ Below wr.heap.size wr w')) := Lib.hid (PS.mono fun e w' h => by
            obtain ⟨⟨v, g1, g2⟩, g3⟩ := h
            obtain ⟨a, c, g4, g5, _⟩ := g2.vs
            subst g4
            exact ⟨a, c, by rw [g1, HN.out], g5, g3⟩)
          subst hv4
          clear hO hR hJ hT4 hc4 hcm4 PS hjn htl hl0 hkN
          go_wp2_with fail
          refine PS2.out.mono ?_
          rintro e w5 ⟨a5, c5, rfl, HF5⟩
          have HB5 := Lib.hid (HB.out.trans (HF5.out.2.mono HB.out.size))
          have SM := Lib.hid (refSame9_eq a5 a c5 cap l N w5 HN.out (by omega) HF5.out.1 (HTM.out w5 HB5.out))
          go_wp2_with fail
          refine SM.out.mono ?_
          rintro e w6 ⟨rfl, q, rfl⟩
          have HB6 := Lib.hid (below_drewN2 HB5.out q)
          generalize w5.drewN q = w6 at *
          go_wp2_with fail
          refine (KN.out _).mono ?_
          rintro e w7 ⟨rfl, hb7⟩
          have HB7 := Lib.hid (HB6.out.trans (hb7.mono HB6.out.size))
          clear hb7
          go_wp2_with fail
          go_ret
          exact ⟨rfl, HB7.out⟩
  · have hz1 : (30 : Int) < (N : Int) := by omega
    have hz3 : 30 < N := by omega
    go_enter Try.func7, Try.ntmps7
    go_wp2_with fail
    refine (KN.out _).mono ?_
    rintro e w4 ⟨rfl, hb4⟩
    have HB4 := Lib.hid hb4
    clear hb4
    go_wp2_with fail
    go_ret
    exact ⟨rfl, HB4.out⟩
end Go.Proofs.Ytppnpdjbmhbimaa
