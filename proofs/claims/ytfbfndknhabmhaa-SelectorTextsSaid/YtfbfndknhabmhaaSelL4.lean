/- Layer 7: SelectorPrints: the walk. -/
import Derived.Test.YtfbfndknhabmhaaSelL3
import Derived.Test.YtfbfndknhabmhaaSelRr
import Derived.Test.YtfbfndknhabmhaaSelRt
namespace Go.Proofs.Ytfbfndknhabmhaa
open Go.RowKit TreN LexP FixP SynP ValP SelP FixM
set_option linter.unusedVariables false

theorem name_len7 {x : List UInt8} (h : nameL x = true) : x.length ≤ 32 := by
  unfold nameL nameB at h
  rw [Bool.and_eq_true] at h
  have := of_decide_eq_true h.1
  have e : (⟨x.toArray⟩ : ByteArray).size = x.length := by show x.toArray.size = _; simp
  omega
theorem text_len7 {x : List UInt8} (h : textL x = true) : x.length ≤ 256 := by
  unfold textL textB at h
  rw [Bool.and_eq_true] at h
  have := of_decide_eq_true h.1
  have e : (⟨x.toArray⟩ : ByteArray).size = x.length := by show x.toArray.size = _; simp
  omega
theorem orNone_len7 {x : List UInt8} (h : orNone x = true) : x.length ≤ 32 := by
  rcases orNone_cases x with ⟨rfl, _⟩ | ⟨c, r, rfl, e⟩
  · simp
  · rw [e] at h; exact name_len7 h
def Tx256 (l : List Tok) : Prop := ∀ t ∈ l, t.text.length ≤ 256
theorem Tx256.app {a b : List Tok} (h : Tx256 a) (k : Tx256 b) : Tx256 (a ++ b) := fun t ht => by
  rcases List.mem_append.1 ht with x | x
  · exact h t x
  · exact k t x
theorem Tx256.nil : Tx256 [] := fun t h => by cases h
theorem Tx256.one {t : Tok} (h : t.text.length ≤ 256) : Tx256 [t] := fun x hx => by
  have : x = t := by simpa using hx
  rw [this]; exact h
theorem Tx256.flat {α : Type} (f : α → List Tok) {l : List α} (h : ∀ x ∈ l, Tx256 (f x)) : Tx256 (l.flatMap f) := fun t ht => by
  obtain ⟨x, hx, hy⟩ := List.mem_flatMap.1 ht
  exact h x hx t hy
theorem tx_test {t : Tst} (h : rightT t = true) : Tx256 (testT t) := by
  rw [rightT_ref, Bool.and_eq_true, Bool.and_eq_true] at h
  have h1 := name_len7 h.1
  have h2 := text_len7 h.2.1
  unfold testT
  refine Tx256.app ((Tx256.one (t := tkS 15) (by decide)).app (Tx256.one (t := tkI t.name) (by show t.name.length ≤ 256; omega))) (Tx256.app ?_ (Tx256.one (by decide)))
  split
  · exact (Tx256.one (t := tkD [61]) (by decide)).app (Tx256.one (t := ⟨5, t.value, 0⟩) h2)
  · exact Tx256.nil
theorem tx_state (n k : Int) : Tx256 (stateT n k) := by
  unfold stateT
  split
  · refine (Tx256.one (t := tkS 10) (by decide)).app (Tx256.one (t := tkI (wordS k)) ?_)
    show (wordS k).length ≤ 256
    unfold wordS
    split
    · decide
    · split <;> decide
  · exact Tx256.nil
theorem tx_part {p : Prt} (h : rightPt p = true) : Tx256 (partT p) := by
  obtain ⟨_, _, h1, h2, _, _, h3, h4⟩ := right_parts h
  unfold partT
  split
  · exact Tx256.one (by decide)
  · unfold bodyT
    refine Tx256.app ?_ (Tx256.app ?_ (Tx256.app ?_ (Tx256.app ?_ ((tx_state _ _).app ((tx_state _ _).app (tx_state _ _))))))
    · split
      · exact Tx256.nil
      · exact Tx256.one (by have := orNone_len7 h1; show p.tag.length ≤ 256; omega)
    · split
      · exact Tx256.nil
      · exact Tx256.one (by have := orNone_len7 h2; show p.id.length ≤ 256; omega)
    · exact Tx256.flat _ fun c hc => (Tx256.one (t := tkD [46]) (by decide)).app (Tx256.one (by have := name_len7 (List.all_eq_true.1 h3 c hc); show c.length ≤ 256; omega))
    · exact Tx256.flat _ fun t ht => tx_test (List.all_eq_true.1 h4 t ht)
theorem tx_comb (c : Int) : Tx256 (combT c) := by
  unfold combT
  split
  · exact Tx256.nil
  · split
    · exact Tx256.one (by decide)
    · refine (Tx256.one (t := tkS 20) (by decide)).app ((Tx256.one (t := tkD (markS c)) ?_).app (Tx256.one (by decide)))
      show (markS c).length ≤ 256
      unfold markS
      split
      · decide
      · split <;> decide
theorem tx_sel {s : List Prt} (h : rightS s = true) : Tx256 (selT s) := Tx256.flat _ fun p hp => by
  obtain ⟨i, hi, rfl⟩ := List.getElem_of_mem hp
  exact (tx_comb _).app (tx_part (right_at h hi).1)
theorem sel_len7 {s : List Prt} (h : rightS s = true) : (selT s).length ≤ 536 := by
  have h8 := right_len h
  have hp : ∀ p ∈ s, rightPt p = true := fun p hp => by
    obtain ⟨i, hi, rfl⟩ := List.getElem_of_mem hp
    exact (right_at h hi).1
  have : ∀ l : List Prt, (∀ p ∈ l, rightPt p = true) → (selT l).length ≤ 67 * l.length := by
    intro l
    induction l with
    | nil => intro _; exact Nat.le_refl _
    | cons p r ih =>
      intro hl
      show ((combT p.comb ++ partT p) ++ selT r).length ≤ _
      rw [List.length_append, List.length_append]
      have h1 := combT_len p.comb
      have h2 := partT_len (hl p (by simp))
      have h3 := ih fun q hq => hl q (by simp [hq])
      simp only [List.length_cons]
      omega
  have := this s hp
  omega
theorem lst_bd7 : ∀ (l : List (List Prt)) (i : Nat), l.all rightS = true → (lstF i l).length ≤ 538 * l.length ∧ Tx256 (lstF i l)
  | [], _, _ => ⟨Nat.le_refl _, Tx256.nil⟩
  | s :: r, i, h => by
    rw [List.all_cons, Bool.and_eq_true] at h
    obtain ⟨h1, h2⟩ := lst_bd7 r (i + 1) h.2
    have h3 := sel_len7 h.1
    have h4 := tx_sel h.1
    have e : lstF i (s :: r) = ((if i = 0 then [] else [tkS 12, tkS 20]) ++ selT s) ++ lstF (i + 1) r := rfl
    rw [e]
    constructor
    · rw [List.length_append, List.length_append]
      simp only [List.length_cons]
      split <;> simp <;> omega
    · refine Tx256.app (Tx256.app ?_ h4) h2
      split
      · exact Tx256.nil
      · exact (Tx256.one (t := tkS 12) (by decide)).app (Tx256.one (by decide))
theorem Tx256.ok {l : List Tok} (h : Tx256 l) : TxOk7 l := fun t ht => by have := h t ht; unfold maxLen; omega

set_option maxRecDepth 100000 in
set_option maxHeartbeats 4000000 in
theorem SelectorPrints_walk (a : Option Addr) (l : List SelV) (n cap : Nat) (w : World) (hn : l.length = n) (h1 : n ≤ cap) (h2 : cap ≤ maxLen) (hS : Sls w a l) : Calls Try.prog 3 #[.slice a n cap] w fun e w' => e = .returned (.bool true) ∧ Below w.heap.size w w' := by
  have KN := Lib.hid (fun W => known7_any W)
  unfold maxLen at h2
  have hnz : (n : Int) ≤ 9223372036854775807 := by omega
  by_cases h20 : n ≤ 20
  · have h20z : ¬ (20 : Int) < (n : Int) := by omega
    have PR := Lib.hid (by
      have := Print_any a l cap w (by omega) hS
      rw [hn] at this
      exact this)
    obtain ⟨L, hL⟩ : ∃ L, l.map SelV.pure = L := ⟨_, rfl⟩
    have AL := Lib.hid (fun W (hW : Below w.heap.size w W) => refAll7 a l n cap W hn (by unfold maxLen; omega) (hS.below hW))
    rw [hL] at PR AL
    have hLl : L.length = n := by rw [← hL, List.length_map, hn]
    cases hal : allR L with
    | false =>
      unfold PrIs at PR
      rw [hal] at PR AL
      have PP := Lib.hid (PR.out.mono (R' := fun e w' => e = .returned (.tuple #[.slice none 0 0, .int .i64 20]) ∧ Below w.heap.size w w') fun e w' h => h)
      clear PR hal hLl hL hn hS
      go_enter Try.func3, Try.ntmps3
      go_wp2_with fail
      refine PP.out.mono ?_
      rintro e w1 ⟨rfl, hb1⟩
      have HB1 := Lib.hid hb1
      clear hb1 PP
      go_wp2_with fail
      refine (AL.out _ HB1.out).mono ?_
      rintro e w2 ⟨rfl, hb2⟩
      have HB2 := Lib.hid (HB1.out.trans (hb2.mono HB1.out.size))
      clear hb2
      go_wp2_with fail
      refine (KN.out _).mono ?_
      rintro e w3 ⟨rfl, hb3⟩
      have HB3 := Lib.hid (HB2.out.trans (hb3.mono HB2.out.size))
      clear hb3
      go_wp2_with fail
      go_ret
      exact ⟨rfl, HB3.out⟩
    | true =>
      unfold PrIs at PR
      rw [hal] at PR AL
      have hrr : L.all rightS = true := by unfold allR at hal; rw [Bool.and_eq_true] at hal; exact hal.2
      obtain ⟨hb1, hb2⟩ := lst_bd7 L 0 hrr
      have hb1 : (listT L).length ≤ 538 * L.length := hb1
      have hb2 : Tx256 (listT L) := hb2
      have hread := list_read hal
      have TK := Lib.hid (fun W (hW : Below w.heap.size w W) => refTokens7 a l n cap W hn (by omega) (hS.below hW) (by rw [hL]; exact hrr))
      rw [hL] at TK
      obtain ⟨T, hT⟩ : ∃ T, listT L = T := ⟨_, rfl⟩
      rw [hT] at hb1 hb2 hread PR TK
      obtain ⟨q, hq⟩ : ∃ q, T.length = q := ⟨_, rfl⟩
      have hq9 : q ≤ 10760 := by rw [← hq]; omega
      unfold ToldCap at TK
      rw [hq] at PR TK
      have PP := Lib.hid (PR.out.mono (R' := fun e w' => ∃ a c, e = .returned (.tuple #[.slice a q c, .int .i64 0]) ∧ Tks w' a T ∧ q ≤ c ∧ c ≤ maxLen ∧ Below w.heap.size w w') fun e w' h => by
        obtain ⟨⟨a, c, h1, h2, h3, h4⟩, h5⟩ := h
        exact ⟨a, c, h1, h2, h3, h4, h5⟩)
      have HQ := Lib.hid hq
      have HTX := Lib.hid hb2
      have HRD := Lib.hid hread
      have HS := Lib.hid hS
      have HN := Lib.hid hn
      have HL := Lib.hid hL
      clear PR hal hLl hL hn hS hrr hb1 hb2 hread hT hq
      go_enter Try.func3, Try.ntmps3
      go_wp2_with fail
      refine PP.out.mono ?_
      rintro e w1 ⟨a1, c1, rfl, hT1, h11, h12, hb1⟩
      have HB1 := Lib.hid hb1
      have HT1 := Lib.hid hT1
      have HC1 := Lib.hid (And.intro h11 h12)
      clear hb1 hT1 h11 h12 PP
      go_wp2_with fail
      refine (AL.out _ HB1.out).mono ?_
      rintro e w2 ⟨rfl, hb2⟩
      have HB2 := Lib.hid (HB1.out.trans (hb2.mono HB1.out.size))
      have HT2 := Lib.hid (HT1.out.below hb2)
      have PA := Lib.hid (Parse7_yes a1 T q c1 w2 L HQ.out HC1.out.1 HC1.out.2 (by omega) HT2.out HTX.out.ok HRD.out)
      unfold SelsAre at PA
      clear hb2 HT1
      go_wp2_with fail
      refine PA.out.mono ?_
      rintro e w3 ⟨g3, d3, n3, S3, rfl, hS3, hn3, hd3, hm3, hL3, hb3⟩
      have HB3 := Lib.hid (HB2.out.trans (hb3.mono HB2.out.size))
      have HT3 := Lib.hid (HT2.out.below hb3)
      have HS3 := Lib.hid (And.intro hS3 (And.intro hn3 (And.intro hd3 (And.intro hm3 hL3))))
      clear hb3 hS3 hn3 hd3 hm3 hL3 PA HT2
      go_wp2_with fail
      refine (TK.out _ HB3.out).mono ?_
      rintro e w4 ⟨a4, c4, rfl, hT4, hb4, h41, h42⟩
      have HB4 := Lib.hid (HB3.out.trans (hb4.mono HB3.out.size))
      have SM : Hid (Calls Try.prog 11 #[.slice a1 q c1, .slice a4 q c4] w4 fun e w' => e = .returned (.bool true) ∧ ∃ z, w' = w4.drewN z) := Lib.hid (by
        have := refSame_any a1 a4 c1 c4 T T w4 (by have := HQ.out; omega) (HT3.out.below hb4) hT4
        rw [decide_eq_true rfl, HQ.out] at this
        exact this)
      have HB4' := Lib.hid hb4
      clear hb4 hT4 h41 h42
      go_wp2_with fail
      refine SM.out.mono ?_
      rintro e w5 ⟨rfl, z, rfl⟩
      have HB5 := Lib.hid (below_drewE HB4.out z)
      have S2 : Hid (Calls Try.prog 13 #[.slice (some ⟨g3, 0, none⟩) n3 d3, .slice a n cap] (w4.drewN z) fun e w' => e = .returned (.bool true) ∧ Below (w4.drewN z).heap.size (w4.drewN z) w') := Lib.hid (by
        obtain ⟨e1, e2, e3, e4, e5⟩ := HS3.out
        have hh := refSame_eq7 (some ⟨g3, 0, none⟩) a S3 l n3 d3 cap (w4.drewN z) e2 (by omega) (by rw [e1, HL.out]) (e5.below (below_drewE HB4'.out z)) (HS.out.below HB5.out)
        have : n3 = n := by
          have := congrArg List.length (e1.trans HL.out.symm)
          simp only [List.length_map] at this
          have := HN.out
          omega
        subst this
        exact hh)
      clear SM
      generalize w4.drewN z = w5 at *
      go_wp2_with fail
      refine S2.out.mono ?_
      rintro e w6 ⟨rfl, hb6⟩
      have HB6 := Lib.hid (HB5.out.trans (hb6.mono HB5.out.size))
      clear hb6
      go_wp2_with fail
      refine (KN.out _).mono ?_
      rintro e w7 ⟨rfl, hb7⟩
      have HB7 := Lib.hid (HB6.out.trans (hb7.mono HB6.out.size))
      clear hb7
      go_wp2_with fail
      go_ret
      exact ⟨rfl, HB7.out⟩
  · have h20z : (20 : Int) < (n : Int) := by omega
    clear hS hn h20
    go_enter Try.func3, Try.ntmps3
    go_wp2_with fail
    refine (KN.out _).mono ?_
    rintro e w1 ⟨rfl, hb1⟩
    have HB1 := Lib.hid hb1
    clear hb1
    go_wp2_with fail
    go_ret
    exact ⟨rfl, HB1.out⟩
end Go.Proofs.Ytfbfndknhabmhaa
