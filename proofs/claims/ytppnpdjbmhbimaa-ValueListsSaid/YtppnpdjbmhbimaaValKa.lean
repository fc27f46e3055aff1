/- Joined texts: ValK ValL1. -/
import Derived.Test.YtppnpdjbmhbimaaValR3
import Derived.Test.YtppnpdjbmhbimaaLexR6
import Derived.Test.YtppnpdjbmhbimaaValR4
namespace Go.Proofs.Ytppnpdjbmhbimaa
open Go.RowKit TreN LexP FixP SynP ValP FixM
set_option linter.unusedVariables false

theorem text_eq9 (s : ByteArray) : ∃ x : List UInt8, s = ⟨x.toArray⟩ := ⟨s.data.toList, by cases s; simp⟩
def nineT : List UInt8 := [49, 46, 53, 101, 109, 32, 97, 117, 116, 111, 32, 49, 54, 47, 57]
def nineV : List Val := [⟨2, 1500, 2, []⟩, ⟨1, 1, 0, []⟩, ⟨5, 16000, 9000, []⟩]
theorem nine_len : (cut nineT).length = 7 := by decide +kernel
theorem nine_parse : parseV (cut nineT) = some nineV := by decide +kernel
theorem nine_ok : TxOk (cut nineT) := by
  have h : ∀ t ∈ cut nineT, t.text.length ≤ 100 := by decide +kernel
  intro t ht
  have := h t ht
  unfold maxLen; omega
theorem nine_word : txtP wordsL 30 = [117, 110, 115, 101, 116] := by decide +kernel
theorem vs_made (W : World) (l : List Val) : Vs (W.alloc (.cells (vcs l).toArray 30)) (some ⟨W.heap.size, 0, none⟩) l := by
  have hb : (W.alloc (.cells (vcs l).toArray 30)).heap[W.heap.size]? = some (.cells (vcs l).toArray 30 (0, 0)) := heap_alloc_new W _
  refine Or.inr ⟨W.heap.size, 0, rfl, by simp, fun i hi => ?_⟩
  obtain ⟨k1, k2, k3, k4⟩ := vcs_get l i hi
  rw [Nat.zero_add]
  exact ⟨cell_of hb (by simpa using k1), cell_of hb (by simpa using k2), cell_of hb (by simpa using k3), cell_of hb (by simpa using k4)⟩

set_option maxRecDepth 100000 in
set_option maxHeartbeats 2000000 in
theorem known9_any (w : World) : Calls Try.prog 14 #[] w fun e w' => e = .returned (.bool true) ∧ Below w.heap.size w w' := by
  have C := refCut_cap ⟨nineT.toArray⟩ w (by decide)
  unfold ToldCap at C
  simp only [nine_len] at C
  have CC := Lib.hid C
  have TX := Lib.hid (fun W => Text9_any 30 W)
  rw [nine_word] at TX
  clear C
  go_enter Try.func14, Try.ntmps14
  go_wp2_with fail
  refine (CC.out).mono ?_
  rintro e w1 ⟨a1, c1, rfl, hT, hb, hc1, hc2⟩
  have R := Parse9_any a1 (cut nineT) c1 w1 (by rw [nine_len]; exact hc1) hc2 (by rw [nine_len]; omega) hT nine_ok
  rw [nine_len, nine_parse] at R
  have R2 : Hid (Calls Try.prog 23 #[.slice a1 7 c1] w1 fun e w' => ∃ a c, e = .returned (.tuple #[.slice a 3 c, .int .i64 0]) ∧ Hid (Vs w' a nineV ∧ Below w1.heap.size w1 w')) := Lib.hid (R.mono fun e w' h => by
    obtain ⟨⟨v, h1, h2⟩, h3⟩ := h
    obtain ⟨a, c, h4, h5, _⟩ := h2.vs
    subst h4
    exact ⟨a, c, h1, h5, h3⟩)
  have HB := Lib.hid hb
  clear hT hb R
  go_wp2_with fail
  refine (R2.out).mono ?_
  rintro e w2 ⟨a2, c2, rfl, HF⟩
  have HB2 := Lib.hid (HB.out.trans (HF.out.2.mono HB.out.size))
  have S := Lib.hid (refSame9_eq a2 (some ⟨w2.heap.size, 0, none⟩) c2 3 nineV 3 (w2.alloc (.cells (vcs nineV).toArray 30)) rfl (by omega) (HF.out.1.below ((Below.refl _ _).alloc (Nat.le_refl _) _)) (vs_made w2 nineV))
  go_wp2_with fail
  refine (S.out).mono ?_
  rintro e w3 ⟨rfl, q, rfl⟩
  have HB3 := Lib.hid (below_drewN2 (HB2.out.alloc HB2.out.size (.cells (vcs nineV).toArray 30)) q)
  generalize (w2.alloc (.cells (vcs nineV).toArray 30)).drewN q = w3 at *
  go_wp2_with fail
  refine (TX.out _).mono ?_
  rintro e w4 ⟨rfl, hb4⟩
  have HB4 := Lib.hid (HB3.out.trans (hb4.mono HB3.out.size))
  clear hb4
  go_wp2_with fail
  go_ret
  exact ⟨rfl, HB4.out⟩

set_option maxRecDepth 100000 in
set_option maxHeartbeats 4000000 in
theorem ValueWords_walk (s : List UInt8) (n : Int) (w : World) :
    Calls Try.prog 3 #[.string ⟨s.toArray⟩, .int .i64 n] w fun e w' => e = .returned (.bool true) ∧ Below w.heap.size w w' := by
  have KN := Lib.hid known9_any
  have WD := Lib.hid (fun W => Word_any s W)
  have UT := Lib.hid (fun W => Unit_any s W)
  have WW := Lib.hid (fun (W : World) => (refWords_any W).mono (R' := fun e w' => ∃ b, e = .returned (.slice (some ⟨b, 0, none⟩) 31 31) ∧ Hid (TxAt w' b wL ∧ b < w'.heap.size ∧ Below W.heap.size W w')) fun e w' h => ⟨_, h.1, by rw [h.2]; exact ⟨TxAt.made W wL, by simp, below_one9 _ _⟩⟩)
  have UU := Lib.hid (fun (W : World) => (refUnits_any W).mono (R' := fun e w' => ∃ b, e = .returned (.slice (some ⟨b, 0, none⟩) 9 9) ∧ Hid (TxAt w' b uL ∧ b < w'.heap.size ∧ Below W.heap.size W w')) fun e w' h => ⟨_, h.1, by rw [h.2]; exact ⟨TxAt.made W uL, by simp, below_one9 _ _⟩⟩)
  have PLW := Lib.hid (fun (b : Nat) (W : World) (hW : TxAt W b wL) => refPlace_any b wordsL 31 31 s W rfl (by omega) hW)
  have PLU := Lib.hid (fun (b : Nat) (W : World) (hW : TxAt W b uL) => refPlace_any b unitsL 9 9 s W rfl (by omega) hW)
  have TX := Lib.hid (fun W => Text9_any n W)
  have e1 : plc wordsL s 1 = wordP s := rfl
  have e2 : plc unitsL s 1 = unitP s := rfl
  rw [e1] at PLW
  rw [e2] at PLU
  have hin : (1 ≤ n ∧ n ≤ 30 ∧ ∃ k : Nat, n = (k : Int) ∧ ∃ h : k < wL.length, wL[k] = txtP wordsL n) ∨ (n < 1 ∧ txtP wordsL n = []) ∨ (1 ≤ n ∧ 30 < n ∧ txtP wordsL n = []) := by
    by_cases h1 : 1 ≤ n
    · by_cases h2 : n ≤ 30
      · left
        obtain ⟨k, rfl⟩ : ∃ k : Nat, n = (k : Int) + 1 := ⟨(n - 1).toNat, by omega⟩
        refine ⟨h1, h2, k + 1, by omega, by show k + 1 < 31; omega, ?_⟩
        show wordsL[k]'(by rw [words_len]; omega) = _
        unfold txtP
        rw [if_pos ⟨h1, by rw [words_len]; omega⟩]
        have : ((k : Int) + 1).toNat - 1 = k := by omega
        rw [this, List.getD_eq_getElem?_getD, List.getElem?_eq_getElem (by rw [words_len]; omega)]; rfl
      · exact Or.inr (Or.inr ⟨h1, by omega, txtP_out (by rw [words_len]; omega)⟩)
    · exact Or.inr (Or.inl ⟨by omega, txtP_out (by omega)⟩)
  clear e1 e2
  generalize wordP s = qw at *
  generalize unitP s = qu at *
  rcases hin with ⟨h1, h2, k, rfl, hk, hkx⟩ | ⟨h1, hx⟩ | ⟨h1, h2, hx⟩
  · have hk0 : (0 : Int) ≤ (k : Int) := by omega
    have hk31 : (k : Int) < 31 := by omega
    have hkn : k < 31 := by omega
    have CX : Hid (∀ (b : Nat) (W : World), TxAt W b wL → W.cell? ⟨b, k, none⟩ = some (.string ⟨(txtP wordsL (k : Int)).toArray⟩)) := Lib.hid fun b W hW => by have := hW k hk; rwa [hkx] at this
    generalize txtP wordsL (k : Int) = x at *
    clear hkx hk
    go_enter Try.func3, Try.ntmps3
    go_wp2_with fail
    refine (WW.out _).mono ?_
    rintro e w1 ⟨b, rfl, HF⟩
    have cx := CX.out b w1 HF.out.1
    have HB := Lib.hid HF.out.2.2
    clear HF
    go_wp2_with fail
    refine (WD.out _).mono ?_
    rintro e w2 ⟨rfl, hb2⟩
    have HB2 := Lib.hid (HB.out.trans (hb2.mono HB.out.size))
    clear hb2 cx
    go_wp2_with fail
    refine (WW.out _).mono ?_
    rintro e w3 ⟨b3, rfl, HF⟩
    have HB3 := Lib.hid (HB2.out.trans (HF.out.2.2.mono HB2.out.size))
    go_wp2_with fail
    refine (PLW.out _ _ HF.out.1).mono ?_
    rintro e w4 ⟨rfl, rfl⟩
    clear HF
    go_wp2_with fail
    refine (UT.out _).mono ?_
    rintro e w5 ⟨rfl, hb5⟩
    have HB5 := Lib.hid (HB3.out.trans (hb5.mono HB3.out.size))
    clear hb5
    go_wp2_with fail
    refine (UU.out _).mono ?_
    rintro e w6 ⟨b6, rfl, HF⟩
    have HB6 := Lib.hid (HB5.out.trans (HF.out.2.2.mono HB5.out.size))
    go_wp2_with fail
    refine (PLU.out _ _ HF.out.1).mono ?_
    rintro e w7 ⟨rfl, rfl⟩
    clear HF
    go_wp2_with fail
    refine (TX.out _).mono ?_
    rintro e w8 ⟨rfl, hb8⟩
    have HB8 := Lib.hid (HB6.out.trans (hb8.mono HB6.out.size))
    clear hb8
    go_wp2_with fail
    refine (KN.out _).mono ?_
    rintro e w9 ⟨rfl, hb9⟩
    have HB9 := Lib.hid (HB8.out.trans (hb9.mono HB8.out.size))
    clear hb9
    go_wp2_with fail
    go_ret
    exact ⟨rfl, HB9.out⟩
  all_goals
    have TX2 : Hid (∀ W : World, Calls Try.prog 13 #[.int .i64 n] W fun e w' => e = .returned (.string ⟨#[]⟩) ∧ Below W.heap.size W w') := Lib.hid fun W => by have := TX.out W; rw [hx] at this; exact this
    clear TX hx
    have HB := Lib.hid (Below.refl w.heap.size w)
    go_enter Try.func3, Try.ntmps3
    go_wp2_with fail
    refine (WD.out _).mono ?_
    rintro e w2 ⟨rfl, hb2⟩
    have HB2 := Lib.hid (HB.out.trans (hb2.mono HB.out.size))
    clear hb2
    go_wp2_with fail
    refine (WW.out _).mono ?_
    rintro e w3 ⟨b3, rfl, HF⟩
    have HB3 := Lib.hid (HB2.out.trans (HF.out.2.2.mono HB2.out.size))
    go_wp2_with fail
    refine (PLW.out _ _ HF.out.1).mono ?_
    rintro e w4 ⟨rfl, rfl⟩
    clear HF
    go_wp2_with fail
    refine (UT.out _).mono ?_
    rintro e w5 ⟨rfl, hb5⟩
    have HB5 := Lib.hid (HB3.out.trans (hb5.mono HB3.out.size))
    clear hb5
    go_wp2_with fail
    refine (UU.out _).mono ?_
    rintro e w6 ⟨b6, rfl, HF⟩
    have HB6 := Lib.hid (HB5.out.trans (HF.out.2.2.mono HB5.out.size))
    go_wp2_with fail
    refine (PLU.out _ _ HF.out.1).mono ?_
    rintro e w7 ⟨rfl, rfl⟩
    clear HF
    go_wp2_with fail
    refine (TX2.out _).mono ?_
    rintro e w8 ⟨rfl, hb8⟩
    have HB8 := Lib.hid (HB6.out.trans (hb8.mono HB6.out.size))
    clear hb8
    go_wp2_with fail
    refine (KN.out _).mono ?_
    rintro e w9 ⟨rfl, hb9⟩
    have HB9 := Lib.hid (HB8.out.trans (hb9.mono HB8.out.size))
    clear hb9
    go_wp2_with fail
    go_ret
    exact ⟨rfl, HB9.out⟩
end Go.Proofs.Ytppnpdjbmhbimaa

namespace Go.Proofs.Ytppnpdjbmhbimaa
open Go.RowKit TreN LexP FixP SynP ValP FixM
set_option linter.unusedVariables false

theorem pv_len : ∀ (f : Nat) (l : List Tok) (vs : List Val), pv f l = some vs → vs.length ≤ l.length
  | 0, _, _, h => by cases h
  | f + 1, l, vs, h => by
    unfold pv at h
    split at h
    · cases h
    · rename_i h0
      have hq := readV_le l
      split at h
      · cases hp : pv f (bs (l.drop (readV l).2)) with
        | none => rw [hp] at h; cases h
        | some z =>
          rw [hp] at h
          injection h with h
          subst h
          have h1 := pv_len f _ z hp
          have h2 := bs_len (l.drop (readV l).2)
          rw [List.length_drop] at h2
          simp only [List.length_cons]
          omega
      · split at h
        · injection h with h
          subst h
          simp only [List.length_singleton]; omega
        · cases h
theorem parseV_len {l : List Tok} {vs : List Val} (h : parseV l = some vs) : vs.length ≤ l.length := Nat.le_trans (pv_len _ _ _ h) (trm_len l)

set_option maxRecDepth 100000 in
theorem few9_any (a : Option Addr) (n cap : Nat) (w : World) (hm : n ≤ maxLen) :
    Calls Try.prog 20 #[.slice a n cap] w fun e w' => e = .returned (.bool (decide (n ≤ 300))) ∧ w' = w := by
  unfold maxLen at hm
  by_cases h : n ≤ 300
  · have hz : (n : Int) ≤ 300 := by omega
    have hd : decide (n ≤ 300) = true := decide_eq_true h
    rw [hd]
    clear hd
    go_enter Try.func20, Try.ntmps20
    go_wp2_with fail
    go_ret
    exact ⟨rfl, rfl⟩
  · have hz : ¬ (n : Int) ≤ 300 := by omega
    have hd : decide (n ≤ 300) = false := decide_eq_false h
    rw [hd]
    clear hd
    go_enter Try.func20, Try.ntmps20
    go_wp2_with fail
    go_ret
    exact ⟨rfl, rfl⟩

set_option maxRecDepth 100000 in
set_option maxHeartbeats 4000000 in
theorem ValueReads_walk (a : Option Addr) (l : List Tok) (cap : Nat) (w : World) (hc : l.length ≤ cap) (hm : cap ≤ maxLen) (hT : Tks w a l) (hx : TxOk l) :
    Calls Try.prog 5 #[.slice a l.length cap] w fun e w' => e = .returned (.bool true) ∧ Below w.heap.size w w' := by
  have F := few9_any a l.length cap w (by omega)
  by_cases h : l.length ≤ 300
  · have M1 := fun (W : World) (hW : Below w.heap.size w W) => Read9_any a l cap W hc hm (hT.below hW) hx
    have M2 := fun (W : World) (hW : Below w.heap.size w W) => refRead9_any a l l.length cap W rfl (by omega) (hT.below hW) hx
    have M3 := fun (W : World) (hW : Below w.heap.size w W) => Parse9_any a l cap W hc hm (by omega) (hT.below hW) hx
    have M4 := fun (W : World) (hW : Below w.heap.size w W) => refParse9_any a l cap W hc hm (by omega) (hT.below hW) hx
    rw [decide_eq_true h] at F
    obtain ⟨q, hq⟩ : ∃ q, (readV l).2 = q := ⟨_, rfl⟩
    have hqb := readV_le l
    obtain ⟨⟨vk, vn, vd, vx⟩, hv⟩ : ∃ v, (readV l).1 = v := ⟨_, rfl⟩
    obtain ⟨n, hn⟩ : ∃ n, l.length = n := ⟨_, rfl⟩
    have EQ := fun W => val_eql vk vn vd vk vn vd vx vx W
    rw [decide_eq_true rfl] at EQ
    rw [hv, hq, hn] at M1 M2
    rw [hn] at M3 M4 F h hqb ⊢
    rw [hq] at hqb
    have MM1 : Hid (∀ W : World, Below w.heap.size w W → Calls Try.prog 21 #[.slice a n cap] W fun e w' => e = .returned (.tuple #[.agg #[.int .i64 vk, .int .i64 vn, .int .i64 vd, .string ⟨vx.toArray⟩], .int .i64 (q : Nat)]) ∧ Below W.heap.size W w') := Lib.hid M1
    have MM2 : Hid (∀ W : World, Below w.heap.size w W → Calls Try.prog 22 #[.slice a n cap] W fun e w' => e = .returned (.tuple #[.agg #[.int .i64 vk, .int .i64 vn, .int .i64 vd, .string ⟨vx.toArray⟩], .int .i64 (q : Nat)]) ∧ Below W.heap.size W w') := Lib.hid M2
    have FF := Lib.hid F
    have KN := Lib.hid known9_any
    have hwl : ∀ (W w2 : World) (C : Array Value), Below W.heap.size W w2 → ∀ k, Below W.heap.size W (w2.alloc (.cells C k)) := fun W w2 C hb k => hb.alloc hb.size _
    obtain ⟨R, hR⟩ : ∃ R, parseV l = R := ⟨_, rfl⟩
    have HL : Hid (∀ vs, R = some vs → vs.length ≤ 300) := Lib.hid fun vs hvs => by have := parseV_len (hR.trans hvs); omega
    rw [hR] at M3 M4
    have hEE : ∃ (m : Nat) (er : Int), Hid (∀ W : World, Below w.heap.size w W → Calls Try.prog 23 #[.slice a n cap] W fun e w' => ∃ a1 c1, e = .returned (.tuple #[.slice a1 m c1, .int .i64 er]) ∧ Hid (∃ L, L.length = m ∧ m ≤ 300 ∧ (R = none → L = []) ∧ (∀ vs, R = some vs → L = vs) ∧ Vs w' a1 L ∧ Below W.heap.size W w')) ∧
        Hid (∀ W : World, Below w.heap.size w W → Calls Try.prog 24 #[.slice a n cap] W fun e w' => ∃ a1 c1, e = .returned (.tuple #[.slice a1 m c1, .int .i64 er]) ∧ Hid (∃ L, L.length = m ∧ m ≤ 300 ∧ (R = none → L = []) ∧ (∀ vs, R = some vs → L = vs) ∧ Vs w' a1 L ∧ Below W.heap.size W w')) := by
      cases R with
      | none =>
        refine ⟨0, 22, Lib.hid fun W hW => (M3 W hW).mono fun e w' hp => ?_, Lib.hid fun W hW => (M4 W hW).mono fun e w' hp => ?_⟩
        all_goals exact ⟨none, 0, hp.1, Lib.hid ⟨[], rfl, by omega, fun _ => rfl, (fun vs h => by cases h), Or.inl rfl, hp.2⟩⟩
      | some vs =>
        refine ⟨vs.length, 0, Lib.hid fun W hW => (M3 W hW).mono fun e w' hp => ?_, Lib.hid fun W hW => (M4 W hW).mono fun e w' hp => ?_⟩
        all_goals
          obtain ⟨⟨v, k1, k2⟩, k3⟩ := hp
          obtain ⟨a1, c1, k4, k5, _⟩ := k2.vs
          subst k4
          exact ⟨a1, c1, k1, Lib.hid ⟨vs, rfl, HL.out vs rfl, (fun h => by cases h), (fun u h => by injection h), k5, k3⟩⟩
    obtain ⟨m, er, MM3, MM4⟩ := hEE
    clear M1 M2 M3 M4 F hT hx hq hv hn hR
    go_enter Try.func5, Try.ntmps5
    go_wp2_with fail
    refine (FF.out).mono ?_
    rintro e w1 ⟨rfl, rfl⟩
    go_wp2_with fail
    refine (MM1.out _ (Below.refl _ _)).mono ?_
    rintro e w2 ⟨rfl, hb2⟩
    have HB2 := Lib.hid (hwl _ _ #[.int .i64 vk, .int .i64 vn, .int .i64 vd, .string ⟨vx.toArray⟩] hb2 30)
    have hw2 : w1.heap.size ≤ w2.heap.size := hb2.size
    clear hb2
    go_wp2_with fail
    refine (MM2.out _ HB2.out).mono ?_
    rintro e w3 ⟨rfl, hb3⟩
    have hn2 := (hb3.block w2.heap.size (by simp)).trans (heap_alloc_new w2 (.cells #[.int .i64 vk, .int .i64 vn, .int .i64 vd, .string ⟨vx.toArray⟩] 30))
    have HB3 := Lib.hid (hwl _ _ #[.int .i64 vk, .int .i64 vn, .int .i64 vd, .string ⟨vx.toArray⟩] (HB2.out.trans (hb3.mono HB2.out.size)) 30)
    obtain ⟨B2, hB2⟩ : ∃ B, w2.heap.size = B := ⟨_, rfl⟩
    rw [hB2] at hn2
    have hl2 := blk_lt9 hn2
    have HN2 := Lib.hid hn2
    rw [hB2]
    clear hb3 hn2 hw2 hB2 HB2
    go_wp2_with fail
    refine (MM3.out _ HB3.out).mono ?_
    rintro e w4 ⟨a4, c4, rfl, H4⟩
    have hb4 : Below (w3.alloc (.cells #[.int .i64 vk, .int .i64 vn, .int .i64 vd, .string ⟨vx.toArray⟩] 30)).heap.size (w3.alloc (.cells #[.int .i64 vk, .int .i64 vn, .int .i64 vd, .string ⟨vx.toArray⟩] 30)) w4 := by
      obtain ⟨L, _, _, _, _, _, hb⟩ := H4.out; exact hb
    have hn2 := (hb4.block B2 (by simp; omega)).trans ((Below.heap_alloc _ _ _ hl2).trans HN2.out)
    have hn3 := (hb4.block w3.heap.size (by simp)).trans (heap_alloc_new w3 (.cells #[.int .i64 vk, .int .i64 vn, .int .i64 vd, .string ⟨vx.toArray⟩] 30))
    have HB4 := Lib.hid (HB3.out.trans (hb4.mono HB3.out.size))
    obtain ⟨B3, hB3⟩ : ∃ B, w3.heap.size = B := ⟨_, rfl⟩
    rw [hB3] at hn3
    rw [hB3]
    have HN2' := Lib.hid hn2
    have HN3 := Lib.hid hn3
    clear hb4 hn2 hn3 hB3 HB3 HN2 hl2
    go_wp2_with fail
    refine (MM4.out _ HB4.out).mono ?_
    rintro e w5 ⟨a5, c5, rfl, H5⟩
    obtain ⟨L, hL1, hL2, hL3, hL4, hL5, hL6⟩ := H4.out
    obtain ⟨L', hL1', hL2', hL3', hL4', hL5', hL6'⟩ := H5.out
    have hLL : L' = L := by
      cases R with
      | none => rw [hL3 rfl, hL3' rfl]
      | some vs => rw [hL4 vs rfl, hL4' vs rfl]
    subst hLL
    have SM := Lib.hid (fun (W : World) (hW : Below w5.heap.size w5 W) => refSame9_eq a4 a5 c4 c5 L' m W hL1 (by omega) ((hL5.below hL6').below hW) (hL5'.below hW))
    have HB5 := Lib.hid (HB4.out.trans (hL6'.mono HB4.out.size))
    have hn2 := (hL6'.block B2 (blk_lt9 HN2'.out)).trans HN2'.out
    have hn3 := (hL6'.block B3 (blk_lt9 HN3.out)).trans HN3.out
    have d0 : w5.cell? ⟨B2, 0, none⟩ = some (.int .i64 vk) := cell_of hn2 rfl
    have d1 : w5.cell? ⟨B2, 1, none⟩ = some (.int .i64 vn) := cell_of hn2 rfl
    have d2 : w5.cell? ⟨B2, 2, none⟩ = some (.int .i64 vd) := cell_of hn2 rfl
    have d3 : w5.cell? ⟨B2, 3, none⟩ = some (.string ⟨vx.toArray⟩) := cell_of hn2 rfl
    have e0 : w5.cell? ⟨B3, 0, none⟩ = some (.int .i64 vk) := cell_of hn3 rfl
    have e1 : w5.cell? ⟨B3, 1, none⟩ = some (.int .i64 vn) := cell_of hn3 rfl
    have e2 : w5.cell? ⟨B3, 2, none⟩ = some (.int .i64 vd) := cell_of hn3 rfl
    have e3 : w5.cell? ⟨B3, 3, none⟩ = some (.string ⟨vx.toArray⟩) := cell_of hn3 rfl
    clear hL1 hL2 hL3 hL4 hL5 hL6 hL1' hL2' hL3' hL4' hL5' hL6' hn2 hn3 H4 H5
    go_wp2_with fail
    refine (SM.out _ (Below.refl _ _)).mono ?_
    rintro e w6 ⟨rfl, qq, rfl⟩
    have HB6 := Lib.hid (below_drewN2 HB5.out qq)
    generalize w5.drewN qq = w6 at *
    clear d0 d1 d2 d3 e0 e1 e2 e3
    go_wp2_with fail
    refine (KN.out _).mono ?_
    rintro e w7 ⟨rfl, hb7⟩
    have HB7 := Lib.hid (HB6.out.trans (hb7.mono HB6.out.size))
    clear hb7
    go_wp2_with fail
    go_ret
    exact ⟨rfl, HB7.out⟩
  · rw [decide_eq_false h] at F
    have FF := Lib.hid F
    clear F
    go_enter Try.func5, Try.ntmps5
    go_wp2_with fail
    refine (FF.out).mono ?_
    rintro e w1 ⟨rfl, rfl⟩
    go_wp2_with fail
    refine (known9_any _).mono ?_
    rintro e w4 ⟨rfl, hb4⟩
    have HB4 := Lib.hid hb4
    clear hb4
    go_wp2_with fail
    go_ret
    exact ⟨rfl, HB4.out⟩
end Go.Proofs.Ytppnpdjbmhbimaa
