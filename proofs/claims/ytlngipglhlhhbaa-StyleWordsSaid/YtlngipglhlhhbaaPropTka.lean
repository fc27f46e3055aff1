/- Joined texts: PropW1 PropW2 PropW3. -/
import Derived.Test.YtlngipglhlhhbaaPropP
import Derived.Test.YtlngipglhlhhbaaValW1
import Derived.Test.YtlngipglhlhhbaaValW2
namespace Go.Proofs.Ytlngipglhlhhbaa
open Go.RowKit TreN LexP FixP SynP ValP PropP FixM
set_option linter.unusedVariables false

theorem plc_mem : ∀ (L : List (List UInt8)) (s : List UInt8) (k : Nat), 0 < plc L s (k + 1) ↔ s ∈ L
  | [], s, k => by simp [plc]
  | x :: r, s, k => by
    unfold plc
    by_cases h : x = s
    · rw [if_pos h]; simp [h]
    · rw [if_neg h, plc_mem r s (k + 1), List.mem_cons]
      constructor
      · exact Or.inr
      · rintro (e | e)
        · exact absurd e.symm h
        · exact e
set_option maxRecDepth 100000 in
set_option maxHeartbeats 1000000 in
theorem Index_any (b : Nat) (L : List (List UInt8)) (n cap : Nat) (s : List UInt8) (w : World) (hl : L.length = n) (hn : n ≤ 10000) (hT : TxAt w b L) :
    Calls Try.prog 40 #[.slice (some ⟨b, 0, none⟩) n cap, .string ⟨s.toArray⟩] w fun e w' => e = .returned (.int .i64 ((plc L s 1 : Nat) - 1)) ∧ w' = w := by
  have HT := Lib.hid hT
  have HL := Lib.hid hl
  clear hT hl
  go_enter Try.func40, Try.ntmps40
  go_wp2_with fail
  go_loop [8] (fun vi => ∃ k : Nat, vi = .int .i64 (k : Int) ∧ k ≤ n ∧ Hid (plc L s 1 = plc (L.drop k) s (k + 1))) (fun vi => n - (intOf vi).toNat)
  case atStart => exact ⟨0, rfl, by omega, Lib.hid rfl⟩
  case round =>
    obtain ⟨k, rfl, hk, HP⟩ := hrel
    by_cases hlt : k < n
    · have hltz : (k : Int) < (n : Int) := by omega
      have hkl : k < L.length := by have := HL.out; omega
      have d1 := HT.out k hkl
      have hkn : (0 : Int) ≤ (k : Int) := by omega
      have hd := plc_drop L s k (k + 1) hkl
      obtain ⟨x, hx⟩ : ∃ x, L[k] = x := ⟨_, rfl⟩
      rw [hx] at d1 hd
      by_cases he : x = s
      · have HF : Hid (((plc L s 1 : Nat) : Int) - 1 = (k : Int)) := Lib.hid (by rw [HP.out, hd, if_pos he]; omega)
        subst he
        clear hd hx hkl
        go_wp2_with fail
        go_ret
        exact ⟨by rw [HF.out]; rfl, rfl⟩
      · have heb : (s == x) = false := by rw [beq_eq_false_iff_ne]; exact fun e => he e.symm
        have HF : Hid (plc L s 1 = plc (L.drop (k + 1)) s (k + 1 + 1)) := Lib.hid (by rw [HP.out, hd, if_neg he])
        clear hd hx hkl he
        go_wp2_with fail
        go_round
        case rel => exact ⟨k + 1, by go_num, by omega, HF⟩
        case measure => simp [intOf]; omega
    · have hltz : ¬ (k : Int) < (n : Int) := by omega
      have HF : Hid (((plc L s 1 : Nat) : Int) - 1 = -1) := Lib.hid (by rw [HP.out, List.drop_of_length_le (by have := HL.out; omega)]; rfl)
      go_wp2_with fail
      go_ret
      exact ⟨by rw [HF.out]; rfl, rfl⟩
set_option maxRecDepth 100000 in
theorem Contains_any (b : Nat) (L : List (List UInt8)) (n cap : Nat) (s : List UInt8) (w : World) (hl : L.length = n) (hn : n ≤ 10000) (hT : TxAt w b L) :
    Calls Try.prog 63 #[.slice (some ⟨b, 0, none⟩) n cap, .string ⟨s.toArray⟩] w fun e w' => e = .returned (.bool (decide (s ∈ L))) ∧ w' = w := by
  have I := Index_any b L n cap s w hl hn hT
  have hm := plc_mem L s 0
  obtain ⟨z, hz⟩ : ∃ z : Int, ((plc L s 1 : Nat) : Int) - 1 = z := ⟨_, rfl⟩
  rw [hz] at I
  have HI := Lib.hid I
  clear hT I hl
  by_cases h : s ∈ L
  · rw [decide_eq_true h]
    have h0 : 0 ≤ z := by have : 0 < plc L s 1 := hm.2 h; omega
    clear h hm hz
    go_enter Try.func63, Try.ntmps63
    go_wp2_with fail
    refine HI.out.mono ?_
    rintro e w' ⟨rfl, rfl⟩
    go_wp2_with fail
    go_ret
    exact ⟨rfl, rfl⟩
  · rw [decide_eq_false h]
    have h0 : z < 0 := by
      have : ¬ 0 < plc L s (0 + 1) := fun c => h (hm.1 c)
      have : ¬ 0 < plc L s 1 := this
      omega
    have hd : decide (0 ≤ z) = false := decide_eq_false (by omega)
    clear h hm hz h0
    go_enter Try.func63, Try.ntmps63
    go_wp2_with fail
    refine HI.out.mono ?_
    rintro e w' ⟨rfl, rfl⟩
    go_wp2_with fail
    go_ret
    exact ⟨rfl, rfl⟩
theorem names_len : namesL.length = 37 := rfl
set_option maxRecDepth 100000 in
theorem names_any (w : World) : Calls Try.prog 53 #[] w fun e w' => e = .returned (.slice (some ⟨w.heap.size, 0, none⟩) 37 37) ∧ w' = w.alloc (.cells (txcs namesL) 9) := by
  go_enter Try.func53, Try.ntmps53
  go_wp2_with fail
  go_ret
  exact ⟨rfl, rfl⟩
theorem below_oneP (w : World) (o : Obj) : Below w.heap.size w (w.alloc o) := (Below.refl _ _).alloc (Nat.le_refl _) _
set_option maxRecDepth 100000 in
set_option maxHeartbeats 1000000 in
theorem Name10_any (p : Int) (w : World) : Calls Try.prog 44 #[.int .i64 p] w fun e w' => e = .returned (.string ⟨(txtP namesL p).toArray⟩) ∧ Below w.heap.size w w' := by
  by_cases h1 : 1 ≤ p
  · by_cases h2 : p ≤ 37
    · obtain ⟨k, rfl⟩ : ∃ k : Nat, p = (k : Int) + 1 := ⟨(p - 1).toNat, by omega⟩
      have hkl : k < namesL.length := by rw [names_len]; omega
      have hT := TxAt.made w namesL k hkl
      have e : txtP namesL ((k : Int) + 1) = namesL[k] := by
        unfold txtP
        rw [if_pos ⟨h1, by rw [names_len]; omega⟩]
        have : ((k : Int) + 1).toNat - 1 = k := by omega
        rw [this]; simp [hkl]
      obtain ⟨x, hx⟩ : ∃ x, namesL[k] = x := ⟨_, rfl⟩
      rw [hx] at hT e
      rw [e]
      have z1 : ¬ (k : Int) + 1 < 1 := by omega
      have z2 : ¬ (37 : Int) < (k : Int) + 1 := by omega
      have z3 : (k : Int) < 37 := by omega
      have hw : IntKind.i64.wrap ((k : Int) + 1 - 1) = (k : Int) := by
        rw [show (k : Int) + 1 - 1 = (k : Int) by omega]; exact IntWalk.i64_in _ (by omega)
      have hkn : (0 : Int) ≤ (k : Int) := by omega
      have hk37 : k < 37 := by omega
      clear hx e hkl h1 h2
      go_enter Try.func44, Try.ntmps44
      go_wp2_with fail
      refine (names_any _).mono ?_
      rintro e w' ⟨rfl, rfl⟩
      generalize hW : w.alloc (.cells (txcs namesL) 9) = W at *
      have HB : Hid (Below w.heap.size w W) := Lib.hid (by rw [← hW]; exact below_oneP _ _)
      clear hW
      go_wp2_with fail
      go_ret
      exact ⟨rfl, HB.out⟩
    · have e : txtP namesL p = [] := by unfold txtP; rw [if_neg (by rw [names_len]; omega)]
      rw [e]
      have z2 : (37 : Int) < p := by omega
      clear e
      go_enter Try.func44, Try.ntmps44
      go_wp2_with fail
      go_ret
      exact ⟨rfl, Below.refl _ _⟩
  · have e : txtP namesL p = [] := by unfold txtP; rw [if_neg (by omega)]
    rw [e]
    have z1 : p < 1 := by omega
    clear e
    go_enter Try.func44, Try.ntmps44
    go_wp2_with fail
    go_ret
    exact ⟨rfl, Below.refl _ _⟩
set_option maxRecDepth 100000 in
set_option maxHeartbeats 1000000 in
theorem is_any (k n d : Int) (nm : List UInt8) (b : Nat) (L : List (List UInt8)) (m cap : Nat) (w : World) (hl : L.length = m) (hm : m ≤ 10000) (hT : TxAt w b L) (hb : b < w.heap.size) :
    Calls Try.prog 57 #[.agg #[.int .i64 k, .int .i64 n, .int .i64 d, .string ⟨nm.toArray⟩], .slice (some ⟨b, 0, none⟩) m cap] w fun e w' => e = .returned (.bool (isB ⟨k, n, d, nm⟩ L)) ∧ Below w.heap.size w w' := by
  have HB := Lib.hid (below_oneP w (.cells #[.int .i64 k, .int .i64 n, .int .i64 d, .string ⟨nm.toArray⟩] 34))
  have hT2 := hT.below HB.out hb
  have hb2 : b < (w.alloc (.cells #[.int .i64 k, .int .i64 n, .int .i64 d, .string ⟨nm.toArray⟩] 34)).heap.size := by simp; omega
  by_cases hk : k = 1
  · subst hk
    have hi : isB ⟨1, n, d, nm⟩ L = decide (txtP wordsL n ∈ L) := rfl
    rw [hi]
    have TX := fun W => Text9_any n W
    obtain ⟨x, hx⟩ : ∃ x, txtP wordsL n = x := ⟨_, rfl⟩
    rw [hx] at TX ⊢
    have TT := Lib.hid TX
    have C := Lib.hid (fun (W : World) (hW : Below (w.alloc (.cells #[.int .i64 1, .int .i64 n, .int .i64 d, .string ⟨nm.toArray⟩] 34)).heap.size (w.alloc (.cells #[.int .i64 1, .int .i64 n, .int .i64 d, .string ⟨nm.toArray⟩] 34)) W) => Contains_any b L m cap x W hl hm (hT2.below hW hb2))
    generalize decide (x ∈ L) = bb at *
    clear hx TX hT hT2 hi hl
    go_enter Try.func57, Try.ntmps57
    go_wp2_with fail
    refine (TT.out _).mono ?_
    rintro e w1 ⟨rfl, hb1⟩
    have HB1 := Lib.hid (HB.out.trans (hb1.mono HB.out.size))
    have CC := Lib.hid (C.out w1 hb1)
    clear hb1
    go_wp2_with fail
    refine CC.out.mono ?_
    rintro e w2 ⟨rfl, rfl⟩
    go_wp2_with fail
    go_ret
    exact ⟨rfl, HB1.out⟩
  · have hi : isB ⟨k, n, d, nm⟩ L = false := by unfold isB; rw [decide_eq_false hk]; rfl
    rw [hi]
    have z1 : (k == 1) = false := by rw [beq_eq_false_iff_ne]; exact hk
    clear hT hT2 hi hk hl
    go_enter Try.func57, Try.ntmps57
    go_wp2_with fail
    go_ret
    exact ⟨rfl, HB.out⟩
def extB (v : Val) : Bool := decide (v.kind = 2 ∨ v.kind = 3)
def upB (v : Val) : Bool := decide (0 ≤ v.n)
def ratB (v : Val) : Bool := decide (0 < v.n ∧ (v.kind = 4 ∨ v.kind = 5 ∧ 0 < v.d))
end Go.Proofs.Ytlngipglhlhhbaa

namespace Go.Proofs.Ytlngipglhlhhbaa
open Go.RowKit TreN LexP FixP SynP ValP PropP FixM
set_option linter.unusedVariables false

theorem blk_ltP {w : World} {P : Nat} {o : Obj} (h : w.heap[P]? = some o) : P < w.heap.size := (Array.getElem?_eq_some_iff.1 h).1
set_option maxRecDepth 100000 in
theorem extent_any (k n d : Int) (nm : List UInt8) (w : World) : Calls Try.prog 64 #[.agg #[.int .i64 k, .int .i64 n, .int .i64 d, .string ⟨nm.toArray⟩]] w fun e w' => e = .returned (.bool (extB ⟨k, n, d, nm⟩)) ∧ Below w.heap.size w w' := by
  have HB := Lib.hid (below_oneP w (.cells #[.int .i64 k, .int .i64 n, .int .i64 d, .string ⟨nm.toArray⟩] 34))
  by_cases h2 : k = 2
  · subst h2
    go_enter Try.func64, Try.ntmps64
    go_wp2_with fail
    go_ret
    exact ⟨rfl, HB.out⟩
  · have z2 : (k == 2) = false := by rw [beq_eq_false_iff_ne]; exact h2
    by_cases h3 : k = 3
    · subst h3
      go_enter Try.func64, Try.ntmps64
      go_wp2_with fail
      go_ret
      exact ⟨rfl, HB.out⟩
    · have z3 : (k == 3) = false := by rw [beq_eq_false_iff_ne]; exact h3
      have HF : Hid (false = extB ⟨k, n, d, nm⟩) := Lib.hid (by unfold extB; rw [decide_eq_false]; simp; exact ⟨h2, h3⟩)
      clear h2 h3
      go_enter Try.func64, Try.ntmps64
      go_wp2_with fail
      go_ret
      exact ⟨ret_bool HF.out, HB.out⟩
set_option maxRecDepth 100000 in
theorem up_any (k n d : Int) (nm : List UInt8) (w : World) : Calls Try.prog 65 #[.agg #[.int .i64 k, .int .i64 n, .int .i64 d, .string ⟨nm.toArray⟩]] w fun e w' => e = .returned (.bool (upB ⟨k, n, d, nm⟩)) ∧ Below w.heap.size w w' := by
  have HB := Lib.hid (below_oneP w (.cells #[.int .i64 k, .int .i64 n, .int .i64 d, .string ⟨nm.toArray⟩] 34))
  by_cases h : 0 ≤ n
  · have HF : Hid (true = upB ⟨k, n, d, nm⟩) := Lib.hid (by unfold upB; rw [decide_eq_true h])
    go_enter Try.func65, Try.ntmps65
    go_wp2_with fail
    go_ret
    exact ⟨ret_bool HF.out, HB.out⟩
  · have HF : Hid (false = upB ⟨k, n, d, nm⟩) := Lib.hid (by unfold upB; rw [decide_eq_false h])
    have h' : n < 0 := by omega
    clear h
    go_enter Try.func65, Try.ntmps65
    go_wp2_with fail
    go_ret
    exact ⟨ret_bool ((decide_eq_false (by omega)).trans HF.out), HB.out⟩
set_option maxRecDepth 100000 in
set_option maxHeartbeats 1000000 in
theorem ratio_any (k n d : Int) (nm : List UInt8) (w : World) : Calls Try.prog 66 #[.agg #[.int .i64 k, .int .i64 n, .int .i64 d, .string ⟨nm.toArray⟩]] w fun e w' => e = .returned (.bool (ratB ⟨k, n, d, nm⟩)) ∧ Below w.heap.size w w' := by
  have HB := Lib.hid (below_oneP w (.cells #[.int .i64 k, .int .i64 n, .int .i64 d, .string ⟨nm.toArray⟩] 34))
  obtain ⟨R, hR⟩ : ∃ R, ratB ⟨k, n, d, nm⟩ = R := ⟨_, rfl⟩
  rw [hR]
  have hR : decide (0 < n ∧ (k = 4 ∨ k = 5 ∧ 0 < d)) = R := hR
  by_cases h : 0 < n
  · by_cases h4 : k = 4
    · subst h4
      have HF : Hid (true = R) := Lib.hid (by rw [← hR, decide_eq_true ⟨h, Or.inl rfl⟩])
      clear hR
      go_enter Try.func66, Try.ntmps66
      go_wp2_with fail
      go_ret
      exact ⟨ret_bool HF.out, HB.out⟩
    · have z4 : (k == 4) = false := by rw [beq_eq_false_iff_ne]; exact h4
      by_cases h5 : k = 5
      · subst h5
        by_cases hd : 0 < d
        · have HF : Hid (true = R) := Lib.hid (by rw [← hR, decide_eq_true ⟨h, Or.inr ⟨rfl, hd⟩⟩])
          clear hR h4
          go_enter Try.func66, Try.ntmps66
          go_wp2_with fail
          go_ret
          exact ⟨ret_bool HF.out, HB.out⟩
        · have HF : Hid (false = R) := Lib.hid (by rw [← hR, decide_eq_false]; omega)
          have hd' : d ≤ 0 := by omega
          clear hR h4 hd
          go_enter Try.func66, Try.ntmps66
          go_wp2_with fail
          go_ret
          exact ⟨ret_bool ((decide_eq_false (by omega)).trans HF.out), HB.out⟩
      · have z5 : (k == 5) = false := by rw [beq_eq_false_iff_ne]; exact h5
        have HF : Hid (false = R) := Lib.hid (by rw [← hR, decide_eq_false]; omega)
        clear hR h4 h5
        go_enter Try.func66, Try.ntmps66
        go_wp2_with fail
        go_ret
        exact ⟨ret_bool HF.out, HB.out⟩
  · have HF : Hid (false = R) := Lib.hid (by rw [← hR, decide_eq_false]; omega)
    have h' : n ≤ 0 := by omega
    clear hR h
    go_enter Try.func66, Try.ntmps66
    go_wp2_with fail
    go_ret
    exact ⟨ret_bool HF.out, HB.out⟩
set_option maxRecDepth 100000 in
theorem general_any (k n d : Int) (nm : List UInt8) (w : World) : Calls Try.prog 46 #[.agg #[.int .i64 k, .int .i64 n, .int .i64 d, .string ⟨nm.toArray⟩]] w fun e w' => e = .returned (.bool (isB ⟨k, n, d, nm⟩ genW)) ∧ Below w.heap.size w w' := by
  have HB := Lib.hid (below_oneP w (.cells #[.int .i64 k, .int .i64 n, .int .i64 d, .string ⟨nm.toArray⟩] 34))
  generalize hW : w.alloc (.cells #[.int .i64 k, .int .i64 n, .int .i64 d, .string ⟨nm.toArray⟩] 34) = W at *
  have I := is_any k n d nm W.heap.size genW 3 3 (W.alloc (.cells (txcs genW) 9)) rfl (by omega) (TxAt.made W genW) (by simp)
  have HB2 := Lib.hid (HB.out.alloc HB.out.size (.cells (txcs genW) 9))
  generalize isB ⟨k, n, d, nm⟩ genW = bb at *
  have II := Lib.hid I
  have hfx : W.heap[w.heap.size]? = some (.cells #[.int .i64 k, .int .i64 n, .int .i64 d, .string ⟨nm.toArray⟩] 34 (0, 0)) := by rw [← hW]; exact heap_alloc_new w _
  have d0 : W.cell? ⟨w.heap.size, 0, none⟩ = some (.int .i64 k) := cell_of hfx rfl
  have d1 : W.cell? ⟨w.heap.size, 1, none⟩ = some (.int .i64 n) := cell_of hfx rfl
  have d2 : W.cell? ⟨w.heap.size, 2, none⟩ = some (.int .i64 d) := cell_of hfx rfl
  have d3 : W.cell? ⟨w.heap.size, 3, none⟩ = some (.string ⟨nm.toArray⟩) := cell_of hfx rfl
  clear hfx I
  go_enter Try.func46, Try.ntmps46
  go_wp2_with fail
  refine II.out.mono ?_
  rintro e w2 ⟨rfl, hb2⟩
  have HB3 := Lib.hid (HB2.out.trans (hb2.mono HB2.out.size))
  clear hb2
  go_wp2_with fail
  go_ret
  exact ⟨rfl, HB3.out⟩
end Go.Proofs.Ytlngipglhlhhbaa

namespace Go.Proofs.Ytlngipglhlhhbaa
open Go.RowKit TreN LexP FixP SynP ValP PropP FixM
set_option linter.unusedVariables false

theorem isB_nil (v : Val) : isB v [] = false := by unfold isB; simp
theorem oth1 (v : Val) : othB 1 v = (extB v && upB v) := Bool.decide_and _ _
theorem oth2 (v : Val) : othB 2 v = extB v := rfl
theorem oth3 (v : Val) : othB 3 v = (decide (v.kind = 2) && upB v) := Bool.decide_and _ _
theorem oth4 (v : Val) : othB 4 v = (decide (v.kind = 4) && upB v) := Bool.decide_and _ _
theorem oth6 (v : Val) : othB 6 v = ratB v := rfl
end Go.Proofs.Ytlngipglhlhhbaa
