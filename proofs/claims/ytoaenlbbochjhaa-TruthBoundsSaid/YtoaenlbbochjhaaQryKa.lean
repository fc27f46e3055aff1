/- Joined texts: QryK1 QryK2 QryK3. -/
import Derived.Test.YtoaenlbbochjhaaValR1
import Derived.Test.YtoaenlbbochjhaaQryM
import Derived.Deep.RegionWith
import Derived.Laws.ResultCell
namespace Go.Proofs.Ytoaenlbbochjhaa
open Go.RowKit TreN LexP FixP SynP ValP FixM
set_option linter.unusedVariables false

set_option maxRecDepth 100000 in
set_option maxHeartbeats 4000000 in
theorem refSyn8_any (a : Option Addr) (l : List Tok) (n cap i : Nat) (w : World) (hn : l.length = n) (hm : n ≤ 1000000) (hi : i ≤ 2000000) (hT : Tks w a l) :
    Calls Try.prog 62 #[.slice a n cap, .int .i64 (i : Int)] w fun e w' => e = .returned (.int .i64 (skipN l i : Nat)) ∧ w' = w := by
  have S := Lib.hid (refSkip7_any a l n cap i w hn (by omega) (by omega) hT)
  clear hT hn
  go_enter Try.func62, Try.ntmps62
  go_wp2_with fail
  refine S.out.mono ?_
  rintro e w' ⟨rfl, rfl⟩
  go_wp2_with fail
  go_ret
  exact ⟨rfl, rfl⟩
set_option maxRecDepth 100000 in
set_option maxHeartbeats 4000000 in
theorem refEnds8_any (a : Option Addr) (l : List Tok) (n cap i : Nat) (w : World) (hn : l.length = n) (hm : n ≤ 1000000) (hi : i ≤ 2000000) (hT : Tks w a l) :
    Calls Try.prog 63 #[.slice a n cap, .int .i64 (i : Int)] w fun e w' => e = .returned (.bool (decide (skipN l i = n))) ∧ w' = w := by
  have S := Lib.hid (refSyn8_any a l n cap i w hn hm hi hT)
  have hd : ((skipN l i : Nat) : Int) = ((skipN l i : Nat) : Int) := rfl
  obtain ⟨k, hk⟩ : ∃ k, skipN l i = k := ⟨_, rfl⟩
  rw [hk] at S ⊢
  clear hT hn hk hd
  go_enter Try.func63, Try.ntmps63
  go_wp2_with fail
  refine S.out.mono ?_
  rintro e w' ⟨rfl, rfl⟩
  go_wp2_with fail
  go_ret
  have hkn : (((k : Int) == (n : Int)) : Bool) = decide (k = n) := by
    by_cases h : k = n
    · rw [h]; simp
    · have h2 : ¬ (k : Int) = (n : Int) := by omega
      rw [decide_eq_false h, beq_eq_false_iff_ne]; exact h2
  exact ⟨ret_bool hkn, rfl⟩
/-- does that word stand at a place, behind Spaces? -/
def wordS (l : List Tok) (i : Nat) (x : List UInt8) : Bool := isP l (skipN l i) 1 && decide ((nxt (l.drop (skipN l i))).text = x)
set_option maxRecDepth 100000 in
set_option maxHeartbeats 4000000 in
theorem refWord8_any (a : Option Addr) (l : List Tok) (n cap i : Nat) (x : List UInt8) (w : World) (hn : l.length = n) (hm : n ≤ 1000000) (hi : i ≤ 2000000) (hT : Tks w a l) :
    Calls Try.prog 60 #[.slice a n cap, .int .i64 (i : Int), .string ⟨x.toArray⟩] w fun e w' => e = .returned (.bool (wordS l i x)) ∧ w' = w := by
  have S := Lib.hid (refSyn8_any a l n cap i w hn hm hi hT)
  have hb := skipN_bd l i
  obtain ⟨R, hR⟩ : ∃ R, wordS l i x = R := ⟨_, rfl⟩
  rw [hR]
  unfold wordS at hR
  obtain ⟨k, hk⟩ : ∃ k, skipN l i = k := ⟨_, rfl⟩
  rw [hk] at S hR hb
  have I := refIs7_any a l n cap k 1 w hn (by omega) (by omega) hT
  cases hbb : isP l k 1 with
  | false =>
    rw [hbb] at I hR
    have HI := Lib.hid I
    have HF : Hid (false = R) := Lib.hid hR
    clear I hR hbb hT hn hk hb
    go_enter Try.func60, Try.ntmps60
    go_wp2_with fail
    refine S.out.mono ?_
    rintro e w' ⟨rfl, rfl⟩
    go_wp2_with fail
    refine HI.out.mono ?_
    rintro e w' ⟨rfl, rfl⟩
    go_wp2_with fail
    go_ret
    exact ⟨ret_bool HF.out, rfl⟩
  | true =>
    have hlt : k < l.length := by
      by_cases h : k < l.length
      · exact h
      · rw [isP_ge (by omega)] at hbb; cases hbb
    rw [hbb] at I hR
    obtain ⟨b, o, rfl, hbw, ht⟩ := hT.get (i := k) hlt
    have d1 : w.cell? ⟨b, o + k * 3 + 1, none⟩ = some (.string ⟨l[k].text.toArray⟩) := ht.text
    have hz : (k : Int) < (n : Int) := by omega
    have hi0 : (0 : Int) ≤ (k : Int) := by omega
    rw [List.drop_eq_getElem_cons hlt] at hR
    have hR2 : (decide (l[k].text = x)) = R := hR
    generalize l[k].text = y at *
    have HI := Lib.hid I
    have HF : Hid ((y == x) = R) := Lib.hid (by rw [← hR2, Bool.eq_iff_iff]; simp)
    clear I hR hR2 hbb hT hn hlt ht hk hb
    by_cases hyx : y = x
    · subst hyx
      go_enter Try.func60, Try.ntmps60
      go_wp2_with fail
      refine S.out.mono ?_
      rintro e w' ⟨rfl, rfl⟩
      go_wp2_with fail
      refine HI.out.mono ?_
      rintro e w' ⟨rfl, rfl⟩
      go_wp2_with fail
      go_ret
      exact ⟨ret_bool (by rw [← HF.out]; simp), rfl⟩
    · have hne : (y == x) = false := by rw [beq_eq_false_iff_ne]; exact hyx
      have HG : Hid (false = R) := Lib.hid (by rw [← HF.out, hne])
      clear HF hyx
      go_enter Try.func60, Try.ntmps60
      go_wp2_with fail
      refine S.out.mono ?_
      rintro e w' ⟨rfl, rfl⟩
      go_wp2_with fail
      refine HI.out.mono ?_
      rintro e w' ⟨rfl, rfl⟩
      go_wp2_with fail
      go_ret
      exact ⟨ret_bool HG.out, rfl⟩
/-- the comparison at a place (0: none), and the place behind it -/
def opS (l : List Tok) (i : Nat) : Int × Nat :=
  let at_ := skipN l i
  let two := signP l (at_ + 1) [61]
  if signP l at_ [60] = true then (if two = true then (2, at_ + 2) else (1, at_ + 1))
  else if signP l at_ [62] = true then (if two = true then (4, at_ + 2) else (5, at_ + 1))
  else if signP l at_ [61] = true then (3, at_ + 1) else (0, at_)
theorem ret_pairK {a b c d : Int} (h1 : a = c) (h2 : b = d) : Ending.returned (.tuple #[.int .i64 a, .int .i64 b]) = .returned (.tuple #[.int .i64 c, .int .i64 d]) := by rw [h1, h2]
set_option maxRecDepth 100000 in
set_option maxHeartbeats 8000000 in
theorem refOp8_any (a : Option Addr) (l : List Tok) (n cap i : Nat) (w : World) (hn : l.length = n) (hm : n ≤ 1000000) (hi : i ≤ 2000000) (hT : Tks w a l) :
    Calls Try.prog 101 #[.slice a n cap, .int .i64 (i : Int)] w fun e w' => e = .returned (.tuple #[.int .i64 (opS l i).1, .int .i64 ((opS l i).2 : Nat)]) ∧ w' = w := by
  have S := Lib.hid (refSyn8_any a l n cap i w hn hm hi hT)
  have hb := skipN_bd l i
  unfold opS
  obtain ⟨k, hk⟩ : ∃ k, skipN l i = k := ⟨_, rfl⟩
  rw [hk] at S hb ⊢
  have T : Hid (Calls Try.prog 104 #[.slice a n cap, .int .i64 ((k : Int) + 1), .string ⟨([61] : List UInt8).toArray⟩] w fun e w' => e = .returned (.bool (signP l (k + 1) [61])) ∧ w' = w) := Lib.hid (refSign7_any a l n cap (k + 1) [61] w hn (by omega) (by omega) hT)
  have L := Lib.hid (refSign7_any a l n cap k [60] w hn (by omega) (by omega) hT)
  have G := Lib.hid (refSign7_any a l n cap k [62] w hn (by omega) (by omega) hT)
  have E := Lib.hid (refSign7_any a l n cap k [61] w hn (by omega) (by omega) hT)
  dsimp only
  generalize signP l (k + 1) [61] = two at *
  generalize signP l k [60] = lt at *
  generalize signP l k [62] = gt at *
  generalize signP l k [61] = eq at *
  have hkb : (k : Int) ≤ 3000000 := by omega
  have hk0 : (0 : Int) ≤ (k : Int) := by omega
  clear hT hn hk hb hm hi
  cases lt
  · rw [if_neg (by decide)]
    cases gt
    · rw [if_neg (by decide)]
      cases eq
      · rw [if_neg (by decide)]
        go_enter Try.func101, Try.ntmps101
        go_wp2_with fail
        refine S.out.mono ?_
        rintro e w' ⟨rfl, rfl⟩
        go_wp2_with fail
        refine T.out.mono ?_
        rintro e w' ⟨rfl, rfl⟩
        go_wp2_with fail
        refine L.out.mono ?_
        rintro e w' ⟨rfl, rfl⟩
        go_wp2_with fail
        refine G.out.mono ?_
        rintro e w' ⟨rfl, rfl⟩
        go_wp2_with fail
        refine E.out.mono ?_
        rintro e w' ⟨rfl, rfl⟩
        go_wp2_with fail
        go_ret2
        exact ⟨ret_pairK rfl (by first | rfl | omega), rfl⟩
      · rw [if_pos rfl]
        go_enter Try.func101, Try.ntmps101
        go_wp2_with fail
        refine S.out.mono ?_
        rintro e w' ⟨rfl, rfl⟩
        go_wp2_with fail
        refine T.out.mono ?_
        rintro e w' ⟨rfl, rfl⟩
        go_wp2_with fail
        refine L.out.mono ?_
        rintro e w' ⟨rfl, rfl⟩
        go_wp2_with fail
        refine G.out.mono ?_
        rintro e w' ⟨rfl, rfl⟩
        go_wp2_with fail
        refine E.out.mono ?_
        rintro e w' ⟨rfl, rfl⟩
        go_wp2_with fail
        go_ret2
        exact ⟨ret_pairK rfl (by first | rfl | omega), rfl⟩
    · rw [if_pos rfl]
      cases two
      · rw [if_neg (by decide)]
        go_enter Try.func101, Try.ntmps101
        go_wp2_with fail
        refine S.out.mono ?_
        rintro e w' ⟨rfl, rfl⟩
        go_wp2_with fail
        refine T.out.mono ?_
        rintro e w' ⟨rfl, rfl⟩
        go_wp2_with fail
        refine L.out.mono ?_
        rintro e w' ⟨rfl, rfl⟩
        go_wp2_with fail
        refine G.out.mono ?_
        rintro e w' ⟨rfl, rfl⟩
        go_wp2_with fail
        go_ret2
        exact ⟨ret_pairK rfl (by first | rfl | omega), rfl⟩
      · rw [if_pos rfl]
        go_enter Try.func101, Try.ntmps101
        go_wp2_with fail
        refine S.out.mono ?_
        rintro e w' ⟨rfl, rfl⟩
        go_wp2_with fail
        refine T.out.mono ?_
        rintro e w' ⟨rfl, rfl⟩
        go_wp2_with fail
        refine L.out.mono ?_
        rintro e w' ⟨rfl, rfl⟩
        go_wp2_with fail
        refine G.out.mono ?_
        rintro e w' ⟨rfl, rfl⟩
        go_wp2_with fail
        go_ret2
        exact ⟨ret_pairK rfl (by first | rfl | omega), rfl⟩
  · rw [if_pos rfl]
    cases two
    · rw [if_neg (by decide)]
      go_enter Try.func101, Try.ntmps101
      go_wp2_with fail
      refine S.out.mono ?_
      rintro e w' ⟨rfl, rfl⟩
      go_wp2_with fail
      refine T.out.mono ?_
      rintro e w' ⟨rfl, rfl⟩
      go_wp2_with fail
      refine L.out.mono ?_
      rintro e w' ⟨rfl, rfl⟩
      go_wp2_with fail
      go_ret2
      exact ⟨ret_pairK rfl (by first | rfl | omega), rfl⟩
    · rw [if_pos rfl]
      go_enter Try.func101, Try.ntmps101
      go_wp2_with fail
      refine S.out.mono ?_
      rintro e w' ⟨rfl, rfl⟩
      go_wp2_with fail
      refine T.out.mono ?_
      rintro e w' ⟨rfl, rfl⟩
      go_wp2_with fail
      refine L.out.mono ?_
      rintro e w' ⟨rfl, rfl⟩
      go_wp2_with fail
      go_ret2
      exact ⟨ret_pairK rfl (by first | rfl | omega), rfl⟩
end Go.Proofs.Ytoaenlbbochjhaa

namespace Go.Proofs.Ytoaenlbbochjhaa
open Go.RowKit TreN LexP FixP SynP ValP FixM
set_option linter.unusedVariables false

/-- the features' words, from number 1 on -/
def wordsQ : List (List UInt8) := [[], [119, 105, 100, 116, 104], [104, 101, 105, 103, 104, 116], [105, 110, 108, 105, 110, 101, 45, 115, 105, 122, 101], [98, 108, 111, 99, 107, 45, 115, 105, 122, 101], [97, 115, 112, 101, 99, 116, 45, 114, 97, 116, 105, 111], [111, 114, 105, 101, 110, 116, 97, 116, 105, 111, 110]]
def calledS (s : List UInt8) : Nat := if s = [119, 105, 100, 116, 104] then 1 else if s = [104, 101, 105, 103, 104, 116] then 2 else if s = [105, 110, 108, 105, 110, 101, 45, 115, 105, 122, 101] then 3 else if s = [98, 108, 111, 99, 107, 45, 115, 105, 122, 101] then 4 else if s = [97, 115, 112, 101, 99, 116, 45, 114, 97, 116, 105, 111] then 5 else if s = [111, 114, 105, 101, 110, 116, 97, 116, 105, 111, 110] then 6 else 0
@[reducible] def wordsC : Array Value := #[.string ⟨#[]⟩, .string ⟨#[119, 105, 100, 116, 104]⟩, .string ⟨#[104, 101, 105, 103, 104, 116]⟩, .string ⟨#[105, 110, 108, 105, 110, 101, 45, 115, 105, 122, 101]⟩, .string ⟨#[98, 108, 111, 99, 107, 45, 115, 105, 122, 101]⟩, .string ⟨#[97, 115, 112, 101, 99, 116, 45, 114, 97, 116, 105, 111]⟩, .string ⟨#[111, 114, 105, 101, 110, 116, 97, 116, 105, 111, 110]⟩]
set_option maxRecDepth 100000 in
set_option maxHeartbeats 4000000 in
theorem refWords8_any (w : World) : Calls Try.prog 103 #[] w fun e w' => e = .returned (.slice (some ⟨w.heap.size, 0, none⟩) 7 7) ∧ w' = w.alloc (.cells wordsC 9) := by
  go_enter Try.func103, Try.ntmps103
  go_wp2_with fail
  go_ret
  exact ⟨rfl, rfl⟩
set_option maxRecDepth 100000 in
set_option maxHeartbeats 8000000 in
theorem refCalled8_any (s : List UInt8) (w : World) : Calls Try.prog 99 #[.string ⟨s.toArray⟩] w fun e w' => e = .returned (.int .i64 (calledS s : Nat)) ∧ Below w.heap.size w w' := by
  have WD := Lib.hid (refWords8_any w)
  have hb : Below w.heap.size w (w.alloc (.cells wordsC 9)) := (Below.refl _ _).alloc (Nat.le_refl _) _
  have hx := heap_alloc_new w (.cells wordsC 9)
  generalize w.alloc (.cells wordsC 9) = W at *
  have d1 : W.cell? ⟨w.heap.size, 1, none⟩ = some (.string ⟨#[119, 105, 100, 116, 104]⟩) := cell_of hx rfl
  have d2 : W.cell? ⟨w.heap.size, 2, none⟩ = some (.string ⟨#[104, 101, 105, 103, 104, 116]⟩) := cell_of hx rfl
  have d3 : W.cell? ⟨w.heap.size, 3, none⟩ = some (.string ⟨#[105, 110, 108, 105, 110, 101, 45, 115, 105, 122, 101]⟩) := cell_of hx rfl
  have d4 : W.cell? ⟨w.heap.size, 4, none⟩ = some (.string ⟨#[98, 108, 111, 99, 107, 45, 115, 105, 122, 101]⟩) := cell_of hx rfl
  have d5 : W.cell? ⟨w.heap.size, 5, none⟩ = some (.string ⟨#[97, 115, 112, 101, 99, 116, 45, 114, 97, 116, 105, 111]⟩) := cell_of hx rfl
  have d6 : W.cell? ⟨w.heap.size, 6, none⟩ = some (.string ⟨#[111, 114, 105, 101, 110, 116, 97, 116, 105, 111, 110]⟩) := cell_of hx rfl
  have HB := Lib.hid hb
  have D : Hid (∀ f : Nat, 1 ≤ f → f ≤ 6 → W.cell? ⟨w.heap.size, f, none⟩ = some (.string ⟨(wordsQ.getD f []).toArray⟩)) := Lib.hid (fun f h1 h6 => by
    rcases (by omega : f = 1 ∨ f = 2 ∨ f = 3 ∨ f = 4 ∨ f = 5 ∨ f = 6) with rfl | rfl | rfl | rfl | rfl | rfl
    · exact d1
    · exact d2
    · exact d3
    · exact d4
    · exact d5
    · exact d6)
  clear hb hx d1 d2 d3 d4 d5 d6
  obtain ⟨R, hR⟩ : ∃ R : Nat, calledS s = R := ⟨_, rfl⟩
  rw [hR]
  have HR := Lib.hid hR
  clear hR
  go_enter Try.func99, Try.ntmps99
  go_wp2_with fail
  refine WD.out.mono ?_
  rintro e w' ⟨rfl, rfl⟩
  go_wp2_with fail
  go_loopw [4] (fun vi wr => ∃ f : Nat, vi = .int .i64 (f : Int) ∧ 1 ≤ f ∧ f ≤ 7 ∧ w' = wr ∧ Hid (∀ j, 1 ≤ j → j < f → s ≠ wordsQ.getD j [])) (fun vi _ => 7 - (intOf vi).toNat)
  case atStart => exact ⟨1, rfl, by omega, by omega, rfl, Lib.hid (fun j h1 h2 => by omega)⟩
  case round =>
    obtain ⟨f, rfl, h1, h7, rfl, HJ⟩ := hrel
    by_cases hlt : f ≤ 6
    · have hz : (f : Int) ≤ 6 := by omega
      have hz0 : (0 : Int) ≤ (f : Int) := by omega
      have hz7 : (f : Int) < 7 := by omega
      have d := D.out f h1 hlt
      obtain ⟨y, hy⟩ : ∃ y, wordsQ.getD f [] = y := ⟨_, rfl⟩
      rw [hy] at d
      have HY := Lib.hid hy
      clear hy
      by_cases he : y = s
      · subst he
        have HF : Hid (f = R) := Lib.hid (by
          rw [← HR.out, ← HY.out]
          rcases (by omega : f = 1 ∨ f = 2 ∨ f = 3 ∨ f = 4 ∨ f = 5 ∨ f = 6) with rfl | rfl | rfl | rfl | rfl | rfl <;> decide)
        go_wp2_with fail
        go_ret
        exact ⟨by rw [HF.out]; rfl, HB.out⟩
      · have hne : (y == s) = false := by rw [beq_eq_false_iff_ne]; exact he
        have HJ2 : Hid (∀ j, 1 ≤ j → j < f + 1 → s ≠ wordsQ.getD j []) := Lib.hid (fun j g1 g2 => by
          by_cases c : j = f
          · subst c; rw [HY.out]; exact fun e => he e.symm
          · exact HJ.out j g1 (by omega))
        clear he
        go_wp2_with fail
        go_roundw
        case rel => exact ⟨f + 1, by go_num, by omega, by omega, by first | rfl | trivial, HJ2⟩
        case measure => simp [intOf]; omega
    · have hz : ¬ (f : Int) ≤ 6 := by omega
      have HF : Hid (0 = R) := Lib.hid (by
        have e7 : f = 7 := by omega
        subst e7
        rw [← HR.out]
        unfold calledS
        rw [if_neg (show s ≠ [119, 105, 100, 116, 104] from HJ.out 1 (by omega) (by omega)), if_neg (show s ≠ [104, 101, 105, 103, 104, 116] from HJ.out 2 (by omega) (by omega)), if_neg (show s ≠ [105, 110, 108, 105, 110, 101, 45, 115, 105, 122, 101] from HJ.out 3 (by omega) (by omega)), if_neg (show s ≠ [98, 108, 111, 99, 107, 45, 115, 105, 122, 101] from HJ.out 4 (by omega) (by omega)), if_neg (show s ≠ [97, 115, 112, 101, 99, 116, 45, 114, 97, 116, 105, 111] from HJ.out 5 (by omega) (by omega)), if_neg (show s ≠ [111, 114, 105, 101, 110, 116, 97, 116, 105, 111, 110] from HJ.out 6 (by omega) (by omega))])
      go_wp2_with fail
      go_ret
      exact ⟨by rw [← HF.out]; rfl, HB.out⟩
end Go.Proofs.Ytoaenlbbochjhaa

namespace Go.Proofs.Ytoaenlbbochjhaa
open Go.RowKit TreN LexP FixP SynP ValP FixM QryP
set_option linter.unusedVariables false

theorem results_cell_tmp2 {fn : Func} {p u v : Tmp} {ty : TypeId} (h : fn.results = #[.cell p ty, .tmp u, .tmp v]) (tmps : Array Value) (P : Program) (w : World) :
    (results fn tmps).run P w =
      ((asAddr (tmps.getD p undef)).run P w).andThen fun a w₁ => ((loadVar ty a).run P w₁).andThen fun x w₂ => .ok (.tuple #[x, tmps.getD u undef, tmps.getD v undef]) w₂ := by
  simp only [results, h]
  simp [Sem.run_bind, Result.andThen]
theorem bd_und : ∃ d, Try.prog.underlying 37 = some d ∧ (match d with | .struct _ | .array _ _ => true | _ => false) = true := by
  have this : (Try.prog.underlying 37).map (fun d => match d with | .struct _ | .array _ _ => true | _ => false) = some true := by kernel_rfl
  cases h : Try.prog.underlying 37 with
  | none => rw [h] at this; cases this
  | some d => rw [h] at this; injection this with this; exact ⟨d, rfl, this⟩
theorem results_val8 (tmps : Array Value) (w : World) (H : Nat) (x0 x1 x2 u v : Value) (hp : tmps.getD 6 undef = .pointer (some ⟨H, 0, none⟩)) (hu : tmps.getD 7 undef = u) (hv : tmps.getD 8 undef = v) (hg : w.heap[H]? = some (.cells #[x0, x1, x2] 37 (0, 0))) :
    (results Try.f100 tmps).run Try.prog w = .ok (.tuple #[.agg #[x0, x1, x2], u, v]) w := by
  obtain ⟨d, hd1, hd2⟩ := bd_und
  rw [results_cell_tmp2 (p := 6) (ty := 37) (u := 7) (v := 8) rfl, hp, hu, hv]
  simp only [asAddr, Sem.run_pure, Result.andThen_ok, run_loadVar_row w H 37 37 _ (0, 0) d hg hd1 (by cases d <;> first | rfl | cases hd2) (by kernel_rfl)]
/-- three stores into a bound's block -/
theorem bd_store {w W : World} {H B : Nat} {p q r : Value} (hb : Below B w W) (hB : B ≤ H) (hx : W.heap[H]? = some (.cells #[p, q, r] 37 (0, 0))) (v0 v1 v2 : Value) :
    ∃ x1 x2 x3, (W.cell? ⟨H, 0, none⟩ = some p ∧ W.frozen? ⟨H, 0, none⟩ = false ∧ W.setCell ⟨H, 0, none⟩ v0 = x1) ∧ (x1.cell? ⟨H, 1, none⟩ = some q ∧ x1.frozen? ⟨H, 1, none⟩ = false ∧ x1.setCell ⟨H, 1, none⟩ v1 = x2) ∧
      (x2.cell? ⟨H, 2, none⟩ = some r ∧ x2.frozen? ⟨H, 2, none⟩ = false ∧ x2.setCell ⟨H, 2, none⟩ v2 = x3) ∧ Below B w x3 ∧ x3.heap[H]? = some (.cells #[v0, v1, v2] 37 (0, 0)) := by
  have h1 := heap_setCell_same W H 0 _ 37 v0 hx
  have h2 := heap_setCell_same _ H 1 _ 37 v1 h1
  have h3 := heap_setCell_same _ H 2 _ 37 v2 h2
  refine ⟨_, _, _, ⟨cell_of hx rfl, ?_, rfl⟩, ⟨cell_of h1 rfl, ?_, rfl⟩, ⟨cell_of h2 rfl, ?_, rfl⟩, ((hb.setCell (p := ⟨H, 0, none⟩) hB v0).setCell (p := ⟨H, 1, none⟩) hB v1).setCell (p := ⟨H, 2, none⟩) hB v2, h3⟩
  · unfold World.frozen?; rw [hx]; rfl
  · unfold World.frozen?; rw [h1]; rfl
  · unfold World.frozen?; rw [h2]; rfl

set_option maxRecDepth 100000 in
set_option maxHeartbeats 8000000 in
theorem refValue8_word (a : Option Addr) (l : List Tok) (n cap i k : Nat) (w : World) (hn : l.length = n) (hm : n ≤ 400000) (hi : i ≤ 400000) (hT : Tks w a l) (hk : skipN l i = k) (hkl : k < l.length) (h1 : l[k].kind = 1) (h2 : l[k].text = [112, 111, 114, 116, 114, 97, 105, 116]) :
    Calls Try.prog 100 #[.slice a n cap, .int .i64 (i : Int), .int .i64 6] w fun e w' => e = .returned (.tuple #[.agg #[.int .i64 0, .int .i64 1, .int .i64 0], .int .i64 (k + 1 : Nat), .bool true]) ∧ Below w.heap.size w w' := by
  have hb0 : Below w.heap.size w (w.alloc (.cells #[.int .i64 0, .int .i64 0, .int .i64 0] 37)) := below_oneQ w _
  have hx := heap_alloc_new w (.cells #[.int .i64 0, .int .i64 0, .int .i64 0] 37)
  have hbd := skipN_bd l i
  rw [hk] at hbd
  generalize hW0 : w.alloc (.cells #[.int .i64 0, .int .i64 0, .int .i64 0] 37) = W0 at *
  have S := fun W (hW : Below w.heap.size w W) => refSyn8_any a l n cap i W hn (by omega) (by omega) (hT.below hW)
  rw [hk] at S
  have HS := Lib.hid S
  have I := fun W (hW : Below w.heap.size w W) => refIs7_any a l n cap k 1 W hn (by omega) (by omega) (hT.below hW)
  rw [isP_lt hkl, h1, decide_eq_true (rfl : (1 : Int) = 1)] at I
  have HI := Lib.hid I
  have HB := Lib.hid hb0
  obtain ⟨b, o, rfl, hbw, ht⟩ := (hT.below hb0).get (i := k) hkl
  have d1 : W0.cell? ⟨b, o + k * 3 + 1, none⟩ = some (.string ⟨l[k].text.toArray⟩) := ht.text
  rw [h2] at d1
  have hz : (k : Int) < (n : Int) := by omega
  have hz0 : (0 : Int) ≤ (k : Int) := by omega
  have hkb : (k : Int) ≤ 1000000 := by omega
  obtain ⟨x1, x2, x3, ⟨s1, s2, s3⟩, ⟨s4, s5, s6⟩, ⟨s7, s8, s9⟩, sb, sx⟩ := bd_store hb0 (Nat.le_refl _) hx (.int .i64 0) (.int .i64 1) (.int .i64 0)
  have SB := Lib.hid sb
  have SX := Lib.hid sx
  clear sb sx I S hT hk hn hbd ht hb0 hx h1 h2 hi hm hkl
  go_enter Try.func100, Try.ntmps100
  go_wp2_with fail
  refine (HS.out _ HB.out).mono ?_
  rintro e W0 ⟨rfl, rfl⟩
  go_wp2_with fail
  refine (HI.out _ HB.out).mono ?_
  rintro e W0 ⟨rfl, rfl⟩
  go_wp2_with fail
  refine bodyPost_ret_by (results_val8 _ _ w.heap.size (.int .i64 0) (.int .i64 1) (.int .i64 0) (.int .i64 ((k + 1 : Nat) : Int)) (.bool true) rfl (by go_num) rfl SX.out) rfl ⟨rfl, SB.out⟩
set_option maxRecDepth 100000 in
set_option maxHeartbeats 8000000 in
theorem refValue8_px (a : Option Addr) (l : List Tok) (n cap i k : Nat) (f : Int) (w : World) (hn : l.length = n) (hm : n ≤ 400000) (hi : i ≤ 400000) (hT : Tks w a l) (hk : skipN l i = k) (hkl : k < l.length) (hf6 : f ≠ 6) (hf : f < 5) (h1 : l[k].kind = 9) (h2 : l[k].text = [112, 120]) :
    Calls Try.prog 100 #[.slice a n cap, .int .i64 (i : Int), .int .i64 f] w fun e w' => e = .returned (.tuple #[.agg #[.int .i64 0, .int .i64 l[k].n, .int .i64 0], .int .i64 (k + 1 : Nat), .bool true]) ∧ Below w.heap.size w w' := by
  have hb0 : Below w.heap.size w (w.alloc (.cells #[.int .i64 0, .int .i64 0, .int .i64 0] 37)) := below_oneQ w _
  have hx := heap_alloc_new w (.cells #[.int .i64 0, .int .i64 0, .int .i64 0] 37)
  have hbd := skipN_bd l i
  rw [hk] at hbd
  generalize hW0 : w.alloc (.cells #[.int .i64 0, .int .i64 0, .int .i64 0] 37) = W0 at *
  have S := fun W (hW : Below w.heap.size w W) => refSyn8_any a l n cap i W hn (by omega) (by omega) (hT.below hW)
  rw [hk] at S
  have HS := Lib.hid S
  have I := fun W (hW : Below w.heap.size w W) => refIs7_any a l n cap k 9 W hn (by omega) (by omega) (hT.below hW)
  rw [isP_lt hkl, h1, decide_eq_true (rfl : (9 : Int) = 9)] at I
  have HI := Lib.hid I
  have HB := Lib.hid hb0
  have z6 : (f == 6) = false := by rw [beq_eq_false_iff_ne]; exact hf6
  obtain ⟨b, o, rfl, hbw, ht⟩ := (hT.below hb0).get (i := k) hkl
  have d1 : W0.cell? ⟨b, o + k * 3 + 1, none⟩ = some (.string ⟨l[k].text.toArray⟩) := ht.text
  have d2 : W0.cell? ⟨b, o + k * 3 + 2, none⟩ = some (.int .i64 l[k].n) := ht.n
  rw [h2] at d1
  have hz : (k : Int) < (n : Int) := by omega
  have hz0 : (0 : Int) ≤ (k : Int) := by omega
  have hkb : (k : Int) ≤ 1000000 := by omega
  obtain ⟨v, hv⟩ : ∃ v, l[k].n = v := ⟨_, rfl⟩
  rw [hv] at d2 ⊢
  obtain ⟨x1, x2, x3, ⟨s1, s2, s3⟩, ⟨s4, s5, s6⟩, ⟨s7, s8, s9⟩, sb, sx⟩ := bd_store hb0 (Nat.le_refl _) hx (.int .i64 0) (.int .i64 v) (.int .i64 0)
  have SB := Lib.hid sb
  have SX := Lib.hid sx
  clear sb sx I S hT hk hn hbd ht hb0 hx h1 h2 hi hm hv hkl hf6
  go_enter Try.func100, Try.ntmps100
  go_wp2_with fail
  refine (HS.out _ HB.out).mono ?_
  rintro e W0 ⟨rfl, rfl⟩
  go_wp2_with fail
  refine (HI.out _ HB.out).mono ?_
  rintro e W0 ⟨rfl, rfl⟩
  go_wp2_with fail
  refine bodyPost_ret_by (results_val8 _ _ w.heap.size (.int .i64 0) (.int .i64 v) (.int .i64 0) (.int .i64 ((k + 1 : Nat) : Int)) (.bool true) rfl (by go_num) rfl SX.out) rfl ⟨rfl, SB.out⟩
set_option maxRecDepth 100000 in
set_option maxHeartbeats 8000000 in
theorem refValue8_ratio (a : Option Addr) (l : List Tok) (n cap i k m m2 : Nat) (w : World) (hn : l.length = n) (hm : n ≤ 400000) (hi : i ≤ 400000) (hT : Tks w a l) (hk : skipN l i = k) (hkl : k < l.length) (h1 : l[k].kind = 7) (h2 : 0 < l[k].n) (hs1 : skipN l (k + 1) = m) (hs2 : signP l m [47] = true) (hs3 : skipN l (m + 1) = m2) (hml : m2 < l.length) (h3 : l[m2].kind = 7) (h4 : 0 < l[m2].n) :
    Calls Try.prog 100 #[.slice a n cap, .int .i64 (i : Int), .int .i64 5] w fun e w' => e = .returned (.tuple #[.agg #[.int .i64 0, .int .i64 l[k].n, .int .i64 l[m2].n], .int .i64 (m2 + 1 : Nat), .bool true]) ∧ Below w.heap.size w w' := by
  have hb0 : Below w.heap.size w (w.alloc (.cells #[.int .i64 0, .int .i64 0, .int .i64 0] 37)) := below_oneQ w _
  have hx := heap_alloc_new w (.cells #[.int .i64 0, .int .i64 0, .int .i64 0] 37)
  have hsz : w.heap.size < (w.alloc (.cells #[.int .i64 0, .int .i64 0, .int .i64 0] 37)).heap.size := by simp
  have hbd := skipN_bd l i
  rw [hk] at hbd
  have hb2 := skipN_bd l (k + 1)
  rw [hs1] at hb2
  generalize hW0 : w.alloc (.cells #[.int .i64 0, .int .i64 0, .int .i64 0] 37) = W0 at *
  have S := fun W (hW : Below w.heap.size w W) => refSyn8_any a l n cap i W hn (by omega) (by omega) (hT.below hW)
  rw [hk] at S
  have HS := Lib.hid S
  have S1 := fun W (hW : Below w.heap.size w W) => refSyn8_any a l n cap (k + 1) W hn (by omega) (by omega) (hT.below hW)
  rw [hs1, show ((k + 1 : Nat) : Int) = (k : Int) + 1 by omega] at S1
  have HS1 := Lib.hid S1
  have S2 := fun W (hW : Below w.heap.size w W) => refSyn8_any a l n cap (m + 1) W hn (by omega) (by omega) (hT.below hW)
  rw [hs3, show ((m + 1 : Nat) : Int) = (m : Int) + 1 by omega] at S2
  have HS2 := Lib.hid S2
  have G := fun W (hW : Below w.heap.size w W) => refSign7_any a l n cap m [47] W hn (by omega) (by omega) (hT.below hW)
  rw [hs2] at G
  have HG := Lib.hid G
  have I := fun W (hW : Below w.heap.size w W) => refIs7_any a l n cap k 7 W hn (by omega) (by omega) (hT.below hW)
  rw [isP_lt hkl, h1, decide_eq_true (rfl : (7 : Int) = 7)] at I
  have HI := Lib.hid I
  have J := fun W (hW : Below w.heap.size w W) => refIs7_any a l n cap m2 7 W hn (by omega) (by omega) (hT.below hW)
  rw [isP_lt hml, h3, decide_eq_true (rfl : (7 : Int) = 7)] at J
  have HJ := Lib.hid J
  have HB := Lib.hid hb0
  obtain ⟨v, hv⟩ : ∃ v, l[k].n = v := ⟨_, rfl⟩
  obtain ⟨u, hu⟩ : ∃ u, l[m2].n = u := ⟨_, rfl⟩
  rw [hv] at h2
  rw [hu] at h4
  have hz1 : (k : Int) < (n : Int) := by omega
  have hz2 : (m2 : Int) < (n : Int) := by omega
  have hz3 : (0 : Int) ≤ (k : Int) := by omega
  have hz4 : (0 : Int) ≤ (m2 : Int) := by omega
  have hz5 : (k : Int) ≤ 1000000 := by omega
  have hz6 : (m : Int) ≤ 3000000 := by omega
  have hz7 : (m2 : Int) ≤ 1000000 := by omega
  have hz8 : ¬ v ≤ 0 := by omega
  have hz9 : ¬ u ≤ 0 := by omega
  have hz10 : (0 : Int) ≤ (m : Int) := by omega
  have bb := below_oneQ W0 (.cells #[.int .i64 0, .int .i64 v, .int .i64 1000] 37)
  have hB1 := hb0.trans (bb.mono hb0.size)
  have hx1 := (bb.block _ hsz).trans hx
  have hy := heap_alloc_new W0 (.cells #[.int .i64 0, .int .i64 v, .int .i64 1000] 37)
  have hTT := hT.below hB1
  generalize hW1 : W0.alloc (.cells #[.int .i64 0, .int .i64 v, .int .i64 1000] 37) = W1 at *
  obtain ⟨b, o, rfl, hbw, ht⟩ := hT.get (i := k) hkl
  obtain ⟨b', o', he, hbw', ht'⟩ := hT.get (i := m2) hml
  injection he with he
  injection he with he1 he2
  subst he1 he2
  have d1 : W0.cell? ⟨b, o + k * 3 + 2, none⟩ = some (.int .i64 l[k].n) := (hb0.cell (p := ⟨b, o + k * 3 + 2, none⟩) hbw).trans ht.n
  have d2 : W1.cell? ⟨b, o + m2 * 3 + 2, none⟩ = some (.int .i64 l[m2].n) := (hB1.cell (p := ⟨b, o + m2 * 3 + 2, none⟩) hbw).trans ht'.n
  rw [hv] at d1
  rw [hu] at d2
  rw [hv, hu]
  have c2 : W1.cell? ⟨W0.heap.size, 2, none⟩ = some (.int .i64 1000) := cell_of hy rfl
  have f2 : W1.frozen? ⟨W0.heap.size, 2, none⟩ = false := by unfold World.frozen?; rw [hy]; rfl
  have hy2 := heap_setCell_same W1 W0.heap.size 2 _ 37 (.int .i64 u) hy
  have hx2 := (heap_setCell_other W1 ⟨W0.heap.size, 2, none⟩ w.heap.size (.int .i64 u) (by show w.heap.size ≠ W0.heap.size; omega)).trans hx1
  have hB2 := hB1.setCell (p := ⟨W0.heap.size, 2, none⟩) (by show w.heap.size ≤ W0.heap.size; omega) (.int .i64 u)
  generalize hW2 : W1.setCell ⟨W0.heap.size, 2, none⟩ (.int .i64 u) = W2 at *
  have y0 : W2.cell? ⟨W0.heap.size, 0, none⟩ = some (.int .i64 0) := cell_of hy2 rfl
  have y1 : W2.cell? ⟨W0.heap.size, 1, none⟩ = some (.int .i64 v) := cell_of hy2 rfl
  have y2 : W2.cell? ⟨W0.heap.size, 2, none⟩ = some (.int .i64 u) := cell_of hy2 rfl
  obtain ⟨x1, x2, x3, ⟨s1, s2, s3⟩, ⟨s4, s5, s6⟩, ⟨s7, s8, s9⟩, sb, sx⟩ := bd_store hB2 (Nat.le_refl _) hx2 (.int .i64 0) (.int .i64 v) (.int .i64 u)
  have SB := Lib.hid sb
  have SX := Lib.hid sx
  have HBB := Lib.hid hB1
  clear sb sx I J G S S1 S2 hT hTT hk hn hbd hb2 ht ht' hb0 hB1 hB2 hx hx1 hx2 hy hy2 h1 h3 hi hm hv hu hkl hml hs1 hs2 hs3 bb hbw hbw' h2 h4
  go_enter Try.func100, Try.ntmps100
  go_wp2_with fail
  refine (HS.out _ HB.out).mono ?_
  rintro e W0 ⟨rfl, rfl⟩
  go_wp2_with fail
  refine (HI.out _ HB.out).mono ?_
  rintro e W0 ⟨rfl, rfl⟩
  go_wp2_with fail
  refine (HS1.out _ HBB.out).mono ?_
  rintro e W1 ⟨rfl, rfl⟩
  go_wp2_with fail
  refine (HG.out _ HBB.out).mono ?_
  rintro e W1 ⟨rfl, rfl⟩
  go_wp2_with fail
  refine (HS2.out _ HBB.out).mono ?_
  rintro e W1 ⟨rfl, rfl⟩
  go_wp2_with fail
  refine (HJ.out _ HBB.out).mono ?_
  rintro e W1 ⟨rfl, rfl⟩
  go_wp2_with fail
  refine bodyPost_ret_by (results_val8 _ _ w.heap.size (.int .i64 0) (.int .i64 v) (.int .i64 u) (.int .i64 ((m2 + 1 : Nat) : Int)) (.bool true) rfl (by go_num) rfl SX.out) rfl ⟨rfl, SB.out⟩
end Go.Proofs.Ytoaenlbbochjhaa
