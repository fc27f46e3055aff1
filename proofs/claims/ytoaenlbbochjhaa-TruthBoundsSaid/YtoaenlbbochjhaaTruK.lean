/- Layer 14: the fixed calls: five texts, asked of two extents. -/
import Derived.Test.YtoaenlbbochjhaaQryKc
import Derived.Test.YtoaenlbbochjhaaTruWb
import Derived.Test.YtoaenlbbochjhaaLexR6
namespace Go.Proofs.Ytoaenlbbochjhaa
open Go.RowKit TreN LexP FixP SynP ValP FixM QryP TruP
set_option linter.unusedVariables false

def AskedIs (w : World) (r : Int) (e : Ending) (w' : World) : Prop := e = .returned (.int .i64 r) ∧ Below w.heap.size w w'
def t1S : List UInt8 := [40, 119, 105, 100, 116, 104, 32, 62, 32, 51, 48, 48, 112, 120, 41]
@[reducible] def t1L : List Tok := [⟨13, [], 0⟩, ⟨1, [119, 105, 100, 116, 104], 0⟩, ⟨20, [], 0⟩, ⟨19, [62], 0⟩, ⟨20, [], 0⟩, ⟨9, [112, 120], 300000⟩, ⟨14, [], 0⟩]
theorem t1_cut : cut t1S = t1L := by decide +kernel
def t2S : List UInt8 := [40, 97, 115, 112, 101, 99, 116, 45, 114, 97, 116, 105, 111, 58, 32, 52, 47, 51, 41]
@[reducible] def t2L : List Tok := [⟨13, [], 0⟩, ⟨1, [97, 115, 112, 101, 99, 116, 45, 114, 97, 116, 105, 111], 0⟩, ⟨10, [], 0⟩, ⟨20, [], 0⟩, ⟨7, [], 4000⟩, ⟨19, [47], 0⟩, ⟨7, [], 3000⟩, ⟨14, [], 0⟩]
theorem t2_cut : cut t2S = t2L := by decide +kernel
def t3S : List UInt8 := [40, 111, 114, 105, 101, 110, 116, 97, 116, 105, 111, 110, 58, 32, 112, 111, 114, 116, 114, 97, 105, 116, 41]
@[reducible] def t3L : List Tok := [⟨13, [], 0⟩, ⟨1, [111, 114, 105, 101, 110, 116, 97, 116, 105, 111, 110], 0⟩, ⟨10, [], 0⟩, ⟨20, [], 0⟩, ⟨1, [112, 111, 114, 116, 114, 97, 105, 116], 0⟩, ⟨14, [], 0⟩]
theorem t3_cut : cut t3S = t3L := by decide +kernel
def t4S : List UInt8 := [40, 104, 101, 105, 103, 104, 116, 41]
@[reducible] def t4L : List Tok := [⟨13, [], 0⟩, ⟨1, [104, 101, 105, 103, 104, 116], 0⟩, ⟨14, [], 0⟩]
theorem t4_cut : cut t4S = t4L := by decide +kernel
def t5S : List UInt8 := [40, 104, 101, 105, 103, 104, 116, 41, 32, 111, 114, 32, 40, 119, 105, 100, 116, 104, 41]
@[reducible] def t5L : List Tok := [⟨13, [], 0⟩, ⟨1, [104, 101, 105, 103, 104, 116], 0⟩, ⟨14, [], 0⟩, ⟨20, [], 0⟩, ⟨1, [111, 114], 0⟩, ⟨20, [], 0⟩, ⟨13, [], 0⟩, ⟨1, [119, 105, 100, 116, 104], 0⟩, ⟨14, [], 0⟩]
theorem t5_cut : cut t5S = t5L := by decide +kernel

theorem term_is {a : Option Addr} {n cap i m : Nat} {f op v1 v2 : Int} {w : World} (h : Calls Try.prog 61 #[.slice a n cap, .int .i64 (i : Int)] w fun e w' => ∃ g, e = .returned (.tuple #[.slice (some ⟨g, 0, none⟩) 1 1, .int .i64 ((m + 1 : Nat) : Int), .bool true]) ∧ w.heap.size ≤ g ∧ w'.heap.size = g + 1 ∧ w'.heap[g]? = some (.cells #[.int .i64 4, .int .i64 0, .int .i64 f, .int .i64 0, .int .i64 0, .int .i64 0, .int .i64 op, .int .i64 v1, .int .i64 v2] 39 (0, 0)) ∧ Below w.heap.size w w') :
    Calls Try.prog 61 #[.slice a n cap, .int .i64 (i : Int)] w (TermIs w ⟨4, 0, f, ⟨0, 0, 0⟩, ⟨op, v1, v2⟩⟩ (m + 1)) :=
  h.mono fun e w' ⟨g, h1, h2, _, h4, h5⟩ => ⟨g, h1, h2, h4, h5⟩
set_option maxRecDepth 100000 in
theorem t1_term (a : Option Addr) (cap : Nat) (w : World) (hc : 7 ≤ cap) (hm : cap ≤ maxLen) (hT : Tks w a t1L) : Calls Try.prog 61 #[.slice a 7 cap, .int .i64 ((0 : Nat) : Int)] w (TermIs w ⟨4, 0, 1, ⟨0, 0, 0⟩, ⟨5, 300000, 0⟩⟩ (6 + 1)) := by
  refine term_is (refTerm8_ok a t1L 7 cap 0 0 6 1 5 300000 0 w rfl hc hm (by decide) (by decide) hT (by decide) (by decide) (by decide) (by decide) (by decide) ?_)
  intro a2 c2 W hW hT2
  have e : (t1L.take 6).drop (0 + 1) = [⟨1, [119, 105, 100, 116, 104], 0⟩, ⟨20, [], 0⟩, ⟨19, [62], 0⟩, ⟨20, [], 0⟩, ⟨9, [112, 120], 300000⟩] := rfl
  rw [e] at hT2
  have hn : 6 - (0 + 1) = 5 := rfl
  rw [hn]
  refine refFeature8_front a2 [⟨1, [119, 105, 100, 116, 104], 0⟩, ⟨20, [], 0⟩, ⟨19, [62], 0⟩, ⟨20, [], 0⟩, ⟨9, [112, 120], 300000⟩] 5 c2 0 1 5 300000 0 W rfl (by decide) hT2 (by decide) (by decide) ?_
  intro W2 hW2
  refine refFront8_op a2 [⟨1, [119, 105, 100, 116, 104], 0⟩, ⟨20, [], 0⟩, ⟨19, [62], 0⟩, ⟨20, [], 0⟩, ⟨9, [112, 120], 300000⟩] 5 c2 0 1 2 3 5 5 300000 0 W2 rfl (by decide) (by decide) (hT2.below hW2) (by decide) (by decide) (by decide) (by decide) (by decide) (by decide) (by decide) (by decide) (by decide) (by decide) (by decide) (by decide) ?_
  intro W3 hW3
  exact refValue8_px a2 [⟨1, [119, 105, 100, 116, 104], 0⟩, ⟨20, [], 0⟩, ⟨19, [62], 0⟩, ⟨20, [], 0⟩, ⟨9, [112, 120], 300000⟩] 5 c2 3 4 1 W3 rfl (by decide) (by decide) ((hT2.below hW2).below hW3) (by decide) (by decide) (by decide) (by decide) rfl rfl

set_option maxRecDepth 100000 in
theorem t2_term (a : Option Addr) (cap : Nat) (w : World) (hc : 8 ≤ cap) (hm : cap ≤ maxLen) (hT : Tks w a t2L) : Calls Try.prog 61 #[.slice a 8 cap, .int .i64 ((0 : Nat) : Int)] w (TermIs w ⟨4, 0, 5, ⟨0, 0, 0⟩, ⟨3, 4000, 3000⟩⟩ (7 + 1)) := by
  refine term_is (refTerm8_ok a t2L 8 cap 0 0 7 5 3 4000 3000 w rfl hc hm (by decide) (by decide) hT (by decide) (by decide) (by decide) (by decide) (by decide) ?_)
  intro a2 c2 W hW hT2
  have e : (t2L.take 7).drop (0 + 1) = [⟨1, [97, 115, 112, 101, 99, 116, 45, 114, 97, 116, 105, 111], 0⟩, ⟨10, [], 0⟩, ⟨20, [], 0⟩, ⟨7, [], 4000⟩, ⟨19, [47], 0⟩, ⟨7, [], 3000⟩] := rfl
  rw [e] at hT2
  have hn : 7 - (0 + 1) = 6 := rfl
  rw [hn]
  refine refFeature8_front a2 [⟨1, [97, 115, 112, 101, 99, 116, 45, 114, 97, 116, 105, 111], 0⟩, ⟨10, [], 0⟩, ⟨20, [], 0⟩, ⟨7, [], 4000⟩, ⟨19, [47], 0⟩, ⟨7, [], 3000⟩] 6 c2 0 5 3 4000 3000 W rfl (by decide) hT2 (by decide) (by decide) ?_
  intro W2 hW2
  refine refFront8_colon a2 [⟨1, [97, 115, 112, 101, 99, 116, 45, 114, 97, 116, 105, 111], 0⟩, ⟨10, [], 0⟩, ⟨20, [], 0⟩, ⟨7, [], 4000⟩, ⟨19, [47], 0⟩, ⟨7, [], 3000⟩] 6 c2 0 5 1 2 6 4000 3000 W2 rfl (by decide) (by decide) (hT2.below hW2) (by decide) (by decide) (by decide) (by decide) (by decide) (by decide) rfl (by decide) (by decide) ?_
  intro W3 hW3
  exact refValue8_ratio a2 [⟨1, [97, 115, 112, 101, 99, 116, 45, 114, 97, 116, 105, 111], 0⟩, ⟨10, [], 0⟩, ⟨20, [], 0⟩, ⟨7, [], 4000⟩, ⟨19, [47], 0⟩, ⟨7, [], 3000⟩] 6 c2 2 3 4 5 W3 rfl (by decide) (by decide) ((hT2.below hW2).below hW3) (by decide) (by decide) rfl (by decide) (by decide) (by decide) (by decide) (by decide) rfl (by decide)

set_option maxRecDepth 100000 in
theorem t3_term (a : Option Addr) (cap : Nat) (w : World) (hc : 6 ≤ cap) (hm : cap ≤ maxLen) (hT : Tks w a t3L) : Calls Try.prog 61 #[.slice a 6 cap, .int .i64 ((0 : Nat) : Int)] w (TermIs w ⟨4, 0, 6, ⟨0, 0, 0⟩, ⟨3, 1, 0⟩⟩ (5 + 1)) := by
  refine term_is (refTerm8_ok a t3L 6 cap 0 0 5 6 3 1 0 w rfl hc hm (by decide) (by decide) hT (by decide) (by decide) (by decide) (by decide) (by decide) ?_)
  intro a2 c2 W hW hT2
  have e : (t3L.take 5).drop (0 + 1) = [⟨1, [111, 114, 105, 101, 110, 116, 97, 116, 105, 111, 110], 0⟩, ⟨10, [], 0⟩, ⟨20, [], 0⟩, ⟨1, [112, 111, 114, 116, 114, 97, 105, 116], 0⟩] := rfl
  rw [e] at hT2
  have hn : 5 - (0 + 1) = 4 := rfl
  rw [hn]
  refine refFeature8_front a2 [⟨1, [111, 114, 105, 101, 110, 116, 97, 116, 105, 111, 110], 0⟩, ⟨10, [], 0⟩, ⟨20, [], 0⟩, ⟨1, [112, 111, 114, 116, 114, 97, 105, 116], 0⟩] 4 c2 0 6 3 1 0 W rfl (by decide) hT2 (by decide) (by decide) ?_
  intro W2 hW2
  refine refFront8_colon a2 [⟨1, [111, 114, 105, 101, 110, 116, 97, 116, 105, 111, 110], 0⟩, ⟨10, [], 0⟩, ⟨20, [], 0⟩, ⟨1, [112, 111, 114, 116, 114, 97, 105, 116], 0⟩] 4 c2 0 6 1 2 4 1 0 W2 rfl (by decide) (by decide) (hT2.below hW2) (by decide) (by decide) (by decide) (by decide) (by decide) (by decide) rfl (by decide) (by decide) ?_
  intro W3 hW3
  exact refValue8_word a2 [⟨1, [111, 114, 105, 101, 110, 116, 97, 116, 105, 111, 110], 0⟩, ⟨10, [], 0⟩, ⟨20, [], 0⟩, ⟨1, [112, 111, 114, 116, 114, 97, 105, 116], 0⟩] 4 c2 2 3 W3 rfl (by decide) (by decide) ((hT2.below hW2).below hW3) (by decide) (by decide) rfl rfl

set_option maxRecDepth 100000 in
theorem t4_term (a : Option Addr) (cap : Nat) (w : World) (hc : 3 ≤ cap) (hm : cap ≤ maxLen) (hT : Tks w a t4L) : Calls Try.prog 61 #[.slice a 3 cap, .int .i64 ((0 : Nat) : Int)] w (TermIs w ⟨4, 0, 2, ⟨0, 0, 0⟩, ⟨0, 0, 0⟩⟩ (2 + 1)) := by
  refine term_is (refTerm8_ok a t4L 3 cap 0 0 2 2 0 0 0 w rfl hc hm (by decide) (by decide) hT (by decide) (by decide) (by decide) (by decide) (by decide) ?_)
  intro a2 c2 W hW hT2
  have e : (t4L.take 2).drop (0 + 1) = [⟨1, [104, 101, 105, 103, 104, 116], 0⟩] := rfl
  rw [e] at hT2
  have hn : 2 - (0 + 1) = 1 := rfl
  rw [hn]
  refine refFeature8_front a2 [⟨1, [104, 101, 105, 103, 104, 116], 0⟩] 1 c2 0 2 0 0 0 W rfl (by decide) hT2 (by decide) (by decide) ?_
  intro W2 hW2
  exact refFront8_alone a2 [⟨1, [104, 101, 105, 103, 104, 116], 0⟩] 1 c2 0 2 W2 rfl (by decide) (by decide) (hT2.below hW2) (by decide) (by decide) (by decide)

set_option maxRecDepth 100000 in
theorem t5_terma (a : Option Addr) (cap : Nat) (w : World) (hc : 9 ≤ cap) (hm : cap ≤ maxLen) (hT : Tks w a t5L) : Calls Try.prog 61 #[.slice a 9 cap, .int .i64 ((0 : Nat) : Int)] w (TermIs w ⟨4, 0, 2, ⟨0, 0, 0⟩, ⟨0, 0, 0⟩⟩ (2 + 1)) := by
  refine term_is (refTerm8_ok a t5L 9 cap 0 0 2 2 0 0 0 w rfl hc hm (by decide) (by decide) hT (by decide) (by decide) (by decide) (by decide) (by decide) ?_)
  intro a2 c2 W hW hT2
  have e : (t5L.take 2).drop (0 + 1) = [⟨1, [104, 101, 105, 103, 104, 116], 0⟩] := rfl
  rw [e] at hT2
  have hn : 2 - (0 + 1) = 1 := rfl
  rw [hn]
  refine refFeature8_front a2 [⟨1, [104, 101, 105, 103, 104, 116], 0⟩] 1 c2 0 2 0 0 0 W rfl (by decide) hT2 (by decide) (by decide) ?_
  intro W2 hW2
  exact refFront8_alone a2 [⟨1, [104, 101, 105, 103, 104, 116], 0⟩] 1 c2 0 2 W2 rfl (by decide) (by decide) (hT2.below hW2) (by decide) (by decide) (by decide)

set_option maxRecDepth 100000 in
theorem t5_termb (a : Option Addr) (cap : Nat) (w : World) (hc : 9 ≤ cap) (hm : cap ≤ maxLen) (hT : Tks w a t5L) : Calls Try.prog 61 #[.slice a 9 cap, .int .i64 ((5 : Nat) : Int)] w (TermIs w ⟨4, 0, 1, ⟨0, 0, 0⟩, ⟨0, 0, 0⟩⟩ (8 + 1)) := by
  refine term_is (refTerm8_ok a t5L 9 cap 5 6 8 1 0 0 0 w rfl hc hm (by decide) (by decide) hT (by decide) (by decide) (by decide) (by decide) (by decide) ?_)
  intro a2 c2 W hW hT2
  have e : (t5L.take 8).drop (6 + 1) = [⟨1, [119, 105, 100, 116, 104], 0⟩] := rfl
  rw [e] at hT2
  have hn : 8 - (6 + 1) = 1 := rfl
  rw [hn]
  refine refFeature8_front a2 [⟨1, [119, 105, 100, 116, 104], 0⟩] 1 c2 0 1 0 0 0 W rfl (by decide) hT2 (by decide) (by decide) ?_
  intro W2 hW2
  exact refFront8_alone a2 [⟨1, [119, 105, 100, 116, 104], 0⟩] 1 c2 0 1 W2 rfl (by decide) (by decide) (hT2.below hW2) (by decide) (by decide) (by decide)


set_option maxRecDepth 100000 in
set_option maxHeartbeats 4000000 in
theorem asked14_of (x : List UInt8) (l : List Tok) (n : Nat) (L : List QN) (m : Nat) (t : Int) (nm : ByteArray) (ww hh r : Int) (w : World) (hx : x.length ≤ 40000) (hcut : cut x = l) (hn : l.length = n) (hnm : n ≤ 100000) (htrim : trm l = l) (hid : isP l 0 1 = false) (hright : rightQ ⟨#[]⟩ L = true) (hL : L.length = m) (hm0 : 0 < m) (hm1 : m ≤ 100) (hr : sayQ ⟨#[]⟩ L t ww hh = r)
    (hcond : ∀ a c W, n ≤ c → c ≤ maxLen → Tks W a l → Calls Try.prog 45 #[.slice a n c] W (CondIs W L)) :
    Calls Try.prog 20 #[.string ⟨x.toArray⟩, .agg (exA t nm ww hh)] w (AskedIs w r) := by
  unfold exA
  have C := fun W => refCut_cap ⟨x.toArray⟩ W (by simpa [ByteArray.size] using hx)
  unfold ToldCap at C
  simp only [hcut, hn] at C
  have HC := Lib.hid C
  have P := fun a c W (h1 : n ≤ c) (h2 : c ≤ maxLen) (hT : Tks W a l) => refParse8_ok a l n c m L W hn h1 h2 hnm hT htrim hid hright hL hm0 hm1 (fun a2 c2 W2 h3 h4 hW2 hT2 => hcond a2 c2 W2 h3 h4 hT2)
  have HP := Lib.hid P
  have E := fun g c W (hQ : Qns W (some ⟨g, 0, none⟩) L) => Eval14_any [] (by decide) (some ⟨g, 0, none⟩) L m c t nm ww hh W hL (by unfold maxLen; omega) hQ
  have hr2 : sayQ ⟨([] : List UInt8).toArray⟩ L t ww hh = r := hr
  unfold exA at E
  simp only [hr2] at E
  have HE := Lib.hid E
  clear C P E hr hr2 hcond hcut hn hL hright htrim hid
  have hb0 := below_oneQ w (.cells #[.int .i64 t, .string nm, .int .i64 ww, .int .i64 hh] 31)
  have hx0 := heap_alloc_new w (.cells #[.int .i64 t, .string nm, .int .i64 ww, .int .i64 hh] 31)
  generalize hW0 : w.alloc (.cells #[.int .i64 t, .string nm, .int .i64 ww, .int .i64 hh] 31) = W0 at *
  have HB0 := Lib.hid hb0
  have HX0 := Lib.hid hx0
  clear hb0 hx0
  go_enter Try.func20, Try.ntmps20
  go_wp2_with fail
  refine (HC.out _).mono ?_
  rintro e w1 ⟨a, c, rfl, hT, hb1, h1, h2⟩
  have HP1 := Lib.hid (HP.out a c _ h1 h2 hT)
  have HB1 := Lib.hid (HB0.out.trans (hb1.mono HB0.out.size))
  have HX1 := Lib.hid ((hb1.block _ (blk_ltQ HX0.out)).trans HX0.out)
  clear hT hb1 h1 h2
  go_wp2_with fail
  refine HP1.out.mono ?_
  rintro e w2 ⟨g, c2, rfl, hQ, hb2⟩
  have hx2 := (hb2.block _ (blk_ltQ HX1.out)).trans HX1.out
  have hb3 := below_oneQ w2 (.cells #[.string ⟨#[]⟩, .slice (some ⟨g, 0, none⟩) m c2] 29)
  have hx3 := (hb3.block _ (blk_ltQ hx2)).trans hx2
  have hq3 := heap_alloc_new w2 (.cells #[.string ⟨#[]⟩, .slice (some ⟨g, 0, none⟩) m c2] 29)
  have hQ3 := hQ.below hb3
  have hB3 := HB1.out.trans ((hb2.trans (hb3.mono hb2.size)).mono HB1.out.size)
  generalize hW3 : w2.alloc (.cells #[.string ⟨#[]⟩, .slice (some ⟨g, 0, none⟩) m c2] 29) = W3 at *
  have HE3 := Lib.hid (HE.out g c2 W3 hQ3)
  have HB3 := Lib.hid hB3
  have e0 : W3.cell? ⟨w.heap.size, 0, none⟩ = some (.int .i64 t) := cell_of hx3 rfl
  have e1 : W3.cell? ⟨w.heap.size, 1, none⟩ = some (.string nm) := cell_of hx3 rfl
  have e2 : W3.cell? ⟨w.heap.size, 2, none⟩ = some (.int .i64 ww) := cell_of hx3 rfl
  have e3 : W3.cell? ⟨w.heap.size, 3, none⟩ = some (.int .i64 hh) := cell_of hx3 rfl
  have q0 : W3.cell? ⟨w2.heap.size, 0, none⟩ = some (.string ⟨#[]⟩) := cell_of hq3 rfl
  have q1 : W3.cell? ⟨w2.heap.size, 1, none⟩ = some (.slice (some ⟨g, 0, none⟩) m c2) := cell_of hq3 rfl
  clear hx2 hb3 hx3 hq3 hQ3 hB3 hQ hb2
  go_wp2_with fail
  refine HE3.out.mono ?_
  rintro e w4 ⟨rfl, hb4⟩
  have HB4 := Lib.hid (HB3.out.trans (hb4.mono HB3.out.size))
  clear hb4
  go_wp2_with fail
  go_ret
  exact ⟨rfl, HB4.out⟩

@[reducible] def l1Q : List QN := [⟨4, 0, 1, ⟨0, 0, 0⟩, ⟨5, 300000, 0⟩⟩]
@[reducible] def l2Q : List QN := [⟨4, 0, 5, ⟨0, 0, 0⟩, ⟨3, 4000, 3000⟩⟩]
@[reducible] def l3Q : List QN := [⟨4, 0, 6, ⟨0, 0, 0⟩, ⟨3, 1, 0⟩⟩]
@[reducible] def l4Q : List QN := [⟨4, 0, 2, ⟨0, 0, 0⟩, ⟨0, 0, 0⟩⟩]
@[reducible] def l5Q : List QN := [⟨2, 2, 0, ⟨0, 0, 0⟩, ⟨0, 0, 0⟩⟩, ⟨4, 0, 2, ⟨0, 0, 0⟩, ⟨0, 0, 0⟩⟩, ⟨4, 0, 1, ⟨0, 0, 0⟩, ⟨0, 0, 0⟩⟩]
set_option maxRecDepth 100000
theorem asked1 (w : World) : Calls Try.prog 20 #[.string ⟨t1S.toArray⟩, .agg (exA 2 ⟨#[]⟩ 25600 19200)] w (AskedIs w 1) :=
  asked14_of t1S t1L 7 l1Q 1 2 ⟨#[]⟩ 25600 19200 1 w (by decide) t1_cut rfl (by decide) (by decide) (by decide) (by decide +kernel) rfl (by decide) (by decide) (by decide +kernel)
    (fun a c W hc hm hT => refCond8_one a t1L 7 c 7 _ W rfl (by decide) hT (by decide) (by decide) (by decide) (t1_term a c W hc hm hT))
theorem asked2 (w : World) : Calls Try.prog 20 #[.string ⟨t2S.toArray⟩, .agg (exA 2 ⟨#[]⟩ 25600 19200)] w (AskedIs w 1) :=
  asked14_of t2S t2L 8 l2Q 1 2 ⟨#[]⟩ 25600 19200 1 w (by decide) t2_cut rfl (by decide) (by decide) (by decide) (by decide +kernel) rfl (by decide) (by decide) (by decide +kernel)
    (fun a c W hc hm hT => refCond8_one a t2L 8 c 8 _ W rfl (by decide) hT (by decide) (by decide) (by decide) (t2_term a c W hc hm hT))
theorem asked3 (w : World) : Calls Try.prog 20 #[.string ⟨t3S.toArray⟩, .agg (exA 2 ⟨#[]⟩ 25600 19200)] w (AskedIs w 0) :=
  asked14_of t3S t3L 6 l3Q 1 2 ⟨#[]⟩ 25600 19200 0 w (by decide) t3_cut rfl (by decide) (by decide) (by decide) (by decide +kernel) rfl (by decide) (by decide) (by decide +kernel)
    (fun a c W hc hm hT => refCond8_one a t3L 6 c 6 _ W rfl (by decide) hT (by decide) (by decide) (by decide) (t3_term a c W hc hm hT))
theorem asked4 (w : World) : Calls Try.prog 20 #[.string ⟨t4S.toArray⟩, .agg (exA 1 ⟨#[]⟩ 25600 0)] w (AskedIs w 2) :=
  asked14_of t4S t4L 3 l4Q 1 1 ⟨#[]⟩ 25600 0 2 w (by decide) t4_cut rfl (by decide) (by decide) (by decide) (by decide +kernel) rfl (by decide) (by decide) (by decide +kernel)
    (fun a c W hc hm hT => refCond8_one a t4L 3 c 3 _ W rfl (by decide) hT (by decide) (by decide) (by decide) (t4_term a c W hc hm hT))
theorem asked5 (w : World) : Calls Try.prog 20 #[.string ⟨t5S.toArray⟩, .agg (exA 1 ⟨#[]⟩ 25600 0)] w (AskedIs w 1) :=
  asked14_of t5S t5L 9 l5Q 3 1 ⟨#[]⟩ 25600 0 1 w (by decide) t5_cut rfl (by decide) (by decide) (by decide) (by decide +kernel) rfl (by decide) (by decide) (by decide +kernel)
    (fun a c W hc hm hT => refCond8_or a t5L 9 c 3 4 9 _ _ W rfl (by decide) hT (by decide) (by decide) (by decide) (by decide) (by decide) (by decide) (by decide) (by decide) (by decide) (by decide) (t5_terma a c W hc hm hT) (fun W2 hW2 => t5_termb a c W2 hc hm (hT.below hW2)))

set_option maxHeartbeats 4000000 in
theorem knownT_any (w : World) : Calls Try.prog 15 #[] w fun e w' => e = .returned (.bool true) ∧ Below w.heap.size w w' := by
  have A1 := Lib.hid asked1
  have A2 := Lib.hid asked2
  have A3 := Lib.hid asked3
  have A4 := Lib.hid asked4
  have A5 := Lib.hid asked5
  unfold t1S exA at A1
  unfold t2S exA at A2
  unfold t3S exA at A3
  unfold t4S exA at A4
  unfold t5S exA at A5
  have b1 := below_oneQ w (.cells #[.int .i64 2, .string ⟨#[]⟩, .int .i64 25600, .int .i64 19200] 31)
  have h1 := heap_alloc_new w (.cells #[.int .i64 2, .string ⟨#[]⟩, .int .i64 25600, .int .i64 19200] 31)
  generalize hW1 : w.alloc (.cells #[.int .i64 2, .string ⟨#[]⟩, .int .i64 25600, .int .i64 19200] 31) = W1 at *
  have HW1 := Lib.hid hW1
  have b2 := below_oneQ W1 (.cells #[.int .i64 1, .string ⟨#[]⟩, .int .i64 25600, .int .i64 0] 31)
  have h2 := heap_alloc_new W1 (.cells #[.int .i64 1, .string ⟨#[]⟩, .int .i64 25600, .int .i64 0] 31)
  have h1 := (b2.block _ (blk_ltQ h1)).trans h1
  generalize hW2 : W1.alloc (.cells #[.int .i64 1, .string ⟨#[]⟩, .int .i64 25600, .int .i64 0] 31) = W2 at *
  have HW2 := Lib.hid hW2
  have HB2 := Lib.hid (b1.trans (b2.mono b1.size))
  have H12 := Lib.hid (And.intro h1 h2)
  clear b1 b2 hW1 hW2
  go_enter Try.func15, Try.ntmps15
  go_upto_region 2 with (fail)
  rw [HW1.out]
  go_upto_region 3 with (fail)
  rw [HW2.out]
  have c0 : W2.cell? ⟨w.heap.size, 0, none⟩ = some (.int .i64 2) := cell_of h1 rfl
  have c1 : W2.cell? ⟨w.heap.size, 1, none⟩ = some (.string ⟨#[]⟩) := cell_of h1 rfl
  have c2 : W2.cell? ⟨w.heap.size, 2, none⟩ = some (.int .i64 25600) := cell_of h1 rfl
  have c3 : W2.cell? ⟨w.heap.size, 3, none⟩ = some (.int .i64 19200) := cell_of h1 rfl
  go_wp2_with fail
  refine (A1.out _).mono ?_
  rintro e w3 ⟨rfl, hb⟩
  have h1 := (hb.block _ (blk_ltQ h1)).trans h1
  have h2 := (hb.block _ (blk_ltQ h2)).trans h2
  have HB3 := Lib.hid (HB2.out.trans (hb.mono HB2.out.size))
  clear hb c0 c1 c2 c3
  have c0 : w3.cell? ⟨w.heap.size, 0, none⟩ = some (.int .i64 2) := cell_of h1 rfl
  have c1 : w3.cell? ⟨w.heap.size, 1, none⟩ = some (.string ⟨#[]⟩) := cell_of h1 rfl
  have c2 : w3.cell? ⟨w.heap.size, 2, none⟩ = some (.int .i64 25600) := cell_of h1 rfl
  have c3 : w3.cell? ⟨w.heap.size, 3, none⟩ = some (.int .i64 19200) := cell_of h1 rfl
  go_wp2_with fail
  refine (A2.out _).mono ?_
  rintro e w4 ⟨rfl, hb⟩
  have h1 := (hb.block _ (blk_ltQ h1)).trans h1
  have h2 := (hb.block _ (blk_ltQ h2)).trans h2
  have HB4 := Lib.hid (HB3.out.trans (hb.mono HB3.out.size))
  clear hb c0 c1 c2 c3
  have c0 : w4.cell? ⟨w.heap.size, 0, none⟩ = some (.int .i64 2) := cell_of h1 rfl
  have c1 : w4.cell? ⟨w.heap.size, 1, none⟩ = some (.string ⟨#[]⟩) := cell_of h1 rfl
  have c2 : w4.cell? ⟨w.heap.size, 2, none⟩ = some (.int .i64 25600) := cell_of h1 rfl
  have c3 : w4.cell? ⟨w.heap.size, 3, none⟩ = some (.int .i64 19200) := cell_of h1 rfl
  go_wp2_with fail
  refine (A3.out _).mono ?_
  rintro e w5 ⟨rfl, hb⟩
  have h1 := (hb.block _ (blk_ltQ h1)).trans h1
  have h2 := (hb.block _ (blk_ltQ h2)).trans h2
  have HB5 := Lib.hid (HB4.out.trans (hb.mono HB4.out.size))
  clear hb c0 c1 c2 c3
  have c0 : w5.cell? ⟨W1.heap.size, 0, none⟩ = some (.int .i64 1) := cell_of h2 rfl
  have c1 : w5.cell? ⟨W1.heap.size, 1, none⟩ = some (.string ⟨#[]⟩) := cell_of h2 rfl
  have c2 : w5.cell? ⟨W1.heap.size, 2, none⟩ = some (.int .i64 25600) := cell_of h2 rfl
  have c3 : w5.cell? ⟨W1.heap.size, 3, none⟩ = some (.int .i64 0) := cell_of h2 rfl
  go_wp2_with fail
  refine (A4.out _).mono ?_
  rintro e w6 ⟨rfl, hb⟩
  have h1 := (hb.block _ (blk_ltQ h1)).trans h1
  have h2 := (hb.block _ (blk_ltQ h2)).trans h2
  have HB6 := Lib.hid (HB5.out.trans (hb.mono HB5.out.size))
  clear hb c0 c1 c2 c3
  have c0 : w6.cell? ⟨W1.heap.size, 0, none⟩ = some (.int .i64 1) := cell_of h2 rfl
  have c1 : w6.cell? ⟨W1.heap.size, 1, none⟩ = some (.string ⟨#[]⟩) := cell_of h2 rfl
  have c2 : w6.cell? ⟨W1.heap.size, 2, none⟩ = some (.int .i64 25600) := cell_of h2 rfl
  have c3 : w6.cell? ⟨W1.heap.size, 3, none⟩ = some (.int .i64 0) := cell_of h2 rfl
  go_wp2_with fail
  refine (A5.out _).mono ?_
  rintro e w7 ⟨rfl, hb⟩
  have h1 := (hb.block _ (blk_ltQ h1)).trans h1
  have h2 := (hb.block _ (blk_ltQ h2)).trans h2
  have HB7 := Lib.hid (HB6.out.trans (hb.mono HB6.out.size))
  clear hb c0 c1 c2 c3
  go_wp2_with fail
  go_ret
  exact ⟨rfl, HB7.out⟩
end Go.Proofs.Ytoaenlbbochjhaa
