/- Layer 10's law PropWords. -/
import Derived.Test.YtbodmfbpmeapoaaPropY3
namespace Go.Proofs.Ytbodmfbpmeapoaa
open Go.RowKit TreN LexP FixP SynP ValP PropP FixM
set_option linter.unusedVariables false

set_option maxRecDepth 100000 in
set_option maxHeartbeats 4000000 in
theorem PropWords_0 (n : Int) (imp : Bool) (w : World) (k1 : 28 ≤ n) (k2 : n ≤ 30) : Calls Try.prog 6 #[.int .i64 0, .int .i64 n, .bool imp] w fun e w' => e = .returned (.bool true) ∧ Below w.heap.size w w' := by
  have KN := Lib.hid (fun W => known10_any W)
  have PP : Hid (∀ W a cp, 1 ≤ cp → cp ≤ maxLen → Tks W a (tokV ⟨1, n, 0, []⟩) → Calls Try.prog 20 #[.agg #[.string ⟨marginT.toArray⟩, .slice a 1 cp, .bool imp]] W fun e w' => ∃ g c2, e = .returned (.tuple #[.slice (some ⟨g, 0, none⟩) 4 c2, .int .i64 0]) ∧ Hid (Ds w' (some ⟨g, 0, none⟩) (gensD 9 4 n imp) ∧ g < w'.heap.size ∧ Below W.heap.size W w')) := Lib.hid fun W a cp g1 g2 hT => (Parse_word marginT 9 4 rfl (by omega) (by omega) (by omega) n k1 k2 imp W a cp g1 g2 hT).mono fun e w' h => by
    obtain ⟨⟨a4, c4, he, hd⟩, hb⟩ := h
    have hd : Ds w' a4 (gensD 9 4 n imp) := hd
    obtain ⟨g, rfl, hg, _⟩ := hd.get (i := 0) (by rw [gensD_len]; omega)
    have hl : (gensD (9 : Nat) 4 n imp).length = 4 := gensD_len _ _ _ _
    exact ⟨g, c4, by rw [he]; simp only [hl], hd, hg, hb⟩
  unfold marginT at PP
  have PT := Lib.hid (fun W => Parts10_0 W)
  have TK := fun W => refTokens9_any 1 n 0 [] W (Nat.zero_le _)
  obtain ⟨r1, r2, r3⟩ := word_right k1 k2
  have hlen : (tokV ⟨1, n, 0, []⟩).length = 1 := by rw [r3]; rfl
  unfold ToldCap at TK
  simp only [hlen] at TK
  have TKH := Lib.hid TK
  obtain ⟨w1, hw1⟩ : ∃ w1, w.alloc (.cells #[.string ⟨#[109, 97, 114, 103, 105, 110]⟩, .string ⟨#[112, 97, 100, 100, 105, 110, 103]⟩, .string ⟨#[98, 111, 114, 100, 101, 114, 45, 119, 105, 100, 116, 104]⟩, .string ⟨#[103, 97, 112]⟩, .string ⟨#[102, 108, 101, 120, 45, 102, 108, 111, 119]⟩, .string ⟨#[102, 108, 101, 120]⟩, .string ⟨#[99, 111, 110, 116, 97, 105, 110, 101, 114]⟩] 9) = w1 := ⟨_, rfl⟩
  have hb1 : Below w.heap.size w w1 := by rw [← hw1]; exact below_oneP _ _
  have hx1 : w1.heap[w.heap.size]? = some (.cells #[.string ⟨#[109, 97, 114, 103, 105, 110]⟩, .string ⟨#[112, 97, 100, 100, 105, 110, 103]⟩, .string ⟨#[98, 111, 114, 100, 101, 114, 45, 119, 105, 100, 116, 104]⟩, .string ⟨#[103, 97, 112]⟩, .string ⟨#[102, 108, 101, 120, 45, 102, 108, 111, 119]⟩, .string ⟨#[102, 108, 101, 120]⟩, .string ⟨#[99, 111, 110, 116, 97, 105, 110, 101, 114]⟩] 9 (0, 0)) := by rw [← hw1]; exact heap_alloc_new w _
  have d1 : w1.cell? ⟨w.heap.size, 0, none⟩ = some (.string ⟨#[109, 97, 114, 103, 105, 110]⟩) := cell_of hx1 rfl
  have hl1 := blk_ltP hx1
  have HB1 := Lib.hid hb1
  have HD1 := Lib.hid d1
  have HW1 := Lib.hid hw1
  clear TK r1 r2 r3 hlen hb1 hx1 d1 hw1
  go_enter Try.func6, Try.ntmps6
  go_upto_region 2 with (fail)
  rw [HW1.out]
  have d1 := HD1.out
  go_wp2_with fail
  refine (PT.out _).mono ?_
  rintro e w2 ⟨rfl, hw2⟩
  have hw2 := hw2.symm
  subst hw2
  go_upto_region 5 with (fail)
  go_region_with (first
    | (go_at_call 19; refine (TKH.out _).mono ?_; rintro e w3 ⟨ta, tc, rfl, hT3, hb3, g1, g2⟩; have d3 := (hb3.cell (p := ⟨w.heap.size, 0, none⟩) hl1).trans HD1.out; have hl3 : w.heap.size < w3.heap.size := Nat.lt_of_lt_of_le hl1 hb3.size)
    | (go_at_call 19
       refine (TKH.out (w1.alloc (.cells #[.string ⟨#[]⟩, .slice none 0 0, .bool false] 45)).drew).mono ?_
       rintro e w3 ⟨ta, tc, rfl, hT3, hb3, g1, g2⟩
       have hx3 := (hb3.block w1.heap.size (by simp)).trans (heap_alloc_new w1 (.cells #[.string ⟨#[]⟩, .slice none 0 0, .bool false] 45))
       have d3 := (hb3.cell (p := ⟨w.heap.size, 0, none⟩) (by simp; omega)).trans (((below_oneP w1 (.cells #[.string ⟨#[]⟩, .slice none 0 0, .bool false] 45)).cell (p := ⟨w.heap.size, 0, none⟩) hl1).trans HD1.out)
       have hl3 : w.heap.size < w3.heap.size := by have := hb3.size; simp at this; omega
       obtain ⟨x1, x2, x3, ⟨p0, q0, r0⟩, ⟨p1, q1, r1⟩, ⟨p2, q2, r2⟩, h3⟩ := three_store w3 w1.heap.size 45 _ _ _ (.string ⟨#[109, 97, 114, 103, 105, 110]⟩) (.slice ta 1 tc) (.bool imp) hx3))
  all_goals
    have HB3 : Hid (Below w.heap.size w w3) := Lib.hid (HB1.out.trans ((show Below w1.heap.size w1 w3 from by
      first
      | exact ((Below.refl _ _).drew).trans hb3
      | exact (below_oneP w1 (.cells #[.string ⟨#[]⟩, .slice none 0 0, .bool false] 45)).trans (((Below.refl _ _).drew.trans hb3).mono (by simp))).mono HB1.out.size))
    first
    | (have hx5 := h3.here
       have HT5 : Hid (Tks x3 ta (tokV ⟨1, n, 0, []⟩)) := Lib.hid (tks_other hT3 (by intro k; simp) hx3 h3)
       have HB5 : Hid (Below w.heap.size w x3) := Lib.hid (h3.below w.heap.size w (by omega) HB3.out)
       obtain ⟨B5, hB5⟩ : ∃ B, w1.heap.size = B := ⟨_, rfl⟩
       rw [hB5] at hx5 ⊢
       have HB5E := Lib.hid hB5
       clear hT3 hb3 hx3 h3 p0 q0 r0 p1 q1 r1 p2 q2 r2 d3 hl3 hB5)
    | (obtain ⟨x3, hx3⟩ : ∃ x, w3.alloc (.cells #[.string ⟨#[109, 97, 114, 103, 105, 110]⟩, .slice ta 1 tc, .bool imp] 45) = x := ⟨_, rfl⟩
       have hx5 : x3.heap[w3.heap.size]? = some (.cells #[.string ⟨#[109, 97, 114, 103, 105, 110]⟩, .slice ta 1 tc, .bool imp] 45 (0, 0)) := by rw [← hx3]; exact heap_alloc_new w3 _
       have HT5 : Hid (Tks x3 ta (tokV ⟨1, n, 0, []⟩)) := Lib.hid (by rw [← hx3]; exact hT3.below (below_oneP w3 _))
       have HB5 : Hid (Below w.heap.size w x3) := Lib.hid (by rw [← hx3]; exact HB3.out.alloc HB3.out.size _)
       obtain ⟨B5, hB5⟩ : ∃ B, w3.heap.size = B := ⟨_, rfl⟩
       rw [hB5] at hx5 ⊢
       rw [hx3]
       have HB5E := Lib.hid hB5
       clear hT3 hb3 hx3 d3 hl3 hB5)
    have c0 : x3.cell? ⟨B5, 0, none⟩ = some (.string ⟨#[109, 97, 114, 103, 105, 110]⟩) := cell_of hx5 rfl
    have c1 : x3.cell? ⟨B5, 1, none⟩ = some (.slice ta 1 tc) := cell_of hx5 rfl
    have c2 : x3.cell? ⟨B5, 2, none⟩ = some (.bool imp) := cell_of hx5 rfl
    have P5 := Lib.hid (PP.out x3 ta tc g1 g2 HT5.out)
    clear hx5 g1 g2 d1
    go_wp2_with fail
    refine P5.out.mono ?_
    rintro e w6 ⟨g, gc, rfl, HF⟩
    have HB6 := Lib.hid (HB5.out.trans (HF.out.2.2.mono HB5.out.size))
    go_wp2_with fail
    go_loopw [13] (fun vi wr => ∃ k : Nat, vi = .int .i64 (k : Int) ∧ k ≤ 4 ∧ Hid (Below w6.heap.size w6 wr)) (fun vi _ => 4 - (intOf vi).toNat)
    case atStart => exact ⟨0, rfl, by omega, Lib.hid (Below.refl _ _)⟩
    case round =>
      obtain ⟨k, rfl, hk, HR⟩ := hrel
      by_cases hlt : k < 4
      · have hltz : (k : Int) < 4 := by omega
        have hkl : k < (gensD 9 4 n imp).length := by rw [gensD_len]; exact hlt
        have hb7 := HR.out.trans ((below_oneP wr (.cells #[.int .i64 (9 + (k : Int)), .int .i64 1, .int .i64 n, .int .i64 0, .string ⟨#[]⟩, .bool imp] 52)).mono HR.out.size)
        obtain ⟨b7, e7, hl7, f1, f2, f3, f4, f5, f6⟩ := (HF.out.1.below hb7).get hkl
        injection e7 with e7; injection e7 with e7; subst e7
        rw [gensD_get] at f1 f2 f3 f4 f5 f6
        have HB7 := Lib.hid hb7
        have e0 := heap_alloc_new wr (.cells #[.int .i64 (9 + (k : Int)), .int .i64 1, .int .i64 n, .int .i64 0, .string ⟨#[]⟩, .bool imp] 52)
        obtain ⟨x7, hx7⟩ : ∃ x, wr.alloc (.cells #[.int .i64 (9 + (k : Int)), .int .i64 1, .int .i64 n, .int .i64 0, .string ⟨#[]⟩, .bool imp] 52) = x := ⟨_, rfl⟩
        rw [hx7] at e0 f1 f2 f3 f4 f5 f6 HB7
        have HX7 := Lib.hid hx7
        have EQ := fun W => decl_neq (9 + (k : Int)) 1 n 0 [] imp W
        have hk0 : (0 : Int) ≤ (k : Int) := by omega
        obtain ⟨B7, hB7⟩ : ∃ B, wr.heap.size = B := ⟨_, rfl⟩
        rw [hB7] at e0
        have HB7E := Lib.hid hB7
        have E1 : x7.cell? ⟨B7, 0, none⟩ = some (.int .i64 (9 + (k : Int))) := cell_of e0 rfl
        have E2 : x7.cell? ⟨B7, 1, none⟩ = some (.int .i64 1) := cell_of e0 rfl
        have E3 : x7.cell? ⟨B7, 2, none⟩ = some (.int .i64 n) := cell_of e0 rfl
        have E4 : x7.cell? ⟨B7, 3, none⟩ = some (.int .i64 0) := cell_of e0 rfl
        have E5 : x7.cell? ⟨B7, 4, none⟩ = some (.string ⟨#[]⟩) := cell_of e0 rfl
        have E6 : x7.cell? ⟨B7, 5, none⟩ = some (.bool imp) := cell_of e0 rfl
        clear hb7 hl7 e0 hx7 hB7
        go_upto_region 13 with (fail)
        rw [HX7.out, HB7E.out]
        go_quiet (fail)
        go_wp2_with fail
        go_roundw
        case rel => exact ⟨k + 1, by go_num, by omega, Lib.hid (below_drewN2 HB7.out _)⟩
        case measure => simp [intOf]; omega
      · have hltz : ¬ (k : Int) < 4 := by omega
        go_wp2_with fail
        refine (KN.out _).mono ?_
        rintro e w9 ⟨rfl, hb9⟩
        have HB9 := Lib.hid (HB6.out.trans ((HR.out.trans (hb9.mono HR.out.size)).mono HB6.out.size))
        clear hb9
        go_wp2_with fail
        go_ret
        exact ⟨rfl, HB9.out⟩

set_option maxRecDepth 100000 in
set_option maxHeartbeats 4000000 in
theorem PropWords_1 (n : Int) (imp : Bool) (w : World) (k1 : 28 ≤ n) (k2 : n ≤ 30) : Calls Try.prog 6 #[.int .i64 1, .int .i64 n, .bool imp] w fun e w' => e = .returned (.bool true) ∧ Below w.heap.size w w' := by
  have KN := Lib.hid (fun W => known10_any W)
  have PP : Hid (∀ W a cp, 1 ≤ cp → cp ≤ maxLen → Tks W a (tokV ⟨1, n, 0, []⟩) → Calls Try.prog 20 #[.agg #[.string ⟨paddingT.toArray⟩, .slice a 1 cp, .bool imp]] W fun e w' => ∃ g c2, e = .returned (.tuple #[.slice (some ⟨g, 0, none⟩) 4 c2, .int .i64 0]) ∧ Hid (Ds w' (some ⟨g, 0, none⟩) (gensD 13 4 n imp) ∧ g < w'.heap.size ∧ Below W.heap.size W w')) := Lib.hid fun W a cp g1 g2 hT => (Parse_word paddingT 13 4 rfl (by omega) (by omega) (by omega) n k1 k2 imp W a cp g1 g2 hT).mono fun e w' h => by
    obtain ⟨⟨a4, c4, he, hd⟩, hb⟩ := h
    have hd : Ds w' a4 (gensD 13 4 n imp) := hd
    obtain ⟨g, rfl, hg, _⟩ := hd.get (i := 0) (by rw [gensD_len]; omega)
    have hl : (gensD (13 : Nat) 4 n imp).length = 4 := gensD_len _ _ _ _
    exact ⟨g, c4, by rw [he]; simp only [hl], hd, hg, hb⟩
  unfold paddingT at PP
  have PT := Lib.hid (fun W => Parts10_1 W)
  have TK := fun W => refTokens9_any 1 n 0 [] W (Nat.zero_le _)
  obtain ⟨r1, r2, r3⟩ := word_right k1 k2
  have hlen : (tokV ⟨1, n, 0, []⟩).length = 1 := by rw [r3]; rfl
  unfold ToldCap at TK
  simp only [hlen] at TK
  have TKH := Lib.hid TK
  obtain ⟨w1, hw1⟩ : ∃ w1, w.alloc (.cells #[.string ⟨#[109, 97, 114, 103, 105, 110]⟩, .string ⟨#[112, 97, 100, 100, 105, 110, 103]⟩, .string ⟨#[98, 111, 114, 100, 101, 114, 45, 119, 105, 100, 116, 104]⟩, .string ⟨#[103, 97, 112]⟩, .string ⟨#[102, 108, 101, 120, 45, 102, 108, 111, 119]⟩, .string ⟨#[102, 108, 101, 120]⟩, .string ⟨#[99, 111, 110, 116, 97, 105, 110, 101, 114]⟩] 9) = w1 := ⟨_, rfl⟩
  have hb1 : Below w.heap.size w w1 := by rw [← hw1]; exact below_oneP _ _
  have hx1 : w1.heap[w.heap.size]? = some (.cells #[.string ⟨#[109, 97, 114, 103, 105, 110]⟩, .string ⟨#[112, 97, 100, 100, 105, 110, 103]⟩, .string ⟨#[98, 111, 114, 100, 101, 114, 45, 119, 105, 100, 116, 104]⟩, .string ⟨#[103, 97, 112]⟩, .string ⟨#[102, 108, 101, 120, 45, 102, 108, 111, 119]⟩, .string ⟨#[102, 108, 101, 120]⟩, .string ⟨#[99, 111, 110, 116, 97, 105, 110, 101, 114]⟩] 9 (0, 0)) := by rw [← hw1]; exact heap_alloc_new w _
  have d1 : w1.cell? ⟨w.heap.size, 1, none⟩ = some (.string ⟨#[112, 97, 100, 100, 105, 110, 103]⟩) := cell_of hx1 rfl
  have hl1 := blk_ltP hx1
  have HB1 := Lib.hid hb1
  have HD1 := Lib.hid d1
  have HW1 := Lib.hid hw1
  clear TK r1 r2 r3 hlen hb1 hx1 d1 hw1
  go_enter Try.func6, Try.ntmps6
  go_upto_region 2 with (fail)
  rw [HW1.out]
  have d1 := HD1.out
  go_wp2_with fail
  refine (PT.out _).mono ?_
  rintro e w2 ⟨rfl, hw2⟩
  have hw2 := hw2.symm
  subst hw2
  go_upto_region 5 with (fail)
  go_region_with (first
    | (go_at_call 19; refine (TKH.out _).mono ?_; rintro e w3 ⟨ta, tc, rfl, hT3, hb3, g1, g2⟩; have d3 := (hb3.cell (p := ⟨w.heap.size, 1, none⟩) hl1).trans HD1.out; have hl3 : w.heap.size < w3.heap.size := Nat.lt_of_lt_of_le hl1 hb3.size)
    | (go_at_call 19
       refine (TKH.out (w1.alloc (.cells #[.string ⟨#[]⟩, .slice none 0 0, .bool false] 45)).drew).mono ?_
       rintro e w3 ⟨ta, tc, rfl, hT3, hb3, g1, g2⟩
       have hx3 := (hb3.block w1.heap.size (by simp)).trans (heap_alloc_new w1 (.cells #[.string ⟨#[]⟩, .slice none 0 0, .bool false] 45))
       have d3 := (hb3.cell (p := ⟨w.heap.size, 1, none⟩) (by simp; omega)).trans (((below_oneP w1 (.cells #[.string ⟨#[]⟩, .slice none 0 0, .bool false] 45)).cell (p := ⟨w.heap.size, 1, none⟩) hl1).trans HD1.out)
       have hl3 : w.heap.size < w3.heap.size := by have := hb3.size; simp at this; omega
       obtain ⟨x1, x2, x3, ⟨p0, q0, r0⟩, ⟨p1, q1, r1⟩, ⟨p2, q2, r2⟩, h3⟩ := three_store w3 w1.heap.size 45 _ _ _ (.string ⟨#[112, 97, 100, 100, 105, 110, 103]⟩) (.slice ta 1 tc) (.bool imp) hx3))
  all_goals
    have HB3 : Hid (Below w.heap.size w w3) := Lib.hid (HB1.out.trans ((show Below w1.heap.size w1 w3 from by
      first
      | exact ((Below.refl _ _).drew).trans hb3
      | exact (below_oneP w1 (.cells #[.string ⟨#[]⟩, .slice none 0 0, .bool false] 45)).trans (((Below.refl _ _).drew.trans hb3).mono (by simp))).mono HB1.out.size))
    first
    | (have hx5 := h3.here
       have HT5 : Hid (Tks x3 ta (tokV ⟨1, n, 0, []⟩)) := Lib.hid (tks_other hT3 (by intro k; simp) hx3 h3)
       have HB5 : Hid (Below w.heap.size w x3) := Lib.hid (h3.below w.heap.size w (by omega) HB3.out)
       obtain ⟨B5, hB5⟩ : ∃ B, w1.heap.size = B := ⟨_, rfl⟩
       rw [hB5] at hx5 ⊢
       have HB5E := Lib.hid hB5
       clear hT3 hb3 hx3 h3 p0 q0 r0 p1 q1 r1 p2 q2 r2 d3 hl3 hB5)
    | (obtain ⟨x3, hx3⟩ : ∃ x, w3.alloc (.cells #[.string ⟨#[112, 97, 100, 100, 105, 110, 103]⟩, .slice ta 1 tc, .bool imp] 45) = x := ⟨_, rfl⟩
       have hx5 : x3.heap[w3.heap.size]? = some (.cells #[.string ⟨#[112, 97, 100, 100, 105, 110, 103]⟩, .slice ta 1 tc, .bool imp] 45 (0, 0)) := by rw [← hx3]; exact heap_alloc_new w3 _
       have HT5 : Hid (Tks x3 ta (tokV ⟨1, n, 0, []⟩)) := Lib.hid (by rw [← hx3]; exact hT3.below (below_oneP w3 _))
       have HB5 : Hid (Below w.heap.size w x3) := Lib.hid (by rw [← hx3]; exact HB3.out.alloc HB3.out.size _)
       obtain ⟨B5, hB5⟩ : ∃ B, w3.heap.size = B := ⟨_, rfl⟩
       rw [hB5] at hx5 ⊢
       rw [hx3]
       have HB5E := Lib.hid hB5
       clear hT3 hb3 hx3 d3 hl3 hB5)
    have c0 : x3.cell? ⟨B5, 0, none⟩ = some (.string ⟨#[112, 97, 100, 100, 105, 110, 103]⟩) := cell_of hx5 rfl
    have c1 : x3.cell? ⟨B5, 1, none⟩ = some (.slice ta 1 tc) := cell_of hx5 rfl
    have c2 : x3.cell? ⟨B5, 2, none⟩ = some (.bool imp) := cell_of hx5 rfl
    have P5 := Lib.hid (PP.out x3 ta tc g1 g2 HT5.out)
    clear hx5 g1 g2 d1
    go_wp2_with fail
    refine P5.out.mono ?_
    rintro e w6 ⟨g, gc, rfl, HF⟩
    have HB6 := Lib.hid (HB5.out.trans (HF.out.2.2.mono HB5.out.size))
    go_wp2_with fail
    go_loopw [13] (fun vi wr => ∃ k : Nat, vi = .int .i64 (k : Int) ∧ k ≤ 4 ∧ Hid (Below w6.heap.size w6 wr)) (fun vi _ => 4 - (intOf vi).toNat)
    case atStart => exact ⟨0, rfl, by omega, Lib.hid (Below.refl _ _)⟩
    case round =>
      obtain ⟨k, rfl, hk, HR⟩ := hrel
      by_cases hlt : k < 4
      · have hltz : (k : Int) < 4 := by omega
        have hkl : k < (gensD 13 4 n imp).length := by rw [gensD_len]; exact hlt
        have hb7 := HR.out.trans ((below_oneP wr (.cells #[.int .i64 (13 + (k : Int)), .int .i64 1, .int .i64 n, .int .i64 0, .string ⟨#[]⟩, .bool imp] 52)).mono HR.out.size)
        obtain ⟨b7, e7, hl7, f1, f2, f3, f4, f5, f6⟩ := (HF.out.1.below hb7).get hkl
        injection e7 with e7; injection e7 with e7; subst e7
        rw [gensD_get] at f1 f2 f3 f4 f5 f6
        have HB7 := Lib.hid hb7
        have e0 := heap_alloc_new wr (.cells #[.int .i64 (13 + (k : Int)), .int .i64 1, .int .i64 n, .int .i64 0, .string ⟨#[]⟩, .bool imp] 52)
        obtain ⟨x7, hx7⟩ : ∃ x, wr.alloc (.cells #[.int .i64 (13 + (k : Int)), .int .i64 1, .int .i64 n, .int .i64 0, .string ⟨#[]⟩, .bool imp] 52) = x := ⟨_, rfl⟩
        rw [hx7] at e0 f1 f2 f3 f4 f5 f6 HB7
        have HX7 := Lib.hid hx7
        have EQ := fun W => decl_neq (13 + (k : Int)) 1 n 0 [] imp W
        have hk0 : (0 : Int) ≤ (k : Int) := by omega
        obtain ⟨B7, hB7⟩ : ∃ B, wr.heap.size = B := ⟨_, rfl⟩
        rw [hB7] at e0
        have HB7E := Lib.hid hB7
        have E1 : x7.cell? ⟨B7, 0, none⟩ = some (.int .i64 (13 + (k : Int))) := cell_of e0 rfl
        have E2 : x7.cell? ⟨B7, 1, none⟩ = some (.int .i64 1) := cell_of e0 rfl
        have E3 : x7.cell? ⟨B7, 2, none⟩ = some (.int .i64 n) := cell_of e0 rfl
        have E4 : x7.cell? ⟨B7, 3, none⟩ = some (.int .i64 0) := cell_of e0 rfl
        have E5 : x7.cell? ⟨B7, 4, none⟩ = some (.string ⟨#[]⟩) := cell_of e0 rfl
        have E6 : x7.cell? ⟨B7, 5, none⟩ = some (.bool imp) := cell_of e0 rfl
        clear hb7 hl7 e0 hx7 hB7
        go_upto_region 13 with (fail)
        rw [HX7.out, HB7E.out]
        go_quiet (fail)
        go_wp2_with fail
        go_roundw
        case rel => exact ⟨k + 1, by go_num, by omega, Lib.hid (below_drewN2 HB7.out _)⟩
        case measure => simp [intOf]; omega
      · have hltz : ¬ (k : Int) < 4 := by omega
        go_wp2_with fail
        refine (KN.out _).mono ?_
        rintro e w9 ⟨rfl, hb9⟩
        have HB9 := Lib.hid (HB6.out.trans ((HR.out.trans (hb9.mono HR.out.size)).mono HB6.out.size))
        clear hb9
        go_wp2_with fail
        go_ret
        exact ⟨rfl, HB9.out⟩
end Go.Proofs.Ytbodmfbpmeapoaa
