/- Layer 21: of two items that are alike the one that grows more is not shorter. -/
import Derived.Test.YtlcncjfgalnfoaaFlxR2
import Derived.Test.YtlcncjfgalnfoaaFlxQe
namespace Go.Proofs.Ytlcncjfgalnfoaa
open Go.RowKit FixM ShaD ShaM Go.Sort
set_option linter.unusedVariables false

/-- an item that grows so much -/
def grI (t : It) (x : Int) : It := ⟨t.b, t.l, t.m, t.g, t.i, x, t.sh⟩
/-- two items ahead of a list -/
def twoL (u t : It) (L : Nat → It) : Nat → It
  | 0 => u
  | 1 => t
  | i + 2 => L i
theorem itcs_two (u t : It) (L : Nat → It) : ∀ n, itcs (twoL u t L) (n + 2) = (itc u ++ itc t) ++ itcs L n
  | 0 => by simp [itcs, twoL]
  | n + 1 => by
    show itcs (twoL u t L) (n + 2) ++ itc (L n) = _
    rw [itcs_two u t L n, List.append_assoc]; rfl
theorem news_items {w : World} {b off n : Nat} {L : Nat → It} (h : ItR w b off n L) : ∀ j v, (itcs L n)[j]? = some v → w.cell? ((⟨b, off, none⟩ : Addr).add j) = some v := fun j v hv => by
  have hj : j < n * 7 := by
    have := (List.getElem?_eq_some_iff.1 hv).1
    rwa [itcs_length] at this
  have hi : j / 7 < n := by omega
  have h7 := h (j / 7) hi
  have e := itcs_get L (j % 7) (by omega) (j / 7) n hi
  rw [show j / 7 * 7 + j % 7 = j by omega, hv] at e
  rw [Go.WideShapes.add_plain]
  have hj7 : j % 7 < 7 := by omega
  have ho : off + j = off + j / 7 * 7 + j % 7 := by omega
  rw [ho]
  generalize j % 7 = q at e hj7
  have hq : q = 0 ∨ q = 1 ∨ q = 2 ∨ q = 3 ∨ q = 4 ∨ q = 5 ∨ q = 6 := by omega
  rcases hq with rfl | rfl | rfl | rfl | rfl | rfl | rfl
  · rw [e]; exact h7.c0
  · rw [e]; exact h7.c1
  · rw [e]; exact h7.c2
  · rw [e]; exact h7.c3
  · rw [e]; exact h7.c4
  · rw [e]; exact h7.c5
  · rw [e]; exact h7.c6
theorem itcs_one (L : Nat → It) : ∀ n, ∀ u ∈ itcs L n, u.oneCell' = true
  | 0, u, h => by simp [itcs] at h
  | n + 1, u, h => by
    simp only [itcs, List.mem_append] at h
    rcases h with h | h
    · exact itcs_one L n u h
    · simp only [itc, List.mem_cons, List.not_mem_nil, or_false] at h; rcases h with rfl | rfl | rfl | rfl | rfl | rfl | rfl <;> rfl

set_option maxRecDepth 100000 in
/-- two items, and a list behind them -/
theorem app_two (a : Option Addr) (n cap : Nat) (L0 : Nat → It) (u t : It) (W : World) (S : Nat) (hS : W.heap.size = S) (hn : n ≤ 62) (hA : ItA W a n L0) :
    ∃ g c w', (Builtin.append_ #[22, 22] 22 #[.slice (some ⟨S, 0, none⟩) 2 2, .slice a n cap]).run Try.prog (W.alloc (.cells #[.int .i64 u.b, .int .i64 u.l, .int .i64 u.m, .int .i64 u.g, .int .i64 u.i, .int .i64 u.gr, .int .i64 u.sh, .int .i64 t.b, .int .i64 t.l, .int .i64 t.m, .int .i64 t.g, .int .i64 t.i, .int .i64 t.gr, .int .i64 t.sh] 34)) = .ok (.slice (some ⟨g, 0, none⟩) (n + 2) c) w' ∧ Below W.heap.size W w' ∧ ItA w' (some ⟨g, 0, none⟩) (n + 2) (twoL u t L0) := by
  subst hS
  obtain ⟨i, hi, hz0, hz1, hz2⟩ := info_parts info_item21
  have hx := heap_alloc_new W (.cells #[.int .i64 u.b, .int .i64 u.l, .int .i64 u.m, .int .i64 u.g, .int .i64 u.i, .int .i64 u.gr, .int .i64 u.sh, .int .i64 t.b, .int .i64 t.l, .int .i64 t.m, .int .i64 t.g, .int .i64 t.i, .int .i64 t.gr, .int .i64 t.sh] 34)
  have hb1 := below_one21 W (.cells #[.int .i64 u.b, .int .i64 u.l, .int .i64 u.m, .int .i64 u.g, .int .i64 u.i, .int .i64 u.gr, .int .i64 u.sh, .int .i64 t.b, .int .i64 t.l, .int .i64 t.m, .int .i64 t.g, .int .i64 t.i, .int .i64 t.gr, .int .i64 t.sh] 34)
  generalize W.alloc (.cells #[.int .i64 u.b, .int .i64 u.l, .int .i64 u.m, .int .i64 u.g, .int .i64 u.i, .int .i64 u.gr, .int .i64 u.sh, .int .i64 t.b, .int .i64 t.l, .int .i64 t.m, .int .i64 t.g, .int .i64 t.i, .int .i64 t.gr, .int .i64 t.sh] 34) = W1 at hx hb1 ⊢
  have hown : W1.ownsRow W.heap.size 34 7 (.slice (some ⟨W.heap.size, 0, none⟩) 2 2) 2 (itc u ++ itc t) := ⟨rfl, Or.inr ⟨W.heap.size, 2, _, rfl, Nat.le_refl _, hx, Nat.le_refl _, by unfold maxLen; omega, rfl, rfl⟩⟩
  obtain ⟨v', w', r1, r2, r3, r4⟩ := app_cellsA 22 34 i _ 7 56 Try.underlying22 hi hz0 hz1 hz2 rfl (by decide) W.heap.size (.slice (some ⟨W.heap.size, 0, none⟩) 2 2) 2 (itc u ++ itc t) a n cap (itcs L0 n) W1 hb1.size hown (itcs_length L0 n)
    (by
      rcases hA.below hb1 with h | ⟨b, off, e, _, hI⟩
      · exact Or.inl h
      · exact Or.inr ⟨_, e, news_items hI⟩)
    (itcs_one L0 n) (by unfold maxLen; omega) (by omega)
  rw [← itcs_two, show 2 + n = n + 2 by omega] at r2
  obtain ⟨g, c, hv, _, _⟩ := r2.form (by omega)
  subst hv
  have hg := World.ownsRow.lt r2 g rfl
  refine ⟨g, c, w', r1, hb1.trans (r3.mono (Nat.le_refl _)), Or.inr ⟨g, 0, rfl, hg.2, fun i hi => ?_⟩⟩
  have key : ∀ j, j < 7 → w'.cell? ⟨g, i * 7 + j, none⟩ = (itc (twoL u t L0 i))[j]? := fun j hj => by
    rw [r2.cellAt _ (by omega), itcs_get _ j hj i (n + 2) hi]
  rw [Nat.zero_add]
  exact ⟨key 0 (by omega), key 1 (by omega), key 2 (by omega), key 3 (by omega), key 4 (by omega), key 5 (by omega), key 6 (by omega)⟩

set_option maxRecDepth 100000 in
set_option maxHeartbeats 8000000 in
theorem FlexlineMore_walk (a : Option Addr) (n cap : Nat) (L0 : Nat → It) (t : It) (grow room : Int) (w : World) (hA : ItA w a n L0) :
    Calls Try.prog 8 #[.slice a n cap, .agg #[.int .i64 t.b, .int .i64 t.l, .int .i64 t.m, .int .i64 t.g, .int .i64 t.i, .int .i64 t.gr, .int .i64 t.sh], .int .i64 grow, .int .i64 room] w fun e w' => e = .returned (.bool true) ∧ Below w.heap.size w w' := by
  have hb1 := below_one21 w (.cells #[.int .i64 t.b, .int .i64 t.l, .int .i64 t.m, .int .i64 t.g, .int .i64 t.i, .int .i64 t.gr, .int .i64 t.sh] 34)
  by_cases hcase : 30 < n ∨ n ≤ 30 ∧ t.gr < 0 ∨ n ≤ 30 ∧ 0 ≤ t.gr ∧ grow ≤ t.gr
  · have hcase' : (30 : Int) < (n : Int) ∨ (n : Int) ≤ 30 ∧ t.gr < 0 ∨ (n : Int) ≤ 30 ∧ 0 ≤ t.gr ∧ grow ≤ t.gr := by omega
    have HB1 := Lib.hid hb1
    clear hcase hA hb1
    rcases hcase' with h1 | ⟨h1, h2⟩ | ⟨h1, h2, h3⟩
    all_goals
      go_enter Try.func8, Try.ntmps8
      go_wp2_with fail
      refine (known21_any _).mono ?_
      rintro e wk ⟨rfl, hbk⟩
      have HBK := Lib.hid (HB1.out.trans (hbk.mono HB1.out.size))
      clear hbk
      go_wp2_with fail
      go_ret
      exact ⟨rfl, HBK.out⟩
  · have hn : n ≤ 30 := by omega
    have h1 : (n : Int) ≤ 30 := by omega
    have h2 : 0 ≤ t.gr := by omega
    have h3 : t.gr < grow := by omega
    have hb2 := hb1.alloc hb1.size (.cells #[.int .i64 t.b, .int .i64 t.l, .int .i64 t.m, .int .i64 t.g, .int .i64 t.i, .int .i64 grow, .int .i64 t.sh] 34)
    have hb2' := hb2
    have hx1 := heap_alloc_new w (.cells #[.int .i64 t.b, .int .i64 t.l, .int .i64 t.m, .int .i64 t.g, .int .i64 t.i, .int .i64 t.gr, .int .i64 t.sh] 34)
    have hx2 := heap_alloc_new (w.alloc (.cells #[.int .i64 t.b, .int .i64 t.l, .int .i64 t.m, .int .i64 t.g, .int .i64 t.i, .int .i64 t.gr, .int .i64 t.sh] 34)) (.cells #[.int .i64 t.b, .int .i64 t.l, .int .i64 t.m, .int .i64 t.g, .int .i64 t.i, .int .i64 grow, .int .i64 t.sh] 34)
    have hz : ((w.alloc (.cells #[.int .i64 t.b, .int .i64 t.l, .int .i64 t.m, .int .i64 t.g, .int .i64 t.i, .int .i64 t.gr, .int .i64 t.sh] 34)).alloc (.cells #[.int .i64 t.b, .int .i64 t.l, .int .i64 t.m, .int .i64 t.g, .int .i64 t.i, .int .i64 grow, .int .i64 t.sh] 34)).heap.size = w.heap.size + 1 + 1 := by simp
    have hx1' : ((w.alloc (.cells #[.int .i64 t.b, .int .i64 t.l, .int .i64 t.m, .int .i64 t.g, .int .i64 t.i, .int .i64 t.gr, .int .i64 t.sh] 34)).alloc (.cells #[.int .i64 t.b, .int .i64 t.l, .int .i64 t.m, .int .i64 t.g, .int .i64 t.i, .int .i64 grow, .int .i64 t.sh] 34)).heap[w.heap.size]? = some (.cells #[.int .i64 t.b, .int .i64 t.l, .int .i64 t.m, .int .i64 t.g, .int .i64 t.i, .int .i64 t.gr, .int .i64 t.sh] 34 (0, 0)) := (Below.heap_alloc _ _ _ (by simp)).trans hx1
    have hz1 : (w.alloc (.cells #[.int .i64 t.b, .int .i64 t.l, .int .i64 t.m, .int .i64 t.g, .int .i64 t.i, .int .i64 t.gr, .int .i64 t.sh] 34)).heap.size = w.heap.size + 1 := by simp
    rw [hz1] at hx2
    obtain ⟨u, hu⟩ : ∃ u, grI t grow = u := ⟨_, rfl⟩
    -- the line
    obtain ⟨LL, hLL⟩ : ∃ LL, (fun i => hI (twoL u t L0 i)) = LL := ⟨_, rfl⟩
    have hLL2 : ∀ i, LL i = hI (twoL u t L0 i) := fun i => by rw [← hLL]
    obtain ⟨N, hN⟩ : ∃ N, n + 2 = N := ⟨_, rfl⟩
    have hmore := resolveF_more LL (H room) N (by omega) (fun i => by rw [hLL2 i]; exact held_hI _) (by
      have e0 : LL 0 = hI u := hLL2 0
      have e1 : LL 1 = hI t := hLL2 1
      refine ⟨?_, ?_, ?_, ?_⟩
      · rw [e0, e1, ← hu]; rfl
      · rw [e0, e1, ← hu]; rfl
      · rw [e0, e1, ← hu]; rfl
      · rw [e0, e1, ← hu]
        show WT t.gr ≤ WT grow
        unfold WT H; repeat' split <;> omega)
    have hgr0 : (LL 0).gr ≠ 0 := by
      have e0 : LL 0 = hI u := hLL2 0
      rw [e0, ← hu]
      show WT grow ≠ 0
      unfold WT H; repeat' split <;> omega
    have e0 : LL 0 = hI u := hLL2 0
    have hmore2 : growsF LL (H room) N = true → (hI u).b ≤ wsh (hI u) → (resolveF LL (H room) N).1.len 1 ≤ (resolveF LL (H room) N).1.len 0 := fun h4 h5 => hmore h4 hgr0 (by rw [e0]; exact h5)
    obtain ⟨W2, hW2⟩ : ∃ W2, (w.alloc (.cells #[.int .i64 t.b, .int .i64 t.l, .int .i64 t.m, .int .i64 t.g, .int .i64 t.i, .int .i64 t.gr, .int .i64 t.sh] 34)).alloc (.cells #[.int .i64 t.b, .int .i64 t.l, .int .i64 t.m, .int .i64 t.g, .int .i64 t.i, .int .i64 grow, .int .i64 t.sh] 34) = W2 := ⟨_, rfl⟩
    obtain ⟨S, hS⟩ : ∃ S, w.heap.size = S := ⟨_, rfl⟩
    rw [hW2] at hb2 hx1' hx2 hz
    rw [hS] at hx1' hx2 hz
    obtain ⟨g, c, w5, hr, hb5, hI5⟩ := app_two a n cap L0 (grI t grow) t W2 (S + 1 + 1) hz (by omega) (hA.below (by rw [← hW2]; exact hb2'))
    have hr6 : (Builtin.append_ #[22, 22] 22 #[.slice (some ⟨S + 1 + 1, 0, none⟩) 2 2, .slice a n cap]).run Try.prog (W2.alloc (.cells #[.int .i64 t.b, .int .i64 t.l, .int .i64 t.m, .int .i64 t.g, .int .i64 t.i, .int .i64 grow, .int .i64 t.sh, .int .i64 t.b, .int .i64 t.l, .int .i64 t.m, .int .i64 t.g, .int .i64 t.i, .int .i64 t.gr, .int .i64 t.sh] 34)) = .ok (.slice (some ⟨g, 0, none⟩) (n + 2) c) w5 := hr
    rw [hu, hN] at hI5
    rw [hN] at hr6
    have hbw5 : Below w.heap.size w w5 := hb2.trans (hb5.mono (by rw [hz]; omega))
    obtain ⟨LT, hLT⟩ : ∃ LT, twoL u t L0 = LT := ⟨_, rfl⟩
    have hLT0 : LT 0 = u := by rw [← hLT]; rfl
    rw [hLT] at hI5
    have OFC : ∀ W, ItA W (some ⟨g, 0, none⟩) N LT → Calls Try.prog 13 #[.slice (some ⟨g, 0, none⟩) N c] W (OfIs W N LT) := fun W h => of21_any _ N c LT W (by omega) h
    have ALC : ∀ ra rc W, ItA W ra N LT → Calls Try.prog 20 #[.slice ra N rc] W (OfIs W N LL) := fun ra rc W h => by
      have := All21_any ra N rc LT W (by omega) h
      rw [← hLT] at this
      rwa [hLL] at this
    have GRC : ∀ ra rc W, ItA W ra N LL → Calls Try.prog 19 #[.slice ra N rc, .int .i64 room] W fun e w' => e = .returned (.bool (growsF LL (H room) N)) ∧ Below W.heap.size W w' := fun ra rc W h => Grows21_any ra N rc LL room W (by omega) h (fun i => by rw [hLL2 i]; exact held_hI _)
    have RC : ∀ W, ItA W (some ⟨g, 0, none⟩) N LT → Calls Try.prog 11 #[.slice (some ⟨g, 0, none⟩) N c, .int .i64 room] W fun e w' => e = .returned (.tuple #[.slice (some ⟨W.heap.size, 0, none⟩) N N, .int .i64 ((resolveF LL (H room) N).2 : Int)]) ∧ Below W.heap.size W w' ∧ Row w' W.heap.size N (resolveF LL (H room) N).1.len := fun W h => Resolve_any _ N c LT LL room W (by omega) h (fun i => by rw [hLL2 i, ← hLT])
    have HC := fun W => refHeld21_any u W
    have WC := fun W => refWish21_any (hI u) W
    have hfld : ∀ (v0 v1 v2 v3 v4 v5 v6 : Value) (W : World), (Instr.field 36 (.agg #[v0, v1, v2, v3, v4, v5, v6]) 0).run Try.prog W = .ok v0 W := fun _ _ _ _ _ _ _ W => by kernel_rfl
    obtain ⟨gb, hgb⟩ : ∃ gb, growsF LL (H room) N = gb := ⟨_, rfl⟩
    obtain ⟨rs, hrs⟩ : ∃ rs, resolveF LL (H room) N = rs := ⟨_, rfl⟩
    rw [hgb] at GRC hmore2
    rw [hrs] at RC hmore2
    obtain ⟨ln, hln⟩ : ∃ ln, rs.1.len = ln := ⟨_, rfl⟩
    rw [hln] at RC hmore2
    obtain ⟨wi, hwi⟩ : ∃ wi, wsh (hI u) = wi := ⟨_, rfl⟩
    rw [hwi] at WC hmore2
    have hub : (hI u).b = H u.b := rfl
    rw [hub] at hmore2
    have HR6 := Lib.hid hr6
    have HW2 := Lib.hid hW2
    have HS := Lib.hid hS
    have HZ := Lib.hid hz
    have HI5 := Lib.hid hI5
    have HB5 := Lib.hid hbw5
    have HOF := Lib.hid OFC
    have HAL := Lib.hid ALC
    have HGR := Lib.hid GRC
    have HRC := Lib.hid RC
    have HHC := Lib.hid HC
    have HWC := Lib.hid WC
    have HMO := Lib.hid hmore2
    have HLT0 := Lib.hid hLT0
    have hN2 : 2 ≤ N := by omega
    have hNz : (2 : Int) ≤ (N : Int) := by omega
    have hNb : N ≤ 32 := by omega
    have a0 : W2.cell? ⟨S, 0, none⟩ = some (.int .i64 t.b) := cell_ofF hx1' rfl
    have a1 : W2.cell? ⟨S, 1, none⟩ = some (.int .i64 t.l) := cell_ofF hx1' rfl
    have a2 : W2.cell? ⟨S, 2, none⟩ = some (.int .i64 t.m) := cell_ofF hx1' rfl
    have a3 : W2.cell? ⟨S, 3, none⟩ = some (.int .i64 t.g) := cell_ofF hx1' rfl
    have a4 : W2.cell? ⟨S, 4, none⟩ = some (.int .i64 t.i) := cell_ofF hx1' rfl
    have a5 : W2.cell? ⟨S, 5, none⟩ = some (.int .i64 t.gr) := cell_ofF hx1' rfl
    have a6 : W2.cell? ⟨S, 6, none⟩ = some (.int .i64 t.sh) := cell_ofF hx1' rfl
    have b0 : W2.cell? ⟨S + 1, 0, none⟩ = some (.int .i64 t.b) := cell_ofF hx2 rfl
    have b1 : W2.cell? ⟨S + 1, 1, none⟩ = some (.int .i64 t.l) := cell_ofF hx2 rfl
    have b2 : W2.cell? ⟨S + 1, 2, none⟩ = some (.int .i64 t.m) := cell_ofF hx2 rfl
    have b3 : W2.cell? ⟨S + 1, 3, none⟩ = some (.int .i64 t.g) := cell_ofF hx2 rfl
    have b4 : W2.cell? ⟨S + 1, 4, none⟩ = some (.int .i64 t.i) := cell_ofF hx2 rfl
    have b5 : W2.cell? ⟨S + 1, 5, none⟩ = some (.int .i64 grow) := cell_ofF hx2 rfl
    have b6 : W2.cell? ⟨S + 1, 6, none⟩ = some (.int .i64 t.sh) := cell_ofF hx2 rfl
    clear hb1 hb2 hb2' hx1 hx2 hx1' hz hz1 hu hLL hLL2 hN hmore hgr0 e0 hmore2 hW2 hS hr hr6 hb5 hI5 hbw5 hLT hLT0 OFC ALC GRC RC HC WC hgb hrs hln hwi hub hA hcase
    go_enter Try.func8, Try.ntmps8
    go_upto_region 5 with fail
    rw [HW2.out, HS.out]
    go_upto_region 6 with fail
    rw [HZ.out]
    clear a0 a1 a2 a3 a4 a5 a6 b0 b1 b2 b3 b4 b5 b6
    go_wp2_with (at_builtin; refine wpList_append_runF rfl _ _ 22 rfl _ _ _ _ rfl rfl HR6.out ?_)
    refine (HOF.out w5 HI5.out).mono ?_
    rintro e w6 ⟨ra, rc, rfl, hb6, hit6⟩
    have HB6 := Lib.hid (HB5.out.trans (hb6.mono HB5.out.size))
    have HI6 := Lib.hid (HI5.out.below hb6)
    have AL := Lib.hid (HAL.out ra rc w6 (OfIs.ita hit6))
    unfold OfIs at AL
    clear hb6 hit6
    go_wp2_with fail
    refine AL.out.mono ?_
    rintro e w7 ⟨rb, rc2, rfl, hb7, hit7⟩
    have HB7 := Lib.hid (HB6.out.trans (hb7.mono HB6.out.size))
    have HI7 := Lib.hid (HI6.out.below hb7)
    have GR := Lib.hid (HGR.out rb rc2 w7 (OfIs.ita hit7))
    clear hb7 hit7
    go_wp2_with fail
    refine GR.out.mono ?_
    rintro e w8 ⟨rfl, hb8⟩
    have HB8 := Lib.hid (HB7.out.trans (hb8.mono HB7.out.size))
    have HI8 := Lib.hid (HI7.out.below hb8)
    clear hb8
    cases gb
    · clear HMO
      go_wp2_with fail
      refine (known21_any w8).mono ?_
      rintro e wk ⟨rfl, hbk⟩
      have HBK := Lib.hid (HB8.out.trans (hbk.mono HB8.out.size))
      clear hbk
      go_wp2_with fail
      go_ret
      exact ⟨rfl, HBK.out⟩
    · go_wp2_with fail
      refine (HOF.out w8 HI8.out).mono ?_
      rintro e w9 ⟨rd, rc3, rfl, hb9, hit9⟩
      obtain ⟨g9, hra, _, _, hI⟩ := hit9 (by omega)
      subst hra
      have S7 : Seven w9 g9 0 u := by have h := hI 0 (by omega); rw [HLT0.out] at h; exact h
      have q0 : w9.cell? ⟨g9, 0, none⟩ = some (.int .i64 u.b) := S7.c0
      have q1 : w9.cell? ⟨g9, 1, none⟩ = some (.int .i64 u.l) := S7.c1
      have q2 : w9.cell? ⟨g9, 2, none⟩ = some (.int .i64 u.m) := S7.c2
      have q3 : w9.cell? ⟨g9, 3, none⟩ = some (.int .i64 u.g) := S7.c3
      have q4 : w9.cell? ⟨g9, 4, none⟩ = some (.int .i64 u.i) := S7.c4
      have q5 : w9.cell? ⟨g9, 5, none⟩ = some (.int .i64 u.gr) := S7.c5
      have q6 : w9.cell? ⟨g9, 6, none⟩ = some (.int .i64 u.sh) := S7.c6
      have HB9 := Lib.hid (HB8.out.trans (hb9.mono HB8.out.size))
      have HI9 := Lib.hid (HI8.out.below hb9)
      clear hb9 hit9 hI S7
      go_wp2_with fail
      refine (HHC.out w9).mono ?_
      rintro e w10 ⟨rfl, hb10⟩
      have HB10 := Lib.hid (HB9.out.trans (hb10.mono HB9.out.size))
      have HI10 := Lib.hid (HI9.out.below hb10)
      clear hb10 q0 q1 q2 q3 q4 q5 q6
      go_wp2_with fail
      refine (HOF.out w10 HI10.out).mono ?_
      rintro e w11 ⟨re, rc4, rfl, hb11, hit11⟩
      obtain ⟨g11, hra, _, _, hI⟩ := hit11 (by omega)
      subst hra
      have S7 : Seven w11 g11 0 u := by have h := hI 0 (by omega); rw [HLT0.out] at h; exact h
      have q0 : w11.cell? ⟨g11, 0, none⟩ = some (.int .i64 u.b) := S7.c0
      have q1 : w11.cell? ⟨g11, 1, none⟩ = some (.int .i64 u.l) := S7.c1
      have q2 : w11.cell? ⟨g11, 2, none⟩ = some (.int .i64 u.m) := S7.c2
      have q3 : w11.cell? ⟨g11, 3, none⟩ = some (.int .i64 u.g) := S7.c3
      have q4 : w11.cell? ⟨g11, 4, none⟩ = some (.int .i64 u.i) := S7.c4
      have q5 : w11.cell? ⟨g11, 5, none⟩ = some (.int .i64 u.gr) := S7.c5
      have q6 : w11.cell? ⟨g11, 6, none⟩ = some (.int .i64 u.sh) := S7.c6
      have HB11 := Lib.hid (HB10.out.trans (hb11.mono HB10.out.size))
      have HI11 := Lib.hid (HI10.out.below hb11)
      clear hb11 hit11 hI S7
      go_wp2_with fail
      refine (HHC.out w11).mono ?_
      rintro e w12 ⟨rfl, hb12⟩
      have HB12 := Lib.hid (HB11.out.trans (hb12.mono HB11.out.size))
      have HI12 := Lib.hid (HI11.out.below hb12)
      clear hb12 q0 q1 q2 q3 q4 q5 q6
      go_wp2_with fail
      refine (HWC.out w12).mono ?_
      rintro e w13 ⟨rfl, hb13⟩
      have HB13 := Lib.hid (HB12.out.trans (hb13.mono HB12.out.size))
      have HI13 := Lib.hid (HI12.out.below hb13)
      clear hb13
      by_cases hbw : wi < H u.b
      · clear HMO
        go_wp2_with fail
        refine (known21_any w13).mono ?_
        rintro e wk ⟨rfl, hbk⟩
        have HBK := Lib.hid (HB13.out.trans (hbk.mono HB13.out.size))
        clear hbk
        go_wp2_with fail
        go_ret
        exact ⟨rfl, HBK.out⟩
      · have hbw2 : H u.b ≤ wi := by omega
        have hfin : ln 1 ≤ ln 0 := HMO.out (by first | trivial | rfl) hbw2
        have RR := Lib.hid (HRC.out w13 HI13.out)
        clear hbw HMO
        go_wp2_with fail
        refine RR.out.mono ?_
        rintro e w14 ⟨rfl, hb14, hr14⟩
        obtain ⟨S8, hS8⟩ : ∃ S, w13.heap.size = S := ⟨_, rfl⟩
        rw [hS8] at hr14 ⊢
        have HB14 := Lib.hid (HB13.out.trans (hb14.mono HB13.out.size))
        have o0 := cell_regrown (hr14 0 (by omega)).1
        have o1 := cell_regrown (hr14 1 (by omega)).1
        obtain ⟨y0, hy0⟩ : ∃ y, ln 0 = y := ⟨_, rfl⟩
        obtain ⟨y1, hy1⟩ : ∃ y, ln 1 = y := ⟨_, rfl⟩
        rw [hy0] at o0 hfin
        rw [hy1] at o1 hfin
        have cK := fun (dd : Nat) (os : Array Obj) => Calls.regrown_of (known21_any (Go.Sort.grow (redrawn w14 dd) os))
        have hN0 : 0 < N := by omega
        have hN1 : 1 < N := by omega
        have hNz0 : (0 : Int) < (N : Int) := by omega
        have hNz1 : (1 : Int) < (N : Int) := by omega
        clear hb14 hr14 hS8 RR hy0 hy1
        go_upto_region 10 with fail
        refine wp_region_quiet_below (by kernel_rfl) (by kernel_rfl) ?_
        repeat (quiet_step (first | with_reducible exact cK _ _))
        refine wpQuiet_nil ?_
        intro _ hw'
        obtain ⟨⟨dq, osq⟩, hw''⟩ := hw'
        subst hw''
        have hbX := below_regrown w14 dq osq
        have HX := Lib.hid (HB14.out.trans (hbX.mono HB14.out.size))
        clear o0 o1 cK hbX
        go_wp2_with fail
        go_ret
        exact ⟨by first | rfl | simp [hfin], HX.out⟩
end Go.Proofs.Ytlcncjfgalnfoaa
