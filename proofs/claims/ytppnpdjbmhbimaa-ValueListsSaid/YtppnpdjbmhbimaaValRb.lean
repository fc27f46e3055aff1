/- Joined texts: ValR2 ValR2w. -/
import Derived.Test.YtppnpdjbmhbimaaValR1
import Derived.Test.YtppnpdjbmhbimaaValW8
namespace Go.Proofs.Ytppnpdjbmhbimaa
open Go.RowKit TreN LexP FixP SynP ValP FixM
set_option linter.unusedVariables false

theorem bs_drop1 (t : Tok) (r : List Tok) : (t :: r).drop (skipN (t :: r) 1) = bs r := skipN_drop (t :: r) 1
/-- over, by places -/
theorem over_idx (t : Tok) (r : List Tok) :
    (signP (t :: r) (skipN (t :: r) 1) [47] = true ∧ isP (t :: r) (skipN (t :: r) (skipN (t :: r) 1 + 1)) 7 = true ∧ ∃ h : skipN (t :: r) (skipN (t :: r) 1 + 1) < (t :: r).length, overP r = some ((t :: r)[skipN (t :: r) (skipN (t :: r) 1 + 1)], (t :: r).drop (skipN (t :: r) (skipN (t :: r) 1 + 1) + 1))) ∨
    ((signP (t :: r) (skipN (t :: r) 1) [47] = false ∨ (signP (t :: r) (skipN (t :: r) 1) [47] = true ∧ isP (t :: r) (skipN (t :: r) (skipN (t :: r) 1 + 1)) 7 = false)) ∧ overP r = none) := by
  obtain ⟨l, hl⟩ : ∃ l, t :: r = l := ⟨_, rfl⟩
  have hb := bs_drop1 t r
  rw [hl] at hb ⊢
  obtain ⟨k, hk⟩ : ∃ k, skipN l 1 = k := ⟨_, rfl⟩
  rw [hk] at hb ⊢
  have hm := skipN_drop l (k + 1)
  obtain ⟨m, hmm⟩ : ∃ m, skipN l (k + 1) = m := ⟨_, rfl⟩
  rw [hmm] at hm ⊢
  by_cases hkl : k < l.length
  · have hd := List.drop_eq_getElem_cons hkl
    by_cases hs : l[k].kind = 19 ∧ l[k].text = [47]
    · have hsg : signP l k [47] = true := by unfold signP; rw [isP_lt hkl, hd]; show (decide (l[k].kind = 19) && decide (l[k].text = [47])) = true; rw [decide_eq_true hs.1, decide_eq_true hs.2]; rfl
      have hp : passP 19 [47] (bs r) = some (l.drop (k + 1)) := by
        rw [← hb, hd]
        show (if l[k].text = [47] then (takeP 19 (l[k] :: l.drop (k + 1))).map Prod.snd else none) = _
        rw [if_pos hs.2]
        show (if l[k].kind = 19 then some (l[k], l.drop (k + 1)) else none).map Prod.snd = _
        rw [if_pos hs.1]; rfl
      have ho : overP r = takeP 7 (l.drop m) := by unfold overP; rw [hp, hm]; rfl
      by_cases hml : m < l.length
      · have hdm := List.drop_eq_getElem_cons hml
        by_cases h7 : l[m].kind = 7
        · left
          refine ⟨hsg, by rw [isP_lt hml, decide_eq_true h7], hml, ?_⟩
          rw [ho, hdm]
          show (if l[m].kind = 7 then some (l[m], l.drop (m + 1)) else none) = _
          rw [if_pos h7]
        · right
          refine ⟨Or.inr ⟨hsg, by rw [isP_lt hml, decide_eq_false h7]⟩, ?_⟩
          rw [ho, hdm]
          show (if l[m].kind = 7 then some (l[m], l.drop (m + 1)) else none) = _
          rw [if_neg h7]
      · right
        refine ⟨Or.inr ⟨hsg, isP_ge (by omega) 7⟩, ?_⟩
        rw [ho, List.drop_of_length_le (by omega)]; rfl
    · have hsg : signP l k [47] = false := by
        unfold signP; rw [isP_lt hkl, hd]
        show (decide (l[k].kind = 19) && decide (l[k].text = [47])) = false
        by_cases h1 : l[k].kind = 19
        · have h2 : ¬ l[k].text = [47] := fun h => hs ⟨h1, h⟩
          rw [decide_eq_false h2, Bool.and_false]
        · rw [decide_eq_false h1]; rfl
      right
      refine ⟨Or.inl hsg, ?_⟩
      have hp : passP 19 [47] (bs r) = none := by
        rw [← hb, hd]
        show (if l[k].text = [47] then (takeP 19 (l[k] :: l.drop (k + 1))).map Prod.snd else none) = _
        by_cases h2 : l[k].text = [47]
        · have h1 : ¬ l[k].kind = 19 := fun h => hs ⟨h, h2⟩
          rw [if_pos h2]
          show (if l[k].kind = 19 then some (l[k], l.drop (k + 1)) else none).map Prod.snd = _
          rw [if_neg h1]; rfl
        · rw [if_neg h2]
      unfold overP; rw [hp]; rfl
  · right
    have hd : l.drop k = [] := List.drop_of_length_le (by omega)
    refine ⟨Or.inl (by unfold signP; rw [isP_ge (by omega)]; rfl), ?_⟩
    have hp : passP 19 [47] (bs r) = none := by rw [← hb, hd]; rfl
    unfold overP; rw [hp]; rfl
theorem three_blocks (W w2 : World) (o z C : Obj) (hb : Below (((W.alloc o).alloc z).alloc C).drew.heap.size (((W.alloc o).alloc z).alloc C).drew w2) : w2.heap[W.heap.size]? = some o ∧ w2.heap[W.heap.size + 1]? = some z ∧ Below W.heap.size W w2 ∧ W.heap.size + 1 < w2.heap.size := by
  have e : (((W.alloc o).alloc z).alloc C).drew.heap = (((W.alloc o).alloc z).alloc C).heap := rfl
  have h : Below ((W.alloc o).alloc z).heap.size ((W.alloc o).alloc z) w2 := by
    have h1 : Below ((W.alloc o).alloc z).heap.size ((W.alloc o).alloc z) (((W.alloc o).alloc z).alloc C).drew := ((Below.refl _ _).alloc (Nat.le_refl _) _).drew
    exact h1.trans (hb.mono h1.size)
  exact two_blocks W w2 o z h

theorem put_one {w W : World} {cur : Array Value} {Z : Obj} {k : Nat} (v : Value) (k1 : W.heap[w.heap.size]? = some Z) (k2 : W.heap[w.heap.size + 1]? = some (.cells cur 30 (0, 0))) (k3 : Below w.heap.size w W) (hk : k < cur.size) :
    ∃ x1 v0, W.cell? ⟨w.heap.size + 1, k, none⟩ = some v0 ∧ W.frozen? ⟨w.heap.size + 1, k, none⟩ = false ∧ W.setCell ⟨w.heap.size + 1, k, none⟩ v = x1 ∧ w.heap.size + 1 < x1.heap.size ∧ x1.heap[w.heap.size + 1]? = some (.cells (cur.setIfInBounds k v) 30 (0, 0)) ∧ x1.heap[w.heap.size]? = some Z ∧ Below w.heap.size w x1 :=
  ⟨_, cur[k], cell_of k2 (by simp [hk]), unfrozen_of k2, rfl, by rw [setCell_size]; exact blk_lt9 k2, setCell_here _ k2, by rw [setCell_there _ (by omega)]; exact k1, k3.setCell (p := ⟨w.heap.size + 1, k, none⟩) (by show w.heap.size ≤ w.heap.size + 1; omega) _⟩
theorem after_drawn {w x w5 : World} {C Z : Obj} {cur : Array Value} (hb : Below (x.alloc C).drew.heap.size (x.alloc C).drew w5) (k2 : x.heap[w.heap.size + 1]? = some (.cells cur 30 (0, 0))) (k1 : x.heap[w.heap.size]? = some Z) (k3 : Below w.heap.size w x) :
    w5.heap[w.heap.size]? = some Z ∧ w5.heap[w.heap.size + 1]? = some (.cells cur 30 (0, 0)) ∧ Below w.heap.size w w5 ∧ True := by
  have h : Below x.heap.size x w5 := by
    have h1 : Below x.heap.size x (x.alloc C).drew := ((Below.refl _ _).alloc (Nat.le_refl _) _).drew
    exact h1.trans (hb.mono h1.size)
  exact ⟨(h.block _ (blk_lt9 k1)).trans k1, (h.block _ (blk_lt9 k2)).trans k2, k3.trans (h.mono k3.size), trivial⟩
end Go.Proofs.Ytppnpdjbmhbimaa

namespace Go.Proofs.Ytppnpdjbmhbimaa
open Go.RowKit TreN LexP FixP SynP ValP FixM
set_option linter.unusedVariables false

set_option maxRecDepth 100000 in
set_option maxHeartbeats 8000000 in
theorem refRead9_w (t : Tok) (r : List Tok) (n cap : Nat) (w : World) (a : Option Addr) (hn : (t :: r).length = n) (hnm : n ≤ 8000000) (hT : Tks w a (t :: r)) (hx : TxOk (t :: r)) (k1 : t.kind = 1) :
    Calls Try.prog 22 #[.slice a n cap] w fun e w' => e = .returned (.tuple #[valV (readV (t :: r)).1, .int .i64 ((readV (t :: r)).2 : Nat)]) ∧ Below w.heap.size w w' := by
  obtain ⟨l, hl⟩ : ∃ l, t :: r = l := ⟨_, rfl⟩
  rw [hl] at hn hT hx ⊢
  have HN := Lib.hid hn
  have HX := Lib.hid (rawV_name hx)
  obtain ⟨⟨vk, vn, vd, vx⟩, hv⟩ : ∃ v, (rawV l).1 = v := ⟨_, rfl⟩
  obtain ⟨l2, hl2⟩ : ∃ l2, (rawV l).2 = l2 := ⟨_, rfl⟩
  have HV : Hid (rawV l = (⟨vk, vn, vd, vx⟩, l2)) := Lib.hid (by rw [← hv, ← hl2])
  rw [hv] at HX
  have hR9 := fun (W : World) => refRight9_any vk vn vd vx W HX.out
  have HR9 := Lib.hid hR9
  have HRL : Hid (readV l = if rightV ⟨vk, vn, vd, vx⟩ = true then (⟨vk, vn, vd, vx⟩, n - l2.length) else (zeroV, 0)) := Lib.hid (by unfold readV; rw [HV.out, HN.out])
  obtain ⟨R, hR⟩ : ∃ R, readV l = R := ⟨_, rfl⟩
  rw [hR] at HRL ⊢
  have HTT := Lib.hid hT
  clear hv hl2 hx hR hR9 hT hn
  subst hl
  obtain ⟨b, o, rfl, hbw, hk⟩ := HTT.out.get (i := 0) (by simp)
  have d1 : w.cell? ⟨b, o, none⟩ = some (.int .i64 t.kind) := by have := hk.kind; simpa using this
  have d2 : w.cell? ⟨b, o + 1, none⟩ = some (.string ⟨t.text.toArray⟩) := by have := hk.text; simpa using this
  have d3 : w.cell? ⟨b, o + 2, none⟩ = some (.int .i64 t.n) := by have := hk.n; simpa using this
  have hn0 : 0 < n := by have := HN.out; simp at this; omega
  have hnz : (0 : Int) < (n : Int) := by omega
  have hne : ((n : Int) == 0) = false := by rw [beq_eq_false_iff_ne]; omega
  have hne2 : ¬ n = 0 := by omega
  clear hk
  have hBK : ∀ W : World, Below w.heap.size w W → Tks W (some ⟨b, o, none⟩) (t :: r) := fun W hW => HTT.out.below hW
  have HBK := Lib.hid hBK
  clear hBK
  have k7 : ¬ t.kind = 7 := by omega
  have k8 : ¬ t.kind = 8 := by omega
  have k9 : ¬ t.kind = 9 := by omega
  have z7 : (t.kind == 7) = false := by rw [beq_eq_false_iff_ne]; exact k7
  have z8 : (t.kind == 8) = false := by rw [beq_eq_false_iff_ne]; exact k8
  have z9 : (t.kind == 9) = false := by rw [beq_eq_false_iff_ne]; exact k9
  have kz : (t.kind == 1) = true := by rw [beq_iff_eq]; exact k1
  have hv : (namedV t.text, r) = ((⟨vk, vn, vd, vx⟩ : Val), l2) := by rw [← HV.out]; unfold rawV; dsimp only; rw [if_neg k7, if_neg k8, if_neg k9, if_pos k1]
  injection hv with hv1 hv2
  have hnn : n - l2.length = 1 := by have := HN.out; rw [← hv2]; simp at this; omega
  obtain ⟨W9, hW9⟩ : ∃ W9, (w.alloc (.cells #[.int .i64 0, .int .i64 0, .int .i64 0, .string ⟨#[]⟩] 30)).alloc (.cells #[.int .i64 0, .int .i64 t.n, .int .i64 0, .string ⟨#[]⟩] 30) = W9 := ⟨_, rfl⟩
  obtain ⟨j1, j2, j3, j4⟩ := two_blocks w W9 (.cells #[.int .i64 0, .int .i64 0, .int .i64 0, .string ⟨#[]⟩] 30) (.cells #[.int .i64 0, .int .i64 t.n, .int .i64 0, .string ⟨#[]⟩] 30) (by rw [← hW9]; exact Below.refl _ _)
  have hP := fun (W : World) (hW : TxAt W W9.heap.size wL) => refPlace_any W9.heap.size wordsL 31 31 t.text W rfl (by omega) hW
  have e9 : plc wordsL t.text 1 = wordP t.text := rfl
  rw [e9] at hP
  have dd2 : W9.cell? ⟨b, o + 1, none⟩ = some (.string ⟨t.text.toArray⟩) := (j3.cell (p := ⟨b, o + 1, none⟩) hbw).trans d2
  have dd1 : W9.cell? ⟨b, o, none⟩ = some (.int .i64 t.kind) := (j3.cell (p := ⟨b, o, none⟩) hbw).trans d1
  obtain ⟨x1, x2, x3, x4, v0, v1, v2, v3, ⟨p0, q0, r0⟩, ⟨p1, q1, r1⟩, ⟨p2, q2, r2⟩, ⟨p3, q3, r3⟩, h4⟩ := four_store W9 (w.heap.size + 1) 30 _ 0 1 2 3 (.int .i64 1) (.int .i64 (wordP t.text : Nat)) (.int .i64 0) (.string ⟨#[]⟩) j2 (by simp) (by simp) (by simp) (by simp)
  have hbW9 : b < W9.heap.size := by have := j3.size; omega
  have hs4 : w.heap.size + 1 < x4.heap.size := by rw [h4.size]; exact j4
  have hs1 : w.heap.size + 1 < x1.heap.size := by rw [← r0, setCell_size]; exact j4
  have hs2 : w.heap.size + 1 < x2.heap.size := by rw [← r1, setCell_size]; exact hs1
  have hs3 : w.heap.size + 1 < x3.heap.size := by rw [← r2, setCell_size]; exact hs2
  have hb4 : b < x4.heap.size := by rw [h4.size]; exact hbW9
  have ee2 : x4.cell? ⟨b, o + 1, none⟩ = some (.string ⟨t.text.toArray⟩) := by
    have := h4.below (w.heap.size + 1) W9 (Nat.le_refl _) (Below.refl _ _)
    rw [this.cell (p := ⟨b, o + 1, none⟩) (by show b < w.heap.size + 1; omega)]; exact dd2
  obtain ⟨tn, htn⟩ : ∃ tn, t.n = tn := ⟨_, rfl⟩
  obtain ⟨tx, htx⟩ : ∃ tx, t.text = tx := ⟨_, rfl⟩
  rw [htn] at hW9 d3
  rw [htx] at hv1 d2 hP dd2 ee2 r1 h4
  obtain ⟨q, hq⟩ : ∃ q, wordP tx = q := ⟨_, rfl⟩
  unfold namedV at hv1
  rw [hq] at hv1 hP r1 h4
  have UN := Lib.hid refWords_any
  obtain ⟨C, hC⟩ : ∃ C, Obj.cells (txcs wL) 9 = C := ⟨_, rfl⟩
  have hTX := TxAt.made W9 wL
  rw [hC] at hTX UN
  have NB := Lib.hid (hP (W9.alloc C).drew (fun i h => hTX i h))
  have y5 : x4.heap[w.heap.size + 1]? = some (.cells #[.int .i64 1, .int .i64 (q : Nat), .int .i64 0, .string ⟨#[]⟩] 30 (0, 0)) := by rw [h4.here]; rfl
  have g0 : x4.cell? ⟨w.heap.size + 1, 0, none⟩ = some (.int .i64 1) := cell_of y5 rfl
  have g1 : x4.cell? ⟨w.heap.size + 1, 1, none⟩ = some (.int .i64 (q : Nat)) := cell_of y5 rfl
  have g2 : x4.cell? ⟨w.heap.size + 1, 2, none⟩ = some (.int .i64 0) := cell_of y5 rfl
  have g3 : x4.cell? ⟨w.heap.size + 1, 3, none⟩ = some (.string ⟨#[]⟩) := cell_of y5 rfl
  have y7 := h4.below w.heap.size w (by omega) j3
  have y6 := (h4.there w.heap.size (by omega)).trans j1
  have tk := t.kind
  generalize t.kind = tk at *
  rcases Nat.eq_zero_or_pos q with hq0 | hq0
  · subst hq0
    rw [if_neg (by omega)] at hv1
    have r1z : x1.setCell ⟨w.heap.size + 1, 1, none⟩ (.int .i64 0) = x2 := r1
    have g1z : x4.cell? ⟨w.heap.size + 1, 1, none⟩ = some (.int .i64 0) := g1
    have NBZ : Hid (Calls Try.prog 10 #[.slice (some ⟨W9.heap.size, 0, none⟩) 31 31, .string ⟨tx.toArray⟩] (W9.alloc C).drew fun e w' => e = .returned (.int .i64 0) ∧ w' = (W9.alloc C).drew) := Lib.hid NB.out
    clear r1 g1
    injection hv1 with e1 e2 e3 e4
    subst e1 e2 e3 e4
    obtain ⟨z1, z2, z3, z4, u0, u1, u2, u3, ⟨pp0, qq0, rr0⟩, ⟨pp1, qq1, rr1⟩, ⟨pp2, qq2, rr2⟩, ⟨pp3, qq3, rr3⟩, h44⟩ := four_store x4 (w.heap.size + 1) 30 _ 0 1 2 3 (.int .i64 6) (.int .i64 0) (.int .i64 0) (.string ⟨tx.toArray⟩) y5 (by simp) (by simp) (by simp) (by simp)
    have y55 : z4.heap[w.heap.size + 1]? = some (.cells #[.int .i64 6, .int .i64 0, .int .i64 0, .string ⟨tx.toArray⟩] 30 (0, 0)) := by rw [h44.here]; rfl
    have YY := Lib.hid (And.intro y55 (And.intro ((h44.there w.heap.size (by omega)).trans y6) (h44.below w.heap.size w (by omega) y7)))
    have hs5 : w.heap.size + 1 < z4.heap.size := by rw [h44.size]; exact hs4
    have hs6 : w.heap.size + 1 < z1.heap.size := by rw [← rr0, setCell_size]; exact hs4
    have hs7 : w.heap.size + 1 < z2.heap.size := by rw [← rr1, setCell_size]; exact hs6
    have hs8 : w.heap.size + 1 < z3.heap.size := by rw [← rr2, setCell_size]; exact hs7
    have g4 : z4.cell? ⟨w.heap.size + 1, 0, none⟩ = some (.int .i64 6) := cell_of y55 rfl
    have g5 : z4.cell? ⟨w.heap.size + 1, 1, none⟩ = some (.int .i64 0) := cell_of y55 rfl
    have g6 : z4.cell? ⟨w.heap.size + 1, 2, none⟩ = some (.int .i64 0) := cell_of y55 rfl
    have g7 : z4.cell? ⟨w.heap.size + 1, 3, none⟩ = some (.string ⟨tx.toArray⟩) := cell_of y55 rfl
    have HW9 := Lib.hid hW9
    clear hW9 k7 k8 k9 k1 hv2 htn htx hq HV HTT hC hTX hP e9 y5 y6 y7 j1 j2 j3 h4 h44 y55
    cases hr : rightV ⟨6, 0, 0, tx⟩ with
    | false =>
      have HR2 : Hid (∀ W : World, Calls Try.prog 16 #[.agg #[.int .i64 (6), .int .i64 (0), .int .i64 (0), .string ⟨tx.toArray⟩]] W fun e w' => e = .returned (.bool false) ∧ Below W.heap.size W w') := Lib.hid fun W => by have := HR9.out W; rw [hr] at this; exact this
      have HZ : Hid (R = (zeroV, 0)) := Lib.hid (by have := HRL.out; rw [hr] at this; exact this)
      clear hr
      go_enter Try.func22, Try.ntmps22
      go_upto_region 4 with (fail)
      rw [HW9.out]
      go_upto_region 20 with (fail)
      go_region_with (first
          | (go_at_call 8; refine (UN.out _).mono ?_; rintro e w2 ⟨rfl, rfl⟩)
          | (go_at_call 10; refine NBZ.out.mono ?_; rintro e w2 ⟨rfl, rfl⟩))
      all_goals
        go_wp2_with fail
        refine (HR2.out _).mono ?_
        rintro e w5 ⟨rfl, hb5⟩
        obtain ⟨k1, k2, k3, k4⟩ := after_drawn hb5 YY.out.1 YY.out.2.1 YY.out.2.2
        obtain ⟨x1, x2, x3, x4, v0, v1, v2, v3, ⟨p0, q0, r0⟩, ⟨p1, q1, r1⟩, ⟨p2, q2, r2⟩, ⟨p3, q3, r3⟩, h4⟩ := four_store w5 w.heap.size 30 _ 0 1 2 3 (.int .i64 0) (.int .i64 0) (.int .i64 0) (.string ⟨#[]⟩) k1 (by decide) (by decide) (by decide) (by decide)
        have f0 := cell_of (k := 0) h4.here rfl
        have f1 := cell_of (k := 1) h4.here rfl
        have f2 := cell_of (k := 2) h4.here rfl
        have f3 := cell_of (k := 3) h4.here rfl
        have HB5 := Lib.hid (h4.below w.heap.size w (Nat.le_refl _) k3)
        clear hb5 k1 k2 k3 h4
        go_wp2_with fail
        refine bodyPost_ret (v := .tuple #[.agg #[.int .i64 0, .int .i64 0, .int .i64 0, .string ⟨#[]⟩], .int .i64 0]) (by simp [results, Try.results22, go_sem, f0, f1, f2, f3]) rfl ⟨?_, HB5.out⟩
        rw [HZ.out]; rfl
    | true =>
      have HR2 : Hid (∀ W : World, Calls Try.prog 16 #[.agg #[.int .i64 (6), .int .i64 (0), .int .i64 (0), .string ⟨tx.toArray⟩]] W fun e w' => e = .returned (.bool true) ∧ Below W.heap.size W w') := Lib.hid fun W => by have := HR9.out W; rw [hr] at this; exact this
      have HZ : Hid (R = (⟨6, 0, 0, tx⟩, 1)) := Lib.hid (by have := HRL.out; rw [hr, hnn] at this; exact this)
      clear hr
      go_enter Try.func22, Try.ntmps22
      go_upto_region 4 with (fail)
      rw [HW9.out]
      go_upto_region 20 with (fail)
      go_region_with (first
          | (go_at_call 8; refine (UN.out _).mono ?_; rintro e w2 ⟨rfl, rfl⟩)
          | (go_at_call 10; refine NBZ.out.mono ?_; rintro e w2 ⟨rfl, rfl⟩))
      all_goals
        go_wp2_with fail
        refine (HR2.out _).mono ?_
        rintro e w5 ⟨rfl, hb5⟩
        obtain ⟨k1, k2, k3, k4⟩ := after_drawn hb5 YY.out.1 YY.out.2.1 YY.out.2.2
        have e1 : w5.cell? ⟨w.heap.size + 1, 0, none⟩ = some (.int .i64 (6)) := cell_of k2 rfl
        have e2 : w5.cell? ⟨w.heap.size + 1, 1, none⟩ = some (.int .i64 (0)) := cell_of k2 rfl
        have e3 : w5.cell? ⟨w.heap.size + 1, 2, none⟩ = some (.int .i64 (0)) := cell_of k2 rfl
        have e4 : w5.cell? ⟨w.heap.size + 1, 3, none⟩ = some (.string ⟨tx.toArray⟩) := cell_of k2 rfl
        obtain ⟨x1, x2, x3, x4, v0, v1, v2, v3, ⟨p0, q0, r0⟩, ⟨p1, q1, r1⟩, ⟨p2, q2, r2⟩, ⟨p3, q3, r3⟩, h4⟩ := four_store w5 w.heap.size 30 _ 0 1 2 3 (.int .i64 (6)) (.int .i64 (0)) (.int .i64 (0)) (.string ⟨tx.toArray⟩) k1 (by decide) (by decide) (by decide) (by decide)
        have f0 : x4.cell? ⟨w.heap.size, 0, none⟩ = some (.int .i64 (6)) := cell_of h4.here rfl
        have f1 : x4.cell? ⟨w.heap.size, 1, none⟩ = some (.int .i64 (0)) := cell_of h4.here rfl
        have f2 : x4.cell? ⟨w.heap.size, 2, none⟩ = some (.int .i64 (0)) := cell_of h4.here rfl
        have f3 : x4.cell? ⟨w.heap.size, 3, none⟩ = some (.string ⟨tx.toArray⟩) := cell_of h4.here rfl
        have HB5 := Lib.hid (h4.below w.heap.size w (Nat.le_refl _) k3)
        clear hb5 k1 k2 k3 h4
        go_wp2_with fail
        refine bodyPost_ret (v := .tuple #[.agg #[.int .i64 (6), .int .i64 (0), .int .i64 (0), .string ⟨tx.toArray⟩], .int .i64 ((1 : Nat) : Int)]) (by simp [results, Try.results22, go_sem, f0, f1, f2, f3]) rfl ⟨?_, HB5.out⟩
        rw [HZ.out]; rfl
  · rw [if_pos hq0] at hv1
    injection hv1 with e1 e2 e3 e4
    subst e1 e2 e3 e4
    have hqz : ((q : Int) == 0) = false := by rw [beq_eq_false_iff_ne]; omega
    have YY := Lib.hid (And.intro y5 (And.intro y6 y7))
    have HW9 := Lib.hid hW9
    clear hW9 k7 k8 k9 k1 hv2 htn htx hq HV HTT hC hTX hP e9 y5 y6 y7 j1 j2 j3 h4
    cases hr : rightV ⟨1, (q : Nat), 0, []⟩ with
    | false =>
      have HR2 : Hid (∀ W : World, Calls Try.prog 16 #[.agg #[.int .i64 (1), .int .i64 ((q : Nat)), .int .i64 (0), .string ⟨#[]⟩]] W fun e w' => e = .returned (.bool false) ∧ Below W.heap.size W w') := Lib.hid fun W => by have := HR9.out W; rw [hr] at this; exact this
      have HZ : Hid (R = (zeroV, 0)) := Lib.hid (by have := HRL.out; rw [hr] at this; exact this)
      clear hr
      go_enter Try.func22, Try.ntmps22
      go_upto_region 4 with (fail)
      rw [HW9.out]
      go_upto_region 20 with (fail)
      go_region_with (first
          | (go_at_call 8; refine (UN.out _).mono ?_; rintro e w2 ⟨rfl, rfl⟩)
          | (go_at_call 10; refine NB.out.mono ?_; rintro e w2 ⟨rfl, rfl⟩))
      all_goals
        go_wp2_with fail
        refine (HR2.out _).mono ?_
        rintro e w5 ⟨rfl, hb5⟩
        obtain ⟨k1, k2, k3, k4⟩ := after_drawn hb5 YY.out.1 YY.out.2.1 YY.out.2.2
        obtain ⟨x1, x2, x3, x4, v0, v1, v2, v3, ⟨p0, q0, r0⟩, ⟨p1, q1, r1⟩, ⟨p2, q2, r2⟩, ⟨p3, q3, r3⟩, h4⟩ := four_store w5 w.heap.size 30 _ 0 1 2 3 (.int .i64 0) (.int .i64 0) (.int .i64 0) (.string ⟨#[]⟩) k1 (by decide) (by decide) (by decide) (by decide)
        have f0 := cell_of (k := 0) h4.here rfl
        have f1 := cell_of (k := 1) h4.here rfl
        have f2 := cell_of (k := 2) h4.here rfl
        have f3 := cell_of (k := 3) h4.here rfl
        have HB5 := Lib.hid (h4.below w.heap.size w (Nat.le_refl _) k3)
        clear hb5 k1 k2 k3 h4
        go_wp2_with fail
        refine bodyPost_ret (v := .tuple #[.agg #[.int .i64 0, .int .i64 0, .int .i64 0, .string ⟨#[]⟩], .int .i64 0]) (by simp [results, Try.results22, go_sem, f0, f1, f2, f3]) rfl ⟨?_, HB5.out⟩
        rw [HZ.out]; rfl
    | true =>
      have HR2 : Hid (∀ W : World, Calls Try.prog 16 #[.agg #[.int .i64 (1), .int .i64 ((q : Nat)), .int .i64 (0), .string ⟨#[]⟩]] W fun e w' => e = .returned (.bool true) ∧ Below W.heap.size W w') := Lib.hid fun W => by have := HR9.out W; rw [hr] at this; exact this
      have HZ : Hid (R = (⟨1, (q : Nat), 0, []⟩, 1)) := Lib.hid (by have := HRL.out; rw [hr, hnn] at this; exact this)
      clear hr
      go_enter Try.func22, Try.ntmps22
      go_upto_region 4 with (fail)
      rw [HW9.out]
      go_upto_region 20 with (fail)
      go_region_with (first
          | (go_at_call 8; refine (UN.out _).mono ?_; rintro e w2 ⟨rfl, rfl⟩)
          | (go_at_call 10; refine NB.out.mono ?_; rintro e w2 ⟨rfl, rfl⟩))
      all_goals
        go_wp2_with fail
        refine (HR2.out _).mono ?_
        rintro e w5 ⟨rfl, hb5⟩
        obtain ⟨k1, k2, k3, k4⟩ := after_drawn hb5 YY.out.1 YY.out.2.1 YY.out.2.2
        have e1 : w5.cell? ⟨w.heap.size + 1, 0, none⟩ = some (.int .i64 (1)) := cell_of k2 rfl
        have e2 : w5.cell? ⟨w.heap.size + 1, 1, none⟩ = some (.int .i64 ((q : Nat))) := cell_of k2 rfl
        have e3 : w5.cell? ⟨w.heap.size + 1, 2, none⟩ = some (.int .i64 (0)) := cell_of k2 rfl
        have e4 : w5.cell? ⟨w.heap.size + 1, 3, none⟩ = some (.string ⟨#[]⟩) := cell_of k2 rfl
        obtain ⟨x1, x2, x3, x4, v0, v1, v2, v3, ⟨p0, q0, r0⟩, ⟨p1, q1, r1⟩, ⟨p2, q2, r2⟩, ⟨p3, q3, r3⟩, h4⟩ := four_store w5 w.heap.size 30 _ 0 1 2 3 (.int .i64 (1)) (.int .i64 ((q : Nat))) (.int .i64 (0)) (.string ⟨#[]⟩) k1 (by decide) (by decide) (by decide) (by decide)
        have f0 : x4.cell? ⟨w.heap.size, 0, none⟩ = some (.int .i64 (1)) := cell_of h4.here rfl
        have f1 : x4.cell? ⟨w.heap.size, 1, none⟩ = some (.int .i64 ((q : Nat))) := cell_of h4.here rfl
        have f2 : x4.cell? ⟨w.heap.size, 2, none⟩ = some (.int .i64 (0)) := cell_of h4.here rfl
        have f3 : x4.cell? ⟨w.heap.size, 3, none⟩ = some (.string ⟨#[]⟩) := cell_of h4.here rfl
        have HB5 := Lib.hid (h4.below w.heap.size w (Nat.le_refl _) k3)
        clear hb5 k1 k2 k3 h4
        go_wp2_with fail
        refine bodyPost_ret (v := .tuple #[.agg #[.int .i64 (1), .int .i64 ((q : Nat)), .int .i64 (0), .string ⟨#[]⟩], .int .i64 ((1 : Nat) : Int)]) (by simp [results, Try.results22, go_sem, f0, f1, f2, f3]) rfl ⟨?_, HB5.out⟩
        rw [HZ.out]; rfl
end Go.Proofs.Ytppnpdjbmhbimaa
