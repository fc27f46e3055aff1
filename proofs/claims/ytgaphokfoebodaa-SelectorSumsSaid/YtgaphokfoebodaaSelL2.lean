/- Layer 7: SelectorSums: the walk. -/
import Derived.Test.YtgaphokfoebodaaSelKa
import Derived.Deep.RegionHeld3
namespace Go.Proofs.Ytgaphokfoebodaa
open Go.RowKit TreN LexP FixP SynP ValP SelP FixM
set_option linter.unusedVariables false

/-- a box of three numbers in an old block -/
def BoxAt (w : World) (S : Nat) (x y z : Int) : Prop := w.heap[S]? = some (.cells #[.int .i64 x, .int .i64 y, .int .i64 z] 40 (0, 0))
theorem below_al {w w' : World} (h : Below w.heap.size w w') (ob : Obj) : Below w.heap.size w (w'.alloc ob) := h.alloc h.size _
theorem below_set3 {w w' : World} {S : Nat} (h : Below w.heap.size w w') (hS : w.heap.size ≤ S) (x y z : Value) : Below w.heap.size w (((w'.setCell ⟨S, 0, none⟩ x).setCell ⟨S, 1, none⟩ y).setCell ⟨S, 2, none⟩ z) :=
  ((h.setCell (p := ⟨S, 0, none⟩) hS _).setCell (p := ⟨S, 1, none⟩) hS _).setCell (p := ⟨S, 2, none⟩) hS _
theorem BoxAt.al {w : World} {S : Nat} {x y z : Int} (h : BoxAt w S x y z) (ob : Obj) : BoxAt (w.alloc ob) S x y z := ((below_one7 w ob).block S (Array.getElem?_eq_some_iff.1 h).1).trans h
theorem BoxAt.set {w : World} {S : Nat} {x y z : Int} (h : BoxAt w S x y z) (a b c : Int) : BoxAt (((w.setCell ⟨S, 0, none⟩ (.int .i64 a)).setCell ⟨S, 1, none⟩ (.int .i64 b)).setCell ⟨S, 2, none⟩ (.int .i64 c)) S a b c :=
  setCell_here (k := 2) (.int .i64 c) (setCell_here (k := 1) (.int .i64 b) (setCell_here (k := 0) (.int .i64 a) h))
theorem BoxAt.other {w : World} {S Z : Nat} {x y z : Int} (h : BoxAt w S x y z) (hne : S ≠ Z) (a b c : Value) : BoxAt (((w.setCell ⟨Z, 0, none⟩ a).setCell ⟨Z, 1, none⟩ b).setCell ⟨Z, 2, none⟩ c) S x y z := by
  unfold BoxAt
  rw [setCell_there _ hne, setCell_there _ hne, setCell_there _ hne]; exact h
/-- what a store of three numbers wants to know -/
theorem BoxAt.ready {w : World} {S : Nat} {x y z : Int} (h : BoxAt w S x y z) (a b : Int) :
    w.cell? ⟨S, 0, none⟩ = some (.int .i64 x) ∧ w.frozen? ⟨S, 0, none⟩ = false ∧ (w.setCell ⟨S, 0, none⟩ (.int .i64 a)).cell? ⟨S, 1, none⟩ = some (.int .i64 y) ∧ (w.setCell ⟨S, 0, none⟩ (.int .i64 a)).frozen? ⟨S, 1, none⟩ = false ∧ ((w.setCell ⟨S, 0, none⟩ (.int .i64 a)).setCell ⟨S, 1, none⟩ (.int .i64 b)).cell? ⟨S, 2, none⟩ = some (.int .i64 z) ∧ ((w.setCell ⟨S, 0, none⟩ (.int .i64 a)).setCell ⟨S, 1, none⟩ (.int .i64 b)).frozen? ⟨S, 2, none⟩ = false := by
  have h1 : (w.setCell ⟨S, 0, none⟩ (.int .i64 a)).heap[S]? = some (.cells #[.int .i64 a, .int .i64 y, .int .i64 z] 40 (0, 0)) := setCell_here (k := 0) (.int .i64 a) h
  have h2 : ((w.setCell ⟨S, 0, none⟩ (.int .i64 a)).setCell ⟨S, 1, none⟩ (.int .i64 b)).heap[S]? = some (.cells #[.int .i64 a, .int .i64 b, .int .i64 z] 40 (0, 0)) := setCell_here (k := 1) (.int .i64 b) h1
  exact ⟨cell_of h rfl, unfrozen_of h, cell_of h1 rfl, unfrozen_of h1, cell_of h2 rfl, unfrozen_of h2⟩
theorem BoxAt.old {w : World} {S : Nat} {x y z : Int} (h : BoxAt w S x y z) : S ≠ w.heap.size := Nat.ne_of_lt (Array.getElem?_eq_some_iff.1 h).1
theorem blk_box {W w : World} {S : Nat} {x y z : Int} (hb : Below W.heap.size W w) (h : BoxAt W S x y z) : BoxAt w S x y z := blk_keepS hb h
theorem box_made (X : World) (x y z : Int) : BoxAt (X.alloc (.cells #[.int .i64 x, .int .i64 y, .int .i64 z] 40)) X.heap.size x y z := heap_alloc_new X _
theorem box_one {X w : World} {x y z : Int} (hb : Below (X.alloc (.cells #[.int .i64 x, .int .i64 y, .int .i64 z] 40)).heap.size (X.alloc (.cells #[.int .i64 x, .int .i64 y, .int .i64 z] 40)) w) : BoxAt w X.heap.size x y z := blk_box hb (box_made X x y z)
theorem box_two {X w : World} {x y z x' y' z' : Int} (hb : Below ((X.alloc (.cells #[.int .i64 x, .int .i64 y, .int .i64 z] 40)).alloc (.cells #[.int .i64 x', .int .i64 y', .int .i64 z'] 40)).heap.size ((X.alloc (.cells #[.int .i64 x, .int .i64 y, .int .i64 z] 40)).alloc (.cells #[.int .i64 x', .int .i64 y', .int .i64 z'] 40)) w) : BoxAt w X.heap.size x y z ∧ BoxAt w (X.heap.size + 1) x' y' z' := by
  refine ⟨blk_box hb ((box_made X x y z).al _), ?_⟩
  have h := blk_box hb (box_made (X.alloc (.cells #[.int .i64 x, .int .i64 y, .int .i64 z] 40)) x' y' z')
  rwa [show (X.alloc (.cells #[.int .i64 x, .int .i64 y, .int .i64 z] 40)).heap.size = X.heap.size + 1 by simp] at h

theorem box_one_d {X w : World} {x y z : Int} (hb : Below (X.alloc (.cells #[.int .i64 x, .int .i64 y, .int .i64 z] 40)).drew.heap.size (X.alloc (.cells #[.int .i64 x, .int .i64 y, .int .i64 z] 40)).drew w) : BoxAt w X.heap.size x y z := box_one (X := X) ((Below.drew (Below.refl _ _)).trans hb)
theorem box_two_d {X w : World} {x y z x' y' z' : Int} (hb : Below ((X.alloc (.cells #[.int .i64 x, .int .i64 y, .int .i64 z] 40)).alloc (.cells #[.int .i64 x', .int .i64 y', .int .i64 z'] 40)).drew.heap.size ((X.alloc (.cells #[.int .i64 x, .int .i64 y, .int .i64 z] 40)).alloc (.cells #[.int .i64 x', .int .i64 y', .int .i64 z'] 40)).drew w) : BoxAt w X.heap.size x y z ∧ BoxAt w (X.heap.size + 1) x' y' z' := box_two (X := X) ((Below.drew (Below.refl _ _)).trans hb)
theorem box_made2 (X : World) (o : Obj) (x y z : Int) : BoxAt ((X.alloc o).alloc (.cells #[.int .i64 x, .int .i64 y, .int .i64 z] 40)) (X.heap.size + 1) x y z := by
  have h := box_made (X.alloc o) x y z
  rwa [show (X.alloc o).heap.size = X.heap.size + 1 by simp] at h

set_option maxRecDepth 100000 in
set_option maxHeartbeats 32000000 in
theorem SelectorSums_walk (ps : List PtV) (a : Option Addr) (c : Nat) (k : Int) (w : World) (hok : SelOk w ⟨ps, a, c⟩) : Calls Try.prog 5 #[.agg #[.slice a ps.length c], .int .i64 k] w fun e w' => e = .returned (.bool true) ∧ Below w.heap.size w w' := by
  obtain ⟨hl, hc, hp⟩ := hok
  simp only at hl hc hp
  obtain ⟨n, hn⟩ : ∃ n, ps.length = n := ⟨_, rfl⟩
  rw [hn] at hl ⊢
  have KN := Lib.hid (fun (W : World) (hW : Below w.heap.size w W) => (known7_any W).mono (R' := fun e w' => e = .returned (.bool true) ∧ Below w.heap.size w w') fun e w' h => ⟨h.1, hW.trans (h.2.mono hW.size)⟩)
  have hb1 : Below w.heap.size w (w.alloc (.cells #[.slice a n c] 39)) := (Below.refl _ _).alloc (Nat.le_refl _) _
  have hx1 := heap_alloc_new w (.cells #[.slice a n c] 39)
  have hp1 := hp.below hb1
  have HN := Lib.hid hn
  have HL := Lib.hid (And.intro hl hc)
  have hnm : n ≤ maxLen := Nat.le_trans hl hc
  clear hn hp
  by_cases hk : 0 ≤ k ∧ k ≤ (n : Int)
  · obtain ⟨j, hj⟩ : ∃ j : Nat, k = (j : Int) := ⟨k.toNat, by omega⟩
    subst hj
    have hjn : j ≤ n := by omega
    have hz0 : ¬ (j : Int) < 0 := by omega
    have hz1 : ¬ (n : Int) < (j : Int) := by omega
    obtain ⟨a2, s2, q2⟩ := psl_to a ps c n j HN.out (j : Int) rfl hjn hl hc
    obtain ⟨a3, s3, q3⟩ := psl_from a ps c n j HN.out (j : Int) rfl hjn hl hc
    obtain ⟨P, hP⟩ : ∃ P, ps.map PtV.p = P := ⟨_, rfl⟩
    obtain ⟨⟨x1, x2, x3⟩, hxx⟩ : ∃ x, wI (wS (P.take j)) = x := ⟨_, rfl⟩
    obtain ⟨⟨y1, y2, y3⟩, hyy⟩ : ∃ x, wI (wS (P.drop j)) = x := ⟨_, rfl⟩
    obtain ⟨⟨t1, t2, t3⟩, htt⟩ : ∃ x, wI (wS P) = x := ⟨_, rfl⟩
    have hsum := wI_two (wS (P.take j)) (wS (P.drop j))
    rw [← wS_cut, hxx, hyy, htt] at hsum
    have E1 := Lib.hid hsum
    have e1 : IntKind.i64.wrap (x1 + y1) = t1 := (congrArg (fun q : Int × Int × Int => q.1) E1.out).symm
    have e2 : IntKind.i64.wrap (x2 + y2) = t2 := (congrArg (fun q : Int × Int × Int => q.2.1) E1.out).symm
    have e3 : IntKind.i64.wrap (x3 + y3) = t3 := (congrArg (fun q : Int × Int × Int => q.2.2) E1.out).symm
    clear hsum
    have CA : Hid (∀ W : World, Pts W a ps → Calls Try.prog 16 #[.agg #[.slice a2 j c]] W fun e w' => e = .returned (.agg #[.int .i64 x1, .int .i64 x2, .int .i64 x3]) ∧ Below W.heap.size W w') := Lib.hid fun W hW => weight_said (ps.take j) a2 j c (P.take j) x1 x2 x3 W (by rw [List.length_take, HN.out]; omega) (by rw [← hP, List.map_take]) hxx (by omega) hc (q2 W hW)
    have CB : Hid (∀ W : World, Pts W a ps → Calls Try.prog 16 #[.agg #[.slice a3 (n - j) (c - j)]] W fun e w' => e = .returned (.agg #[.int .i64 y1, .int .i64 y2, .int .i64 y3]) ∧ Below W.heap.size W w') := Lib.hid fun W hW => weight_said (ps.drop j) a3 (n - j) (c - j) (P.drop j) y1 y2 y3 W (by rw [List.length_drop, HN.out]) (by rw [← hP, List.map_drop]) hyy (by omega) (by unfold maxLen at hc ⊢; omega) (q3 W hW)
    have CC : Hid (∀ W : World, Pts W a ps → Calls Try.prog 16 #[.agg #[.slice a n c]] W fun e w' => e = .returned (.agg #[.int .i64 t1, .int .i64 t2, .int .i64 t3]) ∧ Below W.heap.size W w') := Lib.hid fun W hW => weight_said ps a n c P t1 t2 t3 W HN.out hP htt hl hc hW
    clear hP hxx hyy htt q2 q3 hk
    unfold maxLen at hnm
    go_enter Try.func5, Try.ntmps5
    go_upto_region 3 with fail
    obtain ⟨B, hB⟩ : ∃ B, w.heap.size = B := ⟨_, rfl⟩
    rw [hB] at hb1 hx1
    have c1 : (w.alloc (.cells #[.slice a n c] 39)).drew.cell? ⟨B, 0, none⟩ = some (.slice a n c) := cell_of (w := w.alloc _) hx1 rfl
    simp only [hB] at KN ⊢
    have HB := Lib.hid hB
    clear hB
    have hBl : B < (w.alloc (.cells #[.slice a n c] 39)).drew.heap.size := (Array.getElem?_eq_some_iff.1 hx1).1
    generalize w.alloc (.cells #[.slice a n c] 39) = W1 at *
    have HX1 := Lib.hid hx1
    have HB1 := Lib.hid hb1
    have HP1 := Lib.hid hp1
    have HBW := Lib.hid (Below.drew (Below.refl W1.heap.size W1))
    have hc2 : ∀ W2, Below W1.heap.size W1 W2 → W2.cell? ⟨B, 0, none⟩ = some (.slice a n c) := fun W2 h => (h.cell (p := ⟨B, 0, none⟩) hBl).trans c1
    have HC2 := Lib.hid hc2
    clear hb1 hp1 hx1 hl hc hc2
    have c1a : ∀ ob, (W1.drew.alloc ob).cell? ⟨B, 0, none⟩ = some (.slice a n c) := fun ob => HC2.out _ (HBW.out.alloc HBW.out.size ob)
    have CA2 : Hid (∀ W : World, Below W1.heap.size W1 W → Calls Try.prog 16 #[.agg #[.slice a2 j c]] W fun e w' => e = .returned (.agg #[.int .i64 x1, .int .i64 x2, .int .i64 x3]) ∧ Below W1.heap.size W1 w' ∧ Below W.heap.size W w') := Lib.hid fun W hW => (CA.out W (HP1.out.below hW)).mono fun e w' h => ⟨h.1, hW.trans (h.2.mono hW.size), h.2⟩
    have CB2 : Hid (∀ W : World, Below W1.heap.size W1 W → Calls Try.prog 16 #[.agg #[.slice a3 (n - j) (c - j)]] W fun e w' => e = .returned (.agg #[.int .i64 y1, .int .i64 y2, .int .i64 y3]) ∧ Below W1.heap.size W1 w' ∧ Below W.heap.size W w') := Lib.hid fun W hW => (CB.out W (HP1.out.below hW)).mono fun e w' h => ⟨h.1, hW.trans (h.2.mono hW.size), h.2⟩
    go_cut [5, 6] (fun v5 v6 wc => ∃ S5 S6 : Nat, v5 = .pointer (some ⟨S5, 0, none⟩) ∧ v6 = .pointer (some ⟨S6, 0, none⟩) ∧ Hid (BoxAt wc S5 x1 x2 x3 ∧ BoxAt wc S6 y1 y2 y3 ∧ Below W1.heap.size W1 wc))
    case first =>
      have hS1 : Below W1.heap.size W1 W1.drew := HBW.out
      have hS0 : Below W1.heap.size W1 W1 := Below.refl _ _
      have HKS : Hid (∀ W2, Below W1.heap.size W1 W2 → Below W1.heap.size W1 W2 ∧ W2.cell? ⟨B, 0, none⟩ = some (.slice a n c)) := Lib.hid fun W2 h => ⟨h, HC2.out _ h⟩
      go_region_held3 (fun w' => Below W1.heap.size W1 w' ∧ w'.cell? ⟨B, 0, none⟩ = some (.slice a n c))
        (((try go_split_ands); refine HKS.out _ ?_; with_reducible first
          | assumption
          | (apply below_set3; assumption; first | (apply Below.size; assumption) | exact Nat.le_refl _ | exact Nat.le_succ _ | (apply Nat.le_succ_of_le; apply Below.size; assumption))
          | (apply below_al; assumption)
          | (apply below_al; apply below_al; assumption)
          | (apply Below.drew; apply below_al; assumption)
          | (apply Below.drew; apply below_al; apply below_al; assumption)))
        ((first
          | (go_at_call_of 16 a2; (try go_split_ands); refine (CA2.out _ (by with_reducible assumption)).mono ?_; rintro e w4 ⟨rfl, hw4, hb4⟩; have d0 := HC2.out _ hw4; (first | (with_reducible (have z12 := box_two_d hb4); obtain ⟨z1, z2⟩ := z12; have z2 : BoxAt w4 (W1.heap.size + 1) 0 0 0 := z2; have z1 : BoxAt w4 W1.heap.size 0 0 0 := z1; have ne12 := Nat.ne_of_lt (Nat.lt_succ_self W1.heap.size)) | (with_reducible (have z1 := box_one_d hb4); have z1 : BoxAt w4 W1.heap.size 0 0 0 := z1) | skip); clear hb4)
          | (go_at_call_of 16 a3; (try go_split_ands); refine (CB2.out _ (by with_reducible assumption)).mono ?_; rintro e w5 ⟨rfl, hw5, hb5⟩; have d0 := HC2.out _ hw5; (first | (with_reducible (have v1 := blk_box hb5 z1; have v2 := blk_box hb5 z2); have r1 := v1.ready x1 x2; have r2 := v2.ready x1 x2; have g1 := (v2.other (ne12).symm (.int .i64 x1) (.int .i64 x2) (.int .i64 x3)).ready y1 y2; have g2 := (v1.other (ne12) (.int .i64 x1) (.int .i64 x2) (.int .i64 x3)).ready y1 y2) | (with_reducible (have v1 := blk_box hb5 z1); have ro := v1.old; have r1 := v1.ready x1 x2; have r1a := fun ob => (v1.al ob).ready x1 x2; have q1a := fun ob => (v1.al ob).ready y1 y2; have h1 := (BoxAt.other (box_made w5 0 0 0) ro.symm (.int .i64 x1) (.int .i64 x2) (.int .i64 x3)).ready y1 y2) | (with_reducible (have v1 := blk_box hb5 (z1.al _); have v2 := box_one hb5); have ne34 := z1.old; have r1 := v1.ready x1 x2; have r2 := v2.ready x1 x2; have g1 := (v2.other (ne34).symm (.int .i64 x1) (.int .i64 x2) (.int .i64 x3)).ready y1 y2; have g2 := (v1.other (ne34) (.int .i64 x1) (.int .i64 x2) (.int .i64 x3)).ready y1 y2) | (with_reducible (have v12 := box_two hb5); obtain ⟨v1, v2⟩ := v12; have ne34 := Nat.ne_of_lt (Nat.lt_succ_self w4.heap.size); have r1 := v1.ready x1 x2; have r2 := v2.ready x1 x2; have g1 := (v2.other (ne34).symm (.int .i64 x1) (.int .i64 x2) (.int .i64 x3)).ready y1 y2; have g2 := (v1.other (ne34) (.int .i64 x1) (.int .i64 x2) (.int .i64 x3)).ready y1 y2) | (with_reducible (have v1 := box_one hb5); have ro := v1.old; have r1 := v1.ready x1 x2; have r1a := fun ob => (v1.al ob).ready x1 x2; have q1a := fun ob => (v1.al ob).ready y1 y2; have h1 := (BoxAt.other (box_made w5 0 0 0) ro.symm (.int .i64 x1) (.int .i64 x2) (.int .i64 x3)).ready y1 y2) | (skip)); clear hb5)))
      all_goals
        go_wp2_with fail
        go_meet
        (try go_split_ands)
        refine ⟨_, _, rfl, rfl, Lib.hid ⟨?_, ?_, ?_⟩⟩
        · with_reducible (first | (first | exact v1 | exact v2 | apply box_made | (apply BoxAt.al; exact v1) | (apply BoxAt.al; apply box_made) | apply box_made2) | (apply BoxAt.set; (first | (first | exact v1 | exact v2 | apply box_made | (apply BoxAt.al; exact v1) | (apply BoxAt.al; apply box_made) | apply box_made2) | (apply BoxAt.other; (first | exact v1 | exact v2 | apply box_made | (apply BoxAt.al; exact v1) | (apply BoxAt.al; apply box_made) | apply box_made2); (first | assumption | (apply Ne.symm; assumption))))) | (apply BoxAt.other; (first | (first | exact v1 | exact v2 | apply box_made | (apply BoxAt.al; exact v1) | (apply BoxAt.al; apply box_made) | apply box_made2) | (apply BoxAt.set; (first | exact v1 | exact v2 | apply box_made | (apply BoxAt.al; exact v1) | (apply BoxAt.al; apply box_made) | apply box_made2))); (first | assumption | (apply Ne.symm; assumption))))
        · with_reducible (first | (first | exact v1 | exact v2 | apply box_made | (apply BoxAt.al; exact v1) | (apply BoxAt.al; apply box_made) | apply box_made2) | (apply BoxAt.set; (first | (first | exact v1 | exact v2 | apply box_made | (apply BoxAt.al; exact v1) | (apply BoxAt.al; apply box_made) | apply box_made2) | (apply BoxAt.other; (first | exact v1 | exact v2 | apply box_made | (apply BoxAt.al; exact v1) | (apply BoxAt.al; apply box_made) | apply box_made2); (first | assumption | (apply Ne.symm; assumption))))) | (apply BoxAt.other; (first | (first | exact v1 | exact v2 | apply box_made | (apply BoxAt.al; exact v1) | (apply BoxAt.al; apply box_made) | apply box_made2) | (apply BoxAt.set; (first | exact v1 | exact v2 | apply box_made | (apply BoxAt.al; exact v1) | (apply BoxAt.al; apply box_made) | apply box_made2))); (first | assumption | (apply Ne.symm; assumption))))
        · with_reducible assumption
    case rest =>
      obtain ⟨S5, S6, rfl, rfl, HQ⟩ := hcut
      have HBc : Hid (Below w.heap.size w wc) := Lib.hid (by rw [HB.out]; exact HB1.out.trans (HQ.out.2.2.mono (by rw [← HB.out]; exact HB1.out.size)))
      have hcells : ∀ W2, Below wc.heap.size wc W2 → Below wc.heap.size wc W2 ∧ W2.cell? ⟨B, 0, none⟩ = some (.slice a n c) ∧ W2.cell? ⟨S5, 0, none⟩ = some (.int .i64 x1) ∧ W2.cell? ⟨S5, 1, none⟩ = some (.int .i64 x2) ∧ W2.cell? ⟨S5, 2, none⟩ = some (.int .i64 x3) ∧ W2.cell? ⟨S6, 0, none⟩ = some (.int .i64 y1) ∧ W2.cell? ⟨S6, 1, none⟩ = some (.int .i64 y2) ∧ W2.cell? ⟨S6, 2, none⟩ = some (.int .i64 y3) := by
        intro W2 h2
        have b5 := blk_box h2 HQ.out.1
        have b6 := blk_box h2 HQ.out.2.1
        exact ⟨h2, HC2.out _ (HQ.out.2.2.trans (h2.mono HQ.out.2.2.size)), cell_of b5 rfl, cell_of b5 rfl, cell_of b5 rfl, cell_of b6 rfl, cell_of b6 rfl, cell_of b6 rfl⟩
      have HK4 := Lib.hid hcells
      have CC4 : Hid (∀ W : World, Below wc.heap.size wc W → Calls Try.prog 16 #[.agg #[.slice a n c]] W fun e w' => e = .returned (.agg #[.int .i64 t1, .int .i64 t2, .int .i64 t3]) ∧ Below wc.heap.size wc w') := Lib.hid fun W hW => (CC.out W (HP1.out.below (HQ.out.2.2.trans (hW.mono HQ.out.2.2.size)))).mono fun e w' h => ⟨h.1, hW.trans (h.2.mono hW.size)⟩
      have KN4 : Hid (∀ W : World, Below wc.heap.size wc W → Calls Try.prog 7 #[] W fun e w' => e = .returned (.bool true) ∧ Below wc.heap.size wc w') := Lib.hid fun W hW => (known7_any W).mono fun e w' h => ⟨h.1, hW.trans (h.2.mono hW.size)⟩
      have hS4 : Below wc.heap.size wc wc.drew := Below.drew (Below.refl _ _)
      obtain ⟨k0, k1, k2, k3, k4, k5, k6, k7⟩ := hcells _ hS4
      have ae := arr_self7 t1 t2 t3
      have e1 : IntKind.i64.wrap (x1 + y1) = t1 := (congrArg (fun q : Int × Int × Int => q.1) E1.out).symm
      have e2 : IntKind.i64.wrap (x2 + y2) = t2 := (congrArg (fun q : Int × Int × Int => q.2.1) E1.out).symm
      have e3 : IntKind.i64.wrap (x3 + y3) = t3 := (congrArg (fun q : Int × Int × Int => q.2.2) E1.out).symm
      have f1 : wrap64 (x1 + y1) = t1 := by rw [← wrapEq7]; exact e1
      have f2 : wrap64 (x2 + y2) = t2 := by rw [← wrapEq7]; exact e2
      have f3 : wrap64 (x3 + y3) = t3 := by rw [← wrapEq7]; exact e3
      clear hcells s2 s3
      go_wp2_with fail
      go_region_held3 (fun w' => Below wc.heap.size wc w' ∧ w'.cell? ⟨B, 0, none⟩ = some (.slice a n c) ∧ w'.cell? ⟨S5, 0, none⟩ = some (.int .i64 x1) ∧ w'.cell? ⟨S5, 1, none⟩ = some (.int .i64 x2) ∧ w'.cell? ⟨S5, 2, none⟩ = some (.int .i64 x3) ∧ w'.cell? ⟨S6, 0, none⟩ = some (.int .i64 y1) ∧ w'.cell? ⟨S6, 1, none⟩ = some (.int .i64 y2) ∧ w'.cell? ⟨S6, 2, none⟩ = some (.int .i64 y3))
        (((try go_split_ands); exact HK4.out _ (by with_reducible assumption)))
        ((first
          | (go_at_call 16; (try go_split_ands); refine (CC4.out _ (by with_reducible assumption)).mono ?_; rintro e w6 ⟨rfl, hw6⟩)
          | (go_at_call 7; (try go_split_ands); refine (KN4.out _ (by with_reducible assumption)).mono ?_; rintro e w7 ⟨rfl, hw7⟩; have HW7 := Lib.hid hw7)))
      all_goals
        go_wp2_with fail
        go_ret
        exact ⟨rfl, HBc.out.trans (HW7.out.mono HBc.out.size)⟩
  · have hko : k < 0 ∨ (n : Int) < k := by omega
    have HKB := Lib.hid hb1
    have c1 : (w.alloc (.cells #[.slice a n c] 39)).cell? ⟨w.heap.size, 0, none⟩ = some (.slice a n c) := cell_of hx1 rfl
    have KNO := Lib.hid (KN.out _ HKB.out)
    clear hk hb1 hx1 hp1 hl hc
    unfold maxLen at hnm
    rcases hko with hko | hko
    · go_enter Try.func5, Try.ntmps5
      go_wp2_with fail
      refine KNO.out.mono ?_
      rintro e w2 ⟨rfl, hb2⟩
      have HB2 := Lib.hid hb2
      clear hb2
      go_wp2_with fail
      go_ret
      exact ⟨rfl, HB2.out⟩
    · have hk0 : ¬ k < 0 := by omega
      go_enter Try.func5, Try.ntmps5
      go_wp2_with fail
      refine KNO.out.mono ?_
      rintro e w2 ⟨rfl, hb2⟩
      have HB2 := Lib.hid hb2
      clear hb2
      go_wp2_with fail
      go_ret
      exact ⟨rfl, HB2.out⟩
end Go.Proofs.Ytgaphokfoebodaa
