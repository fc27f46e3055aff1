/- Layer 9: take, takeOver. -/
import Derived.Test.YtppnpdjbmhbimaaValW6
namespace Go.Proofs.Ytppnpdjbmhbimaa
open Go.RowKit TreN LexP FixP SynP ValP FixM
set_option linter.unusedVariables false

theorem below_one9 (w : World) (o : Obj) : Below w.heap.size w (w.alloc o) := (Below.refl _ _).alloc (Nat.le_refl _) _
theorem valV_eq (v : Val) : valV v = .agg #[.int .i64 v.kind, .int .i64 v.n, .int .i64 v.d, .string ⟨v.name.toArray⟩] := rfl
/-- a cursor, what stands behind it told anew -/
theorem Cur.rest {w0 w x : World} {P : Nat} {T : TypeId} {v u : Val} {l : List Tok} {s : Value} (h : Cur w0 w P T (vc v) l) (hs : w.heap[P]? = some (.cells (s :: vc v).toArray T (0, 0))) (hp : Put w x P T (s :: vc u).toArray) : Cur w0 x P T (vc u) l := by
  obtain ⟨a, c, h1, h2, h3, h4⟩ := h.ex
  rw [hs] at h1
  injection h1 with h1; injection h1 with h1 _ _
  have e := congrArg (fun (x : Array Value) => x[0]?) h1
  simp at e
  subst e
  exact ⟨⟨a, c, hp.here, h2, h3, h4⟩, h.base, hp.below _ _ h.base h.bel⟩

set_option maxRecDepth 100000 in
set_option maxHeartbeats 1000000 in
theorem take_yes {w0 w : World} {P f : Nat} {v : Val} {t : Tok} {r : List Tok} {g : Tok → Val} (ef : ∀ args w, (callFunc f args).run Try.prog w = .ok (.enter f args) w) (h : Cur w0 w P 58 (vc v) (t :: r)) (cb : AsCb f g) :
    Calls Try.prog 39 #[.pointer (some ⟨P, 0, none⟩), .int .i64 t.kind, .func (.func f) #[] #[]] w fun e w' => e = .returned (.bool true) ∧ w.grownBy w' (some P) ∧ Cur w0 w' P 58 (vc (g t)) r := by
  have TK := Take_yes h
  have CB := fun W => cb t W
  obtain ⟨k, x, n⟩ := t
  obtain ⟨u, hu⟩ : ∃ u, g ⟨k, x, n⟩ = u := ⟨_, rfl⟩
  rw [hu] at CB ⊢
  obtain ⟨uk, un, ud, ux⟩ := u
  have TK2 : Hid (Calls Try.prog 63 #[.pointer (some ⟨P, 0, none⟩), .int .i64 k] w fun e w' => e = .returned (.tuple #[.agg #[.int .i64 k, .string ⟨x.toArray⟩, .int .i64 n], .bool true]) ∧ w.grownBy w' (some P) ∧ Cur w0 w' P 58 (vc v) r) := Lib.hid TK
  have CB2 : Hid (∀ W : World, Calls Try.prog f #[.agg #[.int .i64 k, .string ⟨x.toArray⟩, .int .i64 n]] W fun e w' => e = .returned (.agg #[.int .i64 uk, .int .i64 un, .int .i64 ud, .string ⟨ux.toArray⟩]) ∧ Below W.heap.size W w') := Lib.hid fun W => CB W
  show Calls _ _ #[_, .int .i64 k, _] _ _
  clear TK CB hu h cb
  go_enter Try.func39, Try.ntmps39
  go_wp2_with fail
  refine TK2.out.mono ?_
  rintro e w1 ⟨rfl, hg1, hc1⟩
  have HG1 := Lib.hid hg1
  have HC1 := Lib.hid hc1
  clear hg1 hc1
  go_wp2_with fail
  refine (CB2.out _).mono ?_
  rintro e w2 ⟨rfl, hb2⟩
  have hC2 : Cur w0 w2 P 58 (vc v) r := (HC1.out.keep ((Below.refl _ _).alloc (Nat.le_refl _) _)).keep hb2
  have hG2 : w.grownBy w2 (some P) := grownBy_trans HG1.out (grownBy_below (some P) ((below_one9 w1 _).trans (hb2.mono (by simp))))
  obtain ⟨a, c, hP, _⟩ := hC2.ex
  obtain ⟨x1, x2, x3, x4, v0, v1, v2, v3, ⟨p0, q0, r0⟩, ⟨p1, q1, r1⟩, ⟨p2, q2, r2⟩, ⟨p3, q3, r3⟩, h4⟩ := four_store w2 P 58 _ 1 2 3 4 (.int .i64 uk) (.int .i64 un) (.int .i64 ud) (.string ⟨ux.toArray⟩) hP (by simp [vc]) (by simp [vc]) (by simp [vc]) (by simp [vc])
  have HC := Lib.hid (hC2.rest (u := ⟨uk, un, ud, ux⟩) hP h4)
  have HG := Lib.hid (grownBy_trans hG2 h4.grown)
  clear hb2 hC2 hG2 hP h4
  go_wp2_with fail
  go_ret
  exact ⟨rfl, HG.out, HC.out⟩
set_option maxRecDepth 100000 in
set_option maxHeartbeats 1000000 in
theorem take_no {w0 w : World} {P : Nat} {T : TypeId} {rest : List Value} {l : List Tok} (k : Int) (fv : Value) (h : Cur w0 w P T rest l) (hk : takeP k l = none) :
    Calls Try.prog 39 #[.pointer (some ⟨P, 0, none⟩), .int .i64 k, fv] w fun e w' => e = .returned (.bool false) ∧ Below w.heap.size w w' := by
  have TK2 : Hid (Calls Try.prog 63 #[.pointer (some ⟨P, 0, none⟩), .int .i64 k] w fun e w' => e = .returned (.tuple #[.agg #[.int .i64 0, .string ⟨#[]⟩, .int .i64 0], .bool false]) ∧ Below w.heap.size w w') := Lib.hid (Take_no k h hk)
  clear h hk
  go_enter Try.func39, Try.ntmps39
  go_wp2_with fail
  refine TK2.out.mono ?_
  rintro e w1 ⟨rfl, hb1⟩
  have HB1 := Lib.hid hb1
  clear hb1
  go_wp2_with fail
  go_ret
  exact ⟨rfl, HB1.out.alloc HB1.out.size _⟩

set_option maxRecDepth 100000 in
set_option maxHeartbeats 1000000 in
theorem takeOver_no {w0 w : World} {P : Nat} {T : TypeId} {rest : List Value} {l : List Tok} (h : Cur w0 w P T rest l) (hk : overP l = none) :
    Calls Try.prog 41 #[.pointer (some ⟨P, 0, none⟩)] w fun e w' => e = .returned (.tuple #[]) ∧ Below w.heap.size w w' := by
  have TK2 : Hid (Calls Try.prog 64 #[.pointer (some ⟨P, 0, none⟩)] w fun e w' => e = .returned (.tuple #[.agg #[.int .i64 0, .string ⟨#[]⟩, .int .i64 0], .bool false]) ∧ Below w.heap.size w w') := Lib.hid (Over_no h hk)
  clear h hk
  go_enter Try.func41, Try.ntmps41
  go_wp2_with fail
  refine TK2.out.mono ?_
  rintro e w1 ⟨rfl, hb1⟩
  have HB1 := Lib.hid hb1
  clear hb1
  go_wp2_with fail
  go_end0
  exact ⟨rfl, HB1.out.alloc HB1.out.size _⟩
set_option maxRecDepth 100000 in
set_option maxHeartbeats 1000000 in
theorem takeOver_yes {w0 w : World} {P : Nat} {v : Val} {l r : List Tok} {t : Tok} (h : Cur w0 w P 58 (vc v) l) (ho : overP l = some (t, r)) :
    Calls Try.prog 41 #[.pointer (some ⟨P, 0, none⟩)] w fun e w' => e = .returned (.tuple #[]) ∧ w.grownBy w' (some P) ∧ Cur w0 w' P 58 (vc ⟨5, v.n, t.n, v.name⟩) r := by
  have TK := Over_yes h ho
  obtain ⟨k, x, n⟩ := t
  have TK2 : Hid (Calls Try.prog 64 #[.pointer (some ⟨P, 0, none⟩)] w fun e w' => e = .returned (.tuple #[.agg #[.int .i64 k, .string ⟨x.toArray⟩, .int .i64 n], .bool true]) ∧ w.grownBy w' (some P) ∧ Cur w0 w' P 58 (vc v) r) := Lib.hid TK
  clear TK h ho
  go_enter Try.func41, Try.ntmps41
  go_wp2_with fail
  refine TK2.out.mono ?_
  rintro e w1 ⟨rfl, hg1, hc1⟩
  have HG1 := Lib.hid hg1
  have HC1 := Lib.hid hc1
  obtain ⟨a, c, hP, hc2, hc3, hT⟩ := hc1.ex
  have hlt := blk_lt9 hP
  have f1 : w1.cell? ⟨P, 1, none⟩ = some (.int .i64 v.kind) := cell_of hP rfl
  have f2 : w1.frozen? ⟨P, 1, none⟩ = false := unfrozen_of hP
  have f3 : w1.cell? ⟨P, 3, none⟩ = some (.int .i64 v.d) := cell_of hP rfl
  have f4 : w1.frozen? ⟨P, 3, none⟩ = false := unfrozen_of hP
  have HF : Hid (∀ o : Obj, w.grownBy ((((w1.setCell ⟨P, 1, none⟩ (.int .i64 5)).setCell ⟨P, 3, none⟩ (.int .i64 n)).alloc o).drew) (some P) ∧ Cur w0 ((((w1.setCell ⟨P, 1, none⟩ (.int .i64 5)).setCell ⟨P, 3, none⟩ (.int .i64 n)).alloc o).drew) P 58 (vc ⟨5, v.n, n, v.name⟩) r) := by
    intro o
    have g1 := setCell_here (k := 1) (.int .i64 5) hP
    have g2 := setCell_here (k := 3) (.int .i64 n) g1
    have hgs : w1.grownBy ((((w1.setCell ⟨P, 1, none⟩ (.int .i64 5)).setCell ⟨P, 3, none⟩ (.int .i64 n)).alloc o).drew) (some P) :=
      grownBy_trans (grownBy_trans (grownBy_set _ _ _ _) (grownBy_set _ _ _ _)) (grownBy_below _ ((below_one9 _ _).drew))
    have hlt2 : P < ((w1.setCell ⟨P, 1, none⟩ (.int .i64 5)).setCell ⟨P, 3, none⟩ (.int .i64 n)).heap.size := by rw [setCell_size, setCell_size]; exact hlt
    refine ⟨grownBy_trans HG1.out hgs, ⟨a, c, ?_, hc2, hc3, hT⟩, hc1.base, hc1.bel.grown hgs hc1.bel.size (fun k hk => by injection hk with hk; have := hc1.base; omega)⟩
    show (((w1.setCell ⟨P, 1, none⟩ (.int .i64 5)).setCell ⟨P, 3, none⟩ (.int .i64 n)).alloc o).heap[P]? = _
    rw [Below.heap_alloc _ _ _ hlt2, g2]; rfl
  clear hg1 hc1 hP hT hc2 hc3
  go_wp2_with fail
  go_region
  all_goals
    go_wp2_with fail
    go_end0
    exact ⟨rfl, HF.out _⟩
end Go.Proofs.Ytppnpdjbmhbimaa
