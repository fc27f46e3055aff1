/- Joined texts: TokA TokB TokC. -/
import Derived.Test.YtbodmfbpmeapoaaGreatSynU1
import Derived.Test.YtbodmfbpmeapoaaGreatMem
import Derived.Test.YtbodmfbpmeapoaaGreatValP
import Derived.OwnWalk
import Derived.Test.YtbodmfbpmeapoaaGreatSynR2
import Derived.Outline
import Derived.Deep.LoopGhost
namespace Go.Proofs.YtbodmfbpmeapoaaGreat
open Go.RowKit TreN LexP FixP SynP ValP
set_option linter.unusedVariables false

/-- a cursor at the head of block P: what lies behind it there is 'rest'; its tokens lie in what was there in w0 -/
structure Cur (w0 w : World) (P : Nat) (T : TypeId) (rest : List Value) (l : List Tok) : Prop where
  ex : ∃ a c, w.heap[P]? = some (.cells (.slice a l.length c :: rest).toArray T (0, 0)) ∧ l.length ≤ c ∧ c ≤ maxLen ∧ Tks w0 a l
  base : w0.heap.size ≤ P
  bel : Below w0.heap.size w0 w
theorem blk_lt {w : World} {P : Nat} {o : Obj} (h : w.heap[P]? = some o) : P < w.heap.size := (Array.getElem?_eq_some_iff.1 h).1
theorem Cur.lt {w0 w : World} {P : Nat} {T : TypeId} {rest : List Value} {l : List Tok} (h : Cur w0 w P T rest l) : P < w.heap.size := by
  obtain ⟨a, c, hb, _⟩ := h.ex
  exact blk_lt hb
theorem Cur.keep {w0 w w' : World} {P : Nat} {T : TypeId} {rest : List Value} {l : List Tok} (h : Cur w0 w P T rest l) (hb : Below w.heap.size w w') : Cur w0 w' P T rest l := by
  have hlt := h.lt
  obtain ⟨a, c, h1, h2⟩ := h.ex
  exact ⟨⟨a, c, (hb.block P hlt).trans h1, h2⟩, h.base, h.bel.trans (hb.mono h.bel.size)⟩
theorem grownBy_below {w w' : World} (row : Option Nat) (hb : Below w.heap.size w w') : w.grownBy w' row := ⟨hb.os, hb.tape, hb.output, hb.size, fun k hk _ => hb.block k hk⟩
theorem grownBy_trans {a b c : World} {P : Option Nat} (h : a.grownBy b P) (k : b.grownBy c P) : a.grownBy c P := ⟨k.os.trans h.os, k.tape.trans h.tape, k.output.trans h.output, Nat.le_trans h.size k.size, fun i hi hn => (k.block i (by have := h.size; omega) hn).trans (h.block i hi hn)⟩
theorem grownBy_set (w : World) (P k : Nat) (v : Value) : w.grownBy (w.setCell ⟨P, k, none⟩ v) (some P) := ⟨rfl, rfl, rfl, by simp [World.setCell], fun i _ hn => Below.heap_setCell _ _ _ _ (fun e => hn (by rw [e]))⟩
/-- what another cursor's step leaves of this one -/
theorem Cur.other {w0 w w' : World} {P Q : Nat} {T : TypeId} {rest : List Value} {l : List Tok} (h : Cur w0 w P T rest l) (hg : w.grownBy w' (some Q)) (hne : P ≠ Q) (hQ : w0.heap.size ≤ Q) : Cur w0 w' P T rest l := by
  have hlt := h.lt
  obtain ⟨a, c, h1, h2⟩ := h.ex
  exact ⟨⟨a, c, (hg.block P hlt (by simpa using hne)).trans h1, h2⟩, h.base, h.bel.grown hg h.bel.size (fun k hk => by injection hk with hk; omega)⟩

set_option maxRecDepth 100000 in
set_option maxHeartbeats 1000000 in
theorem Next_any {w0 w : World} {P : Nat} {T : TypeId} {rest : List Value} {l : List Tok} (h : Cur w0 w P T rest l) :
    Calls Tryz.prog 95 #[.pointer (some ⟨P, 0, none⟩)] w fun e w' => e = .returned (nxt l).val ∧ Below w.heap.size w w' := by
  have hlt := h.lt
  obtain ⟨a, c, hb, hc1, hc2, hT⟩ := h.ex
  cases l with
  | nil =>
    have c0 : w.cell? ⟨P, 0, none⟩ = some (.slice a 0 c) := cell_of hb rfl
    clear hb hT hc1 h
    go_enter Tryz.func95, Tryz.ntmps95
    go_wp2_with fail
    exact bodyPost_ret (v := zeroT.val) (by simp [results, Tryz.results95, go_sem, LexP.Tok.val, zeroT]) rfl ⟨rfl, (Below.refl _ _).alloc (Nat.le_refl _) _⟩
  | cons t r =>
    obtain ⟨b, o, rfl, hbw, hk⟩ := hT.get (i := 0) (by simp)
    have hk2 := hk.below h.bel hbw
    have d1 : w.cell? ⟨b, o, none⟩ = some (.int .i64 t.kind) := by have := hk2.kind; simpa using this
    have d2 : w.cell? ⟨b, o + 1, none⟩ = some (.string ⟨t.text.toArray⟩) := by have := hk2.text; simpa using this
    have d3 : w.cell? ⟨b, o + 2, none⟩ = some (.int .i64 t.n) := by have := hk2.n; simpa using this
    have hb2 : b < w.heap.size := by have := h.bel.size; omega
    obtain ⟨n, hn⟩ : ∃ n, (t :: r).length = n := ⟨_, rfl⟩
    have hn0 : 0 < n := by rw [← hn]; simp
    rw [hn] at hb hc1
    have c0 : w.cell? ⟨P, 0, none⟩ = some (.slice (some ⟨b, o, none⟩) n c) := cell_of hb rfl
    unfold maxLen at hc2
    have hnz : (0 : Int) < (n : Int) := by omega
    have hne : ((n : Int) == 0) = false := by rw [beq_eq_false_iff_ne]; omega
    have hne2 : ¬ n = 0 := by omega
    obtain ⟨k, x, m⟩ := t
    show Calls _ _ _ _ fun e w' => e = .returned (⟨k, x, m⟩ : Tok).val ∧ _
    unfold LexP.Tok.val
    dsimp only at d1 d2 d3
    clear hb hT hk hk2 h hn
    go_enter Tryz.func95, Tryz.ntmps95
    go_wp2_with fail
    exact bodyPost_ret (v := (⟨k, x, m⟩ : Tok).val) (by simp [results, Tryz.results95, go_sem, LexP.Tok.val]) rfl ⟨rfl, (Below.refl _ _).alloc (Nat.le_refl _) _⟩

theorem grownBy_then {w wx x : World} {row : Option Nat} (h : w.grownBy wx row) (k : Below w.heap.size wx x) : w.grownBy x row := ⟨k.os.trans h.os, k.tape.trans h.tape, k.output.trans h.output, Nat.le_trans h.size k.size, fun i hi hn => (k.block i hi).trans (h.block i hi hn)⟩
/-- a store at the cursor, ahead of a store of what is answered -/
theorem cur_step {w0 w w1 : World} {P : Nat} {T : TypeId} {rest : List Value} {l r : List Tok} {a2 : Option Addr} {m c2 : Nat} {Z : Obj} (h : Cur w0 w P T rest l) (hb : Below (w.alloc Z).heap.size (w.alloc Z) w1) (hr : m = r.length) (h1 : m ≤ c2) (h2 : c2 ≤ maxLen) (hT : Tks w0 a2 r) :
    w.grownBy (w1.setCell ⟨P, 0, none⟩ (.slice a2 m c2)) (some P) ∧ Cur w0 (w1.setCell ⟨P, 0, none⟩ (.slice a2 m c2)) P T rest r ∧ (w1.setCell ⟨P, 0, none⟩ (.slice a2 m c2)).heap[w.heap.size]? = some Z := by
  subst hr
  have hlt := h.lt
  have h0 : w.heap.size < (w.alloc Z).heap.size := by simp
  have hs := hb.size
  have hB : Below w.heap.size w w1 := ((Below.refl _ _).alloc (Nat.le_refl _) _).trans (hb.mono (by omega))
  have hZ : w1.heap[w.heap.size]? = some Z := by rw [hb.block _ h0]; exact heap_alloc_new w _
  obtain ⟨a, c, hP, _⟩ := h.ex
  have hP1 : w1.heap[P]? = some (.cells (.slice a l.length c :: rest).toArray T (0, 0)) := by
    rw [hB.block P hlt]; exact hP
  have hg : w.grownBy (w1.setCell ⟨P, 0, none⟩ (.slice a2 r.length c2)) (some P) :=
    grownBy_trans (grownBy_below _ hB) (grownBy_set _ _ _ _)
  refine ⟨hg, ⟨⟨a2, c2, ?_, h1, h2, hT⟩, h.base, h.bel.grown hg h.bel.size (fun k hk => by injection hk with hk; have := h.base; omega)⟩, ?_⟩
  · rw [setCell_here _ hP1]; simp
  · rw [setCell_there _ (by omega)]; exact hZ
theorem Cur.three {w0 wx x : World} {P B : Nat} {T U : TypeId} {rest : List Value} {l : List Tok} {n0 n1 n2 : Value} (h : Cur w0 wx P T rest l) (h3 : Three wx x B U n0 n1 n2) (hne : P ≠ B) (hB : w0.heap.size ≤ B) : Cur w0 x P T rest l := by
  obtain ⟨a, c, h1, h2⟩ := h.ex
  exact ⟨⟨a, c, (h3.there P hne).trans h1, h2⟩, h.base, h3.below _ _ hB h.bel⟩

set_option maxRecDepth 100000 in
set_option maxHeartbeats 1000000 in
theorem Take_yes {w0 w : World} {P : Nat} {T : TypeId} {rest : List Value} {t : Tok} {r : List Tok} (h : Cur w0 w P T rest (t :: r)) :
    Calls Tryz.prog 96 #[.pointer (some ⟨P, 0, none⟩), .int .i64 t.kind] w fun e w' => e = .returned (.tuple #[t.val, .bool true]) ∧ w.grownBy w' (some P) ∧ Cur w0 w' P T rest r := by
  have hlt := h.lt
  obtain ⟨a, c, hb, hc1, hc2, hT⟩ := h.ex
  obtain ⟨n, hn⟩ : ∃ n, (t :: r).length = n := ⟨_, rfl⟩
  have hr : n - 1 = r.length := by rw [← hn]; simp
  have hn0 : 0 < n := by rw [← hn]; simp
  obtain ⟨a2, s1, s2, s3, s4, s5⟩ := sl_from a (t :: r) c n 1 hn 1 rfl (by omega) (by omega) hc2
  have hT2 : Tks w0 a2 r := s5 w0 hT
  rw [hn] at hb hc1
  have hnz : (0 : Int) < (n : Int) := by omega
  have hne : ((n : Int) == 0) = false := by rw [beq_eq_false_iff_ne]; omega
  have hne2 : ¬ n = 0 := by omega
  have h0 := h.base
  have H := Lib.hid h
  have HHB := Lib.hid hb
  have HT2 := Lib.hid hT2
  have HR := Lib.hid hr
  have hM := Lib.hid hc2
  unfold maxLen at hc2
  obtain ⟨k, x, m⟩ := t
  have NX : ∀ W : World, Below w.heap.size w W → Calls Tryz.prog 95 #[.pointer (some ⟨P, 0, none⟩)] W fun e w' => e = .returned (.agg #[.int .i64 k, .string ⟨x.toArray⟩, .int .i64 m]) ∧ Below W.heap.size W w' := fun W hW => Next_any (h.keep hW)
  have NXX := Lib.hid NX
  show Calls _ _ #[_, .int .i64 k] _ fun e w' => e = .returned (.tuple #[(⟨k, x, m⟩ : Tok).val, .bool true]) ∧ _
  unfold LexP.Tok.val
  clear hb hT h hn hr s2 s5 hT2 NX
  go_enter Tryz.func96, Tryz.ntmps96
  go_wp2_with fail
  refine (NXX.out _ ((Below.refl _ _).alloc (Nat.le_refl _) _)).mono ?_
  rintro e w1 ⟨rfl, hb1⟩
  have c0 : w1.cell? ⟨P, 0, none⟩ = some (.slice a n c) := cell_of ((hb1.block P (by simp; omega)).trans ((Below.heap_alloc _ _ _ hlt).trans HHB.out)) rfl
  have c1 : w1.frozen? ⟨P, 0, none⟩ = false := unfrozen_of ((hb1.block P (by simp; omega)).trans ((Below.heap_alloc _ _ _ hlt).trans HHB.out))
  have hw1 : w.heap.size < w1.heap.size := by have := hb1.size; simp at this; omega
  have hP1 : P < w1.heap.size := by omega
  obtain ⟨g1, g2, g3⟩ := cur_step H.out hb1 HR.out s3 s4 HT2.out
  obtain ⟨x1, x2, x3, ⟨p0, q0, r0⟩, ⟨p1, q1, r1⟩, ⟨p2, q2, r2⟩, h3⟩ := three_store (w1.setCell ⟨P, 0, none⟩ (.slice a2 (n - 1) (c - 1))) w.heap.size 58 _ _ _ (.int .i64 k) (.string ⟨x.toArray⟩) (.int .i64 m) g3
  have hsz : w.heap.size < x3.heap.size := by rw [h3.size, setCell_size]; exact hw1
  have hs1 : w.heap.size < x1.heap.size := by rw [← r0, setCell_size, setCell_size]; exact hw1
  have hs2 : w.heap.size < x2.heap.size := by rw [← r1, setCell_size]; exact hs1
  have G1 := Lib.hid (grownBy_then (grownBy_then g1 (h3.below w.heap.size _ (Nat.le_refl _) (Below.refl _ _))) ((Below.refl _ _).alloc (Nat.le_of_lt hsz) (.cells #[.int .i64 k, .string ⟨x.toArray⟩, .int .i64 m] 58)))
  have G2 := Lib.hid ((g2.three h3 (by omega) (Nat.le_trans h0 (by omega))).keep ((Below.refl _ _).alloc (Nat.le_refl _) (.cells #[.int .i64 k, .string ⟨x.toArray⟩, .int .i64 m] 58)))
  have h4 := (Below.heap_alloc x3 (.cells #[.int .i64 k, .string ⟨x.toArray⟩, .int .i64 m] 58) _ hsz).trans h3.here
  have k0 := cell_of (k := 0) h4 rfl
  have k1 := cell_of (k := 1) h4 rfl
  have k2 := cell_of (k := 2) h4 rfl
  have hZ1 : w1.heap[w.heap.size]? = some (.cells #[.int .i64 0, .string ⟨#[]⟩, .int .i64 0] 58 (0, 0)) := by rw [hb1.block _ (by simp)]; exact heap_alloc_new w _
  have z0 : w1.cell? ⟨w.heap.size, 0, none⟩ = some (.int .i64 0) := cell_of hZ1 rfl
  have f0 : w1.frozen? ⟨w.heap.size, 0, none⟩ = false := unfrozen_of hZ1
  clear hb1 g1 g2 g3 h3 hZ1 h4
  go_wp2_with fail
  exact bodyPost_ret (v := .tuple #[(⟨k, x, m⟩ : Tok).val, .bool true]) (by simp [results, Tryz.results96, go_sem, LexP.Tok.val, k0, k1, k2]) rfl ⟨rfl, G1.out, G2.out⟩

set_option maxRecDepth 100000 in
set_option maxHeartbeats 1000000 in
theorem Take_no {w0 w : World} {P : Nat} {T : TypeId} {rest : List Value} {l : List Tok} (kd : Int) (h : Cur w0 w P T rest l) (hk : takeP kd l = none) :
    Calls Tryz.prog 96 #[.pointer (some ⟨P, 0, none⟩), .int .i64 kd] w fun e w' => e = .returned (.tuple #[zeroT.val, .bool false]) ∧ Below w.heap.size w w' := by
  have hlt := h.lt
  have NX := fun W (hW : Below w.heap.size w W) => Next_any (h.keep hW)
  obtain ⟨a, c, hb, hc1, hc2, hT⟩ := h.ex
  have NXX := Lib.hid NX
  have hcz : (l.length : Int) ≤ 9223372036854775807 := by unfold maxLen at hc2; omega
  obtain ⟨n, hn⟩ : ∃ n, l.length = n := ⟨_, rfl⟩
  have hd : ((n : Int) == 0) = true ∨ (((n : Int) == 0) = false ∧ ((nxt l).kind != kd) = true) := by
    cases l with
    | nil => left; rw [← hn]; rfl
    | cons t r =>
      right
      have hk : (if t.kind = kd then some (t, r) else none) = none := hk
      refine ⟨by rw [beq_eq_false_iff_ne, ← hn]; simp; omega, ?_⟩
      by_cases e : t.kind = kd
      · rw [if_pos e] at hk; cases hk
      · show (t.kind != kd) = true
        rw [bne_iff_ne]; exact e
  rw [hn] at hb hc1 hcz
  have HHB := Lib.hid hb
  obtain ⟨t, ht⟩ : ∃ t, nxt l = t := ⟨_, rfl⟩
  rw [ht] at NXX hd
  obtain ⟨k, x, m⟩ := t
  unfold LexP.Tok.val at NXX
  clear hb hT h hn NX ht hk
  rcases hd with hd | ⟨hd, hd2⟩
  all_goals
    go_enter Tryz.func96, Tryz.ntmps96
    go_wp2_with fail
    refine (NXX.out _ ((Below.refl _ _).alloc (Nat.le_refl _) _)).mono ?_
    rintro e w1 ⟨rfl, hb1⟩
    have c0 : w1.cell? ⟨P, 0, none⟩ = some (.slice a n c) := cell_of ((hb1.block P (by simp; omega)).trans ((Below.heap_alloc _ _ _ hlt).trans HHB.out)) rfl
    have hw1 : w.heap.size < w1.heap.size := by have := hb1.size; simp at this; omega
    have hP1 : P < w1.heap.size := by omega
    have hB1 : Below w.heap.size w w1 := ((Below.refl _ _).alloc (Nat.le_refl _) _).trans (hb1.mono (by simp))
    have hZ1 : w1.heap[w.heap.size]? = some (.cells #[.int .i64 0, .string ⟨#[]⟩, .int .i64 0] 58 (0, 0)) := by rw [hb1.block _ (by simp)]; exact heap_alloc_new w _
    obtain ⟨x1, x2, x3, ⟨p0, q0, r0⟩, ⟨p1, q1, r1⟩, ⟨p2, q2, r2⟩, h3⟩ := three_store w1 w.heap.size 58 _ _ _ (.int .i64 0) (.string ⟨#[]⟩) (.int .i64 0) hZ1
    have hsz : w.heap.size < x3.heap.size := by rw [h3.size]; exact hw1
    have hs1 : w.heap.size < x1.heap.size := by rw [← r0, setCell_size]; exact hw1
    have hs2 : w.heap.size < x2.heap.size := by rw [← r1, setCell_size]; exact hs1
    have G1 := Lib.hid ((h3.below w.heap.size _ (Nat.le_refl _) hB1).alloc (Nat.le_of_lt hsz) (.cells #[.int .i64 k, .string ⟨x.toArray⟩, .int .i64 m] 58))
    have h4 := (Below.heap_alloc x3 (.cells #[.int .i64 k, .string ⟨x.toArray⟩, .int .i64 m] 58) _ hsz).trans h3.here
    have k0 := cell_of (k := 0) h4 rfl
    have k1 := cell_of (k := 1) h4 rfl
    have k2 := cell_of (k := 2) h4 rfl
    clear hb1 h3 hB1 hZ1 h4
    go_wp2_with fail
    exact bodyPost_ret (v := .tuple #[zeroT.val, .bool false]) (by simp [results, Tryz.results96, go_sem, LexP.Tok.val, zeroT, k0, k1, k2]) rfl ⟨rfl, G1.out⟩
end Go.Proofs.YtbodmfbpmeapoaaGreat

namespace Go.Proofs.YtbodmfbpmeapoaaGreat
open Go.RowKit TreN LexP FixP SynP ValP
set_option linter.unusedVariables false

theorem tok_f0 (k m : Int) (x : ByteArray) (W : World) : (Instr.field 58 (.agg #[.int .i64 k, .string x, .int .i64 m]) 0).run Tryz.prog W = .ok (.int .i64 k) W := by kernel_rfl
theorem tok_f1 (k m : Int) (x : ByteArray) (W : World) : (Instr.field 58 (.agg #[.int .i64 k, .string x, .int .i64 m]) 1).run Tryz.prog W = .ok (.string x) W := by kernel_rfl
set_option maxRecDepth 100000 in
set_option maxHeartbeats 1000000 in
theorem Pass_yes {w0 w : World} {P : Nat} {T : TypeId} {rest : List Value} {t : Tok} {r : List Tok} (h : Cur w0 w P T rest (t :: r)) :
    Calls Tryz.prog 64 #[.pointer (some ⟨P, 0, none⟩), .int .i64 t.kind, .string ⟨t.text.toArray⟩] w fun e w' => e = .returned (.bool true) ∧ w.grownBy w' (some P) ∧ Cur w0 w' P T rest r := by
  have TK := Lib.hid fun W (hW : Below w.heap.size w W) => Take_yes (h.keep hW)
  have NX := Lib.hid (Next_any h)
  obtain ⟨k, x, m⟩ := t
  have NX2 : Hid (Calls Tryz.prog 95 #[.pointer (some ⟨P, 0, none⟩)] w fun e w' => e = .returned (.agg #[.int .i64 k, .string ⟨x.toArray⟩, .int .i64 m]) ∧ Below w.heap.size w w') := Lib.hid NX.out
  show Calls _ _ #[_, .int .i64 k, .string ⟨x.toArray⟩] _ _
  have TK2 : Hid (∀ W : World, Below w.heap.size w W → Calls Tryz.prog 96 #[.pointer (some ⟨P, 0, none⟩), .int .i64 k] W fun e w' => e = .returned (.tuple #[.agg #[.int .i64 k, .string ⟨x.toArray⟩, .int .i64 m], .bool true]) ∧ W.grownBy w' (some P) ∧ Cur w0 w' P T rest r) := Lib.hid fun W hW => TK.out W hW
  clear NX TK h
  have F1 := tok_f1
  go_enter Tryz.func64, Tryz.ntmps64
  go_wp2_with fail
  refine NX2.out.mono ?_
  rintro e w1 ⟨rfl, hb1⟩
  have HB1 := Lib.hid hb1
  clear hb1
  go_wp2_with fail
  refine (TK2.out _ HB1.out).mono ?_
  rintro e w2 ⟨rfl, hg, hc⟩
  have G := Lib.hid (grownBy_trans (grownBy_below (some P) HB1.out) hg)
  have C := Lib.hid hc
  clear hg hc
  go_wp2_with fail
  go_ret
  exact ⟨rfl, grownBy_trans G.out (grownBy_below (some P) ((Below.refl _ _).alloc (Nat.le_refl _) _)), C.out.keep ((Below.refl _ _).alloc (Nat.le_refl _) _)⟩
set_option maxRecDepth 100000 in
set_option maxHeartbeats 1000000 in
theorem Pass_no {w0 w : World} {P : Nat} {T : TypeId} {rest : List Value} {l : List Tok} (k : Int) (y : List UInt8) (h : Cur w0 w P T rest l) (hp : passP k y l = none) :
    Calls Tryz.prog 64 #[.pointer (some ⟨P, 0, none⟩), .int .i64 k, .string ⟨y.toArray⟩] w fun e w' => e = .returned (.bool false) ∧ Below w.heap.size w w' := by
  have NX := Lib.hid (Next_any h)
  by_cases hx : (nxt l).text = y
  · unfold passP at hp
    rw [if_pos hx] at hp
    have hp2 : takeP k l = none := by
      cases ht : takeP k l with
      | none => rfl
      | some p => rw [ht] at hp; cases hp
    have TK := Lib.hid fun W (hW : Below w.heap.size w W) => Take_no k (h.keep hW) hp2
    obtain ⟨t, ht⟩ : ∃ t, nxt l = t := ⟨_, rfl⟩
    rw [ht] at hx NX
    obtain ⟨k1, x, m⟩ := t
    have hx : x = y := hx
    subst hx
    have NX2 : Hid (Calls Tryz.prog 95 #[.pointer (some ⟨P, 0, none⟩)] w fun e w' => e = .returned (.agg #[.int .i64 k1, .string ⟨x.toArray⟩, .int .i64 m]) ∧ Below w.heap.size w w') := Lib.hid NX.out
    have TK2 : Hid (∀ W : World, Below w.heap.size w W → Calls Tryz.prog 96 #[.pointer (some ⟨P, 0, none⟩), .int .i64 k] W fun e w' => e = .returned (.tuple #[.agg #[.int .i64 0, .string ⟨#[]⟩, .int .i64 0], .bool false]) ∧ Below W.heap.size W w') := Lib.hid fun W hW => TK.out W hW
    clear NX TK h hp hp2 ht
    have F1 := tok_f1
    go_enter Tryz.func64, Tryz.ntmps64
    go_wp2_with fail
    refine NX2.out.mono ?_
    rintro e w1 ⟨rfl, hb1⟩
    have HB1 := Lib.hid hb1
    clear hb1
    go_wp2_with fail
    refine (TK2.out _ HB1.out).mono ?_
    rintro e w2 ⟨rfl, hb2⟩
    have HB2 := Lib.hid (HB1.out.trans (hb2.mono HB1.out.size))
    clear hb2
    go_wp2_with fail
    go_ret
    exact ⟨rfl, HB2.out.alloc HB2.out.size _⟩
  · obtain ⟨t, ht⟩ : ∃ t, nxt l = t := ⟨_, rfl⟩
    rw [ht] at hx NX
    obtain ⟨k1, x, m⟩ := t
    have hne : (x == y) = false := by rw [beq_eq_false_iff_ne]; exact hx
    have NX2 : Hid (Calls Tryz.prog 95 #[.pointer (some ⟨P, 0, none⟩)] w fun e w' => e = .returned (.agg #[.int .i64 k1, .string ⟨x.toArray⟩, .int .i64 m]) ∧ Below w.heap.size w w') := Lib.hid NX.out
    clear NX h hp ht hx
    have F1 := tok_f1
    go_enter Tryz.func64, Tryz.ntmps64
    go_wp2_with fail
    refine NX2.out.mono ?_
    rintro e w1 ⟨rfl, hb1⟩
    have HB1 := Lib.hid hb1
    clear hb1
    go_wp2_with fail
    go_ret
    exact ⟨rfl, HB1.out⟩

/-- where the loop of Spaces stands -/
def SpAt (l : List Tok) (m : List Tok) : Prop := bs m = bs l ∧ m.length ≤ l.length
set_option maxRecDepth 100000 in
set_option maxHeartbeats 1000000 in
theorem Spaces_any {w0 w : World} {P : Nat} {T : TypeId} {rest : List Value} {l : List Tok} (h : Cur w0 w P T rest l) :
    Calls Tryz.prog 65 #[.pointer (some ⟨P, 0, none⟩)] w fun e w' => e = .returned (.bool (decide ((bs l).length < l.length))) ∧ w.grownBy w' (some P) ∧ Cur w0 w' P T rest (bs l) := by
  have hlt := h.lt
  have H := Lib.hid h
  obtain ⟨a, c, hb, hc1, hc2, hT⟩ := h.ex
  obtain ⟨n, hn⟩ : ∃ n, l.length = n := ⟨_, rfl⟩
  have HN := Lib.hid hn
  rw [hn] at hb hc1 ⊢
  have c0 : w.cell? ⟨P, 0, none⟩ = some (.slice a n c) := cell_of hb rfl
  have hcz : n ≤ 9223372036854775807 := by unfold maxLen at hc2; omega
  clear hb hT h hn hc2 hc1
  go_enter Tryz.func65, Tryz.ntmps65
  go_wp2_with fail
  have HP : Hid (Cur w0 w P T rest l ∧ w.grownBy w (some P)) := Lib.hid ⟨H.out, World.grownBy.refl _ _⟩
  clear c0
  go_loopg [12] n (fun gg vv wr => ∃ m : List Tok, m.length = gg ∧ Hid (SpAt l m) ∧ Hid (Cur w0 wr P T rest m) ∧ Hid (w.grownBy wr (some P)))
  case atStart => exact ⟨l, HN.out, Lib.hid ⟨rfl, Nat.le_refl _⟩, HP.out.1, HP.out.2⟩
  case round =>
    obtain ⟨m, hm, HS, HC, HG⟩ := hrel
    cases m with
    | nil =>
      have NX : Hid (Calls Tryz.prog 95 #[.pointer (some ⟨P, 0, none⟩)] wr fun e w' => e = .returned (.agg #[.int .i64 0, .string ⟨#[]⟩, .int .i64 0]) ∧ Below wr.heap.size wr w') := Lib.hid (Next_any HC.out)
      have F0 := tok_f0
      go_wp2_with fail
      refine NX.out.mono ?_
      rintro e w1 ⟨rfl, hb1⟩
      have HC1 := Lib.hid (HC.out.keep hb1)
      have HG1 := Lib.hid (grownBy_trans HG.out (grownBy_below (some P) hb1))
      obtain ⟨a1, k1, hk, _, hk2, _⟩ := HC1.out.ex
      have c0 : w1.cell? ⟨P, 0, none⟩ = some (.slice a1 0 k1) := cell_of hk rfl
      have hbl : bs l = [] := HS.out.1.symm
      have HF : Hid (decide ((bs l).length < n) = decide (0 < n)) := Lib.hid (by rw [hbl]; rfl)
      have HBL := Lib.hid hbl
      have HF2 := Lib.hid hk2
      clear hb1 hk hbl hm hk2
      go_wp2_with fail
      go_ret
      exact ⟨ret_bool HF.out.symm, HG1.out, by rw [HBL.out]; exact HC1.out⟩
    | cons t r =>
      have NX := Lib.hid (Next_any HC.out)
      obtain ⟨k, x, nn⟩ := t
      have NX2 : Hid (Calls Tryz.prog 95 #[.pointer (some ⟨P, 0, none⟩)] wr fun e w' => e = .returned (.agg #[.int .i64 k, .string ⟨x.toArray⟩, .int .i64 nn]) ∧ Below wr.heap.size wr w') := Lib.hid NX.out
      have F0 := tok_f0
      clear NX
      by_cases h20 : k = 20
      · have hkz : (k == 20) = true := by rw [beq_iff_eq]; exact h20
        have HS2 : Hid (SpAt l r) := Lib.hid ⟨by rw [← HS.out.1]; exact (bs_sp h20).symm, by have := HS.out.2; simp at this; omega⟩
        clear h20
        go_wp2_with fail
        refine NX2.out.mono ?_
        rintro e w1 ⟨rfl, hb1⟩
        have HC1 := Lib.hid (HC.out.keep hb1)
        have HG1 := Lib.hid (grownBy_trans HG.out (grownBy_below (some P) hb1))
        obtain ⟨a1, k1, hk, hk1, hk2, hT⟩ := HC1.out.ex
        obtain ⟨p, hp⟩ : ∃ p, ((⟨k, x, nn⟩ : Tok) :: r).length = p := ⟨_, rfl⟩
        have hpr : p - 1 = r.length := by rw [← hp]; simp
        have hp0 : 0 < p := by rw [← hp]; simp
        obtain ⟨a2, s1, s2, s3, s4, s5⟩ := sl_from a1 (⟨k, x, nn⟩ :: r) k1 p 1 hp 1 rfl (by omega) (by omega) hk2
        have HT := Lib.hid (s5 w0 hT)
        rw [hp] at hk hk1
        have c0 : w1.cell? ⟨P, 0, none⟩ = some (.slice a1 p k1) := cell_of hk rfl
        have c1 : w1.frozen? ⟨P, 0, none⟩ = false := unfrozen_of hk
        have hst : w1.grownBy (w1.setCell ⟨P, 0, none⟩ (.slice a2 (p - 1) (k1 - 1))) (some P) := grownBy_set _ _ _ _
        have HC2 : Hid (Cur w0 (w1.setCell ⟨P, 0, none⟩ (.slice a2 (p - 1) (k1 - 1))) P T rest r) := Lib.hid ⟨⟨a2, k1 - 1, by rw [setCell_here _ hk, ← hpr]; simp, by omega, s4, HT.out⟩, HC1.out.base, HC1.out.bel.setCell (p := ⟨P, 0, none⟩) HC1.out.base _⟩
        have HG2 := Lib.hid (grownBy_trans HG1.out hst)
        have HM : Hid (r.length < gk) := Lib.hid (by simp at hm; omega)
        unfold maxLen at hk2
        have hpz : (1 : Int) ≤ (p : Int) := by omega
        clear hb1 hk hT hst s2 s5 hp hm hpr
        go_wp2_with fail
        go_roundg r.length
        case rel => exact ⟨r, rfl, HS2, HC2, HG2⟩
        case measure => exact HM.out
      · have hkz : (k == 20) = false := by rw [beq_eq_false_iff_ne]; exact h20
        have hbl : bs l = ⟨k, x, nn⟩ :: r := by rw [← HS.out.1]; exact bs_no h20
        have hle := HS.out.2
        clear h20
        go_wp2_with fail
        refine NX2.out.mono ?_
        rintro e w1 ⟨rfl, hb1⟩
        have HC1 := Lib.hid (HC.out.keep hb1)
        have HG1 := Lib.hid (grownBy_trans HG.out (grownBy_below (some P) hb1))
        obtain ⟨a1, k1, hk, hk1, hk2, hT⟩ := HC1.out.ex
        obtain ⟨p, hp⟩ : ∃ p, ((⟨k, x, nn⟩ : Tok) :: r).length = p := ⟨_, rfl⟩
        rw [hp] at hk hk1 hle
        have c0 : w1.cell? ⟨P, 0, none⟩ = some (.slice a1 p k1) := cell_of hk rfl
        have HF : Hid (decide ((bs l).length < n) = decide (p < n)) := Lib.hid (by rw [hbl, hp])
        have HBL := Lib.hid hbl
        unfold maxLen at hk2
        clear hb1 hk hT hp hm hbl
        go_wp2_with fail
        go_ret
        exact ⟨ret_bool HF.out.symm, HG1.out, by rw [HBL.out]; exact HC1.out⟩
end Go.Proofs.YtbodmfbpmeapoaaGreat

namespace Go.Proofs.YtbodmfbpmeapoaaGreat
open Go.RowKit TreN LexP FixP SynP ValP
set_option linter.unusedVariables false

/-- while Over looks ahead: its own cursor, its answer's block -/
structure OvAt (w0 w wr : World) (Q : Nat) (m : List Tok) : Prop where
  bel : Below w.heap.size w wr
  res : wr.heap[w.heap.size]? = some (.cells #[.int .i64 0, .string ⟨#[]⟩, .int .i64 0] 58 (0, 0))
  cur : Cur w0 wr Q 80 [] m
  at_ : Q = w.heap.size + 1
theorem OvAt.lt {w0 w wr : World} {Q : Nat} {m : List Tok} (h : OvAt w0 w wr Q m) : w.heap.size < wr.heap.size := blk_lt h.res
theorem OvAt.step {w0 w wr wx : World} {Q : Nat} {m r : List Tok} (h : OvAt w0 w wr Q m) (hg : wr.grownBy wx (some Q)) (hc : Cur w0 wx Q 80 [] r) : OvAt w0 w wx Q r :=
  ⟨h.bel.grown hg h.bel.size (fun k hk => by injection hk with hk; have := h.at_; omega), by rw [hg.block _ h.lt (by have := h.at_; intro e; injection e with e; omega)]; exact h.res, hc, h.at_⟩
theorem OvAt.keep {w0 w wr wx : World} {Q : Nat} {m : List Tok} (h : OvAt w0 w wr Q m) (hb : Below wr.heap.size wr wx) : OvAt w0 w wx Q m := h.step (grownBy_below _ hb) (h.cur.keep hb)
theorem OvAt.start {w0 w : World} {P : Nat} {T : TypeId} {rest : List Value} {l : List Tok} {a : Option Addr} {n c : Nat} (h : Cur w0 w P T rest l) (hP : w.heap[P]? = some (.cells (.slice a n c :: rest).toArray T (0, 0))) (hn : l.length = n) :
    OvAt w0 w ((w.alloc (.cells #[.int .i64 0, .string ⟨#[]⟩, .int .i64 0] 58)).alloc (.cells #[.slice a n c] 80)) (w.heap.size + 1) l := by
  obtain ⟨a', c', h1, h2, h3, h4⟩ := h.ex
  rw [hP] at h1
  injection h1 with h1; injection h1 with h1 _ _
  have e := congrArg (fun (x : Array Value) => x[0]?) h1
  simp at e
  obtain ⟨rfl, e2, rfl⟩ := e
  have hB : Below w.heap.size w ((w.alloc (.cells #[.int .i64 0, .string ⟨#[]⟩, .int .i64 0] 58)).alloc (.cells #[.slice a n c] 80)) := ((Below.refl _ _).alloc (Nat.le_refl _) _).alloc (by simp) _
  refine ⟨hB, ?_, ⟨⟨a, c, ?_, h2, h3, h4⟩, by have := h.bel.size; omega, h.bel.trans (hB.mono h.bel.size)⟩, rfl⟩
  · rw [Below.heap_alloc _ _ _ (by simp)]; exact heap_alloc_new w _
  · rw [hn]
    have := heap_alloc_new (w.alloc (.cells #[.int .i64 0, .string ⟨#[]⟩, .int .i64 0] 58)) (.cells #[.slice a n c] 80)
    simpa using this

set_option maxRecDepth 100000 in
set_option maxHeartbeats 2000000 in
theorem Over_no {w0 w : World} {P : Nat} {T : TypeId} {rest : List Value} {l : List Tok} (h : Cur w0 w P T rest l) (ho : overP l = none) :
    Calls Tryz.prog 110 #[.pointer (some ⟨P, 0, none⟩)] w fun e w' => e = .returned (.tuple #[zeroT.val, .bool false]) ∧ Below w.heap.size w w' := by
  obtain ⟨a, c, hb, hc1, hc2, hT⟩ := h.ex
  obtain ⟨n, hn⟩ : ∃ n, l.length = n := ⟨_, rfl⟩
  rw [hn] at hb
  have O1 := Lib.hid (OvAt.start h hb hn)
  have c0 : w.cell? ⟨P, 0, none⟩ = some (.slice a n c) := cell_of hb rfl
  have hlt := h.lt
  clear hb hT h hn hc2 hc1
  unfold overP at ho
  have HO := Lib.hid ho
  clear ho
  go_enter Tryz.func110, Tryz.ntmps110
  go_wp2_with fail
  refine (Spaces_any O1.out.cur).mono ?_
  rintro e w1 ⟨rfl, hg1, hc1⟩
  have O2 := Lib.hid (O1.out.step hg1 hc1)
  clear hg1 hc1
  cases hp : passP 19 [47] (bs l) with
  | none =>
    have PN := Lib.hid (Pass_no 19 [47] O2.out.cur hp)
    clear hp HO
    go_wp2_with fail
    refine PN.out.mono ?_
    rintro e w2 ⟨rfl, hb2⟩
    have O3 := O2.out.keep hb2
    obtain ⟨x1, x2, x3, ⟨p0, q0, r0⟩, ⟨p1, q1, r1⟩, ⟨p2, q2, r2⟩, h3⟩ := three_store w2 w.heap.size 58 _ _ _ (.int .i64 0) (.string ⟨#[]⟩) (.int .i64 0) O3.res
    have G1 := Lib.hid (h3.below w.heap.size _ (Nat.le_refl _) O3.bel)
    have k0 := cell_of (k := 0) h3.here rfl
    have k1 := cell_of (k := 1) h3.here rfl
    have k2 := cell_of (k := 2) h3.here rfl
    clear hb2 O3 h3
    go_wp2_with fail
    exact bodyPost_ret (v := .tuple #[zeroT.val, .bool false]) (by simp [results, Tryz.results110, go_sem, LexP.Tok.val, zeroT, k0, k1, k2]) rfl ⟨rfl, G1.out⟩
  | some r =>
    obtain ⟨t, hbs, ht1, ht2⟩ := passP_len hp
    have HO2 := HO.out
    rw [hp] at HO2
    have HO3 : takeP 7 (bs r) = none := HO2
    have O2b : OvAt w0 w w1 (w.heap.size + 1) (t :: r) := by rw [← hbs]; exact O2.out
    have PY := Pass_yes O2b.cur
    rw [ht1, ht2] at PY
    have PYY := Lib.hid PY
    have OO := Lib.hid O2b
    have HT := Lib.hid HO3
    clear hp HO hbs ht1 ht2 HO2 HO3 O2b PY
    go_wp2_with fail
    refine PYY.out.mono ?_
    rintro e w2 ⟨rfl, hg2, hc2⟩
    have O3 := Lib.hid (OO.out.step hg2 hc2)
    clear hg2 hc2
    go_wp2_with fail
    refine (Spaces_any O3.out.cur).mono ?_
    rintro e w3 ⟨rfl, hg3, hc3⟩
    have O4 := Lib.hid (O3.out.step hg3 hc3)
    have TN := Lib.hid (Take_no 7 O4.out.cur HT.out)
    clear hg3 hc3
    go_wp2_with fail
    refine TN.out.mono ?_
    show ∀ e w', e = Ending.returned (.tuple #[.agg #[.int .i64 0, .string ⟨#[]⟩, .int .i64 0], .bool false]) ∧ _ → _
    rintro e w4 ⟨rfl, hb4⟩
    have O5 := O4.out.keep hb4
    obtain ⟨x1, x2, x3, ⟨p0, q0, r0⟩, ⟨p1, q1, r1⟩, ⟨p2, q2, r2⟩, h3⟩ := three_store w4 w.heap.size 58 _ _ _ (.int .i64 0) (.string ⟨#[]⟩) (.int .i64 0) O5.res
    have hw4 := O5.lt
    have hsz : w.heap.size < x3.heap.size := by rw [h3.size]; exact hw4
    have hs1 : w.heap.size < x1.heap.size := by rw [← r0, setCell_size]; exact hw4
    have hs2 : w.heap.size < x2.heap.size := by rw [← r1, setCell_size]; exact hs1
    have G1 := Lib.hid ((h3.below w.heap.size _ (Nat.le_refl _) O5.bel).alloc (Nat.le_of_lt hsz) (.cells #[.int .i64 0, .string ⟨#[]⟩, .int .i64 0] 58))
    have h4 := (Below.heap_alloc x3 (.cells #[.int .i64 0, .string ⟨#[]⟩, .int .i64 0] 58) _ hsz).trans h3.here
    have k0 := cell_of (k := 0) h4 rfl
    have k1 := cell_of (k := 1) h4 rfl
    have k2 := cell_of (k := 2) h4 rfl
    clear hb4 O5 h3 h4
    go_wp2_with fail
    exact bodyPost_ret (v := .tuple #[zeroT.val, .bool false]) (by simp [results, Tryz.results110, go_sem, LexP.Tok.val, zeroT, k0, k1, k2]) rfl ⟨rfl, G1.out⟩
set_option maxRecDepth 100000 in
set_option maxHeartbeats 2000000 in
theorem Over_yes {w0 w : World} {P : Nat} {T : TypeId} {rest : List Value} {l r2 : List Tok} {u : Tok} (h : Cur w0 w P T rest l) (ho : overP l = some (u, r2)) :
    Calls Tryz.prog 110 #[.pointer (some ⟨P, 0, none⟩)] w fun e w' => e = .returned (.tuple #[u.val, .bool true]) ∧ w.grownBy w' (some P) ∧ Cur w0 w' P T rest r2 := by
  obtain ⟨a, c, hb, hc1, hc2, hT⟩ := h.ex
  obtain ⟨n, hn⟩ : ∃ n, l.length = n := ⟨_, rfl⟩
  rw [hn] at hb
  have O1 := Lib.hid (OvAt.start h hb hn)
  have c0 : w.cell? ⟨P, 0, none⟩ = some (.slice a n c) := cell_of hb rfl
  have hlt := h.lt
  have H := Lib.hid h
  have HHB := Lib.hid hb
  have h0 := h.base
  unfold overP at ho
  cases hp : passP 19 [47] (bs l) with
  | none => rw [hp] at ho; cases ho
  | some r =>
    rw [hp] at ho
    have ho : takeP 7 (bs r) = some (u, r2) := ho
    obtain ⟨t, hbs, ht1, ht2⟩ := passP_len hp
    obtain ⟨hbr, hu⟩ := takeP_len ho
    have HBS := Lib.hid hbs
    have HBR := Lib.hid hbr
    obtain ⟨uk, ux, un⟩ := u
    have hu : uk = 7 := hu
    subst hu
    show Calls _ _ _ _ fun e w' => e = .returned (.tuple #[.agg #[.int .i64 7, .string ⟨ux.toArray⟩, .int .i64 un], .bool true]) ∧ _
    have HT1 := Lib.hid ht1
    have HT2 := Lib.hid ht2
    clear hb hT h hn hc2 hc1 hp ho hbs hbr ht1 ht2
    go_enter Tryz.func110, Tryz.ntmps110
    go_wp2_with fail
    refine (Spaces_any O1.out.cur).mono ?_
    rintro e w1 ⟨rfl, hg1, hc1⟩
    have O2 : Hid (OvAt w0 w w1 (w.heap.size + 1) (t :: r)) := Lib.hid (by have := O1.out.step hg1 hc1; rw [HBS.out] at this; exact this)
    have PY := Pass_yes O2.out.cur
    rw [HT1.out, HT2.out] at PY
    have PYY := Lib.hid PY
    clear hg1 hc1 PY
    go_wp2_with fail
    refine PYY.out.mono ?_
    rintro e w2 ⟨rfl, hg2, hc2⟩
    have O3 := Lib.hid (O2.out.step hg2 hc2)
    clear hg2 hc2
    go_wp2_with fail
    refine (Spaces_any O3.out.cur).mono ?_
    rintro e w3 ⟨rfl, hg3, hc3⟩
    have O4 : Hid (OvAt w0 w w3 (w.heap.size + 1) (⟨7, ux, un⟩ :: r2)) := Lib.hid (by have := O3.out.step hg3 hc3; rw [HBR.out] at this; exact this)
    have TY : Hid (Calls Tryz.prog 96 #[.pointer (some ⟨w.heap.size + 1, 0, none⟩), .int .i64 7] w3 fun e w' => e = .returned (.tuple #[.agg #[.int .i64 7, .string ⟨ux.toArray⟩, .int .i64 un], .bool true]) ∧ w3.grownBy w' (some (w.heap.size + 1)) ∧ Cur w0 w' (w.heap.size + 1) 80 [] r2) := Lib.hid (Take_yes O4.out.cur)
    clear hg3 hc3
    go_wp2_with fail
    refine TY.out.mono ?_
    rintro e w4 ⟨rfl, hg4, hc4⟩
    have O5 := O4.out.step hg4 hc4
    obtain ⟨a5, c5, hQ, hk1, hk2, hT5⟩ := O5.cur.ex
    have q0 : w4.cell? ⟨w.heap.size + 1, 0, none⟩ = some (.slice a5 r2.length c5) := cell_of hQ rfl
    have hPw4 : w4.heap[P]? = some (.cells (.slice a n c :: rest).toArray T (0, 0)) := by rw [O5.bel.block P hlt]; exact HHB.out
    have c2 : w4.cell? ⟨P, 0, none⟩ = some (.slice a n c) := cell_of hPw4 rfl
    have c3 : w4.frozen? ⟨P, 0, none⟩ = false := unfrozen_of hPw4
    have hw4 := O5.lt
    have hQw4 := blk_lt hQ
    have hPw := blk_lt hPw4
    have hres : (w4.setCell ⟨P, 0, none⟩ (.slice a5 r2.length c5)).heap[w.heap.size]? = some (.cells #[.int .i64 0, .string ⟨#[]⟩, .int .i64 0] 58 (0, 0)) := by rw [setCell_there _ (by omega)]; exact O5.res
    obtain ⟨x1, x2, x3, ⟨p0, qq0, r0⟩, ⟨p1, q1, r1⟩, ⟨p2, q2, r2'⟩, h3⟩ := three_store (w4.setCell ⟨P, 0, none⟩ (.slice a5 r2.length c5)) w.heap.size 58 _ _ _ (.int .i64 7) (.string ⟨ux.toArray⟩) (.int .i64 un) hres
    have hsz : w.heap.size < x3.heap.size := by rw [h3.size, setCell_size]; exact hw4
    have hs1 : w.heap.size < x1.heap.size := by rw [← r0, setCell_size, setCell_size]; exact hw4
    have hs2 : w.heap.size < x2.heap.size := by rw [← r1, setCell_size]; exact hs1
    have hg5 : w.grownBy (w4.setCell ⟨P, 0, none⟩ (.slice a5 r2.length c5)) (some P) := grownBy_trans (grownBy_below _ O5.bel) (grownBy_set _ _ _ _)
    have hC5 : Cur w0 (w4.setCell ⟨P, 0, none⟩ (.slice a5 r2.length c5)) P T rest r2 := ⟨⟨a5, c5, by rw [setCell_here _ hPw4]; simp, hk1, hk2, hT5⟩, h0, H.out.bel.grown hg5 H.out.bel.size (fun k hk => by injection hk with hk; omega)⟩
    have G1 := Lib.hid (grownBy_then (grownBy_then hg5 (h3.below w.heap.size _ (Nat.le_refl _) (Below.refl _ _))) ((Below.refl _ _).alloc (Nat.le_of_lt hsz) (.cells #[.int .i64 7, .string ⟨ux.toArray⟩, .int .i64 un] 58)))
    have G2 := Lib.hid ((hC5.three h3 (by omega) (Nat.le_trans h0 (by omega))).keep ((Below.refl _ _).alloc (Nat.le_refl _) (.cells #[.int .i64 7, .string ⟨ux.toArray⟩, .int .i64 un] 58)))
    have h4 := (Below.heap_alloc x3 (.cells #[.int .i64 7, .string ⟨ux.toArray⟩, .int .i64 un] 58) _ hsz).trans h3.here
    have k0 := cell_of (k := 0) h4 rfl
    have k1 := cell_of (k := 1) h4 rfl
    have k2 := cell_of (k := 2) h4 rfl
    clear hg4 hc4 O5 h3 h4 hres hg5 hC5 hPw4 hQ hk1 hk2 hT5
    go_wp2_with fail
    exact bodyPost_ret (v := .tuple #[.agg #[.int .i64 7, .string ⟨ux.toArray⟩, .int .i64 un], .bool true]) (by simp [results, Tryz.results110, go_sem, k0, k1, k2]) rfl ⟨rfl, G1.out, G2.out⟩
end Go.Proofs.YtbodmfbpmeapoaaGreat
