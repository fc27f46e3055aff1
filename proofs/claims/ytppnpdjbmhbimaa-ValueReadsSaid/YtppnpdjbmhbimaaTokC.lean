/- Package tokens: Over. -/
import Derived.Test.YtppnpdjbmhbimaaTokB
namespace Go.Proofs.Ytppnpdjbmhbimaa
open Go.RowKit TreN LexP FixP SynP ValP
set_option linter.unusedVariables false

/-- while Over looks ahead: its own cursor, its answer's block -/
structure OvAt (w0 w wr : World) (Q : Nat) (m : List Tok) : Prop where
  bel : Below w.heap.size w wr
  res : wr.heap[w.heap.size]? = some (.cells #[.int .i64 0, .string ⟨#[]⟩, .int .i64 0] 44 (0, 0))
  cur : Cur w0 wr Q 56 [] m
  at_ : Q = w.heap.size + 1
theorem OvAt.lt {w0 w wr : World} {Q : Nat} {m : List Tok} (h : OvAt w0 w wr Q m) : w.heap.size < wr.heap.size := blk_lt h.res
theorem OvAt.step {w0 w wr wx : World} {Q : Nat} {m r : List Tok} (h : OvAt w0 w wr Q m) (hg : wr.grownBy wx (some Q)) (hc : Cur w0 wx Q 56 [] r) : OvAt w0 w wx Q r :=
  ⟨h.bel.grown hg h.bel.size (fun k hk => by injection hk with hk; have := h.at_; omega), by rw [hg.block _ h.lt (by have := h.at_; intro e; injection e with e; omega)]; exact h.res, hc, h.at_⟩
theorem OvAt.keep {w0 w wr wx : World} {Q : Nat} {m : List Tok} (h : OvAt w0 w wr Q m) (hb : Below wr.heap.size wr wx) : OvAt w0 w wx Q m := h.step (grownBy_below _ hb) (h.cur.keep hb)
theorem OvAt.start {w0 w : World} {P : Nat} {T : TypeId} {rest : List Value} {l : List Tok} {a : Option Addr} {n c : Nat} (h : Cur w0 w P T rest l) (hP : w.heap[P]? = some (.cells (.slice a n c :: rest).toArray T (0, 0))) (hn : l.length = n) :
    OvAt w0 w ((w.alloc (.cells #[.int .i64 0, .string ⟨#[]⟩, .int .i64 0] 44)).alloc (.cells #[.slice a n c] 56)) (w.heap.size + 1) l := by
  obtain ⟨a', c', h1, h2, h3, h4⟩ := h.ex
  rw [hP] at h1
  injection h1 with h1; injection h1 with h1 _ _
  have e := congrArg (fun (x : Array Value) => x[0]?) h1
  simp at e
  obtain ⟨rfl, e2, rfl⟩ := e
  have hB : Below w.heap.size w ((w.alloc (.cells #[.int .i64 0, .string ⟨#[]⟩, .int .i64 0] 44)).alloc (.cells #[.slice a n c] 56)) := ((Below.refl _ _).alloc (Nat.le_refl _) _).alloc (by simp) _
  refine ⟨hB, ?_, ⟨⟨a, c, ?_, h2, h3, h4⟩, by have := h.bel.size; omega, h.bel.trans (hB.mono h.bel.size)⟩, rfl⟩
  · rw [Below.heap_alloc _ _ _ (by simp)]; exact heap_alloc_new w _
  · rw [hn]
    have := heap_alloc_new (w.alloc (.cells #[.int .i64 0, .string ⟨#[]⟩, .int .i64 0] 44)) (.cells #[.slice a n c] 56)
    simpa using this

set_option maxRecDepth 100000 in
set_option maxHeartbeats 2000000 in
theorem Over_no {w0 w : World} {P : Nat} {T : TypeId} {rest : List Value} {l : List Tok} (h : Cur w0 w P T rest l) (ho : overP l = none) :
    Calls Try.prog 64 #[.pointer (some ⟨P, 0, none⟩)] w fun e w' => e = .returned (.tuple #[zeroT.val, .bool false]) ∧ Below w.heap.size w w' := by
  obtain ⟨a, c, hb, hc1, hc2, hT⟩ := h.ex
  obtain ⟨n, hn⟩ : ∃ n, l.length = n := ⟨_, rfl⟩
  rw [hn] at hb
  have O1 := Lib.hid (OvAt.start h hb hn)
  have c0 : w.cell? ⟨P, 0, none⟩ = some (.slice a n c) := cell_of hb rfl
  have hlt := h.lt
  clear hb hT h hn hc2 hc1
  unfold overP at ho
  have HO := Lib.hid ho
  clear ho
  go_enter Try.func64, Try.ntmps64
  go_wp2_with fail
  refine (Spaces_any O1.out.cur).mono ?_
  rintro e w1 ⟨rfl, hg1, hc1⟩
  have O2 := Lib.hid (O1.out.step hg1 hc1)
  clear hg1 hc1
  cases hp : passP 19 [47] (bs l) with
  | none =>
    have PN := Lib.hid (Pass_no 19 [47] O2.out.cur hp)
    clear hp HO
    go_wp2_with fail
    refine PN.out.mono ?_
    rintro e w2 ⟨rfl, hb2⟩
    have O3 := O2.out.keep hb2
    obtain ⟨x1, x2, x3, ⟨p0, q0, r0⟩, ⟨p1, q1, r1⟩, ⟨p2, q2, r2⟩, h3⟩ := three_store w2 w.heap.size 44 _ _ _ (.int .i64 0) (.string ⟨#[]⟩) (.int .i64 0) O3.res
    have G1 := Lib.hid (h3.below w.heap.size _ (Nat.le_refl _) O3.bel)
    have k0 := cell_of (k := 0) h3.here rfl
    have k1 := cell_of (k := 1) h3.here rfl
    have k2 := cell_of (k := 2) h3.here rfl
    clear hb2 O3 h3
    go_wp2_with fail
    exact bodyPost_ret (v := .tuple #[zeroT.val, .bool false]) (by simp [results, Try.results64, go_sem, LexP.Tok.val, zeroT, k0, k1, k2]) rfl ⟨rfl, G1.out⟩
  | some r =>
    obtain ⟨t, hbs, ht1, ht2⟩ := passP_len hp
    have HO2 := HO.out
    rw [hp] at HO2
    have HO3 : takeP 7 (bs r) = none := HO2
    have O2b : OvAt w0 w w1 (w.heap.size + 1) (t :: r) := by rw [← hbs]; exact O2.out
    have PY := Pass_yes O2b.cur
    rw [ht1, ht2] at PY
    have PYY := Lib.hid PY
    have OO := Lib.hid O2b
    have HT := Lib.hid HO3
    clear hp HO hbs ht1 ht2 HO2 HO3 O2b PY
    go_wp2_with fail
    refine PYY.out.mono ?_
    rintro e w2 ⟨rfl, hg2, hc2⟩
    have O3 := Lib.hid (OO.out.step hg2 hc2)
    clear hg2 hc2
    go_wp2_with fail
    refine (Spaces_any O3.out.cur).mono ?_
    rintro e w3 ⟨rfl, hg3, hc3⟩
    have O4 := Lib.hid (O3.out.step hg3 hc3)
    have TN := Lib.hid (Take_no 7 O4.out.cur HT.out)
    clear hg3 hc3
    go_wp2_with fail
    refine TN.out.mono ?_
    show ∀ e w', e = Ending.returned (.tuple #[.agg #[.int .i64 0, .string ⟨#[]⟩, .int .i64 0], .bool false]) ∧ _ → _
    rintro e w4 ⟨rfl, hb4⟩
    have O5 := O4.out.keep hb4
    obtain ⟨x1, x2, x3, ⟨p0, q0, r0⟩, ⟨p1, q1, r1⟩, ⟨p2, q2, r2⟩, h3⟩ := three_store w4 w.heap.size 44 _ _ _ (.int .i64 0) (.string ⟨#[]⟩) (.int .i64 0) O5.res
    have hw4 := O5.lt
    have hsz : w.heap.size < x3.heap.size := by rw [h3.size]; exact hw4
    have hs1 : w.heap.size < x1.heap.size := by rw [← r0, setCell_size]; exact hw4
    have hs2 : w.heap.size < x2.heap.size := by rw [← r1, setCell_size]; exact hs1
    have G1 := Lib.hid ((h3.below w.heap.size _ (Nat.le_refl _) O5.bel).alloc (Nat.le_of_lt hsz) (.cells #[.int .i64 0, .string ⟨#[]⟩, .int .i64 0] 44))
    have h4 := (Below.heap_alloc x3 (.cells #[.int .i64 0, .string ⟨#[]⟩, .int .i64 0] 44) _ hsz).trans h3.here
    have k0 := cell_of (k := 0) h4 rfl
    have k1 := cell_of (k := 1) h4 rfl
    have k2 := cell_of (k := 2) h4 rfl
    clear hb4 O5 h3 h4
    go_wp2_with fail
    exact bodyPost_ret (v := .tuple #[zeroT.val, .bool false]) (by simp [results, Try.results64, go_sem, LexP.Tok.val, zeroT, k0, k1, k2]) rfl ⟨rfl, G1.out⟩
set_option maxRecDepth 100000 in
set_option maxHeartbeats 2000000 in
theorem Over_yes {w0 w : World} {P : Nat} {T : TypeId} {rest : List Value} {l r2 : List Tok} {u : Tok} (h : Cur w0 w P T rest l) (ho : overP l = some (u, r2)) :
    Calls Try.prog 64 #[.pointer (some ⟨P, 0, none⟩)] w fun e w' => e = .returned (.tuple #[u.val, .bool true]) ∧ w.grownBy w' (some P) ∧ Cur w0 w' P T rest r2 := by
  obtain ⟨a, c, hb, hc1, hc2, hT⟩ := h.ex
  obtain ⟨n, hn⟩ : ∃ n, l.length = n := ⟨_, rfl⟩
  rw [hn] at hb
  have O1 := Lib.hid (OvAt.start h hb hn)
  have c0 : w.cell? ⟨P, 0, none⟩ = some (.slice a n c) := cell_of hb rfl
  have hlt := h.lt
  have H := Lib.hid h
  have HHB := Lib.hid hb
  have h0 := h.base
  unfold overP at ho
  cases hp : passP 19 [47] (bs l) with
  | none => rw [hp] at ho; cases ho
  | some r =>
    rw [hp] at ho
    have ho : takeP 7 (bs r) = some (u, r2) := ho
    obtain ⟨t, hbs, ht1, ht2⟩ := passP_len hp
    obtain ⟨hbr, hu⟩ := takeP_len ho
    have HBS := Lib.hid hbs
    have HBR := Lib.hid hbr
    obtain ⟨uk, ux, un⟩ := u
    have hu : uk = 7 := hu
    subst hu
    show Calls _ _ _ _ fun e w' => e = .returned (.tuple #[.agg #[.int .i64 7, .string ⟨ux.toArray⟩, .int .i64 un], .bool true]) ∧ _
    have HT1 := Lib.hid ht1
    have HT2 := Lib.hid ht2
    clear hb hT h hn hc2 hc1 hp ho hbs hbr ht1 ht2
    go_enter Try.func64, Try.ntmps64
    go_wp2_with fail
    refine (Spaces_any O1.out.cur).mono ?_
    rintro e w1 ⟨rfl, hg1, hc1⟩
    have O2 : Hid (OvAt w0 w w1 (w.heap.size + 1) (t :: r)) := Lib.hid (by have := O1.out.step hg1 hc1; rw [HBS.out] at this; exact this)
    have PY := Pass_yes O2.out.cur
    rw [HT1.out, HT2.out] at PY
    have PYY := Lib.hid PY
    clear hg1 hc1 PY
    go_wp2_with fail
    refine PYY.out.mono ?_
    rintro e w2 ⟨rfl, hg2, hc2⟩
    have O3 := Lib.hid (O2.out.step hg2 hc2)
    clear hg2 hc2
    go_wp2_with fail
    refine (Spaces_any O3.out.cur).mono ?_
    rintro e w3 ⟨rfl, hg3, hc3⟩
    have O4 : Hid (OvAt w0 w w3 (w.heap.size + 1) (⟨7, ux, un⟩ :: r2)) := Lib.hid (by have := O3.out.step hg3 hc3; rw [HBR.out] at this; exact this)
    have TY : Hid (Calls Try.prog 63 #[.pointer (some ⟨w.heap.size + 1, 0, none⟩), .int .i64 7] w3 fun e w' => e = .returned (.tuple #[.agg #[.int .i64 7, .string ⟨ux.toArray⟩, .int .i64 un], .bool true]) ∧ w3.grownBy w' (some (w.heap.size + 1)) ∧ Cur w0 w' (w.heap.size + 1) 56 [] r2) := Lib.hid (Take_yes O4.out.cur)
    clear hg3 hc3
    go_wp2_with fail
    refine TY.out.mono ?_
    rintro e w4 ⟨rfl, hg4, hc4⟩
    have O5 := O4.out.step hg4 hc4
    obtain ⟨a5, c5, hQ, hk1, hk2, hT5⟩ := O5.cur.ex
    have q0 : w4.cell? ⟨w.heap.size + 1, 0, none⟩ = some (.slice a5 r2.length c5) := cell_of hQ rfl
    have hPw4 : w4.heap[P]? = some (.cells (.slice a n c :: rest).toArray T (0, 0)) := by rw [O5.bel.block P hlt]; exact HHB.out
    have c2 : w4.cell? ⟨P, 0, none⟩ = some (.slice a n c) := cell_of hPw4 rfl
    have c3 : w4.frozen? ⟨P, 0, none⟩ = false := unfrozen_of hPw4
    have hw4 := O5.lt
    have hQw4 := blk_lt hQ
    have hPw := blk_lt hPw4
    have hres : (w4.setCell ⟨P, 0, none⟩ (.slice a5 r2.length c5)).heap[w.heap.size]? = some (.cells #[.int .i64 0, .string ⟨#[]⟩, .int .i64 0] 44 (0, 0)) := by rw [setCell_there _ (by omega)]; exact O5.res
    obtain ⟨x1, x2, x3, ⟨p0, qq0, r0⟩, ⟨p1, q1, r1⟩, ⟨p2, q2, r2'⟩, h3⟩ := three_store (w4.setCell ⟨P, 0, none⟩ (.slice a5 r2.length c5)) w.heap.size 44 _ _ _ (.int .i64 7) (.string ⟨ux.toArray⟩) (.int .i64 un) hres
    have hsz : w.heap.size < x3.heap.size := by rw [h3.size, setCell_size]; exact hw4
    have hs1 : w.heap.size < x1.heap.size := by rw [← r0, setCell_size, setCell_size]; exact hw4
    have hs2 : w.heap.size < x2.heap.size := by rw [← r1, setCell_size]; exact hs1
    have hg5 : w.grownBy (w4.setCell ⟨P, 0, none⟩ (.slice a5 r2.length c5)) (some P) := grownBy_trans (grownBy_below _ O5.bel) (grownBy_set _ _ _ _)
    have hC5 : Cur w0 (w4.setCell ⟨P, 0, none⟩ (.slice a5 r2.length c5)) P T rest r2 := ⟨⟨a5, c5, by rw [setCell_here _ hPw4]; simp, hk1, hk2, hT5⟩, h0, H.out.bel.grown hg5 H.out.bel.size (fun k hk => by injection hk with hk; omega)⟩
    have G1 := Lib.hid (grownBy_then (grownBy_then hg5 (h3.below w.heap.size _ (Nat.le_refl _) (Below.refl _ _))) ((Below.refl _ _).alloc (Nat.le_of_lt hsz) (.cells #[.int .i64 7, .string ⟨ux.toArray⟩, .int .i64 un] 44)))
    have G2 := Lib.hid ((hC5.three h3 (by omega) (Nat.le_trans h0 (by omega))).keep ((Below.refl _ _).alloc (Nat.le_refl _) (.cells #[.int .i64 7, .string ⟨ux.toArray⟩, .int .i64 un] 44)))
    have h4 := (Below.heap_alloc x3 (.cells #[.int .i64 7, .string ⟨ux.toArray⟩, .int .i64 un] 44) _ hsz).trans h3.here
    have k0 := cell_of (k := 0) h4 rfl
    have k1 := cell_of (k := 1) h4 rfl
    have k2 := cell_of (k := 2) h4 rfl
    clear hg4 hc4 O5 h3 h4 hres hg5 hC5 hPw4 hQ hk1 hk2 hT5
    go_wp2_with fail
    exact bodyPost_ret (v := .tuple #[.agg #[.int .i64 7, .string ⟨ux.toArray⟩, .int .i64 un], .bool true]) (by simp [results, Try.results64, go_sem, k0, k1, k2]) rfl ⟨rfl, G1.out, G2.out⟩
end Go.Proofs.Ytppnpdjbmhbimaa
