/- Layer 19: Put whole. -/
import Derived.Test.YtajmmnmagbnigaaStrW5
import Derived.Deep.LoopGhost
import Derived.Shelf.Abstract
import Derived.Deep.DeepCutAuto
namespace Go.Proofs.Ytajmmnmagbnigaa
open Go.RowKit FixM StrP Go.Sort
set_option linter.unusedVariables false

/-- parts in memory -/
def PtAt (W : World) (b o : Nat) (p : Pt) : Prop := W.cell? ⟨b, o, none⟩ = some (.int .i64 p.tu) ∧ W.cell? ⟨b, o + 1, none⟩ = some (.int .i64 p.td) ∧ W.cell? ⟨b, o + 2, none⟩ = some (.int .i64 p.bu) ∧ W.cell? ⟨b, o + 3, none⟩ = some (.int .i64 p.bd) ∧ W.cell? ⟨b, o + 4, none⟩ = some (.int .i64 p.h) ∧ W.cell? ⟨b, o + 5, none⟩ = some (.bool p.thr)
def Pts19 (W : World) (a : Option Addr) (l : List Pt) : Prop := l = [] ∨ ∃ b off, a = some ⟨b, off, none⟩ ∧ b < W.heap.size ∧ ∀ j (h : j < l.length), PtAt W b (off + j * 6) l[j]
theorem Pts19.below {W W' : World} {a : Option Addr} {l : List Pt} (h : Pts19 W a l) (hb : Below W.heap.size W W') : Pts19 W' a l := by
  rcases h with h | ⟨b, off, e, hl, hc⟩
  · exact Or.inl h
  · refine Or.inr ⟨b, off, e, Nat.lt_of_lt_of_le hl hb.size, fun j hj => ?_⟩
    obtain ⟨h0, h1, h2, h3, h4, h5⟩ := hc j hj
    exact ⟨(hb.cell (p := ⟨b, _, none⟩) hl).trans h0, (hb.cell (p := ⟨b, _, none⟩) hl).trans h1, (hb.cell (p := ⟨b, _, none⟩) hl).trans h2, (hb.cell (p := ⟨b, _, none⟩) hl).trans h3, (hb.cell (p := ⟨b, _, none⟩) hl).trans h4, (hb.cell (p := ⟨b, _, none⟩) hl).trans h5⟩
theorem enters_put1 : ∀ args w, (callFunc 22 args).run Try.prog w = .ok (.enter 22 args) w := enters_of Try.func22 (by kernel_rfl) rfl

set_option maxRecDepth 100000 in
set_option maxHeartbeats 4000000 in
theorem tell_any (w0 : World) (K : Nat) (s : Sk) (a : Option Addr) (l : List Pt) (n cap : Nat) (w : World) (hn : l.length = n) (hm : n ≤ 1000) (h : Pk w0 w K s []) (hL : Pts19 w0 a l) :
    Calls Try.prog 21 #[.slice a n cap, .func (.func 22) #[] #[.pointer (some ⟨K, 0, none⟩)]] w fun e w' => e = .returned (.tuple #[]) ∧ Pk w0 w' K (run s l) (ats s l) := by
  have eq := enters_put1
  have HP0 := Lib.hid h
  have HL := Lib.hid hL
  have HN := Lib.hid hn
  clear h hL hn
  go_enter Try.func21, Try.ntmps21
  go_wp2_with fail
  go_loopw [8] (fun i wr => ∃ k : Nat, i = .int .i64 k ∧ k ≤ n ∧ Hid (Pk w0 wr K (run s (l.take k)) (ats s (l.take k)))) (fun i _ => n - (intOf i).toNat)
  case atStart => exact ⟨0, rfl, Nat.zero_le _, HP0⟩
  case round =>
    obtain ⟨k, rfl, hk, HP⟩ := hrel
    by_cases hlt : k < n
    · have hkl : k < l.length := by rw [HN.out]; exact hlt
      have hz : (k : Int) < (n : Int) := by omega
      obtain ⟨b, off, rfl, hb, hc⟩ : ∃ b off, a = some ⟨b, off, none⟩ ∧ b < wr.heap.size ∧ PtAt wr b (off + k * 6) l[k] := by
        rcases HL.out.below (HP.out.bel) with h | ⟨b, off, e, h1, h2⟩
        · rw [h] at hkl; simp at hkl
        · exact ⟨b, off, e, h1, h2 k hkl⟩
      obtain ⟨p, hp⟩ : ∃ p, l[k] = p := ⟨_, rfl⟩
      rw [hp] at hc
      have HT : Hid (l.take (k + 1) = l.take k ++ [p]) := Lib.hid (by rw [← hp]; simp)
      have hal : (ats s (l.take k)).length ≤ 100000 := by rw [ats_length, List.length_take]; omega
      have HC := Lib.hid (fun W (hW : Below wr.heap.size wr W) => told_any w0 K (run s (l.take k)) (ats s (l.take k)) p W (HP.out.below hW) hal)
      unfold ptc at HC
      obtain ⟨d0, d1, d2, d3, d4, d5⟩ := hc
      have hbel : Below wr.heap.size wr (wr.alloc (.cells #[.int .i64 p.tu, .int .i64 p.td, .int .i64 p.bu, .int .i64 p.bd, .int .i64 p.h, .bool p.thr] 37)) := (Below.refl _ _).alloc (Nat.le_refl _) _
      have HB := Lib.hid hbel
      clear hp hkl hal hbel
      go_wp2_with fail
      refine (HC.out _ HB.out).mono ?_
      rintro e w2 ⟨rfl, hP2⟩
      have HP2 : Hid (Pk w0 w2 K (run s (l.take (k + 1))) (ats s (l.take (k + 1)))) := Lib.hid (by rw [HT.out, run_snoc, ats_snoc]; exact hP2)
      clear hP2
      go_wp2_with fail
      go_roundw
      case rel => exact ⟨k + 1, by go_num, by omega, HP2⟩
      case measure => simp [intOf]; omega
    · have hz : (n : Int) ≤ (k : Int) := by omega
      have HF : Hid (Pk w0 wr K (run s l) (ats s l)) := Lib.hid (by
        have := HP.out
        rw [List.take_of_length_le (by rw [HN.out]; omega)] at this
        exact this)
      go_wp2_with fail
      go_end0
      exact ⟨rfl, HF.out⟩
/-- what Put answers -/
def stv (nv : Value) (s : Sk) : Value := .agg #[nv, .int .i64 s.hu, .int .i64 s.hd, .int .i64 s.fu, .int .i64 s.fd, .int .i64 s.hh, .bool s.th]
theorem own_monoA {w : World} {b b' : Nat} {e : TypeId} {size : Nat} {v : Value} {n : Nat} {xs : List Value} (h : w.ownsRow b e size v n xs) (hb : b' ≤ b) : w.ownsRow b' e size v n xs := by
  obtain ⟨h1, h2⟩ := h
  refine ⟨h1, ?_⟩
  rcases h2 with h2 | ⟨g, cap, cur, hv, hg, r⟩
  · exact Or.inl h2
  · exact Or.inr ⟨g, cap, cur, hv, Nat.le_trans hb hg, r⟩
def PutIs (w : World) (n : Nat) (s : Sk) (xs : List Int) (e : Ending) (w' : World) : Prop :=
  ∃ nv, e = .returned (stv nv s) ∧ w'.ownsRow w.heap.size 3 1 nv n (inc xs) ∧ Below w.heap.size w w'
theorem put7g (W : World) (B : Nat) (v0 v1 v2 v3 v4 v5 v6 : Value) :
    W.grownBy (((((((W.setCell ⟨B, 0, none⟩ v0).setCell ⟨B, 1, none⟩ v1).setCell ⟨B, 2, none⟩ v2).setCell ⟨B, 3, none⟩ v3).setCell ⟨B, 4, none⟩ v4).setCell ⟨B, 5, none⟩ v5).setCell ⟨B, 6, none⟩ v6) (some B) := by
  have h0 : W.grownBy W (some B) := ⟨rfl, rfl, rfl, Nat.le_refl _, fun _ _ _ => rfl⟩
  have h1 := grown_set h0 0 v0
  have h2 := grown_set h1 1 v1
  have h3 := grown_set h2 2 v2
  have h4 := grown_set h3 3 v3
  have h5 := grown_set h4 4 v4
  have h6 := grown_set h5 5 v5
  exact grown_set h6 6 v6
theorem put7 (W : World) (B : Nat) (T : TypeId) (a0 a1 a2 a3 a4 a5 a6 v0 v1 v2 v3 v4 v5 v6 : Value) (h : W.heap[B]? = some (.cells #[a0, a1, a2, a3, a4, a5, a6] T (0, 0))) :
    (((((((W.setCell ⟨B, 0, none⟩ v0).setCell ⟨B, 1, none⟩ v1).setCell ⟨B, 2, none⟩ v2).setCell ⟨B, 3, none⟩ v3).setCell ⟨B, 4, none⟩ v4).setCell ⟨B, 5, none⟩ v5).setCell ⟨B, 6, none⟩ v6).heap[B]? = some (.cells #[v0, v1, v2, v3, v4, v5, v6] T (0, 0)) ∧
    W.grownBy (((((((W.setCell ⟨B, 0, none⟩ v0).setCell ⟨B, 1, none⟩ v1).setCell ⟨B, 2, none⟩ v2).setCell ⟨B, 3, none⟩ v3).setCell ⟨B, 4, none⟩ v4).setCell ⟨B, 5, none⟩ v5).setCell ⟨B, 6, none⟩ v6) (some B) := by
  have k0 : (W.setCell ⟨B, 0, none⟩ v0).heap[B]? = some (.cells #[v0, a1, a2, a3, a4, a5, a6] T (0, 0)) := heap_setCell_same _ B 0 _ T v0 h
  have k1 : ((W.setCell ⟨B, 0, none⟩ v0).setCell ⟨B, 1, none⟩ v1).heap[B]? = some (.cells #[v0, v1, a2, a3, a4, a5, a6] T (0, 0)) := heap_setCell_same _ B 1 _ T v1 k0
  have k2 : (((W.setCell ⟨B, 0, none⟩ v0).setCell ⟨B, 1, none⟩ v1).setCell ⟨B, 2, none⟩ v2).heap[B]? = some (.cells #[v0, v1, v2, a3, a4, a5, a6] T (0, 0)) := heap_setCell_same _ B 2 _ T v2 k1
  have k3 : ((((W.setCell ⟨B, 0, none⟩ v0).setCell ⟨B, 1, none⟩ v1).setCell ⟨B, 2, none⟩ v2).setCell ⟨B, 3, none⟩ v3).heap[B]? = some (.cells #[v0, v1, v2, v3, a4, a5, a6] T (0, 0)) := heap_setCell_same _ B 3 _ T v3 k2
  have k4 : (((((W.setCell ⟨B, 0, none⟩ v0).setCell ⟨B, 1, none⟩ v1).setCell ⟨B, 2, none⟩ v2).setCell ⟨B, 3, none⟩ v3).setCell ⟨B, 4, none⟩ v4).heap[B]? = some (.cells #[v0, v1, v2, v3, v4, a5, a6] T (0, 0)) := heap_setCell_same _ B 4 _ T v4 k3
  have k5 : ((((((W.setCell ⟨B, 0, none⟩ v0).setCell ⟨B, 1, none⟩ v1).setCell ⟨B, 2, none⟩ v2).setCell ⟨B, 3, none⟩ v3).setCell ⟨B, 4, none⟩ v4).setCell ⟨B, 5, none⟩ v5).heap[B]? = some (.cells #[v0, v1, v2, v3, v4, v5, a6] T (0, 0)) := heap_setCell_same _ B 5 _ T v5 k4
  have k6 : (((((((W.setCell ⟨B, 0, none⟩ v0).setCell ⟨B, 1, none⟩ v1).setCell ⟨B, 2, none⟩ v2).setCell ⟨B, 3, none⟩ v3).setCell ⟨B, 4, none⟩ v4).setCell ⟨B, 5, none⟩ v5).setCell ⟨B, 6, none⟩ v6).heap[B]? = some (.cells #[v0, v1, v2, v3, v4, v5, v6] T (0, 0)) := heap_setCell_same _ B 6 _ T v6 k5
  exact ⟨k6, put7g W B v0 v1 v2 v3 v4 v5 v6⟩

set_option maxRecDepth 100000 in
set_option maxHeartbeats 4000000 in
theorem Put19_any (a : Option Addr) (l : List Pt) (n cap : Nat) (top bottom : Bool) (w : World) (hn : l.length = n) (hm : n ≤ 1000) (hL : Pts19 w a l) :
    Calls Try.prog 15 #[.slice a n cap, .bool top, .bool bottom] w (PutIs w n (fin (run (sk0 top bottom) l)) (ats (sk0 top bottom) l)) := by
  have hmf : ∀ (fn : Fn) (first cap : Array Value) (w : World), (Instr.makeFunc fn first cap).run Try.prog w = .ok (.func fn first cap) w := fun _ _ _ _ => rfl
  have hxl : (ats (sk0 top bottom) l).length = n := by rw [ats_length, hn]
  have HXL := Lib.hid hxl
  have CT0 : ∀ w0 K W, Pk w0 W K (sk0 top bottom) [] → Pts19 w0 a l → Calls Try.prog 21 #[.slice a n cap, .func (.func 22) #[] #[.pointer (some ⟨K, 0, none⟩)]] W fun e w' => e = .returned (.tuple #[]) ∧ Pk w0 w' K (run (sk0 top bottom) l) (ats (sk0 top bottom) l) := fun w0 K W h1 h2 => tell_any w0 K _ a l n cap W hn hm h1 h2
  obtain ⟨r, hr⟩ : ∃ r, run (sk0 top bottom) l = r := ⟨_, rfl⟩
  obtain ⟨xs, hxs⟩ : ∃ xs, ats (sk0 top bottom) l = xs := ⟨_, rfl⟩
  rw [hxs] at HXL
  rw [hr, hxs] at CT0 ⊢
  have CF0 : ∀ K nv W, W.heap[K]? = some (.cells (skc nv r) 49 (0, 0)) → Calls Try.prog 24 #[.pointer (some ⟨K, 0, none⟩)] W (Finished W K nv (fin r)) := fun K nv W h => finish_any K nv r W h
  obtain ⟨q, hq⟩ : ∃ q, fin r = q := ⟨_, rfl⟩
  rw [hq] at CF0 ⊢
  have CT := Lib.hid CT0
  have CF := Lib.hid CF0
  have hL0 := hL.below ((Below.refl _ _).alloc (Nat.le_refl _) (.cells #[.slice none 0 0, .int .i64 0, .int .i64 0, .int .i64 0, .int .i64 0, .int .i64 0, .bool false] 40))
  have hb0 : Below w.heap.size w (w.alloc (.cells #[.slice none 0 0, .int .i64 0, .int .i64 0, .int .i64 0, .int .i64 0, .int .i64 0, .bool false] 40)) := (Below.refl _ _).alloc (Nat.le_refl _) _
  have hr0 := heap_alloc_new w (.cells #[.slice none 0 0, .int .i64 0, .int .i64 0, .int .i64 0, .int .i64 0, .int .i64 0, .bool false] 40)
  have hs0 : (w.alloc (.cells #[.slice none 0 0, .int .i64 0, .int .i64 0, .int .i64 0, .int .i64 0, .int .i64 0, .bool false] 40)).heap.size = w.heap.size + 1 := by simp
  generalize hW0 : w.alloc (.cells #[.slice none 0 0, .int .i64 0, .int .i64 0, .int .i64 0, .int .i64 0, .int .i64 0, .bool false] 40) = W0 at *
  have hk0 := heap_alloc_new W0 (.cells #[.slice none 0 0, .int .i64 0, .int .i64 0, .int .i64 0, .int .i64 0, .int .i64 0, .bool false, .bool top, .bool bottom, .bool false, .int .i64 0, .int .i64 0, .int .i64 0] 49)
  have hb1 : Below W0.heap.size W0 (W0.alloc (.cells #[.slice none 0 0, .int .i64 0, .int .i64 0, .int .i64 0, .int .i64 0, .int .i64 0, .bool false, .bool top, .bool bottom, .bool false, .int .i64 0, .int .i64 0, .int .i64 0] 49)) := (Below.refl _ _).alloc (Nat.le_refl _) _
  generalize hW1 : W0.alloc (.cells #[.slice none 0 0, .int .i64 0, .int .i64 0, .int .i64 0, .int .i64 0, .int .i64 0, .bool false, .bool top, .bool bottom, .bool false, .int .i64 0, .int .i64 0, .int .i64 0] 49) = W1 at *
  rw [hs0] at hk0
  have HB0 := Lib.hid hb0
  have HR0 := Lib.hid hr0
  have HS0 := Lib.hid hs0
  have HT := Lib.hid (CT.out W0 (w.heap.size + 1) W1 ⟨⟨_, hk0, World.ownsRow_nil _ _ _ _⟩, hb1, by rw [hs0]; exact Nat.le_refl _⟩ hL0)
  have HW1 := Lib.hid hW1
  clear hW1
  clear hr hxs hq CT0 CF0 hL hL0 hb0 hr0 hk0 hb1 hn hxl CT
  go_enter Try.func15, Try.ntmps15
  go_upto_region 2 with (fail)
  rw [HW1.out]
  go_wp2_with fail
  refine HT.out.mono ?_
  rintro e w2 ⟨rfl, hP⟩
  have HP := Lib.hid hP
  obtain ⟨nv, hk, ho⟩ := hP.ex
  obtain ⟨nx, nm, nc, rfl⟩ : ∃ x m c, nv = .slice x m c := by
    rcases ho.2 with ⟨h, _⟩ | ⟨g, cap, cur, h, _⟩
    · exact ⟨_, _, _, h⟩
    · exact ⟨_, _, _, h⟩
  have HK := Lib.hid hk
  have HO := Lib.hid ho
  have hF := Lib.hid (CF.out _ _ _ hk)
  clear hP hk ho HT CF
  go_wp2_with fail
  refine hF.out.mono ?_
  rintro e w3 ⟨rfl, hg3, hk3⟩
  have hr3 : w3.heap[w.heap.size]? = some (.cells #[.slice none 0 0, .int .i64 0, .int .i64 0, .int .i64 0, .int .i64 0, .int .i64 0, .bool false] 40 (0, 0)) := by
    have h1 := HP.out.bel.block w.heap.size (by rw [HS0.out]; omega)
    rw [hg3.block w.heap.size (by have := HP.out.bel.size; have := HS0.out; omega) (by intro e; injection e with e; omega), h1]
    exact HR0.out
  have ho3 := rowA_grown HO.out (Nat.lt_succ_self _) hg3
  have hb3 : Below w.heap.size w w3 := (HB0.out.trans (HP.out.bel.mono (by rw [HS0.out]; omega))).grown hg3 (by have := HP.out.bel.size; have := HS0.out; omega) (fun q hq => by injection hq with hq; omega)
  obtain ⟨m, hm7⟩ : ∃ m, xs.length = m := ⟨_, rfl⟩
  have p0 : w3.cell? ⟨w.heap.size + 1, 0, none⟩ = some ((.slice nx nm nc)) := cell_ofS hk3 rfl
  have p1 : w3.cell? ⟨w.heap.size + 1, 1, none⟩ = some (.int .i64 q.hu) := cell_ofS hk3 rfl
  have p2 : w3.cell? ⟨w.heap.size + 1, 2, none⟩ = some (.int .i64 q.hd) := cell_ofS hk3 rfl
  have p3 : w3.cell? ⟨w.heap.size + 1, 3, none⟩ = some (.int .i64 q.fu) := cell_ofS hk3 rfl
  have p4 : w3.cell? ⟨w.heap.size + 1, 4, none⟩ = some (.int .i64 q.fd) := cell_ofS hk3 rfl
  have p5 : w3.cell? ⟨w.heap.size + 1, 5, none⟩ = some (.int .i64 q.hh) := cell_ofS hk3 rfl
  have p6 : w3.cell? ⟨w.heap.size + 1, 6, none⟩ = some (.bool q.th) := cell_ofS hk3 rfl
  have c0 : w3.cell? ⟨w.heap.size, 0, none⟩ = some (.slice none 0 0) := cell_ofS hr3 rfl
  have c1 : w3.cell? ⟨w.heap.size, 1, none⟩ = some (.int .i64 0) := cell_ofS hr3 rfl
  have c2 : w3.cell? ⟨w.heap.size, 2, none⟩ = some (.int .i64 0) := cell_ofS hr3 rfl
  have c3 : w3.cell? ⟨w.heap.size, 3, none⟩ = some (.int .i64 0) := cell_ofS hr3 rfl
  have c4 : w3.cell? ⟨w.heap.size, 4, none⟩ = some (.int .i64 0) := cell_ofS hr3 rfl
  have c5 : w3.cell? ⟨w.heap.size, 5, none⟩ = some (.int .i64 0) := cell_ofS hr3 rfl
  have c6 : w3.cell? ⟨w.heap.size, 6, none⟩ = some (.bool false) := cell_ofS hr3 rfl
  have f0 := frz_ofS (k := 0) hr3
  have f1 := frz_ofS (k := 1) hr3
  have f2 := frz_ofS (k := 2) hr3
  have f3 := frz_ofS (k := 3) hr3
  have f4 := frz_ofS (k := 4) hr3
  have f5 := frz_ofS (k := 5) hr3
  have f6 := frz_ofS (k := 6) hr3
  have l0 := blk_ltS hr3
  have l1 := blk_ltS hk3
  have H3 := Lib.hid (And.intro hr3 (And.intro ho3 (And.intro hb3 hm7)))
  clear hr3 ho3 hb3 hg3 hk3 hF hm7
  go_wp2_with fail
  obtain ⟨k7, g7⟩ := put7 w3 w.heap.size 40 _ _ _ _ _ _ _ (.slice nx nm nc) (.int .i64 q.hu) (.int .i64 q.hd) (.int .i64 q.fu) (.int .i64 q.fd) (.int .i64 q.hh) (.bool q.th) H3.out.1
  have e0 := cell_ofS (k := 0) k7 rfl
  have e1 := cell_ofS (k := 1) k7 rfl
  have e2 := cell_ofS (k := 2) k7 rfl
  have e3 := cell_ofS (k := 3) k7 rfl
  have e4 := cell_ofS (k := 4) k7 rfl
  have e5 := cell_ofS (k := 5) k7 rfl
  have e6 := cell_ofS (k := 6) k7 rfl
  have hbel : Below w.heap.size w (((((((w3.setCell ⟨w.heap.size, 0, none⟩ (.slice nx nm nc)).setCell ⟨w.heap.size, 1, none⟩ (.int .i64 q.hu)).setCell ⟨w.heap.size, 2, none⟩ (.int .i64 q.hd)).setCell ⟨w.heap.size, 3, none⟩ (.int .i64 q.fu)).setCell ⟨w.heap.size, 4, none⟩ (.int .i64 q.fd)).setCell ⟨w.heap.size, 5, none⟩ (.int .i64 q.hh)).setCell ⟨w.heap.size, 6, none⟩ (.bool q.th)) := H3.out.2.2.1.grown g7 H3.out.2.2.1.size (fun k hk => by injection hk with hk; omega)
  have hrow := own_monoA (rowA_grown H3.out.2.1 (by omega) g7) (Nat.le_of_lt (by omega : w.heap.size < w.heap.size + 1 + 1))
  refine bodyPost_ret (v := stv (.slice nx nm nc) q) (by simp [results, Try.results15, go_sem, stv, e0, e1, e2, e3, e4, e5, e6]) rfl ⟨(.slice nx nm nc), rfl, ?_, hbel⟩
  have hx := HXL.out
  rw [hx] at hrow
  exact hrow
end Go.Proofs.Ytajmmnmagbnigaa
