/- Joined texts: SelW7 SelW8 SelW9 SelWA SelWB. -/
import Derived.Test.YtfbfndknhabmhaaGreatSelWa
import Derived.Deep.RegionWith
import Derived.Test.YtfbfndknhabmhaaGreatSelQ
import Derived.Test.YtfbfndknhabmhaaGreatSelGa
namespace Go.Proofs.YtfbfndknhabmhaaGreat
open Go.RowKit TreN LexP FixP SynP ValP SelP FixM
set_option linter.unusedVariables false

set_option maxRecDepth 100000 in
set_option maxHeartbeats 2000000 in
theorem combTokens_any (c : Int) (h0 : 0 ≤ c) (h4 : c ≤ 4) (w : World) : Calls Tryz.prog 50 #[.int .i64 c] w (ToldCap w (combT c)) := by
  have S := Lib.hid (fun W => Sign7_any 20 W)
  rcases (by omega : c = 0 ∨ c = 1 ∨ (2 ≤ c ∧ c ≤ 4)) with rfl | rfl | ⟨h2, h4⟩
  · have e : combT 0 = [] := rfl
    rw [e]
    clear e
    go_enter Tryz.func50, Tryz.ntmps50
    go_wp2_with fail
    refine (S.out _).mono ?_
    rintro e w1 ⟨rfl, rfl⟩
    go_wp2_with fail
    go_ret
    exact told_nil7 ((below_one7 _ _).alloc (by simp) _)
  · have e : combT 1 = [tkS 20] := rfl
    rw [e]
    clear e
    go_enter Tryz.func50, Tryz.ntmps50
    go_wp2_with fail
    refine (S.out _).mono ?_
    rintro e w1 ⟨rfl, rfl⟩
    go_wp2_with fail
    go_ret
    have := told_made7 [tkS 20] 1 rfl (by omega) ((below_one7 w (.cells #[.int .i64 20, .string ⟨#[]⟩, .int .i64 0] 70)).alloc (by simp) (.cells #[.int .i64 20, .string ⟨#[]⟩, .int .i64 0] 70))
    simpa [tkcs, tkS] using this
  · have e : combT c = [tkS 20, tkD (markS c), tkS 20] := by unfold combT; rw [if_neg (by omega), if_neg (by omega)]
    rw [e]
    have M := Lib.hid (fun W => mark_any c h2 h4 W)
    generalize markS c = x at *
    have D := Lib.hid (fun W => Delim7_any x W)
    have z0 : (c == 0) = false := by rw [beq_eq_false_iff_ne]; omega
    have z1 : (c == 1) = false := by rw [beq_eq_false_iff_ne]; omega
    clear e h0 h2 h4
    go_enter Tryz.func50, Tryz.ntmps50
    go_wp2_with fail
    refine (S.out _).mono ?_
    rintro e w1 ⟨rfl, rfl⟩
    go_wp2_with fail
    go_region_with (first
      | (go_at_call 82; refine (M.out _).mono ?_; rintro e w2 ⟨rfl, rfl⟩)
      | (go_at_call 81; refine (D.out _).mono ?_; rintro e w2 ⟨rfl, rfl⟩))
    all_goals
      go_wp2_with fail
      go_ret
      have := told_drew7 (told_made7 [tkS 20, tkD x, tkS 20] 3 rfl (by omega) (((below_one7 w (.cells #[.int .i64 20, .string ⟨#[]⟩, .int .i64 0] 70)).alloc (by simp) (.cells #[.int .i64 20, .string ⟨#[]⟩, .int .i64 0] 70)).alloc (by simp; omega) (.cells #[.int .i64 19, .string ⟨x.toArray⟩, .int .i64 0] 70)))
      simp [tkcs, tkS, tkD] at this
      exact this
end Go.Proofs.YtfbfndknhabmhaaGreat

namespace Go.Proofs.YtfbfndknhabmhaaGreat
open Go.RowKit TreN LexP FixP SynP ValP SelP FixM
set_option linter.unusedVariables false

theorem size_push7 (w : World) (o : Obj) : (w.alloc o).heap.size = w.heap.size + 1 := by simp
theorem fin1 (w W1 : World) (n : List UInt8) (o1 o2 A : Obj) (hA : W1.heap[w.heap.size]? = some A) (hB : Below w.heap.size w W1) :
    Hid (TokRow w.heap.size ((((W1.alloc o1).alloc o2).alloc (.cells #[.int .i64 15, .string ⟨#[]⟩, .int .i64 0, .int .i64 1, .string ⟨n.toArray⟩, .int .i64 0] 70)).drew) (.slice (some ⟨((W1.alloc o1).alloc o2).heap.size, 0, none⟩) 2 2) [tkS 15, tkI n] ∧ ((((W1.alloc o1).alloc o2).alloc (.cells #[.int .i64 15, .string ⟨#[]⟩, .int .i64 0, .int .i64 1, .string ⟨n.toArray⟩, .int .i64 0] 70)).drew).heap[w.heap.size]? = some A ∧ Below w.heap.size w ((((W1.alloc o1).alloc o2).alloc (.cells #[.int .i64 15, .string ⟨#[]⟩, .int .i64 0, .int .i64 1, .string ⟨n.toArray⟩, .int .i64 0] 70)).drew)) := by
  have hl : w.heap.size < W1.heap.size := (Array.getElem?_eq_some_iff.1 hA).1
  have hB3 : Below W1.heap.size W1 (((W1.alloc o1).alloc o2).alloc (.cells #[.int .i64 15, .string ⟨#[]⟩, .int .i64 0, .int .i64 1, .string ⟨n.toArray⟩, .int .i64 0] 70)) := (((Below.refl _ _).alloc (Nat.le_refl _) _).alloc (by simp) _).alloc (by simp; omega) _
  refine Lib.hid ⟨?_, ?_, ?_⟩
  · exact World.ownsRow.drew (TokRow.lit ((W1.alloc o1).alloc o2) [tkS 15, tkI n] 2 rfl (by omega) w.heap.size (by simp; omega))
  · exact (hB3.block _ hl).trans hA
  · exact (hB.trans (hB3.mono hB.size)).drew
set_option maxRecDepth 100000 in
set_option maxHeartbeats 4000000 in
theorem testTokens_any (t : Tst) (w : World) : Calls Tryz.prog 84 #[.agg #[.string ⟨t.name.toArray⟩, .bool t.equal, .string ⟨t.value.toArray⟩]] w (ToldCap w (testT t)) := by
  obtain ⟨n, q, v0⟩ := t
  show Calls _ _ #[.agg #[.string ⟨n.toArray⟩, .bool q, .string ⟨v0.toArray⟩]] _ _
  have S15 := Lib.hid (fun W => Sign7_any 15 W)
  have S16 := Lib.hid (fun W => (Sign7_any 16 W).mono (R' := fun e w' => e = .returned (.agg #[.int .i64 16, .string ⟨#[]⟩, .int .i64 0]) ∧ Hid (Below W.heap.size W w')) fun e w' h => ⟨h.1, Lib.hid (by rw [h.2]; exact below_one7 _ _)⟩)
  have I := Lib.hid (fun W => Ident7_any n W)
  have DB := Lib.hid (fun W => (Delim7_any [61] W).mono (R' := fun e w' => e = .returned (.agg #[.int .i64 19, .string ⟨#[61]⟩, .int .i64 0]) ∧ Hid (Below W.heap.size W w')) fun e w' h => ⟨h.1, Lib.hid (by rw [h.2]; exact below_one7 _ _)⟩)
  have hA := heap_alloc_new w (.cells #[.string ⟨n.toArray⟩, .bool q, .string ⟨v0.toArray⟩] 57)
  have hB := below_one7 w (.cells #[.string ⟨n.toArray⟩, .bool q, .string ⟨v0.toArray⟩] 57)
  generalize hW1 : w.alloc (.cells #[.string ⟨n.toArray⟩, .bool q, .string ⟨v0.toArray⟩] 57) = W1 at hA hB ⊢
  have hBl : w.heap.size < W1.heap.size := (Array.getElem?_eq_some_iff.1 hA).1
  have c0 : W1.cell? ⟨w.heap.size, 0, none⟩ = some (.string ⟨n.toArray⟩) := cell_of hA rfl
  have HA := Lib.hid hA
  have HB := Lib.hid hB
  clear hA hB
  go_enter Tryz.func84, Tryz.ntmps84
  go_wp2_with fail
  go_cut [3] (fun v wx => ∃ y, y = v ∧ Hid (TokRow w.heap.size wx y [tkS 15, tkI n] ∧ wx.heap[w.heap.size]? = some (.cells #[.string ⟨n.toArray⟩, .bool q, .string ⟨v0.toArray⟩] 57 (0, 0)) ∧ Below w.heap.size w wx))
  case first =>
    go_region_with (first
      | (go_at_call 49; refine (S15.out _).mono ?_; rintro e w2 ⟨rfl, rfl⟩)
      | (go_at_call 83; refine (I.out _).mono ?_; rintro e w2 ⟨rfl, rfl⟩))
    all_goals
      go_wp2_with fail
      go_meet
      first
        | (have := fin1 w W1 n (.cells #[.int .i64 15, .string ⟨#[]⟩, .int .i64 0] 70) (.cells #[.int .i64 1, .string ⟨n.toArray⟩, .int .i64 0] 70) _ HA.out HB.out
           simp only [size_push7] at this
           exact ⟨_, rfl, this⟩)
        | (have := fin1 w W1 n (.cells #[.int .i64 1, .string ⟨n.toArray⟩, .int .i64 0] 70) (.cells #[.int .i64 15, .string ⟨#[]⟩, .int .i64 0] 70) _ HA.out HB.out
           simp only [size_push7] at this
           exact ⟨_, rfl, this⟩)
  case rest =>
    obtain ⟨y, hy, HF⟩ := hcut
    subst hy
    obtain ⟨hrow, hbox, hbel⟩ := HF.out
    have hBx : w.heap.size < wc.heap.size := (Array.getElem?_eq_some_iff.1 hbox).1
    have d1 : wc.cell? ⟨w.heap.size, 1, none⟩ = some (.bool q) := cell_of hbox rfl
    have HROW := Lib.hid hrow
    have HBEL := Lib.hid hbel
    have HBOX := Lib.hid hbox
    obtain ⟨ya, yc, hyv, _, _, _⟩ := hrow.form
    cases q
    · clear hrow hbox hbel hyv
      go_wp2_with fail
      refine (S16.out _).mono ?_
      rintro e w5 ⟨rfl, hb5⟩
      have HB5 := Lib.hid (HBEL.out.trans (hb5.out.mono HBEL.out.size))
      obtain ⟨v6, w6, hr, hrow6, hb6⟩ := put1 w.heap.size y [tkS 15, tkI n] 16 [] 0 w5 (by have := HB5.out.size; omega) (by simp) (HROW.out.keep hb5.out)
      have HR6 := Lib.hid hr
      have HF6 := Lib.hid (hrow6.told (HB5.out.trans (hb6.mono (by have := HB5.out.size; omega))))
      clear hr hrow6 hb6
      go_wp2_with (at_builtin; refine wpList_append_runL rfl _ _ 46 rfl _ _ _ _ rfl rfl HR6.out ?_)
      go_ret
      exact HF6.out
    · clear hrow hbox hbel hyv
      have hA7 : wc.drew.heap[w.heap.size]? = some (.cells #[.string ⟨n.toArray⟩, .bool true, .string ⟨v0.toArray⟩] 57 (0, 0)) := HBOX.out
      have p2 : wc.drew.cell? ⟨w.heap.size, 2, none⟩ = some (.string ⟨v0.toArray⟩) := cell_of hA7 rfl
      have HA7 := Lib.hid hA7
      have HD := Lib.hid (DB.out wc.drew)
      have HROWD : Hid (TokRow w.heap.size wc.drew y [tkS 15, tkI n]) := Lib.hid HROW.out
      have HBELD := Lib.hid HBEL.out.drew
      have hBd : w.heap.size < wc.drew.heap.size := hBx
      clear hA7
      go_wp2_with fail
      clear d1
      go_cut [3] (fun v wx => ∃ y2, y2 = v ∧ Hid (TokRow w.heap.size wx y2 [tkS 15, tkI n, tkD [61], ⟨5, v0, 0⟩] ∧ Below w.heap.size w wx))
      case first =>
        go_region_law ((first
          | (go_simp; go_at_call 81; refine HD.out.mono ?_; rintro e w4 ⟨rfl, hb4⟩; have p2 : w4.cell? ⟨w.heap.size, 2, none⟩ = some (.string ⟨v0.toArray⟩) := cell_of ((hb4.out.block _ hBd).trans HA7.out) rfl; have H4 := Lib.hid (And.intro (HROWD.out.keep hb4.out) (HBELD.out.trans (hb4.out.mono HBELD.out.size))); clear hb4)
          | (obtain ⟨v5, w5, hr, hrow5, hb5⟩ := put2 w.heap.size y [tkS 15, tkI n] 19 [61] 0 5 v0 0 w4 (by have := H4.out.2.size; omega) (by simp) H4.out.1; refine step_append_run7 rfl (.tmp 11) (.tmp 16) 46 rfl _ _ _ _ (by first | (simp [Act.eval]; done) | simp [Act.eval, Act.put]) (by first | (simp [Act.eval]; done) | simp [Act.eval, Act.put]) hr ?_; have HF5 := Lib.hid (And.intro hrow5 (H4.out.2.trans (hb5.mono (by have := H4.out.2.size; omega)))); clear hr hrow5 hb5)))
        all_goals
          go_wp2_with fail
          go_meet
          exact ⟨_, rfl, HF5⟩
      case rest =>
        obtain ⟨y2, hy2, HF2⟩ := hcut
        subst hy2
        have HROW2 := Lib.hid HF2.out.1
        have HBEL2 := Lib.hid HF2.out.2
        go_wp2_with fail
        refine (S16.out _).mono ?_
        rintro e w5 ⟨rfl, hb5⟩
        have HB5 := Lib.hid (HBEL2.out.trans (hb5.out.mono HBEL2.out.size))
        obtain ⟨v6, w6, hr, hrow6, hb6⟩ := put1 w.heap.size y2 [tkS 15, tkI n, tkD [61], ⟨5, v0, 0⟩] 16 [] 0 w5 (by have := HB5.out.size; omega) (by simp) (HROW2.out.keep hb5.out)
        have HR6 := Lib.hid hr
        have HF6 := Lib.hid (hrow6.told (HB5.out.trans (hb6.mono (by have := HB5.out.size; omega))))
        clear hr hrow6 hb6
        go_wp2_with (at_builtin; refine wpList_append_runL rfl _ _ 46 rfl _ _ _ _ rfl rfl HR6.out ?_)
        go_ret
        exact HF6.out
end Go.Proofs.YtfbfndknhabmhaaGreat

namespace Go.Proofs.YtfbfndknhabmhaaGreat
open Go.RowKit TreN LexP FixP SynP ValP SelP FixM
set_option linter.unusedVariables false

/-- while a part is written: its box, and the tokens so far -/
structure PB (w wx : World) (A : Obj) (v : Value) (L : List Tok) : Prop where
  row : TokRow (w.heap.size + 1) wx v L
  box : wx.heap[w.heap.size]? = some A
  bel : Below w.heap.size w wx
theorem PB.lt {w wx : World} {A : Obj} {v : Value} {L : List Tok} (h : PB w wx A v L) : w.heap.size < wx.heap.size := (Array.getElem?_eq_some_iff.1 h.box).1
theorem PB.keep {w wx wy : World} {A : Obj} {v : Value} {L : List Tok} (h : PB w wx A v L) (hb : Below wx.heap.size wx wy) : PB w wy A v L := ⟨h.row.keep hb, (hb.block _ h.lt).trans h.box, h.bel.trans (hb.mono h.bel.size)⟩
theorem PB.next {w wx wy : World} {A : Obj} {v v' : Value} {L M : List Tok} (h : PB w wx A v L) (hr : TokRow (w.heap.size + 1) wy v' M) (hb : Below (w.heap.size + 1) wx wy) : PB w wy A v' M := ⟨hr, (hb.block _ (by omega)).trans h.box, h.bel.trans (hb.mono (by omega))⟩
theorem PB.put1 {w wx : World} {A : Obj} {v : Value} {L : List Tok} (h : PB w wx A v L) (hx : L.length ≤ 900000) (k : Int) (x : List UInt8) (z : Int) :
    ∃ v' w', (Builtin.append_ #[46, 46] 46 #[v, .slice (some ⟨wx.heap.size, 0, none⟩) 1 1]).run Tryz.prog (wx.alloc (.cells #[.int .i64 k, .string ⟨x.toArray⟩, .int .i64 z] 70)) = .ok v' w' ∧ PB w w' A v' (L ++ [⟨k, x, z⟩]) := by
  obtain ⟨v', w', h1, h2, h3⟩ := Go.Proofs.YtfbfndknhabmhaaGreat.put1 (w.heap.size + 1) v L k x z wx (by have := h.lt; omega) hx h.row
  exact ⟨v', w', h1, h.next h2 h3⟩
theorem PB.put2 {w wx : World} {A : Obj} {v : Value} {L : List Tok} (h : PB w wx A v L) (hx : L.length ≤ 900000) (k : Int) (x : List UInt8) (z k2 : Int) (x2 : List UInt8) (z2 : Int) :
    ∃ v' w', (Builtin.append_ #[46, 46] 46 #[v, .slice (some ⟨wx.heap.size, 0, none⟩) 2 2]).run Tryz.prog (wx.alloc (.cells #[.int .i64 k, .string ⟨x.toArray⟩, .int .i64 z, .int .i64 k2, .string ⟨x2.toArray⟩, .int .i64 z2] 70)) = .ok v' w' ∧ PB w w' A v' (L ++ [⟨k, x, z⟩, ⟨k2, x2, z2⟩]) := by
  obtain ⟨v', w', h1, h2, h3⟩ := Go.Proofs.YtfbfndknhabmhaaGreat.put2 (w.heap.size + 1) v L k x z k2 x2 z2 wx (by have := h.lt; omega) hx h.row
  exact ⟨v', w', h1, h.next h2 h3⟩
theorem PB.putL {w wx : World} {A : Obj} {v : Value} {L : List Tok} (h : PB w wx A v L) (hx : L.length ≤ 900000) (a : Option Addr) (l : List Tok) (n c : Nat) (hn : l.length = n) (hl : n ≤ 900000) (hT : Tks wx a l) :
    ∃ v' w', (Builtin.append_ #[46, 46] 46 #[v, .slice a n c]).run Tryz.prog wx = .ok v' w' ∧ PB w w' A v' (L ++ l) := by
  obtain ⟨v', w', h1, h2, h3⟩ := Go.Proofs.YtfbfndknhabmhaaGreat.putL (w.heap.size + 1) v L a l n c wx hn (by have := h.lt; omega) hx hl h.row hT
  exact ⟨v', w', h1, h.next h2 h3⟩
theorem flat_take {α : Type} (f : α → List Tok) {l : List α} {k : Nat} (h : k < l.length) : (l.take (k + 1)).flatMap f = (l.take k).flatMap f ++ f l[k] := by
  rw [List.take_succ_eq_append_getElem h, List.flatMap_append]; simp
theorem testT_len (t : Tst) : (testT t).length ≤ 5 := by
  unfold testT
  split <;> simp
theorem andS (n k : Int) (h0 : 0 ≤ n) (h7 : n ≤ 7) (hk : k = 1 ∨ k = 2 ∨ k = 4) : bits .and .i64 n k = if hasB n k = true then k else 0 := by
  rcases hk with rfl | rfl | rfl <;> rcases (by omega : n = 0 ∨ n = 1 ∨ n = 2 ∨ n = 3 ∨ n = 4 ∨ n = 5 ∨ n = 6 ∨ n = 7) with rfl | rfl | rfl | rfl | rfl | rfl | rfl | rfl <;> decide
theorem sign_b (k : Int) (W : World) : Calls Tryz.prog 49 #[.int .i64 k] W fun e w' => e = .returned (.agg #[.int .i64 k, .string ⟨#[]⟩, .int .i64 0]) ∧ Below W.heap.size W w' := (Sign7_any k W).mono fun e w' h => ⟨h.1, by rw [h.2]; exact below_one7 _ _⟩
theorem ident_b (x : List UInt8) (W : World) : Calls Tryz.prog 83 #[.string ⟨x.toArray⟩] W fun e w' => e = .returned (.agg #[.int .i64 1, .string ⟨x.toArray⟩, .int .i64 0]) ∧ Below W.heap.size W w' := (Ident7_any x W).mono fun e w' h => ⟨h.1, by rw [h.2]; exact below_one7 _ _⟩
theorem delim_b (x : List UInt8) (W : World) : Calls Tryz.prog 81 #[.string ⟨x.toArray⟩] W fun e w' => e = .returned (.agg #[.int .i64 19, .string ⟨x.toArray⟩, .int .i64 0]) ∧ Below W.heap.size W w' := (Delim7_any x W).mono fun e w' h => ⟨h.1, by rw [h.2]; exact below_one7 _ _⟩
set_option maxRecDepth 100000 in
set_option maxHeartbeats 4000000 in
theorem partTokens_any (x : PtV) (w : World) (h : PtOk w x) (hr : rightPt x.p = true) : Calls Tryz.prog 51 #[x.arg] w (ToldCap w (partT x.p)) := by
  obtain ⟨hc8, ht8, _, _, h0, h7, _, _⟩ := right_parts hr
  obtain ⟨⟨co, tg, id, cl, ts, st⟩, ca, cc, ta, tc⟩ := x
  simp only at hc8 ht8 h0 h7
  show Calls _ _ #[.agg #[.int .i64 co, .string ⟨tg.toArray⟩, .string ⟨id.toArray⟩, .slice ca cl.length cc, .slice ta ts.length tc, .int .i64 st]] _ (ToldCap w (partT ⟨co, tg, id, cl, ts, st⟩))
  have HC := Lib.hid h.hc
  have HT := Lib.hid h.ht
  have HS := Lib.hid (fun k hk => andS st k h0 h7 hk)
  obtain ⟨n, hn⟩ : ∃ n, cl.length = n := ⟨_, rfl⟩
  obtain ⟨m, hm⟩ : ∃ m, ts.length = m := ⟨_, rfl⟩
  simp only [hn, hm] at hc8 ht8 ⊢
  have HN := Lib.hid hn
  have HM := Lib.hid hm
  obtain ⟨R, hR⟩ : ∃ R, partT ⟨co, tg, id, cl, ts, st⟩ = R := ⟨_, rfl⟩
  rw [hR]
  have HR := Lib.hid hR
  obtain ⟨A, hA⟩ : ∃ A, Obj.cells #[.int .i64 co, .string ⟨tg.toArray⟩, .string ⟨id.toArray⟩, .slice ca n cc, .slice ta m tc, .int .i64 st] 36 = A := ⟨_, rfl⟩
  have HAE := Lib.hid hA
  have h1 : PB w (w.alloc A) A (.slice none 0 0) [] := ⟨TokRow.nil _ _, heap_alloc_new w A, below_one7 w A⟩
  have H1 := Lib.hid h1
  clear h hr hn hm hR h1 hA
  go_enter Tryz.func51, Tryz.ntmps51
  go_upto_if 11 with fail
  rw [HAE.out]
  generalize w.alloc A = W1 at *
  go_cut [3] (fun v wx => ∃ y, y = v ∧ Hid (PB w wx A y (if tg = [] then [] else [tkI tg])))
  case first =>
    have hb1 := H1.out.box
    rw [← HAE.out] at hb1
    have c1 : W1.cell? ⟨w.heap.size, 1, none⟩ = some (.string ⟨tg.toArray⟩) := cell_of hb1 rfl
    clear hb1
    have hne : tg = [] ∨ tg ≠ [] := Classical.em _
    rcases hne with rfl | hne
    · go_wp2_with fail
      go_meet
      exact ⟨_, rfl, Lib.hid (by simpa using H1.out)⟩
    · have I := Lib.hid (fun W => ident_b tg W)
      have e1 : ((⟨tg.toArray⟩ : ByteArray).toList == (⟨#[]⟩ : ByteArray).toList) = false := (str_beq tg []).trans (decide_eq_false hne)
      obtain ⟨tc0, tr, htg⟩ : ∃ c r, tg = c :: r := by cases tg with | nil => exact absurd rfl hne | cons c r => exact ⟨c, r, rfl⟩
      clear hne e1
      subst htg
      go_wp2_with fail
      refine (I.out _).mono ?_
      rintro e w2 ⟨rfl, hb2⟩
      obtain ⟨v3, w3, hr3, hP3⟩ := (H1.out.keep hb2).put1 (by simp) 1 (tc0 :: tr) 0
      have HR3 := Lib.hid hr3
      have HP3 := Lib.hid hP3
      clear hb2 hr3 hP3
      go_wp2_with (at_builtin; refine wpList_append_runL rfl _ _ 46 rfl _ _ _ _ rfl rfl HR3.out ?_)
      go_meet
      exact ⟨_, rfl, Lib.hid (by simpa [tkI] using HP3.out)⟩
  case rest =>
    obtain ⟨y, hy, HP⟩ := hcut
    subst hy
    clear H1
    obtain ⟨L1, hL1⟩ : ∃ L, (if tg = [] then [] else [tkI tg]) = L := ⟨_, rfl⟩
    rw [hL1] at HP
    have hl1 : L1.length ≤ 1 := by rw [← hL1]; split <;> simp
    have HL1 := Lib.hid hL1
    have hb1 := HP.out.box
    rw [← HAE.out] at hb1
    have c2 : wc.cell? ⟨w.heap.size, 2, none⟩ = some (.string ⟨id.toArray⟩) := cell_of hb1 rfl
    clear hb1 hL1
    go_upto_if 20 with fail
    go_cut [3] (fun v wx => ∃ y2, y2 = v ∧ Hid (PB w wx A y2 (L1 ++ (if id = [] then [] else [⟨4, id, 0⟩]))))
    case first =>
      have hne : id = [] ∨ id ≠ [] := Classical.em _
      rcases hne with rfl | hne
      · go_wp2_with fail
        go_meet
        exact ⟨_, rfl, Lib.hid (by simpa using HP.out)⟩
      · obtain ⟨tc0, tr, htg⟩ : ∃ c r, id = c :: r := by cases id with | nil => exact absurd rfl hne | cons c r => exact ⟨c, r, rfl⟩
        clear hne
        subst htg
        obtain ⟨v3, w3, hr3, hP3⟩ := HP.out.put1 (by omega) 4 (tc0 :: tr) 0
        have HR3 := Lib.hid hr3
        have HP3 := Lib.hid hP3
        clear hr3 hP3
        go_wp2_with (at_builtin; refine wpList_append_runL rfl _ _ 46 rfl _ _ _ _ rfl rfl HR3.out ?_)
        go_meet
        exact ⟨_, rfl, Lib.hid (by simpa using HP3.out)⟩
    case rest =>
      obtain ⟨y2, hy, HP2⟩ := hcut
      subst hy
      clear HP c2
      obtain ⟨L2, hL2⟩ : ∃ L, (L1 ++ (if id = [] then [] else [(⟨4, id, 0⟩ : Tok)])) = L := ⟨_, rfl⟩
      rw [hL2] at HP2
      have hl2 : L2.length ≤ 2 := by rw [← hL2, List.length_append]; split <;> simp <;> omega
      have HL2 := Lib.hid hL2
      have hb2 := HP2.out.box
      rw [← HAE.out] at hb2
      have c3 : wc.cell? ⟨w.heap.size, 3, none⟩ = some (.slice ca n cc) := cell_of hb2 rfl
      clear hb2 hL2
      go_upto_region 7 with (fail)
      clear c3
      have DD := Lib.hid (fun W => delim_b [46] W)
      go_loopw [3, 30] (fun v vi wr => ∃ k : Nat, vi = .int .i64 (k : Int) ∧ k ≤ n ∧ Hid (PB w wr A v (L2 ++ (cl.take k).flatMap (fun c => [tkD [46], tkI c])) ∧ (L2 ++ (cl.take k).flatMap (fun c => [tkD [46], tkI c])).length ≤ 2 + 2 * k)) (fun _ vi _ => n - (intOf vi).toNat)
      case atStart => exact ⟨0, rfl, by omega, Lib.hid ⟨by simpa using HP2.out, by simpa using hl2⟩⟩
      case round =>
        obtain ⟨k, rfl, hk, HPk⟩ := hrel
        by_cases hlt : k < n
        · have hltz : (k : Int) < (n : Int) := by omega
          have hkl : k < cl.length := by have := HN.out; omega
          obtain ⟨b, o, rfl, g1, g2⟩ := HC.out.get hkl
          have d1 : wr.cell? ⟨b, o + k, none⟩ = some (.string ⟨cl[k].toArray⟩) := (HPk.out.1.bel.cell (p := ⟨b, o + k, none⟩) g1).trans g2
          have hft := flat_take (fun c => [tkD [46], tkI c]) hkl
          generalize cl[k] = c at *
          have II := Lib.hid (fun W => ident_b c W)
          have HFT := Lib.hid hft
          clear hft g2
          go_wp2_with fail
          refine (DD.out _).mono ?_
          rintro e w2 ⟨rfl, hb2⟩
          have HB2 := Lib.hid hb2
          clear hb2
          go_wp2_with fail
          refine (II.out _).mono ?_
          rintro e w3 ⟨rfl, hb3⟩
          obtain ⟨v4, w4, hr4, hP4⟩ := ((HPk.out.1.keep HB2.out).keep hb3).put2 (by have := HPk.out.2; omega) 19 [46] 0 1 c 0
          have HR4 := Lib.hid hr4
          have HP4 : Hid (PB w w4 A v4 (L2 ++ (cl.take (k + 1)).flatMap (fun c => [tkD [46], tkI c])) ∧ (L2 ++ (cl.take (k + 1)).flatMap (fun c => [tkD [46], tkI c])).length ≤ 2 + 2 * (k + 1)) := Lib.hid (by
            rw [HFT.out, ← List.append_assoc]
            refine ⟨hP4, ?_⟩
            rw [List.length_append]
            have := HPk.out.2
            simp only [List.length_cons, List.length_nil]
            omega)
          clear hb3 hr4 hP4
          go_wp2_with (at_builtin; refine wpList_append_runL rfl _ _ 46 rfl _ _ _ _ rfl rfl HR4.out ?_)
          go_roundw
          case rel => exact ⟨k + 1, by go_num, by omega, HP4⟩
          case measure => simp [intOf]; omega
        · have hltz : ¬ (k : Int) < (n : Int) := by omega
          have HP5 : Hid (PB w wr A u3 (L2 ++ cl.flatMap (fun c => [tkD [46], tkI c])) ∧ (L2 ++ cl.flatMap (fun c => [tkD [46], tkI c])).length ≤ 18) := Lib.hid (by
            have := HPk.out
            rw [List.take_of_length_le (by have := HN.out; omega)] at this
            exact ⟨this.1, by omega⟩)
          clear HPk
          obtain ⟨L3, hL3⟩ : ∃ L, L2 ++ cl.flatMap (fun c => [tkD [46], tkI c]) = L := ⟨_, rfl⟩
          rw [hL3] at HP5
          have HL3 := Lib.hid hL3
          have hb5 := HP5.out.1.box
          rw [← HAE.out] at hb5
          have c4 : wr.cell? ⟨w.heap.size, 4, none⟩ = some (.slice ta m tc) := cell_of hb5 rfl
          clear hb5 hL3
          go_upto_region 12 with (fail)
          clear c4
          go_loopw [3, 44] (fun v vi wx => ∃ j : Nat, vi = .int .i64 (j : Int) ∧ j ≤ m ∧ Hid (PB w wx A v (L3 ++ (ts.take j).flatMap testT) ∧ (L3 ++ (ts.take j).flatMap testT).length ≤ 18 + 5 * j)) (fun _ vi _ => m - (intOf vi).toNat)
          case atStart => exact ⟨0, rfl, by omega, Lib.hid ⟨by simpa using HP5.out.1, by simpa using HP5.out.2⟩⟩
          case round =>
            obtain ⟨j, rfl, hj, HPj⟩ := hrel
            by_cases hjt : j < m
            · have hjtz : (j : Int) < (m : Int) := by omega
              have hjl : j < ts.length := by have := HM.out; omega
              obtain ⟨b, o, rfl, g1, g2, g3, g4⟩ := HT.out.get hjl
              have d1 : wr.cell? ⟨b, o + j * 3, none⟩ = some (.string ⟨ts[j].name.toArray⟩) := (HPj.out.1.bel.cell (p := ⟨b, o + j * 3, none⟩) g1).trans g2
              have d2 : wr.cell? ⟨b, o + j * 3 + 1, none⟩ = some (.bool ts[j].equal) := (HPj.out.1.bel.cell (p := ⟨b, o + j * 3 + 1, none⟩) g1).trans g3
              have d3 : wr.cell? ⟨b, o + j * 3 + 2, none⟩ = some (.string ⟨ts[j].value.toArray⟩) := (HPj.out.1.bel.cell (p := ⟨b, o + j * 3 + 2, none⟩) g1).trans g4
              have hft := flat_take testT hjl
              generalize ts[j] = t at *
              have TT := Lib.hid (fun W => testTokens_any t W)
              have HFT := Lib.hid hft
              have htl := testT_len t
              obtain ⟨Z, hZ⟩ : ∃ Z, testT t = Z := ⟨_, rfl⟩
              rw [hZ] at htl HFT TT
              obtain ⟨zn, hzn⟩ : ∃ z, Z.length = z := ⟨_, rfl⟩
              rw [hzn] at htl
              have HZN := Lib.hid hzn
              clear hft g2 g3 g4 hZ hzn
              go_wp2_with fail
              refine (TT.out _).mono ?_
              rintro e w2 ⟨za, zc, rfl, hzT, hb2, hz1, hz2⟩
              obtain ⟨v4, w4, hr4, hP4⟩ := ((HPj.out.1.keep (below_one7 wr (.cells #[.string ⟨t.name.toArray⟩, .bool t.equal, .string ⟨t.value.toArray⟩] 57))).keep hb2).putL (by have := HPj.out.2; omega) za Z zn zc HZN.out (by omega) hzT
              have HR4 := Lib.hid hr4
              have HP4 : Hid (PB w w4 A v4 (L3 ++ (ts.take (j + 1)).flatMap testT) ∧ (L3 ++ (ts.take (j + 1)).flatMap testT).length ≤ 18 + 5 * (j + 1)) := Lib.hid (by
                rw [HFT.out, ← List.append_assoc]
                refine ⟨hP4, ?_⟩
                rw [List.length_append]
                have := HPj.out.2
                have := HZN.out
                omega)
              rw [HZN.out]
              clear hb2 hr4 hP4 hzT hz1 hz2
              go_wp2_with (at_builtin; refine wpList_append_runL rfl _ _ 46 rfl _ _ _ _ rfl rfl HR4.out ?_)
              go_roundw
              case rel => exact ⟨j + 1, by go_num, by omega, HP4⟩
              case measure => simp [intOf]; omega
            · have hjtz : ¬ (j : Int) < (m : Int) := by omega
              have HP7 : Hid (PB w wr A u3 (L3 ++ ts.flatMap testT) ∧ (L3 ++ ts.flatMap testT).length ≤ 58) := Lib.hid (by
                have := HPj.out
                rw [List.take_of_length_le (by have := HM.out; omega)] at this
                exact ⟨this.1, by omega⟩)
              clear HPj
              obtain ⟨L4, hL4⟩ : ∃ L, L3 ++ ts.flatMap testT = L := ⟨_, rfl⟩
              rw [hL4] at HP7
              have HL4 := Lib.hid hL4
              have SC := Lib.hid (fun W => sign_b 10 W)
              clear hL4
              go_upto_region 17 with (fail)
              go_loopw [3, 8] (fun v vi wx => (vi = .int .i64 1 ∧ Hid (PB w wx A v L4 ∧ L4.length ≤ 58)) ∨ (vi = .int .i64 2 ∧ Hid (PB w wx A v (L4 ++ stateT st 1) ∧ (L4 ++ stateT st 1).length ≤ 60)) ∨ (vi = .int .i64 4 ∧ Hid (PB w wx A v (L4 ++ stateT st 1 ++ stateT st 2) ∧ (L4 ++ stateT st 1 ++ stateT st 2).length ≤ 62)) ∨ (vi = .int .i64 8 ∧ Hid (PB w wx A v (L4 ++ stateT st 1 ++ stateT st 2 ++ stateT st 4) ∧ (L4 ++ stateT st 1 ++ stateT st 2 ++ stateT st 4).length ≤ 64))) (fun _ vi _ => 8 - (intOf vi).toNat)
              case atStart => exact Or.inl ⟨rfl, HP7⟩
              case round =>
                obtain ⟨rfl, HPs⟩ | ⟨rfl, HPs⟩ | ⟨rfl, HPs⟩ | ⟨rfl, HPs⟩ := hrel
                · have hb6 := HPs.out.1.box
                  rw [← HAE.out] at hb6
                  have c6 : wr.cell? ⟨w.heap.size, 5, none⟩ = some (.int .i64 st) := cell_of hb6 rfl
                  have hand := HS.out 1 (Or.inl rfl)
                  have hst : stateT st 1 = if hasB st 1 = true then [tkS 10, tkI (wordS 1)] else [] := rfl
                  obtain ⟨x, hx⟩ : ∃ x, wordS 1 = x := ⟨_, rfl⟩
                  have WW := Lib.hid (fun W => word7_any 1 W)
                  rw [hx] at WW hst
                  cases hh : hasB st 1 with
                  | true =>
                    rw [hh, if_pos rfl] at hand hst
                    have HST := Lib.hid hst
                    have II := Lib.hid (fun W => ident_b x W)
                    clear hb6 hst hx hh
                    go_wp2_with fail
                    refine (SC.out _).mono ?_
                    rintro e w2 ⟨rfl, hb2⟩
                    have HB2 := Lib.hid hb2
                    clear hb2
                    go_wp2_with fail
                    refine (WW.out _).mono ?_
                    rintro e w3 ⟨rfl, hw3⟩
                    subst hw3
                    go_wp2_with fail
                    refine (II.out _).mono ?_
                    rintro e w4 ⟨rfl, hb4⟩
                    obtain ⟨v5, w5, hr5, hP5⟩ := ((HPs.out.1.keep HB2.out).keep hb4).put2 (by have := HPs.out.2; omega) 10 [] 0 1 x 0
                    have HR5 := Lib.hid hr5
                    have HP6 := Lib.hid hP5
                    clear hb4 hr5 hP5
                    go_wp2_with (at_builtin; refine wpList_append_runL rfl _ _ 46 rfl _ _ _ _ rfl rfl HR5.out ?_)
                    go_roundw
                    case rel => exact Or.inr (Or.inl ⟨rfl, Lib.hid (by rw [HST.out]; exact ⟨HP6.out, by rw [List.length_append]; have := HPs.out.2; simp only [List.length_cons, List.length_nil]; omega⟩)⟩)
                    case measure => simp [intOf]
                  | false =>
                    rw [hh, if_neg (by simp)] at hand hst
                    have HST := Lib.hid hst
                    clear hb6 hst hx hh
                    go_wp2_with fail
                    go_roundw
                    case rel => exact Or.inr (Or.inl ⟨rfl, Lib.hid (by rw [HST.out, List.append_nil]; exact ⟨HPs.out.1, by have := HPs.out.2; omega⟩)⟩)
                    case measure => simp [intOf]
                · have hb6 := HPs.out.1.box
                  rw [← HAE.out] at hb6
                  have c6 : wr.cell? ⟨w.heap.size, 5, none⟩ = some (.int .i64 st) := cell_of hb6 rfl
                  have hand := HS.out 2 (Or.inr (Or.inl rfl))
                  have hst : stateT st 2 = if hasB st 2 = true then [tkS 10, tkI (wordS 2)] else [] := rfl
                  obtain ⟨x, hx⟩ : ∃ x, wordS 2 = x := ⟨_, rfl⟩
                  have WW := Lib.hid (fun W => word7_any 2 W)
                  rw [hx] at WW hst
                  cases hh : hasB st 2 with
                  | true =>
                    rw [hh, if_pos rfl] at hand hst
                    have HST := Lib.hid hst
                    have II := Lib.hid (fun W => ident_b x W)
                    clear hb6 hst hx hh
                    go_wp2_with fail
                    refine (SC.out _).mono ?_
                    rintro e w2 ⟨rfl, hb2⟩
                    have HB2 := Lib.hid hb2
                    clear hb2
                    go_wp2_with fail
                    refine (WW.out _).mono ?_
                    rintro e w3 ⟨rfl, hw3⟩
                    subst hw3
                    go_wp2_with fail
                    refine (II.out _).mono ?_
                    rintro e w4 ⟨rfl, hb4⟩
                    obtain ⟨v5, w5, hr5, hP5⟩ := ((HPs.out.1.keep HB2.out).keep hb4).put2 (by have := HPs.out.2; omega) 10 [] 0 1 x 0
                    have HR5 := Lib.hid hr5
                    have HP6 := Lib.hid hP5
                    clear hb4 hr5 hP5
                    go_wp2_with (at_builtin; refine wpList_append_runL rfl _ _ 46 rfl _ _ _ _ rfl rfl HR5.out ?_)
                    go_roundw
                    case rel => exact Or.inr (Or.inr (Or.inl ⟨rfl, Lib.hid (by rw [HST.out]; exact ⟨HP6.out, by rw [List.length_append]; have := HPs.out.2; simp only [List.length_cons, List.length_nil]; omega⟩)⟩))
                    case measure => simp [intOf]
                  | false =>
                    rw [hh, if_neg (by simp)] at hand hst
                    have HST := Lib.hid hst
                    clear hb6 hst hx hh
                    go_wp2_with fail
                    go_roundw
                    case rel => exact Or.inr (Or.inr (Or.inl ⟨rfl, Lib.hid (by rw [HST.out, List.append_nil]; exact ⟨HPs.out.1, by have := HPs.out.2; omega⟩)⟩))
                    case measure => simp [intOf]
                · have hb6 := HPs.out.1.box
                  rw [← HAE.out] at hb6
                  have c6 : wr.cell? ⟨w.heap.size, 5, none⟩ = some (.int .i64 st) := cell_of hb6 rfl
                  have hand := HS.out 4 (Or.inr (Or.inr rfl))
                  have hst : stateT st 4 = if hasB st 4 = true then [tkS 10, tkI (wordS 4)] else [] := rfl
                  obtain ⟨x, hx⟩ : ∃ x, wordS 4 = x := ⟨_, rfl⟩
                  have WW := Lib.hid (fun W => word7_any 4 W)
                  rw [hx] at WW hst
                  cases hh : hasB st 4 with
                  | true =>
                    rw [hh, if_pos rfl] at hand hst
                    have HST := Lib.hid hst
                    have II := Lib.hid (fun W => ident_b x W)
                    clear hb6 hst hx hh
                    go_wp2_with fail
                    refine (SC.out _).mono ?_
                    rintro e w2 ⟨rfl, hb2⟩
                    have HB2 := Lib.hid hb2
                    clear hb2
                    go_wp2_with fail
                    refine (WW.out _).mono ?_
                    rintro e w3 ⟨rfl, hw3⟩
                    subst hw3
                    go_wp2_with fail
                    refine (II.out _).mono ?_
                    rintro e w4 ⟨rfl, hb4⟩
                    obtain ⟨v5, w5, hr5, hP5⟩ := ((HPs.out.1.keep HB2.out).keep hb4).put2 (by have := HPs.out.2; omega) 10 [] 0 1 x 0
                    have HR5 := Lib.hid hr5
                    have HP6 := Lib.hid hP5
                    clear hb4 hr5 hP5
                    go_wp2_with (at_builtin; refine wpList_append_runL rfl _ _ 46 rfl _ _ _ _ rfl rfl HR5.out ?_)
                    go_roundw
                    case rel => exact Or.inr (Or.inr (Or.inr ⟨rfl, Lib.hid (by rw [HST.out]; exact ⟨HP6.out, by rw [List.length_append]; have := HPs.out.2; simp only [List.length_cons, List.length_nil]; omega⟩)⟩))
                    case measure => simp [intOf]
                  | false =>
                    rw [hh, if_neg (by simp)] at hand hst
                    have HST := Lib.hid hst
                    clear hb6 hst hx hh
                    go_wp2_with fail
                    go_roundw
                    case rel => exact Or.inr (Or.inr (Or.inr ⟨rfl, Lib.hid (by rw [HST.out, List.append_nil]; exact ⟨HPs.out.1, by have := HPs.out.2; omega⟩)⟩))
                    case measure => simp [intOf]
                · have hbody : L4 ++ stateT st 1 ++ stateT st 2 ++ stateT st 4 = bodyT ⟨co, tg, id, cl, ts, st⟩ := by
                    rw [← HL4.out, ← HL3.out, ← HL2.out, ← HL1.out]
                    unfold bodyT
                    simp only [List.append_assoc]
                  have hP8 := HPs.out
                  rw [hbody] at hP8
                  have hrr := HR.out
                  unfold partT at hrr
                  generalize bodyT ⟨co, tg, id, cl, ts, st⟩ = Bd at *
                  obtain ⟨ya, yc, hyv, hyT, hy1, hy2⟩ := hP8.1.row.form
                  obtain ⟨q, hq⟩ : ∃ q, Bd.length = q := ⟨_, rfl⟩
                  have hq64 : q ≤ 64 := by rw [← hq]; exact hP8.2
                  have HP8 := Lib.hid hP8
                  by_cases hb0 : Bd = []
                  · rw [if_pos hb0] at hrr
                    have hq0 : q = 0 := by rw [← hq, hb0]; rfl
                    subst hq0
                    rw [hq] at hyv
                    have hyvv := hyv
                    subst hyvv
                    have HRR := Lib.hid hrr
                    have HB0 := Lib.hid hb0
                    have DS := Lib.hid (fun W => delim_b [42] W)
                    clear hP8 hrr hyT hy1 hy2 hq hbody hb0 HPs
                    go_wp2_with fail
                    refine (DS.out _).mono ?_
                    rintro e w2 ⟨rfl, hb2⟩
                    obtain ⟨v5, w5, hr5, hP5⟩ := (HP8.out.1.keep hb2).put1 (by have := HP8.out.2; omega) 19 [42] 0
                    have HR5 := Lib.hid hr5
                    have HF5 : Hid (ToldCap w R (.returned v5) w5) := Lib.hid (by
                      rw [← HRR.out]
                      rw [HB0.out] at hP5
                      exact hP5.row.told hP5.bel)
                    clear hb2 hr5 hP5
                    go_wp2_with (at_builtin; refine wpList_append_runL rfl _ _ 46 rfl _ _ _ _ rfl rfl HR5.out ?_)
                    go_ret
                    exact HF5.out
                  · rw [if_neg hb0] at hrr
                    have hq0 : 0 < q := by rw [← hq]; exact List.length_pos_iff.2 hb0
                    have hqz : ((q : Int) == 0) = false := by rw [beq_eq_false_iff_ne]; omega
                    have hqn : ¬ q = 0 := by omega
                    have HF5 : Hid (ToldCap w R (.returned u3) wr) := Lib.hid (by rw [← hrr]; exact hP8.1.row.told hP8.1.bel)
                    rw [hq] at hyv
                    subst hyv
                    clear hP8 hrr hyT hy1 hy2 hq hbody hb0 HPs HP8
                    go_wp2_with fail
                    go_ret
                    exact HF5.out
end Go.Proofs.YtfbfndknhabmhaaGreat

namespace Go.Proofs.YtfbfndknhabmhaaGreat
open Go.RowKit TreN LexP FixP SynP ValP SelP FixM
set_option linter.unusedVariables false

set_option maxRecDepth 100000 in
set_option maxHeartbeats 1000000 in
theorem odd_any (s : SelV) (w : World) (h : SelOk w s) : Calls Tryz.prog 47 #[.agg #[s.val]] w fun e w' => e = .returned (.bool (!rightS s.pure)) ∧ Below w.heap.size w w' := by
  have C := Lib.hid (fun W (hW : Below w.heap.size w W) => RightS_any s W (h.below hW))
  obtain ⟨b, hb⟩ : ∃ b, rightS s.pure = b := ⟨_, rfl⟩
  rw [hb] at C ⊢
  obtain ⟨ps, a, c⟩ := s
  unfold SelV.val at C ⊢
  simp only at C ⊢
  obtain ⟨n, hn⟩ : ∃ n, ps.length = n := ⟨_, rfl⟩
  rw [hn] at C ⊢
  have HB := Lib.hid (below_one7 w (.cells #[.slice a n c] 24))
  clear h hb hn
  go_enter Tryz.func47, Tryz.ntmps47
  go_wp2_with fail
  refine (C.out _ HB.out).mono ?_
  rintro e w1 ⟨rfl, hb1⟩
  have HB1 := Lib.hid (HB.out.trans (hb1.mono HB.out.size))
  clear hb1
  go_wp2_with fail
  go_ret
  exact ⟨rfl, HB1.out⟩
theorem enters_odd : ∀ args w, (callFunc 47 args).run Tryz.prog w = .ok (.enter 47 args) w := enters_of Tryz.func47 (by kernel_rfl) rfl
/-- what a print of selectors answers -/
def PrIs (w : World) (L : List (List Prt)) (e : Ending) (w' : World) : Prop :=
  (if allR L = true then ∃ a c, e = .returned (.tuple #[.slice a (listT L).length c, .int .i64 0]) ∧ Tks w' a (listT L) ∧ (listT L).length ≤ c ∧ c ≤ maxLen else e = .returned (.tuple #[.slice none 0 0, .int .i64 20])) ∧ Below w.heap.size w w'
theorem prIs_no {w w' : World} {L : List (List Prt)} (h : allR L = false) (hb : Below w.heap.size w w') : PrIs w L (.returned (.tuple #[.slice none 0 0, .int .i64 20])) w' := by
  unfold PrIs; rw [if_neg (by rw [h]; simp)]; exact ⟨rfl, hb⟩
theorem prIs_yes {w w' : World} {L : List (List Prt)} {v : Value} {H : Nat} (h : allR L = true) (hr : TokRow H w' v (listT L)) (hb : Below w.heap.size w w') : PrIs w L (.returned (.tuple #[v, .int .i64 0])) w' := by
  obtain ⟨a, c, rfl, h1, h2, h3⟩ := hr.form
  unfold PrIs; rw [if_pos h]; exact ⟨⟨a, c, rfl, h1, h2, h3⟩, hb⟩
theorem partT_len {p : Prt} (h : rightPt p = true) : (partT p).length ≤ 64 := by
  obtain ⟨h1, h2, _⟩ := right_parts h
  have hs : ∀ n k, (stateT n k).length ≤ 2 := fun n k => by unfold stateT; split <;> simp
  have hc : (p.classes.flatMap fun c => [tkD [46], tkI c]).length = 2 * p.classes.length := by
    generalize p.classes = l
    induction l with
    | nil => rfl
    | cons x l ih => rw [List.flatMap_cons, List.length_append, ih]; simp only [List.length_cons, List.length_nil]; omega
  have ht : (p.tests.flatMap testT).length ≤ 5 * p.tests.length := by
    generalize p.tests = l
    induction l with
    | nil => exact Nat.le_refl _
    | cons x l ih => rw [List.flatMap_cons, List.length_append]; have := testT_len x; simp only [List.length_cons]; omega
  have hb : (bodyT p).length ≤ 64 := by
    unfold bodyT
    simp only [List.length_append]
    have e1 : (if p.tag = [] then ([] : List Tok) else [tkI p.tag]).length ≤ 1 := by split <;> simp
    have e2 : (if p.id = [] then ([] : List Tok) else [⟨4, p.id, 0⟩]).length ≤ 1 := by split <;> simp
    have := hs p.states 1
    have := hs p.states 2
    have := hs p.states 4
    omega
  unfold partT
  split
  · simp
  · exact hb
theorem combT_len (c : Int) : (combT c).length ≤ 3 := by unfold combT; split; simp; split <;> simp
/-- the parts of a right selector, one by one -/
theorem right_at {s : List Prt} (h : rightS s = true) {i : Nat} (hi : i < s.length) : rightPt s[i] = true ∧ 0 ≤ s[i].comb ∧ s[i].comb ≤ 4 := by
  unfold rightS at h
  rw [Bool.and_eq_true, Bool.and_eq_true] at h
  have h := h.2.2
  have : ∀ (l : List Prt) (k j : Nat) (hj : j < l.length), rightF k l = true → rightPt l[j] = true ∧ 0 ≤ l[j].comb ∧ l[j].comb ≤ 4 := by
    intro l
    induction l with
    | nil => intro k j hj; simp at hj
    | cons p r ih =>
      intro k j hj hr
      have hr : (combB k p && (rightPt p && rightF (k + 1) r)) = true := hr
      rw [Bool.and_eq_true, Bool.and_eq_true] at hr
      cases j with
      | zero =>
        refine ⟨hr.2.1, ?_⟩
        have hc := hr.1
        unfold combB at hc
        show 0 ≤ p.comb ∧ p.comb ≤ 4
        by_cases hk : k = 0
        · rw [if_pos hk] at hc
          have : p.comb = 0 := of_decide_eq_true hc
          omega
        · rw [if_neg hk, Bool.and_eq_true] at hc
          have h1 := of_decide_eq_true hc.1
          have h2 := of_decide_eq_true hc.2
          omega
      | succ j => exact ih (k + 1) j (by simpa using hj) hr.2.2
  exact this s 0 i hi h
theorem right_len {s : List Prt} (h : rightS s = true) : s.length ≤ 8 := by
  unfold rightS at h
  rw [Bool.and_eq_true, Bool.and_eq_true] at h
  exact of_decide_eq_true h.2.1
end Go.Proofs.YtfbfndknhabmhaaGreat

namespace Go.Proofs.YtfbfndknhabmhaaGreat
open Go.RowKit TreN LexP FixP SynP ValP SelP FixM
set_option linter.unusedVariables false

theorem partTokens_named (co st : Int) (tg id : List UInt8) (ca ta : Option Addr) (cc tc n m : Nat) (cl : List (List UInt8)) (ts : List Tst) (W : World) (hn : cl.length = n) (hm : ts.length = m) (h : PtOk W ⟨⟨co, tg, id, cl, ts, st⟩, ca, cc, ta, tc⟩) (hr : rightPt ⟨co, tg, id, cl, ts, st⟩ = true) :
    Calls Tryz.prog 51 #[.agg #[.int .i64 co, .string ⟨tg.toArray⟩, .string ⟨id.toArray⟩, .slice ca n cc, .slice ta m tc, .int .i64 st]] W (ToldCap W (partT ⟨co, tg, id, cl, ts, st⟩)) := by
  subst hn; subst hm
  exact partTokens_any _ W h hr
theorem kinds7 : 36 ≠ 70 ∧ 24 ≠ 70 := by decide
/-- while a list is written -/
structure PL (w wx : World) (v : Value) (L : List Tok) : Prop where
  row : TokRow w.heap.size wx v L
  bel : Below w.heap.size w wx
theorem PL.keep {w wx wy : World} {v : Value} {L : List Tok} (h : PL w wx v L) (hb : Below wx.heap.size wx wy) : PL w wy v L := ⟨h.row.keep hb, h.bel.trans (hb.mono h.bel.size)⟩
theorem PL.putL {w wx : World} {v : Value} {L : List Tok} (h : PL w wx v L) (hx : L.length ≤ 900000) (a : Option Addr) (l : List Tok) (n c : Nat) (hn : l.length = n) (hl : n ≤ 900000) (hT : Tks wx a l) :
    ∃ v' w', (Builtin.append_ #[46, 46] 46 #[v, .slice a n c]).run Tryz.prog wx = .ok v' w' ∧ PL w w' v' (L ++ l) ∧ KeptK 70 wx w' := by
  obtain ⟨v', w', h1, h2, h3, h4⟩ := putLG w.heap.size v L a l n c wx hn h.bel.size hx hl h.row hT
  exact ⟨v', w', h1, ⟨h2, h.bel.trans h3⟩, h4⟩
theorem PL.put2 {w wx : World} {v : Value} {L : List Tok} (h : PL w wx v L) (hx : L.length ≤ 900000) (k : Int) (x : List UInt8) (z k2 : Int) (x2 : List UInt8) (z2 : Int) :
    ∃ v' w', (Builtin.append_ #[46, 46] 46 #[v, .slice (some ⟨wx.heap.size, 0, none⟩) 2 2]).run Tryz.prog (wx.alloc (.cells #[.int .i64 k, .string ⟨x.toArray⟩, .int .i64 z, .int .i64 k2, .string ⟨x2.toArray⟩, .int .i64 z2] 70)) = .ok v' w' ∧ PL w w' v' (L ++ [⟨k, x, z⟩, ⟨k2, x2, z2⟩]) ∧ KeptK 70 wx w' := by
  obtain ⟨v', w', h1, h2, h3, h4⟩ := put2G w.heap.size v L k x z k2 x2 z2 wx h.bel.size hx h.row
  exact ⟨v', w', h1, ⟨h2, h.bel.trans h3⟩, h4⟩
set_option maxRecDepth 100000 in
set_option maxHeartbeats 8000000 in
theorem Print_any (a : Option Addr) (l : List SelV) (cap : Nat) (w : World) (hl : l.length ≤ 1100) (hS : Sls w a l) : Calls Tryz.prog 25 #[.slice a l.length cap] w (PrIs w (l.map SelV.pure)) := by
  have hmf : ∀ (fn : Fn) (first cap : Array Value) (w : World), (Instr.makeFunc fn first cap).run Tryz.prog w = .ok (.func fn first cap) w := fun _ _ _ _ => rfl
  have C := Lib.hid (fun (W : World) (hW : Below w.heap.size w W) => ContainsSel_any 47 #[] (fun s => !rightS s.pure) enters_odd a l cap W (fun t ht W' hW' => by
    obtain ⟨i, hi, rfl⟩ := List.getElem_of_mem ht
    obtain ⟨b, o, _, _, _, hok⟩ := (hS.below (hW.trans (hW'.mono hW.size))).get hi
    exact odd_any _ W' hok) (by omega) (hS.below hW))
  obtain ⟨P, hP⟩ : ∃ P, l.map SelV.pure = P := ⟨_, rfl⟩
  have hPl : P.length = l.length := by rw [← hP, List.length_map]
  have hall : (l.any fun s => !rightS s.pure) = !(P.all rightS) := by
    rw [any_not, ← hP, List.all_map]; rfl
  simp only [hall] at C
  rw [hP]
  obtain ⟨n, hn⟩ : ∃ n, l.length = n := ⟨_, rfl⟩
  rw [hn] at hl hPl
  simp only [hn] at C ⊢
  have hPI : allR P = (decide (0 < n) && P.all rightS) := by unfold allR; rw [hPl]
  obtain ⟨al, hal⟩ : ∃ b, P.all rightS = b := ⟨_, rfl⟩
  simp only [hal] at C
  rw [hal] at hPI
  have HS := Lib.hid hS
  have HN := Lib.hid hn
  have HPP := Lib.hid hP
  have HPL := Lib.hid hPl
  have HAL := Lib.hid hal
  have HPI := Lib.hid hPI
  clear hS hn hP hPl hall hal hPI
  rcases Nat.eq_zero_or_pos n with h0 | h0
  · subst h0
    have HNO : Hid (allR P = false) := Lib.hid (by rw [HPI.out]; rfl)
    go_enter Tryz.func25, Tryz.ntmps25
    go_wp2_with fail
    go_ret2
    exact prIs_no HNO.out (Below.refl _ _)
  · have hz : ((n : Int) == 0) = false := by rw [beq_eq_false_iff_ne]; omega
    have hn0 : ¬ n = 0 := by omega
    cases al
    · have HNO : Hid (allR P = false) := Lib.hid (by rw [HPI.out, Bool.and_false])
      go_enter Tryz.func25, Tryz.ntmps25
      go_wp2_with fail
      refine (C.out _ (Below.refl _ _)).mono ?_
      rintro e w1 ⟨rfl, hb1⟩
      have HB1 := Lib.hid hb1
      clear hb1
      go_wp2_with fail
      go_ret2
      exact prIs_no HNO.out HB1.out
    · have HYES : Hid (allR P = true) := Lib.hid (by rw [HPI.out, Bool.and_true]; exact decide_eq_true h0)
      go_enter Tryz.func25, Tryz.ntmps25
      go_wp2_with fail
      refine (C.out _ (Below.refl _ _)).mono ?_
      rintro e w1 ⟨rfl, hb1⟩
      have HB1 := Lib.hid hb1
      clear hb1
      have S12 := Lib.hid (fun W => sign_b 12 W)
      have S20 := Lib.hid (fun W => sign_b 20 W)
      go_wp2_with fail
      go_loopw [5, 20] (fun v vi wr => ∃ k : Nat, vi = .int .i64 (k : Int) ∧ k ≤ n ∧ Hid (PL w wr v (lstF 0 (P.take k)) ∧ (lstF 0 (P.take k)).length ≤ 538 * k)) (fun _ vi _ => n - (intOf vi).toNat)
      case atStart => exact ⟨0, rfl, by omega, Lib.hid ⟨⟨TokRow.nil _ _, HB1.out⟩, Nat.le_refl _⟩⟩
      case round =>
        obtain ⟨k, rfl, hk, HK⟩ := hrel
        by_cases hlt : k < n
        · have hltz : (k : Int) < (n : Int) := by omega
          have hkl : k < l.length := by have := HN.out; omega
          obtain ⟨b, o, rfl, g1, g2, hok⟩ := HS.out.get hkl
          have hkP : k < P.length := by have := HPL.out; omega
          have hpk : P[k] = (l[k]).pure := by have := HPP.out; subst this; rw [List.getElem_map]
          have hrk : rightS P[k] = true := by
            have h := HAL.out
            rw [List.all_eq_true] at h
            exact h _ (List.getElem_mem hkP)
          have hft := lstF_take hkP
          rw [hpk] at hft hrk
          have d1 : wr.cell? ⟨b, o + k, none⟩ = some (l[k]).val := (HK.out.1.bel.cell (p := ⟨b, o + k, none⟩) g1).trans g2
          have hok2 := fun W (hW : Below w.heap.size w W) => hok.below hW
          generalize l[k] = s at *
          obtain ⟨ps, pa, pc⟩ := s
          have hpu : (SelV.pure ⟨ps, pa, pc⟩) = ps.map PtV.p := rfl
          rw [hpu] at hft hrk
          unfold SelV.val at d1
          simp only at d1
          obtain ⟨Q, hQ⟩ : ∃ Q, ps.map PtV.p = Q := ⟨_, rfl⟩
          have hQl : Q.length = ps.length := by rw [← hQ, List.length_map]
          rw [hQ] at hft hrk
          obtain ⟨m, hm⟩ : ∃ m, ps.length = m := ⟨_, rfl⟩
          rw [hm] at hQl d1
          have hm8 : m ≤ 8 := by rw [← hQl]; exact right_len hrk
          have HFT := Lib.hid hft
          have HRK := Lib.hid hrk
          have HQQ := Lib.hid hQ
          have HQL := Lib.hid hQl
          have HM := Lib.hid hm
          have HOK := Lib.hid hok2
          obtain ⟨acc, hacc⟩ : ∃ acc, lstF 0 (P.take k) = acc := ⟨_, rfl⟩
          have HACC := Lib.hid hacc
          rw [hacc] at HK
          clear hft hrk hQ hQl hm hok2 hok g2 hpk hpu hacc
          go_upto_if 26 with fail
          clear d1
          have hbx := heap_alloc_new wr (.cells #[.slice pa m pc] 24)
          have HK1 := Lib.hid (HK.out.1.keep (below_one7 wr (.cells #[.slice pa m pc] 24)))
          obtain ⟨B, hB⟩ : ∃ B, wr.heap.size = B := ⟨_, rfl⟩
          rw [hB] at hbx ⊢
          generalize wr.alloc (.cells #[.slice pa m pc] 24) = W1 at *
          have HBX := Lib.hid hbx
          clear hbx hB
          go_cut [5] (fun v wx => ∃ y, y = v ∧ Hid (PL w wx y (acc ++ (if k = 0 then [] else [tkS 12, tkS 20])) ∧ wx.heap[B]? = some (.cells #[.slice pa m pc] 24 (0, 0))))
          case first =>
            by_cases hk0 : k = 0
            · have hkz : ¬ (0 : Int) < (k : Int) := by omega
              have HF : Hid (PL w W1 u5 (acc ++ (if k = 0 then [] else [tkS 12, tkS 20])) ∧ W1.heap[B]? = some (.cells #[.slice pa m pc] 24 (0, 0))) := Lib.hid (by rw [if_pos hk0, List.append_nil]; exact ⟨HK1.out, HBX.out⟩)
              clear hk0
              go_wp2_with fail
              go_meet
              exact ⟨_, rfl, HF⟩
            · have hkz : (0 : Int) < (k : Int) := by omega
              have hkn : 0 < k := by omega
              have HK0 := Lib.hid hk0
              clear hk0
              go_wp2_with fail
              refine (S12.out _).mono ?_
              rintro e w2 ⟨rfl, hb2⟩
              have HB2 := Lib.hid hb2
              clear hb2
              go_wp2_with fail
              refine (S20.out _).mono ?_
              rintro e w3 ⟨rfl, hb3⟩
              obtain ⟨v4, w4, hr4, hP4, hk4⟩ := ((HK1.out.keep HB2.out).keep hb3).put2 (by have := HK.out.2; omega) 12 [] 0 20 [] 0
              have HR4 := Lib.hid hr4
              have HF : Hid (PL w w4 v4 (acc ++ (if k = 0 then [] else [tkS 12, tkS 20])) ∧ w4.heap[B]? = some (.cells #[.slice pa m pc] 24 (0, 0))) := Lib.hid (by
                rw [if_neg HK0.out]
                exact ⟨hP4, ((KeptK.below HB2.out).trans ((KeptK.below hb3).trans hk4)) _ _ _ _ HBX.out kinds7.2⟩)
              clear hb3 hr4 hP4 hk4
              go_wp2_with (at_builtin; refine wpList_append_runL rfl _ _ 46 rfl _ _ _ _ rfl rfl HR4.out ?_)
              go_meet
              exact ⟨_, rfl, HF⟩
          case rest =>
            obtain ⟨y, hy, HF⟩ := hcut
            subst hy
            obtain ⟨ac2, hac2⟩ : ∃ ac2, acc ++ (if k = 0 then [] else [tkS 12, tkS 20]) = ac2 := ⟨_, rfl⟩
            rw [hac2] at HF
            have hl2 : ac2.length ≤ 538 * k + 2 := by rw [← hac2, List.length_append]; have := HK.out.2; split <;> simp <;> omega
            have HAC2 := Lib.hid hac2
            have HL2 := Lib.hid hl2
            have c1 : wc.cell? ⟨B, 0, none⟩ = some (.slice pa m pc) := cell_of HF.out.2 rfl
            clear hac2 hl2
            go_upto_region 11 with (fail)
            clear c1
            go_loopw [5, 35] (fun v vi wx => ∃ j : Nat, vi = .int .i64 (j : Int) ∧ j ≤ m ∧ Hid (PL w wx v (ac2 ++ (Q.take j).flatMap (fun p => combT p.comb ++ partT p)) ∧ (ac2 ++ (Q.take j).flatMap (fun p => combT p.comb ++ partT p)).length ≤ 538 * k + 2 + 67 * j)) (fun _ vi _ => m - (intOf vi).toNat)
            case atStart => exact ⟨0, rfl, by omega, Lib.hid ⟨by simpa using HF.out.1, by simpa using HL2.out⟩⟩
            case round =>
              obtain ⟨j, rfl, hj, HJ⟩ := hrel
              by_cases hjm : j < m
              · have hjz : (j : Int) < (m : Int) := by omega
                have hjl : j < ps.length := by have := HM.out; omega
                have hjQ : j < Q.length := by have := HQL.out; omega
                have hq : Q[j] = (ps[j]).p := by have := HQQ.out; subst this; rw [List.getElem_map]
                have hfj := flat_take (fun p => combT p.comb ++ partT p) hjQ
                obtain ⟨hrp, hc0, hc4⟩ := right_at HRK.out hjQ
                rw [hq] at hfj hrp hc0 hc4
                obtain ⟨pb, po, hpa, p1, hat, hpok⟩ := (HOK.out w (Below.refl _ _)).pts.get hjl
                have hpa : pa = some ⟨pb, po, none⟩ := hpa
                subst hpa
                have hat2 := hat.below HJ.out.1.bel p1
                have hpok2 := fun W (hW : Below w.heap.size w W) => hpok.below hW
                generalize ps[j] = x at *
                obtain ⟨⟨co, tg, id, cl, ts, st⟩, ca, cc, ta, tc⟩ := x
                obtain ⟨d0, d1, d2, d3, d4, d5⟩ := hat2
                simp only at d0 d1 d2 d3 d4 d5 hfj hrp hc0 hc4
                obtain ⟨ln, hln⟩ : ∃ n, cl.length = n := ⟨_, rfl⟩
                obtain ⟨lm, hlm⟩ : ∃ n, ts.length = n := ⟨_, rfl⟩
                have CT := Lib.hid fun W => combTokens_any co hc0 hc4 W
                have PT := Lib.hid fun W (hW : Below w.heap.size w W) => partTokens_named co st tg id ca ta cc tc ln lm cl ts W hln hlm (hpok2 W hW) hrp
                have hcl := combT_len co
                have hpl := partT_len hrp
                rw [hln] at d3
                rw [hlm] at d4
                generalize combT co = X1 at *
                generalize partT ⟨co, tg, id, cl, ts, st⟩ = X2 at *
                obtain ⟨n1, hn1⟩ : ∃ n, X1.length = n := ⟨_, rfl⟩
                obtain ⟨n2, hn2⟩ : ∃ n, X2.length = n := ⟨_, rfl⟩
                rw [hn1] at hcl
                rw [hn2] at hpl
                have HN1 := Lib.hid hn1
                have HN2 := Lib.hid hn2
                have HFJ := Lib.hid hfj
                clear hat hpok hpok2 hq hfj hrp hc0 hc4 hln hlm hn1 hn2
                go_wp2_with fail
                have hbx2 := heap_alloc_new wr (.cells #[.int .i64 co, .string ⟨tg.toArray⟩, .string ⟨id.toArray⟩, .slice ca ln cc, .slice ta lm tc, .int .i64 st] 36)
                have HJ1 := Lib.hid (HJ.out.1.keep (below_one7 wr (.cells #[.int .i64 co, .string ⟨tg.toArray⟩, .string ⟨id.toArray⟩, .slice ca ln cc, .slice ta lm tc, .int .i64 st] 36)))
                obtain ⟨B2, hB2⟩ : ∃ B, wr.heap.size = B := ⟨_, rfl⟩
                rw [hB2] at hbx2 ⊢
                generalize wr.alloc (.cells #[.int .i64 co, .string ⟨tg.toArray⟩, .string ⟨id.toArray⟩, .slice ca ln cc, .slice ta lm tc, .int .i64 st] 36) = W2 at *
                have HBX2 := Lib.hid hbx2
                clear d0 d1 d2 d3 d4 d5 hB2 hbx2
                refine (CT.out _).mono ?_
                rintro e w3 ⟨za, zc, rfl, hzT, hb3, hz1, hz2⟩
                obtain ⟨v4, w4, hr4, hP4, hk4⟩ := (HJ1.out.keep hb3).putL (by have := HJ.out.2; omega) za X1 n1 zc HN1.out (by omega) hzT
                have hbx4 := ((KeptK.below hb3).trans hk4) _ _ _ _ HBX2.out kinds7.1
                have e0 := cell_of (k := 0) hbx4 rfl
                have e1 := cell_of (k := 1) hbx4 rfl
                have e2 := cell_of (k := 2) hbx4 rfl
                have e3 := cell_of (k := 3) hbx4 rfl
                have e4 := cell_of (k := 4) hbx4 rfl
                have e5 := cell_of (k := 5) hbx4 rfl
                have HR4 := Lib.hid hr4
                have HP4 := Lib.hid hP4
                rw [HN1.out]
                clear hb3 hr4 hP4 hk4 hzT hz1 hz2 hbx4
                go_wp2_with (at_builtin; refine wpList_append_runL rfl _ _ 46 rfl _ _ _ _ rfl rfl HR4.out ?_)
                clear e0 e1 e2 e3 e4 e5
                refine (PT.out _ HP4.out.bel).mono ?_
                rintro e w5 ⟨ya, yc, rfl, hyT, hb5, hy1, hy2⟩
                obtain ⟨v6, w6, hr6, hP6, hk6⟩ := (HP4.out.keep hb5).putL (by rw [List.length_append]; have := HJ.out.2; have := HN1.out; omega) ya X2 n2 yc HN2.out (by omega) hyT
                have HR6 := Lib.hid hr6
                have HP6 : Hid (PL w w6 v6 (ac2 ++ (Q.take (j + 1)).flatMap (fun p => combT p.comb ++ partT p)) ∧ (ac2 ++ (Q.take (j + 1)).flatMap (fun p => combT p.comb ++ partT p)).length ≤ 538 * k + 2 + 67 * (j + 1)) := Lib.hid (by
                  rw [HFJ.out, ← List.append_assoc, ← List.append_assoc]
                  refine ⟨hP6, ?_⟩
                  rw [List.length_append, List.length_append]
                  have := HJ.out.2
                  have := HN1.out
                  have := HN2.out
                  omega)
                rw [HN2.out]
                clear hb5 hr6 hP6 hk6 hyT hy1 hy2
                go_wp2_with (at_builtin; refine wpList_append_runL rfl _ _ 46 rfl _ _ _ _ rfl rfl HR6.out ?_)
                go_roundw
                case rel => exact ⟨j + 1, by go_num, by omega, HP6⟩
                case measure => simp [intOf]; omega
              · have hjz : ¬ (j : Int) < (m : Int) := by omega
                have HE : Hid (PL w wr u5 (lstF 0 (P.take (k + 1))) ∧ (lstF 0 (P.take (k + 1))).length ≤ 538 * (k + 1)) := Lib.hid (by
                  have h := HJ.out
                  rw [List.take_of_length_le (by have := HQL.out; omega)] at h
                  have e : lstF 0 (P.take (k + 1)) = ac2 ++ Q.flatMap (fun p => combT p.comb ++ partT p) := by
                    rw [HFT.out, HACC.out, ← HAC2.out, List.append_assoc]; rfl
                  rw [e]
                  exact ⟨h.1, by have := h.2; omega⟩)
                clear HJ
                go_wp2_with fail
                go_roundw
                case rel => exact ⟨k + 1, by go_num, by omega, HE⟩
                case measure => simp [intOf]; omega
        · have hltz : ¬ (k : Int) < (n : Int) := by omega
          have HE : Hid (PL w wr u5 (listT P)) := Lib.hid (by
            have h := HK.out.1
            rw [List.take_of_length_le (by have := HPL.out; omega)] at h
            exact h)
          clear HK
          go_wp2_with fail
          go_ret2
          exact prIs_yes HYES.out HE.out.row HE.out.bel
end Go.Proofs.YtfbfndknhabmhaaGreat
