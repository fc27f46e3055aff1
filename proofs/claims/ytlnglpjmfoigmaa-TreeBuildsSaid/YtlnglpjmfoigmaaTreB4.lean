/- The walk of layer 4's reference: Put. -/
import Derived.Test.YtlnglpjmfoigmaaTreB3
namespace Go.Proofs.Ytlnglpjmfoigmaa
open Go.RowKit TreN TreP

/-- n's box, and one for what is put -/
def pbox (w : World) (n : Nd) (p : Int) : World := (boxed w n).alloc (.cells #[.int .i64 p, .string n.tag, .string n.id, .slice n.ca n.cl n.cc, .slice n.aa n.al n.ac, .string n.tx] 39)
set_option maxRecDepth 100000 in
theorem pbox_below (w : World) (n : Nd) (p : Int) : Below w.heap.size w (pbox w n p) := (boxed_below w n).alloc (boxed_below w n).size _
set_option maxRecDepth 100000 in
theorem pbox_size (w : World) (n : Nd) (p : Int) : (pbox w n p).heap.size = w.heap.size + 2 := by unfold pbox boxed; simp
set_option maxRecDepth 100000 in
theorem pbox_heap (w : World) (n : Nd) (p : Int) : (pbox w n p).heap[w.heap.size + 1]? = some (.cells #[.int .i64 p, .string n.tag, .string n.id, .slice n.ca n.cl n.cc, .slice n.aa n.al n.ac, .string n.tx] 39 (0, 0)) := by
  have e : w.heap.size + 1 = (boxed w n).heap.size := by unfold boxed; simp
  unfold pbox
  rw [e]
  exact heap_alloc_new _ _

/-- what Put answers -/
def putS (L : Nat → Nd) (N : Nat) (x : Nd) (i : Nat) : Nd := if i < N then L i else x

set_option maxRecDepth 100000 in
theorem put_succ (L : Nat → Nd) (N : Nat) (x : Nd) : ndcs L N ++ ndcs (fun _ => x) 1 = ndcs (putS L N x) (N + 1) := by
  rw [ndcs_cat]
  apply ndcs_congr
  intro i _
  rfl
set_option maxRecDepth 100000 in
theorem put_in (w : World) (a : Option Addr) (L : Nat → Nd) (N : Nat) (x : Nd) (hL : Nods w a N L) (hx : NdIn w x) : ∀ i, i < N + 1 → NdIn w (putS L N x i) := by
  intro i hi
  unfold putS
  by_cases hc : i < N
  · rw [if_pos hc]
    obtain ⟨_, _, _, _, hn⟩ := hL.at_ hc
    exact hn
  · rw [if_neg hc]; exact hx
set_option maxRecDepth 100000 in
theorem NdIn.withP' {w : World} {n : Nd} (h : NdIn w n) (p : Int) : NdIn w (n.withP p) := ⟨h.stag, h.sid, h.stx, h.scl, h.sal, h.scs, h.san, h.sav, h.hc, h.ha⟩

set_option maxRecDepth 100000 in
set_option maxHeartbeats 4000000 in
theorem refPut_none (la oa : Option Addr) (N lc oc : Nat) (L : Nat → Nd) (n : Nd) (w : World) (hN : N ≤ 1000) (hL : Nods w la N L) (hn : NdIn w n) :
    Calls Try.prog 34 #[.slice la N lc, .slice oa 0 oc, .agg n.val] w fun e w' => ∃ g cap, e = .returned (.slice (some ⟨g, 0, none⟩) (N + 1) cap) ∧ NAt w' g 0 (N + 1) (putS L N (n.withP (-1))) ∧ Below w.heap.size w w' ∧ w.heap.size ≤ g := by
  obtain ⟨i0, hi0, hz0, hz1, hz2⟩ := info_parts info_node
  have hb := pbox_below w n (-1)
  have hs := pbox_size w n (-1)
  have hh := pbox_heap w n (-1)
  obtain ⟨v, w1, hr, hown, hb1⟩ := copy_nodes w.heap.size la N lc L (pbox w n (-1)) (by omega) (by omega) (hL.below hb)
  have hbx : (w.alloc (.cells #[.int .i64 n.par, .string n.tag, .string n.id, .slice n.ca n.cl n.cc, .slice n.aa n.al n.ac, .string n.tx] 39)).alloc (.cells #[.int .i64 (-1), .string n.tag, .string n.id, .slice n.ca n.cl n.cc, .slice n.aa n.al n.ac, .string n.tx] 39) = pbox w n (-1) := rfl
  generalize pbox w n (-1) = wb at *
  have hh1 := (hb1.block (w.heap.size + 1) (by omega)).trans hh
  have c0 := cell_of (k := 0) hh1 rfl
  have c1 := cell_of (k := 1) hh1 rfl
  have c2 := cell_of (k := 2) hh1 rfl
  have c3 := cell_of (k := 3) hh1 rfl
  have c4 := cell_of (k := 4) hh1 rfl
  have c5 := cell_of (k := 5) hh1 rfl
  have hbw : Below w.heap.size w w1 := hb.trans (hb1.mono (by omega))
  have hle := hbw.size
  have HR := Lib.hid hr
  have HB := Lib.hid hbw
  have HL := Lib.hid hL
  have HN := Lib.hid hn
  clear hh hh1 hr hb hb1 hs hbw hL hn
  rw [Nd.val_eq]
  go_enter Try.func34, Try.ntmps34
  go_wp2_with (first
    | (at_builtin; refine wpList_append_run rfl _ _ 24 rfl _ _ _ _ rfl rfl HR.out ?_)
    | (at_builtin; refine wpList_append_own _ rfl _ _ 24 rfl w.heap.size 39 i0 _ 6 104 und_nodes hi0 hz0 hz1 hz2 rfl (by decide) _ _ _ rfl (hown.alloc _) ⟨w1.heap.size, 0, none⟩ 1 1 (ndcs (fun _ => n.withP (-1)) 1) rfl (ndcs_length _ _) ?c1 (ndcs_one _ _) ?c3 ?c4 ?c5 ?_))
  case c1 =>
    refine ndcs_news (off := 0) fun j hj => ?_
    obtain rfl : j = 0 := by omega
    have hb := heap_alloc_new w1 (.cells #[.int .i64 (-1), .string n.tag, .string n.id, .slice n.ca n.cl n.cc, .slice n.aa n.al n.ac, .string n.tx] 39)
    exact ⟨cell_of hb rfl, cell_of hb rfl, cell_of hb rfl, cell_of hb rfl, cell_of hb rfl, cell_of hb rfl⟩
  case c3 => unfold maxLen; omega
  case c4 => omega
  case c5 => simp; omega
  intro v' w2 hown' hgrow _
  rw [put_succ] at hown'
  have hbl : Below w.heap.size w w2 := (HB.out.alloc hle _).trans (below_grown3 hgrow (fun q hq => (World.ownsRow.lt hown q hq).1) (by simp; omega))
  obtain ⟨g, cap, rfl, hg, hgl⟩ := hown'.form (by omega)
  have hnat : NAt w2 g 0 (N + 1) (putS L N (n.withP (-1))) := NAt.of hgl (ndcs_back hown') (put_in w2 la L N _ (HL.out.below hbl) ((HN.out.below hbl).withP' _))
  have HNA := Lib.hid hnat
  have HBL := Lib.hid hbl
  clear hnat hbl hgrow hown'
  go_wp2_with fail
  go_ret
  exact ⟨g, cap, rfl, HNA.out, HBL.out, hg⟩

set_option maxRecDepth 100000 in
set_option maxHeartbeats 4000000 in
theorem refPut_some (la : Option Addr) (N lc og K oc : Nat) (p : Int) (L : Nat → Nd) (n : Nd) (w : World) (hN : N ≤ 1000) (hK0 : 0 < K) (hK1 : K ≤ 1000) (hog : og < w.heap.size) (hp : w.cell? ⟨og, K - 1, none⟩ = some (.int .i64 p)) (hL : Nods w la N L) (hn : NdIn w n) :
    Calls Try.prog 34 #[.slice la N lc, .slice (some ⟨og, 0, none⟩) K oc, .agg n.val] w fun e w' => ∃ g cap, e = .returned (.slice (some ⟨g, 0, none⟩) (N + 1) cap) ∧ NAt w' g 0 (N + 1) (putS L N (n.withP p)) ∧ Below w.heap.size w w' ∧ w.heap.size ≤ g := by
  obtain ⟨i0, hi0, hz0, hz1, hz2⟩ := info_parts info_node
  have hb := pbox_below w n (-1)
  have hs := pbox_size w n (-1)
  have hh := pbox_heap w n (-1)
  have hbx : (w.alloc (.cells #[.int .i64 n.par, .string n.tag, .string n.id, .slice n.ca n.cl n.cc, .slice n.aa n.al n.ac, .string n.tx] 39)).alloc (.cells #[.int .i64 (-1), .string n.tag, .string n.id, .slice n.ca n.cl n.cc, .slice n.aa n.al n.ac, .string n.tx] 39) = pbox w n (-1) := rfl
  generalize pbox w n (-1) = wb at *
  have hld := (hb.cell (p := ⟨og, K - 1, none⟩) hog).trans hp
  have q0 := cell_of (k := 0) hh rfl
  have f0 := unfrozen_of (k := 0) hh
  have hh' := setCell_here (k := 0) (.int .i64 p) hh
  have hb' : Below w.heap.size w (wb.setCell ⟨w.heap.size + 1, 0, none⟩ (.int .i64 p)) := hb.setCell (p := ⟨w.heap.size + 1, 0, none⟩) (by show w.heap.size ≤ w.heap.size + 1; omega) _
  have hs' : (wb.setCell ⟨w.heap.size + 1, 0, none⟩ (.int .i64 p)).heap.size = w.heap.size + 2 := by rw [setCell_size]; exact hs
  simp only [List.setIfInBounds_toArray, List.set_cons_zero] at hh'
  obtain ⟨wx, hwx⟩ : ∃ wx, wb.setCell ⟨w.heap.size + 1, 0, none⟩ (.int .i64 p) = wx := ⟨_, rfl⟩
  rw [hwx] at hh' hb' hs'
  have hkz : (0 : Int) < (K : Int) := by omega
  have e1 : (K : Int) - 1 = ((K - 1 : Nat) : Int) := by omega
  have hw1 : IntKind.i64.wrap ((K - 1 : Nat) : Int) = ((K - 1 : Nat) : Int) := IntWalk.i64_in _ (by omega)
  have hkk : ((K - 1 : Nat) : Int) < (K : Int) := by omega
  obtain ⟨v, w1, hr, hown, hb1⟩ := copy_nodes w.heap.size la N lc L wx (by omega) (by omega) (hL.below hb')
  have hh1 := (hb1.block (w.heap.size + 1) (by omega)).trans hh'
  have c0 := cell_of (k := 0) hh1 rfl
  have c1 := cell_of (k := 1) hh1 rfl
  have c2 := cell_of (k := 2) hh1 rfl
  have c3 := cell_of (k := 3) hh1 rfl
  have c4 := cell_of (k := 4) hh1 rfl
  have c5 := cell_of (k := 5) hh1 rfl
  have hbw : Below w.heap.size w w1 := hb'.trans (hb1.mono (by omega))
  have hle := hbw.size
  have HR := Lib.hid hr
  have HB := Lib.hid hbw
  have HL := Lib.hid hL
  have HN := Lib.hid hn
  clear hh hh' hh1 hr hb hb' hb1 hs hs' hbw hL hn hp
  rw [Nd.val_eq]
  go_enter Try.func34, Try.ntmps34
  go_wp2_with (first
    | (at_builtin; refine wpList_append_run rfl _ _ 24 rfl _ _ _ _ rfl rfl HR.out ?_)
    | (at_builtin; refine wpList_append_own _ rfl _ _ 24 rfl w.heap.size 39 i0 _ 6 104 und_nodes hi0 hz0 hz1 hz2 rfl (by decide) _ _ _ rfl (hown.alloc _) ⟨w1.heap.size, 0, none⟩ 1 1 (ndcs (fun _ => n.withP p) 1) rfl (ndcs_length _ _) ?c1 (ndcs_one _ _) ?c3 ?c4 ?c5 ?_))
  case c1 =>
    refine ndcs_news (off := 0) fun j hj => ?_
    obtain rfl : j = 0 := by omega
    have hb := heap_alloc_new w1 (.cells #[.int .i64 p, .string n.tag, .string n.id, .slice n.ca n.cl n.cc, .slice n.aa n.al n.ac, .string n.tx] 39)
    exact ⟨cell_of hb rfl, cell_of hb rfl, cell_of hb rfl, cell_of hb rfl, cell_of hb rfl, cell_of hb rfl⟩
  case c3 => unfold maxLen; omega
  case c4 => omega
  case c5 => simp; omega
  intro v' w2 hown' hgrow _
  rw [put_succ] at hown'
  have hbl : Below w.heap.size w w2 := (HB.out.alloc hle _).trans (below_grown3 hgrow (fun q hq => (World.ownsRow.lt hown q hq).1) (by simp; omega))
  obtain ⟨g, cap, rfl, hg, hgl⟩ := hown'.form (by omega)
  have hnat : NAt w2 g 0 (N + 1) (putS L N (n.withP p)) := NAt.of hgl (ndcs_back hown') (put_in w2 la L N _ (HL.out.below hbl) ((HN.out.below hbl).withP' _))
  have HNA := Lib.hid hnat
  have HBL := Lib.hid hbl
  clear hnat hbl hgrow hown'
  go_wp2_with fail
  go_ret
  exact ⟨g, cap, rfl, HNA.out, HBL.out, hg⟩
end Go.Proofs.Ytlnglpjmfoigmaa
