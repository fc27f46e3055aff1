/- The walks of layer 22: lines. -/
import Derived.Test.YtapfmancgidpfaaAliW4
namespace Go.Proofs.Ytapfmancgidpfaa
open Go.RowKit FixM ShaD ShaM Go.Sort
set_option linter.unusedVariables false

set_option maxRecDepth 100000 in
set_option maxHeartbeats 400000 in
theorem Lines1_any (i : Int) (w : World) : Calls Try.prog 32 #[.int .i64 i] w fun e w' => e = .returned (.int .i64 1) ∧ w = w' := by
  go_enter Try.func32, Try.ntmps32
  go_wp2_with fail
  go_ret
  exact ⟨rfl, rfl⟩
theorem enters_ln1 : ∀ args w, (callFunc 32 args).run Try.prog w = .ok (.enter 32 args) w := enters_of Try.func32 (by kernel_rfl) rfl

/-- what is added to a line; a space of lines -/
def lnA (F : Int) (N : Nat) (way : Int) (i : Nat) : Int := if way = 0 ∧ 0 < F ∧ 0 < N then shareS F ((List.range N).map (fun _ => 1)) i else 0
def lnS (F : Int) (N : Nat) (way : Int) (i : Nat) : Int := if way = 0 ∧ 0 < F ∧ 0 < N then 0 else spS F N (JW way) i

def LnIs (w : World) (N : Nat) (f g : Nat → Int) (e : Ending) (w' : World) : Prop :=
  ∃ b1 b2, w.heap.size ≤ b1 ∧ w.heap.size ≤ b2 ∧ e = .returned (.tuple #[.slice (some ⟨b1, 0, none⟩) N N, .slice (some ⟨b2, 0, none⟩) (N + 1 : Nat) (N + 1 : Nat)]) ∧ Below w.heap.size w w' ∧ Row w' b1 N f ∧ Row w' b2 (N + 1) g

theorem row_drew {w : World} {b n : Nat} {f : Nat → Int} (h : Row w b n f) : Row w.drew b n f := fun i hi => h i hi
theorem CN_id (N : Nat) (h : N ≤ 999) : CN (N : Int) = N := by unfold CN; omega
theorem row_lt' {w : World} {b n : Nat} {f : Nat → Int} (h : Row w b n f) (hn : 0 < n) : b < w.heap.size := Row_lt h hn

set_option maxRecDepth 100000 in
set_option maxHeartbeats 2000000 in
theorem Lines22_rest (t n way : Int) (N : Nat) (w : World) (hn : CN n = N) (hN : N ≤ 999) (hwf : (Lit.int .i64 way).wf = true) (h : ¬ (way = 0 ∧ 0 < H t ∧ 0 < N)) :
    Calls Try.prog 17 #[.int .i64 t, .int .i64 n, .int .i64 way] w (LnIs w N (lnA (H t) N way) (lnS (H t) N way)) := by
  have hA : ∀ i, lnA (H t) N way i = 0 := fun i => by unfold lnA; rw [if_neg h]
  have hS : ∀ i, lnS (H t) N way i = spS (H t) N (JW way) i := fun i => by unfold lnS; rw [if_neg h]
  have hFb := H_bd t
  have hHH := H_H t
  obtain ⟨F, hFe⟩ : ∃ F, H t = F := ⟨_, rfl⟩
  rw [hFe] at hA hS hFb h hHH
  obtain ⟨fa, hfa⟩ : ∃ fa, lnA F N way = fa := ⟨_, rfl⟩
  obtain ⟨fs, hfs⟩ : ∃ fs, lnS F N way = fs := ⟨_, rfl⟩
  rw [hFe, hfa, hfs]
  rw [hfa] at hA
  rw [hfs] at hS
  have SPC : ∀ W, Calls Try.prog 10 #[.int .i64 F, .int .i64 (N : Int), .int .i64 (JW way)] W fun e w' =>
      ∃ b, W.heap.size ≤ b ∧ e = .returned (.slice (some ⟨b, 0, none⟩) (N + 1 : Nat) (N + 1 : Nat)) ∧ Below W.heap.size W w' ∧ Row w' b (N + 1) (spS F N (JW way)) := fun W => by
    have := Spaces22_any F (N : Int) (JW way) N W (CN_id N hN) hN
    rwa [hHH] at this
  obtain ⟨M, hM⟩ : ∃ M, N + 1 = M := ⟨_, rfl⟩
  rw [hM] at SPC
  unfold LnIs
  rw [hM]
  obtain ⟨jw, hjw⟩ : ∃ jw, JW way = jw := ⟨_, rfl⟩
  rw [hjw] at SPC hS
  have HM := Lib.hid hM
  have HFE := Lib.hid hFe
  have HN := Lib.hid hn
  have HJ := Lib.hid hjw
  have HA := Lib.hid hA
  have HS := Lib.hid hS
  have HSP := Lib.hid SPC
  have hmk := make_ints N (by omega)
  have hcase : way ≠ 0 ∨ way = 0 ∧ F ≤ 0 ∨ way = 0 ∧ 0 < F ∧ N = 0 := by omega
  clear hFe hA hS SPC hn hjw hfa hfs h hM
  go_enter Try.func17, Try.ntmps17
  go_upto_region 2 with (first
      | (go_at_call 19; refine (Hold_any _ _).mono ?_; rw [HFE.out]; rintro e w' ⟨rfl, rfl⟩)
      | (go_at_call 20; refine (count22_any _ _).mono ?_; rw [HN.out]; rintro e w' ⟨rfl, rfl⟩))
  go_cut [22] (fun v wx => v = .bool true ∧ wx = w)
  case first =>
    clear hmk
    rcases hcase with h1 | ⟨h1, h2⟩ | ⟨h1, h2, h3⟩
    · have b0 : (way == 0) = false := by simp [h1]
      go_wp2_with fail
      go_meet
      exact ⟨rfl, rfl⟩
    · subst h1
      go_wp2_with fail
      go_meet
      exact ⟨rfl, rfl⟩
    · subst h1
      subst h3
      go_wp2_with fail
      go_meet
      exact ⟨rfl, rfl⟩
  case rest =>
    obtain ⟨rfl, hw⟩ := hcut
    have hw' := hw.symm
    subst hw'
    clear hcase
    go_upto_region 3 with fail
    go_region_with (first
      | (go_at_call 30; refine (justified_any _ _ hwf).mono ?_; rw [HJ.out]; rintro e w' ⟨rfl, rfl⟩)
      | (go_at_call 10; refine (HSP.out _).mono ?_; rintro e w9 ⟨b, hb, rfl, hbel, hrow⟩; have HBE := Lib.hid hbel; have HROW := Lib.hid hrow; clear hbel hrow))
    all_goals go_wp2_with fail
    all_goals go_ret2
    all_goals
      have zm : ∀ u : World, (mk0 u N).heap.size = u.heap.size + 1 := fun u => by unfold mk0; simp
      have hd : Below w.heap.size w w.drew := (Below.refl _ _).drew
      have hfa0 : ∀ u : World, Row (mk0 u N) u.heap.size N fa := fun u => (row_mk0 u N).ext (fun i _ => (HA.out i).symm)
      have hfs0 : Row w9 b M fs := HROW.out.ext (fun i _ => (HS.out i).symm)
      have hM0 : b < w9.heap.size := Row_lt hfs0 (by have := HM.out; omega)
    · have hz := zm w.drew
      have hz2 : w.drew.heap.size = w.heap.size := rfl
      exact ⟨w.heap.size, b, Nat.le_refl _, by omega, rfl, (hd.trans (below_mk0 w.drew N)).trans (HBE.out.mono (by omega)), (hfa0 w.drew).below HBE.out (by omega), hfs0⟩
    · have hz := zm w.drew
      have hz2 : w.drew.heap.size = w.heap.size := rfl
      exact ⟨w.heap.size, b, Nat.le_refl _, by omega, rfl, (hd.trans (below_mk0 w.drew N)).trans (HBE.out.mono (by omega)), (hfa0 w.drew).below HBE.out (by omega), hfs0⟩
    · have hz2 : w.drew.heap.size = w.heap.size := rfl
      have hs := HBE.out.size
      exact ⟨w9.heap.size, b, by omega, by omega, rfl, (hd.trans HBE.out).trans ((below_mk0 w9 N).mono (by omega)), hfa0 w9, hfs0.below (below_mk0 w9 N) hM0⟩

set_option maxRecDepth 100000 in
set_option maxHeartbeats 2000000 in
theorem Lines22_deal (t n : Int) (N : Nat) (w : World) (hn : CN n = N) (hN : N ≤ 999) (hF : 0 < H t) (h0 : 0 < N) :
    Calls Try.prog 17 #[.int .i64 t, .int .i64 n, .int .i64 0] w (LnIs w N (lnA (H t) N 0) (lnS (H t) N 0)) := by
  have hA : ∀ i, lnA (H t) N 0 i = shareS (H t) ((List.range N).map (fun _ => 1)) i := fun i => by unfold lnA; rw [if_pos ⟨rfl, hF, h0⟩]
  have hS : ∀ i, lnS (H t) N 0 i = 0 := fun i => by unfold lnS; rw [if_pos ⟨rfl, hF, h0⟩]
  have hHH := H_H t
  obtain ⟨F, hFe⟩ : ∃ F, H t = F := ⟨_, rfl⟩
  rw [hFe] at hA hS hF hHH
  obtain ⟨fa, hfa⟩ : ∃ fa, lnA F N 0 = fa := ⟨_, rfl⟩
  obtain ⟨fs, hfs⟩ : ∃ fs, lnS F N 0 = fs := ⟨_, rfl⟩
  rw [hFe, hfa, hfs]
  rw [hfa] at hA
  rw [hfs] at hS
  have D := deal22_any F N 32 #[] (fun _ => 1) w (by omega) enters_ln1 (fun W _ i _ => Lines1_any i W)
  rw [hHH] at D
  obtain ⟨M, hM⟩ : ∃ M, N + 1 = M := ⟨_, rfl⟩
  unfold LnIs
  rw [hM]
  have e1 : (M : Int) = (N : Int) + 1 := by omega
  have hmk := make_ints M (by omega)
  rw [e1] at hmk
  have HM := Lib.hid hM
  have HFE := Lib.hid hFe
  have HN := Lib.hid hn
  have HA := Lib.hid hA
  have HS := Lib.hid hS
  have DD := Lib.hid D
  have hN1 : (N : Int) ≤ 999 := by omega
  have bN : ((N : Int) == 0) = false := by simp; omega
  clear hFe hA hS D hn hfa hfs hM e1
  go_enter Try.func17, Try.ntmps17
  go_wp2_with (first
      | (go_at_call 19; refine (Hold_any _ _).mono ?_; rw [HFE.out]; rintro e w' ⟨rfl, rfl⟩)
      | (go_at_call 20; refine (count22_any _ _).mono ?_; rw [HN.out]; rintro e w' ⟨rfl, rfl⟩))
  refine DD.out.mono ?_
  rintro e w9 ⟨rfl, hb, hr⟩
  have HB := Lib.hid hb
  have HR : Hid (Row w9 (w.heap.size + 1) N fa) := hr.ext (fun i _ => (HA.out i).symm)
  clear hb hr
  go_wp2_with fail
  go_region
  all_goals go_wp2_with fail
  all_goals go_ret2
  have hs := HB.out.size
  have hlt : w.heap.size + 1 < w9.heap.size := Row_lt HR.out h0
  have hfs : Row (mk0 w9 M) w9.heap.size M fs := (row_mk0 w9 M).ext (fun i _ => (HS.out i).symm)
  have hfa : Row (mk0 w9 M) (w.heap.size + 1) N fa := HR.out.below (below_mk0 w9 M) hlt
  have hbb : Below w.heap.size w (mk0 w9 M) := HB.out.trans ((below_mk0 w9 M).mono hs)
  exact ⟨w.heap.size + 1, w9.heap.size, by omega, hs, rfl, ⟨hbb.os, hbb.tape, hbb.output, hbb.size, hbb.block⟩, hfa, hfs⟩

theorem Lines22_any (t n way : Int) (N : Nat) (w : World) (hn : CN n = N) (hN : N ≤ 999) (hwf : (Lit.int .i64 way).wf = true) :
    Calls Try.prog 17 #[.int .i64 t, .int .i64 n, .int .i64 way] w (LnIs w N (lnA (H t) N way) (lnS (H t) N way)) := by
  by_cases h : way = 0 ∧ 0 < H t ∧ 0 < N
  · obtain ⟨rfl, h1, h2⟩ := h
    exact Lines22_deal t n N w hn hN h1 h2
  · exact Lines22_rest t n way N w hn hN hwf h
end Go.Proofs.Ytapfmancgidpfaa
