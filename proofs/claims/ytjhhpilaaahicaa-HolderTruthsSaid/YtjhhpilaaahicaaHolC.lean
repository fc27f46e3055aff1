/- Layer 15: the nearest holder of a name; what lengths are measured by. -/
import Derived.Test.YtjhhpilaaahicaaHolB
import Derived.Test.YtjhhpilaaahicaaFixWa
namespace Go.Proofs.Ytjhhpilaaahicaa
open Go.RowKit TreP FixM
set_option linter.unusedVariables false

def nearP (X : Nat → Ext) (m : Nat) (nm : List UInt8) (k : Nat) : Bool := wideB X m k && (nm.isEmpty || ((X k).name == nm))
def nearS (X : Nat → Ext) (m : Nat) (nm : List UInt8) (U : List Nat) : Int := firstN (nearP X m nm) U
def tellerV (x : Option Addr) (m cap : Nat) (nm : List UInt8) (B : Nat) : Value := if nm = [] then .func (.func 96) #[.slice x m cap] #[] else .func (.func 134) #[] #[.pointer (some ⟨B, 0, none⟩), .pointer (some ⟨B + 1, 0, none⟩)]

set_option maxRecDepth 100000 in
set_option maxHeartbeats 2000000 in
theorem called_any (x : Option Addr) (m cap : Nat) (nm : List UInt8) (w : World) : Calls Try.prog 98 #[.slice x m cap, .string ⟨nm.toArray⟩] w fun e w' => e = .returned (tellerV x m cap nm w.heap.size) ∧ w' = (w.alloc (.cells #[.slice x m cap] 114)).alloc (.cells #[.string ⟨nm.toArray⟩] 9) := by
  have hmf : ∀ (fn : Fn) (first cap : Array Value) (w : World), (Instr.makeFunc fn first cap).run Try.prog w = .ok (.func fn first cap) w := fun _ _ _ _ => rfl
  unfold tellerV
  cases nm with
  | nil =>
    rw [if_pos rfl]
    go_enter Try.func98, Try.ntmps98
    go_wp2_with fail
    go_ret
    exact ⟨rfl, rfl⟩
  | cons c r =>
    rw [if_neg (by simp)]
    have hne2 : ((c :: r : List UInt8) == []) = false := rfl
    go_enter Try.func98, Try.ntmps98
    go_wp2_with fail
    go_ret
    exact ⟨rfl, rfl⟩

set_option maxRecDepth 100000 in
set_option maxHeartbeats 2000000 in
theorem Nearest_any (a : Option Addr) (len cap : Nat) (f : Nat → Int) (i : Int) (U : List Nat) (hU : UpsIs f len i U) (hl : len ≤ 100000) (x : Option Addr) (m xc : Nat) (X : Nat → Ext) (nm : List UInt8) (w : World) (hm : m ≤ 9223372036854775807) (hP : Pars w a len f) (hX : Exts w x m X) :
    Calls Try.prog 55 #[.slice a len cap, .slice x m xc, .int .i64 i, .string ⟨nm.toArray⟩] w fun e w' => e = .returned (.int .i64 (nearS X m nm U)) ∧ Below w.heap.size w w' := by
  have K := Lib.hid (called_any x m xc nm w)
  have hb : Below w.heap.size w ((w.alloc (.cells #[.slice x m xc] 114)).alloc (.cells #[.string ⟨nm.toArray⟩] 9)) := ((Below.refl _ w).alloc (Nat.le_refl _) _).alloc (by simp) _
  have h1 := ((Boxed.new w 114 (.slice x m xc)).alloc (.cells #[.string ⟨nm.toArray⟩] 9)).cell
  have h2 : ((w.alloc (.cells #[.slice x m xc] 114)).alloc (.cells #[.string ⟨nm.toArray⟩] 9)).cell? ⟨w.heap.size + 1, 0, none⟩ = some (.string ⟨nm.toArray⟩) := by
    have h := (Boxed.new (w.alloc (.cells #[.slice x m xc] 114)) 9 (.string ⟨nm.toArray⟩)).cell
    rwa [World.size_alloc] at h
  have hs : ((w.alloc (.cells #[.slice x m xc] 114)).alloc (.cells #[.string ⟨nm.toArray⟩] 9)).heap.size = w.heap.size + 2 := by simp
  generalize (w.alloc (.cells #[.slice x m xc] 114)).alloc (.cells #[.string ⟨nm.toArray⟩] 9) = w1 at *
  have HB := Lib.hid hb
  have D : Calls Try.prog 95 #[.slice a len cap, .int .i64 i, tellerV x m xc nm w.heap.size] w1 fun e w' => e = .returned (.int .i64 (nearS X m nm U)) ∧ Below w1.heap.size w1 w' := by
    unfold tellerV nearS
    cases nm with
    | nil =>
      rw [if_pos rfl]
      refine nearest_wide a len cap f i U hU hl x m xc _ w1 (hP.below hb) fun W' hW k => (wide_any x m xc k X W' hm (hX.below (hb.trans (hW.mono hb.size)))).mono fun e w' h => ⟨?_, by rw [← h.2]; exact Below.refl _ _⟩
      rw [h.1]; unfold nearP; simp
    | cons c r =>
      rw [if_neg (by simp)]
      refine nearest_named a len cap f i U hU hl w.heap.size (w.heap.size + 1) _ w1 (hP.below hb) fun W' hW k => (named_any x m xc k w.heap.size (w.heap.size + 1) X (c :: r) W' hm (hX.below (hb.trans (hW.mono hb.size))) ((hW.cell (p := ⟨w.heap.size, 0, none⟩) (by show w.heap.size < _; omega)).trans h1) ((hW.cell (p := ⟨w.heap.size + 1, 0, none⟩) (by show w.heap.size + 1 < _; omega)).trans h2)).mono fun e w' h => ⟨?_, h.2⟩
      rw [h.1]; unfold nearP callB; simp
  have HD := Lib.hid D
  generalize tellerV x m xc nm w.heap.size = tv at K HD
  clear D hP hX hU h1 h2 hs hb
  go_enter Try.func55, Try.ntmps55
  go_wp2_with fail
  refine K.out.mono ?_
  rintro e w' ⟨rfl, rfl⟩
  go_wp2_with fail
  refine HD.out.mono ?_
  rintro e w2 ⟨rfl, hb2⟩
  have HB2 := Lib.hid (HB.out.trans (hb2.mono HB.out.size))
  clear hb2
  go_wp2_with fail
  go_ret
  exact ⟨rfl, HB2.out⟩

theorem below_one7h (w : World) (ob : Obj) : Below w.heap.size w (w.alloc ob) := (Below.refl _ w).alloc (Nat.le_refl _) _
/-- what a Length is worth -/
def measS (kind n d font a b : Int) : Int := if kind ≠ 2 then 0 else if d = 1 then PT n 64 1000 else if d = 2 then PT font n 1000 else if d = 3 ∨ d = 5 then PT a n 100000 else if d = 4 ∨ d = 6 then PT b n 100000 else if d = 7 then PT (min a b) n 100000 else if d = 8 then PT (max a b) n 100000 else 0
set_option maxRecDepth 100000 in
set_option maxHeartbeats 8000000 in
theorem Measure_any (kind n d font a b : Int) (nm : List UInt8) (w : World) : Calls Try.prog 56 #[.agg #[.int .i64 kind, .int .i64 n, .int .i64 d, .string ⟨nm.toArray⟩], .int .i64 font, .int .i64 a, .int .i64 b] w fun e w' => e = .returned (.int .i64 (measS kind n d font a b)) ∧ Below w.heap.size w w' := by
  have HB := Lib.hid (below_one7h w (.cells #[.int .i64 kind, .int .i64 n, .int .i64 d, .string ⟨nm.toArray⟩] 93))
  have PX := Lib.hid (fun W => Px_any n W)
  have PA := Lib.hid (fun W => Part_any font n 1000 W)
  have PC := Lib.hid (fun a W => Percent_any a n W)
  by_cases hk : kind = 2
  · subst hk
    have hcs : d = 1 ∨ d = 2 ∨ d = 3 ∨ d = 5 ∨ d = 4 ∨ d = 6 ∨ d = 7 ∨ d = 8 ∨ (d ≠ 1 ∧ d ≠ 2 ∧ d ≠ 3 ∧ d ≠ 5 ∧ d ≠ 4 ∧ d ≠ 6 ∧ d ≠ 7 ∧ d ≠ 8) := by omega
    rcases hcs with rfl | rfl | rfl | rfl | rfl | rfl | rfl | rfl | ⟨h1, h2, h3, h5, h4, h6, h7, h8⟩
    · have HM : measS 2 n 1 font a b = PT n 64 1000 := by unfold measS; simp
      rw [HM]; clear HM
      go_enter Try.func56, Try.ntmps56
      go_wp2_with fail
      refine (PX.out _).mono ?_
      rintro e w' ⟨rfl, rfl⟩
      go_wp2_with fail
      go_ret
      exact ⟨rfl, HB.out⟩
    · have HM : measS 2 n 2 font a b = PT font n 1000 := by unfold measS; simp
      rw [HM]; clear HM
      go_enter Try.func56, Try.ntmps56
      go_wp2_with fail
      refine (PA.out _).mono ?_
      rintro e w' ⟨rfl, rfl⟩
      go_wp2_with fail
      go_ret
      exact ⟨rfl, HB.out⟩
    · have HM : measS 2 n 3 font a b = PT a n 100000 := by unfold measS; simp
      rw [HM]; clear HM
      go_enter Try.func56, Try.ntmps56
      go_wp2_with fail
      refine (PC.out _ _).mono ?_
      rintro e w' ⟨rfl, rfl⟩
      go_wp2_with fail
      go_ret
      exact ⟨rfl, HB.out⟩
    · have HM : measS 2 n 5 font a b = PT a n 100000 := by unfold measS; simp
      rw [HM]; clear HM
      go_enter Try.func56, Try.ntmps56
      go_wp2_with fail
      refine (PC.out _ _).mono ?_
      rintro e w' ⟨rfl, rfl⟩
      go_wp2_with fail
      go_ret
      exact ⟨rfl, HB.out⟩
    · have HM : measS 2 n 4 font a b = PT b n 100000 := by unfold measS; simp
      rw [HM]; clear HM
      go_enter Try.func56, Try.ntmps56
      go_wp2_with fail
      refine (PC.out _ _).mono ?_
      rintro e w' ⟨rfl, rfl⟩
      go_wp2_with fail
      go_ret
      exact ⟨rfl, HB.out⟩
    · have HM : measS 2 n 6 font a b = PT b n 100000 := by unfold measS; simp
      rw [HM]; clear HM
      go_enter Try.func56, Try.ntmps56
      go_wp2_with fail
      refine (PC.out _ _).mono ?_
      rintro e w' ⟨rfl, rfl⟩
      go_wp2_with fail
      go_ret
      exact ⟨rfl, HB.out⟩
    · have HM : measS 2 n 7 font a b = PT (min a b) n 100000 := by unfold measS; simp
      rw [HM]; clear HM
      go_enter Try.func56, Try.ntmps56
      go_wp2_with fail
      refine (PC.out _ _).mono ?_
      rintro e w' ⟨rfl, rfl⟩
      go_wp2_with fail
      go_ret
      exact ⟨rfl, HB.out⟩
    · have HM : measS 2 n 8 font a b = PT (max a b) n 100000 := by unfold measS; simp
      rw [HM]; clear HM
      go_enter Try.func56, Try.ntmps56
      go_wp2_with fail
      refine (PC.out _ _).mono ?_
      rintro e w' ⟨rfl, rfl⟩
      go_wp2_with fail
      go_ret
      exact ⟨rfl, HB.out⟩
    · have HM : measS 2 n d font a b = 0 := by unfold measS; simp [h1, h2, h3, h4, h5, h6, h7, h8]
      rw [HM]; clear HM
      have e1 : (d == 1) = false := by rw [beq_eq_false_iff_ne]; exact h1
      have e2 : (d == 2) = false := by rw [beq_eq_false_iff_ne]; exact h2
      have e3 : (d == 3) = false := by rw [beq_eq_false_iff_ne]; exact h3
      have e4 : (d == 4) = false := by rw [beq_eq_false_iff_ne]; exact h4
      have e5 : (d == 5) = false := by rw [beq_eq_false_iff_ne]; exact h5
      have e6 : (d == 6) = false := by rw [beq_eq_false_iff_ne]; exact h6
      have e7 : (d == 7) = false := by rw [beq_eq_false_iff_ne]; exact h7
      have e8 : (d == 8) = false := by rw [beq_eq_false_iff_ne]; exact h8
      clear h1 h2 h3 h4 h5 h6 h7 h8
      go_enter Try.func56, Try.ntmps56
      go_wp2_with fail
      go_ret
      exact ⟨rfl, HB.out⟩
  · have HM : measS kind n d font a b = 0 := by unfold measS; rw [if_pos hk]
    rw [HM]; clear HM
    have e0 : (kind == 2) = false := by rw [beq_eq_false_iff_ne]; exact hk
    clear hk
    go_enter Try.func56, Try.ntmps56
    go_wp2_with fail
    go_ret
    exact ⟨rfl, HB.out⟩
end Go.Proofs.Ytjhhpilaaahicaa
