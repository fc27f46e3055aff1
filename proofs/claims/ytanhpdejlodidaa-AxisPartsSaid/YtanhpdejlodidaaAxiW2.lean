/- The walks of layer 3: where something stands; what must come of fixed calls. -/
import Derived.Test.YtanhpdejlodidaaAxiW1
import Derived.FnLit
namespace Go.Proofs.Ytanhpdejlodidaa
open Go.RowKit FixM AxiF

/-- goes a line back? -/
def backB (way : Int) : Bool := decide (way = 1) || decide (way = 3)
/-- what is left of a room behind something -/
def farS (r a s : Int) : Int := H (H (H r - H a) - H s)
def pk (b : Bool) (x u : Nat) : Nat := if b = true then x else u
theorem pk_F (b : Bool) (x u : Int) : pk b (floatOfInt .f64 x) (floatOfInt .f64 u) = floatOfInt .f64 (if b = true then x else u) := by cases b <;> simp only [pk, if_true, if_false, Bool.false_eq_true]
def sideS (back : Bool) (r a s : Int) : Int := if back = true then farS r a s else H a
def putX (way : Int) (t : Bool) (rm rc am ac sm sc : Int) : Int := flX way (sideS (backB way) rm am sm) (sideS t rc ac sc)
def putY (way : Int) (t : Bool) (rm rc am ac sm sc : Int) : Int := flX way (sideS t rc ac sc) (sideS (backB way) rm am sm)

theorem whole_H (x : Int) : wholeS (floatOfInt .f64 (H x)) = H x := whole_F _ (H_bd x).1 (H_bd x).2
theorem whole_side (b : Bool) (r a s : Int) : wholeS (floatOfInt .f64 (sideS b r a s)) = sideS b r a s := by
  unfold sideS farS
  split <;> exact whole_H _
theorem H_side (b : Bool) (r a s : Int) : H (sideS b r a s) = sideS b r a s := by
  unfold sideS farS
  split <;> exact H_H _

set_option maxHeartbeats 400000 in
theorem from_any (b : Bool) (p q : Addr) (x y u v : Nat) (w : World) (hp : w.cell? p = some (.complex .f64 x y)) (hq : w.cell? q = some (.complex .f64 u v)) :
    Calls Try.prog 41 #[.bool b, .pointer (some p), .pointer (some q)] w fun e w' => e = .returned (if b = true then .complex .f64 x y else .complex .f64 u v) ∧ w = w' := by
  cases b
  all_goals
    go_enter Try.func41, Try.ntmps41
    go_wp2_with fail
    go_ret
    exact ⟨rfl, rfl⟩

theorem from_new (b : Bool) (x y u v : Nat) (w : World) :
    Calls Try.prog 41 #[.bool b, .pointer (some ⟨w.heap.size + 1, 0, none⟩), .pointer (some ⟨w.heap.size, 0, none⟩)] ((w.alloc (.cells #[.complex .f64 u v] 31)).alloc (.cells #[.complex .f64 x y] 31))
      fun e w' => e = .returned (if b = true then .complex .f64 x y else .complex .f64 u v) ∧ ((w.alloc (.cells #[.complex .f64 u v] 31)).alloc (.cells #[.complex .f64 x y] 31)) = w' := by
  refine from_any b _ _ x y u v _ ?_ ?_
  · rw [World.cell?_alloc_at _ _ _ _ (by simp)]; rfl
  · rw [World.cell?_alloc_past _ _ _ (by simp), World.cell?_alloc_at _ _ _ _ rfl]; rfl

theorem from_pick (b : Bool) (x y u v : Nat) : (if b = true then Value.complex .f64 x y else .complex .f64 u v) = .complex .f64 (pk b x u) (pk b y v) := by cases b <;> rfl

set_option maxRecDepth 100000 in
set_option maxHeartbeats 4000000 in
theorem Put_any (way : Int) (t : Bool) (rm rc am ac sm sc : Int) (w : World) :
    Calls Try.prog 28 #[.int .i64 way, .bool t, .complex .f64 (floatOfInt .f64 (H rm)) (floatOfInt .f64 (H rc)), .complex .f64 (floatOfInt .f64 (H am)) (floatOfInt .f64 (H ac)), .complex .f64 (floatOfInt .f64 (H sm)) (floatOfInt .f64 (H sc))] w
      fun e w' => e = .returned (.complex .f64 (floatOfInt .f64 (putX way t rm rc am ac sm sc)) (floatOfInt .f64 (putY way t rm rc am ac sm sc))) ∧ Below w.heap.size w w' := by
  have hmf : ∀ (fn : Fn) (first cap : Array Value) (w : World), (Instr.makeFunc fn first cap).run Try.prog w = .ok (.func fn first cap) w := fun _ _ _ _ => rfl
  have hst : ∀ (a : Addr) (k : FloatKind) (x y : Nat) (m : Mode) (w : World), (store a (.complex k x y) m).run Try.prog w = stored Try.prog w a (.complex k x y) m := fun a k x y m w => run_store _ w a _ m rfl
  obtain ⟨bk, hbk⟩ : ∃ bk, backB way = bk := ⟨_, rfl⟩
  have key : (way = 1 ∧ bk = true) ∨ (way = 3 ∧ bk = true) ∨ ((way == 1) = false ∧ (way == 3) = false ∧ bk = false) := by
    unfold backB at hbk
    by_cases h1 : way = 1
    · exact Or.inl ⟨h1, by rw [← hbk]; simp [h1]⟩
    · by_cases h3 : way = 3
      · exact Or.inr (Or.inl ⟨h3, by rw [← hbk]; simp [h3]⟩)
      · exact Or.inr (Or.inr ⟨by simpa using h1, by simpa using h3, by rw [← hbk]; simp [h1, h3]⟩)
  have HB := Lib.hid hbk
  clear hbk
  rcases key with ⟨rfl, rfl⟩ | ⟨rfl, rfl⟩ | ⟨h1, h3, rfl⟩
  all_goals
    go_enter Try.func28, Try.ntmps28
    go_wp2_with (first
      | (go_at_call 38; refine (join_sub _ _ _ _ _).mono ?_; rintro e w' ⟨rfl, rfl⟩)
      | (go_at_call 41; refine (from_new _ _ _ _ _ _).mono ?_; rintro e w' ⟨rfl, rfl⟩; rw [from_pick])
      | (go_at_call 20; refine (X_any _ _ _).mono ?_; rintro e w' ⟨rfl, rfl⟩)
      | (go_at_call 22; refine (Y_any _ _ _).mono ?_; rintro e w' ⟨rfl, rfl⟩)
      | (go_at_call 19; refine (Of_any _ _ _).mono ?_; rintro e w' ⟨rfl, rfl⟩)
      | (go_at_call 26; refine (Flow_any _ _ _ _).mono ?_; rintro e w' ⟨rfl, rfl⟩))
    go_ret
    have hb := HB.out
    refine ⟨ret_cpl (congrArg (floatOfInt .f64) ?_) (congrArg (floatOfInt .f64) ?_), by repeat (first | exact Below.refl _ _ | (refine Below.alloc ?_ (by simp) _))⟩
    all_goals simp only [putX, putY, hb, pk_F, sideS, farS, whole_H]
    all_goals (cases t <;> simp only [whole_H, H_H, if_true, if_false, Bool.false_eq_true])
end Go.Proofs.Ytanhpdejlodidaa
