/- The walks of layer 4: who stands beneath whom. -/
import Derived.Test.YtjhhpilaaahicaaWalkA
import Derived.Test.YtjhhpilaaahicaaTreP
import Derived.Deep.AppendLies
import Derived.OwnWalk
namespace Go.Proofs.Ytjhhpilaaahicaa
open Go.RowKit TreP

/-- what the walks are told of a list of nodes: their Parents -/
def Pars (w : World) (a : Option Addr) (len : Nat) (f : Nat → Int) : Prop := len = 0 ∨ ∃ b off, a = some ⟨b, off, none⟩ ∧ b < w.heap.size ∧ ∀ i, i < len → w.cell? ⟨b, off + i * 6, none⟩ = some (.int .i64 (f i))
set_option maxRecDepth 100000 in
theorem Pars.at_ {w : World} {a : Option Addr} {len : Nat} {f : Nat → Int} (h : Pars w a len f) {i : Nat} (hi : i < len) : ∃ b off, a = some ⟨b, off, none⟩ ∧ w.cell? ⟨b, off + i * 6, none⟩ = some (.int .i64 (f i)) := by
  rcases h with rfl | ⟨b, off, e, _, hc⟩
  · omega
  · exact ⟨b, off, e, hc i hi⟩
set_option maxRecDepth 100000 in
theorem Pars.below {w w' : World} {a : Option Addr} {len : Nat} {f : Nat → Int} (h : Pars w a len f) (hb : Below w.heap.size w w') : Pars w' a len f := by
  rcases h with rfl | ⟨b, off, e, hbs, hc⟩
  · exact Or.inl rfl
  · exact Or.inr ⟨b, off, e, Nat.lt_of_lt_of_le hbs hb.size, fun i hi => by rw [hb.cell (p := ⟨b, off + i * 6, none⟩) hbs]; exact hc i hi⟩

set_option maxRecDepth 100000 in
set_option maxHeartbeats 400000 in
theorem has_yes (a : Option Addr) (len cap i : Nat) (w : World) (h : i < len) : Calls Try.prog 159 #[.slice a len cap, .int .i64 (i : Int)] w fun e w' => e = .returned (.bool true) ∧ w = w' := by
  have hz : (i : Int) < (len : Int) := by omega
  go_enter Try.func159, Try.ntmps159
  go_wp2_with fail
  go_ret
  exact ⟨rfl, rfl⟩

set_option maxRecDepth 100000 in
set_option maxHeartbeats 400000 in
theorem has_no (a : Option Addr) (len cap : Nat) (i : Int) (w : World) (h : i < 0 ∨ (len : Int) ≤ i) : Calls Try.prog 159 #[.slice a len cap, .int .i64 i] w fun e w' => e = .returned (.bool false) ∧ w = w' := by
  have h' : i < 0 ∨ (0 ≤ i ∧ ¬ i < (len : Int)) := by omega
  clear h
  rcases h' with h | ⟨h, h2⟩
  all_goals
    go_enter Try.func159, Try.ntmps159
    go_wp2_with fail
    go_ret
    exact ⟨rfl, rfl⟩

set_option maxRecDepth 100000 in
set_option maxHeartbeats 400000 in
theorem parent_any (a : Option Addr) (len cap : Nat) (f : Nat → Int) (i : Nat) (w : World) (h : i < len) (hP : Pars w a len f) :
    Calls Try.prog 160 #[.slice a len cap, .int .i64 (i : Int)] w fun e w' => e = .returned (.int .i64 (up f i)) ∧ w = w' := by
  obtain ⟨b, off, rfl, hc⟩ := hP.at_ h
  have hz : (i : Int) < (len : Int) := by omega
  have hu : up f i = if 0 ≤ f i ∧ f i < (i : Int) then f i else -1 := rfl
  obtain ⟨x, hx⟩ : ∃ x, f i = x := ⟨_, rfl⟩
  rw [hx] at hc hu
  have hw : x < 0 ∨ (0 ≤ x ∧ x < (i : Int)) ∨ (0 ≤ x ∧ ¬ x < (i : Int)) := by omega
  have HU := Lib.hid hu
  clear hu hx
  rcases hw with h1 | ⟨h1, h2⟩ | ⟨h1, h2⟩
  all_goals
    go_enter Try.func160, Try.ntmps160
    go_wp2_with fail
    go_ret
    refine ⟨ret_int ?_, rfl⟩
    rw [HU.out]
    first | rw [if_pos (by omega)] | rw [if_neg (by omega)]

/-- a list of numbers that a walk has made -/
def NL (w : World) (a : Option Addr) (xs : List Nat) : Prop := xs = [] ∨ ∃ g, a = some ⟨g, 0, none⟩ ∧ g < w.heap.size ∧ ∀ j (u : Nat), xs[j]? = some u → w.cell? ⟨g, j, none⟩ = some (.int .i64 (u : Int))
def ints (xs : List Nat) : List Value := xs.map fun n : Nat => Value.int .i64 (n : Int)
set_option maxRecDepth 100000 in
theorem ints_len (xs : List Nat) : (ints xs).length = xs.length := by unfold ints; simp
set_option maxRecDepth 100000 in
theorem NL_own {w : World} {base c : Nat} {a : Option Addr} {xs : List Nat} (h : w.ownsRow base 3 1 (.slice a xs.length c) xs.length (ints xs)) : NL w a xs := by
  cases hx : xs with
  | nil => exact Or.inl rfl
  | cons x l =>
    rw [← hx]
    obtain ⟨g, cap, hv, _, hlt⟩ := h.form (by rw [hx]; simp)
    have ha : a = some ⟨g, 0, none⟩ := by injection hv
    subst ha
    refine Or.inr ⟨g, rfl, hlt, fun j u hu => ?_⟩
    have := h.cells (g := g) rfl j (.int .i64 (u : Int)) (by unfold ints; rw [List.getElem?_map, hu]; rfl)
    rwa [Addr.add_lit, Nat.zero_add] at this
set_option maxRecDepth 100000 in
theorem own_slice {w : World} {base n : Nat} {v : Value} {xs : List Value} (h : w.ownsRow base 3 1 v n xs) : ∃ a c, v = .slice a n c := by
  rcases h.2 with ⟨rfl, rfl⟩ | ⟨g, cap, cur, rfl, _⟩
  · exact ⟨none, 0, rfl⟩
  · exact ⟨_, _, rfl⟩
set_option maxRecDepth 100000 in
theorem below_grown {B : Nat} {w w1 : World} {row : Option Nat} (hg : w.grownBy w1 row) (hr : ∀ g, row = some g → B ≤ g) (hB : B ≤ w.heap.size) : Below B w w1 :=
  ⟨hg.os, hg.tape, hg.output, hg.size, fun k hk => hg.block k (by omega) (fun e => by have := hr k e.symm; omega)⟩
set_option maxRecDepth 100000 in
theorem info_int3 : (Try.prog.info? 3).map (fun i => (i.zero, i.size, i.bytes)) = some (some (.int .i64 0), 1, 8) := by kernel_rfl

/-- what a call that answers numbers comes to -/
def Told (w : World) (xs : List Nat) (e : Ending) (w' : World) : Prop := ∃ a c, e = .returned (.slice a xs.length c) ∧ Below w.heap.size w w' ∧ NL w' a xs

end Go.Proofs.Ytjhhpilaaahicaa
