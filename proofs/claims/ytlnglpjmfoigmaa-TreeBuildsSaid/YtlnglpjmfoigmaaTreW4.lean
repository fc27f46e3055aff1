/- The walks of layer 4: who stands beneath whom. -/
import Derived.Test.YtlnglpjmfoigmaaWalkA
import Derived.Test.YtlnglpjmfoigmaaTreP
import Derived.Deep.AppendLies
import Derived.OwnWalk
namespace Go.Proofs.Ytlnglpjmfoigmaa
open Go.RowKit TreP

/-- what the walks are told of a list of nodes: their Parents -/
def Pars (w : World) (a : Option Addr) (len : Nat) (f : Nat → Int) : Prop := len = 0 ∨ ∃ b off, a = some ⟨b, off, none⟩ ∧ b < w.heap.size ∧ ∀ i, i < len → w.cell? ⟨b, off + i * 6, none⟩ = some (.int .i64 (f i))
set_option maxRecDepth 100000 in
theorem Pars.at_ {w : World} {a : Option Addr} {len : Nat} {f : Nat → Int} (h : Pars w a len f) {i : Nat} (hi : i < len) : ∃ b off, a = some ⟨b, off, none⟩ ∧ w.cell? ⟨b, off + i * 6, none⟩ = some (.int .i64 (f i)) := by
  rcases h with rfl | ⟨b, off, e, _, hc⟩
  · omega
  · exact ⟨b, off, e, hc i hi⟩
set_option maxRecDepth 100000 in
theorem Pars.below {w w' : World} {a : Option Addr} {len : Nat} {f : Nat → Int} (h : Pars w a len f) (hb : Below w.heap.size w w') : Pars w' a len f := by
  rcases h with rfl | ⟨b, off, e, hbs, hc⟩
  · exact Or.inl rfl
  · exact Or.inr ⟨b, off, e, Nat.lt_of_lt_of_le hbs hb.size, fun i hi => by rw [hb.cell (p := ⟨b, off + i * 6, none⟩) hbs]; exact hc i hi⟩

set_option maxRecDepth 100000 in
set_option maxHeartbeats 400000 in
theorem has_yes (a : Option Addr) (len cap i : Nat) (w : World) (h : i < len) : Calls Try.prog 50 #[.slice a len cap, .int .i64 (i : Int)] w fun e w' => e = .returned (.bool true) ∧ w = w' := by
  have hz : (i : Int) < (len : Int) := by omega
  go_enter Try.func50, Try.ntmps50
  go_wp2_with fail
  go_ret
  exact ⟨rfl, rfl⟩

set_option maxRecDepth 100000 in
set_option maxHeartbeats 400000 in
theorem has_no (a : Option Addr) (len cap : Nat) (i : Int) (w : World) (h : i < 0 ∨ (len : Int) ≤ i) : Calls Try.prog 50 #[.slice a len cap, .int .i64 i] w fun e w' => e = .returned (.bool false) ∧ w = w' := by
  have h' : i < 0 ∨ (0 ≤ i ∧ ¬ i < (len : Int)) := by omega
  clear h
  rcases h' with h | ⟨h, h2⟩
  all_goals
    go_enter Try.func50, Try.ntmps50
    go_wp2_with fail
    go_ret
    exact ⟨rfl, rfl⟩

set_option maxRecDepth 100000 in
set_option maxHeartbeats 400000 in
theorem parent_any (a : Option Addr) (len cap : Nat) (f : Nat → Int) (i : Nat) (w : World) (h : i < len) (hP : Pars w a len f) :
    Calls Try.prog 48 #[.slice a len cap, .int .i64 (i : Int)] w fun e w' => e = .returned (.int .i64 (up f i)) ∧ w = w' := by
  obtain ⟨b, off, rfl, hc⟩ := hP.at_ h
  have hz : (i : Int) < (len : Int) := by omega
  have hu : up f i = if 0 ≤ f i ∧ f i < (i : Int) then f i else -1 := rfl
  obtain ⟨x, hx⟩ : ∃ x, f i = x := ⟨_, rfl⟩
  rw [hx] at hc hu
  have hw : x < 0 ∨ (0 ≤ x ∧ x < (i : Int)) ∨ (0 ≤ x ∧ ¬ x < (i : Int)) := by omega
  have HU := Lib.hid hu
  clear hu hx
  rcases hw with h1 | ⟨h1, h2⟩ | ⟨h1, h2⟩
  all_goals
    go_enter Try.func48, Try.ntmps48
    go_wp2_with fail
    go_ret
    refine ⟨ret_int ?_, rfl⟩
    rw [HU.out]
    first | rw [if_pos (by omega)] | rw [if_neg (by omega)]

/-- a list of numbers that a walk has made -/
def NL (w : World) (a : Option Addr) (xs : List Nat) : Prop := xs = [] ∨ ∃ g, a = some ⟨g, 0, none⟩ ∧ g < w.heap.size ∧ ∀ j (u : Nat), xs[j]? = some u → w.cell? ⟨g, j, none⟩ = some (.int .i64 (u : Int))
def ints (xs : List Nat) : List Value := xs.map fun n : Nat => Value.int .i64 (n : Int)
set_option maxRecDepth 100000 in
theorem ints_len (xs : List Nat) : (ints xs).length = xs.length := by unfold ints; simp
set_option maxRecDepth 100000 in
theorem NL_own {w : World} {base c : Nat} {a : Option Addr} {xs : List Nat} (h : w.ownsRow base 3 1 (.slice a xs.length c) xs.length (ints xs)) : NL w a xs := by
  cases hx : xs with
  | nil => exact Or.inl rfl
  | cons x l =>
    rw [← hx]
    obtain ⟨g, cap, hv, _, hlt⟩ := h.form (by rw [hx]; simp)
    have ha : a = some ⟨g, 0, none⟩ := by injection hv
    subst ha
    refine Or.inr ⟨g, rfl, hlt, fun j u hu => ?_⟩
    have := h.cells (g := g) rfl j (.int .i64 (u : Int)) (by unfold ints; rw [List.getElem?_map, hu]; rfl)
    rwa [Addr.add_lit, Nat.zero_add] at this
set_option maxRecDepth 100000 in
theorem own_slice {w : World} {base n : Nat} {v : Value} {xs : List Value} (h : w.ownsRow base 3 1 v n xs) : ∃ a c, v = .slice a n c := by
  rcases h.2 with ⟨rfl, rfl⟩ | ⟨g, cap, cur, rfl, _⟩
  · exact ⟨none, 0, rfl⟩
  · exact ⟨_, _, rfl⟩
set_option maxRecDepth 100000 in
theorem below_grown {B : Nat} {w w1 : World} {row : Option Nat} (hg : w.grownBy w1 row) (hr : ∀ g, row = some g → B ≤ g) (hB : B ≤ w.heap.size) : Below B w w1 :=
  ⟨hg.os, hg.tape, hg.output, hg.size, fun k hk => hg.block k (by omega) (fun e => by have := hr k e.symm; omega)⟩
set_option maxRecDepth 100000 in
theorem info_int3 : (Try.prog.info? 3).map (fun i => (i.zero, i.size, i.bytes)) = some (some (.int .i64 0), 1, 8) := by kernel_rfl

/-- how far 'Ups' has come -/
def UpsRel (f : Nat → Int) (i : Nat) (w : World) (v u : Value) (wr : World) : Prop :=
  ∃ (done rest : List Nat) (z : Int), u = .int .i64 z ∧ ups f i = done ++ rest ∧ ((z = -1 ∧ rest = []) ∨ ∃ p : Nat, z = (p : Int) ∧ p < i ∧ rest = p :: ups f p) ∧
    wr.ownsRow w.heap.size 3 1 v done.length (ints done) ∧ Below w.heap.size w wr

/-- what a call that answers numbers comes to -/
def Told (w : World) (xs : List Nat) (e : Ending) (w' : World) : Prop := ∃ a c, e = .returned (.slice a xs.length c) ∧ Below w.heap.size w w' ∧ NL w' a xs

set_option maxRecDepth 100000 in
set_option maxHeartbeats 2000000 in
theorem Ups_any (a : Option Addr) (len cap : Nat) (f : Nat → Int) (i : Nat) (w : World) (hl : len ≤ 100000) (h : i < len) (hP : Pars w a len f) :
    Calls Try.prog 21 #[.slice a len cap, .int .i64 (i : Int)] w (Told w (ups f i)) := by
  obtain ⟨i0, hi, hz0, hz1, hz2⟩ := info_parts info_int3
  have HP := Lib.hid hP
  clear hP
  go_enter Try.func21, Try.ntmps21
  go_wp2_with fail
  refine (has_yes a len cap i w h).mono ?_
  rintro e w' ⟨rfl, rfl⟩
  go_wp2_with fail
  refine (parent_any a len cap f i w h HP.out).mono ?_
  rintro e w' ⟨rfl, rfl⟩
  go_wp2_with fail
  go_loopw [5, 6] (fun v u wr => UpsRel f i w v u wr) (fun _ u _ => (intOf u + 1).toNat)
  case atStart =>
    rcases ups_cases f i with ⟨h1, h2⟩ | ⟨p, hp, h1, h2⟩
    · exact ⟨[], [], -1, by rw [h1], by rw [h2]; rfl, Or.inl ⟨rfl, rfl⟩, World.ownsRow_nil _ _ _ _, Below.refl _ _⟩
    · exact ⟨[], p :: ups f p, p, by rw [h1], by rw [h2]; rfl, Or.inr ⟨p, rfl, hp, rfl⟩, World.ownsRow_nil _ _ _ _, Below.refl _ _⟩
  case round =>
    obtain ⟨done, rest, z, rfl, hd, hz, hown, hbel⟩ := hrel
    have HD := Lib.hid hd
    clear hd
    rcases hz with ⟨rfl, rfl⟩ | ⟨p, rfl, hp, rfl⟩
    · go_wp2_with fail
      go_ret
      have hd := HD.out
      rw [List.append_nil] at hd
      obtain ⟨ad, c, rfl⟩ := own_slice hown
      rw [hd]
      exact ⟨ad, c, rfl, hbel, NL_own hown⟩
    · have hlen : done.length + 1 ≤ i := by
        have h1 := ups_length f i
        rw [HD.out, List.length_append, List.length_cons] at h1
        omega
      have HB := Lib.hid hbel
      have hsz := hbel.size
      clear hbel
      have hne : ((p : Int) == -1) = false := by rw [beq_eq_false_iff_ne]; omega
      go_wp2_with (at_builtin; refine wpList_append_own _ rfl _ _ 30 rfl w.heap.size 3 i0 (.int .i64 0) 1 8 Try.underlying30 hi hz0 hz1 hz2 rfl (by decide) _ _ _ rfl (hown.alloc _) ⟨wr.heap.size, 0, none⟩ 1 1 [.int .i64 (p : Int)] rfl rfl ?c1 ?c2 ?c3 ?c4 ?c5 ?_)
      case c1 =>
        intro j u hj
        match j, hj with
        | 0, hj => simp at hj; subst hj; simp [Addr.add]
      case c2 => intro u hu; simp at hu; subst hu; rfl
      case c3 => unfold maxLen; omega
      case c4 => omega
      case c5 => simp; omega
      intro v' w1 hown' hgrow _
      have hb1 : Below w.heap.size w w1 := (HB.out.alloc hsz _).trans (below_grown hgrow (fun g hg => (World.ownsRow.lt hown g hg).1) (by simp; omega))
      clear hgrow hown
      have HB1 := Lib.hid hb1
      clear hb1
      go_wp2_with fail
      refine (parent_any a len cap f p w1 (by omega) (HP.out.below HB1.out)).mono ?_
      rintro e w' ⟨rfl, rfl⟩
      go_wp2_with fail
      go_roundw
      case rel =>
        refine ⟨done ++ [p], ups f p, up f p, rfl, by rw [HD.out, List.append_assoc]; rfl, ?_, ?_, HB1.out⟩
        · rcases ups_cases f p with ⟨h1, h2⟩ | ⟨p2, hp2, h1, h2⟩
          · exact Or.inl ⟨h1, h2⟩
          · exact Or.inr ⟨p2, h1, by omega, h2⟩
        · have e1 : (done ++ [p]).length = done.length + 1 := by simp
          have e2 : ints (done ++ [p]) = ints done ++ [.int .i64 (p : Int)] := by unfold ints; simp
          rw [e1, e2]; exact hown'
      case measure =>
        have := up_bd f p
        simp [intOf]; omega

set_option maxRecDepth 100000 in
set_option maxHeartbeats 400000 in
theorem Ups_no (a : Option Addr) (len cap : Nat) (i : Int) (w : World) (h : i < 0 ∨ (len : Int) ≤ i) :
    Calls Try.prog 21 #[.slice a len cap, .int .i64 i] w fun e w' => e = .returned (.slice none 0 0) ∧ w = w' := by
  have C := Lib.hid (has_no a len cap i w h)
  clear h
  go_enter Try.func21, Try.ntmps21
  go_wp2_with fail
  refine C.out.mono ?_
  rintro e w' ⟨rfl, rfl⟩
  go_wp2_with fail
  go_ret
  exact ⟨rfl, rfl⟩

/-- what a call that answers a number comes to -/
def ToldN (w : World) (n : Int) (e : Ending) (w' : World) : Prop := e = .returned (.int .i64 n) ∧ Below w.heap.size w w'

set_option maxRecDepth 100000 in
set_option maxHeartbeats 1000000 in
theorem Depth_any (a : Option Addr) (len cap : Nat) (f : Nat → Int) (i : Nat) (w : World) (hl : len ≤ 100000) (h : i < len) (hP : Pars w a len f) :
    Calls Try.prog 18 #[.slice a len cap, .int .i64 (i : Int)] w (ToldN w (1 + (ups f i).length)) := by
  have C := Lib.hid (Ups_any a len cap f i w hl h hP)
  have hle := ups_length f i
  obtain ⟨xs, hxs⟩ : ∃ xs, ups f i = xs := ⟨_, rfl⟩
  rw [hxs] at C hle ⊢
  clear hP hxs
  go_enter Try.func18, Try.ntmps18
  go_wp2_with fail
  refine (has_yes a len cap i w h).mono ?_
  rintro e w' ⟨rfl, rfl⟩
  go_wp2_with fail
  refine C.out.mono ?_
  rintro e w1 ⟨ad, c, rfl, hb, _⟩
  have HB := Lib.hid hb
  clear hb
  go_wp2_with fail
  go_ret
  exact ⟨rfl, HB.out⟩

set_option maxRecDepth 100000 in
set_option maxHeartbeats 400000 in
theorem Depth_no (a : Option Addr) (len cap : Nat) (i : Int) (w : World) (h : i < 0 ∨ (len : Int) ≤ i) :
    Calls Try.prog 18 #[.slice a len cap, .int .i64 i] w fun e w' => e = .returned (.int .i64 0) ∧ w = w' := by
  have C := Lib.hid (has_no a len cap i w h)
  clear h
  go_enter Try.func18, Try.ntmps18
  go_wp2_with fail
  refine C.out.mono ?_
  rintro e w' ⟨rfl, rfl⟩
  go_wp2_with fail
  go_ret
  exact ⟨rfl, rfl⟩
end Go.Proofs.Ytlnglpjmfoigmaa
