/- Joined texts: LexT1 LexT2. -/
import Derived.Test.YtipmgoejdkpknaaLexR6
import Derived.Test.YtipmgoejdkpknaaFixWd
import Derived.Deep.RegionWith
namespace Go.Proofs.Ytipmgoejdkpknaa
open Go.RowKit TreN LexP FixP FixM
set_option linter.unusedVariables false

theorem add_any (W : World) (x y : List UInt8) (hx : x.length ≤ 100000) (hy : y.length ≤ 100000) : (Op.stringOp .add ⟨x.toArray⟩ ⟨y.toArray⟩).run Try.prog W = .ok (.string ⟨(x ++ y).toArray⟩) W :=
  run_string_add_lists W x y (by omega) (by omega)
theorem indexByte_mem (l : List UInt8) (c : UInt8) : decide (0 ≤ Lib.indexByte l c) = decide (c ∈ l) := by
  induction l with
  | nil => simp [Lib.indexByte]
  | cons b l ih =>
    by_cases h : b = c
    · subst h; simp [Lib.indexByte]
    · have hb : (b == c) = false := by rw [beq_eq_false_iff_ne]; exact h
      have hc : ¬ c = b := fun x => h x.symm
      have hge := Lib.indexByte_ge l c
      simp only [Lib.indexByte, hb, List.mem_cons, hc, false_or]
      rw [← ih]
      by_cases q : Lib.indexByte l c = -1
      · rw [q]; decide
      · have : (Lib.indexByte l c == -1) = false := by rw [beq_eq_false_iff_ne]; exact q
        simp only [this]
        rw [decide_eq_decide]
        simp; omega

set_option maxRecDepth 100000 in
set_option maxHeartbeats 1000000 in
theorem quoted_any (l : List UInt8) (w : World) (hl : l.length ≤ 40000) : Calls Try.prog 30 #[.string ⟨l.toArray⟩] w fun e w' => e = .returned (.string ⟨(quoT l).toArray⟩) ∧ w = w' := by
  have C := Try.strings_Contains_one ⟨l.toArray⟩ 34 w
  rw [indexByte_mem] at C
  have C : Calls Try.prog 56 #[.string ⟨l.toArray⟩, .string ⟨#[34]⟩] w fun e w' => e = .returned (.bool (decide (34 ∈ l))) ∧ w' = w := C
  unfold quoT
  by_cases h : (34 : UInt8) ∈ l
  · rw [if_pos h]
    rw [decide_eq_true h] at C
    have HC := Lib.hid C
    have a1 : ∀ W : World, (Op.stringOp .add ⟨#[39]⟩ ⟨l.toArray⟩).run Try.prog W = .ok (.string ⟨(39 :: l).toArray⟩) W := fun W => add_any W [39] l (by simp) (by omega)
    have a2 : ∀ W : World, (Op.stringOp .add ⟨(39 :: l).toArray⟩ ⟨#[39]⟩).run Try.prog W = .ok (.string ⟨(39 :: (l ++ [39])).toArray⟩) W := fun W => add_any W (39 :: l) [39] (by simp; omega) (by simp)
    clear C h
    go_enter Try.func30, Try.ntmps30
    go_wp2_with fail
    refine (HC.out).mono ?_
    rintro e w' ⟨rfl, rfl⟩
    go_wp2_with fail
    go_ret
    exact ⟨rfl, rfl⟩
  · rw [if_neg h]
    rw [decide_eq_false h] at C
    have HC := Lib.hid C
    have a1 : ∀ W : World, (Op.stringOp .add ⟨#[34]⟩ ⟨l.toArray⟩).run Try.prog W = .ok (.string ⟨(34 :: l).toArray⟩) W := fun W => add_any W [34] l (by simp) (by omega)
    have a2 : ∀ W : World, (Op.stringOp .add ⟨(34 :: l).toArray⟩ ⟨#[34]⟩).run Try.prog W = .ok (.string ⟨(34 :: (l ++ [34])).toArray⟩) W := fun W => add_any W (34 :: l) [34] (by simp; omega) (by simp)
    clear C h
    go_enter Try.func30, Try.ntmps30
    go_wp2_with fail
    refine (HC.out).mono ?_
    rintro e w' ⟨rfl, rfl⟩
    go_wp2_with fail
    go_ret
    exact ⟨rfl, rfl⟩

set_option maxRecDepth 100000 in
set_option maxHeartbeats 1000000 in
theorem refHas34_any (l : List UInt8) (w : World) (hl : l.length ≤ 40000) : Calls Try.prog 32 #[.string ⟨l.toArray⟩] w fun e w' => e = .returned (.bool (decide (34 ∈ l))) ∧ w = w' := by
  have hq : (⟨l.toArray⟩ : ByteArray).size = l.length := by rw [← len_data]
  obtain ⟨s, hs⟩ : ∃ s : ByteArray, (⟨l.toArray⟩ : ByteArray) = s := ⟨_, rfl⟩
  have hsl : s.data.toList = l := by rw [← hs]
  rw [hs] at hq ⊢
  have HSL := Lib.hid hsl
  clear hs hsl
  go_enter Try.func32, Try.ntmps32
  go_wp2_with fail
  have hsz : s.size ≤ 40000 := by omega
  clear hq
  go_loop [3] (fun i => ∃ k : Nat, k ≤ s.size ∧ i = .int .i64 (k : Int) ∧ Hid (∀ j (hj : j < s.size), j < k → ¬ s[j] = 34)) (fun i => s.size - (intOf i).toNat)
  case atStart => exact ⟨0, by omega, rfl, fun j hj h => by omega⟩
  case round =>
    obtain ⟨k, hk, rfl, HJ⟩ := hrel
    by_cases hlt : k < s.size
    · have hltz : (k : Int) < (s.size : Int) := by omega
      by_cases hc : s[k] = 34
      · have kb : ((s[k].toNat : Int) == 34) = true := by rw [hc]; rfl
        have hin : decide (34 ∈ l) = true := by
          rw [decide_eq_true_iff, ← HSL.out, ← hc]
          have e : s.data.toList[k]'(by rw [len_data]; exact hlt) = s[k] := by simp [ByteArray.getElem_eq_getElem_data]
          rw [← e]
          exact List.getElem_mem _
        have HIN := Lib.hid hin
        clear hc hin
        go_wp2_with fail
        go_ret
        exact ⟨ret_bool HIN.out.symm, rfl⟩
      · have kb : ((s[k].toNat : Int) == 34) = false := by
          rw [beq_eq_false_iff_ne]
          intro x
          exact hc (UInt8.toNat_inj.1 (by show s[k].toNat = 34; omega))
        have HC := Lib.hid hc
        clear hc
        go_wp2_with fail
        go_round
        case rel =>
          refine ⟨k + 1, by omega, by go_num, fun j hj h => ?_⟩
          by_cases q : j = k
          · subst q; exact HC.out
          · exact HJ.out j hj (by omega)
        case measure => simp [intOf]; omega
    · have hltz : ¬ (k : Int) < (s.size : Int) := by omega
      have hin : decide (34 ∈ l) = false := by
        rw [decide_eq_false_iff_not, ← HSL.out]
        intro hm
        obtain ⟨j, hj, e⟩ := List.getElem_of_mem hm
        rw [len_data] at hj
        refine HJ.out j hj (by omega) ?_
        rw [← e]
        simp [ByteArray.getElem_eq_getElem_data]
      have HIN := Lib.hid hin
      clear hin
      go_wp2_with fail
      go_ret
      exact ⟨ret_bool HIN.out.symm, rfl⟩

theorem prn_len (n : Int) : (prn (H n)).length ≤ 20 := by
  have k1 := fun a => pr1s_len a 3
  have k2 := fun st => pr2s_len st 7
  have k3 := fun t => prp_len t
  have hp : ∀ a, (prt a).length ≤ 11 := fun a => by
    unfold prt
    have h1 := k2 ((pr1s a 3).1, prp (pr1s a 3).2)
    have h2 := k3 (pr1s a 3).2
    have h3 := k1 a
    simp only [] at h1
    omega
  unfold prn
  split
  · have := hp (-H n); simp; omega
  · have := hp (H n); omega

set_option maxRecDepth 100000 in
set_option maxHeartbeats 1000000 in
theorem text_ident (x : List UInt8) (n : Int) (w : World) (hx : x.length ≤ 40000) : Calls Try.prog 19 #[(⟨1, x, n⟩ : Tok).val] w fun e w' => e = .returned (.string ⟨(tx ⟨1, x, n⟩).toArray⟩) ∧ Below w.heap.size w w' := by
  have ht : tx ⟨1, x, n⟩ = x := rfl
  rw [ht]
  unfold LexP.Tok.val
  clear ht
  go_enter Try.func19, Try.ntmps19
  go_wp2_with fail
  go_ret
  exact ⟨rfl, by go_grown⟩

set_option maxRecDepth 100000 in
set_option maxHeartbeats 1000000 in
theorem text_delim (x : List UInt8) (n : Int) (w : World) (hx : x.length ≤ 40000) : Calls Try.prog 19 #[(⟨19, x, n⟩ : Tok).val] w fun e w' => e = .returned (.string ⟨(tx ⟨19, x, n⟩).toArray⟩) ∧ Below w.heap.size w w' := by
  have ht : tx ⟨19, x, n⟩ = x := rfl
  rw [ht]
  unfold LexP.Tok.val
  clear ht
  go_enter Try.func19, Try.ntmps19
  go_wp2_with fail
  go_ret
  exact ⟨rfl, by go_grown⟩

set_option maxRecDepth 100000 in
set_option maxHeartbeats 1000000 in
theorem text_func (x : List UInt8) (n : Int) (w : World) (hx : x.length ≤ 40000) : Calls Try.prog 19 #[(⟨2, x, n⟩ : Tok).val] w fun e w' => e = .returned (.string ⟨(tx ⟨2, x, n⟩).toArray⟩) ∧ Below w.heap.size w w' := by
  have ht : tx ⟨2, x, n⟩ = x ++ [40] := rfl
  rw [ht]
  unfold LexP.Tok.val
  have a1 : ∀ W : World, (Op.stringOp .add ⟨x.toArray⟩ ⟨#[40]⟩).run Try.prog W = .ok (.string ⟨(x ++ [40]).toArray⟩) W := fun W => add_any W x [40] (by omega) (by simp)
  clear ht
  go_enter Try.func19, Try.ntmps19
  go_wp2_with fail
  go_ret
  exact ⟨rfl, by go_grown⟩

set_option maxRecDepth 100000 in
set_option maxHeartbeats 1000000 in
theorem text_at (x : List UInt8) (n : Int) (w : World) (hx : x.length ≤ 40000) : Calls Try.prog 19 #[(⟨3, x, n⟩ : Tok).val] w fun e w' => e = .returned (.string ⟨(tx ⟨3, x, n⟩).toArray⟩) ∧ Below w.heap.size w w' := by
  have ht : tx ⟨3, x, n⟩ = 64 :: x := rfl
  rw [ht]
  unfold LexP.Tok.val
  have a1 : ∀ W : World, (Op.stringOp .add ⟨#[64]⟩ ⟨x.toArray⟩).run Try.prog W = .ok (.string ⟨(64 :: x).toArray⟩) W := fun W => add_any W [64] x (by simp) (by omega)
  clear ht
  go_enter Try.func19, Try.ntmps19
  go_wp2_with fail
  go_ret
  exact ⟨rfl, by go_grown⟩

set_option maxRecDepth 100000 in
set_option maxHeartbeats 1000000 in
theorem text_hash (x : List UInt8) (n : Int) (w : World) (hx : x.length ≤ 40000) : Calls Try.prog 19 #[(⟨4, x, n⟩ : Tok).val] w fun e w' => e = .returned (.string ⟨(tx ⟨4, x, n⟩).toArray⟩) ∧ Below w.heap.size w w' := by
  have ht : tx ⟨4, x, n⟩ = 35 :: x := rfl
  rw [ht]
  unfold LexP.Tok.val
  have a1 : ∀ W : World, (Op.stringOp .add ⟨#[35]⟩ ⟨x.toArray⟩).run Try.prog W = .ok (.string ⟨(35 :: x).toArray⟩) W := fun W => add_any W [35] x (by simp) (by omega)
  clear ht
  go_enter Try.func19, Try.ntmps19
  go_wp2_with fail
  go_ret
  exact ⟨rfl, by go_grown⟩

set_option maxRecDepth 100000 in
set_option maxHeartbeats 1000000 in
theorem text_str (x : List UInt8) (n : Int) (w : World) (hx : x.length ≤ 40000) : Calls Try.prog 19 #[(⟨5, x, n⟩ : Tok).val] w fun e w' => e = .returned (.string ⟨(tx ⟨5, x, n⟩).toArray⟩) ∧ Below w.heap.size w w' := by
  have ht : tx ⟨5, x, n⟩ = quoT x := rfl
  rw [ht]
  unfold LexP.Tok.val
  have C := Lib.hid fun W => quoted_any x W hx
  clear ht
  go_enter Try.func19, Try.ntmps19
  go_wp2_with fail
  refine (C.out _).mono ?_
  rintro e w' ⟨rfl, rfl⟩
  go_wp2_with fail
  go_ret
  exact ⟨rfl, by go_grown⟩

set_option maxRecDepth 100000 in
set_option maxHeartbeats 1000000 in
theorem text_num (x : List UInt8) (n : Int) (w : World) (hx : x.length ≤ 40000) : Calls Try.prog 19 #[(⟨7, x, n⟩ : Tok).val] w fun e w' => e = .returned (.string ⟨(tx ⟨7, x, n⟩).toArray⟩) ∧ Below w.heap.size w w' := by
  have ht : tx ⟨7, x, n⟩ = prn (H n) := rfl
  rw [ht]
  unfold LexP.Tok.val
  have C := Lib.hid fun W => Print_bel n W
  have hpl := prn_len n
  generalize prn (H n) = z at *
  clear ht
  go_enter Try.func19, Try.ntmps19
  go_wp2_with fail
  refine (C.out _).mono ?_
  rintro e w1 ⟨rfl, hb⟩
  have hbW : Below w.heap.size w w1 := ((Below.refl _ _).alloc (Nat.le_refl _) _).trans (hb.mono (by simp))
  have HBW := Lib.hid hbW
  clear hb hbW
  go_wp2_with fail
  go_ret
  exact ⟨rfl, HBW.out⟩

set_option maxRecDepth 100000 in
set_option maxHeartbeats 1000000 in
theorem text_pct (x : List UInt8) (n : Int) (w : World) (hx : x.length ≤ 40000) : Calls Try.prog 19 #[(⟨8, x, n⟩ : Tok).val] w fun e w' => e = .returned (.string ⟨(tx ⟨8, x, n⟩).toArray⟩) ∧ Below w.heap.size w w' := by
  have ht : tx ⟨8, x, n⟩ = prn (H n) ++ [37] := rfl
  rw [ht]
  unfold LexP.Tok.val
  have C := Lib.hid fun W => Print_bel n W
  have hpl := prn_len n
  generalize prn (H n) = z at *
  have a1 : ∀ W : World, (Op.stringOp .add ⟨z.toArray⟩ ⟨#[37]⟩).run Try.prog W = .ok (.string ⟨(z ++ [37]).toArray⟩) W := fun W => add_any W z [37] (by omega) (by simp)
  clear ht
  go_enter Try.func19, Try.ntmps19
  go_wp2_with fail
  refine (C.out _).mono ?_
  rintro e w1 ⟨rfl, hb⟩
  have hbW : Below w.heap.size w w1 := ((Below.refl _ _).alloc (Nat.le_refl _) _).trans (hb.mono (by simp))
  have HBW := Lib.hid hbW
  clear hb hbW
  go_wp2_with fail
  go_ret
  exact ⟨rfl, HBW.out⟩

set_option maxRecDepth 100000 in
set_option maxHeartbeats 1000000 in
theorem text_space (x : List UInt8) (n : Int) (w : World) (hx : x.length ≤ 40000) : Calls Try.prog 19 #[(⟨20, x, n⟩ : Tok).val] w fun e w' => e = .returned (.string ⟨(tx ⟨20, x, n⟩).toArray⟩) ∧ Below w.heap.size w w' := by
  have ht : tx ⟨20, x, n⟩ = [32] := rfl
  rw [ht]
  unfold LexP.Tok.val
  clear ht
  go_enter Try.func19, Try.ntmps19
  go_wp2_with fail
  go_ret
  exact ⟨rfl, by go_grown⟩

set_option maxRecDepth 100000 in
set_option maxHeartbeats 1000000 in
theorem text_s10 (x : List UInt8) (n : Int) (w : World) (hx : x.length ≤ 40000) : Calls Try.prog 19 #[(⟨10, x, n⟩ : Tok).val] w fun e w' => e = .returned (.string ⟨(tx ⟨10, x, n⟩).toArray⟩) ∧ Below w.heap.size w w' := by
  have ht : tx ⟨10, x, n⟩ = [58] := rfl
  rw [ht]
  unfold LexP.Tok.val
  clear ht
  go_enter Try.func19, Try.ntmps19
  go_wp2_with fail
  go_ret
  exact ⟨rfl, by go_grown⟩

set_option maxRecDepth 100000 in
set_option maxHeartbeats 1000000 in
theorem text_s11 (x : List UInt8) (n : Int) (w : World) (hx : x.length ≤ 40000) : Calls Try.prog 19 #[(⟨11, x, n⟩ : Tok).val] w fun e w' => e = .returned (.string ⟨(tx ⟨11, x, n⟩).toArray⟩) ∧ Below w.heap.size w w' := by
  have ht : tx ⟨11, x, n⟩ = [59] := rfl
  rw [ht]
  unfold LexP.Tok.val
  clear ht
  go_enter Try.func19, Try.ntmps19
  go_wp2_with fail
  go_ret
  exact ⟨rfl, by go_grown⟩

set_option maxRecDepth 100000 in
set_option maxHeartbeats 1000000 in
theorem text_s12 (x : List UInt8) (n : Int) (w : World) (hx : x.length ≤ 40000) : Calls Try.prog 19 #[(⟨12, x, n⟩ : Tok).val] w fun e w' => e = .returned (.string ⟨(tx ⟨12, x, n⟩).toArray⟩) ∧ Below w.heap.size w w' := by
  have ht : tx ⟨12, x, n⟩ = [44] := rfl
  rw [ht]
  unfold LexP.Tok.val
  clear ht
  go_enter Try.func19, Try.ntmps19
  go_wp2_with fail
  go_ret
  exact ⟨rfl, by go_grown⟩

set_option maxRecDepth 100000 in
set_option maxHeartbeats 1000000 in
theorem text_s13 (x : List UInt8) (n : Int) (w : World) (hx : x.length ≤ 40000) : Calls Try.prog 19 #[(⟨13, x, n⟩ : Tok).val] w fun e w' => e = .returned (.string ⟨(tx ⟨13, x, n⟩).toArray⟩) ∧ Below w.heap.size w w' := by
  have ht : tx ⟨13, x, n⟩ = [40] := rfl
  rw [ht]
  unfold LexP.Tok.val
  clear ht
  go_enter Try.func19, Try.ntmps19
  go_wp2_with fail
  go_ret
  exact ⟨rfl, by go_grown⟩

set_option maxRecDepth 100000 in
set_option maxHeartbeats 1000000 in
theorem text_s14 (x : List UInt8) (n : Int) (w : World) (hx : x.length ≤ 40000) : Calls Try.prog 19 #[(⟨14, x, n⟩ : Tok).val] w fun e w' => e = .returned (.string ⟨(tx ⟨14, x, n⟩).toArray⟩) ∧ Below w.heap.size w w' := by
  have ht : tx ⟨14, x, n⟩ = [41] := rfl
  rw [ht]
  unfold LexP.Tok.val
  clear ht
  go_enter Try.func19, Try.ntmps19
  go_wp2_with fail
  go_ret
  exact ⟨rfl, by go_grown⟩

set_option maxRecDepth 100000 in
set_option maxHeartbeats 1000000 in
theorem text_s15 (x : List UInt8) (n : Int) (w : World) (hx : x.length ≤ 40000) : Calls Try.prog 19 #[(⟨15, x, n⟩ : Tok).val] w fun e w' => e = .returned (.string ⟨(tx ⟨15, x, n⟩).toArray⟩) ∧ Below w.heap.size w w' := by
  have ht : tx ⟨15, x, n⟩ = [91] := rfl
  rw [ht]
  unfold LexP.Tok.val
  clear ht
  go_enter Try.func19, Try.ntmps19
  go_wp2_with fail
  go_ret
  exact ⟨rfl, by go_grown⟩

set_option maxRecDepth 100000 in
set_option maxHeartbeats 1000000 in
theorem text_s16 (x : List UInt8) (n : Int) (w : World) (hx : x.length ≤ 40000) : Calls Try.prog 19 #[(⟨16, x, n⟩ : Tok).val] w fun e w' => e = .returned (.string ⟨(tx ⟨16, x, n⟩).toArray⟩) ∧ Below w.heap.size w w' := by
  have ht : tx ⟨16, x, n⟩ = [93] := rfl
  rw [ht]
  unfold LexP.Tok.val
  clear ht
  go_enter Try.func19, Try.ntmps19
  go_wp2_with fail
  go_ret
  exact ⟨rfl, by go_grown⟩

set_option maxRecDepth 100000 in
set_option maxHeartbeats 1000000 in
theorem text_s17 (x : List UInt8) (n : Int) (w : World) (hx : x.length ≤ 40000) : Calls Try.prog 19 #[(⟨17, x, n⟩ : Tok).val] w fun e w' => e = .returned (.string ⟨(tx ⟨17, x, n⟩).toArray⟩) ∧ Below w.heap.size w w' := by
  have ht : tx ⟨17, x, n⟩ = [123] := rfl
  rw [ht]
  unfold LexP.Tok.val
  clear ht
  go_enter Try.func19, Try.ntmps19
  go_wp2_with fail
  go_ret
  exact ⟨rfl, by go_grown⟩

set_option maxRecDepth 100000 in
set_option maxHeartbeats 1000000 in
theorem text_s18 (x : List UInt8) (n : Int) (w : World) (hx : x.length ≤ 40000) : Calls Try.prog 19 #[(⟨18, x, n⟩ : Tok).val] w fun e w' => e = .returned (.string ⟨(tx ⟨18, x, n⟩).toArray⟩) ∧ Below w.heap.size w w' := by
  have ht : tx ⟨18, x, n⟩ = [125] := rfl
  rw [ht]
  unfold LexP.Tok.val
  clear ht
  go_enter Try.func19, Try.ntmps19
  go_wp2_with fail
  go_ret
  exact ⟨rfl, by go_grown⟩

end Go.Proofs.Ytipmgoejdkpknaa

namespace Go.Proofs.Ytipmgoejdkpknaa
open Go.RowKit TreN LexP FixP FixM
set_option linter.unusedVariables false

set_option maxRecDepth 100000 in
set_option maxHeartbeats 1000000 in
theorem text_dim (x : List UInt8) (n : Int) (w : World) (hx : x.length ≤ 40000) : Calls Try.prog 19 #[(⟨9, x, n⟩ : Tok).val] w fun e w' => e = .returned (.string ⟨(tx ⟨9, x, n⟩).toArray⟩) ∧ Below w.heap.size w w' := by
  have ht : tx ⟨9, x, n⟩ = prn (H n) ++ x := rfl
  rw [ht]
  unfold LexP.Tok.val
  have C := Lib.hid fun W => Print_bel n W
  have hpl := prn_len n
  generalize prn (H n) = z at *
  have a1 : ∀ W : World, (Op.stringOp .add ⟨z.toArray⟩ ⟨x.toArray⟩).run Try.prog W = .ok (.string ⟨(z ++ x).toArray⟩) W := fun W => add_any W z x (by omega) (by omega)
  clear ht
  go_enter Try.func19, Try.ntmps19
  go_wp2_with fail
  go_region_with ((go_at_call 31; refine (C.out _).mono ?_; rintro e w1 ⟨rfl, hb⟩; have q1 := (hb.cell (p := ⟨w.heap.size, 1, none⟩) (by simp)); have hbW := Below.trans (B := w.heap.size) (by go_grown) (hb.mono (by simp)); have HBW := Lib.hid hbW; clear hb hbW))
  all_goals
    go_wp2_with fail
    go_ret
    exact ⟨rfl, (((Below.refl _ _).alloc (Nat.le_refl _) _).drew).trans HBW.out⟩

/-- a kind that has no text -/
structure NoKind (k : Int) : Prop where
  lo : k < 10 ∨ 18 < k
  n1 : (k == 1) = false
  n2 : (k == 2) = false
  n3 : (k == 3) = false
  n4 : (k == 4) = false
  n5 : (k == 5) = false
  n7 : (k == 7) = false
  n8 : (k == 8) = false
  n9 : (k == 9) = false
  n19 : (k == 19) = false
  n20 : (k == 20) = false
theorem kinds (k : Int) : k = 1 ∨ k = 2 ∨ k = 3 ∨ k = 4 ∨ k = 5 ∨ k = 7 ∨ k = 8 ∨ k = 9 ∨ k = 10 ∨ k = 11 ∨ k = 12 ∨ k = 13 ∨ k = 14 ∨ k = 15 ∨ k = 16 ∨ k = 17 ∨ k = 18 ∨ k = 19 ∨ k = 20 ∨ NoKind k := by
  by_cases h : k = 1 ∨ k = 2 ∨ k = 3 ∨ k = 4 ∨ k = 5 ∨ k = 7 ∨ k = 8 ∨ k = 9 ∨ k = 10 ∨ k = 11 ∨ k = 12 ∨ k = 13 ∨ k = 14 ∨ k = 15 ∨ k = 16 ∨ k = 17 ∨ k = 18 ∨ k = 19 ∨ k = 20
  · omega
  · have hn : NoKind k := by
      refine ⟨by omega, ?_, ?_, ?_, ?_, ?_, ?_, ?_, ?_, ?_, ?_⟩ <;> (rw [beq_eq_false_iff_ne]; omega)
    simp only [hn, or_true]
theorem tx_none (k : Int) (x : List UInt8) (n : Int) (h : NoKind k) : tx ⟨k, x, n⟩ = [] := by
  obtain ⟨h0, h1, h2, h3, h4, h5, h7, h8, h9, h19, h20⟩ := h
  rw [beq_eq_false_iff_ne] at h1 h2 h3 h4 h5 h7 h8 h9 h19 h20
  unfold tx
  simp only []
  rw [if_neg (by omega), if_neg h2, if_neg h3, if_neg h4, if_neg h5, if_neg h7, if_neg h8, if_neg h9, if_neg (by omega), if_neg (by omega), if_neg (by omega), if_neg (by omega), if_neg (by omega), if_neg (by omega), if_neg (by omega), if_neg (by omega), if_neg (by omega), if_neg h20]

set_option maxRecDepth 100000 in
set_option maxHeartbeats 1000000 in
theorem text_none (k : Int) (x : List UInt8) (n : Int) (w : World) (h : NoKind k) : Calls Try.prog 19 #[(⟨k, x, n⟩ : Tok).val] w fun e w' => e = .returned (.string ⟨(tx ⟨k, x, n⟩).toArray⟩) ∧ Below w.heap.size w w' := by
  rw [tx_none k x n h]
  obtain ⟨h0, h1, h2, h3, h4, h5, h7, h8, h9, h19, h20⟩ := h
  unfold LexP.Tok.val
  rcases h0 with h0 | h0
  · have hlo : decide (10 ≤ k) = false := by simp; omega
    clear h0
    go_enter Try.func19, Try.ntmps19
    go_wp2_with fail
    go_ret
    exact ⟨rfl, by go_grown⟩
  · have hlo : decide (10 ≤ k) = true := by simp; omega
    have hhi : decide (k ≤ 18) = false := by simp; omega
    clear h0
    go_enter Try.func19, Try.ntmps19
    go_wp2_with fail
    go_ret
    exact ⟨rfl, by go_grown⟩

theorem text_any (t : Tok) (w : World) (hx : t.text.length ≤ 40000) : Calls Try.prog 19 #[t.val] w fun e w' => e = .returned (.string ⟨(tx t).toArray⟩) ∧ Below w.heap.size w w' := by
  obtain ⟨k, x, n⟩ := t
  rcases kinds k with rfl | rfl | rfl | rfl | rfl | rfl | rfl | rfl | rfl | rfl | rfl | rfl | rfl | rfl | rfl | rfl | rfl | rfl | rfl | h
  · exact text_ident x n w hx
  · exact text_func x n w hx
  · exact text_at x n w hx
  · exact text_hash x n w hx
  · exact text_str x n w hx
  · exact text_num x n w hx
  · exact text_pct x n w hx
  · exact text_dim x n w hx
  · exact text_s10 x n w hx
  · exact text_s11 x n w hx
  · exact text_s12 x n w hx
  · exact text_s13 x n w hx
  · exact text_s14 x n w hx
  · exact text_s15 x n w hx
  · exact text_s16 x n w hx
  · exact text_s17 x n w hx
  · exact text_s18 x n w hx
  · exact text_delim x n w hx
  · exact text_space x n w hx
  · exact text_none k x n w h
end Go.Proofs.Ytipmgoejdkpknaa
