/- Layer 7's and 9's references: Is, Sign, Skip. -/
import Derived.Test.YtoaenlbbochjhaaValW3
import Derived.Test.YtoaenlbbochjhaaSynR2
namespace Go.Proofs.Ytoaenlbbochjhaa
open Go.RowKit TreN LexP FixP SynP ValP FixM
set_option linter.unusedVariables false

def isP (l : List Tok) (i : Nat) (k : Int) : Bool := match l.drop i with
  | [] => false
  | t :: _ => decide (t.kind = k)
def signP (l : List Tok) (i : Nat) (x : List UInt8) : Bool := isP l i 19 && decide ((nxt (l.drop i)).text = x)
def skipN (l : List Tok) (i : Nat) : Nat := i + ((l.drop i).length - (bs (l.drop i)).length)
theorem isP_lt {l : List Tok} {i : Nat} (h : i < l.length) (k : Int) : isP l i k = decide (l[i].kind = k) := by
  unfold isP
  rw [List.drop_eq_getElem_cons h]
theorem isP_ge {l : List Tok} {i : Nat} (h : l.length ≤ i) (k : Int) : isP l i k = false := by
  unfold isP
  rw [List.drop_of_length_le h]
theorem skipN_yes {l : List Tok} {i : Nat} (h : isP l i 20 = true) : skipN l i = skipN l (i + 1) := by
  by_cases hi : i < l.length
  · rw [isP_lt hi, decide_eq_true_eq] at h
    unfold skipN
    rw [List.drop_eq_getElem_cons hi, bs_sp h]
    have h1 := bs_len (l.drop (i + 1))
    simp only [List.length_cons]
    omega
  · rw [isP_ge (by omega)] at h; cases h
theorem skipN_no {l : List Tok} {i : Nat} (h : isP l i 20 = false) : skipN l i = i := by
  unfold skipN
  by_cases hi : i < l.length
  · rw [isP_lt hi, decide_eq_false_iff_not] at h
    rw [List.drop_eq_getElem_cons hi, bs_no h]; omega
  · rw [List.drop_of_length_le (by omega)]; rfl
theorem skipN_drop (l : List Tok) (i : Nat) : l.drop (skipN l i) = bs (l.drop i) := by
  unfold skipN
  obtain ⟨p, hp⟩ := bs_suf (l.drop i)
  have hl := congrArg List.length hp
  rw [List.length_append] at hl
  rw [← List.drop_drop]
  have e : (l.drop i).length - (bs (l.drop i)).length = p.length := by omega
  rw [e]
  conv => lhs; rw [← hp]
  rw [List.drop_left]
theorem skipN_le {l : List Tok} {i : Nat} (h : i ≤ l.length) : skipN l i ≤ l.length := by
  unfold skipN
  rw [List.length_drop]; omega
theorem skipN_ge (l : List Tok) (i : Nat) : i ≤ skipN l i := by unfold skipN; omega
theorem skipN_bd (l : List Tok) (i : Nat) : skipN l i ≤ i + l.length := by
  unfold skipN
  rw [List.length_drop]; omega

set_option maxRecDepth 100000 in
set_option maxHeartbeats 1000000 in
theorem refIs7_any (a : Option Addr) (l : List Tok) (n cap i : Nat) (k : Int) (w : World) (hn : l.length = n) (hm : n ≤ 9000000) (hi : i ≤ 18000000) (hT : Tks w a l) :
    Calls Try.prog 44 #[.slice a n cap, .int .i64 i, .int .i64 k] w fun e w' => e = .returned (.bool (isP l i k)) ∧ w' = w := by
  by_cases h : i < n
  · obtain ⟨b, o, rfl, hb, ht⟩ := hT.get (i := i) (by omega)
    have d1 : w.cell? ⟨b, o + i * 3, none⟩ = some (.int .i64 l[i].kind) := ht.kind
    rw [isP_lt (by omega)]
    have hz : (i : Int) < (n : Int) := by omega
    have hi0 : (0 : Int) ≤ (i : Int) := by omega
    generalize l[i].kind = q at *
    have e : decide (q = k) = (q == k) := rfl
    rw [e]
    clear hT ht hn e
    go_enter Try.func44, Try.ntmps44
    go_wp2_with fail
    go_ret
    exact ⟨rfl, rfl⟩
  · rw [isP_ge (by omega)]
    have hz : ¬ (i : Int) < (n : Int) := by omega
    clear hT hn
    go_enter Try.func44, Try.ntmps44
    go_wp2_with fail
    go_ret
    exact ⟨rfl, rfl⟩
set_option maxRecDepth 100000 in
set_option maxHeartbeats 1000000 in
theorem refSign7_any (a : Option Addr) (l : List Tok) (n cap i : Nat) (x : List UInt8) (w : World) (hn : l.length = n) (hm : n ≤ 9000000) (hi : i ≤ 18000000) (hT : Tks w a l) :
    Calls Try.prog 104 #[.slice a n cap, .int .i64 i, .string ⟨x.toArray⟩] w fun e w' => e = .returned (.bool (signP l i x)) ∧ w' = w := by
  have I := refIs7_any a l n cap i 19 w hn hm hi hT
  obtain ⟨R, hR⟩ : ∃ R, signP l i x = R := ⟨_, rfl⟩
  rw [hR]
  unfold signP at hR
  cases hb : isP l i 19 with
  | false =>
    rw [hb] at I hR
    have HI := Lib.hid I
    have HF : Hid (false = R) := Lib.hid hR
    clear I hR hb hT hn
    go_enter Try.func104, Try.ntmps104
    go_wp2_with fail
    refine HI.out.mono ?_
    rintro e w' ⟨rfl, rfl⟩
    go_wp2_with fail
    go_ret
    exact ⟨ret_bool HF.out, rfl⟩
  | true =>
    have hlt : i < l.length := by
      by_cases h : i < l.length
      · exact h
      · rw [isP_ge (by omega)] at hb; cases hb
    rw [hb] at I hR
    obtain ⟨b, o, rfl, hbw, ht⟩ := hT.get (i := i) hlt
    have d1 : w.cell? ⟨b, o + i * 3 + 1, none⟩ = some (.string ⟨l[i].text.toArray⟩) := ht.text
    have hz : (i : Int) < (n : Int) := by omega
    have hi0 : (0 : Int) ≤ (i : Int) := by omega
    rw [List.drop_eq_getElem_cons hlt] at hR
    have hR2 : (decide (l[i].text = x)) = R := hR
    generalize l[i].text = y at *
    have HI := Lib.hid I
    have HF : Hid ((y == x) = R) := Lib.hid (by rw [← hR2, Bool.eq_iff_iff]; simp)
    clear I hR hR2 hb hT hn hlt ht
    by_cases hyx : y = x
    · subst hyx
      go_enter Try.func104, Try.ntmps104
      go_wp2_with fail
      refine HI.out.mono ?_
      rintro e w' ⟨rfl, rfl⟩
      go_wp2_with fail
      go_ret
      exact ⟨ret_bool (by rw [← HF.out]; simp), rfl⟩
    · have hne : (y == x) = false := by rw [beq_eq_false_iff_ne]; exact hyx
      have HG : Hid (false = R) := Lib.hid (by rw [← HF.out, hne])
      clear HF hyx
      go_enter Try.func104, Try.ntmps104
      go_wp2_with fail
      refine HI.out.mono ?_
      rintro e w' ⟨rfl, rfl⟩
      go_wp2_with fail
      go_ret
      exact ⟨ret_bool HG.out, rfl⟩
set_option maxRecDepth 100000 in
set_option maxHeartbeats 1000000 in
theorem refSkip7_any (a : Option Addr) (l : List Tok) (n cap i : Nat) (w : World) (hn : l.length = n) (hm : n ≤ 9000000) (hi : i ≤ 9000001) (hT : Tks w a l) :
    Calls Try.prog 86 #[.slice a n cap, .int .i64 i] w fun e w' => e = .returned (.int .i64 (skipN l i : Nat)) ∧ w' = w := by
  have HI := Lib.hid (fun (j : Nat) (hj : j ≤ 18000000) => refIs7_any a l n cap j 20 w hn hm hj hT)
  have HN := Lib.hid hn
  have HS : Hid (skipN l i = skipN l i) := Lib.hid rfl
  clear hT hn
  go_enter Try.func86, Try.ntmps86
  go_wp2_with fail
  go_loop [1] (fun vi => ∃ j : Nat, vi = .int .i64 (j : Int) ∧ j ≤ 9000001 + n ∧ Hid (skipN l i = skipN l j) ∧ (j ≤ n ∨ j = i)) (fun vi => n + 1 - (intOf vi).toNat)
  case atStart => exact ⟨i, rfl, by omega, Lib.hid rfl, Or.inr rfl⟩
  case round =>
    obtain ⟨j, rfl, hj, HP, hor⟩ := hrel
    have HOR := Lib.hid hor
    have HJ := Lib.hid (HI.out j (by omega))
    clear hor
    cases hb : isP l j 20 with
    | true =>
      have hjl : j < n := by
        by_cases h : j < l.length
        · have := HN.out; omega
        · rw [isP_ge (by omega)] at hb; cases hb
      have HF : Hid (skipN l i = skipN l (j + 1)) := Lib.hid (by rw [HP.out, skipN_yes hb])
      have HJ2 : Hid (Calls Try.prog 44 #[.slice a n cap, .int .i64 j, .int .i64 20] w fun e w' => e = .returned (.bool true) ∧ w' = w) := Lib.hid (by have := HJ.out; rw [hb] at this; exact this)
      clear HJ hb
      go_wp2_with fail
      refine HJ2.out.mono ?_
      rintro e w' ⟨rfl, rfl⟩
      go_wp2_with fail
      go_round
      case rel => exact ⟨j + 1, by go_num, by omega, HF, Or.inl (by omega)⟩
      case measure => simp [intOf]; omega
    | false =>
      have HF : Hid (skipN l i = j) := Lib.hid (by rw [HP.out, skipN_no hb])
      have HJ2 : Hid (Calls Try.prog 44 #[.slice a n cap, .int .i64 j, .int .i64 20] w fun e w' => e = .returned (.bool false) ∧ w' = w) := Lib.hid (by have := HJ.out; rw [hb] at this; exact this)
      clear HJ hb
      go_wp2_with fail
      refine HJ2.out.mono ?_
      rintro e w' ⟨rfl, rfl⟩
      go_wp2_with fail
      go_ret
      exact ⟨by rw [HF.out]; rfl, rfl⟩
end Go.Proofs.Ytoaenlbbochjhaa
