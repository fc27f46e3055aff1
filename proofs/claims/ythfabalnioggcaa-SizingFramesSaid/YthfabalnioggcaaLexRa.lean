/- Joined texts: LexR1 LexR2 LexR3. -/
import Derived.Test.YthfabalnioggcaaLexWa
import Derived.Test.YthfabalnioggcaaLexPs
import Derived.Test.YthfabalnioggcaaMem
namespace Go.Proofs.Ythfabalnioggcaa
open Go.RowKit TreN LexP FixP

theorem piece_eq (s sub : ByteArray) (a : Nat) (h : a + sub.size ≤ s.size) : ((s.extract a (a + sub.size)).toList == sub.toList) = Lib.hasPrefix (s.data.toList.drop a) sub.data.toList := (Lib.occ_of_piece s sub a h).symm
theorem piece_no (l : List UInt8) (m : List UInt8) (h : l.length < m.length) : Lib.hasPrefix l m = false := by
  cases hp : Lib.hasPrefix l m with
  | false => rfl
  | true =>
    have := List.IsPrefix.length_le (List.isPrefixOf_iff_prefix.1 hp)
    omega

theorem endC_hit (l : List UInt8) (h : Lib.hasPrefix l [42, 47] = true) : endC l = 2 := by
  match l, h with
  | [], h => cases h
  | [a], h => simp [Lib.hasPrefix, List.isPrefixOf] at h
  | a :: b :: r, h =>
    simp only [Lib.hasPrefix, List.isPrefixOf, Bool.and_eq_true, beq_iff_eq] at h
    show (if a.toNat = 42 ∧ b.toNat = 47 then 2 else endC (b :: r) + 1) = 2
    rw [if_pos ⟨by rw [← h.1]; rfl, by rw [← h.2.1]; rfl⟩]
theorem endC_miss (c : UInt8) (r : List UInt8) (h : Lib.hasPrefix (c :: r) [42, 47] = false) : endC (c :: r) = endC r + 1 := by
  cases r with
  | nil => rfl
  | cons b r =>
    show (if c.toNat = 42 ∧ b.toNat = 47 then 2 else endC (b :: r) + 1) = _
    rw [if_neg]
    rintro ⟨h1, h2⟩
    have e1 : c = 42 := UInt8.toNat_inj.1 h1
    have e2 : b = 47 := UInt8.toNat_inj.1 h2
    subst e1; subst e2
    simp [Lib.hasPrefix, List.isPrefixOf] at h

theorem bt_at (s : ByteArray) (a : Nat) (h : a < s.size) : lB s[a] = letB (s[a].toNat : Int) := rfl
set_option maxRecDepth 100000 in
set_option maxHeartbeats 1000000 in
theorem refStarts_at (s : ByteArray) (ai : Int) (a : Nat) (he : ai = a) (hs : s.size ≤ 9223372036854775000) (ha : a ≤ s.size) (w : World) :
    Calls Try.prog 91 #[.string s, .int .i64 ai] w fun e w' => e = .returned (.bool (startsL (s.data.toList.drop a))) ∧ w = w' := by
  subst he
  by_cases h0 : a < s.size
  · have h0z : ¬ (s.size : Int) ≤ (a : Int) := by omega
    have hd : s.data.toList.drop a = s[a] :: s.data.toList.drop (a + 1) := by
      rw [List.drop_eq_getElem_cons (by rw [len_data]; exact h0)]
      simp [ByteArray.getElem_eq_getElem_data]
    by_cases h45 : s[a].toNat = 45
    · have hb : ((s[a].toNat : Int) == 45) = true := by rw [beq_iff_eq]; omega
      by_cases h1 : a + 1 < s.size
      · have h1z : (a : Int) + 1 < (s.size : Int) := by omega
        have hd2 : s.data.toList.drop (a + 1) = s[a + 1] :: s.data.toList.drop (a + 1 + 1) := by
          rw [List.drop_eq_getElem_cons (by rw [len_data]; exact h1)]
          simp [ByteArray.getElem_eq_getElem_data]
        have hv : startsL (s.data.toList.drop a) = (lB s[a + 1] || decide (s[a + 1].toNat = 45)) := by
          rw [hd, hd2]
          show (if s[a].toNat = 45 then _ else _) = _
          rw [if_pos h45]
        rw [hv]
        clear hv hd hd2 h45
        have CL := refBegins_any (s[a + 1].toNat : Int) w
        rw [← bt_at s (a + 1) h1] at CL
        cases hl : lB s[a + 1] with
        | true =>
          rw [hl] at CL
          have HCL := Lib.hid CL
          clear CL hl
          go_enter Try.func91, Try.ntmps91
          go_wp2_with (go_at_call 93; refine HCL.out.mono ?_; rintro e w' ⟨rfl, rfl⟩)
          go_ret
          exact ⟨rfl, rfl⟩
        | false =>
          rw [hl] at CL
          have HCL := Lib.hid CL
          clear CL hl
          have hbb : ((s[a + 1].toNat : Int) == 45) = decide (s[a + 1].toNat = 45) := by rw [Bool.eq_iff_iff]; simp; omega
          have HBB := Lib.hid hbb
          clear hbb
          go_enter Try.func91, Try.ntmps91
          go_wp2_with (go_at_call 93; refine HCL.out.mono ?_; rintro e w' ⟨rfl, rfl⟩)
          go_ret
          exact ⟨ret_bool (by rw [HBB.out]; simp), rfl⟩
      · have h1z : ¬ (a : Int) + 1 < (s.size : Int) := by omega
        have hv : startsL (s.data.toList.drop a) = false := by
          rw [hd, List.drop_of_length_le (by rw [len_data]; omega)]
          show (decide (s[a].toNat ≠ 45) && _) = _
          rw [decide_eq_false (by simpa using h45)]; rfl
        rw [hv]
        clear hv hd h45
        go_enter Try.func91, Try.ntmps91
        go_wp2_with fail
        go_ret
        exact ⟨rfl, rfl⟩
    · have hb : ((s[a].toNat : Int) == 45) = false := by rw [beq_eq_false_iff_ne]; omega
      have hv : startsL (s.data.toList.drop a) = lB s[a] := by
        rw [hd]
        generalize s.data.toList.drop (a + 1) = r
        cases r with
        | nil =>
          show (decide (s[a].toNat ≠ 45) && _) = _
          rw [decide_eq_true h45]; rfl
        | cons x r =>
          show (if s[a].toNat = 45 then _ else _) = _
          rw [if_neg h45]
      rw [hv]
      have CL := refBegins_any (s[a].toNat : Int) w
      rw [← bt_at s a h0] at CL
      have HCL := Lib.hid CL
      clear hv hd h45 CL
      go_enter Try.func91, Try.ntmps91
      go_wp2_with (go_at_call 93; refine HCL.out.mono ?_; rintro e w' ⟨rfl, rfl⟩)
      go_ret
      exact ⟨rfl, rfl⟩
  · have h0z : (s.size : Int) ≤ (a : Int) := by omega
    rw [List.drop_of_length_le (by rw [len_data]; omega)]
    go_enter Try.func91, Try.ntmps91
    go_wp2_with fail
    go_ret
    exact ⟨rfl, rfl⟩

set_option maxRecDepth 100000 in
set_option maxHeartbeats 1000000 in
theorem refRun_at (s : ByteArray) (ai : Int) (a : Nat) (he : ai = a) (hs : s.size ≤ 9223372036854775000) (ha : a ≤ s.size) (E : Nat) (hE : ((s.data.toList.drop a).takeWhile gB).length = E) (w : World) :
    Calls Try.prog 92 #[.string s, .int .i64 ai] w fun e w' => e = .returned (.int .i64 (E : Int)) ∧ w = w' := by
  subst he; subst hE
  go_enter Try.func92, Try.ntmps92
  go_wp2_with fail
  go_loop [1, 5] (fun i n => ∃ k : Nat, a + k ≤ s.size ∧ i = .int .i64 ((a + k : Nat) : Int) ∧ n = .int .i64 (k : Int) ∧ Hid (∀ j, j < k → ∀ hj : a + j < s.size, gB s[a + j] = true)) (fun i _ => s.size - (intOf i).toNat)
  case atStart => exact ⟨0, by omega, rfl, rfl, fun j hj => by omega⟩
  case round =>
    obtain ⟨k, hk, rfl, rfl, HJ⟩ := hrel
    by_cases hlt : a + k < s.size
    · have hltz : ((a + k : Nat) : Int) < (s.size : Int) := by omega
      have CB : Calls Try.prog 94 #[.int .u8 (s[a + k].toNat : Int)] w fun e w' => e = .returned (.bool (gB s[a + k])) ∧ w = w' := refGoes_any (s[a + k].toNat : Int) w
      cases hp : gB s[a + k] with
      | true =>
        rw [hp] at CB
        have HP := Lib.hid hp
        have HCB := Lib.hid CB
        clear hp CB
        go_wp2_with fail
        refine (HCB.out).mono ?_
        rintro e w' ⟨rfl, rfl⟩
        go_wp2_with fail
        go_round
        case rel =>
          refine ⟨k + 1, by omega, by go_num, by go_num, fun j hj hjj => ?_⟩
          by_cases c : j = k
          · subst c; exact HP.out
          · exact HJ.out j (by omega) hjj
        case measure => simp [intOf]; omega
      | false =>
        rw [hp] at CB
        have HP := Lib.hid hp
        have HCB := Lib.hid CB
        clear hp CB
        go_wp2_with fail
        refine (HCB.out).mono ?_
        rintro e w' ⟨rfl, rfl⟩
        go_wp2_with fail
        go_ret
        exact ⟨ret_int (by have := tw_take (k := k) hk HJ.out (Or.inr ⟨hlt, HP.out⟩); omega), rfl⟩
    · have hle : a + k = s.size := by omega
      have HE := Lib.hid hle
      clear hle
      have hltz : ¬ ((a + k : Nat) : Int) < (s.size : Int) := by omega
      go_wp2_with fail
      go_ret
      exact ⟨ret_int (by have := tw_take (k := k) hk HJ.out (Or.inl HE.out); omega), rfl⟩
end Go.Proofs.Ythfabalnioggcaa

namespace Go.Proofs.Ythfabalnioggcaa
open Go.RowKit TreN LexP FixP

def sgs : ByteArray := ⟨#[58, 59, 44, 40, 41, 91, 93, 123, 125]⟩
theorem signK_hit (c : UInt8) (k : Nat) (hk : k < 9) (h : sgs[k]'hk = c) : signK c = 10 + (k : Int) := by
  have hk' : k = 0 ∨ k = 1 ∨ k = 2 ∨ k = 3 ∨ k = 4 ∨ k = 5 ∨ k = 6 ∨ k = 7 ∨ k = 8 := by omega
  subst h
  rcases hk' with rfl | rfl | rfl | rfl | rfl | rfl | rfl | rfl | rfl <;> (revert hk; decide)
theorem signK_miss (c : UInt8) (h : ∀ j (hj : j < 9), ¬ sgs[j]'hj = c) : signK c = 0 := by
  have e : ∀ j (hj : j < 9) (n : Nat), (sgs[j]'hj).toNat = n → ¬ c.toNat = n := fun j hj n hn x => h j hj (UInt8.toNat_inj.1 (by rw [hn, x]))
  unfold signK
  rw [if_neg (e 0 (by omega) 58 rfl), if_neg (e 1 (by omega) 59 rfl), if_neg (e 2 (by omega) 44 rfl), if_neg (e 3 (by omega) 40 rfl), if_neg (e 4 (by omega) 41 rfl), if_neg (e 5 (by omega) 91 rfl), if_neg (e 6 (by omega) 93 rfl), if_neg (e 7 (by omega) 123 rfl), if_neg (e 8 (by omega) 125 rfl)]

theorem inQ_yes {q c : UInt8} (h : inQ q c = true) : ((c.toNat : Int) != (q.toNat : Int)) = true ∧ ((c.toNat : Int) != 10) = true := by
  unfold inQ at h
  simp at h
  constructor
  · rw [bne_iff_ne]; intro x; exact h.1 (UInt8.toNat_inj.1 (by omega))
  · rw [bne_iff_ne]; intro x; exact h.2 (UInt8.toNat_inj.1 (by show c.toNat = 10; omega))
theorem inQ_no {q c : UInt8} (h : inQ q c = false) : ((c.toNat : Int) != (q.toNat : Int)) = false ∨ (((c.toNat : Int) != (q.toNat : Int)) = true ∧ ((c.toNat : Int) != 10) = false) := by
  by_cases e : c = q
  · left; rw [e]; simp
  · right
    have h2 : c = 10 := by
      unfold inQ at h
      simp at h
      exact h e
    constructor
    · rw [bne_iff_ne]; intro x; exact e (UInt8.toNat_inj.1 (by omega))
    · rw [h2]; rfl

/-- where the end of a quoted text is looked for -/
def QuoRel (s : ByteArray) (a : Nat) (w : World) (i : Value) (wr : World) : Prop :=
  ∃ k q : Nat, a + 1 + k ≤ s.size ∧ i = .int .i64 ((a + 1 + k : Nat) : Int) ∧ wr = w.drewN q ∧ Hid (∀ j, j < k → ∀ h : a + 1 + j < s.size, inQ (s.data.toList.getD a 0) s[a + 1 + j] = true)
theorem drewN_size (w : World) (q : Nat) : (w.drewN q).heap.size = w.heap.size := rfl
theorem drewN_heap (w : World) (q : Nat) : (w.drewN q).heap = w.heap := rfl
theorem below_dN (B : Nat) (w : World) (q : Nat) : Below B w (w.drewN q) := ⟨rfl, rfl, rfl, Nat.le_refl _, fun _ _ => rfl⟩
end Go.Proofs.Ythfabalnioggcaa

namespace Go.Proofs.Ythfabalnioggcaa
open Go.RowKit TreN LexP FixP

/-- how the reference ends at a quoted text's end E -/
def QuoEnd (s : ByteArray) (a E : Nat) (T : List UInt8) (X : Tok × Nat) : Prop :=
  s.extract (a + 1) E = ⟨T.toArray⟩ ∧ a + 1 ≤ E ∧ ((E = s.size ∧ X = (⟨5, T, 0⟩, E - a)) ∨ (∃ h : E < s.size, s[E].toNat = 10 ∧ X = (⟨6, T, 0⟩, E - a)) ∨ (∃ h : E < s.size, ¬ s[E].toNat = 10 ∧ X = (⟨5, T, 0⟩, E + 1 - a)))
theorem quo_end (s : ByteArray) (a k : Nat) (ha : a < s.size) (hk : a + 1 + k ≤ s.size) (h : ∀ j, j < k → ∀ hj : a + 1 + j < s.size, inQ s[a] s[a + 1 + j] = true) (he : a + 1 + k = s.size ∨ ∃ hj : a + 1 + k < s.size, inQ s[a] s[a + 1 + k] = false) :
    ∃ T, QuoEnd s a (a + 1 + k) T (quoL s[a] (s.data.toList.drop (a + 1))) := by
  have hE : a + 1 + ((s.data.toList.drop (a + 1)).takeWhile (inQ s[a])).length = a + 1 + k := by
    rw [tw_take (p := inQ s[a]) (a := a + 1) (k := k) hk h he]
  exact ⟨_, ext_tw s (a + 1) (inQ s[a]) _ hE, by omega, quo_ways s a _ s[a] hE ha⟩

end Go.Proofs.Ythfabalnioggcaa
