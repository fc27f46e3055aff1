/- Joined texts: LexW7 LexW8. -/
import Derived.Test.YtipmgoejdkpknaaLexWa
import Derived.Test.YtipmgoejdkpknaaLexPs
import Derived.Test.YtipmgoejdkpknaaMem
namespace Go.Proofs.Ytipmgoejdkpknaa
open Go.RowKit TreN LexP FixP

theorem PW_below (w : World) (st : Int × Int) : Below w.heap.size w (PW w st) := (((Below.refl _ _).alloc (Nat.le_refl _) _).alloc (by simp) _).alloc (by simp; omega) _
theorem ext_take (s : ByteArray) (a n : Nat) : (s.extract a (a + n)).data.toList = (s.data.toList.drop a).take n := by
  rw [ext_list]; congr 1; omega
theorem pct_iff (s : ByteArray) (E : Nat) : Lib.hasPrefix (s.extract E s.size).data.toList (ByteArray.mk #[37]).data.toList = decide ((s.data.toList.drop E).head? = some 37) := by
  rw [Lib.extract_to_end]; exact hasPrefix_1 _ _

set_option maxRecDepth 100000 in
set_option maxHeartbeats 2000000 in
theorem measure_any (s : ByteArray) (a : Nat) (w : World) (hs : s.size ≤ 9223372036854775807) (ha : a < s.size) (n : Nat) (hn : numL (s.data.toList.drop a) = n) (h0 : 0 < n) (v : Int) (hv : worth ((s.data.toList.drop a).take n) = v) :
    Calls Try.prog 43 #[.string s, .int .i64 (a : Int)] w fun e w' => e = .returned (.tuple #[(meaL v n ((s.data.toList.drop a).drop n)).1.val, .int .i64 ((a + (meaL v n ((s.data.toList.drop a).drop n)).2 : Nat) : Int)]) ∧ Below w.heap.size w w' := by
  have hnl : n ≤ s.size - a := by
    have := numL_le (s.data.toList.drop a)
    rw [hn, List.length_drop, len_data] at this; exact this
  have hnum : numAt s.data.toList a = n := by rw [← numAt_drop]; exact hn
  obtain ⟨E, hE⟩ : ∃ E, a + n = E := ⟨_, rfl⟩
  have hEs : E ≤ s.size := by omega
  have hpz : parse (s.extract a E).data.toList = (v, 0) := by
    rw [← hE, ext_take]
    have := parse_take (s.data.toList.drop a) (by omega)
    rw [hn, hv] at this; exact this
  have hxs : (s.extract a E).size ≤ 9223372036854775807 := by
    rw [← len_data, ← hE, ext_take, List.length_take, List.length_drop, len_data]; omega
  have C1 := fun W => number_any s a W hs ha
  rw [hnum, hE] at C1
  have C2 := fun W => Parse_any (s.extract a E) W hxs
  rw [hpz] at C2
  have C3 := fun W => (Try.strings_HasPrefix (s.extract E s.size) ⟨#[37]⟩ W)
  rw [pct_iff] at C3
  have C4 := fun W => beginsL_any s E W hEs
  have hdd : (s.data.toList.drop a).drop n = s.data.toList.drop E := by rw [List.drop_drop, hE]
  rw [hdd]
  obtain ⟨M, hM⟩ : ∃ M, E + ((s.data.toList.drop E).takeWhile gB).length = M := ⟨_, rfl⟩
  have hMs : M ≤ s.size := by
    have := tw_le gB (s.data.toList.drop E)
    rw [List.length_drop, len_data] at this; omega
  have hEM : E ≤ M := by omega
  have haE : a ≤ E := by omega
  have C5 := fun W => pass_name s (E : Int) E rfl hs hEs M hM W
  have hx := ext_tw s E gB M hM
  have HC1 := Lib.hid C1
  have HC2 := Lib.hid C2
  have HC5 := Lib.hid C5
  have HX := Lib.hid hx
  by_cases h37 : (s.data.toList.drop E).head? = some 37
  · rw [decide_eq_true h37] at C3
    have hm : meaL v n (s.data.toList.drop E) = (⟨8, [], v⟩, n + 1) := by unfold meaL; rw [if_pos h37]
    rw [hm]
    have HC3 := Lib.hid C3
    have hEn : ((a + (n + 1) : Nat) : Int) = (E : Int) + 1 := by omega
    have HEN := Lib.hid hEn
    have hlt : E < s.size := by
      by_cases q : E < s.size
      · exact q
      · rw [List.drop_of_length_le (by rw [len_data]; omega)] at h37; cases h37
    clear C1 C2 C3 C4 C5 hx hm h37 hdd hM hpz hnum hn hv hE hEn
    go_enter Try.func43, Try.ntmps43
    go_wp2_with fail
    refine (HC1.out _).mono ?_
    rintro e w' ⟨rfl, rfl⟩
    go_wp2_with fail
    refine (HC2.out _).mono ?_
    rintro e w' ⟨rfl, st, rfl⟩
    go_wp2_with fail
    refine (HC3.out _).mono ?_
    rintro e w' ⟨rfl, rfl⟩
    go_wp2_with fail
    refine bodyPost_ret (v := .tuple #[(⟨8, [], v⟩ : Tok).val, .int .i64 ((E : Int) + 1)]) (by simp [results, Try.results43, go_sem, LexP.Tok.val]) rfl ⟨?_, ?_⟩
    · rw [HEN.out]
    · go_grown
  · rw [decide_eq_false h37] at C3
    have HC3 := Lib.hid C3
    cases hst : startsL (s.data.toList.drop E) with
    | false =>
      rw [hst] at C4
      have hm : meaL v n (s.data.toList.drop E) = (⟨7, [], v⟩, n) := by unfold meaL; rw [if_neg h37, hst]; rfl
      rw [hm]
      have HC4 := Lib.hid C4
      have hEn : ((a + n : Nat) : Int) = (E : Int) := by omega
      have HEN := Lib.hid hEn
      clear C1 C2 C3 C4 C5 hx hm h37 hdd hM hpz hnum hn hv hE hEn hst
      go_enter Try.func43, Try.ntmps43
      go_wp2_with fail
      refine (HC1.out _).mono ?_
      rintro e w' ⟨rfl, rfl⟩
      go_wp2_with fail
      refine (HC2.out _).mono ?_
      rintro e w' ⟨rfl, st, rfl⟩
      go_wp2_with fail
      refine (HC3.out _).mono ?_
      rintro e w' ⟨rfl, rfl⟩
      go_wp2_with fail
      refine (HC4.out _).mono ?_
      rintro e w' ⟨rfl, rfl⟩
      go_wp2_with fail
      refine bodyPost_ret (v := .tuple #[(⟨7, [], v⟩ : Tok).val, .int .i64 (E : Int)]) (by simp [results, Try.results43, go_sem, LexP.Tok.val]) rfl ⟨?_, ?_⟩
      · rw [HEN.out]
      · go_grown
    | true =>
      rw [hst] at C4
      obtain ⟨T, hT⟩ : ∃ T, (s.data.toList.drop E).takeWhile gB = T := ⟨_, rfl⟩
      have hm : meaL v n (s.data.toList.drop E) = (⟨9, T, v⟩, n + T.length) := by unfold meaL; rw [if_neg h37, hst, hT]; rfl
      rw [hm]
      rw [hT] at hM HX
      have HC4 := Lib.hid C4
      have hEn : ((a + (n + T.length) : Nat) : Int) = (M : Int) := by omega
      have HEN := Lib.hid hEn
      clear C1 C2 C3 C4 C5 hx hm h37 hdd hM hpz hnum hn hv hE hEn hst hT
      go_enter Try.func43, Try.ntmps43
      go_wp2_with fail
      refine (HC1.out _).mono ?_
      rintro e w' ⟨rfl, rfl⟩
      go_wp2_with fail
      refine (HC2.out _).mono ?_
      rintro e w' ⟨rfl, st, rfl⟩
      go_wp2_with fail
      refine (HC3.out _).mono ?_
      rintro e w' ⟨rfl, rfl⟩
      go_wp2_with fail
      refine (HC4.out _).mono ?_
      rintro e w' ⟨rfl, rfl⟩
      go_wp2_with fail
      refine (HC5.out _).mono ?_
      rintro e w3 ⟨rfl, hb⟩
      have hbW : Below w.heap.size w w3 := Below.trans (by go_grown) (hb.mono (by simp; omega))
      have hblk : w3.heap[w.heap.size]? = some (.cells #[.int .i64 0, .string ⟨#[]⟩, .int .i64 0] 23 (0, 0)) := by
        rw [hb.block _ (by simp; omega), (PW_below (w.alloc (.cells #[.int .i64 0, .string ⟨#[]⟩, .int .i64 0] 23)) st).block w.heap.size (by simp)]
        exact heap_alloc_new w _
      obtain ⟨x1, x2, x3, ⟨p0, q0, r0⟩, ⟨p1, q1, r1⟩, ⟨p2, q2, r2⟩, h3⟩ := three_store w3 w.heap.size 23 _ _ _ (.int .i64 9) (.string (s.extract E M)) (.int .i64 v) hblk
      have hb3 := h3.below w.heap.size w (Nat.le_refl _) hbW
      have k0 := cell_of (k := 0) h3.here rfl
      have k1 := cell_of (k := 1) h3.here rfl
      have k2 := cell_of (k := 2) h3.here rfl
      have HB3 := Lib.hid hb3
      clear hb hbW hblk hb3 h3
      go_wp2_with fail
      refine bodyPost_ret (v := .tuple #[(⟨9, T, v⟩ : Tok).val, .int .i64 (M : Int)]) (by simp [results, Try.results43, go_sem, LexP.Tok.val, k0, k1, k2, HX.out]) rfl ⟨?_, ?_⟩
      · rw [HEN.out]
      · exact HB3.out
end Go.Proofs.Ytipmgoejdkpknaa

namespace Go.Proofs.Ytipmgoejdkpknaa
open Go.RowKit TreN LexP FixP

theorem sign_index (c : UInt8) : (signK c = 0 ∧ Lib.indexByte [58, 59, 44, 40, 41, 91, 93, 123, 125] c = -1) ∨ (∃ i : Nat, i ≤ 8 ∧ signK c = 10 + (i : Int) ∧ Lib.indexByte [58, 59, 44, 40, 41, 91, 93, 123, 125] c = (i : Int)) := by
  by_cases h1 : c = 58
  · subst h1; exact Or.inr ⟨0, by omega, by decide, by decide⟩
  by_cases h2 : c = 59
  · subst h2; exact Or.inr ⟨1, by omega, by decide, by decide⟩
  by_cases h3 : c = 44
  · subst h3; exact Or.inr ⟨2, by omega, by decide, by decide⟩
  by_cases h4 : c = 40
  · subst h4; exact Or.inr ⟨3, by omega, by decide, by decide⟩
  by_cases h5 : c = 41
  · subst h5; exact Or.inr ⟨4, by omega, by decide, by decide⟩
  by_cases h6 : c = 91
  · subst h6; exact Or.inr ⟨5, by omega, by decide, by decide⟩
  by_cases h7 : c = 93
  · subst h7; exact Or.inr ⟨6, by omega, by decide, by decide⟩
  by_cases h8 : c = 123
  · subst h8; exact Or.inr ⟨7, by omega, by decide, by decide⟩
  by_cases h9 : c = 125
  · subst h9; exact Or.inr ⟨8, by omega, by decide, by decide⟩
  left
  have e : ∀ d : UInt8, ¬ c = d → ¬ c.toNat = d.toNat ∧ (d == c) = false := fun d h => ⟨fun x => h (UInt8.toNat_inj.1 x), by rw [beq_eq_false_iff_ne]; exact fun x => h x.symm⟩
  have a1 : ¬ c.toNat = 58 := (e 58 h1).1
  have b1 := (e 58 h1).2
  have a2 : ¬ c.toNat = 59 := (e 59 h2).1
  have b2 := (e 59 h2).2
  have a3 : ¬ c.toNat = 44 := (e 44 h3).1
  have b3 := (e 44 h3).2
  have a4 : ¬ c.toNat = 40 := (e 40 h4).1
  have b4 := (e 40 h4).2
  have a5 : ¬ c.toNat = 41 := (e 41 h5).1
  have b5 := (e 41 h5).2
  have a6 : ¬ c.toNat = 91 := (e 91 h6).1
  have b6 := (e 91 h6).2
  have a7 : ¬ c.toNat = 93 := (e 93 h7).1
  have b7 := (e 93 h7).2
  have a8 : ¬ c.toNat = 123 := (e 123 h8).1
  have b8 := (e 123 h8).2
  have a9 : ¬ c.toNat = 125 := (e 125 h9).1
  have b9 := (e 125 h9).2
  constructor
  · unfold signK
    rw [if_neg a1, if_neg a2, if_neg a3, if_neg a4, if_neg a5, if_neg a6, if_neg a7, if_neg a8, if_neg a9]
  · simp [Lib.indexByte, b1, b2, b3, b4, b5, b6, b7, b8, b9]

set_option maxRecDepth 100000 in
set_option maxHeartbeats 1000000 in
theorem sign_token (c : UInt8) (w : World) :
    Calls Try.prog 44 #[.string ⟨#[c]⟩] w fun e w' => e = .returned (signT c).val ∧ Below w.heap.size w w' := by
  have C := fun W => Try.strings_Index_one ⟨#[58, 59, 44, 40, 41, 91, 93, 123, 125]⟩ c W
  rcases sign_index c with ⟨h1, h2⟩ | ⟨i, hi, h1, h2⟩
  · have ht : signT c = ⟨19, [c], 0⟩ := if_pos h1
    rw [ht]
    have C : ∀ W, Calls Try.prog 65 #[.string ⟨#[58, 59, 44, 40, 41, 91, 93, 123, 125]⟩, .string ⟨#[c]⟩] W fun e w' => e = .returned (.int .i64 (-1)) ∧ w' = W := by rw [← h2]; exact C
    have HC := Lib.hid C
    clear C h1 h2 ht
    go_enter Try.func44, Try.ntmps44
    go_wp2_with fail
    refine (HC.out _).mono ?_
    rintro e w' ⟨rfl, rfl⟩
    go_wp2_with fail
    refine bodyPost_ret (v := (⟨19, [c], 0⟩ : Tok).val) (by simp [results, Try.results44, go_sem, LexP.Tok.val]) rfl ⟨rfl, ?_⟩
    go_grown
  · have ht : signT c = ⟨10 + (i : Int), [], 0⟩ := by unfold signT; rw [if_neg (by omega), h1]
    rw [ht]
    have C : ∀ W, Calls Try.prog 65 #[.string ⟨#[58, 59, 44, 40, 41, 91, 93, 123, 125]⟩, .string ⟨#[c]⟩] W fun e w' => e = .returned (.int .i64 (i : Int)) ∧ w' = W := by rw [← h2]; exact C
    have HC := Lib.hid C
    clear C h1 h2 ht
    have h0 : (0 : Int) ≤ (i : Int) := by omega
    have h8 : (i : Int) ≤ 8 := by omega
    go_enter Try.func44, Try.ntmps44
    go_wp2_with fail
    refine (HC.out _).mono ?_
    rintro e w' ⟨rfl, rfl⟩
    go_wp2_with fail
    refine bodyPost_ret (v := (⟨10 + (i : Int), [], 0⟩ : Tok).val) (by simp [results, Try.results44, go_sem, LexP.Tok.val]) rfl ⟨rfl, ?_⟩
    go_grown
end Go.Proofs.Ytipmgoejdkpknaa
