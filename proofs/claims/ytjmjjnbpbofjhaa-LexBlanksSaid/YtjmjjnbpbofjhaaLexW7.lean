/- The walks of layer 5: numbers as tokens. -/
import Derived.Test.YtjmjjnbpbofjhaaLexW6
import Derived.Test.YtjmjjnbpbofjhaaLexPs
import Derived.Test.YtjmjjnbpbofjhaaMem
namespace Go.Proofs.Ytjmjjnbpbofjhaa
open Go.RowKit TreN LexP FixP

theorem PW_below (w : World) (st : Int × Int) : Below w.heap.size w (PW w st) := (((Below.refl _ _).alloc (Nat.le_refl _) _).alloc (by simp) _).alloc (by simp; omega) _
theorem ext_take (s : ByteArray) (a n : Nat) : (s.extract a (a + n)).data.toList = (s.data.toList.drop a).take n := by
  rw [ext_list]; congr 1; omega
theorem pct_iff (s : ByteArray) (E : Nat) : Lib.hasPrefix (s.extract E s.size).data.toList (ByteArray.mk #[37]).data.toList = decide ((s.data.toList.drop E).head? = some 37) := by
  rw [Lib.extract_to_end]; exact hasPrefix_1 _ _

set_option maxRecDepth 100000 in
set_option maxHeartbeats 2000000 in
theorem measure_any (s : ByteArray) (a : Nat) (w : World) (hs : s.size ≤ 9223372036854775807) (ha : a < s.size) (n : Nat) (hn : numL (s.data.toList.drop a) = n) (h0 : 0 < n) (v : Int) (hv : worth ((s.data.toList.drop a).take n) = v) :
    Calls Try.prog 87 #[.string s, .int .i64 (a : Int)] w fun e w' => e = .returned (.tuple #[(meaL v n ((s.data.toList.drop a).drop n)).1.val, .int .i64 ((a + (meaL v n ((s.data.toList.drop a).drop n)).2 : Nat) : Int)]) ∧ Below w.heap.size w w' := by
  have hnl : n ≤ s.size - a := by
    have := numL_le (s.data.toList.drop a)
    rw [hn, List.length_drop, len_data] at this; exact this
  have hnum : numAt s.data.toList a = n := by rw [← numAt_drop]; exact hn
  obtain ⟨E, hE⟩ : ∃ E, a + n = E := ⟨_, rfl⟩
  have hEs : E ≤ s.size := by omega
  have hpz : parse (s.extract a E).data.toList = (v, 0) := by
    rw [← hE, ext_take]
    have := parse_take (s.data.toList.drop a) (by omega)
    rw [hn, hv] at this; exact this
  have hxs : (s.extract a E).size ≤ 9223372036854775807 := by
    rw [← len_data, ← hE, ext_take, List.length_take, List.length_drop, len_data]; omega
  have C1 := fun W => number_any s a W hs ha
  rw [hnum, hE] at C1
  have C2 := fun W => Parse_any (s.extract a E) W hxs
  rw [hpz] at C2
  have C3 := fun W => (Try.strings_HasPrefix (s.extract E s.size) ⟨#[37]⟩ W)
  rw [pct_iff] at C3
  have C4 := fun W => beginsL_any s E W hEs
  have hdd : (s.data.toList.drop a).drop n = s.data.toList.drop E := by rw [List.drop_drop, hE]
  rw [hdd]
  obtain ⟨M, hM⟩ : ∃ M, E + ((s.data.toList.drop E).takeWhile gB).length = M := ⟨_, rfl⟩
  have hMs : M ≤ s.size := by
    have := tw_le gB (s.data.toList.drop E)
    rw [List.length_drop, len_data] at this; omega
  have hEM : E ≤ M := by omega
  have haE : a ≤ E := by omega
  have C5 := fun W => pass_name s (E : Int) E rfl hs hEs M hM W
  have hx := ext_tw s E gB M hM
  have HC1 := Lib.hid C1
  have HC2 := Lib.hid C2
  have HC5 := Lib.hid C5
  have HX := Lib.hid hx
  by_cases h37 : (s.data.toList.drop E).head? = some 37
  · rw [decide_eq_true h37] at C3
    have hm : meaL v n (s.data.toList.drop E) = (⟨8, [], v⟩, n + 1) := by unfold meaL; rw [if_pos h37]
    rw [hm]
    have HC3 := Lib.hid C3
    have hEn : ((a + (n + 1) : Nat) : Int) = (E : Int) + 1 := by omega
    have HEN := Lib.hid hEn
    have hlt : E < s.size := by
      by_cases q : E < s.size
      · exact q
      · rw [List.drop_of_length_le (by rw [len_data]; omega)] at h37; cases h37
    clear C1 C2 C3 C4 C5 hx hm h37 hdd hM hpz hnum hn hv hE hEn
    go_enter Try.func87, Try.ntmps87
    go_wp2_with fail
    refine (HC1.out _).mono ?_
    rintro e w' ⟨rfl, rfl⟩
    go_wp2_with fail
    refine (HC2.out _).mono ?_
    rintro e w' ⟨rfl, st, rfl⟩
    go_wp2_with fail
    refine (HC3.out _).mono ?_
    rintro e w' ⟨rfl, rfl⟩
    go_wp2_with fail
    refine bodyPost_ret (v := .tuple #[(⟨8, [], v⟩ : Tok).val, .int .i64 ((E : Int) + 1)]) (by simp [results, Try.results87, go_sem, LexP.Tok.val]) rfl ⟨?_, ?_⟩
    · rw [HEN.out]
    · go_grown
  · rw [decide_eq_false h37] at C3
    have HC3 := Lib.hid C3
    cases hst : startsL (s.data.toList.drop E) with
    | false =>
      rw [hst] at C4
      have hm : meaL v n (s.data.toList.drop E) = (⟨7, [], v⟩, n) := by unfold meaL; rw [if_neg h37, hst]; rfl
      rw [hm]
      have HC4 := Lib.hid C4
      have hEn : ((a + n : Nat) : Int) = (E : Int) := by omega
      have HEN := Lib.hid hEn
      clear C1 C2 C3 C4 C5 hx hm h37 hdd hM hpz hnum hn hv hE hEn hst
      go_enter Try.func87, Try.ntmps87
      go_wp2_with fail
      refine (HC1.out _).mono ?_
      rintro e w' ⟨rfl, rfl⟩
      go_wp2_with fail
      refine (HC2.out _).mono ?_
      rintro e w' ⟨rfl, st, rfl⟩
      go_wp2_with fail
      refine (HC3.out _).mono ?_
      rintro e w' ⟨rfl, rfl⟩
      go_wp2_with fail
      refine (HC4.out _).mono ?_
      rintro e w' ⟨rfl, rfl⟩
      go_wp2_with fail
      refine bodyPost_ret (v := .tuple #[(⟨7, [], v⟩ : Tok).val, .int .i64 (E : Int)]) (by simp [results, Try.results87, go_sem, LexP.Tok.val]) rfl ⟨?_, ?_⟩
      · rw [HEN.out]
      · go_grown
    | true =>
      rw [hst] at C4
      obtain ⟨T, hT⟩ : ∃ T, (s.data.toList.drop E).takeWhile gB = T := ⟨_, rfl⟩
      have hm : meaL v n (s.data.toList.drop E) = (⟨9, T, v⟩, n + T.length) := by unfold meaL; rw [if_neg h37, hst, hT]; rfl
      rw [hm]
      rw [hT] at hM HX
      have HC4 := Lib.hid C4
      have hEn : ((a + (n + T.length) : Nat) : Int) = (M : Int) := by omega
      have HEN := Lib.hid hEn
      clear C1 C2 C3 C4 C5 hx hm h37 hdd hM hpz hnum hn hv hE hEn hst hT
      go_enter Try.func87, Try.ntmps87
      go_wp2_with fail
      refine (HC1.out _).mono ?_
      rintro e w' ⟨rfl, rfl⟩
      go_wp2_with fail
      refine (HC2.out _).mono ?_
      rintro e w' ⟨rfl, st, rfl⟩
      go_wp2_with fail
      refine (HC3.out _).mono ?_
      rintro e w' ⟨rfl, rfl⟩
      go_wp2_with fail
      refine (HC4.out _).mono ?_
      rintro e w' ⟨rfl, rfl⟩
      go_wp2_with fail
      refine (HC5.out _).mono ?_
      rintro e w3 ⟨rfl, hb⟩
      have hbW : Below w.heap.size w w3 := Below.trans (by go_grown) (hb.mono (by simp; omega))
      have hblk : w3.heap[w.heap.size]? = some (.cells #[.int .i64 0, .string ⟨#[]⟩, .int .i64 0] 47 (0, 0)) := by
        rw [hb.block _ (by simp; omega), (PW_below (w.alloc (.cells #[.int .i64 0, .string ⟨#[]⟩, .int .i64 0] 47)) st).block w.heap.size (by simp)]
        exact heap_alloc_new w _
      obtain ⟨x1, x2, x3, ⟨p0, q0, r0⟩, ⟨p1, q1, r1⟩, ⟨p2, q2, r2⟩, h3⟩ := three_store w3 w.heap.size 47 _ _ _ (.int .i64 9) (.string (s.extract E M)) (.int .i64 v) hblk
      have hb3 := h3.below w.heap.size w (Nat.le_refl _) hbW
      have k0 := cell_of (k := 0) h3.here rfl
      have k1 := cell_of (k := 1) h3.here rfl
      have k2 := cell_of (k := 2) h3.here rfl
      have HB3 := Lib.hid hb3
      clear hb hbW hblk hb3 h3
      go_wp2_with fail
      refine bodyPost_ret (v := .tuple #[(⟨9, T, v⟩ : Tok).val, .int .i64 (M : Int)]) (by simp [results, Try.results87, go_sem, LexP.Tok.val, k0, k1, k2, HX.out]) rfl ⟨?_, ?_⟩
      · rw [HEN.out]
      · exact HB3.out
end Go.Proofs.Ytjmjjnbpbofjhaa
