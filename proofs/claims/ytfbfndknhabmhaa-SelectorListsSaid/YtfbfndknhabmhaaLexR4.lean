/- The walks of layer 5's reference: numbers. -/
import Derived.Test.YtfbfndknhabmhaaLexRa
import Derived.Test.YtfbfndknhabmhaaLexPs
import Derived.Test.YtfbfndknhabmhaaFixWb
import Derived.Handy
namespace Go.Proofs.Ytfbfndknhabmhaa
open Go.RowKit TreN LexP FixP

set_option maxRecDepth 100000 in
set_option maxHeartbeats 2000000 in
theorem refMeasure_any (s : ByteArray) (a : Nat) (w : World) (hs : s.size ≤ 9223372036854775000) (ha : a < s.size) (n : Nat) (hn : numL (s.data.toList.drop a) = n) (h0 : 0 < n) (v : Int) (hv : worth ((s.data.toList.drop a).take n) = v) :
    Calls Try.prog 57 #[.string s, .int .i64 (a : Int), .int .i64 (n : Int)] w fun e w' => e = .returned (.tuple #[(meaL v n ((s.data.toList.drop a).drop n)).1.val, .int .i64 ((a + (meaL v n ((s.data.toList.drop a).drop n)).2 : Nat) : Int)]) ∧ Below w.heap.size w w' := by
  have hnl : n ≤ s.size - a := by
    have := numL_le (s.data.toList.drop a)
    rw [hn, List.length_drop, len_data] at this; exact this
  obtain ⟨E, hE⟩ : ∃ E, a + n = E := ⟨_, rfl⟩
  have hEs : E ≤ s.size := by omega
  have haE : a ≤ E := by omega
  have hes : (s.extract a E).size = n := by
    rw [← len_data, ext_list, List.length_take, List.length_drop, len_data]; omega
  have hext : (s.extract a E).data.toList = (s.data.toList.drop a).take n := by
    rw [ext_list]; congr 1; omega
  have C2 := fun W => Worth_any (s.extract a E) W (by omega) (by omega)
  rw [hext, hv] at C2
  have C4 := fun W => refStarts_at s (E : Int) E rfl hs hEs W
  have hdd : (s.data.toList.drop a).drop n = s.data.toList.drop E := by rw [List.drop_drop, hE]
  rw [hdd]
  obtain ⟨m, hm⟩ : ∃ m, ((s.data.toList.drop E).takeWhile gB).length = m := ⟨_, rfl⟩
  have hmm : E + m ≤ s.size := by
    have := tw_le gB (s.data.toList.drop E)
    rw [List.length_drop, len_data] at this; omega
  have C5 := fun W => refRun_at s (E : Int) E rfl hs hEs m hm W
  have hx := ext_tw s E gB (E + m) (by omega)
  have hEz : (a : Int) + (n : Int) = (E : Int) := by omega
  have HC2 := Lib.hid C2
  have HC5 := Lib.hid C5
  by_cases h37 : (s.data.toList.drop E).head? = some 37
  · have hlt : E < s.size := by
      by_cases q : E < s.size
      · exact q
      · rw [List.drop_of_length_le (by rw [len_data]; omega)] at h37; cases h37
    have hb : ((s[E].toNat : Int) == 37) = true := by
      rw [List.drop_eq_getElem_cons (by rw [len_data]; exact hlt)] at h37
      have e : s.data.toList[E]'(by rw [len_data]; exact hlt) = s[E] := by simp [ByteArray.getElem_eq_getElem_data]
      rw [e] at h37
      injection h37 with h37
      rw [h37]; rfl
    have hml : meaL v n (s.data.toList.drop E) = (⟨8, [], v⟩, n + 1) := by unfold meaL; rw [if_pos h37]
    rw [hml]
    have hltz : (E : Int) < (s.size : Int) := by omega
    clear C2 C4 C5 hx hml h37 hdd hn hv hE hes hext hm
    go_enter Try.func57, Try.ntmps57
    go_wp2_with fail
    refine (HC2.out _).mono ?_
    rintro e w' ⟨rfl, rfl⟩
    go_wp2_with fail
    refine bodyPost_ret (v := .tuple #[(⟨8, [], v⟩ : Tok).val, .int .i64 ((E : Int) + 1)]) (by simp [results, Try.results57, go_sem, LexP.Tok.val]) rfl ⟨?_, ?_⟩
    · rw [show ((a + (n + 1 : Nat) : Nat) : Int) = (E : Int) + 1 by omega]
    · go_grown
  · have hnp : (E < s.size ∧ ∃ hlt : E < s.size, ((s[E].toNat : Int) == 37) = false ∧ (E : Int) < (s.size : Int)) ∨ ¬ (E : Int) < (s.size : Int) := by
      by_cases hlt : E < s.size
      · left
        refine ⟨hlt, hlt, ?_, by omega⟩
        rw [List.drop_eq_getElem_cons (by rw [len_data]; exact hlt)] at h37
        have e : s.data.toList[E]'(by rw [len_data]; exact hlt) = s[E] := by simp [ByteArray.getElem_eq_getElem_data]
        rw [e] at h37
        rw [beq_eq_false_iff_ne]
        intro x
        exact h37 (by rw [show s[E] = 37 from UInt8.toNat_inj.1 (by show s[E].toNat = 37; omega)]; rfl)
      · right; omega
    cases hst : startsL (s.data.toList.drop E) with
    | false =>
      rw [hst] at C4
      have hml : meaL v n (s.data.toList.drop E) = (⟨7, [], v⟩, n) := by unfold meaL; rw [if_neg h37, hst]; rfl
      rw [hml]
      have HC4 := Lib.hid C4
      clear C2 C4 C5 hx hml h37 hdd hn hv hE hes hext hm hst
      rcases hnp with ⟨hlt0, hlt, hb, hltz⟩ | hltz
      all_goals
        go_enter Try.func57, Try.ntmps57
        go_wp2_with fail
        refine (HC2.out _).mono ?_
        rintro e w' ⟨rfl, rfl⟩
        go_wp2_with fail
        refine (HC4.out _).mono ?_
        rintro e w' ⟨rfl, rfl⟩
        go_wp2_with fail
        refine bodyPost_ret (v := .tuple #[(⟨7, [], v⟩ : Tok).val, .int .i64 ((E : Int))]) (by simp [results, Try.results57, go_sem, LexP.Tok.val]) rfl ⟨?_, ?_⟩
        · rw [show ((a + (n : Nat) : Nat) : Int) = (E : Int) by omega]
        · go_grown
    | true =>
      rw [hst] at C4
      obtain ⟨T, hT⟩ : ∃ T, (s.data.toList.drop E).takeWhile gB = T := ⟨_, rfl⟩
      rw [hT] at hx hm
      have hml : meaL v n (s.data.toList.drop E) = (⟨9, T, v⟩, n + T.length) := by unfold meaL; rw [if_neg h37, hst, hT]; rfl
      rw [hml, hm]
      have HC4 := Lib.hid C4
      have HX := Lib.hid hx
      have hEm : (E : Int) + (m : Int) = ((E + m : Nat) : Int) := by omega
      obtain ⟨M, hM⟩ : ∃ M, E + m = M := ⟨_, rfl⟩
      rw [hM] at hEm hmm HX
      have hEM : E ≤ M := by omega
      have haM : ((a + (n + m) : Nat) : Int) = (M : Int) := by omega
      have HAM := Lib.hid haM
      clear C2 C4 C5 hx hml h37 hdd hn hv hE hes hext hm hst hT hM haM
      rcases hnp with ⟨hlt0, hlt, hb, hltz⟩ | hltz
      all_goals
        go_enter Try.func57, Try.ntmps57
        go_wp2_with fail
        refine (HC2.out _).mono ?_
        rintro e w' ⟨rfl, rfl⟩
        go_wp2_with fail
        refine (HC4.out _).mono ?_
        rintro e w' ⟨rfl, rfl⟩
        go_wp2_with fail
        refine (HC5.out _).mono ?_
        rintro e w' ⟨rfl, rfl⟩
        go_wp2_with fail
        refine bodyPost_ret (v := .tuple #[(⟨9, T, v⟩ : Tok).val, .int .i64 (M : Int)]) (by simp [results, Try.results57, go_sem, LexP.Tok.val, HX.out]) rfl ⟨?_, ?_⟩
        · rw [HAM.out]
        · go_grown
end Go.Proofs.Ytfbfndknhabmhaa
