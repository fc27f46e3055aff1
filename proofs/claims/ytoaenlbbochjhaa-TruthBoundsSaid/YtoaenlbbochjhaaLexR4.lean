/- Joined texts: LexR4 LexR5. -/
import Derived.Test.YtoaenlbbochjhaaLexRa
import Derived.Test.YtoaenlbbochjhaaLexPs
import Derived.Test.YtoaenlbbochjhaaFixWb
import Derived.Handy
namespace Go.Proofs.Ytoaenlbbochjhaa
open Go.RowKit TreN LexP FixP

set_option maxRecDepth 100000 in
set_option maxHeartbeats 2000000 in
theorem refMeasure_any (s : ByteArray) (a : Nat) (w : World) (hs : s.size ≤ 9223372036854775000) (ha : a < s.size) (n : Nat) (hn : numL (s.data.toList.drop a) = n) (h0 : 0 < n) (v : Int) (hv : worth ((s.data.toList.drop a).take n) = v) :
    Calls Try.prog 70 #[.string s, .int .i64 (a : Int), .int .i64 (n : Int)] w fun e w' => e = .returned (.tuple #[(meaL v n ((s.data.toList.drop a).drop n)).1.val, .int .i64 ((a + (meaL v n ((s.data.toList.drop a).drop n)).2 : Nat) : Int)]) ∧ Below w.heap.size w w' := by
  have hnl : n ≤ s.size - a := by
    have := numL_le (s.data.toList.drop a)
    rw [hn, List.length_drop, len_data] at this; exact this
  obtain ⟨E, hE⟩ : ∃ E, a + n = E := ⟨_, rfl⟩
  have hEs : E ≤ s.size := by omega
  have haE : a ≤ E := by omega
  have hes : (s.extract a E).size = n := by
    rw [← len_data, ext_list, List.length_take, List.length_drop, len_data]; omega
  have hext : (s.extract a E).data.toList = (s.data.toList.drop a).take n := by
    rw [ext_list]; congr 1; omega
  have C2 := fun W => Worth_any (s.extract a E) W (by omega) (by omega)
  rw [hext, hv] at C2
  have C4 := fun W => refStarts_at s (E : Int) E rfl hs hEs W
  have hdd : (s.data.toList.drop a).drop n = s.data.toList.drop E := by rw [List.drop_drop, hE]
  rw [hdd]
  obtain ⟨m, hm⟩ : ∃ m, ((s.data.toList.drop E).takeWhile gB).length = m := ⟨_, rfl⟩
  have hmm : E + m ≤ s.size := by
    have := tw_le gB (s.data.toList.drop E)
    rw [List.length_drop, len_data] at this; omega
  have C5 := fun W => refRun_at s (E : Int) E rfl hs hEs m hm W
  have hx := ext_tw s E gB (E + m) (by omega)
  have hEz : (a : Int) + (n : Int) = (E : Int) := by omega
  have HC2 := Lib.hid C2
  have HC5 := Lib.hid C5
  by_cases h37 : (s.data.toList.drop E).head? = some 37
  · have hlt : E < s.size := by
      by_cases q : E < s.size
      · exact q
      · rw [List.drop_of_length_le (by rw [len_data]; omega)] at h37; cases h37
    have hb : ((s[E].toNat : Int) == 37) = true := by
      rw [List.drop_eq_getElem_cons (by rw [len_data]; exact hlt)] at h37
      have e : s.data.toList[E]'(by rw [len_data]; exact hlt) = s[E] := by simp [ByteArray.getElem_eq_getElem_data]
      rw [e] at h37
      injection h37 with h37
      rw [h37]; rfl
    have hml : meaL v n (s.data.toList.drop E) = (⟨8, [], v⟩, n + 1) := by unfold meaL; rw [if_pos h37]
    rw [hml]
    have hltz : (E : Int) < (s.size : Int) := by omega
    clear C2 C4 C5 hx hml h37 hdd hn hv hE hes hext hm
    go_enter Try.func70, Try.ntmps70
    go_wp2_with fail
    refine (HC2.out _).mono ?_
    rintro e w' ⟨rfl, rfl⟩
    go_wp2_with fail
    refine bodyPost_ret (v := .tuple #[(⟨8, [], v⟩ : Tok).val, .int .i64 ((E : Int) + 1)]) (by simp [results, Try.results70, go_sem, LexP.Tok.val]) rfl ⟨?_, ?_⟩
    · rw [show ((a + (n + 1 : Nat) : Nat) : Int) = (E : Int) + 1 by omega]
    · go_grown
  · have hnp : (E < s.size ∧ ∃ hlt : E < s.size, ((s[E].toNat : Int) == 37) = false ∧ (E : Int) < (s.size : Int)) ∨ ¬ (E : Int) < (s.size : Int) := by
      by_cases hlt : E < s.size
      · left
        refine ⟨hlt, hlt, ?_, by omega⟩
        rw [List.drop_eq_getElem_cons (by rw [len_data]; exact hlt)] at h37
        have e : s.data.toList[E]'(by rw [len_data]; exact hlt) = s[E] := by simp [ByteArray.getElem_eq_getElem_data]
        rw [e] at h37
        rw [beq_eq_false_iff_ne]
        intro x
        exact h37 (by rw [show s[E] = 37 from UInt8.toNat_inj.1 (by show s[E].toNat = 37; omega)]; rfl)
      · right; omega
    cases hst : startsL (s.data.toList.drop E) with
    | false =>
      rw [hst] at C4
      have hml : meaL v n (s.data.toList.drop E) = (⟨7, [], v⟩, n) := by unfold meaL; rw [if_neg h37, hst]; rfl
      rw [hml]
      have HC4 := Lib.hid C4
      clear C2 C4 C5 hx hml h37 hdd hn hv hE hes hext hm hst
      rcases hnp with ⟨hlt0, hlt, hb, hltz⟩ | hltz
      all_goals
        go_enter Try.func70, Try.ntmps70
        go_wp2_with fail
        refine (HC2.out _).mono ?_
        rintro e w' ⟨rfl, rfl⟩
        go_wp2_with fail
        refine (HC4.out _).mono ?_
        rintro e w' ⟨rfl, rfl⟩
        go_wp2_with fail
        refine bodyPost_ret (v := .tuple #[(⟨7, [], v⟩ : Tok).val, .int .i64 ((E : Int))]) (by simp [results, Try.results70, go_sem, LexP.Tok.val]) rfl ⟨?_, ?_⟩
        · rw [show ((a + (n : Nat) : Nat) : Int) = (E : Int) by omega]
        · go_grown
    | true =>
      rw [hst] at C4
      obtain ⟨T, hT⟩ : ∃ T, (s.data.toList.drop E).takeWhile gB = T := ⟨_, rfl⟩
      rw [hT] at hx hm
      have hml : meaL v n (s.data.toList.drop E) = (⟨9, T, v⟩, n + T.length) := by unfold meaL; rw [if_neg h37, hst, hT]; rfl
      rw [hml, hm]
      have HC4 := Lib.hid C4
      have HX := Lib.hid hx
      have hEm : (E : Int) + (m : Int) = ((E + m : Nat) : Int) := by omega
      obtain ⟨M, hM⟩ : ∃ M, E + m = M := ⟨_, rfl⟩
      rw [hM] at hEm hmm HX
      have hEM : E ≤ M := by omega
      have haM : ((a + (n + m) : Nat) : Int) = (M : Int) := by omega
      have HAM := Lib.hid haM
      clear C2 C4 C5 hx hml h37 hdd hn hv hE hes hext hm hst hT hM haM
      rcases hnp with ⟨hlt0, hlt, hb, hltz⟩ | hltz
      all_goals
        go_enter Try.func70, Try.ntmps70
        go_wp2_with fail
        refine (HC2.out _).mono ?_
        rintro e w' ⟨rfl, rfl⟩
        go_wp2_with fail
        refine (HC4.out _).mono ?_
        rintro e w' ⟨rfl, rfl⟩
        go_wp2_with fail
        refine (HC5.out _).mono ?_
        rintro e w' ⟨rfl, rfl⟩
        go_wp2_with fail
        refine bodyPost_ret (v := .tuple #[(⟨9, T, v⟩ : Tok).val, .int .i64 (M : Int)]) (by simp [results, Try.results70, go_sem, LexP.Tok.val, HX.out]) rfl ⟨?_, ?_⟩
        · rw [HAM.out]
        · go_grown
end Go.Proofs.Ytoaenlbbochjhaa

namespace Go.Proofs.Ytoaenlbbochjhaa
open Go.RowKit TreN LexP FixP

theorem drop_consR (s : ByteArray) (p : Nat) (h : p < s.size) : s.data.toList.drop p = s[p] :: s.data.toList.drop (p + 1) := by
  rw [List.drop_eq_getElem_cons (by rw [len_data]; exact h)]
  simp [ByteArray.getElem_eq_getElem_data]
theorem com_iffR (s : ByteArray) (p : Nat) (h : p < s.size) : Lib.hasPrefix (s.data.toList.drop p) [47, 42] = decide (s[p].toNat = 47 ∧ (s.data.toList.drop (p + 1)).head? = some 42) := by
  rw [hasPrefix_2, drop_consR s p h, decide_eq_decide]
  constructor
  · rintro ⟨h1, h2⟩
    injection h1 with h1
    exact ⟨by rw [h1]; rfl, h2⟩
  · rintro ⟨h1, h2⟩
    exact ⟨by rw [show s[p] = 47 from UInt8.toNat_inj.1 h1]; rfl, h2⟩

theorem ret_tok {t : Value} {a b : Int} (h : a = b) : Ending.returned (.tuple #[t, .int .i64 a]) = .returned (.tuple #[t, .int .i64 b]) := by rw [h]
/-- what One answers -/
def OneTold (s : ByteArray) (p : Nat) (w : World) : Prop :=
  Calls Try.prog 46 #[.string s, .int .i64 (p : Int)] w fun e w' => e = .returned (.tuple #[((one (s.data.toList.drop p)).1.getD ⟨0, [], 0⟩).val, .int .i64 ((p + (one (s.data.toList.drop p)).2 : Nat) : Int)]) ∧ Below w.heap.size w w'

set_option maxRecDepth 100000 in
set_option maxHeartbeats 400000 in
theorem refOne_com (s : ByteArray) (p : Nat) (w : World) (hs : s.size ≤ 40000) (hlt : p < s.size) (hc : s[p].toNat = 47 ∧ (s.data.toList.drop (p + 1)).head? = some 42) : OneTold s p w := by
  have hd := drop_consR s p hlt
  have CP := fun W => refHas_2 s p (by omega) (by omega) W 47 42
  rw [com_iffR s p hlt] at CP
  have CBL := fun W => refBlank_any (s[p].toNat : Int) W
  rw [blI_eq] at CBL
  unfold OneTold
  rw [decide_eq_true hc] at CP
  have h2 : p + 2 ≤ s.size := by
    by_cases q : p + 1 < s.size
    · omega
    · rw [List.drop_of_length_le (by rw [len_data]; omega)] at hc; cases hc.2
  obtain ⟨E, hE⟩ : ∃ E, p + 2 + endC (s.data.toList.drop (p + 2)) = E := ⟨_, rfl⟩
  have ho : one (s.data.toList.drop p) = (none, 2 + endC (s.data.toList.drop (p + 2))) := by
    rw [hd]
    show oneC _ _ = _
    rw [oneC_com hc, List.drop_drop]
  rw [ho]
  have CE := fun (ai : Int) (he : ai = ((p + 2 : Nat) : Int)) W => refBehind_any s ai (p + 2) he (by omega) h2 E hE W
  have hn : ((p + (2 + endC (s.data.toList.drop (p + 2))) : Nat) : Int) = (E : Int) := by omega
  have HN := Lib.hid hn
  have HCP := Lib.hid CP
  have HCE := Lib.hid CE
  clear CP CBL CE hd ho hc hE hn
  go_enter Try.func46, Try.ntmps46
  go_wp2_with fail
  refine (HCP.out _).mono ?_
  rintro e w' ⟨rfl, rfl⟩
  go_wp2_with fail
  refine (HCE.out _ (by omega) _).mono ?_
  rintro e w' ⟨rfl, rfl⟩
  go_wp2_with fail
  refine bodyPost_ret (v := .tuple #[(⟨0, [], 0⟩ : Tok).val, .int .i64 ((E : Int))]) (by simp [results, Try.results46, go_sem, LexP.Tok.val]) rfl ⟨?_, ?_⟩
  · exact ret_tok HN.out.symm
  · go_grown

set_option maxRecDepth 100000 in
set_option maxHeartbeats 400000 in
theorem refOne_bl (s : ByteArray) (p : Nat) (w : World) (hs : s.size ≤ 40000) (hlt : p < s.size) (hc : ¬ (s[p].toNat = 47 ∧ (s.data.toList.drop (p + 1)).head? = some 42)) (hbl : blB s[p] = true) : OneTold s p w := by
  have hd := drop_consR s p hlt
  have CP := fun W => refHas_2 s p (by omega) (by omega) W 47 42
  rw [com_iffR s p hlt] at CP
  have CBL := fun W => refBlank_any (s[p].toNat : Int) W
  rw [blI_eq] at CBL
  unfold OneTold
  rw [decide_eq_false hc] at CP
  have HCP := Lib.hid CP
  rw [hbl] at CBL
  have ho : one (s.data.toList.drop p) = (some ⟨20, [], 0⟩, ((s.data.toList.drop p).takeWhile blB).length) := by
    rw [hd]
    show oneC _ _ = _
    rw [oneC_bl hc hbl]
  rw [ho]
  obtain ⟨m, hm⟩ : ∃ m, ((s.data.toList.drop p).takeWhile blB).length = m := ⟨_, rfl⟩
  have hml : p + m ≤ s.size := by
    have := tw_le blB (s.data.toList.drop p)
    rw [List.length_drop, len_data] at this; omega
  have CE := fun W => refBlanks_any s p (by omega) (by omega) m hm W
  have hn : ((p + ((s.data.toList.drop p).takeWhile blB).length : Nat) : Int) = (p : Int) + (m : Int) := by omega
  have HN := Lib.hid hn
  have HCB := Lib.hid CBL
  have HCE := Lib.hid CE
  clear CP CBL CE hd ho hc hbl hm hn
  go_enter Try.func46, Try.ntmps46
  go_wp2_with fail
  refine (HCP.out _).mono ?_
  rintro e w' ⟨rfl, rfl⟩
  go_wp2_with fail
  refine (HCB.out _).mono ?_
  rintro e w' ⟨rfl, rfl⟩
  go_wp2_with fail
  refine (HCE.out _).mono ?_
  rintro e w' ⟨rfl, rfl⟩
  go_wp2_with fail
  refine bodyPost_ret (v := .tuple #[(⟨20, [], 0⟩ : Tok).val, .int .i64 ((p : Int) + (m : Int))]) (by simp [results, Try.results46, go_sem, LexP.Tok.val]) rfl ⟨?_, ?_⟩
  · exact ret_tok HN.out.symm
  · go_grown

set_option maxRecDepth 100000 in
set_option maxHeartbeats 400000 in
theorem refOne_q1 (s : ByteArray) (p : Nat) (w : World) (hs : s.size ≤ 40000) (hlt : p < s.size) (hc : ¬ (s[p].toNat = 47 ∧ (s.data.toList.drop (p + 1)).head? = some 42)) (hbl : blB s[p] = false) (hq : s[p].toNat = 34) : OneTold s p w := by
  have hd := drop_consR s p hlt
  have CP := fun W => refHas_2 s p (by omega) (by omega) W 47 42
  rw [com_iffR s p hlt] at CP
  have CBL := fun W => refBlank_any (s[p].toNat : Int) W
  rw [blI_eq] at CBL
  unfold OneTold
  rw [decide_eq_false hc] at CP
  have HCP := Lib.hid CP
  rw [hbl] at CBL
  have CQ := fun W => refQuoted_any s p W (by omega) hlt
  have ho : one (s.data.toList.drop p) = (some (quoL s[p] (s.data.toList.drop (p + 1))).1, (quoL s[p] (s.data.toList.drop (p + 1))).2) := by
    rw [hd]
    show oneC _ _ = _
    rw [oneC_quo hc hbl (by omega)]; rfl
  have hm1 := (quoL_bd s[p] (s.data.toList.drop (p + 1))).1
  generalize quoL s[p] (s.data.toList.drop (p + 1)) = X at *
  have k34 : ((s[p].toNat : Int) == 34) = true := by rw [beq_iff_eq]; omega
  have k39 : ((s[p].toNat : Int) == 39) = false := by rw [beq_eq_false_iff_ne]; omega
  rw [ho]
  obtain ⟨⟨k, x, nn⟩, m⟩ := X
  simp only [] at CQ hm1
  obtain ⟨E, hE⟩ : ∃ E, p + m = E := ⟨_, rfl⟩
  rw [hE] at CQ
  have CQ : ∀ W, Calls Try.prog 68 #[.string s, .int .i64 (p : Int)] W fun e w' => e = .returned (.tuple #[.agg #[.int .i64 k, .string ⟨x.toArray⟩, .int .i64 nn], .int .i64 (E : Int)]) ∧ Below W.heap.size W w' := CQ
  have hn : ((p + m : Nat) : Int) = (E : Int) := by omega
  have HN := Lib.hid hn
  have HCB := Lib.hid CBL
  have HCQ := Lib.hid CQ
  clear CP CBL CQ hd ho hc hbl hE hn hm1 hq
  go_enter Try.func46, Try.ntmps46
  go_wp2_with fail
  refine (HCP.out _).mono ?_
  rintro e w' ⟨rfl, rfl⟩
  go_wp2_with fail
  refine (HCB.out _).mono ?_
  rintro e w' ⟨rfl, rfl⟩
  go_wp2_with fail
  refine (HCQ.out _).mono ?_
  rintro e w1 ⟨rfl, hb⟩
  have hbW : Below w.heap.size w w1 := ((Below.refl _ _).alloc (Nat.le_refl _) _).trans (hb.mono (by simp))
  have hblk : w1.heap[w.heap.size]? = some (.cells #[.int .i64 0, .string ⟨#[]⟩, .int .i64 0] 61 (0, 0)) := (hb.block _ (by simp)).trans (heap_alloc_new w _)
  obtain ⟨x1, x2, x3, ⟨p0, q0, r0⟩, ⟨p1, q1, r1⟩, ⟨p2, q2, r2⟩, h3⟩ := three_store w1 w.heap.size 61 _ _ _ (.int .i64 k) (.string ⟨x.toArray⟩) (.int .i64 nn) hblk
  have hb3 := h3.below w.heap.size w (Nat.le_refl _) hbW
  have k0 := cell_of (k := 0) h3.here rfl
  have k1 := cell_of (k := 1) h3.here rfl
  have k2 := cell_of (k := 2) h3.here rfl
  have HB3 := Lib.hid hb3
  clear hb hbW hblk hb3 h3
  go_wp2_with fail
  refine bodyPost_ret (v := .tuple #[(⟨k, x, nn⟩ : Tok).val, .int .i64 (E : Int)]) (by simp [results, Try.results46, go_sem, LexP.Tok.val, k0, k1, k2]) rfl ⟨?_, HB3.out⟩
  rw [HN.out]; rfl

set_option maxRecDepth 100000 in
set_option maxHeartbeats 400000 in
theorem refOne_q2 (s : ByteArray) (p : Nat) (w : World) (hs : s.size ≤ 40000) (hlt : p < s.size) (hc : ¬ (s[p].toNat = 47 ∧ (s.data.toList.drop (p + 1)).head? = some 42)) (hbl : blB s[p] = false) (hq : s[p].toNat = 39) : OneTold s p w := by
  have hd := drop_consR s p hlt
  have CP := fun W => refHas_2 s p (by omega) (by omega) W 47 42
  rw [com_iffR s p hlt] at CP
  have CBL := fun W => refBlank_any (s[p].toNat : Int) W
  rw [blI_eq] at CBL
  unfold OneTold
  rw [decide_eq_false hc] at CP
  have HCP := Lib.hid CP
  rw [hbl] at CBL
  have CQ := fun W => refQuoted_any s p W (by omega) hlt
  have ho : one (s.data.toList.drop p) = (some (quoL s[p] (s.data.toList.drop (p + 1))).1, (quoL s[p] (s.data.toList.drop (p + 1))).2) := by
    rw [hd]
    show oneC _ _ = _
    rw [oneC_quo hc hbl (by omega)]; rfl
  have hm1 := (quoL_bd s[p] (s.data.toList.drop (p + 1))).1
  generalize quoL s[p] (s.data.toList.drop (p + 1)) = X at *
  have k34 : ((s[p].toNat : Int) == 34) = false := by rw [beq_eq_false_iff_ne]; omega
  have k39 : ((s[p].toNat : Int) == 39) = true := by rw [beq_iff_eq]; omega
  rw [ho]
  obtain ⟨⟨k, x, nn⟩, m⟩ := X
  simp only [] at CQ hm1
  obtain ⟨E, hE⟩ : ∃ E, p + m = E := ⟨_, rfl⟩
  rw [hE] at CQ
  have CQ : ∀ W, Calls Try.prog 68 #[.string s, .int .i64 (p : Int)] W fun e w' => e = .returned (.tuple #[.agg #[.int .i64 k, .string ⟨x.toArray⟩, .int .i64 nn], .int .i64 (E : Int)]) ∧ Below W.heap.size W w' := CQ
  have hn : ((p + m : Nat) : Int) = (E : Int) := by omega
  have HN := Lib.hid hn
  have HCB := Lib.hid CBL
  have HCQ := Lib.hid CQ
  clear CP CBL CQ hd ho hc hbl hE hn hm1 hq
  go_enter Try.func46, Try.ntmps46
  go_wp2_with fail
  refine (HCP.out _).mono ?_
  rintro e w' ⟨rfl, rfl⟩
  go_wp2_with fail
  refine (HCB.out _).mono ?_
  rintro e w' ⟨rfl, rfl⟩
  go_wp2_with fail
  refine (HCQ.out _).mono ?_
  rintro e w1 ⟨rfl, hb⟩
  have hbW : Below w.heap.size w w1 := ((Below.refl _ _).alloc (Nat.le_refl _) _).trans (hb.mono (by simp))
  have hblk : w1.heap[w.heap.size]? = some (.cells #[.int .i64 0, .string ⟨#[]⟩, .int .i64 0] 61 (0, 0)) := (hb.block _ (by simp)).trans (heap_alloc_new w _)
  obtain ⟨x1, x2, x3, ⟨p0, q0, r0⟩, ⟨p1, q1, r1⟩, ⟨p2, q2, r2⟩, h3⟩ := three_store w1 w.heap.size 61 _ _ _ (.int .i64 k) (.string ⟨x.toArray⟩) (.int .i64 nn) hblk
  have hb3 := h3.below w.heap.size w (Nat.le_refl _) hbW
  have k0 := cell_of (k := 0) h3.here rfl
  have k1 := cell_of (k := 1) h3.here rfl
  have k2 := cell_of (k := 2) h3.here rfl
  have HB3 := Lib.hid hb3
  clear hb hbW hblk hb3 h3
  go_wp2_with fail
  refine bodyPost_ret (v := .tuple #[(⟨k, x, nn⟩ : Tok).val, .int .i64 (E : Int)]) (by simp [results, Try.results46, go_sem, LexP.Tok.val, k0, k1, k2]) rfl ⟨?_, HB3.out⟩
  rw [HN.out]; rfl

set_option maxRecDepth 100000 in
set_option maxHeartbeats 400000 in
theorem refOne_num (s : ByteArray) (p : Nat) (w : World) (hs : s.size ≤ 40000) (hlt : p < s.size) (hc : ¬ (s[p].toNat = 47 ∧ (s.data.toList.drop (p + 1)).head? = some 42)) (hbl : blB s[p] = false) (hq : ¬ (s[p].toNat = 34 ∨ s[p].toNat = 39)) (hnn : 0 < numL (s.data.toList.drop p)) : OneTold s p w := by
  have hd := drop_consR s p hlt
  have CP := fun W => refHas_2 s p (by omega) (by omega) W 47 42
  rw [com_iffR s p hlt] at CP
  have CBL := fun W => refBlank_any (s[p].toNat : Int) W
  rw [blI_eq] at CBL
  unfold OneTold
  rw [decide_eq_false hc] at CP
  have HCP := Lib.hid CP
  rw [hbl] at CBL
  have k34 : ((s[p].toNat : Int) == 34) = false := by rw [beq_eq_false_iff_ne]; omega
  have k39 : ((s[p].toNat : Int) == 39) = false := by rw [beq_eq_false_iff_ne]; omega
  obtain ⟨n, hnum⟩ : ∃ n, numL (s.data.toList.drop p) = n := ⟨_, rfl⟩
  obtain ⟨v, hv⟩ : ∃ v, worth ((s.data.toList.drop p).take n) = v := ⟨_, rfl⟩
  have hna : numAt s.data.toList p = n := by rw [← numAt_drop]; exact hnum
  have CN := fun W => Number_any s p W (by omega) (by omega)
  rw [hna] at CN
  have ho : one (s.data.toList.drop p) = (some (meaL v n ((s.data.toList.drop p).drop n)).1, (meaL v n ((s.data.toList.drop p).drop n)).2) := by
    rw [← hv, ← hnum]
    rw [hd] at hnn ⊢
    show oneC _ _ = _
    rw [oneC_num hc hbl hq hnn]; rfl
  rw [hnum] at hnn
  have CQ := fun W => refMeasure_any s p W (by omega) hlt n hnum hnn v hv
  have hm1 := (meaL_bd v n ((s.data.toList.drop p).drop n)).1
  have hgt : (0 : Int) < (n : Int) := by omega
  have HCN := Lib.hid CN
  generalize meaL v n ((s.data.toList.drop p).drop n) = X at *
  rw [ho]
  obtain ⟨⟨k, x, nn⟩, m⟩ := X
  simp only [] at CQ hm1
  obtain ⟨E, hE⟩ : ∃ E, p + m = E := ⟨_, rfl⟩
  rw [hE] at CQ
  have CQ : ∀ W, Calls Try.prog 70 #[.string s, .int .i64 (p : Int), .int .i64 (n : Int)] W fun e w' => e = .returned (.tuple #[.agg #[.int .i64 k, .string ⟨x.toArray⟩, .int .i64 nn], .int .i64 (E : Int)]) ∧ Below W.heap.size W w' := CQ
  have hn : ((p + m : Nat) : Int) = (E : Int) := by omega
  have HN := Lib.hid hn
  have HCB := Lib.hid CBL
  have HCQ := Lib.hid CQ
  clear CP CBL CQ hd ho hc hbl hE hn hm1 hq CN hnum hv hna hnn
  go_enter Try.func46, Try.ntmps46
  go_wp2_with fail
  refine (HCP.out _).mono ?_
  rintro e w' ⟨rfl, rfl⟩
  go_wp2_with fail
  refine (HCB.out _).mono ?_
  rintro e w' ⟨rfl, rfl⟩
  go_wp2_with fail
  refine (HCN.out _).mono ?_
  rintro e w' ⟨rfl, rfl⟩
  go_wp2_with fail
  refine (HCQ.out _).mono ?_
  rintro e w1 ⟨rfl, hb⟩
  have hbW : Below w.heap.size w w1 := ((Below.refl _ _).alloc (Nat.le_refl _) _).trans (hb.mono (by simp))
  have hblk : w1.heap[w.heap.size]? = some (.cells #[.int .i64 0, .string ⟨#[]⟩, .int .i64 0] 61 (0, 0)) := (hb.block _ (by simp)).trans (heap_alloc_new w _)
  obtain ⟨x1, x2, x3, ⟨p0, q0, r0⟩, ⟨p1, q1, r1⟩, ⟨p2, q2, r2⟩, h3⟩ := three_store w1 w.heap.size 61 _ _ _ (.int .i64 k) (.string ⟨x.toArray⟩) (.int .i64 nn) hblk
  have hb3 := h3.below w.heap.size w (Nat.le_refl _) hbW
  have k0 := cell_of (k := 0) h3.here rfl
  have k1 := cell_of (k := 1) h3.here rfl
  have k2 := cell_of (k := 2) h3.here rfl
  have HB3 := Lib.hid hb3
  clear hb hbW hblk hb3 h3
  go_wp2_with fail
  refine bodyPost_ret (v := .tuple #[(⟨k, x, nn⟩ : Tok).val, .int .i64 (E : Int)]) (by simp [results, Try.results46, go_sem, LexP.Tok.val, k0, k1, k2]) rfl ⟨?_, HB3.out⟩
  rw [HN.out]; rfl

set_option maxRecDepth 100000 in
set_option maxHeartbeats 400000 in
theorem refOne_hash (s : ByteArray) (p : Nat) (w : World) (hs : s.size ≤ 40000) (hlt : p < s.size) (hpl : Plain s[p] (s.data.toList.drop (p + 1))) (h35 : s[p].toNat = 35) (hg : 0 < ((s.data.toList.drop (p + 1)).takeWhile gB).length) : OneTold s p w := by
  have hd := drop_consR s p hlt
  have CP := fun W => refHas_2 s p (by omega) (by omega) W 47 42
  rw [com_iffR s p hlt] at CP
  have CBL := fun W => refBlank_any (s[p].toNat : Int) W
  rw [blI_eq] at CBL
  unfold OneTold
  have CP : ∀ W, Calls Try.prog 64 #[.string s, .int .i64 (p : Int), .string ⟨#[47, 42]⟩] W fun e w' => e = .returned (.bool false) ∧ W = w' := by rw [← decide_eq_false hpl.com]; exact CP
  have HCP := Lib.hid CP
  rw [hpl.bl] at CBL
  have hq := hpl.quo
  have k34 : ((s[p].toNat : Int) == 34) = false := by rw [beq_eq_false_iff_ne]; omega
  have k39 : ((s[p].toNat : Int) == 39) = false := by rw [beq_eq_false_iff_ne]; omega
  have CN := fun W => Number_any s p W (by omega) (by omega)
  have hna : numAt s.data.toList p = 0 := by rw [← numAt_drop, hd]; exact hpl.num
  rw [hna] at CN
  have CN : ∀ W, Calls Try.prog 69 #[.string s, .int .i64 (p : Int)] W fun e w' => e = .returned (.int .i64 0) ∧ W = w' := CN
  have ho := (show one (s.data.toList.drop p) = oneC s[p] (s.data.toList.drop (p + 1)) from by rw [hd]; rfl).trans (oneC_plain hpl)
  obtain ⟨m, hm⟩ : ∃ m, ((s.data.toList.drop (p + 1)).takeWhile gB).length = m := ⟨_, rfl⟩
  have hml : p + 1 + m ≤ s.size := by
    have := tw_le gB (s.data.toList.drop (p + 1))
    rw [List.length_drop, len_data] at this; omega
  have CR := fun (ai : Int) (he : ai = ((p + 1 : Nat) : Int)) W => refRun_at s ai (p + 1) he (by omega) (by omega) m hm W
  have hx := ext_tw s (p + 1) gB (p + 1 + m) (by omega)
  rw [hm] at ho
  have CG := fun (ai : Int) (he : ai = ((p + 1 : Nat) : Int)) W => refStarts_at s ai (p + 1) he (by omega) (by omega) W
  have CH := fun W => refStarts_at s (p : Int) p rfl (by omega) (by omega) W
  have HCB := Lib.hid CBL
  have HCN := Lib.hid CN
  have HCR := Lib.hid CR
  have k35 : ((s[p].toNat : Int) == 35) = true := by rw [beq_iff_eq]; omega
  have hg2 := hg
  rw [hm] at hg2
  rw [if_pos ⟨h35, hg2⟩] at ho
  rw [ho]
  obtain ⟨T, hT⟩ : ∃ T, (s.data.toList.drop (p + 1)).takeWhile gB = T := ⟨_, rfl⟩
  rw [hT] at hx ⊢
  obtain ⟨M, hM⟩ : ∃ M, p + 1 + m = M := ⟨_, rfl⟩
  rw [hM] at hx hml
  have HX := Lib.hid hx
  have hmz : (0 : Int) < (m : Int) := by omega
  have hpm : (p : Int) + 1 + (m : Int) = (M : Int) := by omega
  have hpM : p + 1 ≤ M := by omega
  have hn : ((p + (1 + m) : Nat) : Int) = (M : Int) := by omega
  have HN := Lib.hid hn
  clear CP CBL hd ho hq CN hna hpl hm CR CG CH hx h35 hg hg2 hT hn hM
  go_enter Try.func46, Try.ntmps46
  go_wp2_with fail
  refine (HCP.out _).mono ?_
  rintro e w' ⟨rfl, rfl⟩
  go_wp2_with fail
  refine (HCB.out _).mono ?_
  rintro e w' ⟨rfl, rfl⟩
  go_wp2_with fail
  refine (HCN.out _).mono ?_
  rintro e w' ⟨rfl, rfl⟩
  go_wp2_with fail
  refine (HCR.out _ (by omega) _).mono ?_
  rintro e w' ⟨rfl, rfl⟩
  go_wp2_with fail
  refine bodyPost_ret (v := .tuple #[(⟨4, T, 0⟩ : Tok).val, .int .i64 ((M : Int))]) (by simp [results, Try.results46, go_sem, LexP.Tok.val, HX.out]) rfl ⟨?_, ?_⟩
  · exact ret_tok HN.out.symm
  · go_grown

set_option maxRecDepth 100000 in
set_option maxHeartbeats 400000 in
theorem refOne_at (s : ByteArray) (p : Nat) (w : World) (hs : s.size ≤ 40000) (hlt : p < s.size) (hpl : Plain s[p] (s.data.toList.drop (p + 1))) (h64 : s[p].toNat = 64) (hg : startsL (s.data.toList.drop (p + 1)) = true) : OneTold s p w := by
  have hd := drop_consR s p hlt
  have CP := fun W => refHas_2 s p (by omega) (by omega) W 47 42
  rw [com_iffR s p hlt] at CP
  have CBL := fun W => refBlank_any (s[p].toNat : Int) W
  rw [blI_eq] at CBL
  unfold OneTold
  have CP : ∀ W, Calls Try.prog 64 #[.string s, .int .i64 (p : Int), .string ⟨#[47, 42]⟩] W fun e w' => e = .returned (.bool false) ∧ W = w' := by rw [← decide_eq_false hpl.com]; exact CP
  have HCP := Lib.hid CP
  rw [hpl.bl] at CBL
  have hq := hpl.quo
  have k34 : ((s[p].toNat : Int) == 34) = false := by rw [beq_eq_false_iff_ne]; omega
  have k39 : ((s[p].toNat : Int) == 39) = false := by rw [beq_eq_false_iff_ne]; omega
  have CN := fun W => Number_any s p W (by omega) (by omega)
  have hna : numAt s.data.toList p = 0 := by rw [← numAt_drop, hd]; exact hpl.num
  rw [hna] at CN
  have CN : ∀ W, Calls Try.prog 69 #[.string s, .int .i64 (p : Int)] W fun e w' => e = .returned (.int .i64 0) ∧ W = w' := CN
  have ho := (show one (s.data.toList.drop p) = oneC s[p] (s.data.toList.drop (p + 1)) from by rw [hd]; rfl).trans (oneC_plain hpl)
  obtain ⟨m, hm⟩ : ∃ m, ((s.data.toList.drop (p + 1)).takeWhile gB).length = m := ⟨_, rfl⟩
  have hml : p + 1 + m ≤ s.size := by
    have := tw_le gB (s.data.toList.drop (p + 1))
    rw [List.length_drop, len_data] at this; omega
  have CR := fun (ai : Int) (he : ai = ((p + 1 : Nat) : Int)) W => refRun_at s ai (p + 1) he (by omega) (by omega) m hm W
  have hx := ext_tw s (p + 1) gB (p + 1 + m) (by omega)
  rw [hm] at ho
  have CG := fun (ai : Int) (he : ai = ((p + 1 : Nat) : Int)) W => refStarts_at s ai (p + 1) he (by omega) (by omega) W
  have CH := fun W => refStarts_at s (p : Int) p rfl (by omega) (by omega) W
  have HCB := Lib.hid CBL
  have HCN := Lib.hid CN
  have HCR := Lib.hid CR
  have k35 : ((s[p].toNat : Int) == 35) = false := by rw [beq_eq_false_iff_ne]; omega
  have k64 : ((s[p].toNat : Int) == 64) = true := by rw [beq_iff_eq]; omega
  rw [if_neg (by omega), if_pos ⟨h64, hg⟩] at ho
  rw [ho]
  rw [hg] at CG
  have HCG := Lib.hid CG
  obtain ⟨T, hT⟩ : ∃ T, (s.data.toList.drop (p + 1)).takeWhile gB = T := ⟨_, rfl⟩
  rw [hT] at hx ⊢
  obtain ⟨M, hM⟩ : ∃ M, p + 1 + m = M := ⟨_, rfl⟩
  rw [hM] at hx hml
  have HX := Lib.hid hx
  have hpm : (p : Int) + 1 + (m : Int) = (M : Int) := by omega
  have hpM : p + 1 ≤ M := by omega
  have hn : ((p + (1 + m) : Nat) : Int) = (M : Int) := by omega
  have HN := Lib.hid hn
  clear CP CBL hd ho hq CN hna hpl hm CR CG CH hx h64 hg hT hn hM
  go_enter Try.func46, Try.ntmps46
  go_wp2_with fail
  refine (HCP.out _).mono ?_
  rintro e w' ⟨rfl, rfl⟩
  go_wp2_with fail
  refine (HCB.out _).mono ?_
  rintro e w' ⟨rfl, rfl⟩
  go_wp2_with fail
  refine (HCN.out _).mono ?_
  rintro e w' ⟨rfl, rfl⟩
  go_wp2_with fail
  refine (HCR.out _ (by omega) _).mono ?_
  rintro e w' ⟨rfl, rfl⟩
  go_wp2_with fail
  refine (HCG.out _ (by omega) _).mono ?_
  rintro e w' ⟨rfl, rfl⟩
  go_wp2_with fail
  refine (HCR.out _ (by omega) _).mono ?_
  rintro e w' ⟨rfl, rfl⟩
  go_wp2_with fail
  refine bodyPost_ret (v := .tuple #[(⟨3, T, 0⟩ : Tok).val, .int .i64 ((M : Int))]) (by simp [results, Try.results46, go_sem, LexP.Tok.val, HX.out]) rfl ⟨?_, ?_⟩
  · exact ret_tok HN.out.symm
  · go_grown

set_option maxRecDepth 100000 in
set_option maxHeartbeats 400000 in
theorem refOne_func (s : ByteArray) (p : Nat) (w : World) (hs : s.size ≤ 40000) (hlt : p < s.size) (hpl : Plain s[p] (s.data.toList.drop (p + 1))) (hg : startsL (s.data.toList.drop p) = true) (h40 : ((s.data.toList.drop p).dropWhile gB).head? = some 40) : OneTold s p w := by
  have hd := drop_consR s p hlt
  have CP := fun W => refHas_2 s p (by omega) (by omega) W 47 42
  rw [com_iffR s p hlt] at CP
  have CBL := fun W => refBlank_any (s[p].toNat : Int) W
  rw [blI_eq] at CBL
  unfold OneTold
  have CP : ∀ W, Calls Try.prog 64 #[.string s, .int .i64 (p : Int), .string ⟨#[47, 42]⟩] W fun e w' => e = .returned (.bool false) ∧ W = w' := by rw [← decide_eq_false hpl.com]; exact CP
  have HCP := Lib.hid CP
  rw [hpl.bl] at CBL
  have hq := hpl.quo
  have k34 : ((s[p].toNat : Int) == 34) = false := by rw [beq_eq_false_iff_ne]; omega
  have k39 : ((s[p].toNat : Int) == 39) = false := by rw [beq_eq_false_iff_ne]; omega
  have CN := fun W => Number_any s p W (by omega) (by omega)
  have hna : numAt s.data.toList p = 0 := by rw [← numAt_drop, hd]; exact hpl.num
  rw [hna] at CN
  have CN : ∀ W, Calls Try.prog 69 #[.string s, .int .i64 (p : Int)] W fun e w' => e = .returned (.int .i64 0) ∧ W = w' := CN
  have ho := (show one (s.data.toList.drop p) = oneC s[p] (s.data.toList.drop (p + 1)) from by rw [hd]; rfl).trans (oneC_plain hpl)
  obtain ⟨m, hm⟩ : ∃ m, ((s.data.toList.drop (p + 1)).takeWhile gB).length = m := ⟨_, rfl⟩
  have hml : p + 1 + m ≤ s.size := by
    have := tw_le gB (s.data.toList.drop (p + 1))
    rw [List.length_drop, len_data] at this; omega
  have CR := fun (ai : Int) (he : ai = ((p + 1 : Nat) : Int)) W => refRun_at s ai (p + 1) he (by omega) (by omega) m hm W
  have hx := ext_tw s (p + 1) gB (p + 1 + m) (by omega)
  rw [hm] at ho
  have CG := fun (ai : Int) (he : ai = ((p + 1 : Nat) : Int)) W => refStarts_at s ai (p + 1) he (by omega) (by omega) W
  have CH := fun W => refStarts_at s (p : Int) p rfl (by omega) (by omega) W
  have HCB := Lib.hid CBL
  have HCN := Lib.hid CN
  have HCR := Lib.hid CR
  have hlb : s[p].toNat ≠ 35 ∧ s[p].toNat ≠ 64 := by
    rw [hd] at hg
    rcases starts_c hg with x | x
    · constructor <;> (intro y; rw [show s[p] = UInt8.ofNat s[p].toNat by simp, y] at x; revert x; decide)
    · omega
  have k35 : ((s[p].toNat : Int) == 35) = false := by rw [beq_eq_false_iff_ne]; omega
  have k64 : ((s[p].toNat : Int) == 64) = false := by rw [beq_eq_false_iff_ne]; omega
  have hg2 := hg
  rw [hd] at hg2
  rw [if_neg (by omega), if_neg (by omega), if_pos hg2, ← hd] at ho
  rw [hg] at CH
  have HCH := Lib.hid CH
  obtain ⟨n, hnn⟩ : ∃ n, ((s.data.toList.drop p).takeWhile gB).length = n := ⟨_, rfl⟩
  have hnl : p + n ≤ s.size := by
    have := tw_le gB (s.data.toList.drop p)
    rw [List.length_drop, len_data] at this; omega
  have CR2 := fun W => refRun_at s (p : Int) p rfl (by omega) (by omega) n hnn W
  have HCR2 := Lib.hid CR2
  have hx2 := ext_tw s p gB (p + n) (by omega)
  have hdw : (s.data.toList.drop p).dropWhile gB = s.data.toList.drop (p + n) := by rw [← tw_drop, List.drop_drop, hnn]
  have CC := fun (ai : Int) (he : ai = ((p + n : Nat) : Int)) W => (by rw [he]; exact refHas_1 s (p + n) (by omega) hnl W 40 : Calls Try.prog 64 #[.string s, .int .i64 ai, .string ⟨#[40]⟩] W fun e w' => e = .returned (.bool (Lib.hasPrefix (s.data.toList.drop (p + n)) [40])) ∧ W = w')
  rw [hasPrefix_1] at CC
  rw [hdw, hnn] at ho
  obtain ⟨T, hT⟩ : ∃ T, (s.data.toList.drop p).takeWhile gB = T := ⟨_, rfl⟩
  rw [hT] at hx2 ho
  obtain ⟨M, hM⟩ : ∃ M, p + n = M := ⟨_, rfl⟩
  rw [hM] at hx2 hnl ho CC hdw
  have HX := Lib.hid hx2
  have hpn : (p : Int) + (n : Int) = (M : Int) := by omega
  have hpM : p ≤ M := by omega
  rw [hdw] at h40
  rw [if_pos h40] at ho
  rw [decide_eq_true h40] at CC
  have HCC := Lib.hid CC
  rw [ho]
  have hn : ((p + (n + 1) : Nat) : Int) = (M : Int) + 1 := by omega
  have HN := Lib.hid hn
  clear CP CBL hd ho hq CN hna hpl hm CR CG CH hx hg hg2 hlb h40 CC CR2 hx2 hdw hT hn hnn hM
  go_enter Try.func46, Try.ntmps46
  go_wp2_with fail
  refine (HCP.out _).mono ?_
  rintro e w' ⟨rfl, rfl⟩
  go_wp2_with fail
  refine (HCB.out _).mono ?_
  rintro e w' ⟨rfl, rfl⟩
  go_wp2_with fail
  refine (HCN.out _).mono ?_
  rintro e w' ⟨rfl, rfl⟩
  go_wp2_with fail
  refine (HCR.out _ (by omega) _).mono ?_
  rintro e w' ⟨rfl, rfl⟩
  go_wp2_with fail
  refine (HCH.out _).mono ?_
  rintro e w' ⟨rfl, rfl⟩
  go_wp2_with fail
  refine (HCR2.out _).mono ?_
  rintro e w' ⟨rfl, rfl⟩
  go_wp2_with fail
  refine (HCC.out _ rfl _).mono ?_
  rintro e w' ⟨rfl, rfl⟩
  go_wp2_with fail
  refine bodyPost_ret (v := .tuple #[(⟨2, T, 0⟩ : Tok).val, .int .i64 ((M : Int) + 1)]) (by simp [results, Try.results46, go_sem, LexP.Tok.val, HX.out]) rfl ⟨?_, ?_⟩
  · exact ret_tok HN.out.symm
  · go_grown

set_option maxRecDepth 100000 in
set_option maxHeartbeats 400000 in
theorem refOne_id (s : ByteArray) (p : Nat) (w : World) (hs : s.size ≤ 40000) (hlt : p < s.size) (hpl : Plain s[p] (s.data.toList.drop (p + 1))) (hg : startsL (s.data.toList.drop p) = true) (h40 : ¬ ((s.data.toList.drop p).dropWhile gB).head? = some 40) : OneTold s p w := by
  have hd := drop_consR s p hlt
  have CP := fun W => refHas_2 s p (by omega) (by omega) W 47 42
  rw [com_iffR s p hlt] at CP
  have CBL := fun W => refBlank_any (s[p].toNat : Int) W
  rw [blI_eq] at CBL
  unfold OneTold
  have CP : ∀ W, Calls Try.prog 64 #[.string s, .int .i64 (p : Int), .string ⟨#[47, 42]⟩] W fun e w' => e = .returned (.bool false) ∧ W = w' := by rw [← decide_eq_false hpl.com]; exact CP
  have HCP := Lib.hid CP
  rw [hpl.bl] at CBL
  have hq := hpl.quo
  have k34 : ((s[p].toNat : Int) == 34) = false := by rw [beq_eq_false_iff_ne]; omega
  have k39 : ((s[p].toNat : Int) == 39) = false := by rw [beq_eq_false_iff_ne]; omega
  have CN := fun W => Number_any s p W (by omega) (by omega)
  have hna : numAt s.data.toList p = 0 := by rw [← numAt_drop, hd]; exact hpl.num
  rw [hna] at CN
  have CN : ∀ W, Calls Try.prog 69 #[.string s, .int .i64 (p : Int)] W fun e w' => e = .returned (.int .i64 0) ∧ W = w' := CN
  have ho := (show one (s.data.toList.drop p) = oneC s[p] (s.data.toList.drop (p + 1)) from by rw [hd]; rfl).trans (oneC_plain hpl)
  obtain ⟨m, hm⟩ : ∃ m, ((s.data.toList.drop (p + 1)).takeWhile gB).length = m := ⟨_, rfl⟩
  have hml : p + 1 + m ≤ s.size := by
    have := tw_le gB (s.data.toList.drop (p + 1))
    rw [List.length_drop, len_data] at this; omega
  have CR := fun (ai : Int) (he : ai = ((p + 1 : Nat) : Int)) W => refRun_at s ai (p + 1) he (by omega) (by omega) m hm W
  have hx := ext_tw s (p + 1) gB (p + 1 + m) (by omega)
  rw [hm] at ho
  have CG := fun (ai : Int) (he : ai = ((p + 1 : Nat) : Int)) W => refStarts_at s ai (p + 1) he (by omega) (by omega) W
  have CH := fun W => refStarts_at s (p : Int) p rfl (by omega) (by omega) W
  have HCB := Lib.hid CBL
  have HCN := Lib.hid CN
  have HCR := Lib.hid CR
  have hlb : s[p].toNat ≠ 35 ∧ s[p].toNat ≠ 64 := by
    rw [hd] at hg
    rcases starts_c hg with x | x
    · constructor <;> (intro y; rw [show s[p] = UInt8.ofNat s[p].toNat by simp, y] at x; revert x; decide)
    · omega
  have k35 : ((s[p].toNat : Int) == 35) = false := by rw [beq_eq_false_iff_ne]; omega
  have k64 : ((s[p].toNat : Int) == 64) = false := by rw [beq_eq_false_iff_ne]; omega
  have hg2 := hg
  rw [hd] at hg2
  rw [if_neg (by omega), if_neg (by omega), if_pos hg2, ← hd] at ho
  rw [hg] at CH
  have HCH := Lib.hid CH
  obtain ⟨n, hnn⟩ : ∃ n, ((s.data.toList.drop p).takeWhile gB).length = n := ⟨_, rfl⟩
  have hnl : p + n ≤ s.size := by
    have := tw_le gB (s.data.toList.drop p)
    rw [List.length_drop, len_data] at this; omega
  have CR2 := fun W => refRun_at s (p : Int) p rfl (by omega) (by omega) n hnn W
  have HCR2 := Lib.hid CR2
  have hx2 := ext_tw s p gB (p + n) (by omega)
  have hdw : (s.data.toList.drop p).dropWhile gB = s.data.toList.drop (p + n) := by rw [← tw_drop, List.drop_drop, hnn]
  have CC := fun (ai : Int) (he : ai = ((p + n : Nat) : Int)) W => (by rw [he]; exact refHas_1 s (p + n) (by omega) hnl W 40 : Calls Try.prog 64 #[.string s, .int .i64 ai, .string ⟨#[40]⟩] W fun e w' => e = .returned (.bool (Lib.hasPrefix (s.data.toList.drop (p + n)) [40])) ∧ W = w')
  rw [hasPrefix_1] at CC
  rw [hdw, hnn] at ho
  obtain ⟨T, hT⟩ : ∃ T, (s.data.toList.drop p).takeWhile gB = T := ⟨_, rfl⟩
  rw [hT] at hx2 ho
  obtain ⟨M, hM⟩ : ∃ M, p + n = M := ⟨_, rfl⟩
  rw [hM] at hx2 hnl ho CC hdw
  have HX := Lib.hid hx2
  have hpn : (p : Int) + (n : Int) = (M : Int) := by omega
  have hpM : p ≤ M := by omega
  rw [hdw] at h40
  rw [if_neg h40] at ho
  rw [decide_eq_false h40] at CC
  have HCC := Lib.hid CC
  rw [ho]
  have hn : ((p + n : Nat) : Int) = (M : Int) := by omega
  have HN := Lib.hid hn
  clear CP CBL hd ho hq CN hna hpl hm CR CG CH hx hg hg2 hlb h40 CC CR2 hx2 hdw hT hn hnn hM
  go_enter Try.func46, Try.ntmps46
  go_wp2_with fail
  refine (HCP.out _).mono ?_
  rintro e w' ⟨rfl, rfl⟩
  go_wp2_with fail
  refine (HCB.out _).mono ?_
  rintro e w' ⟨rfl, rfl⟩
  go_wp2_with fail
  refine (HCN.out _).mono ?_
  rintro e w' ⟨rfl, rfl⟩
  go_wp2_with fail
  refine (HCR.out _ (by omega) _).mono ?_
  rintro e w' ⟨rfl, rfl⟩
  go_wp2_with fail
  refine (HCH.out _).mono ?_
  rintro e w' ⟨rfl, rfl⟩
  go_wp2_with fail
  refine (HCR2.out _).mono ?_
  rintro e w' ⟨rfl, rfl⟩
  go_wp2_with fail
  refine (HCC.out _ rfl _).mono ?_
  rintro e w' ⟨rfl, rfl⟩
  go_wp2_with fail
  refine bodyPost_ret (v := .tuple #[(⟨1, T, 0⟩ : Tok).val, .int .i64 ((M : Int))]) (by simp [results, Try.results46, go_sem, LexP.Tok.val, HX.out]) rfl ⟨?_, ?_⟩
  · exact ret_tok HN.out.symm
  · go_grown

theorem ext_oneR (s : ByteArray) (p : Nat) (h : p < s.size) : s.extract p (p + 1) = ⟨#[s[p]]⟩ := by
  refine ba_ext ?_
  rw [ext_list, drop_consR s p h]
  have e : p + 1 - p = 1 := by omega
  rw [e]; rfl
theorem signK_pos (c : UInt8) : 0 ≤ signK c := by
  unfold signK
  repeat' split
  all_goals omega

set_option maxRecDepth 100000 in
set_option maxHeartbeats 400000 in
theorem refOne_s35a (s : ByteArray) (p : Nat) (w : World) (hs : s.size ≤ 40000) (hlt : p < s.size) (hpl : Plain s[p] (s.data.toList.drop (p + 1))) (h35 : s[p].toNat = 35) (hg : ¬ 0 < ((s.data.toList.drop (p + 1)).takeWhile gB).length) (hz : signK s[p] = 0) : OneTold s p w := by
  have hd := drop_consR s p hlt
  have CP := fun W => refHas_2 s p (by omega) (by omega) W 47 42
  rw [com_iffR s p hlt] at CP
  have CBL := fun W => refBlank_any (s[p].toNat : Int) W
  rw [blI_eq] at CBL
  unfold OneTold
  have CP : ∀ W, Calls Try.prog 64 #[.string s, .int .i64 (p : Int), .string ⟨#[47, 42]⟩] W fun e w' => e = .returned (.bool false) ∧ W = w' := by rw [← decide_eq_false hpl.com]; exact CP
  have HCP := Lib.hid CP
  rw [hpl.bl] at CBL
  have hq := hpl.quo
  have k34 : ((s[p].toNat : Int) == 34) = false := by rw [beq_eq_false_iff_ne]; omega
  have k39 : ((s[p].toNat : Int) == 39) = false := by rw [beq_eq_false_iff_ne]; omega
  have CN := fun W => Number_any s p W (by omega) (by omega)
  have hna : numAt s.data.toList p = 0 := by rw [← numAt_drop, hd]; exact hpl.num
  rw [hna] at CN
  have CN : ∀ W, Calls Try.prog 69 #[.string s, .int .i64 (p : Int)] W fun e w' => e = .returned (.int .i64 0) ∧ W = w' := CN
  have ho := (show one (s.data.toList.drop p) = oneC s[p] (s.data.toList.drop (p + 1)) from by rw [hd]; rfl).trans (oneC_plain hpl)
  obtain ⟨m, hm⟩ : ∃ m, ((s.data.toList.drop (p + 1)).takeWhile gB).length = m := ⟨_, rfl⟩
  have hml : p + 1 + m ≤ s.size := by
    have := tw_le gB (s.data.toList.drop (p + 1))
    rw [List.length_drop, len_data] at this; omega
  have CR := fun (ai : Int) (he : ai = ((p + 1 : Nat) : Int)) W => refRun_at s ai (p + 1) he (by omega) (by omega) m hm W
  have hx := ext_tw s (p + 1) gB (p + 1 + m) (by omega)
  rw [hm] at ho
  have CG := fun (ai : Int) (he : ai = ((p + 1 : Nat) : Int)) W => refStarts_at s ai (p + 1) he (by omega) (by omega) W
  have CH := fun W => refStarts_at s (p : Int) p rfl (by omega) (by omega) W
  have HCB := Lib.hid CBL
  have HCN := Lib.hid CN
  have HCR := Lib.hid CR
  have k35 : ((s[p].toNat : Int) == 35) = true := by rw [beq_iff_eq]; omega
  have k64 : ((s[p].toNat : Int) == 64) = false := by rw [beq_eq_false_iff_ne]; omega
  have hnl : startsL (s.data.toList.drop p) = false := by
    rw [hd]
    exact not_starts (by rw [show s[p] = 35 from UInt8.toNat_inj.1 h35]; decide) (by omega)
  have hnl2 := hnl
  rw [hd] at hnl2
  rw [hm] at hg
  rw [if_neg (by omega), if_neg (by omega), if_neg (by rw [hnl2]; simp)] at ho
  rw [hnl] at CH
  have HCH := Lib.hid CH
  have hmz : ¬ (0 : Int) < (m : Int) := by omega
  rw [ho]
  have CS := fun W => refSign_any s[p] W
  have hx1 := ext_oneR s p hlt
  rw [hz] at CS
  have ht : signT s[p] = ⟨19, [s[p]], 0⟩ := if_pos hz
  rw [ht]
  have HCS := Lib.hid CS
  have HX := Lib.hid hx1
  have HN : Hid (((p + 1 : Nat) : Int) = (p : Int) + 1) := by show ((p + 1 : Nat) : Int) = _; omega
  clear CP CBL hd ho hq CN hna hpl hm CR CG CH hx h35 hg hnl hnl2 CS hx1 ht
  go_enter Try.func46, Try.ntmps46
  go_wp2_with fail
  refine (HCP.out _).mono ?_
  rintro e w' ⟨rfl, rfl⟩
  go_wp2_with fail
  refine (HCB.out _).mono ?_
  rintro e w' ⟨rfl, rfl⟩
  go_wp2_with fail
  refine (HCN.out _).mono ?_
  rintro e w' ⟨rfl, rfl⟩
  go_wp2_with fail
  refine (HCR.out _ (by omega) _).mono ?_
  rintro e w' ⟨rfl, rfl⟩
  go_wp2_with fail
  refine (HCH.out _).mono ?_
  rintro e w' ⟨rfl, rfl⟩
  go_wp2_with fail
  refine (HCS.out _).mono ?_
  rintro e w' ⟨rfl, rfl⟩
  go_wp2_with fail
  refine bodyPost_ret (v := .tuple #[(⟨19, [s[p]], 0⟩ : Tok).val, .int .i64 ((p : Int) + 1)]) (by simp [results, Try.results46, go_sem, LexP.Tok.val, HX.out]) rfl ⟨ret_tok HN.out.symm, ?_⟩
  go_grown

set_option maxRecDepth 100000 in
set_option maxHeartbeats 400000 in
theorem refOne_s35b (s : ByteArray) (p : Nat) (w : World) (hs : s.size ≤ 40000) (hlt : p < s.size) (hpl : Plain s[p] (s.data.toList.drop (p + 1))) (h35 : s[p].toNat = 35) (hg : ¬ 0 < ((s.data.toList.drop (p + 1)).takeWhile gB).length) (hz : ¬ signK s[p] = 0) : OneTold s p w := by
  have hd := drop_consR s p hlt
  have CP := fun W => refHas_2 s p (by omega) (by omega) W 47 42
  rw [com_iffR s p hlt] at CP
  have CBL := fun W => refBlank_any (s[p].toNat : Int) W
  rw [blI_eq] at CBL
  unfold OneTold
  have CP : ∀ W, Calls Try.prog 64 #[.string s, .int .i64 (p : Int), .string ⟨#[47, 42]⟩] W fun e w' => e = .returned (.bool false) ∧ W = w' := by rw [← decide_eq_false hpl.com]; exact CP
  have HCP := Lib.hid CP
  rw [hpl.bl] at CBL
  have hq := hpl.quo
  have k34 : ((s[p].toNat : Int) == 34) = false := by rw [beq_eq_false_iff_ne]; omega
  have k39 : ((s[p].toNat : Int) == 39) = false := by rw [beq_eq_false_iff_ne]; omega
  have CN := fun W => Number_any s p W (by omega) (by omega)
  have hna : numAt s.data.toList p = 0 := by rw [← numAt_drop, hd]; exact hpl.num
  rw [hna] at CN
  have CN : ∀ W, Calls Try.prog 69 #[.string s, .int .i64 (p : Int)] W fun e w' => e = .returned (.int .i64 0) ∧ W = w' := CN
  have ho := (show one (s.data.toList.drop p) = oneC s[p] (s.data.toList.drop (p + 1)) from by rw [hd]; rfl).trans (oneC_plain hpl)
  obtain ⟨m, hm⟩ : ∃ m, ((s.data.toList.drop (p + 1)).takeWhile gB).length = m := ⟨_, rfl⟩
  have hml : p + 1 + m ≤ s.size := by
    have := tw_le gB (s.data.toList.drop (p + 1))
    rw [List.length_drop, len_data] at this; omega
  have CR := fun (ai : Int) (he : ai = ((p + 1 : Nat) : Int)) W => refRun_at s ai (p + 1) he (by omega) (by omega) m hm W
  have hx := ext_tw s (p + 1) gB (p + 1 + m) (by omega)
  rw [hm] at ho
  have CG := fun (ai : Int) (he : ai = ((p + 1 : Nat) : Int)) W => refStarts_at s ai (p + 1) he (by omega) (by omega) W
  have CH := fun W => refStarts_at s (p : Int) p rfl (by omega) (by omega) W
  have HCB := Lib.hid CBL
  have HCN := Lib.hid CN
  have HCR := Lib.hid CR
  have k35 : ((s[p].toNat : Int) == 35) = true := by rw [beq_iff_eq]; omega
  have k64 : ((s[p].toNat : Int) == 64) = false := by rw [beq_eq_false_iff_ne]; omega
  have hnl : startsL (s.data.toList.drop p) = false := by
    rw [hd]
    exact not_starts (by rw [show s[p] = 35 from UInt8.toNat_inj.1 h35]; decide) (by omega)
  have hnl2 := hnl
  rw [hd] at hnl2
  rw [hm] at hg
  rw [if_neg (by omega), if_neg (by omega), if_neg (by rw [hnl2]; simp)] at ho
  rw [hnl] at CH
  have HCH := Lib.hid CH
  have hmz : ¬ (0 : Int) < (m : Int) := by omega
  rw [ho]
  have CS := fun W => refSign_any s[p] W
  have hx1 := ext_oneR s p hlt
  have ht : signT s[p] = ⟨signK s[p], [], 0⟩ := if_neg hz
  rw [ht]
  have hgt : (0 : Int) < signK s[p] := by
    have := signK_pos s[p]; omega
  generalize signK s[p] = kk at *
  have HCS := Lib.hid CS
  have HX := Lib.hid hx1
  have HN : Hid (((p + 1 : Nat) : Int) = (p : Int) + 1) := by show ((p + 1 : Nat) : Int) = _; omega
  clear CP CBL hd ho hq CN hna hpl hm CR CG CH hx h35 hg hnl hnl2 CS hx1 ht
  clear hz
  go_enter Try.func46, Try.ntmps46
  go_wp2_with fail
  refine (HCP.out _).mono ?_
  rintro e w' ⟨rfl, rfl⟩
  go_wp2_with fail
  refine (HCB.out _).mono ?_
  rintro e w' ⟨rfl, rfl⟩
  go_wp2_with fail
  refine (HCN.out _).mono ?_
  rintro e w' ⟨rfl, rfl⟩
  go_wp2_with fail
  refine (HCR.out _ (by omega) _).mono ?_
  rintro e w' ⟨rfl, rfl⟩
  go_wp2_with fail
  refine (HCH.out _).mono ?_
  rintro e w' ⟨rfl, rfl⟩
  go_wp2_with fail
  refine (HCS.out _).mono ?_
  rintro e w' ⟨rfl, rfl⟩
  go_wp2_with fail
  refine bodyPost_ret (v := .tuple #[(⟨kk, [], 0⟩ : Tok).val, .int .i64 ((p : Int) + 1)]) (by simp [results, Try.results46, go_sem, LexP.Tok.val]) rfl ⟨ret_tok HN.out.symm, ?_⟩
  go_grown

set_option maxRecDepth 100000 in
set_option maxHeartbeats 400000 in
theorem refOne_s64a (s : ByteArray) (p : Nat) (w : World) (hs : s.size ≤ 40000) (hlt : p < s.size) (hpl : Plain s[p] (s.data.toList.drop (p + 1))) (h64 : s[p].toNat = 64) (hg : startsL (s.data.toList.drop (p + 1)) = false) (hz : signK s[p] = 0) : OneTold s p w := by
  have hd := drop_consR s p hlt
  have CP := fun W => refHas_2 s p (by omega) (by omega) W 47 42
  rw [com_iffR s p hlt] at CP
  have CBL := fun W => refBlank_any (s[p].toNat : Int) W
  rw [blI_eq] at CBL
  unfold OneTold
  have CP : ∀ W, Calls Try.prog 64 #[.string s, .int .i64 (p : Int), .string ⟨#[47, 42]⟩] W fun e w' => e = .returned (.bool false) ∧ W = w' := by rw [← decide_eq_false hpl.com]; exact CP
  have HCP := Lib.hid CP
  rw [hpl.bl] at CBL
  have hq := hpl.quo
  have k34 : ((s[p].toNat : Int) == 34) = false := by rw [beq_eq_false_iff_ne]; omega
  have k39 : ((s[p].toNat : Int) == 39) = false := by rw [beq_eq_false_iff_ne]; omega
  have CN := fun W => Number_any s p W (by omega) (by omega)
  have hna : numAt s.data.toList p = 0 := by rw [← numAt_drop, hd]; exact hpl.num
  rw [hna] at CN
  have CN : ∀ W, Calls Try.prog 69 #[.string s, .int .i64 (p : Int)] W fun e w' => e = .returned (.int .i64 0) ∧ W = w' := CN
  have ho := (show one (s.data.toList.drop p) = oneC s[p] (s.data.toList.drop (p + 1)) from by rw [hd]; rfl).trans (oneC_plain hpl)
  obtain ⟨m, hm⟩ : ∃ m, ((s.data.toList.drop (p + 1)).takeWhile gB).length = m := ⟨_, rfl⟩
  have hml : p + 1 + m ≤ s.size := by
    have := tw_le gB (s.data.toList.drop (p + 1))
    rw [List.length_drop, len_data] at this; omega
  have CR := fun (ai : Int) (he : ai = ((p + 1 : Nat) : Int)) W => refRun_at s ai (p + 1) he (by omega) (by omega) m hm W
  have hx := ext_tw s (p + 1) gB (p + 1 + m) (by omega)
  rw [hm] at ho
  have CG := fun (ai : Int) (he : ai = ((p + 1 : Nat) : Int)) W => refStarts_at s ai (p + 1) he (by omega) (by omega) W
  have CH := fun W => refStarts_at s (p : Int) p rfl (by omega) (by omega) W
  have HCB := Lib.hid CBL
  have HCN := Lib.hid CN
  have HCR := Lib.hid CR
  have k35 : ((s[p].toNat : Int) == 35) = false := by rw [beq_eq_false_iff_ne]; omega
  have k64 : ((s[p].toNat : Int) == 64) = true := by rw [beq_iff_eq]; omega
  have hnl : startsL (s.data.toList.drop p) = false := by
    rw [hd]
    exact not_starts (by rw [show s[p] = 64 from UInt8.toNat_inj.1 h64]; decide) (by omega)
  have hnl2 := hnl
  rw [hd] at hnl2
  rw [if_neg (by omega), if_neg (by rw [hg]; simp), if_neg (by rw [hnl2]; simp)] at ho
  rw [hnl] at CH
  rw [hg] at CG
  have HCH := Lib.hid CH
  have HCG := Lib.hid CG
  rw [ho]
  have CS := fun W => refSign_any s[p] W
  have hx1 := ext_oneR s p hlt
  rw [hz] at CS
  have ht : signT s[p] = ⟨19, [s[p]], 0⟩ := if_pos hz
  rw [ht]
  have HCS := Lib.hid CS
  have HX := Lib.hid hx1
  have HN : Hid (((p + 1 : Nat) : Int) = (p : Int) + 1) := by show ((p + 1 : Nat) : Int) = _; omega
  clear CP CBL hd ho hq CN hna hpl hm CR CG CH hx h64 hg hnl hnl2 CS hx1 ht
  go_enter Try.func46, Try.ntmps46
  go_wp2_with fail
  refine (HCP.out _).mono ?_
  rintro e w' ⟨rfl, rfl⟩
  go_wp2_with fail
  refine (HCB.out _).mono ?_
  rintro e w' ⟨rfl, rfl⟩
  go_wp2_with fail
  refine (HCN.out _).mono ?_
  rintro e w' ⟨rfl, rfl⟩
  go_wp2_with fail
  refine (HCR.out _ (by omega) _).mono ?_
  rintro e w' ⟨rfl, rfl⟩
  go_wp2_with fail
  refine (HCG.out _ (by omega) _).mono ?_
  rintro e w' ⟨rfl, rfl⟩
  go_wp2_with fail
  refine (HCH.out _).mono ?_
  rintro e w' ⟨rfl, rfl⟩
  go_wp2_with fail
  refine (HCS.out _).mono ?_
  rintro e w' ⟨rfl, rfl⟩
  go_wp2_with fail
  refine bodyPost_ret (v := .tuple #[(⟨19, [s[p]], 0⟩ : Tok).val, .int .i64 ((p : Int) + 1)]) (by simp [results, Try.results46, go_sem, LexP.Tok.val, HX.out]) rfl ⟨ret_tok HN.out.symm, ?_⟩
  go_grown

set_option maxRecDepth 100000 in
set_option maxHeartbeats 400000 in
theorem refOne_s64b (s : ByteArray) (p : Nat) (w : World) (hs : s.size ≤ 40000) (hlt : p < s.size) (hpl : Plain s[p] (s.data.toList.drop (p + 1))) (h64 : s[p].toNat = 64) (hg : startsL (s.data.toList.drop (p + 1)) = false) (hz : ¬ signK s[p] = 0) : OneTold s p w := by
  have hd := drop_consR s p hlt
  have CP := fun W => refHas_2 s p (by omega) (by omega) W 47 42
  rw [com_iffR s p hlt] at CP
  have CBL := fun W => refBlank_any (s[p].toNat : Int) W
  rw [blI_eq] at CBL
  unfold OneTold
  have CP : ∀ W, Calls Try.prog 64 #[.string s, .int .i64 (p : Int), .string ⟨#[47, 42]⟩] W fun e w' => e = .returned (.bool false) ∧ W = w' := by rw [← decide_eq_false hpl.com]; exact CP
  have HCP := Lib.hid CP
  rw [hpl.bl] at CBL
  have hq := hpl.quo
  have k34 : ((s[p].toNat : Int) == 34) = false := by rw [beq_eq_false_iff_ne]; omega
  have k39 : ((s[p].toNat : Int) == 39) = false := by rw [beq_eq_false_iff_ne]; omega
  have CN := fun W => Number_any s p W (by omega) (by omega)
  have hna : numAt s.data.toList p = 0 := by rw [← numAt_drop, hd]; exact hpl.num
  rw [hna] at CN
  have CN : ∀ W, Calls Try.prog 69 #[.string s, .int .i64 (p : Int)] W fun e w' => e = .returned (.int .i64 0) ∧ W = w' := CN
  have ho := (show one (s.data.toList.drop p) = oneC s[p] (s.data.toList.drop (p + 1)) from by rw [hd]; rfl).trans (oneC_plain hpl)
  obtain ⟨m, hm⟩ : ∃ m, ((s.data.toList.drop (p + 1)).takeWhile gB).length = m := ⟨_, rfl⟩
  have hml : p + 1 + m ≤ s.size := by
    have := tw_le gB (s.data.toList.drop (p + 1))
    rw [List.length_drop, len_data] at this; omega
  have CR := fun (ai : Int) (he : ai = ((p + 1 : Nat) : Int)) W => refRun_at s ai (p + 1) he (by omega) (by omega) m hm W
  have hx := ext_tw s (p + 1) gB (p + 1 + m) (by omega)
  rw [hm] at ho
  have CG := fun (ai : Int) (he : ai = ((p + 1 : Nat) : Int)) W => refStarts_at s ai (p + 1) he (by omega) (by omega) W
  have CH := fun W => refStarts_at s (p : Int) p rfl (by omega) (by omega) W
  have HCB := Lib.hid CBL
  have HCN := Lib.hid CN
  have HCR := Lib.hid CR
  have k35 : ((s[p].toNat : Int) == 35) = false := by rw [beq_eq_false_iff_ne]; omega
  have k64 : ((s[p].toNat : Int) == 64) = true := by rw [beq_iff_eq]; omega
  have hnl : startsL (s.data.toList.drop p) = false := by
    rw [hd]
    exact not_starts (by rw [show s[p] = 64 from UInt8.toNat_inj.1 h64]; decide) (by omega)
  have hnl2 := hnl
  rw [hd] at hnl2
  rw [if_neg (by omega), if_neg (by rw [hg]; simp), if_neg (by rw [hnl2]; simp)] at ho
  rw [hnl] at CH
  rw [hg] at CG
  have HCH := Lib.hid CH
  have HCG := Lib.hid CG
  rw [ho]
  have CS := fun W => refSign_any s[p] W
  have hx1 := ext_oneR s p hlt
  have ht : signT s[p] = ⟨signK s[p], [], 0⟩ := if_neg hz
  rw [ht]
  have hgt : (0 : Int) < signK s[p] := by
    have := signK_pos s[p]; omega
  generalize signK s[p] = kk at *
  have HCS := Lib.hid CS
  have HX := Lib.hid hx1
  have HN : Hid (((p + 1 : Nat) : Int) = (p : Int) + 1) := by show ((p + 1 : Nat) : Int) = _; omega
  clear CP CBL hd ho hq CN hna hpl hm CR CG CH hx h64 hg hnl hnl2 CS hx1 ht
  clear hz
  go_enter Try.func46, Try.ntmps46
  go_wp2_with fail
  refine (HCP.out _).mono ?_
  rintro e w' ⟨rfl, rfl⟩
  go_wp2_with fail
  refine (HCB.out _).mono ?_
  rintro e w' ⟨rfl, rfl⟩
  go_wp2_with fail
  refine (HCN.out _).mono ?_
  rintro e w' ⟨rfl, rfl⟩
  go_wp2_with fail
  refine (HCR.out _ (by omega) _).mono ?_
  rintro e w' ⟨rfl, rfl⟩
  go_wp2_with fail
  refine (HCG.out _ (by omega) _).mono ?_
  rintro e w' ⟨rfl, rfl⟩
  go_wp2_with fail
  refine (HCH.out _).mono ?_
  rintro e w' ⟨rfl, rfl⟩
  go_wp2_with fail
  refine (HCS.out _).mono ?_
  rintro e w' ⟨rfl, rfl⟩
  go_wp2_with fail
  refine bodyPost_ret (v := .tuple #[(⟨kk, [], 0⟩ : Tok).val, .int .i64 ((p : Int) + 1)]) (by simp [results, Try.results46, go_sem, LexP.Tok.val]) rfl ⟨ret_tok HN.out.symm, ?_⟩
  go_grown

set_option maxRecDepth 100000 in
set_option maxHeartbeats 400000 in
theorem refOne_sgna (s : ByteArray) (p : Nat) (w : World) (hs : s.size ≤ 40000) (hlt : p < s.size) (hpl : Plain s[p] (s.data.toList.drop (p + 1))) (h35 : ¬ s[p].toNat = 35) (h64 : ¬ s[p].toNat = 64) (hnl : startsL (s.data.toList.drop p) = false) (hz : signK s[p] = 0) : OneTold s p w := by
  have hd := drop_consR s p hlt
  have CP := fun W => refHas_2 s p (by omega) (by omega) W 47 42
  rw [com_iffR s p hlt] at CP
  have CBL := fun W => refBlank_any (s[p].toNat : Int) W
  rw [blI_eq] at CBL
  unfold OneTold
  have CP : ∀ W, Calls Try.prog 64 #[.string s, .int .i64 (p : Int), .string ⟨#[47, 42]⟩] W fun e w' => e = .returned (.bool false) ∧ W = w' := by rw [← decide_eq_false hpl.com]; exact CP
  have HCP := Lib.hid CP
  rw [hpl.bl] at CBL
  have hq := hpl.quo
  have k34 : ((s[p].toNat : Int) == 34) = false := by rw [beq_eq_false_iff_ne]; omega
  have k39 : ((s[p].toNat : Int) == 39) = false := by rw [beq_eq_false_iff_ne]; omega
  have CN := fun W => Number_any s p W (by omega) (by omega)
  have hna : numAt s.data.toList p = 0 := by rw [← numAt_drop, hd]; exact hpl.num
  rw [hna] at CN
  have CN : ∀ W, Calls Try.prog 69 #[.string s, .int .i64 (p : Int)] W fun e w' => e = .returned (.int .i64 0) ∧ W = w' := CN
  have ho := (show one (s.data.toList.drop p) = oneC s[p] (s.data.toList.drop (p + 1)) from by rw [hd]; rfl).trans (oneC_plain hpl)
  obtain ⟨m, hm⟩ : ∃ m, ((s.data.toList.drop (p + 1)).takeWhile gB).length = m := ⟨_, rfl⟩
  have hml : p + 1 + m ≤ s.size := by
    have := tw_le gB (s.data.toList.drop (p + 1))
    rw [List.length_drop, len_data] at this; omega
  have CR := fun (ai : Int) (he : ai = ((p + 1 : Nat) : Int)) W => refRun_at s ai (p + 1) he (by omega) (by omega) m hm W
  have hx := ext_tw s (p + 1) gB (p + 1 + m) (by omega)
  rw [hm] at ho
  have CG := fun (ai : Int) (he : ai = ((p + 1 : Nat) : Int)) W => refStarts_at s ai (p + 1) he (by omega) (by omega) W
  have CH := fun W => refStarts_at s (p : Int) p rfl (by omega) (by omega) W
  have HCB := Lib.hid CBL
  have HCN := Lib.hid CN
  have HCR := Lib.hid CR
  have k35 : ((s[p].toNat : Int) == 35) = false := by rw [beq_eq_false_iff_ne]; omega
  have k64 : ((s[p].toNat : Int) == 64) = false := by rw [beq_eq_false_iff_ne]; omega
  have hnl2 := hnl
  rw [hd] at hnl2
  rw [if_neg (by omega), if_neg (by omega), if_neg (by rw [hnl2]; simp)] at ho
  rw [hnl] at CH
  have HCH := Lib.hid CH
  rw [ho]
  have CS := fun W => refSign_any s[p] W
  have hx1 := ext_oneR s p hlt
  rw [hz] at CS
  have ht : signT s[p] = ⟨19, [s[p]], 0⟩ := if_pos hz
  rw [ht]
  have HCS := Lib.hid CS
  have HX := Lib.hid hx1
  have HN : Hid (((p + 1 : Nat) : Int) = (p : Int) + 1) := by show ((p + 1 : Nat) : Int) = _; omega
  clear CP CBL hd ho hq CN hna hpl hm CR CG CH hx h35 h64 hnl hnl2 CS hx1 ht
  go_enter Try.func46, Try.ntmps46
  go_wp2_with fail
  refine (HCP.out _).mono ?_
  rintro e w' ⟨rfl, rfl⟩
  go_wp2_with fail
  refine (HCB.out _).mono ?_
  rintro e w' ⟨rfl, rfl⟩
  go_wp2_with fail
  refine (HCN.out _).mono ?_
  rintro e w' ⟨rfl, rfl⟩
  go_wp2_with fail
  refine (HCR.out _ (by omega) _).mono ?_
  rintro e w' ⟨rfl, rfl⟩
  go_wp2_with fail
  refine (HCH.out _).mono ?_
  rintro e w' ⟨rfl, rfl⟩
  go_wp2_with fail
  refine (HCS.out _).mono ?_
  rintro e w' ⟨rfl, rfl⟩
  go_wp2_with fail
  refine bodyPost_ret (v := .tuple #[(⟨19, [s[p]], 0⟩ : Tok).val, .int .i64 ((p : Int) + 1)]) (by simp [results, Try.results46, go_sem, LexP.Tok.val, HX.out]) rfl ⟨ret_tok HN.out.symm, ?_⟩
  go_grown

set_option maxRecDepth 100000 in
set_option maxHeartbeats 400000 in
theorem refOne_sgnb (s : ByteArray) (p : Nat) (w : World) (hs : s.size ≤ 40000) (hlt : p < s.size) (hpl : Plain s[p] (s.data.toList.drop (p + 1))) (h35 : ¬ s[p].toNat = 35) (h64 : ¬ s[p].toNat = 64) (hnl : startsL (s.data.toList.drop p) = false) (hz : ¬ signK s[p] = 0) : OneTold s p w := by
  have hd := drop_consR s p hlt
  have CP := fun W => refHas_2 s p (by omega) (by omega) W 47 42
  rw [com_iffR s p hlt] at CP
  have CBL := fun W => refBlank_any (s[p].toNat : Int) W
  rw [blI_eq] at CBL
  unfold OneTold
  have CP : ∀ W, Calls Try.prog 64 #[.string s, .int .i64 (p : Int), .string ⟨#[47, 42]⟩] W fun e w' => e = .returned (.bool false) ∧ W = w' := by rw [← decide_eq_false hpl.com]; exact CP
  have HCP := Lib.hid CP
  rw [hpl.bl] at CBL
  have hq := hpl.quo
  have k34 : ((s[p].toNat : Int) == 34) = false := by rw [beq_eq_false_iff_ne]; omega
  have k39 : ((s[p].toNat : Int) == 39) = false := by rw [beq_eq_false_iff_ne]; omega
  have CN := fun W => Number_any s p W (by omega) (by omega)
  have hna : numAt s.data.toList p = 0 := by rw [← numAt_drop, hd]; exact hpl.num
  rw [hna] at CN
  have CN : ∀ W, Calls Try.prog 69 #[.string s, .int .i64 (p : Int)] W fun e w' => e = .returned (.int .i64 0) ∧ W = w' := CN
  have ho := (show one (s.data.toList.drop p) = oneC s[p] (s.data.toList.drop (p + 1)) from by rw [hd]; rfl).trans (oneC_plain hpl)
  obtain ⟨m, hm⟩ : ∃ m, ((s.data.toList.drop (p + 1)).takeWhile gB).length = m := ⟨_, rfl⟩
  have hml : p + 1 + m ≤ s.size := by
    have := tw_le gB (s.data.toList.drop (p + 1))
    rw [List.length_drop, len_data] at this; omega
  have CR := fun (ai : Int) (he : ai = ((p + 1 : Nat) : Int)) W => refRun_at s ai (p + 1) he (by omega) (by omega) m hm W
  have hx := ext_tw s (p + 1) gB (p + 1 + m) (by omega)
  rw [hm] at ho
  have CG := fun (ai : Int) (he : ai = ((p + 1 : Nat) : Int)) W => refStarts_at s ai (p + 1) he (by omega) (by omega) W
  have CH := fun W => refStarts_at s (p : Int) p rfl (by omega) (by omega) W
  have HCB := Lib.hid CBL
  have HCN := Lib.hid CN
  have HCR := Lib.hid CR
  have k35 : ((s[p].toNat : Int) == 35) = false := by rw [beq_eq_false_iff_ne]; omega
  have k64 : ((s[p].toNat : Int) == 64) = false := by rw [beq_eq_false_iff_ne]; omega
  have hnl2 := hnl
  rw [hd] at hnl2
  rw [if_neg (by omega), if_neg (by omega), if_neg (by rw [hnl2]; simp)] at ho
  rw [hnl] at CH
  have HCH := Lib.hid CH
  rw [ho]
  have CS := fun W => refSign_any s[p] W
  have hx1 := ext_oneR s p hlt
  have ht : signT s[p] = ⟨signK s[p], [], 0⟩ := if_neg hz
  rw [ht]
  have hgt : (0 : Int) < signK s[p] := by
    have := signK_pos s[p]; omega
  generalize signK s[p] = kk at *
  have HCS := Lib.hid CS
  have HX := Lib.hid hx1
  have HN : Hid (((p + 1 : Nat) : Int) = (p : Int) + 1) := by show ((p + 1 : Nat) : Int) = _; omega
  clear CP CBL hd ho hq CN hna hpl hm CR CG CH hx h35 h64 hnl hnl2 CS hx1 ht
  clear hz
  go_enter Try.func46, Try.ntmps46
  go_wp2_with fail
  refine (HCP.out _).mono ?_
  rintro e w' ⟨rfl, rfl⟩
  go_wp2_with fail
  refine (HCB.out _).mono ?_
  rintro e w' ⟨rfl, rfl⟩
  go_wp2_with fail
  refine (HCN.out _).mono ?_
  rintro e w' ⟨rfl, rfl⟩
  go_wp2_with fail
  refine (HCR.out _ (by omega) _).mono ?_
  rintro e w' ⟨rfl, rfl⟩
  go_wp2_with fail
  refine (HCH.out _).mono ?_
  rintro e w' ⟨rfl, rfl⟩
  go_wp2_with fail
  refine (HCS.out _).mono ?_
  rintro e w' ⟨rfl, rfl⟩
  go_wp2_with fail
  refine bodyPost_ret (v := .tuple #[(⟨kk, [], 0⟩ : Tok).val, .int .i64 ((p : Int) + 1)]) (by simp [results, Try.results46, go_sem, LexP.Tok.val]) rfl ⟨ret_tok HN.out.symm, ?_⟩
  go_grown

theorem refOne_any (s : ByteArray) (p : Nat) (w : World) (hs : s.size ≤ 40000) (hlt : p < s.size) : OneTold s p w := by
  by_cases hc : s[p].toNat = 47 ∧ (s.data.toList.drop (p + 1)).head? = some 42
  · exact refOne_com s p w hs hlt hc
  cases hbl : blB s[p] with
  | true => exact refOne_bl s p w hs hlt hc hbl
  | false =>
    by_cases hq1 : s[p].toNat = 34
    · exact refOne_q1 s p w hs hlt hc hbl hq1
    by_cases hq2 : s[p].toNat = 39
    · exact refOne_q2 s p w hs hlt hc hbl hq2
    by_cases hn : 0 < numL (s.data.toList.drop p)
    · exact refOne_num s p w hs hlt hc hbl (by omega) hn
    have hpl : Plain s[p] (s.data.toList.drop (p + 1)) := ⟨hc, hbl, by omega, by rw [← drop_consR s p hlt]; omega⟩
    by_cases h35 : s[p].toNat = 35
    · by_cases hg : 0 < ((s.data.toList.drop (p + 1)).takeWhile gB).length
      · exact refOne_hash s p w hs hlt hpl h35 hg
      · by_cases hz : signK s[p] = 0
        · exact refOne_s35a s p w hs hlt hpl h35 hg hz
        · exact refOne_s35b s p w hs hlt hpl h35 hg hz
    by_cases h64 : s[p].toNat = 64
    · cases hg : startsL (s.data.toList.drop (p + 1)) with
      | true => exact refOne_at s p w hs hlt hpl h64 hg
      | false =>
        by_cases hz : signK s[p] = 0
        · exact refOne_s64a s p w hs hlt hpl h64 hg hz
        · exact refOne_s64b s p w hs hlt hpl h64 hg hz
    cases hg : startsL (s.data.toList.drop p) with
    | true =>
      by_cases h40 : ((s.data.toList.drop p).dropWhile gB).head? = some 40
      · exact refOne_func s p w hs hlt hpl hg h40
      · exact refOne_id s p w hs hlt hpl hg h40
    | false =>
      by_cases hz : signK s[p] = 0
      · exact refOne_sgna s p w hs hlt hpl h35 h64 hg hz
      · exact refOne_sgnb s p w hs hlt hpl h35 h64 hg hz
end Go.Proofs.Ytoaenlbbochjhaa
