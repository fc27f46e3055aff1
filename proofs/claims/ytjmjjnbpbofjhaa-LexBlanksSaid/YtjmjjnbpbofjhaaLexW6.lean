/- The walks of layer 5: strings, numbers and signs as tokens. -/
import Derived.Test.YtjmjjnbpbofjhaaLexW5
import Derived.Handy
namespace Go.Proofs.Ytjmjjnbpbofjhaa
open Go.RowKit TreN LexP FixP

/-- where a quote's token ends -/
theorem quo_ways (s : ByteArray) (a E : Nat) (q : UInt8) (hE : a + 1 + ((s.data.toList.drop (a + 1)).takeWhile (inQ q)).length = E) (ha : a < s.size) :
    (E = s.size ∧ quoL q (s.data.toList.drop (a + 1)) = (⟨5, (s.data.toList.drop (a + 1)).takeWhile (inQ q), 0⟩, E - a)) ∨
    (∃ h : E < s.size, s[E].toNat = 10 ∧ quoL q (s.data.toList.drop (a + 1)) = (⟨6, (s.data.toList.drop (a + 1)).takeWhile (inQ q), 0⟩, E - a)) ∨
    (∃ h : E < s.size, ¬ s[E].toNat = 10 ∧ quoL q (s.data.toList.drop (a + 1)) = (⟨5, (s.data.toList.drop (a + 1)).takeWhile (inQ q), 0⟩, E + 1 - a)) := by
  have hd : s.data.toList.drop E = (s.data.toList.drop (a + 1)).dropWhile (inQ q) := by
    rw [← tw_drop, List.drop_drop, ← hE]
  have hle : E ≤ s.size := by
    have := tw_le (inQ q) (s.data.toList.drop (a + 1))
    rw [List.length_drop, len_data] at this
    omega
  by_cases h : E < s.size
  · have hc : s.data.toList.drop E = s[E] :: s.data.toList.drop (E + 1) := by
      rw [List.drop_eq_getElem_cons (by rw [len_data]; exact h)]
      simp [ByteArray.getElem_eq_getElem_data]
    rw [hc] at hd
    by_cases h10 : s[E].toNat = 10
    · have e10 : s[E] = 10 := UInt8.toNat_inj.1 h10
      refine Or.inr (Or.inl ⟨h, h10, ?_⟩)
      unfold quoL
      rw [← hd]
      simp only [e10, if_true]
      rw [Prod.mk.injEq]
      exact ⟨rfl, by omega⟩
    · have e10 : ¬ s[E] = 10 := fun x => h10 (by rw [x]; rfl)
      refine Or.inr (Or.inr ⟨h, h10, ?_⟩)
      unfold quoL
      rw [← hd]
      simp only [e10, if_false]
      rw [Prod.mk.injEq]
      exact ⟨rfl, by omega⟩
  · have hn : s.data.toList.drop E = [] := List.drop_of_length_le (by rw [len_data]; omega)
    rw [hn] at hd
    refine Or.inl ⟨by omega, ?_⟩
    unfold quoL
    rw [← hd]
    rw [Prod.mk.injEq]
    exact ⟨rfl, by omega⟩

set_option maxRecDepth 100000 in
set_option maxHeartbeats 2000000 in
theorem quote_any (s : ByteArray) (a : Nat) (w : World) (hs : s.size ≤ 9223372036854775807) (ha : a < s.size) :
    Calls Try.prog 86 #[.string s, .int .i64 (a : Int)] w fun e w' => e = .returned (.tuple #[(quoL s[a] (s.data.toList.drop (a + 1))).1.val, .int .i64 ((a + (quoL s[a] (s.data.toList.drop (a + 1))).2 : Nat) : Int)]) ∧ Below w.heap.size w w' := by
  have hmf : ∀ (fn : Fn) (first cap : Array Value) (w : World), (Instr.makeFunc fn first cap).run Try.prog w = .ok (.func fn first cap) w := fun _ _ _ _ => rfl
  obtain ⟨E, hE⟩ : ∃ E, a + 1 + ((s.data.toList.drop (a + 1)).takeWhile (inQ s[a])).length = E := ⟨_, rfl⟩
  have hx := ext_tw s (a + 1) (inQ s[a]) E hE
  have hqw := quo_ways s a E s[a] hE ha
  have C := fun (ai : Int) (he : ai = ((a + 1 : Nat) : Int)) (b : Nat) (W : World) (h : W.cell? ⟨b, 0, none⟩ = some (.int .u8 (s[a].toNat : Int))) => pass_quote s ai (a + 1) he hs (by omega) b s[a] E hE W h
  have hage : a + 1 ≤ E := by omega
  have hEle : E ≤ s.size := by
    have := tw_le (inQ s[a]) (s.data.toList.drop (a + 1))
    rw [List.length_drop, len_data] at this
    omega
  generalize (s.data.toList.drop (a + 1)).takeWhile (inQ s[a]) = T at *
  have HC := Lib.hid C
  have HX := Lib.hid hx
  clear hE hx C
  rcases hqw with ⟨h1, hq⟩ | ⟨h1, h2, hq⟩ | ⟨h1, h2, hq⟩
  · rw [hq]
    have hb : ((E : Int) == (s.size : Int)) = true := by rw [beq_iff_eq]; omega
    have H1 := Lib.hid h1
    clear h1 hq
    go_enter Try.func86, Try.ntmps86
    go_wp2_with fail
    refine (HC.out _ (by omega) _ _ (by simp)).mono ?_
    rintro e w' ⟨rfl, rfl⟩
    go_wp2_with fail
    rw [HX.out]
    refine bodyPost_ret (v := .tuple #[(⟨5, T, 0⟩ : Tok).val, .int .i64 ((E : Int))]) (by simp [results, Try.results86, go_sem, LexP.Tok.val]) rfl ⟨?_, ?_⟩
    · rw [show ((a + (E - a : Nat) : Nat) : Int) = (E : Int) by omega]
    · go_grown
  · rw [hq]
    have hb : ((E : Int) == (s.size : Int)) = false := by rw [beq_eq_false_iff_ne]; omega
    have hb2 : ((s[E].toNat : Int) == 10) = true := by rw [beq_iff_eq]; omega
    clear h2 hq
    go_enter Try.func86, Try.ntmps86
    go_wp2_with fail
    refine (HC.out _ (by omega) _ _ (by simp)).mono ?_
    rintro e w' ⟨rfl, rfl⟩
    go_wp2_with fail
    rw [HX.out]
    refine bodyPost_ret (v := .tuple #[(⟨6, T, 0⟩ : Tok).val, .int .i64 ((E : Int))]) (by simp [results, Try.results86, go_sem, LexP.Tok.val]) rfl ⟨?_, ?_⟩
    · rw [show ((a + (E - a : Nat) : Nat) : Int) = (E : Int) by omega]
    · go_grown
  · rw [hq]
    have hb : ((E : Int) == (s.size : Int)) = false := by rw [beq_eq_false_iff_ne]; omega
    have hb2 : ((s[E].toNat : Int) == 10) = false := by rw [beq_eq_false_iff_ne]; omega
    clear h2 hq
    go_enter Try.func86, Try.ntmps86
    go_wp2_with fail
    refine (HC.out _ (by omega) _ _ (by simp)).mono ?_
    rintro e w' ⟨rfl, rfl⟩
    go_wp2_with fail
    rw [HX.out]
    refine bodyPost_ret (v := .tuple #[(⟨5, T, 0⟩ : Tok).val, .int .i64 ((E : Int) + 1)]) (by simp [results, Try.results86, go_sem, LexP.Tok.val]) rfl ⟨?_, ?_⟩
    · rw [show ((a + (E + 1 - a : Nat) : Nat) : Int) = (E : Int) + 1 by omega]
    · go_grown
end Go.Proofs.Ytjmjjnbpbofjhaa
