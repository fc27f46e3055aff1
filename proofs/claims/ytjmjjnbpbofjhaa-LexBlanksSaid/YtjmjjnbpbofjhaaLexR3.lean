/- The walks of layer 5's reference: strings. -/
import Derived.Test.YtjmjjnbpbofjhaaLexR2
import Derived.Test.YtjmjjnbpbofjhaaMem
namespace Go.Proofs.Ytjmjjnbpbofjhaa
open Go.RowKit TreN LexP FixP

/-- how the reference ends at a quoted text's end E -/
def QuoEnd (s : ByteArray) (a E : Nat) (T : List UInt8) (X : Tok × Nat) : Prop :=
  s.extract (a + 1) E = ⟨T.toArray⟩ ∧ a + 1 ≤ E ∧ ((E = s.size ∧ X = (⟨5, T, 0⟩, E - a)) ∨ (∃ h : E < s.size, s[E].toNat = 10 ∧ X = (⟨6, T, 0⟩, E - a)) ∨ (∃ h : E < s.size, ¬ s[E].toNat = 10 ∧ X = (⟨5, T, 0⟩, E + 1 - a)))
theorem quo_end (s : ByteArray) (a k : Nat) (ha : a < s.size) (hk : a + 1 + k ≤ s.size) (h : ∀ j, j < k → ∀ hj : a + 1 + j < s.size, inQ s[a] s[a + 1 + j] = true) (he : a + 1 + k = s.size ∨ ∃ hj : a + 1 + k < s.size, inQ s[a] s[a + 1 + k] = false) :
    ∃ T, QuoEnd s a (a + 1 + k) T (quoL s[a] (s.data.toList.drop (a + 1))) := by
  have hE : a + 1 + ((s.data.toList.drop (a + 1)).takeWhile (inQ s[a])).length = a + 1 + k := by
    rw [tw_take (p := inQ s[a]) (a := a + 1) (k := k) hk h he]
  exact ⟨_, ext_tw s (a + 1) (inQ s[a]) _ hE, by omega, quo_ways s a _ s[a] hE ha⟩

set_option maxRecDepth 100000 in
set_option maxHeartbeats 4000000 in
theorem refQuoted_any (s : ByteArray) (a : Nat) (w : World) (hs : s.size ≤ 9223372036854775000) (ha : a < s.size) :
    Calls Try.prog 94 #[.string s, .int .i64 (a : Int)] w fun e w' => e = .returned (.tuple #[(quoL s[a] (s.data.toList.drop (a + 1))).1.val, .int .i64 ((a + (quoL s[a] (s.data.toList.drop (a + 1))).2 : Nat) : Int)]) ∧ Below w.heap.size w w' := by
  have QE := Lib.hid fun k => quo_end s a k ha
  generalize quoL s[a] (s.data.toList.drop (a + 1)) = X at *
  have haz : (a : Int) < (s.size : Int) := by omega
  have ha0 : (0 : Int) ≤ (a : Int) := by omega
  go_enter Try.func94, Try.ntmps94
  go_wp2_with fail
  go_loopw [6] (fun i wr => ∃ k q : Nat, a + 1 + k ≤ s.size ∧ i = .int .i64 ((a + 1 + k : Nat) : Int) ∧ wr = (w.alloc (.cells #[.int .i64 0, .string ⟨#[]⟩, .int .i64 0] 47)).drewN q ∧ Hid (∀ j, j < k → ∀ hj : a + 1 + j < s.size, inQ s[a] s[a + 1 + j] = true)) (fun i _ => s.size - (intOf i).toNat)
  case atStart => exact ⟨0, 0, by omega, by go_num, rfl, fun j hj => by omega⟩
  case round =>
    obtain ⟨k, q, hk, rfl, rfl, HJ⟩ := hrel
    obtain ⟨E, hE⟩ : ∃ E, a + 1 + k = E := ⟨_, rfl⟩
    have QK := QE.out k hk HJ.out
    rw [hE] at QK hk ⊢
    have hE0 : (0 : Int) ≤ (E : Int) := by omega
    have hb : Below w.heap.size w ((w.alloc (.cells #[.int .i64 0, .string ⟨#[]⟩, .int .i64 0] 47)).drewN q) := ((Below.refl _ _).alloc (Nat.le_refl _) _).trans (below_dN _ _ _)
    have hblk : ((w.alloc (.cells #[.int .i64 0, .string ⟨#[]⟩, .int .i64 0] 47)).drewN q).heap[w.heap.size]? = some (.cells #[.int .i64 0, .string ⟨#[]⟩, .int .i64 0] 47 (0, 0)) := heap_alloc_new w _
    have hsz : ((w.alloc (.cells #[.int .i64 0, .string ⟨#[]⟩, .int .i64 0] 47)).drewN q).heap.size = w.heap.size + 1 := by rw [drewN_size]; simp
    by_cases hlt : E < s.size
    · have hltz : decide ((E : Int) < (s.size : Int)) = true := by simp; omega
      have hltz2 : (E : Int) < (s.size : Int) := by omega
      cases hp : inQ s[a] s[E] with
      | true =>
        obtain ⟨g1, g2⟩ := inQ_yes hp
        have HJ2 : Hid (∀ j, j < k + 1 → ∀ hj : a + 1 + j < s.size, inQ s[a] s[a + 1 + j] = true) := by
          intro j hj hjj
          by_cases c : j = k
          · subst c
            have : s[a + 1 + j] = s[E] := by simp only [hE]
            rw [this]; exact hp
          · exact HJ.out j (by omega) hjj
        have HE := Lib.hid hE
        clear hp QK hb hblk hsz hE
        generalize hW : (w.alloc (.cells #[.int .i64 0, .string ⟨#[]⟩, .int .i64 0] 47)).drewN q = wr
        have HW := Lib.hid hW
        clear hW
        go_wp2_with fail
        go_quiet (fail)
        go_wp2_with fail
        go_roundw
        case rel => exact ⟨k + 1, q + nq, by have := HE.out; omega, by have := HE.out; rw [show a + 1 + (k + 1) = E + 1 by omega]; go_num, by rw [← HW.out, World.drewN_drewN], HJ2⟩
        case measure => simp [intOf]; omega
      | false =>
        obtain ⟨T, hx, hE1, hways⟩ := QK (Or.inr ⟨hlt, hp⟩)
        have hno := inQ_no hp
        have hne : ((E : Int) == (s.size : Int)) = false := by rw [beq_eq_false_iff_ne]; omega
        clear hp hE HJ
        rcases hways with ⟨h1, rfl⟩ | ⟨h1, h2, rfl⟩ | ⟨h1, h2, rfl⟩
        · omega
        · have h10 : ((s[E].toNat : Int) == 10) = true := by rw [beq_iff_eq]; omega
          clear h2
          rcases hno with g1 | ⟨g1, g2⟩
          all_goals
            generalize hW : (w.alloc (.cells #[.int .i64 0, .string ⟨#[]⟩, .int .i64 0] 47)).drewN q = wr at hb hblk hsz ⊢
            clear hW
            have HX := Lib.hid hx
            have HB := Lib.hid hb
            have HBLK := Lib.hid hblk
            have HSZ := Lib.hid hsz
            clear hx hb hblk hsz QK
            go_wp2_with fail
            go_quiet (fail)
            obtain ⟨wq, hwq⟩ : ∃ wq, wr.drewN nq = wq := ⟨_, rfl⟩
            have hbq : Below w.heap.size w wq := by rw [← hwq]; exact HB.out.trans (below_dN _ _ _)
            have hblkq : wq.heap[w.heap.size]? = some (.cells #[.int .i64 0, .string ⟨#[]⟩, .int .i64 0] 47 (0, 0)) := by rw [← hwq]; exact HBLK.out
            have hszq : wq.heap.size = w.heap.size + 1 := by rw [← hwq]; exact HSZ.out
            rw [hwq]
            clear hwq
            have hlow : w.heap.size ≤ wq.heap.size := by omega
            obtain ⟨x1, x2, x3, ⟨p0, q0, r0⟩, ⟨p1, q1, r1⟩, ⟨p2, q2, r2⟩, h3⟩ := three_store (wq.alloc (.cells #[.int .i64 6, .string (s.extract (a + 1) E), .int .i64 0] 47)) w.heap.size 47 _ _ _ (.int .i64 6) (.string (s.extract (a + 1) E)) (.int .i64 0) (by rw [Below.heap_alloc _ _ _ (by omega)]; exact hblkq)
            have hb3 := h3.below w.heap.size w (Nat.le_refl _) (hbq.alloc hlow _)
            have k0 := cell_of (k := 0) h3.here rfl
            have k1 := cell_of (k := 1) h3.here rfl
            have k2 := cell_of (k := 2) h3.here rfl
            have HB3 := Lib.hid hb3
            clear hbq hblkq hb3 h3
            go_wp2_with fail
            refine bodyPost_ret (v := .tuple #[(⟨6, T, 0⟩ : Tok).val, .int .i64 (E : Int)]) (by simp [results, Try.results94, go_sem, LexP.Tok.val, k0, k1, k2, HX.out]) rfl ⟨?_, HB3.out⟩
            rw [show ((a : Int) + ((E - a : Nat) : Int)) = (E : Int) by omega]
        · have h10 : ((s[E].toNat : Int) == 10) = false := by rw [beq_eq_false_iff_ne]; omega
          clear h2
          rcases hno with g1 | ⟨g1, g2⟩
          all_goals
            generalize hW : (w.alloc (.cells #[.int .i64 0, .string ⟨#[]⟩, .int .i64 0] 47)).drewN q = wr at hb hblk hsz ⊢
            clear hW
            have HX := Lib.hid hx
            have HB := Lib.hid hb
            have HBLK := Lib.hid hblk
            have HSZ := Lib.hid hsz
            clear hx hb hblk hsz QK
            go_wp2_with fail
            go_quiet (fail)
            obtain ⟨wq, hwq⟩ : ∃ wq, wr.drewN nq = wq := ⟨_, rfl⟩
            have hbq : Below w.heap.size w wq := by rw [← hwq]; exact HB.out.trans (below_dN _ _ _)
            have hblkq : wq.heap[w.heap.size]? = some (.cells #[.int .i64 0, .string ⟨#[]⟩, .int .i64 0] 47 (0, 0)) := by rw [← hwq]; exact HBLK.out
            have hszq : wq.heap.size = w.heap.size + 1 := by rw [← hwq]; exact HSZ.out
            rw [hwq]
            clear hwq
            have hlow : w.heap.size ≤ wq.heap.size := by omega
            obtain ⟨x1, x2, x3, ⟨p0, q0, r0⟩, ⟨p1, q1, r1⟩, ⟨p2, q2, r2⟩, h3⟩ := three_store (wq.alloc (.cells #[.int .i64 5, .string (s.extract (a + 1) E), .int .i64 0] 47)) w.heap.size 47 _ _ _ (.int .i64 5) (.string (s.extract (a + 1) E)) (.int .i64 0) (by rw [Below.heap_alloc _ _ _ (by omega)]; exact hblkq)
            have hb3 := h3.below w.heap.size w (Nat.le_refl _) (hbq.alloc hlow _)
            have k0 := cell_of (k := 0) h3.here rfl
            have k1 := cell_of (k := 1) h3.here rfl
            have k2 := cell_of (k := 2) h3.here rfl
            have HB3 := Lib.hid hb3
            clear hbq hblkq hb3 h3
            go_wp2_with fail
            refine bodyPost_ret (v := .tuple #[(⟨5, T, 0⟩ : Tok).val, .int .i64 ((E : Int) + 1)]) (by simp [results, Try.results94, go_sem, LexP.Tok.val, k0, k1, k2, HX.out]) rfl ⟨?_, HB3.out⟩
            rw [show ((a : Int) + ((E + 1 - a : Nat) : Int)) = ((E : Int) + 1) by omega]
    · have hltz : decide ((E : Int) < (s.size : Int)) = false := by simp; omega
      obtain ⟨T, hx, hE1, hways⟩ := QK (Or.inl (by omega))
      have hne : ((E : Int) == (s.size : Int)) = true := by rw [beq_iff_eq]; omega
      clear hE HJ
      rcases hways with ⟨h1, rfl⟩ | ⟨h1, h2, rfl⟩ | ⟨h1, h2, rfl⟩
      · have H1 := Lib.hid h1
        clear h1
        generalize hW : (w.alloc (.cells #[.int .i64 0, .string ⟨#[]⟩, .int .i64 0] 47)).drewN q = wr at hb hblk hsz ⊢
        clear hW
        have HX := Lib.hid hx
        have HB := Lib.hid hb
        have HBLK := Lib.hid hblk
        have HSZ := Lib.hid hsz
        clear hx hb hblk hsz QK
        go_wp2_with fail
        go_quiet (fail)
        obtain ⟨wq, hwq⟩ : ∃ wq, wr.drewN nq = wq := ⟨_, rfl⟩
        have hbq : Below w.heap.size w wq := by rw [← hwq]; exact HB.out.trans (below_dN _ _ _)
        have hblkq : wq.heap[w.heap.size]? = some (.cells #[.int .i64 0, .string ⟨#[]⟩, .int .i64 0] 47 (0, 0)) := by rw [← hwq]; exact HBLK.out
        have hszq : wq.heap.size = w.heap.size + 1 := by rw [← hwq]; exact HSZ.out
        rw [hwq]
        clear hwq
        have hlow : w.heap.size ≤ wq.heap.size := by omega
        obtain ⟨x1, x2, x3, ⟨p0, q0, r0⟩, ⟨p1, q1, r1⟩, ⟨p2, q2, r2⟩, h3⟩ := three_store (wq.alloc (.cells #[.int .i64 5, .string (s.extract (a + 1) E), .int .i64 0] 47)) w.heap.size 47 _ _ _ (.int .i64 5) (.string (s.extract (a + 1) E)) (.int .i64 0) (by rw [Below.heap_alloc _ _ _ (by omega)]; exact hblkq)
        have hb3 := h3.below w.heap.size w (Nat.le_refl _) (hbq.alloc hlow _)
        have k0 := cell_of (k := 0) h3.here rfl
        have k1 := cell_of (k := 1) h3.here rfl
        have k2 := cell_of (k := 2) h3.here rfl
        have HB3 := Lib.hid hb3
        clear hbq hblkq hb3 h3
        go_wp2_with fail
        refine bodyPost_ret (v := .tuple #[(⟨5, T, 0⟩ : Tok).val, .int .i64 (E : Int)]) (by simp [results, Try.results94, go_sem, LexP.Tok.val, k0, k1, k2, HX.out]) rfl ⟨?_, HB3.out⟩
        rw [show ((a : Int) + ((E - a : Nat) : Int)) = (E : Int) by omega]
      · omega
      · omega
end Go.Proofs.Ytjmjjnbpbofjhaa
