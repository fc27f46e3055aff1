/- Layer 18: the words of a text. -/
import Derived.Test.YtekmgpbolbkiaaaWdsW3
import Derived.OwnWalk
import Derived.Maps.AppendAt
import Derived.Deep.AppendLies
namespace Go.Proofs.Ytekmgpbolbkiaaa
open Go.RowKit FixM FixP TreN WdsP
set_option linter.unusedVariables false

theorem info_str18 : (Try.prog.info? 9).map (fun i => (i.zero, i.size, i.bytes)) = some (some (.string ByteArray.empty), 1, 16) := by kernel_rfl
def strs18 (L : List ByteArray) : List Value := L.map .string
theorem strs18_len (L : List ByteArray) : (strs18 L).length = L.length := by unfold strs18; simp
theorem strs18_snoc (L : List ByteArray) (x : ByteArray) : strs18 (L ++ [x]) = strs18 L ++ [.string x] := by unfold strs18; simp
/-- texts that a call answers -/
def ToldW (w : World) (L : List ByteArray) (e : Ending) (w' : World) : Prop := ∃ a c, e = .returned (.slice a L.length c) ∧ L.length ≤ c ∧ c ≤ maxLen ∧ Below w.heap.size w w' ∧ WS w' a L
theorem ws_own {w : World} {base : Nat} {T : TypeId} {v : Value} {L : List ByteArray} (h : w.ownsRow base T 1 v L.length (strs18 L)) : ∃ a c, v = .slice a L.length c ∧ L.length ≤ c ∧ c ≤ maxLen ∧ WS w a L := by
  by_cases h0 : L.length = 0
  · rcases h.2 with ⟨hv, _⟩ | ⟨g, cp, cur, hv, _, _, h3, h4, _⟩
    · rw [h0]; exact ⟨none, 0, hv, by omega, Nat.zero_le _, Or.inl (List.eq_nil_of_length_eq_zero h0)⟩
    · exact ⟨_, _, hv, h3, h4, Or.inl (List.eq_nil_of_length_eq_zero h0)⟩
  · obtain ⟨g, cap, hv, hg, hlt⟩ := h.form (by omega)
    refine ⟨_, cap, hv, ?_, ?_, Or.inr ⟨g, 0, rfl, hlt, fun i hi => ?_⟩⟩
    · rcases h.2 with ⟨_, h1⟩ | ⟨g2, cp, cur, hv2, _, _, h3, h4, _⟩
      · omega
      · rw [hv] at hv2; injection hv2 with _ _ e; subst e; exact h3
    · rcases h.2 with ⟨_, h1⟩ | ⟨g2, cp, cur, hv2, _, _, h3, h4, _⟩
      · omega
      · rw [hv] at hv2; injection hv2 with _ _ e; subst e; exact h4
    · subst hv
      rw [Nat.zero_add, h.cellAt i (by omega)]
      unfold strs18
      rw [List.getElem?_map, List.getElem?_eq_getElem hi]; rfl
theorem ownsRow_belowW {w w' : World} {base : Nat} {e : TypeId} {size : Nat} {v : Value} {n : Nat} {xs : List Value} (h : w.ownsRow base e size v n xs) (hb : Below w.heap.size w w') : w'.ownsRow base e size v n xs := by
  obtain ⟨h1, h2⟩ := h
  refine ⟨h1, ?_⟩
  rcases h2 with h2 | ⟨g, cap, cur, hv, hg, hh, r⟩
  · exact Or.inl h2
  · exact Or.inr ⟨g, cap, cur, hv, hg, (hb.block g (Array.getElem?_eq_some_iff.1 hh).1).trans hh, r⟩
theorem below_grownW {B : Nat} {a b : World} {row : Option Nat} (hg : a.grownBy b row) (hr : ∀ q, row = some q → B ≤ q) (hw : B ≤ a.heap.size) : Below B a b := (Below.refl _ _).grown hg hw hr

set_option maxRecDepth 100000 in
set_option maxHeartbeats 4000000 in
theorem Split18_any (s : ByteArray) (w : World) (hs : s.size ≤ 300) : Calls Try.prog 11 #[.string s] w (ToldW w (wordsS s)) := by
  obtain ⟨i0, hi, hz0, hz1, hz2⟩ := info_parts info_str18
  obtain ⟨all, hall⟩ : ∃ all, wordsS s = all := ⟨_, rfl⟩
  rw [hall]
  have HALL := Lib.hid hall
  clear hall
  go_enter Try.func11, Try.ntmps11
  go_wp2_with fail
  go_loopw [9, 3, 4] (fun vi v vf wr => ∃ (k f : Nat) (L : List ByteArray), vi = .int .i64 (k : Int) ∧ vf = .int .i64 (f : Int) ∧ k ≤ s.size + 1 ∧ f ≤ k ∧ L.length ≤ f ∧ wr.ownsRow w.heap.size 9 1 v L.length (strs18 L) ∧ Hid (Below w.heap.size w wr) ∧ Hid (spS s k = (f, L))) (fun vi _ _ _ => s.size + 1 - (intOf vi).toNat)
  case atStart => exact ⟨0, 0, [], rfl, rfl, by omega, by omega, by simp, World.ownsRow_nil _ _ _ _, Lib.hid (Below.refl _ _), Lib.hid rfl⟩
  case round =>
    obtain ⟨k, f, L, rfl, rfl, hk, hf, hL, hown, HB, HS⟩ := hrel
    have HO := Lib.hid hown
    clear hown
    by_cases hlt : k < s.size + 1
    · have hlz : (k : Int) < (s.size : Int) + 1 := by omega
      have hgo : (∃ h : k < s.size, bt s k ≠ 32) ∨ (s.size ≤ k ∨ bt s k = 32) := by
        by_cases h : k < s.size
        · by_cases e : bt s k = 32
          · exact Or.inr (Or.inr e)
          · exact Or.inl ⟨h, e⟩
        · exact Or.inr (Or.inl (by omega))
      rcases hgo with ⟨hks, hne⟩ | hcut
      · have HN := Lib.hid (spS_go HS.out hks hne)
        have hnz : ((s[k].toNat : Int) != 32) = true := by rw [← bt_eq s k hks]; simpa using hne
        have hnz2 : ((s[k].toNat : Int) == 32) = false := by rw [← bt_eq s k hks]; simpa using hne
        have hksz : (k : Int) < (s.size : Int) := by omega
        clear hne
        go_wp2_with fail
        go_roundw
        case rel => exact ⟨k + 1, f, L, by go_num, rfl, by omega, by omega, hL, HO.out, HB, HN⟩
        case measure => simp [intOf]; omega
      · have hcz : (¬ (k : Int) < (s.size : Int)) ∨ ((k : Int) < (s.size : Int) ∧ ∃ h : k < s.size, ((s[k].toNat : Int) != 32) = false ∧ ((s[k].toNat : Int) == 32) = true) := by
          by_cases h : k < s.size
          · refine Or.inr ⟨by omega, h, ?_⟩
            have e : bt s k = 32 := by rcases hcut with c | c; omega; exact c
            rw [← bt_eq s k h, e]; decide
          · exact Or.inl (by omega)
        by_cases hfk : f < k
        · have HN := Lib.hid (spS_cut HS.out hcut hfk)
          have hfz : (f : Int) < (k : Int) := by omega
          clear hcut
          rcases hcz with hcz | ⟨hcz, hks, hq1, hq2⟩
          all_goals
            have hrow : ∀ q, u3.ownBlock = some q → w.heap.size ≤ q := fun q hq => (World.ownsRow.lt HO.out q hq).1
            go_wp2_with (at_builtin; refine wpList_append_own _ rfl _ _ 24 rfl w.heap.size 9 i0 (.string ByteArray.empty) 1 16 Try.underlying24 hi hz0 hz1 hz2 rfl (by decide) _ _ _ rfl (HO.out.alloc _) ⟨wr.heap.size, 0, none⟩ 1 1 [.string (s.extract f k)] rfl rfl (cell_one_new _ _ _) (by simp [Value.oneCell']) (by unfold maxLen; omega) (by omega) (by have := HB.out.size; simp; omega) ?_; intro v' w3 hown' hgrow _; have HO3 : Hid (w3.ownsRow w.heap.size 9 1 v' (L ++ [s.extract f k]).length (strs18 (L ++ [s.extract f k]))) := Lib.hid (by rw [strs18_snoc, List.length_append, List.length_singleton]; exact hown'); have HB3 : Hid (Below w.heap.size w w3) := Lib.hid ((HB.out.alloc HB.out.size _).trans (below_grownW hgrow hrow (by have := HB.out.size; simp; omega))); clear hown' hgrow hrow)
            go_roundw
            case rel => exact ⟨k + 1, k + 1, L ++ [s.extract f k], by go_num, by go_num, by omega, by omega, by rw [List.length_append, List.length_singleton]; omega, HO3.out, HB3, HN⟩
            case measure => simp [intOf]; omega
        · have HN := Lib.hid (spS_no HS.out hcut hfk)
          have hfz : ¬ (f : Int) < (k : Int) := by omega
          clear hcut
          rcases hcz with hcz | ⟨hcz, hks, hq1, hq2⟩
          all_goals
            go_wp2_with fail
            go_roundw
            case rel => exact ⟨k + 1, k + 1, L, by go_num, by go_num, by omega, by omega, by omega, HO.out, HB, HN⟩
            case measure => simp [intOf]; omega
    · have hke : k = s.size + 1 := by omega
      have hlz : ¬ (k : Int) < (s.size : Int) + 1 := by omega
      have hLL : L = all := by have h1 := HS.out; have h2 := HALL.out; unfold wordsS at h2; rw [← hke, h1] at h2; exact h2
      subst hLL
      obtain ⟨a, c, hv, h1, h2, h3⟩ := ws_own HO.out
      subst hv
      have H3 := Lib.hid h3
      clear h3 HO
      go_wp2_with fail
      go_ret
      exact ⟨a, c, rfl, h1, h2, HB.out, H3.out⟩
end Go.Proofs.Ytekmgpbolbkiaaa
