/- The walk of layer 5's reference: Cut. -/
import Derived.Test.YtoaenlbbochjhaaLexR4
import Derived.Test.YtoaenlbbochjhaaLexPs
import Derived.Test.YtoaenlbbochjhaaLexJa
namespace Go.Proofs.Ytoaenlbbochjhaa
open Go.RowKit TreN LexP FixP

/-- a list of tokens that a call answers alone -/
def ToldList (w : World) (l : List Tok) (e : Ending) (w' : World) : Prop := ∃ a cap, e = .returned (.slice a l.length cap) ∧ Tks w' a l ∧ Below w.heap.size w w'
def ToldCap (w : World) (l : List Tok) (e : Ending) (w' : World) : Prop := ∃ a cap, e = .returned (.slice a l.length cap) ∧ Tks w' a l ∧ Below w.heap.size w w' ∧ l.length ≤ cap ∧ cap ≤ maxLen
theorem Tks_ownC {w : World} {base : Nat} {e : TypeId} {v : Value} {l : List Tok} (h : w.ownsRow base e 3 v l.length (tkcs l)) : ∃ a cap, v = .slice a l.length cap ∧ Tks w a l ∧ l.length ≤ cap ∧ cap ≤ maxLen := by
  obtain ⟨a, cap, h1, h2⟩ := Tks_own h
  refine ⟨a, cap, h1, h2, ?_⟩
  rcases h.2 with ⟨hv, h0⟩ | ⟨g, cp, cur, hv, _, _, h3, h4, _⟩
  · rw [hv] at h1; injection h1 with _ _ h1; subst h1
    exact ⟨by omega, Nat.zero_le _⟩
  · rw [hv] at h1; injection h1 with _ _ h1; subst h1
    exact ⟨h3, h4⟩
theorem below_grownT {w a b : World} {row : Option Nat} (hg : a.grownBy b row) (hr : ∀ q, row = some q → w.heap.size ≤ q) (hw : w.heap.size ≤ a.heap.size) : Below w.heap.size a b := (Below.refl _ _).grown hg hw hr

set_option maxRecDepth 100000 in
set_option maxHeartbeats 2000000 in
theorem refCut_cap (s : ByteArray) (w : World) (hs : s.size ≤ 40000) : Calls Try.prog 30 #[.string s] w (ToldCap w (cut s.data.toList)) := by
  obtain ⟨i0, hi0, hz0, hz1, hz2⟩ := info_parts info_token
  have hct := (cut_texts _ s.data.toList (Nat.le_refl _)).1
  rw [len_data] at hct
  obtain ⟨all, hall⟩ : ∃ all, cut s.data.toList = all := ⟨_, rfl⟩
  rw [hall] at hct ⊢
  have HALL := Lib.hid hall
  clear hall
  go_enter Try.func30, Try.ntmps30
  go_wp2_with fail
  go_loopw [3, 4] (fun v i wr => ∃ (p : Nat) (dn : List Tok), i = .int .i64 (p : Int) ∧ p ≤ s.size ∧ wr.ownsRow w.heap.size 61 3 v dn.length (tkcs dn) ∧ Hid (Below w.heap.size w wr) ∧ Hid (dn ++ cut (s.data.toList.drop p) = all)) (fun _ i _ => s.size - (intOf i).toNat)
  case atStart => exact ⟨0, [], rfl, by omega, World.ownsRow_nil w _ _ 3, Below.refl _ _, HALL.out⟩
  case round =>
    obtain ⟨p, dn, rfl, hp, hown, HB, HD⟩ := hrel
    by_cases hlt : p < s.size
    · have hltz : (p : Int) < (s.size : Int) := by omega
      have C := refOne_any s p wr hs hlt
      unfold OneTold at C
      have hd := drop_consR s p hlt
      have hbd := one_bd s[p] (s.data.toList.drop (p + 1))
      have hck := cut_cons s[p] (s.data.toList.drop (p + 1))
      have hkind := one_kind s[p] (s.data.toList.drop (p + 1))
      change ∀ t, (one (s[p] :: s.data.toList.drop (p + 1))).1 = some t → 1 ≤ t.kind at hkind
      rw [← hd] at hbd hck hkind
      rw [List.length_drop, len_data] at hbd
      have hdn := HD.out
      rw [hck, List.drop_drop] at hdn
      have hle := HB.out.size
      generalize one (s.data.toList.drop p) = X at *
      obtain ⟨o, n⟩ := X
      simp only [] at hbd hdn hkind C
      obtain ⟨E, hE⟩ : ∃ E, p + n = E := ⟨_, rfl⟩
      rw [hE] at hdn C
      have hEs : E ≤ s.size := by omega
      have hpE : p < E := by omega
      cases o with
      | none =>
        simp only [Option.getD] at C
        have C : Calls Try.prog 46 #[.string s, .int .i64 (p : Int)] wr fun e w' => e = .returned (.tuple #[.agg #[.int .i64 0, .string ⟨#[]⟩, .int .i64 0], .int .i64 (E : Int)]) ∧ Below wr.heap.size wr w' := C
        have hdn : dn ++ cut (s.data.toList.drop E) = all := hdn
        have HC := Lib.hid C
        have HDN := Lib.hid hdn
        have HO := Lib.hid hown
        clear C hdn hck hkind hd hbd hE hown
        go_wp2_with fail
        refine (HC.out).mono ?_
        rintro e w1 ⟨rfl, hb⟩
        have hown1 : (w1.alloc (.cells #[.int .i64 0, .string ⟨#[]⟩, .int .i64 0] 61)).ownsRow w.heap.size 61 3 u3 dn.length (tkcs dn) := (ownsRow_below HO.out hb).alloc _
        have hbel1 : Below w.heap.size w (w1.alloc (.cells #[.int .i64 0, .string ⟨#[]⟩, .int .i64 0] 61)) := (HB.out.trans (hb.mono hle)).alloc (by have := hb.size; omega) _
        have HO1 := Lib.hid hown1
        have HB1 := Lib.hid hbel1
        clear hb hown1 hbel1
        go_wp2_with fail
        go_roundw
        case rel => exact ⟨E, dn, rfl, hEs, HO1.out, HB1, HDN⟩
        case measure => simp [intOf]; omega
      | some t =>
        obtain ⟨k, x, nn⟩ := t
        simp only [Option.getD] at C
        have C : Calls Try.prog 46 #[.string s, .int .i64 (p : Int)] wr fun e w' => e = .returned (.tuple #[.agg #[.int .i64 k, .string ⟨x.toArray⟩, .int .i64 nn], .int .i64 (E : Int)]) ∧ Below wr.heap.size wr w' := C
        have hk1 : 1 ≤ k := hkind _ rfl
        have hdn : (dn ++ [(⟨k, x, nn⟩ : Tok)]) ++ cut (s.data.toList.drop E) = all := by rw [← hdn]; simp
        have hdl : dn.length ≤ 40000 := by
          have := congrArg List.length hdn
          simp at this; omega
        have HC := Lib.hid C
        have HDN := Lib.hid hdn
        have HO := Lib.hid hown
        have hkz : (0 : Int) < k := by omega
        clear C hdn hck hkind hd hbd hE hown
        go_wp2_with fail
        refine (HC.out).mono ?_
        rintro e w1 ⟨rfl, hb⟩
        have hown1 : (w1.alloc (.cells #[.int .i64 k, .string ⟨x.toArray⟩, .int .i64 nn] 61)).ownsRow w.heap.size 61 3 u3 dn.length (tkcs dn) := (ownsRow_below HO.out hb).alloc _
        have hsz1 := hb.size
        have hbel1 : Below w.heap.size w (w1.alloc (.cells #[.int .i64 k, .string ⟨x.toArray⟩, .int .i64 nn] 61)) := (HB.out.trans (hb.mono hle)).alloc (by omega) _
        have hrow : ∀ q, u3.ownBlock = some q → w.heap.size ≤ q := fun q hq => (World.ownsRow.lt hown1 q hq).1
        have HB1 := Lib.hid hbel1
        clear hb hbel1
        go_wp2_with (at_builtin; refine wpList_append_own _ rfl _ _ 50 rfl w.heap.size 61 i0 _ 3 32 und_tokens hi0 hz0 hz1 hz2 rfl (by decide) _ _ _ rfl (hown1.alloc _) ⟨w1.heap.size + 1, 0, none⟩ 1 1 (tkcs [(⟨k, x, nn⟩ : Tok)]) rfl (tkcs_length _) ?c1 (tkcs_one _) ?c3 ?c4 ?c5 ?_)
        case c1 =>
          have e : w1.heap.size + 1 = (w1.alloc (.cells #[.int .i64 k, .string ⟨x.toArray⟩, .int .i64 nn] 61)).heap.size := by simp
          rw [e]
          exact tkcs_news _ _ _ (heap_alloc_new _ _) rfl
        case c3 => unfold maxLen; omega
        case c4 => omega
        case c5 => simp; omega
        intro v' w3 hown' hgrow _
        rw [← tkcs_append] at hown'
        have hbel3 : Below w.heap.size w w3 := (HB1.out.alloc HB1.out.size _).trans (below_grownT hgrow hrow (by simp; omega))
        have hown3 : w3.ownsRow w.heap.size 61 3 v' (dn ++ [(⟨k, x, nn⟩ : Tok)]).length (tkcs (dn ++ [(⟨k, x, nn⟩ : Tok)])) := by rw [List.length_append]; exact hown'
        have HO3 := Lib.hid hown3
        have HB3 := Lib.hid hbel3
        clear hown' hgrow hrow hbel3 hown3 hown1
        go_wp2_with fail
        go_roundw
        case rel => exact ⟨E, dn ++ [(⟨k, x, nn⟩ : Tok)], rfl, hEs, HO3.out, HB3, HDN⟩
        case measure => simp [intOf]; omega
    · have hltz : ¬ (p : Int) < (s.size : Int) := by omega
      have hall : dn = all := by
        have := HD.out
        rw [List.drop_of_length_le (by rw [len_data]; omega), cut_nil, List.append_nil] at this
        exact this
      subst hall
      obtain ⟨a, cap, hv, hT, hc1, hc2⟩ := Tks_ownC hown
      subst hv
      have HT := Lib.hid hT
      clear hown hT
      go_wp2_with fail
      go_ret
      exact ⟨a, cap, rfl, HT.out, HB.out, hc1, hc2⟩
theorem refCut_any (s : ByteArray) (w : World) (hs : s.size ≤ 40000) : Calls Try.prog 30 #[.string s] w (ToldList w (cut s.data.toList)) :=
  (refCut_cap s w hs).mono (by rintro e w' ⟨a, cap, h1, h2, h3, _, _⟩; exact ⟨a, cap, h1, h2, h3⟩)
end Go.Proofs.Ytoaenlbbochjhaa
