/- Layer 15: HolderNamed. -/
import Derived.Test.YtaobaahofghkeaaHolH
namespace Go.Proofs.Ytaobaahofghkeaa
open Go.RowKit TreP FixM Go.Sort
set_option linter.unusedVariables false

theorem find_above (f : Nat → Int) (P : Nat → Bool) : ∀ n i : Nat, i < n → ∀ k1 k2 : Nat, (ups f i).find? P = some k1 → k2 ∈ ups f i → P k2 = true → k1 = k2 ∨ k2 ∈ ups f k1
  | 0, i, h => absurd h (by omega)
  | n + 1, i, h => fun k1 k2 h1 h2 h3 => by
    rcases ups_cases f i with ⟨_, e⟩ | ⟨p, hp, _, e⟩
    · rw [e] at h2; cases h2
    · rw [e] at h1 h2
      by_cases c : P p = true
      · rw [List.find?_cons_of_pos c] at h1
        injection h1 with h1
        subst h1
        rcases List.mem_cons.1 h2 with r | r
        · exact Or.inl r.symm
        · exact Or.inr r
      · rw [List.find?_cons_of_neg c] at h1
        have h2' : k2 ∈ ups f p := by
          rcases List.mem_cons.1 h2 with r | r
          · subst r; exact absurd h3 c
          · exact r
        exact find_above f P n p (by omega) k1 k2 h1 h2' h3
theorem nearP_wide {X : Nat → Ext} {m : Nat} {nm : List UInt8} {k : Nat} (h : nearP X m nm k = true) : nearP X m [] k = true := by
  unfold nearP at h ⊢
  rw [Bool.and_eq_true] at h
  rw [h.1]; rfl

set_option maxRecDepth 100000 in
set_option maxHeartbeats 8000000 in
theorem HolderNamed_walk (a : Option Addr) (len cap : Nat) (f : Nat → Int) (i : Int) (x : Option Addr) (m xc : Nat) (X : Nat → Ext) (nm : List UInt8) (w : World) (hm : m ≤ 9223372036854775807) (hP : Pars w a len f) (hX : Exts w x m X) :
    Calls Try.prog 7 #[.slice a len cap, .slice x m xc, .int .i64 i, .string ⟨nm.toArray⟩] w fun e w' => e = .returned (.bool true) ∧ Below w.heap.size w w' := by
  obtain ⟨U, hU⟩ := upsIs_any f len i
  have K := Lib.hid (fun W => known15_any W)
  have F := Lib.hid (fun W => few15_any a len cap W)
  by_cases hl : (len : Int) ≤ 100
  · rw [decide_eq_true hl] at F
    have C : Hid (∀ W, Below w.heap.size w W → Calls Try.prog 19 #[.slice a len cap, .slice x m xc, .int .i64 i, .string ⟨#[]⟩] W fun e w' => e = .returned (.int .i64 (nearS X m [] U)) ∧ Below W.heap.size W w') := Lib.hid (fun W hW => Nearest_any a len cap f i U hU (by omega) x m xc X [] W hm (hP.below hW) (hX.below hW))
    have D := Lib.hid (fun W hW => Nearest_any a len cap f i U hU (by omega) x m xc X nm W hm (hP.below hW) (hX.below hW))
    cases hf2 : U.find? (nearP X m nm) with
    | none =>
      have e2 : nearS X m nm U = -1 := firstN_none hf2
      rw [e2] at D
      generalize nearS X m [] U = z1 at C
      clear hP hX hU hl hf2 e2
      go_enter Try.func7, Try.ntmps7
      go_wp2_with fail
      refine (F.out _).mono ?_
      rintro e w' ⟨rfl, rfl⟩
      go_wp2_with fail
      refine (C.out _ (Below.refl _ _)).mono ?_
      rintro e w2 ⟨rfl, hb2⟩
      have HB2 := Lib.hid hb2
      clear hb2
      go_wp2_with fail
      refine (D.out _ HB2.out).mono ?_
      rintro e w3 ⟨rfl, hb3⟩
      have HB3 := Lib.hid (HB2.out.trans (hb3.mono HB2.out.size))
      clear hb3
      go_wp2_with fail
      refine (K.out _).mono ?_
      rintro e w4 ⟨rfl, hb4⟩
      have HB4 := Lib.hid (HB3.out.trans (hb4.mono HB3.out.size))
      clear hb4
      go_wp2_with fail
      go_ret
      exact ⟨rfl, HB4.out⟩
    | some k2 =>
      have e2 : nearS X m nm U = (k2 : Int) := firstN_some hf2
      have hm2 := List.mem_of_find?_eq_some hf2
      have hp2 := nearP_wide (List.find?_some hf2)
      obtain ⟨k1, hf1⟩ : ∃ k1, U.find? (nearP X m []) = some k1 := by
        cases h : U.find? (nearP X m []) with
        | none => have := List.find?_eq_none.1 h k2 hm2; exact absurd hp2 this
        | some k1 => exact ⟨k1, rfl⟩
      have e1 : nearS X m [] U = (k1 : Int) := firstN_some hf1
      have hlen : k1 < len ∧ (k1 = k2 ∨ k2 ∈ ups f k1) := by
        rcases hU with ⟨k, rfl, hk, rfl⟩ | ⟨_, rfl⟩
        · have := (ups_desc f (k + 1) k (by omega)).2 k1 (List.mem_of_find?_eq_some hf1)
          exact ⟨by omega, find_above f _ (k + 1) k (by omega) k1 k2 hf1 hm2 hp2⟩
        · cases hm2
      rw [e1] at C
      rw [e2] at D
      obtain ⟨hk1, hor⟩ := hlen
      have hz : ¬ (k2 : Int) < 0 := by omega
      by_cases heq : k1 = k2
      · subst heq
        clear hP hX hU hl hf2 e2 e1 hf1 hor hm2 hp2
        go_enter Try.func7, Try.ntmps7
        go_wp2_with fail
        refine (F.out _).mono ?_
        rintro e w' ⟨rfl, rfl⟩
        go_wp2_with fail
        refine (C.out _ (Below.refl _ _)).mono ?_
        rintro e w2 ⟨rfl, hb2⟩
        have HB2 := Lib.hid hb2
        clear hb2
        go_wp2_with fail
        refine (D.out _ HB2.out).mono ?_
        rintro e w3 ⟨rfl, hb3⟩
        have HB3 := Lib.hid (HB2.out.trans (hb3.mono HB2.out.size))
        clear hb3
        go_wp2_with fail
        refine (K.out _).mono ?_
        rintro e w4 ⟨rfl, hb4⟩
        have HB4 := Lib.hid (HB3.out.trans (hb4.mono HB3.out.size))
        clear hb4
        go_wp2_with fail
        go_ret
        exact ⟨rfl, HB4.out⟩
      · have hne : ((k1 : Int) == (k2 : Int)) = false := by rw [beq_eq_false_iff_ne]; omega
        have hun : undB f k1 k2 = true := by
          unfold undB
          rcases hor with h | h
          · exact absurd h heq
          · exact decide_eq_true h
        have UN := Lib.hid (fun W hW => refUnder_any a len cap f k1 k2 W hk1 (hP.below (w' := W) hW))
        rw [hun] at UN
        clear hP hX hU hl hf2 e2 e1 hf1 hor hm2 hp2 heq hun
        go_enter Try.func7, Try.ntmps7
        go_wp2_with fail
        refine (F.out _).mono ?_
        rintro e w' ⟨rfl, rfl⟩
        go_wp2_with fail
        refine (C.out _ (Below.refl _ _)).mono ?_
        rintro e w2 ⟨rfl, hb2⟩
        have HB2 := Lib.hid hb2
        clear hb2
        go_wp2_with fail
        refine (D.out _ HB2.out).mono ?_
        rintro e w3 ⟨rfl, hb3⟩
        have HB3 := Lib.hid (HB2.out.trans (hb3.mono HB2.out.size))
        clear hb3
        go_wp2_with fail
        refine (UN.out _ HB3.out).mono ?_
        rintro e w' ⟨rfl, rfl⟩
        go_wp2_with fail
        refine (K.out _).mono ?_
        rintro e w4 ⟨rfl, hb4⟩
        have HB4 := Lib.hid (HB3.out.trans (hb4.mono HB3.out.size))
        clear hb4
        go_wp2_with fail
        go_ret
        exact ⟨rfl, HB4.out⟩
  · rw [decide_eq_false hl] at F
    clear hP hX hU hl
    go_enter Try.func7, Try.ntmps7
    go_wp2_with fail
    refine (F.out _).mono ?_
    rintro e w' ⟨rfl, rfl⟩
    go_wp2_with fail
    refine (K.out _).mono ?_
    rintro e w4 ⟨rfl, hb4⟩
    have HB4 := Lib.hid hb4
    clear hb4
    go_wp2_with fail
    go_ret
    exact ⟨rfl, HB4.out⟩
end Go.Proofs.Ytaobaahofghkeaa
