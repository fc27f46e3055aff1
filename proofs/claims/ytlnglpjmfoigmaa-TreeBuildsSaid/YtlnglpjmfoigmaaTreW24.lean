/- Layer 4: Words; what is closed. -/
import Derived.Test.YtlnglpjmfoigmaaTreW23
namespace Go.Proofs.Ytlnglpjmfoigmaa
open Go.RowKit TreN TreP
set_option linter.unusedVariables false

/-- a node of words -/
def wordN (s : ByteArray) : Nd := ⟨0, ⟨#[]⟩, ⟨#[]⟩, none, 0, 0, none, 0, 0, s, fun _ => ⟨#[]⟩, fun _ => ⟨#[]⟩, fun _ => ⟨#[]⟩⟩
theorem wordN_in (w : World) (s : ByteArray) (hs : s.size ≤ maxLen) : NdIn w (wordN s) := ⟨Nat.zero_le _, Nat.zero_le _, hs, Nat.zero_le _, Nat.zero_le _, fun i hi => absurd hi (Nat.not_lt_zero i), fun i hi => absurd hi (Nat.not_lt_zero i), fun i hi => absurd hi (Nat.not_lt_zero i), Or.inl rfl, Or.inl rfl⟩
theorem wordN_val (s : ByteArray) : (wordN s).val = #[.int .i64 0, .string ⟨#[]⟩, .string ⟨#[]⟩, .slice none 0 0, .slice none 0 0, .string s] := rfl

set_option maxRecDepth 100000 in
set_option maxHeartbeats 2000000 in
theorem Words_bad (w0 w : World) (P : Nat) (na oa : Option Addr) (nc oc K : Nat) (D : Nat → Nd) (N : Nat) (O : List Nat) (s : ByteArray) (h : BdAt w0 w P (.slice na N nc) (.slice oa K oc) D N O) (hK : K ≤ 1000) (hs : s.size ≤ maxLen) (hbad : K = 0 ∨ textB s = false) :
    Calls Try.prog 35 #[.pointer (some ⟨P, 0, none⟩), .string s] w fun e w' => e = .returned (.int .i64 34) ∧ w' = w := by
  have T := fun W => Text_any s hs W
  obtain ⟨tx, htx⟩ : ∃ x, textB s = x := ⟨_, rfl⟩
  rw [htx] at T hbad
  have HT := Lib.hid T
  have p1 : w.cell? ⟨P, 1, none⟩ = some (.slice oa K oc) := cell_of h.box rfl
  clear h T htx
  by_cases hk0 : K = 0
  · subst hk0
    go_enter Try.func35, Try.ntmps35
    go_wp2_with fail
    go_ret
    exact ⟨rfl, rfl⟩
  · have hz3 : ((K : Int) == 0) = false := by rw [beq_eq_false_iff_ne]; omega
    have htr : tx = false := by rcases hbad with q | q; exact absurd q hk0; exact q
    subst htr
    clear hbad
    go_enter Try.func35, Try.ntmps35
    go_wp2_with fail
    refine (HT.out _).mono ?_
    rintro e w2 ⟨rfl, rfl⟩
    go_wp2_with fail
    go_ret
    exact ⟨rfl, rfl⟩

set_option maxRecDepth 100000 in
set_option maxHeartbeats 2000000 in
theorem Words_put (E : Int) (R : World → Prop) (w0 w : World) (P : Nat) (na oa : Option Addr) (nc oc K : Nat) (D : Nat → Nd) (N : Nat) (O : List Nat) (s : ByteArray) (h : BdAt w0 w P (.slice na N nc) (.slice oa K oc) D N O) (hK : K ≤ 1000) (hs : s.size ≤ maxLen) (hk0 : 0 < K) (htx : textB s = true)
    (hp : Calls Try.prog 57 #[.pointer (some ⟨P, 0, none⟩), .agg (wordN s).val] w fun e w' => e = .returned (.int .i64 E) ∧ R w') :
    Calls Try.prog 35 #[.pointer (some ⟨P, 0, none⟩), .string s] w fun e w' => e = .returned (.int .i64 E) ∧ R w' := by
  have T := fun W => Text_any s hs W
  rw [htx] at T
  rw [wordN_val] at hp
  have HT := Lib.hid T
  have HP := Lib.hid hp
  have p1 : w.cell? ⟨P, 1, none⟩ = some (.slice oa K oc) := cell_of h.box rfl
  have hz3 : ((K : Int) == 0) = false := by rw [beq_eq_false_iff_ne]; omega
  clear h T htx hp
  go_enter Try.func35, Try.ntmps35
  go_wp2_with fail
  refine (HT.out _).mono ?_
  rintro e w2 ⟨rfl, rfl⟩
  go_wp2_with fail
  refine (HP.out).mono ?_
  rintro e w3 ⟨rfl, hr⟩
  have HR := Lib.hid hr
  clear hr
  go_wp2_with fail
  go_ret
  exact ⟨rfl, HR.out⟩

/-- the last number taken away -/
theorem BdAt.popO {w0 w : World} {P : Nat} {nv : Value} {D : Nat → Nd} {N : Nat} {O : List Nat} {k g cap : Nat} (h : BdAt w0 w P nv (.slice (some ⟨g, 0, none⟩) (O.length + 1) cap) D N (O ++ [k])) :
    BdAt w0 (w.drew.setCell ⟨P, 1, none⟩ (.slice (some ⟨g, 0, none⟩) O.length cap)) P nv (.slice (some ⟨g, 0, none⟩) O.length cap) D N O := by
  have hP : P < w.heap.size := by
    obtain ⟨hlt, _⟩ := Array.getElem?_eq_some_iff.1 h.box
    exact hlt
  have hd := h.keep ((Below.refl w.heap.size w).drew)
  have hblk : ∀ q, q ≠ P → (w.drew.setCell ⟨P, 1, none⟩ (.slice (some ⟨g, 0, none⟩) O.length cap)).heap[q]? = w.drew.heap[q]? := fun q h1 => setCell_there _ (by show q ≠ P; exact h1)
  have hopen : w.drew.ownsRow (P + 1) 3 1 (.slice (some ⟨g, 0, none⟩) O.length cap) O.length (ins O) := by
    obtain ⟨q1, q2⟩ := hd.open_
    refine ⟨by rw [ins_length, Nat.mul_one], ?_⟩
    rcases q2 with ⟨hv, _⟩ | ⟨g', cp, cur, hv, hg, hh, hle, hm, hsz, htk⟩
    · cases hv
    · injection hv with hv1 hv2 hv3
      injection hv1 with hv1; injection hv1 with hv1 _
      subst hv1; subst hv3
      rw [List.length_append] at hle htk
      simp only [List.length_singleton, Nat.mul_one] at hle htk
      refine Or.inr ⟨g, cap, cur, rfl, hg, hh, by omega, hm, hsz, ?_⟩
      rw [Nat.mul_one]
      have : (cur.toList.take (O.length + 1)).take O.length = (ins (O ++ [k])).take O.length := by rw [htk]
      rw [List.take_take, Nat.min_eq_left (by omega)] at this
      rw [this]
      unfold ins
      rw [List.map_append, List.take_left' (by rw [List.length_map])]
  have hsz : (w.drew.setCell ⟨P, 1, none⟩ (.slice (some ⟨g, 0, none⟩) O.length cap)).heap.size = w.drew.heap.size := setCell_size _ _ _
  refine ⟨setCell_here (k := 1) _ hd.box, ?_, ?_, h.two, fun i hi => ?_, h.base, hd.bel.setCell (p := ⟨P, 1, none⟩) h.base _⟩
  · exact ownsRow_stay hd.nodes (fun q hq => hblk q (by have := (own_lt hd.nodes hq).1; omega))
  · exact ownsRow_setCell_below hopen (a := ⟨P, 1, none⟩) (Nat.lt_succ_self P) _
  · refine (hd.all i hi).turn (by rw [hsz]; exact Nat.le_refl _) (fun q q1 q2 q3 q4 => ⟨fun j => ?_, q3, q4⟩)
    simp only [World.cell?]
    rw [hblk q (by omega)]
end Go.Proofs.Ytlnglpjmfoigmaa
