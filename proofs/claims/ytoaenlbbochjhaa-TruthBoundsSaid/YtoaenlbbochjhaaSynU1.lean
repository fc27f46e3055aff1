/- Joined texts: SynW1 SynW2. -/
import Derived.Test.YtoaenlbbochjhaaLexE
import Derived.Test.YtoaenlbbochjhaaSynPP
import Derived.Handy
namespace Go.Proofs.Ytoaenlbbochjhaa
open Go.RowKit TreN LexP FixP SynP
set_option linter.unusedVariables false

def lenV : Value → Nat
  | .slice _ n _ => n
  | _ => 0
/-- a list of tokens, as a value -/
def Sl (w : World) (v : Value) (l : List Tok) : Prop := ∃ a cap, v = .slice a l.length cap ∧ l.length ≤ cap ∧ cap ≤ maxLen ∧ Tks w a l
theorem Sl.below {w w' : World} {v : Value} {l : List Tok} (h : Sl w v l) (hb : Below w.heap.size w w') : Sl w' v l := by
  obtain ⟨a, cap, h1, h2, h3, h4⟩ := h
  exact ⟨a, cap, h1, h2, h3, h4.below hb⟩
theorem Tks.part {w : World} {b o : Nat} {l : List Tok} (h : Tks w (some ⟨b, o, none⟩) l) (lo hi : Nat) : Tks w (some ⟨b, o + lo * 3, none⟩) ((l.take hi).drop lo) := by
  by_cases h0 : (l.take hi).drop lo = []
  · exact Or.inl h0
  · have hlen : lo < (l.take hi).length := by
      have := List.length_pos_iff.2 h0
      rw [List.length_drop] at this
      omega
    rw [List.length_take] at hlen
    rcases h with h | ⟨b2, o2, e, h1, h2⟩
    · subst h; simp at hlen
    · injection e with e; injection e with e1 e2; subst e1; subst e2
      refine Or.inr ⟨b, _, rfl, h1, fun i hi' => ?_⟩
      rw [List.length_drop, List.length_take] at hi'
      have := h2 (lo + i) (by omega)
      have e2 : o + (lo + i) * 3 = o + lo * 3 + i * 3 := by omega
      rw [e2] at this
      have e3 : ((l.take hi).drop lo)[i] = l[lo + i]'(by omega) := by
        rw [List.getElem_drop, List.getElem_take]
      rw [e3]; exact this
theorem sliced_tok (a : Option Addr) (l : List Tok) (cap lo hi : Nat) (h1 : lo ≤ hi) (h2 : hi ≤ l.length) (h3 : l.length ≤ cap) (h4 : cap ≤ maxLen) :
    ∃ a2, sliced a lo hi cap 3 = .slice a2 (hi - lo) (cap - lo) ∧ ∀ W : World, Tks W a l → Tks W a2 ((l.take hi).drop lo) := by
  obtain ⟨a2, ha⟩ : ∃ a2, sliced a lo hi cap 3 = .slice a2 (hi - lo) (cap - lo) := ⟨_, by unfold sliced; rfl⟩
  refine ⟨a2, ha, fun W hW => ?_⟩
  by_cases h0 : (l.take hi).drop lo = []
  · exact Or.inl h0
  · have hlen : lo < hi := by
      have := List.length_pos_iff.2 h0
      rw [List.length_drop, List.length_take] at this
      omega
    have hl0 : 0 < l.length := by omega
    rcases hW with h | ⟨b, o, e, hb, ht⟩
    · subst h; simp at hl0
    · subst e
      have : sliced (some ⟨b, o, none⟩) lo hi cap 3 = .slice (some ⟨b, o + lo * 3, none⟩) (hi - lo) (cap - lo) := by
        unfold sliced
        have hck : ¬ cap = lo := by omega
        by_cases hz : lo = 0
        · subst hz; simp [Addr.add_lit]
        · simp [hck, Addr.add_lit]
      rw [this] at ha
      injection ha with ha _ _
      rw [← ha]
      exact Tks.part (Or.inr ⟨b, o, rfl, hb, ht⟩) lo hi
theorem slice_size (W : World) : (sizeOf (Try.prog.elem 50)).run Try.prog W = .ok 3 W := by
  obtain ⟨i, hi, hz0, hz1, hz2⟩ := info_parts info_token
  have he : Try.prog.elem 50 = 61 := by kernel_rfl
  rw [he]; simp [sizeOf, typeInfo, hi, hz1]
theorem slice_und : Try.prog.underlying 50 = some (.slice (Try.prog.elem 50)) := by
  have he : Try.prog.elem 50 = 61 := by kernel_rfl
  rw [he]; exact und_tokens
/-- l[lo:] -/
theorem sl_from (a : Option Addr) (l : List Tok) (cap n lo : Nat) (hn : l.length = n) (z : Int) (hz : z = (lo : Int)) (h1 : lo ≤ n) (h3 : n ≤ cap) (h4 : cap ≤ maxLen) :
    ∃ a2, (∀ W : World, (Instr.slice 50 (.slice a n cap) (some (.int .i64 z)) none none).run Try.prog W = .ok (.slice a2 (n - lo) (cap - lo)) W) ∧
      (l.drop lo).length = n - lo ∧ n - lo ≤ cap - lo ∧ cap - lo ≤ maxLen ∧ ∀ W : World, Tks W a l → Tks W a2 (l.drop lo) := by
  subst hn
  obtain ⟨a2, h5, h6⟩ := sliced_tok a l cap lo l.length h1 (Nat.le_refl _) h3 h4
  refine ⟨a2, fun W => ?_, List.length_drop, by omega, by omega, fun W hW => ?_⟩
  · rw [run_slice_l W 50 _ _ _ slice_und .i64 z (by omega) (by omega), slice_size]
    have e : z.toNat = lo := by omega
    show Result.ok (sliced a z.toNat l.length cap 3) W = _
    rw [e, h5]
  · have := h6 W hW
    rwa [List.take_length] at this
/-- l[:hi] -/
theorem sl_to (a : Option Addr) (l : List Tok) (cap n hi : Nat) (hn : l.length = n) (z : Int) (hz : z = (hi : Int)) (h1 : hi ≤ n) (h3 : n ≤ cap) (h4 : cap ≤ maxLen) :
    ∃ a2, (∀ W : World, (Instr.slice 50 (.slice a n cap) none (some (.int .i64 z)) none).run Try.prog W = .ok (.slice a2 hi cap) W) ∧
      (l.take hi).length = hi ∧ hi ≤ cap ∧ ∀ W : World, Tks W a l → Tks W a2 (l.take hi) := by
  subst hn
  obtain ⟨a2, h5, h6⟩ := sliced_tok a l cap 0 hi (Nat.zero_le _) h1 h3 h4
  refine ⟨a2, fun W => ?_, by rw [List.length_take]; omega, by omega, fun W hW => ?_⟩
  · rw [run_slice_h W 50 _ _ _ slice_und .i64 z (by omega) (by omega), slice_size]
    have e : z.toNat = hi := by omega
    show Result.ok (sliced a 0 z.toNat cap 3) W = _
    rw [e, h5]; rfl
  · exact h6 W hW
/-- l[lo:hi] -/
theorem sl_mid (a : Option Addr) (l : List Tok) (cap n lo hi : Nat) (hn : l.length = n) (y z : Int) (hy : y = (lo : Int)) (hz : z = (hi : Int)) (h0 : lo ≤ hi) (h1 : hi ≤ n) (h3 : n ≤ cap) (h4 : cap ≤ maxLen) :
    ∃ a2, (∀ W : World, (Instr.slice 50 (.slice a n cap) (some (.int .i64 y)) (some (.int .i64 z)) none).run Try.prog W = .ok (.slice a2 (hi - lo) (cap - lo)) W) ∧
      ((l.take hi).drop lo).length = hi - lo ∧ hi - lo ≤ cap - lo ∧ cap - lo ≤ maxLen ∧ ∀ W : World, Tks W a l → Tks W a2 ((l.take hi).drop lo) := by
  subst hn
  obtain ⟨a2, h5, h6⟩ := sliced_tok a l cap lo hi h0 h1 h3 h4
  refine ⟨a2, fun W => ?_, by rw [List.length_drop, List.length_take]; omega, by omega, by omega, h6⟩
  rw [run_slice_lh W 50 _ _ _ slice_und .i64 .i64 y z (by omega) (by omega) (by omega), slice_size]
  have e1 : y.toNat = lo := by omega
  have e2 : z.toNat = hi := by omega
  show Result.ok (sliced a y.toNat z.toNat cap 3) W = _
  rw [e1, e2, h5]

end Go.Proofs.Ytoaenlbbochjhaa

namespace Go.Proofs.Ytoaenlbbochjhaa
open Go.RowKit TreN LexP FixP SynP
set_option linter.unusedVariables false

/-- what a call on a list of tokens answers: a list of them -/
def SlIs (w : World) (l : List Tok) (e : Ending) (w' : World) : Prop := ∃ a2 cap2, e = .returned (.slice a2 l.length cap2) ∧ l.length ≤ cap2 ∧ cap2 ≤ maxLen ∧ Tks w' a2 l

set_option maxRecDepth 100000 in
/-- append(nil, tokens) -/
theorem copy_toks (a : Option Addr) (l : List Tok) (c : Nat) (w : World) (hl : l.length ≤ 100000) (hT : Tks w a l) :
    ∃ a' c' w', (Builtin.append_ #[50, 50] 50 #[.slice none 0 0, .slice a l.length c]).run Try.prog w = .ok (.slice a' l.length c') w' ∧ l.length ≤ c' ∧ c' ≤ maxLen ∧ Tks w' a' l ∧ (l ≠ [] → ∃ b o, a' = some ⟨b, o, none⟩ ∧ w.heap.size ≤ b) ∧ Below w.heap.size w w' := by
  obtain ⟨i, hi, hz0, hz1, hz2⟩ := info_parts info_token
  by_cases h0 : l = []
  · subst h0
    refine ⟨none, 0, w, ?_, Nat.le_refl _, Nat.zero_le _, Or.inl rfl, fun h => absurd rfl h, Below.refl _ _⟩
    cases a with
    | none => exact run_append_owned_none (P := Try.prog) w w.heap.size 50 50 61 i 3 und_tokens hi _ 0 [] (World.ownsRow_nil w _ _ 3)
    | some ad => simp [Builtin.append_, run_underlying und_tokens, sizeOf, typeInfo, hi, Builtin.lenOf, Builtin.firstCells, loadCells, loadCellsFrom]
  · rcases hT with hT | ⟨b, o, rfl, hb, hT⟩
    · exact absurd hT h0
    · have news : ∀ (j : Nat) (u : Value), (tkcs l)[j]? = some u → w.cell? ((⟨b, o, none⟩ : Addr).add j) = some u := by
        intro j u hj
        by_cases hjn : j < l.length * 3
        · obtain ⟨p, hp⟩ : ∃ p, j / 3 = p := ⟨_, rfl⟩
          have hpl : p < l.length := by omega
          obtain ⟨k1, k2, k3⟩ := tkcs_get l p hpl
          have ht := hT p hpl
          rw [Addr.add_lit]
          rcases (by omega : j = p * 3 ∨ j = p * 3 + 1 ∨ j = p * 3 + 2) with e | e | e
          · subst e
            rw [k1] at hj; injection hj with hj; subst hj
            exact ht.kind
          · subst e
            rw [k2] at hj; injection hj with hj; subst hj
            exact ht.text
          · subst e
            rw [k3] at hj; injection hj with hj; subst hj
            exact ht.n
        · rw [List.getElem?_eq_none (by rw [tkcs_length]; omega)] at hj
          cases hj
      have hpos := List.length_pos_iff.2 h0
      obtain ⟨v', w', hr, h2, h3, _⟩ := run_append_own (P := Try.prog) w w.heap.size 50 50 61 i _ 3 32 und_tokens hi hz0 hz1 hz2 (by rfl) (by omega) (.slice none 0 0) 0 [] (World.ownsRow_nil w _ _ 3) ⟨b, o, none⟩ l.length c (tkcs l) (tkcs_length l) news (tkcs_one l) (by unfold maxLen; omega) (by omega) (Nat.le_refl _)
      rw [Nat.zero_add, List.nil_append] at h2
      have h2' := h2
      obtain ⟨g, cap, rfl, hg, hgl⟩ := h2.form hpos
      rcases h2'.2 with ⟨hv, _⟩ | ⟨g2, cap2, cur, hv, hg2, hh, hle, hcm, _⟩
      · injection hv with hv; cases hv
      · injection hv with hv1 hv2 hv3
        injection hv1 with hv1; injection hv1 with hv1
        subst hv1; subst hv3
        obtain ⟨a3, c3, hv, hT3⟩ := Tks_own h2'
        injection hv with hv4 _ hv5
        subst hv4; subst hv5
        exact ⟨_, _, w', hr, hle, hcm, hT3, fun _ => ⟨g, 0, rfl, hg⟩, (Below.refl _ _).grown h3 (Nat.le_refl _) (fun q hq => by cases hq)⟩

set_option maxRecDepth 100000 in
set_option maxHeartbeats 1000000 in
theorem wpList_append_runS {P : Program} {ops : Array Oper} {rest : List Oper} {o : Oper} {a : Act} {Q : Exit → Act → World → Prop} {w : World} (hgd : o.guard = none) (s x : Operand) (t : TypeId)
    (ho : o.op = .call { callee := .builtin .append, args := #[s, x], argTypes := #[t, t] }) (vs vx v : Value) (w' : World) (hs : a.eval s = vs) (hx : a.eval x = vx)
    (hr : (Builtin.append_ #[t, t] o.type #[vs, vx]).run P w = .ok v w') (h : wpList P ops Q rest (a.put o.dst v) w') : wpList P ops Q (o :: rest) a w := by
  refine wpList_plain hgd fun K hK => ?_
  unfold Oper.wp execOp
  simp only [ho, resolve, invoke, builtin, Sem.run_bind, Sem.run_pure, Result.andThen_ok, List.map_toArray, List.map_cons, List.map_nil, hs, hx, hr]
  exact hK _ _ h

end Go.Proofs.Ytoaenlbbochjhaa
