/- Joined texts: AppT LexSa. -/
import Derived.Test.YtoaenlbbochjhaaLexE
import Derived.OwnWalk
import Derived.Test.YtoaenlbbochjhaaLexJa
import Derived.Test.YtoaenlbbochjhaaLexT3
import Derived.Test.YtoaenlbbochjhaaLexQ
import Derived.Deep.RegionHeld3
import Derived.Deep.RegionWith
namespace Go.Proofs.Ytoaenlbbochjhaa
open Go.RowKit TreN LexP FixP FixM
set_option linter.unusedVariables false

set_option maxRecDepth 100000 in
/-- an append whose outcome is known -/
theorem wpList_append_runL {P : Program} {ops : Array Oper} {rest : List Oper} {o : Oper} {a : Act} {Q : Exit → Act → World → Prop} {w : World} (hgd : o.guard = none) (s x : Operand) (t : TypeId)
    (ho : o.op = .call { callee := .builtin .append, args := #[s, x], argTypes := #[t, t] }) (vs vx v : Value) (w' : World) (hs : a.eval s = vs) (hx : a.eval x = vx)
    (hr : (Builtin.append_ #[t, t] o.type #[vs, vx]).run P w = .ok v w') (h : wpList P ops Q rest (a.put o.dst v) w') : wpList P ops Q (o :: rest) a w := by
  refine wpList_plain hgd fun K hK => ?_
  unfold Oper.wp execOp
  simp only [ho, resolve, invoke, builtin, Sem.run_bind, Sem.run_pure, Result.andThen_ok, List.map_toArray, List.map_cons, List.map_nil, hs, hx, hr]
  exact hK _ _ h

set_option maxRecDepth 100000 in
/-- tokens put behind tokens of an own row -/
theorem app_toks (H : Nat) (v : Value) (xs : List Tok) (a : Option Addr) (l : List Tok) (c : Nat) (w : World) (hH : H ≤ w.heap.size) (hx : xs.length ≤ 10000) (hl : l.length ≤ 10000) (hown : w.ownsRow H 61 3 v xs.length (tkcs xs)) (hT : Tks w a l) :
    ∃ v' w', (Builtin.append_ #[50, 50] 50 #[v, .slice a l.length c]).run Try.prog w = .ok v' w' ∧ w'.ownsRow H 61 3 v' (xs ++ l).length (tkcs (xs ++ l)) ∧ Below H w w' := by
  obtain ⟨i, hi, hz0, hz1, hz2⟩ := info_parts info_token
  by_cases h0 : l = []
  · subst h0
    refine ⟨v, w, ?_, by rw [List.append_nil]; exact hown, Below.refl _ _⟩
    cases a with
    | none => exact run_append_owned_none (P := Try.prog) w H 50 50 61 i 3 und_tokens hi _ xs.length (tkcs xs) hown
    | some ad =>
      rcases hown.2 with ⟨hv, _⟩ | ⟨g, cap, cur, hv, _, _, hcap, _⟩
      · subst hv
        simp [Builtin.append_, run_underlying und_tokens, sizeOf, typeInfo, hi, Builtin.lenOf, Builtin.firstCells, loadCells, loadCellsFrom]
      · subst hv
        simp [Builtin.append_, run_underlying und_tokens, sizeOf, typeInfo, hi, Builtin.lenOf, Builtin.firstCells, loadCells, loadCellsFrom, hcap, storeCells]
  · rcases hT with hT | ⟨b, o, rfl, hb, hT⟩
    · exact absurd hT h0
    · have news : ∀ (j : Nat) (u : Value), (tkcs l)[j]? = some u → w.cell? ((⟨b, o, none⟩ : Addr).add j) = some u := by
        intro j u hj
        by_cases hjn : j < l.length * 3
        · obtain ⟨p, hp⟩ : ∃ p, j / 3 = p := ⟨_, rfl⟩
          have hpl : p < l.length := by omega
          obtain ⟨k1, k2, k3⟩ := tkcs_get l p hpl
          have ht := hT p hpl
          rw [Addr.add_lit]
          rcases (by omega : j = p * 3 ∨ j = p * 3 + 1 ∨ j = p * 3 + 2) with e | e | e
          · subst e
            rw [k1] at hj; injection hj with hj; subst hj
            exact ht.kind
          · subst e
            rw [k2] at hj; injection hj with hj; subst hj
            exact ht.text
          · subst e
            rw [k3] at hj; injection hj with hj; subst hj
            exact ht.n
        · rw [List.getElem?_eq_none (by rw [tkcs_length]; omega)] at hj
          cases hj
      have hpos := List.length_pos_iff.2 h0
      obtain ⟨v', w', hr, h2, h3, _⟩ := run_append_own (P := Try.prog) w H 50 50 61 i _ 3 32 und_tokens hi hz0 hz1 hz2 (by rfl) (by omega) v xs.length (tkcs xs) hown ⟨b, o, none⟩ l.length c (tkcs l) (tkcs_length l) news (tkcs_one l) (by unfold maxLen; omega) (by omega) hH
      refine ⟨v', w', hr, by rw [List.length_append, tkcs_append]; exact h2, (Below.refl _ _).grown h3 hH (fun q hq => (World.ownsRow.lt hown q hq).1)⟩
end Go.Proofs.Ytoaenlbbochjhaa

namespace Go.Proofs.Ytoaenlbbochjhaa
open Go.RowKit TreN LexP FixP FixM
set_option linter.unusedVariables false

theorem size_txS (l : List UInt8) : (⟨l.toArray⟩ : ByteArray).data.toList = l := by simp
theorem prT_oneS (l : List Tok) (h : 0 < l.length) : prT l 1 = tx l[0] := by
  cases l with
  | nil => simp at h
  | cons a l => rfl
theorem TkAt.drewN {w : World} {b o : Nat} {t : Tok} (h : TkAt w b o t) (q : Nat) : TkAt (w.drewN q) b o t := ⟨h.kind, h.text, h.n⟩
/-- two tokens of a list -/
theorem slice_two (b o n cap j k : Nat) (hj : k = j + 1) (hk : k < n) (hc : n ≤ cap) : (∀ W : World, (Instr.slice 50 (.slice (some ⟨b, o, none⟩) n cap) (some (.int .i64 (j : Int))) (some (.int .i64 ((k : Int) + 1))) none).run Try.prog W = .ok (.slice (some ⟨b, o + j * 3, none⟩) 2 (cap - j)) W) ∧
    (∀ W : World, (Instr.sliceAt 50 (.slice (some ⟨b, o, none⟩) n cap) (some (.int .i64 (j : Int))) (some (.int .i64 ((k : Int) + 1))) none).run Try.prog W = .ok (.slice (some ⟨b, o + j * 3, none⟩) 2 (cap - j)) W) := by
  obtain ⟨i, hi, hz0, hz1, hz2⟩ := info_parts info_token
  have he : Try.prog.elem 50 = 61 := by kernel_rfl
  have hu : Try.prog.underlying 50 = some (.slice (Try.prog.elem 50)) := by rw [he]; exact und_tokens
  have hs : ∀ W : World, (sizeOf (Try.prog.elem 50)).run Try.prog W = .ok 3 W := fun W => by rw [he]; simp [sizeOf, typeInfo, hi, hz1]
  have h1 : ∀ W : World, (Instr.slice 50 (.slice (some ⟨b, o, none⟩) n cap) (some (.int .i64 (j : Int))) (some (.int .i64 ((k : Int) + 1))) none).run Try.prog W = .ok (.slice (some ⟨b, o + j * 3, none⟩) 2 (cap - j)) W := fun W => by
    rw [run_slice_lh W 50 _ _ _ hu .i64 .i64 (j : Int) ((k : Int) + 1) (by omega) (by omega) (by omega), hs]
    have e2 : (j : Int).toNat = j := by omega
    have e3 : ((k : Int) + 1).toNat = k + 1 := by omega
    have e4 : k + 1 - j = 2 := by omega
    have hck : ¬ cap = j := by omega
    show Result.ok (sliced _ _ _ _ _) W = _
    unfold sliced
    simp [e2, e3, e4, hck, Addr.add_lit]
  exact ⟨h1, fun W => by rw [run_sliceAt_slice W 50 _ _ _ _ hu, h1]⟩
theorem Tks.pair {w : World} {b o : Nat} {l : List Tok} (h : Tks w (some ⟨b, o, none⟩) l) {j : Nat} (hj : j + 1 < l.length) : Tks w (some ⟨b, o + j * 3, none⟩) [l[j], l[j + 1]] := by
  obtain ⟨b2, o2, e, h1, h2⟩ := h.get (i := j) (by omega)
  injection e with e; injection e with e1 e2; subst e1; subst e2
  obtain ⟨b3, o3, e, _, h3⟩ := h.get (i := j + 1) hj
  injection e with e; injection e with e1 e2; subst e1; subst e2
  refine Or.inr ⟨b, _, rfl, h1, fun i hi => ?_⟩
  have hi : i < 2 := hi
  rcases (by omega : i = 0 ∨ i = 1) with e | e
  · subst e; rw [Nat.zero_mul, Nat.add_zero]; exact h2
  · subst e
    have : o + j * 3 + 1 * 3 = o + (j + 1) * 3 := by omega
    rw [this]; exact h3
theorem tot_short (l : List Tok) (h : ∀ t ∈ l, t.text.length ≤ 200) (hx : ∀ t : Tok, (tx t).length ≤ t.text.length + 40) : tot l ≤ 244 * l.length := by
  induction l with
  | nil => simp [tot]
  | cons t l ih =>
    have h1 := h t List.mem_cons_self
    have h2 := hx t
    have := ih (fun t ht => h t (List.mem_cons_of_mem _ ht))
    simp only [tot, List.length_cons]
    omega
theorem len_ifS {c : Prop} [Decidable c] {a b : List UInt8} {n : Nat} (ha : a.length ≤ n) (hb : b.length ≤ n) : (if c then a else b).length ≤ n := by
  split
  · exact ha
  · exact hb
theorem len_txS (t : Tok) : (tx t).length ≤ t.text.length + 40 := by
  have hp := prn_le12 (H t.n)
  have lq : (quoT t.text).length = t.text.length + 2 := by unfold quoT; split <;> simp
  unfold tx
  generalize prn (H t.n) = y at hp ⊢
  repeat' apply len_ifS
  all_goals try simp only [List.length_append, List.length_cons, List.length_nil]
  all_goals omega

end Go.Proofs.Ytoaenlbbochjhaa
