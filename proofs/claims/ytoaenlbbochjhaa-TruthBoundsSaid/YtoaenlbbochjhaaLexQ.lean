/- Joined texts: LexQ1 LexQ2 LexQ3 LexQ4. -/
import Derived.Test.YtoaenlbbochjhaaLexPs
namespace Go.Proofs.Ytoaenlbbochjhaa.LexP
open FixM FixP TreN

theorem u8_all (P : UInt8 → Bool) (h : ∀ n, n < 256 → P (UInt8.ofNat n) = true) (c : UInt8) : P c = true := by
  have := h c.toNat (by have := c.toNat_lt; omega)
  rwa [UInt8.ofNat_toNat] at this
/-- facts on a letter of names -/
theorem let_facts {c : UInt8} (h : lB c = true) : gB c = true ∧ blB c = false ∧ isD c = false ∧ c.toNat ≠ 34 ∧ c.toNat ≠ 39 ∧ c.toNat ≠ 45 ∧ c.toNat ≠ 43 ∧ c.toNat ≠ 46 ∧ c.toNat ≠ 47 ∧ c.toNat ≠ 35 ∧ c.toNat ≠ 64 ∧ c.toNat ≠ 37 ∧ c.toNat ≠ 40 ∧ c.toNat ≠ 10 := by
  have := u8_all (fun c => !lB c || decide (gB c = true ∧ blB c = false ∧ isD c = false ∧ c.toNat ≠ 34 ∧ c.toNat ≠ 39 ∧ c.toNat ≠ 45 ∧ c.toNat ≠ 43 ∧ c.toNat ≠ 46 ∧ c.toNat ≠ 47 ∧ c.toNat ≠ 35 ∧ c.toNat ≠ 64 ∧ c.toNat ≠ 37 ∧ c.toNat ≠ 40 ∧ c.toNat ≠ 10)) (by decide +kernel) c
  rw [h] at this
  simpa using this
theorem dig_facts {c : UInt8} (h : isD c = true) : gB c = true ∧ blB c = false ∧ lB c = false ∧ c.toNat ≠ 34 ∧ c.toNat ≠ 39 ∧ c.toNat ≠ 45 ∧ c.toNat ≠ 43 ∧ c.toNat ≠ 46 ∧ c.toNat ≠ 47 ∧ c.toNat ≠ 35 ∧ c.toNat ≠ 64 ∧ c.toNat ≠ 37 ∧ c.toNat ≠ 40 ∧ signK c = 0 := by
  have := u8_all (fun c => !isD c || decide (gB c = true ∧ blB c = false ∧ lB c = false ∧ c.toNat ≠ 34 ∧ c.toNat ≠ 39 ∧ c.toNat ≠ 45 ∧ c.toNat ≠ 43 ∧ c.toNat ≠ 46 ∧ c.toNat ≠ 47 ∧ c.toNat ≠ 35 ∧ c.toNat ≠ 64 ∧ c.toNat ≠ 37 ∧ c.toNat ≠ 40 ∧ signK c = 0)) (by decide +kernel) c
  rw [h] at this
  simpa using this
theorem bl_facts {c : UInt8} (h : blB c = true) : gB c = false ∧ lB c = false ∧ isD c = false ∧ c.toNat ≠ 34 ∧ c.toNat ≠ 39 ∧ c.toNat ≠ 45 ∧ c.toNat ≠ 43 ∧ c.toNat ≠ 46 ∧ c.toNat ≠ 47 ∧ c.toNat ≠ 35 ∧ c.toNat ≠ 64 ∧ c.toNat ≠ 37 ∧ c.toNat ≠ 40 ∧ signK c = 0 := by
  have := u8_all (fun c => !blB c || decide (gB c = false ∧ lB c = false ∧ isD c = false ∧ c.toNat ≠ 34 ∧ c.toNat ≠ 39 ∧ c.toNat ≠ 45 ∧ c.toNat ≠ 43 ∧ c.toNat ≠ 46 ∧ c.toNat ≠ 47 ∧ c.toNat ≠ 35 ∧ c.toNat ≠ 64 ∧ c.toNat ≠ 37 ∧ c.toNat ≠ 40 ∧ signK c = 0)) (by decide +kernel) c
  rw [h] at this
  simpa using this
theorem sign_facts {c : UInt8} (h : signK c ≠ 0) : tx ⟨signK c, [], 0⟩ = [c] ∧ 10 ≤ signK c ∧ signK c ≤ 18 ∧ gB c = false ∧ lB c = false ∧ isD c = false ∧ blB c = false ∧ c.toNat ≠ 34 ∧ c.toNat ≠ 39 ∧ c.toNat ≠ 45 ∧ c.toNat ≠ 43 ∧ c.toNat ≠ 46 ∧ c.toNat ≠ 47 ∧ c.toNat ≠ 35 ∧ c.toNat ≠ 64 := by
  have := u8_all (fun c => decide (signK c = 0) || decide (tx ⟨signK c, [], 0⟩ = [c] ∧ 10 ≤ signK c ∧ signK c ≤ 18 ∧ gB c = false ∧ lB c = false ∧ isD c = false ∧ blB c = false ∧ c.toNat ≠ 34 ∧ c.toNat ≠ 39 ∧ c.toNat ≠ 45 ∧ c.toNat ≠ 43 ∧ c.toNat ≠ 46 ∧ c.toNat ≠ 47 ∧ c.toNat ≠ 35 ∧ c.toNat ≠ 64)) (by decide +kernel) c
  rw [decide_eq_false h] at this
  simpa using this
theorem go_cases {c : UInt8} (h : gB c = true) : lB c = true ∨ c.toNat = 45 ∨ isD c = true := by
  have := u8_all (fun c => !gB c || decide (lB c = true ∨ c.toNat = 45 ∨ isD c = true)) (by decide +kernel) c
  rw [h] at this
  simpa using this

/-- a name of whatever length -/
def nm (x : List UInt8) : Prop := startsL x = true ∧ ∀ c ∈ x, gB c = true
/-- a byte that is a token by itself -/
def delim (c : UInt8) : Prop := oneC c [] = (some ⟨19, [c], 0⟩, 1)
theorem delim_facts {c : UInt8} (h : delim c) : lB c = false ∧ isD c = false ∧ blB c = false ∧ c.toNat ≠ 34 ∧ c.toNat ≠ 39 ∧ signK c = 0 := by
  have := u8_all (fun c => !decide (oneC c [] = (some ⟨19, [c], 0⟩, 1)) || decide (lB c = false ∧ isD c = false ∧ blB c = false ∧ c.toNat ≠ 34 ∧ c.toNat ≠ 39 ∧ signK c = 0)) (by decide +kernel) c
  unfold delim at h
  rw [decide_eq_true h] at this
  simpa using this
theorem delim_of {c : UInt8} (h : lB c = false ∧ isD c = false ∧ blB c = false ∧ c.toNat ≠ 34 ∧ c.toNat ≠ 39 ∧ signK c = 0) : delim c := by
  have := u8_all (fun c => !decide (lB c = false ∧ isD c = false ∧ blB c = false ∧ c.toNat ≠ 34 ∧ c.toNat ≠ 39 ∧ signK c = 0) || decide (oneC c [] = (some ⟨19, [c], 0⟩, 1))) (by decide +kernel) c
  rw [decide_eq_true h] at this
  unfold delim
  simpa using this

/-- the shapes of tokens -/
inductive Shape : Tok → Prop
  | ident (x : List UInt8) : nm x → Shape ⟨1, x, 0⟩
  | func (x : List UInt8) : nm x → Shape ⟨2, x, 0⟩
  | att (x : List UInt8) : nm x → Shape ⟨3, x, 0⟩
  | hash (x : List UInt8) : x ≠ [] → (∀ c ∈ x, gB c = true) → Shape ⟨4, x, 0⟩
  | str (x : List UInt8) : (∀ c ∈ x, c ≠ 10) → (34 ∈ x → 39 ∉ x) → Shape ⟨5, x, 0⟩
  | num (v : Int) : H v = v → Shape ⟨7, [], v⟩
  | pct (v : Int) : H v = v → Shape ⟨8, [], v⟩
  | dim (x : List UInt8) (v : Int) : nm x → H v = v → Shape ⟨9, x, v⟩
  | sign (c : UInt8) : signK c ≠ 0 → Shape ⟨signK c, [], 0⟩
  | one (c : UInt8) : delim c → Shape ⟨19, [c], 0⟩
  | space : Shape ⟨20, [], 0⟩

/-! names -/
theorem starts_app {x : List UInt8} (h : startsL x = true) (v : List UInt8) : startsL (x ++ v) = true := by
  match x with
  | [] => cases h
  | [c] =>
    have h : (decide (c.toNat ≠ 45) && lB c) = true := h
    rw [Bool.and_eq_true, decide_eq_true_eq] at h
    cases v with
    | nil => show (decide (c.toNat ≠ 45) && lB c) = true; rw [h.2, decide_eq_true h.1]; rfl
    | cons d r => show (if c.toNat = 45 then lB d || decide (d.toNat = 45) else lB c) = true; rw [if_neg h.1]; exact h.2
  | c :: d :: r => exact h
theorem starts_tw {l : List UInt8} (h : startsL l = true) : startsL (l.takeWhile gB) = true := by
  match l with
  | [] => cases h
  | [c] =>
    have h' : (decide (c.toNat ≠ 45) && lB c) = true := h
    rw [Bool.and_eq_true, decide_eq_true_eq] at h'
    rw [List.takeWhile_cons, if_pos (let_facts h'.2).1]
    exact h
  | c :: d :: r =>
    have h' : (if c.toNat = 45 then lB d || decide (d.toNat = 45) else lB c) = true := h
    by_cases e : c.toNat = 45
    · rw [if_pos e, Bool.or_eq_true, decide_eq_true_eq] at h'
      have ec : c = 45 := UInt8.toNat_inj.1 e
      have gd : gB d = true := by
        rcases h' with h' | h'
        · exact (let_facts h').1
        · have : d = 45 := UInt8.toNat_inj.1 h'
          subst this; exact gB_45
      rw [List.takeWhile_cons, if_pos (by subst ec; exact gB_45), List.takeWhile_cons, if_pos gd]
      show (if c.toNat = 45 then lB d || decide (d.toNat = 45) else lB c) = true
      rw [if_pos e, Bool.or_eq_true, decide_eq_true_eq]; exact h'
    · rw [if_neg e] at h'
      rw [List.takeWhile_cons, if_pos (let_facts h').1]
      cases hq : (d :: r).takeWhile gB with
      | nil => show (decide (c.toNat ≠ 45) && lB c) = true; rw [h', decide_eq_true e]; rfl
      | cons a b => show (if c.toNat = 45 then lB a || decide (a.toNat = 45) else lB c) = true; rw [if_neg e]; exact h'
theorem nm_tw {l : List UInt8} (h : startsL l = true) : nm (l.takeWhile gB) := ⟨starts_tw h, tw_ok gB l⟩
theorem nm_ne {x : List UInt8} (h : nm x) : ∃ c r, x = c :: r ∧ (lB c = true ∨ c.toNat = 45) := by
  cases x with
  | nil => cases h.1
  | cons c r => exact ⟨c, r, rfl, starts_c h.1⟩
theorem starts_hd {c : UInt8} (r : List UInt8) (h1 : lB c = false) (h2 : c.toNat ≠ 45) : startsL (c :: r) = false := not_starts h1 h2

/-! numbers -/
/-- no number begins here -/
structure Nz (c : UInt8) (r : List UInt8) : Prop where
  dig : isD c = false
  dot : c.toNat = 46 → ∀ d r', r = d :: r' → isD d = false
  sgn : c.toNat = 43 ∨ c.toNat = 45 → (∀ d r', r = d :: r' → isD d = false) ∧ ∀ d r', r = 46 :: d :: r' → isD d = false
theorem nz_num {c : UInt8} {r : List UInt8} (h : Nz c r) : numL (c :: r) = 0 := by
  by_cases hz : numL (c :: r) = 0
  · exact hz
  · obtain ⟨sg, D, F, v, e1, e2, e3, e4⟩ := num_parts (c :: r) (by omega)
    exfalso
    have sgn : ∀ s : UInt8, c = s → r = D ++ (F ++ v) → (s.toNat = 43 ∨ s.toNat = 45) → False := by
      intro s hc hr hs
      subst hc
      have k := h.sgn hs
      cases D with
      | cons d D' =>
        have := e2.whole d List.mem_cons_self
        rw [k.1 d _ hr] at this; cases this
      | nil =>
        rcases e2.frac with ⟨_, q⟩ | ⟨G, rfl, g1, g2⟩
        · exact q rfl
        · cases G with
          | nil => exact g1 rfl
          | cons d G' =>
            have := g2 d List.mem_cons_self
            rw [k.2 d _ hr] at this; cases this
    rcases e2.sign with rfl | rfl | rfl
    · cases D with
      | cons d D' =>
        injection e1 with a1 a2
        have := e2.whole d List.mem_cons_self
        rw [← a1, h.dig] at this; cases this
      | nil =>
        rcases e2.frac with ⟨_, q⟩ | ⟨G, rfl, g1, g2⟩
        · exact q rfl
        · injection e1 with a1 a2
          cases G with
          | nil => exact g1 rfl
          | cons d G' =>
            have := g2 d List.mem_cons_self
            rw [h.dot (by rw [a1]; rfl) d _ a2] at this; cases this
    · injection e1 with a1 a2
      exact sgn 43 a1 a2 (Or.inl rfl)
    · injection e1 with a1 a2
      exact sgn 45 a1 a2 (Or.inr rfl)
theorem numS_dig {l : List UInt8} {d : UInt8} {r : List UInt8} (h : l.drop (beg l) = d :: r) (hd : isD d = true) : 0 < numL l := by
  rw [numL_S]; unfold numS
  rw [h, List.takeWhile_cons, if_pos hd]
  split
  · rw [if_neg (by simp)]; simp; omega
  · split
    · omega
    · rw [if_neg (by simp)]; simp; omega
theorem numS_dot {l : List UInt8} {d : UInt8} {r : List UInt8} (h : l.drop (beg l) = 46 :: d :: r) (hd : isD d = true) : 0 < numL l := by
  rw [numL_S]; unfold numS
  have e : isD 46 = false := by decide
  have e2 : List.takeWhile isD (46 :: d :: r) = [] := by rw [List.takeWhile_cons, e]; rfl
  have e3 : List.dropWhile isD (46 :: d :: r) = 46 :: d :: r := by rw [List.dropWhile_cons, e]; rfl
  rw [h, e2, e3]
  simp only []
  rw [if_pos ⟨rfl, by rw [List.takeWhile_cons, if_pos hd]; simp⟩]
  omega
theorem num_nz {c : UInt8} {r : List UInt8} (h : numL (c :: r) = 0) : Nz c r := by
  refine ⟨?_, ?_, ?_⟩
  · cases hd : isD c with
    | false => rfl
    | true =>
      obtain ⟨_, _, _, _, _, h6, h7, _⟩ := dig_facts hd
      have hb : beg (c :: r) = 0 := if_neg (by omega)
      have := numS_dig (l := c :: r) (d := c) (r := r) (by rw [hb]; rfl) hd
      omega
  · rintro h46 d r' rfl
    cases hd : isD d with
    | false => rfl
    | true =>
      have hb : beg (c :: d :: r') = 0 := if_neg (by omega)
      have e : c = 46 := UInt8.toNat_inj.1 h46
      have := numS_dot (l := c :: d :: r') (d := d) (r := r') (by rw [hb, e]; rfl) hd
      omega
  · intro hs
    have hb : ∀ q, beg (c :: q) = 1 := fun q => if_pos hs
    refine ⟨?_, ?_⟩
    · rintro d r' rfl
      cases hd : isD d with
      | false => rfl
      | true =>
        have := numS_dig (l := c :: d :: r') (d := d) (r := r') (by rw [hb]; rfl) hd
        omega
    · rintro d r' rfl
      cases hd : isD d with
      | false => rfl
      | true =>
        have := numS_dot (l := c :: 46 :: d :: r') (d := d) (r := r') (by rw [hb]; rfl) hd
        omega

theorem plain_name {c : UInt8} {r : List UInt8} (h : startsL (c :: r) = true) : Plain c r := by
  rcases starts_c h with hl | h45
  · obtain ⟨h1, h2, h3, h4, h5, h6, h7, h8, h9, _⟩ := let_facts hl
    exact ⟨by omega, h2, by omega, nz_num ⟨h3, by omega, by omega⟩⟩
  · have e : c = 45 := UInt8.toNat_inj.1 h45
    subst e
    refine ⟨fun h => absurd h.1 (by decide), by decide, by decide, nz_num ⟨by decide, fun h => absurd h (by decide), fun _ => ⟨?_, ?_⟩⟩⟩
    · rintro d r' rfl
      have h : (lB d || decide (d.toNat = 45)) = true := h
      rw [Bool.or_eq_true, decide_eq_true_eq] at h
      rcases h with h | h
      · exact (let_facts h).2.2.1
      · have e : d = 45 := UInt8.toNat_inj.1 h
        subst e; decide
    · rintro d r' rfl
      have h : (lB 46 || decide ((46 : UInt8).toNat = 45)) = true := h
      exact absurd h (by decide)
theorem tw_app {x : List UInt8} (h : ∀ c ∈ x, gB c = true) (v : List UInt8) : (x ++ v).takeWhile gB = x ++ v.takeWhile gB ∧ (x ++ v).dropWhile gB = v.dropWhile gB :=
  ⟨List.takeWhile_append_of_pos h, List.dropWhile_append_of_pos h⟩
/-- a name, and what is behind it -/
theorem one_name {x : List UInt8} (h : nm x) (v : List UInt8) : one (x ++ v) =
    if (v.dropWhile gB).head? = some 40 then (some ⟨2, x ++ v.takeWhile gB, 0⟩, (x ++ v.takeWhile gB).length + 1) else (some ⟨1, x ++ v.takeWhile gB, 0⟩, (x ++ v.takeWhile gB).length) := by
  obtain ⟨e1, e2⟩ := tw_app h.2 v
  have hs := starts_app h.1 v
  obtain ⟨c, r, rfl, hc⟩ := nm_ne h
  have hc2 : c.toNat ≠ 35 ∧ c.toNat ≠ 64 := by
    rcases hc with hc | hc
    · obtain ⟨_, _, _, _, _, _, _, _, _, h10, h11, _⟩ := let_facts hc
      exact ⟨h10, h11⟩
    · omega
  have hs2 : startsL (c :: (r ++ v)) = true := hs
  show oneC c (r ++ v) = _
  rw [oneC_plain (plain_name hs2), if_neg (by omega), if_neg (by omega), if_pos hs2, ← List.cons_append, e1, e2]
theorem one_at {x : List UInt8} (h : nm x) (v : List UInt8) : one (64 :: (x ++ v)) = (some ⟨3, x ++ v.takeWhile gB, 0⟩, 1 + (x ++ v.takeWhile gB).length) := by
  obtain ⟨e1, e2⟩ := tw_app h.2 v
  have hs := starts_app h.1 v
  have hp : Plain 64 (x ++ v) := ⟨by simp, by decide, by decide, nz_num ⟨by decide, by intro h; exact absurd h (by decide), by intro h; exact absurd h (by decide)⟩⟩
  show oneC 64 (x ++ v) = _
  rw [oneC_plain hp, if_neg (by simp), if_pos ⟨rfl, hs⟩, e1]
theorem one_hash {x : List UInt8} (h0 : x ≠ []) (h : ∀ c ∈ x, gB c = true) (v : List UInt8) : one (35 :: (x ++ v)) = (some ⟨4, x ++ v.takeWhile gB, 0⟩, 1 + (x ++ v.takeWhile gB).length) := by
  obtain ⟨e1, e2⟩ := tw_app h v
  have hp : Plain 35 (x ++ v) := ⟨by simp, by decide, by decide, nz_num ⟨by decide, by intro h; exact absurd h (by decide), by intro h; exact absurd h (by decide)⟩⟩
  have hl : 0 < (x ++ v.takeWhile gB).length := by
    have := List.length_pos_iff.2 h0
    rw [List.length_append]; omega
  show oneC 35 (x ++ v) = _
  rw [oneC_plain hp, e1, if_pos ⟨rfl, hl⟩]
theorem one_str (q : UInt8) (hq : q.toNat = 34 ∨ q.toNat = 39) {x : List UInt8} (h : ∀ c ∈ x, inQ q c = true) (v : List UInt8) : one (q :: (x ++ q :: v)) = (some ⟨5, x, 0⟩, (q :: (x ++ [q])).length) := by
  have hq2 : q = 34 ∨ q = 39 := by
    rcases hq with hq | hq
    · left; exact UInt8.toNat_inj.1 hq
    · right; exact UInt8.toNat_inj.1 hq
  have hb : blB q = false := by rcases hq2 with rfl | rfl <;> decide
  have hi : inQ q q = false := by rcases hq2 with rfl | rfl <;> decide
  have h10 : q ≠ 10 := by rcases hq2 with rfl | rfl <;> decide
  show oneC q (x ++ q :: v) = _
  rw [oneC_quo (by omega) hb hq]
  have e1 : (x ++ q :: v).takeWhile (inQ q) = x := by rw [List.takeWhile_append_of_pos h, List.takeWhile_cons, hi]; simp
  have e2 : (x ++ q :: v).dropWhile (inQ q) = q :: v := by rw [List.dropWhile_append_of_pos h, List.dropWhile_cons, hi]; simp
  unfold quoL some1
  rw [e1, e2]
  simp only []
  rw [if_neg h10]
  simp; omega
end Go.Proofs.Ytoaenlbbochjhaa.LexP

namespace Go.Proofs.Ytoaenlbbochjhaa.LexP
open FixM FixP TreN

theorem prt_parts (a : Int) (h0 : 0 ≤ a) (h1 : a ≤ 1073741824) : ∃ D F, prt a = D ++ F ∧ (∀ c ∈ D, isD c = true) ∧ D ≠ [] ∧ (F = [] ∨ ∃ G, F = 46 :: G ∧ G ≠ [] ∧ ∀ c ∈ G, isD c = true) ∧ (D = [48] ∨ 1000 ≤ a) := by
  have hD := whl_isD 7 (a / 1000) (by omega)
  have hne := whl_ne 6 (a / 1000)
  have hr := prt_eq_ref a h0 h1
  have hz : whl 7 (a / 1000) = [48] ∨ 1000 ≤ a := by
    by_cases h : 1000 ≤ a
    · exact Or.inr h
    · left
      have : a / 1000 = 0 := by omega
      rw [this]; decide
  by_cases hm : a % 1000 = 0
  · rw [if_pos hm] at hr
    exact ⟨_, [], by rw [hr, List.append_nil], hD, hne, Or.inl rfl, hz⟩
  · rw [if_neg hm] at hr
    have g2 : isD (dgc (a % 1000 / 100)) = true := isD_dgc (by omega) (by omega)
    have g1 : isD (dgc (a % 1000 % 100 / 10)) = true := isD_dgc (by omega) (by omega)
    have g0 : isD (dgc (a % 1000 % 100 % 10 / 1)) = true := isD_dgc (by omega) (by omega)
    unfold frr at hr
    by_cases h1 : a % 1000 % 100 = 0
    · rw [if_pos h1] at hr
      refine ⟨_, 46 :: [dgc (a % 1000 / 100)], by rw [hr]; simp [frs, frp, frk], hD, hne, Or.inr ⟨_, rfl, by simp, ?_⟩, hz⟩
      intro c hc; simp at hc; subst hc; exact g2
    · rw [if_neg h1] at hr
      by_cases h2 : a % 1000 % 100 % 10 = 0
      · rw [if_pos h2] at hr
        refine ⟨_, 46 :: [dgc (a % 1000 / 100), dgc (a % 1000 % 100 / 10)], by rw [hr]; simp [frs, frp, frk], hD, hne, Or.inr ⟨_, rfl, by simp, ?_⟩, hz⟩
        intro c hc; simp only [List.mem_cons, List.not_mem_nil, or_false] at hc
        rcases hc with rfl | rfl
        · exact g2
        · exact g1
      · rw [if_neg h2] at hr
        refine ⟨_, 46 :: [dgc (a % 1000 / 100), dgc (a % 1000 % 100 / 10), dgc (a % 1000 % 100 % 10 / 1)], by rw [hr]; simp [frs, frp, frk], hD, hne, Or.inr ⟨_, rfl, by simp, ?_⟩, hz⟩
        intro c hc; simp only [List.mem_cons, List.not_mem_nil, or_false] at hc
        rcases hc with rfl | rfl | rfl
        · exact g2
        · exact g1
        · exact g0
/-- the parts of what is printed of a number -/
structure Pn (v : Int) (sg D F : List UInt8) : Prop where
  eq : prn v = sg ++ (D ++ F)
  num : Num sg D F
  ne : D ≠ []
  sgn : sg = [] ∨ sg = [45]
  low : D = [48] ∨ 1000 ≤ v ∨ v ≤ -1000
theorem prn_parts (v : Int) (hv : H v = v) : ∃ sg D F, Pn v sg D F := by
  have hb := H_bd v
  rw [hv] at hb
  by_cases h : v < 0
  · obtain ⟨D, F, e, k1, k2, k3, k4⟩ := prt_parts (-v) (by omega) (by omega)
    refine ⟨[45], D, F, ⟨?_, ⟨Or.inr (Or.inr rfl), k1, ?_⟩, k2, Or.inr rfl, ?_⟩⟩
    · unfold prn; rw [if_pos h, e]; rfl
    · rcases k3 with k3 | k3
      · exact Or.inl ⟨k3, k2⟩
      · exact Or.inr k3
    · rcases k4 with k4 | k4
      · exact Or.inl k4
      · right; right; omega
  · obtain ⟨D, F, e, k1, k2, k3, k4⟩ := prt_parts v (by omega) (by omega)
    refine ⟨[], D, F, ⟨?_, ⟨Or.inl rfl, k1, ?_⟩, k2, Or.inl rfl, ?_⟩⟩
    · unfold prn; rw [if_neg h, e]; rfl
    · rcases k3 with k3 | k3
      · exact Or.inl ⟨k3, k2⟩
      · exact Or.inr k3
    · rcases k4 with k4 | k4
      · exact Or.inl k4
      · right; left; omega
theorem worth_prn (v : Int) (hv : H v = v) : worth (prn v) = v := by
  have hb := H_bd v
  rw [hv] at hb
  have := parse_prn v hb.1 hb.2
  rw [parse_eq] at this
  split at this
  · injection this with _ h2; exact absurd h2 (by decide)
  · injection this
/-- what may not stand behind what is printed of a number -/
def NumStop (p w : List UInt8) : Prop := (∀ c r, w = c :: r → isD c = false) ∧ (46 ∉ p → ∀ c r, w = 46 :: c :: r → isD c = false)
theorem Pn.stop {v : Int} {sg D F w : List UInt8} (h : Pn v sg D F) (hs : NumStop (prn v) w) : Stop F w := by
  refine ⟨hs.1, fun hF => hs.2 ?_⟩
  rw [h.eq, hF]
  intro hm
  rcases List.mem_append.1 hm with hm | hm
  · rcases h.sgn with rfl | rfl
    · cases hm
    · simp at hm
  · rw [List.append_nil] at hm
    have := h.num.whole 46 hm
    exact absurd this (by decide)
theorem Pn.dot {v : Int} {sg D F : List UInt8} (h : Pn v sg D F) (hF : F ≠ []) : 46 ∈ prn v := by
  rw [h.eq]
  rcases h.num.frac with ⟨q, _⟩ | ⟨G, rfl, _, _⟩
  · exact absurd q hF
  · simp
/-- the first byte of a number -/
theorem Pn.first {v : Int} {sg D F : List UInt8} (h : Pn v sg D F) : ∃ c r, prn v = c :: r ∧ (isD c = true ∨ c = 45) ∧ (isD c = true → sg = []) := by
  rw [h.eq]
  rcases h.sgn with rfl | rfl
  · cases D with
    | nil => exact absurd rfl h.ne
    | cons d D' => exact ⟨d, _, rfl, Or.inl (h.num.whole d List.mem_cons_self), fun _ => rfl⟩
  · exact ⟨45, _, rfl, Or.inr rfl, fun h => absurd h (by decide)⟩
theorem first_plain {c : UInt8} (h : isD c = true ∨ c = 45) : c.toNat ≠ 47 ∧ blB c = false ∧ c.toNat ≠ 34 ∧ c.toNat ≠ 39 := by
  rcases h with h | rfl
  · obtain ⟨_, h2, _, h4, h5, _, _, _, h9, _⟩ := dig_facts h
    exact ⟨h9, h2, h4, h5⟩
  · decide
/-- a number's text, whatever its parts, and what is behind it -/
theorem one_numS {sg D F w : List UInt8} (hn : Num sg D F) (hs : Stop F w) (hsg : sg = [] ∨ sg = [45]) : one (sg ++ (D ++ (F ++ w))) = some1 (meaL (worth (sg ++ (D ++ F))) (sg ++ (D ++ F)).length w) := by
  have hl := num_len hn hs
  have e0 : sg ++ (D ++ (F ++ w)) = (sg ++ (D ++ F)) ++ w := by simp
  have el : (sg ++ (D ++ F)).length = sg.length + (D.length + F.length) := by simp
  obtain ⟨c, r, hcr, hc⟩ : ∃ c r, sg ++ (D ++ (F ++ w)) = c :: r ∧ (isD c = true ∨ c = 45 ∨ c = 46) := by
    rcases hsg with rfl | rfl
    · cases D with
      | cons d D' => exact ⟨d, _, rfl, Or.inl (hn.whole d List.mem_cons_self)⟩
      | nil =>
        rcases hn.frac with ⟨_, q⟩ | ⟨G, rfl, _, _⟩
        · exact absurd rfl q
        · exact ⟨46, _, rfl, Or.inr (Or.inr rfl)⟩
    · exact ⟨45, _, rfl, Or.inr (Or.inl rfl)⟩
  have hpos : 0 < numL (c :: r) := by
    rw [← hcr, hl]
    rcases hn.frac with ⟨_, q⟩ | ⟨G, rfl, _, _⟩
    · have := List.length_pos_iff.2 q; omega
    · simp; omega
  have hp : c.toNat ≠ 47 ∧ blB c = false ∧ c.toNat ≠ 34 ∧ c.toNat ≠ 39 := by
    rcases hc with hc | hc | rfl
    · exact first_plain (Or.inl hc)
    · exact first_plain (Or.inr hc)
    · decide
  rw [hcr]
  show oneC c r = _
  rw [oneC_num (by omega) hp.2.1 (by omega) hpos, ← hcr, hl, ← el, e0, List.take_left, List.drop_left]
theorem one_num (v : Int) (hv : H v = v) {w : List UInt8} (hs : NumStop (prn v) w) : one (prn v ++ w) = some1 (meaL v (prn v).length w) := by
  obtain ⟨sg, D, F, h⟩ := prn_parts v hv
  have := one_numS h.num (h.stop hs) h.sgn
  have e : prn v ++ w = sg ++ (D ++ (F ++ w)) := by rw [h.eq]; simp
  rw [e, this, ← h.eq, worth_prn v hv]

/-! what may stand behind a token -/
def hd (p : UInt8 → Bool) (v : List UInt8) : Prop := ∀ c r, v = c :: r → p c = false
theorem hd_nil (p : UInt8 → Bool) : hd p [] := fun _ _ h => nomatch h
theorem hd_cons {p : UInt8 → Bool} {c : UInt8} (h : p c = false) (r : List UInt8) : hd p (c :: r) := fun _ _ e => by injection e with e1 _; rw [← e1]; exact h
theorem hd_tw {p : UInt8 → Bool} {v : List UInt8} (h : hd p v) : v.takeWhile p = [] ∧ v.dropWhile p = v := by
  cases v with
  | nil => exact ⟨rfl, rfl⟩
  | cons c r => have := h c r rfl; simp [this]
theorem hd_app {p : UInt8 → Bool} {v : List UInt8} (h : hd p v) (h0 : v ≠ []) (z : List UInt8) : hd p (v ++ z) := by
  cases v with
  | nil => exact absurd rfl h0
  | cons c r => exact hd_cons (h c r rfl) _
def Stp (t : Tok) (v : List UInt8) : Prop :=
  (t.kind = 1 → hd gB v ∧ v.head? ≠ some 40) ∧ (t.kind = 3 ∨ t.kind = 4 ∨ t.kind = 9 → hd gB v) ∧
  (t.kind = 7 → NumStop (prn t.n) v ∧ v.head? ≠ some 37 ∧ startsL v = false) ∧
  (t.kind = 19 → ∀ c, t.text = [c] → oneC c v = (some ⟨19, [c], 0⟩, 1)) ∧ (t.kind = 20 → hd blB v)

theorem oneC_delim {c : UInt8} {r : List UInt8} (hc : delim c) (h1 : ¬ (c.toNat = 47 ∧ r.head? = some 42)) (h2 : Nz c r) (h3 : c.toNat = 35 → hd gB r) (h4 : c.toNat = 64 → startsL r = false) (h5 : startsL (c :: r) = false) :
    oneC c r = (some ⟨19, [c], 0⟩, 1) := by
  obtain ⟨_, _, f3, f4, f5, f6⟩ := delim_facts hc
  rw [oneC_plain ⟨h1, f3, by omega, nz_num h2⟩, if_neg, if_neg, if_neg (by rw [h5]; simp)]
  · unfold signT; rw [if_pos f6]
  · rintro ⟨a, b⟩; rw [h4 a] at b; cases b
  · rintro ⟨a, b⟩; rw [(hd_tw (h3 a)).1] at b; simp at b
theorem delim_oneC {c : UInt8} {r : List UInt8} (hc : delim c) (x : List UInt8) (n : Int) (m : Nat) (h : oneC c r = (some ⟨19, x, n⟩, m)) :
    ¬ (c.toNat = 47 ∧ r.head? = some 42) ∧ Nz c r ∧ (c.toNat = 35 → hd gB r) ∧ (c.toNat = 64 → startsL r = false) ∧ startsL (c :: r) = false := by
  obtain ⟨_, _, f3, f4, f5, f6⟩ := delim_facts hc
  by_cases h1 : c.toNat = 47 ∧ r.head? = some 42
  · rw [oneC_com h1] at h; cases h
  by_cases h2 : numL (c :: r) = 0
  · rw [oneC_plain ⟨h1, f3, by omega, h2⟩] at h
    by_cases h3 : c.toNat = 35 ∧ 0 < (r.takeWhile gB).length
    · rw [if_pos h3] at h; simp at h
    rw [if_neg h3] at h
    by_cases h4 : c.toNat = 64 ∧ startsL r = true
    · rw [if_pos h4] at h; simp at h
    rw [if_neg h4] at h
    by_cases h5 : startsL (c :: r) = true
    · rw [if_pos h5] at h
      split at h <;> simp at h
    refine ⟨h1, num_nz h2, fun q d r' e => ?_, fun q => ?_, by simpa using h5⟩
    · cases hg : gB d with
      | false => rfl
      | true => exact absurd ⟨q, by rw [e]; exact tw_pos gB d r' hg⟩ h3
    · cases hg : startsL r with
      | false => rfl
      | true => exact absurd ⟨q, hg⟩ h4
  · rw [oneC_num h1 f3 (by omega) (by omega)] at h
    unfold meaL some1 at h
    split at h
    · simp at h
    · split at h <;> simp at h

/-- a token's text, where what is behind it may stand there, is cut into the token alone -/
theorem stp_one {t : Tok} (ht : Shape t) {v : List UInt8} (hs : Stp t v) : one (tx t ++ v) = (some t, (tx t).length) := by
  cases ht with
  | ident x hx =>
    obtain ⟨k1, k2⟩ := hs.1 rfl
    show one (x ++ v) = _
    rw [one_name hx, (hd_tw k1).1, (hd_tw k1).2, if_neg k2, List.append_nil]; rfl
  | func x hx =>
    show one ((x ++ [40]) ++ v) = (_, (x ++ [40]).length)
    have h40 : hd gB ([40] ++ v) := hd_cons (by decide) _
    rw [List.append_assoc, one_name hx, (hd_tw h40).1, (hd_tw h40).2, if_pos (by rfl), List.append_nil]
    simp
  | att x hx =>
    have k1 := hs.2.1 (Or.inl rfl)
    show one (64 :: (x ++ v)) = (_, (64 :: x).length)
    rw [one_at hx, (hd_tw k1).1, List.append_nil]
    simp; omega
  | hash x h0 hx =>
    have k1 := hs.2.1 (Or.inr (Or.inl rfl))
    show one (35 :: (x ++ v)) = (_, (35 :: x).length)
    rw [one_hash h0 hx, (hd_tw k1).1, List.append_nil]
    simp; omega
  | str x h10 hq =>
    show one (quoT x ++ v) = (_, (quoT x).length)
    unfold quoT
    by_cases h34 : (34 : UInt8) ∈ x
    · rw [if_pos h34]
      have := one_str 39 (by decide) (x := x) (fun c hc => by
        unfold inQ
        have : c ≠ 39 := fun e => by subst e; exact hq h34 hc
        simp [this, h10 c hc]) v
      have e : (39 :: (x ++ [39])) ++ v = 39 :: (x ++ 39 :: v) := by simp
      rw [e, this]
    · rw [if_neg h34]
      have := one_str 34 (by decide) (x := x) (fun c hc => by
        unfold inQ
        have : c ≠ 34 := fun e => by subst e; exact h34 hc
        simp [this, h10 c hc]) v
      have e : (34 :: (x ++ [34])) ++ v = 34 :: (x ++ 34 :: v) := by simp
      rw [e, this]
  | num n hn =>
    obtain ⟨k1, k2, k3⟩ := hs.2.2.1 rfl
    show one (prn (H n) ++ v) = (_, (prn (H n)).length)
    rw [hn, one_num n hn k1]
    unfold meaL some1
    rw [if_neg k2, if_neg (by rw [k3]; simp)]
  | pct n hn =>
    show one ((prn (H n) ++ [37]) ++ v) = (_, (prn (H n) ++ [37]).length)
    rw [hn, List.append_assoc, one_num n hn ⟨fun c r e => by injection e with e1 _; subst e1; decide, fun _ c r e => by injection e with e1 _; exact absurd e1 (by decide)⟩]
    unfold meaL some1
    rw [if_pos (by rfl)]
    simp
  | dim x n hx hn =>
    have k1 := hs.2.1 (Or.inr (Or.inr rfl))
    show one ((prn (H n) ++ x) ++ v) = (_, (prn (H n) ++ x).length)
    obtain ⟨c, r, hc, hl⟩ := nm_ne hx
    have hl2 : isD c = false ∧ c.toNat ≠ 46 ∧ c.toNat ≠ 37 := by
      rcases hl with hl | hl
      · obtain ⟨_, _, a3, _, _, _, _, a8, _, _, _, a12, _⟩ := let_facts hl
        exact ⟨a3, a8, a12⟩
      · have e : c = 45 := UInt8.toNat_inj.1 hl
        subst e; decide
    have e : x ++ v = c :: (r ++ v) := by rw [hc]; rfl
    rw [hn, List.append_assoc, one_num n hn ⟨fun d r' e' => by rw [e] at e'; injection e' with e1 _; rw [← e1]; exact hl2.1, fun _ d r' e' => by rw [e] at e'; injection e' with e1 _; exact absurd (by rw [e1]; rfl) hl2.2.1⟩]
    unfold meaL some1
    rw [if_neg (by rw [e]; simp only [List.head?_cons]; intro q; injection q with q; exact hl2.2.2 (by rw [q]; rfl)), if_pos (starts_app hx.1 v), (tw_app hx.2 v).1, (hd_tw k1).1, List.append_nil]
    simp
  | sign c hc =>
    obtain ⟨f1, _, _, _, f4, f5, f6, f7, f8, f9, f10, f11, f12, f13, f14⟩ := sign_facts hc
    rw [f1]
    show oneC c v = _
    rw [oneC_plain ⟨by omega, f6, by omega, nz_num ⟨f5, by omega, by omega⟩⟩, if_neg (by omega), if_neg (by omega), if_neg (by rw [starts_hd _ f4 f9]; simp)]
    unfold signT
    rw [if_neg hc]; rfl
  | one c hc => exact hs.2.2.2.1 rfl c rfl
  | space =>
    have k1 := hs.2.2.2.2 rfl
    show oneC 32 v = (_, 1)
    rw [oneC_bl (by intro h; exact absurd h.1 (by decide)) (by decide), List.takeWhile_cons, if_pos (by decide), (hd_tw k1).1]
    rfl
theorem stp_nil {t : Tok} (ht : Shape t) : Stp t [] := by
  refine ⟨fun _ => ⟨hd_nil _, by simp⟩, fun _ => hd_nil _, fun _ => ⟨⟨(fun _ _ h => nomatch h), (fun _ _ _ h => nomatch h)⟩, by simp, rfl⟩, ?_, fun _ => hd_nil _⟩
  intro hk c hc
  cases ht with
  | one d hd => injection hc with h1 _; subst h1; exact hd
  | sign d hd => have := sign_facts hd; exact absurd hk (by show signK d ≠ 19; omega)
  | _ => simp at hk
theorem stp_com {t : Tok} (ht : Shape t) (W : List UInt8) : Stp t (47 :: 42 :: W) := by
  refine ⟨fun _ => ⟨hd_cons (by decide) _, by simp⟩, fun _ => hd_cons (by decide) _, fun _ => ⟨⟨fun c r h => by injection h with h1 _; rw [← h1]; decide, fun _ c r h => by injection h with h1 _; exact absurd h1 (by decide)⟩, by simp, starts_hd _ (by decide) (by decide)⟩, ?_, fun _ => hd_cons (by decide) _⟩
  intro hk c hc
  cases ht with
  | one d hd' =>
    injection hc with h1 _; subst h1
    obtain ⟨f1, f2, _⟩ := delim_facts hd'
    refine oneC_delim hd' (by simp) ⟨f2, ?_, ?_⟩ (fun _ => hd_cons (by decide) _) (fun _ => starts_hd _ (by decide) (by decide)) ?_
    · intro _ e r' h; injection h with h1 _; rw [← h1]; decide
    · intro _; exact ⟨fun e r' h => by injection h with h1 _; rw [← h1]; decide, fun e r' h => by injection h with h1 _; exact absurd h1 (by decide)⟩
    · by_cases h45 : d.toNat = 45
      · show (if d.toNat = 45 then lB 47 || decide ((47 : UInt8).toNat = 45) else lB d) = false
        rw [if_pos h45]; decide
      · exact starts_hd _ f1 h45
  | sign d hd => have := sign_facts hd; exact absurd hk (by show signK d ≠ 19; omega)
  | _ => simp at hk
theorem tx_ne {t : Tok} (ht : Shape t) : tx t ≠ [] := by
  have := stp_one ht (stp_nil ht)
  intro h
  rw [h] at this
  simp [one] at this
/-- a token's shape makes it right -/
theorem shape_cut {t : Tok} (ht : Shape t) : cut (tx t) = [t] := by
  have := stp_one ht (stp_nil ht)
  rw [List.append_nil] at this
  rw [cut_some this, List.drop_length]; rfl
theorem shape_right {t : Tok} (ht : Shape t) : right t = true := by
  unfold right; rw [decide_eq_true_eq]; exact shape_cut ht

/-- what a text begins with has a token's shape, but for a bad string -/
theorem one_shape (c : UInt8) (r : List UInt8) (t : Tok) (h : (oneC c r).1 = some t) : t.kind = 6 ∨ Shape t := by
  by_cases h1 : c.toNat = 47 ∧ r.head? = some 42
  · rw [oneC_com h1] at h; cases h
  by_cases h2 : blB c = true
  · rw [oneC_bl h1 h2] at h; injection h with h; subst h; exact Or.inr Shape.space
  have h2 : blB c = false := by simpa using h2
  by_cases h3 : c.toNat = 34 ∨ c.toNat = 39
  · rw [oneC_quo h1 h2 h3] at h
    injection h with h
    have hq : ∀ d ∈ r.takeWhile (inQ c), d ≠ c ∧ d ≠ 10 := by
      intro d hd
      have := tw_ok (inQ c) r d hd
      unfold inQ at this
      simpa using this
    have hs : Shape ⟨5, r.takeWhile (inQ c), 0⟩ := by
      refine Shape.str _ (fun d hd => (hq d hd).2) fun h34 h39 => ?_
      rcases h3 with h3 | h3
      · have e : c = 34 := UInt8.toNat_inj.1 h3
        exact (hq _ h34).1 e.symm
      · have e : c = 39 := UInt8.toNat_inj.1 h3
        exact (hq _ h39).1 e.symm
    unfold quoL at h
    split at h
    · right; rw [← h]; exact hs
    · split at h
      · left; rw [← h]
      · right; rw [← h]; exact hs
  by_cases h4 : numL (c :: r) = 0
  · rw [oneC_plain ⟨h1, h2, h3, h4⟩] at h
    by_cases h5 : c.toNat = 35 ∧ 0 < (r.takeWhile gB).length
    · rw [if_pos h5] at h; injection h with h; subst h
      exact Or.inr (Shape.hash _ (List.length_pos_iff.1 h5.2) (tw_ok gB r))
    rw [if_neg h5] at h
    by_cases h6 : c.toNat = 64 ∧ startsL r = true
    · rw [if_pos h6] at h; injection h with h; subst h
      exact Or.inr (Shape.att _ (nm_tw h6.2))
    rw [if_neg h6] at h
    by_cases h7 : startsL (c :: r) = true
    · rw [if_pos h7] at h
      split at h
      · injection h with h; subst h; exact Or.inr (Shape.func _ (nm_tw h7))
      · injection h with h; subst h; exact Or.inr (Shape.ident _ (nm_tw h7))
    rw [if_neg h7] at h
    injection h with h
    unfold signT at h
    by_cases h8 : signK c = 0
    · rw [if_pos h8] at h
      subst h
      refine Or.inr (Shape.one c (delim_of ⟨?_, (num_nz h4).dig, h2, by omega, by omega, h8⟩))
      by_cases h45 : c.toNat = 45
      · have e : c = 45 := UInt8.toNat_inj.1 h45
        subst e; decide
      · cases hl : lB c with
        | false => rfl
        | true =>
          refine absurd ?_ h7
          cases r with
          | nil => show (decide (c.toNat ≠ 45) && lB c) = true; rw [hl, decide_eq_true h45]; rfl
          | cons d r => show (if c.toNat = 45 then lB d || decide (d.toNat = 45) else lB c) = true; rw [if_neg h45]; exact hl
    · rw [if_neg h8] at h
      subst h
      exact Or.inr (Shape.sign c h8)
  · rw [oneC_num h1 h2 h3 (by omega)] at h
    injection h with h
    have hH : ∀ l, H (worth l) = worth l := fun l => H_H _
    unfold meaL at h
    split at h
    · subst h; exact Or.inr (Shape.pct _ (hH _))
    · split at h
      · rename_i hs; subst h; exact Or.inr (Shape.dim _ _ (nm_tw hs) (hH _))
      · subst h; exact Or.inr (Shape.num _ (hH _))
theorem cutF_shape : ∀ (f : Nat) (l : List UInt8) (t : Tok), t ∈ cutF f l → t.kind = 6 ∨ Shape t
  | 0, _, t, h => by simp [cutF] at h
  | f + 1, [], t, h => by simp [cutF] at h
  | f + 1, c :: r, t, h => by
    have h : t ∈ (one (c :: r)).1.toList ++ cutF f ((c :: r).drop (one (c :: r)).2) := h
    rcases List.mem_append.1 h with h | h
    · refine one_shape c r t ?_
      show (one (c :: r)).1 = some t
      cases ho : (one (c :: r)).1 with
      | none => rw [ho] at h; simp at h
      | some t' => rw [ho] at h; simp at h; rw [h]
    · exact cutF_shape f _ t h
theorem cut_shape {l : List UInt8} {t : Tok} (h : t ∈ cut l) : t.kind = 6 ∨ Shape t := cutF_shape _ l t h
theorem right_shape {t : Tok} (h : right t = true) : Shape t := by
  unfold right at h
  rw [decide_eq_true_eq] at h
  rcases cut_shape (l := tx t) (t := t) (by rw [h]; simp) with h6 | hs
  · have : tx t = [] := by unfold tx; rw [h6]; rfl
    rw [this, cut_nil] at h
    cases h
  · exact hs
end Go.Proofs.Ytoaenlbbochjhaa.LexP

namespace Go.Proofs.Ytoaenlbbochjhaa.LexP
open FixM FixP TreN

theorem tw_hd {p : UInt8 → Bool} {v : List UInt8} (h : v.takeWhile p = []) : hd p v := by
  cases v with
  | nil => exact hd_nil p
  | cons c r =>
    cases hc : p c with
    | false => exact hd_cons hc r
    | true => rw [List.takeWhile_cons, if_pos hc] at h; cases h
theorem head_app {V : List UInt8} (h : V ≠ []) (Z : List UInt8) : (V ++ Z).head? = V.head? := by
  cases V with
  | nil => exact absurd rfl h
  | cons c r => rfl

/-- what may stand behind a token of one byte, a dot or a hyphen -/
def Zok (b : Tok) (Z : List UInt8) : Prop := (tx b = [46] → hd isD Z) ∧ (tx b = [45] → ∀ c r, Z = c :: r → lB c = false ∧ c.toNat ≠ 45)
theorem starts_ext {V Z : List UInt8} (h0 : V ≠ []) (h : startsL V = false) (hz : V = [45] → ∀ c r, Z = c :: r → lB c = false ∧ c.toNat ≠ 45) : startsL (V ++ Z) = false := by
  match V with
  | [] => exact absurd rfl h0
  | [x] =>
    cases Z with
    | nil => exact h
    | cons z r =>
      show (if x.toNat = 45 then lB z || decide (z.toNat = 45) else lB x) = false
      by_cases q : x.toNat = 45
      · have e : x = 45 := UInt8.toNat_inj.1 q
        obtain ⟨k1, k2⟩ := hz (by rw [e]) z r rfl
        rw [if_pos q, k1, decide_eq_false k2]; rfl
      · rw [if_neg q]
        have h : (decide (x.toNat ≠ 45) && lB x) = false := h
        rw [decide_eq_true q, Bool.true_and] at h
        exact h
  | x :: y :: r => exact h
theorem nz_ext {c : UInt8} {V Z : List UInt8} (h : Nz c V) (h0 : V ≠ []) (hz : V = [46] → hd isD Z) : Nz c (V ++ Z) := by
  cases V with
  | nil => exact absurd rfl h0
  | cons x V' =>
    refine ⟨h.dig, fun q d r' e => ?_, fun q => ⟨fun d r' e => ?_, fun d r' e => ?_⟩⟩
    · injection e with e1 _; rw [← e1]; exact h.dot q x V' rfl
    · injection e with e1 _; rw [← e1]; exact (h.sgn q).1 x V' rfl
    · have e : x :: (V' ++ Z) = 46 :: d :: r' := e
      injection e with e1 e2
      subst e1
      cases V' with
      | nil => exact hz rfl d r' e2
      | cons y V'' => injection e2 with e3 _; rw [← e3]; exact (h.sgn q).2 y V'' rfl
theorem stp_ext {a b : Tok} (ha : Shape a) (h : Stp a (tx b)) (h0 : tx b ≠ []) {Z : List UInt8} (hz : Zok b Z) : Stp a (tx b ++ Z) := by
  obtain ⟨h1, h2, h3, h4, h5⟩ := h
  refine ⟨fun k => ⟨hd_app (h1 k).1 h0 Z, by rw [head_app h0]; exact (h1 k).2⟩, fun k => hd_app (h2 k) h0 Z, fun k => ?_, ?_, fun k => hd_app (h5 k) h0 Z⟩
  · obtain ⟨⟨k1, k2⟩, k3, k4⟩ := h3 k
    refine ⟨⟨hd_app k1 h0 Z, fun q c r e => ?_⟩, by rw [head_app h0]; exact k3, starts_ext h0 k4 hz.2⟩
    have k2 := k2 q
    have z1 := hz.1
    generalize tx b = V at *
    cases V with
    | nil => exact absurd rfl h0
    | cons x V' =>
      have e : x :: (V' ++ Z) = 46 :: c :: r := e
      injection e with e1 e2
      subst e1
      cases V' with
      | nil => exact z1 rfl c r e2
      | cons y V'' => injection e2 with e3 _; rw [← e3]; exact k2 y V'' rfl
  · intro k c hc
    have h4 := h4 k c hc
    cases ha with
    | one d hd' =>
      injection hc with q _; subst q
      obtain ⟨d1, d2, d3, d4, d5⟩ := delim_oneC hd' _ _ _ h4
      refine oneC_delim hd' (by rw [head_app h0]; exact d1) (nz_ext d2 h0 hz.1) (fun q => hd_app (d3 q) h0 Z) (fun q => starts_ext h0 (d4 q) hz.2) ?_
      generalize tx b = V at *
      cases V with
      | nil => exact absurd rfl h0
      | cons x V' => exact d5
    | sign d hd => have := sign_facts hd; exact absurd k (by show signK d ≠ 19; omega)
    | _ => simp at k
theorem tok_of {b : Tok} (hb : Shape b) {x : UInt8} (h : tx b = [x]) : oneC x [] = (some b, 1) := by
  have := stp_one hb (stp_nil hb)
  rw [h] at this
  exact this
theorem zok_of {b : Tok} (hb : Shape b) {Y : List UInt8} (h : Stp b Y) : Zok b Y := by
  refine ⟨fun q => ?_, fun q => ?_⟩
  · have h1 := tok_of hb q
    have h2 : oneC 46 [] = (some ⟨19, [46], 0⟩, 1) := by decide +kernel
    rw [h2] at h1
    injection h1 with h1 _; injection h1 with h1
    subst h1
    obtain ⟨_, d2, _⟩ := delim_oneC (c := 46) h2 _ _ _ (h.2.2.2.1 rfl 46 rfl)
    exact fun c r e => d2.dot (by decide) c r e
  · have h1 := tok_of hb q
    have h2 : oneC 45 [] = (some ⟨19, [45], 0⟩, 1) := by decide +kernel
    rw [h2] at h1
    injection h1 with h1 _; injection h1 with h1
    subst h1
    obtain ⟨_, _, _, _, d5⟩ := delim_oneC (c := 45) h2 _ _ _ (h.2.2.2.1 rfl 45 rfl)
    rintro c r rfl
    have d5 : (lB c || decide (c.toNat = 45)) = false := d5
    rw [Bool.or_eq_false_iff, decide_eq_false_iff_not] at d5
    exact d5
theorem zok_app {b : Tok} {Y : List UInt8} (h : Zok b Y) (h0 : Y ≠ []) (Z : List UInt8) : Zok b (Y ++ Z) := by
  cases Y with
  | nil => exact absurd rfl h0
  | cons c r => exact ⟨fun q => hd_cons (h.1 q c r rfl) _, fun q d s e => by injection e with e1 _; rw [← e1]; exact h.2 q c r rfl⟩
theorem zok_num {b : Tok} (hb : Shape b) (hk : b.kind = 7) (Y : List UInt8) : Zok b Y := by
  have key : ∀ x : UInt8, isD x = false → tx b ≠ [x] := by
    intro x hx he
    cases hb with
    | num v hv =>
      obtain ⟨sg, D, F, P⟩ := prn_parts v hv
      have he : prn (H v) = [x] := he
      rw [hv, P.eq] at he
      cases D with
      | nil => exact P.ne rfl
      | cons d D' =>
        have hd := P.num.whole d List.mem_cons_self
        have : d ∈ [x] := by rw [← he]; simp
        rw [List.mem_singleton] at this
        rw [this, hx] at hd; cases hd
    | sign c hc => have := sign_facts hc; exact absurd hk (by show signK c ≠ 7; omega)
    | _ => simp at hk
  exact ⟨fun q => absurd q (key 46 (by decide)), fun q => absurd q (key 45 (by decide))⟩

/-! a nought ahead of a dot -/
theorem meaL_succ (v : Int) (n : Nat) (r : List UInt8) : meaL v (n + 1) r = ((meaL v n r).1, (meaL v n r).2 + 1) := by
  unfold meaL
  split
  · rfl
  · split
    · simp; omega
    · rfl
theorem meaL_n (v : Int) (n : Nat) (r : List UInt8) : (meaL v n r).1.n = v := by
  unfold meaL
  split
  · rfl
  · split <;> rfl
theorem worth_zero (l : List UInt8) : worth (48 :: 46 :: l) = worth (46 :: l) := by
  unfold worth wfold
  have e : wstep (0, -1) 48 = (0, -1) := by decide
  rw [List.foldl_cons, e]
  rfl
theorem dot_zero (d : UInt8) (hdg : isD d = true) (Y : List UInt8) : cut (48 :: 46 :: d :: Y) = cut (46 :: d :: Y) := by
  obtain ⟨E, R, e, hE, hne, hR⟩ : ∃ E R, d :: Y = E ++ R ∧ (∀ c ∈ E, isD c = true) ∧ E ≠ [] ∧ ∀ c r, R = c :: r → isD c = false :=
    ⟨_, _, tw_dw isD (d :: Y), tw_ok isD _, by rw [List.takeWhile_cons, if_pos hdg]; simp, dw_ok isD _⟩
  have hs : Stop (46 :: E) R := ⟨hR, fun q => nomatch q⟩
  have h1 := one_numS (sg := []) (D := []) (F := 46 :: E) (w := R) ⟨Or.inl rfl, (fun _ h => nomatch h), Or.inr ⟨E, rfl, hne, hE⟩⟩ hs (Or.inl rfl)
  have h2 := one_numS (sg := []) (D := [48]) (F := 46 :: E) (w := R) ⟨Or.inl rfl, (fun c h => by rw [List.mem_singleton] at h; subst h; decide), Or.inr ⟨E, rfl, hne, hE⟩⟩ hs (Or.inl rfl)
  rw [e]
  have h1 : one (46 :: (E ++ R)) = some1 (meaL (worth (46 :: E)) (46 :: E).length R) := h1
  have h2 : one (48 :: 46 :: (E ++ R)) = some1 (meaL (worth (48 :: 46 :: E)) ((46 :: E).length + 1) R) := h2
  rw [worth_zero, meaL_succ] at h2
  unfold some1 at h1 h2
  rw [cut_some h1, cut_some h2]
  rfl
/-- the worth of a dot and what is behind it -/
theorem frac_fold : ∀ (G : List UInt8) (v e : Int), (∀ c ∈ G, isD c = true) → 0 ≤ v → 0 ≤ e → e ≤ 3 → mul10 (v + 1) e.toNat ≤ 1000 →
    0 ≤ (G.foldl wstep (v, e)).1 ∧ 0 ≤ (G.foldl wstep (v, e)).2 ∧ (G.foldl wstep (v, e)).2 ≤ 3 ∧ mul10 ((G.foldl wstep (v, e)).1 + 1) (G.foldl wstep (v, e)).2.toNat ≤ 1000
  | [], v, e, _, h1, h2, h3, h4 => ⟨h1, h2, h3, h4⟩
  | c :: G, v, e, hG, h1, h2, h3, h4 => by
    have hc := hG c List.mem_cons_self
    have hd := dv_bd hc
    rw [List.foldl_cons]
    by_cases h0 : e = 0
    · subst h0
      rw [wstep_zero hc]
      exact frac_fold G v 0 (fun d hd => hG d (List.mem_cons_of_mem _ hd)) h1 h2 h3 h4
    · rw [wstep_pos hc v e (by omega)]
      have he : e = 1 ∨ e = 2 ∨ e = 3 := by omega
      have hv : v ≤ 99 := by
        rcases he with rfl | rfl | rfl
        · have : (v + 1) * 10 ≤ 1000 := h4
          omega
        · have : (v + 1) * 10 * 10 ≤ 1000 := h4
          omega
        · have : (v + 1) * 10 * 10 * 10 ≤ 1000 := h4
          omega
      rw [if_neg (by omega)]
      refine frac_fold G _ (e - 1) (fun d hd => hG d (List.mem_cons_of_mem _ hd)) (by omega) (by omega) (by omega) ?_
      rcases he with rfl | rfl | rfl
      · have : (v + 1) * 10 ≤ 1000 := h4
        show v * 10 + dv c + 1 ≤ 1000
        omega
      · have : (v + 1) * 10 * 10 ≤ 1000 := h4
        show (v * 10 + dv c + 1) * 10 ≤ 1000
        omega
      · have : (v + 1) * 10 * 10 * 10 ≤ 1000 := h4
        show (v * 10 + dv c + 1) * 10 * 10 ≤ 1000
        omega
theorem worth_frac (G : List UInt8) (hG : ∀ c ∈ G, isD c = true) : 0 ≤ worth (46 :: G) ∧ worth (46 :: G) < 1000 := by
  have e : wstep (0, -1) 46 = (0, 3) := by decide
  obtain ⟨h1, h2, h3, h4⟩ := frac_fold G 0 3 hG (by decide) (by decide) (by decide) (by decide)
  have hf : wfold (46 :: G) = G.foldl wstep (0, 3) := by unfold wfold; rw [List.foldl_cons, e]
  have hs : ∀ n, sgnd (46 :: G) n = n := fun n => by
    show (if (46 : UInt8).toNat = 45 then -n else n) = n
    rw [if_neg (by decide)]
  unfold worth
  rw [hs, hf]
  generalize G.foldl wstep (0, 3) = st at *
  obtain ⟨v, e⟩ := st
  simp only [] at h1 h2 h3 h4 ⊢
  have hr : rest e = e.toNat := by unfold rest; rw [if_neg (by omega)]
  rw [hr]
  have he : e = 0 ∨ e = 1 ∨ e = 2 ∨ e = 3 := by omega
  have hm : 0 ≤ mul10 v e.toNat ∧ mul10 v e.toNat < 1000 := by
    rcases he with rfl | rfl | rfl | rfl
    · have : v + 1 ≤ 1000 := h4
      show 0 ≤ v ∧ v < 1000
      omega
    · have : (v + 1) * 10 ≤ 1000 := h4
      show 0 ≤ v * 10 ∧ v * 10 < 1000
      omega
    · have : (v + 1) * 10 * 10 ≤ 1000 := h4
      show 0 ≤ v * 10 * 10 ∧ v * 10 * 10 < 1000
      omega
    · have : (v + 1) * 10 * 10 * 10 ≤ 1000 := h4
      show 0 ≤ v * 10 * 10 * 10 ∧ v * 10 * 10 * 10 < 1000
      omega
  rw [H_id (by omega) (by omega)]
  exact hm

/-! which token's text begins with a byte -/
theorem name_first {x : List UInt8} (hx : nm x) {d : UInt8} {r y : List UInt8} (h : x ++ y = d :: r) : lB d = true ∨ d.toNat = 45 := by
  obtain ⟨c, r', rfl, hc⟩ := nm_ne hx
  injection h with h1 _
  rw [← h1]; exact hc
theorem quo_first {x : List UInt8} {d : UInt8} {r : List UInt8} (h : quoT x = d :: r) : d = 34 ∨ d = 39 := by
  unfold quoT at h
  split at h
  · injection h with h1 _; exact Or.inr h1.symm
  · injection h with h1 _; exact Or.inl h1.symm
theorem prn_first {n : Int} (hn : H n = n) {d : UInt8} {r y : List UInt8} (h : prn n ++ y = d :: r) : isD d = true ∨ d = 45 := by
  obtain ⟨sg, D, F, P⟩ := prn_parts n hn
  obtain ⟨c, r', e, hc, _⟩ := P.first
  rw [e] at h
  injection h with h1 _
  rw [← h1]; exact hc
theorem dot_first {b : Tok} (hb : Shape b) {r : List UInt8} (h : tx b = 46 :: r) : r = [] := by
  cases hb with
  | ident x hx => rcases name_first hx (y := []) (by rw [List.append_nil]; exact h) with q | q <;> exact absurd q (by decide)
  | func x hx => rcases name_first hx (y := [40]) h with q | q <;> exact absurd q (by decide)
  | att x hx => injection h with h1 _; exact absurd h1 (by decide)
  | hash x _ _ => injection h with h1 _; exact absurd h1 (by decide)
  | str x _ _ => rcases quo_first h with q | q <;> exact absurd q (by decide)
  | num n hn =>
    have h : prn (H n) = 46 :: r := h
    rw [hn] at h
    rcases prn_first hn (y := []) (by rw [List.append_nil]; exact h) with q | q <;> exact absurd q (by decide)
  | pct n hn =>
    have h : prn (H n) ++ [37] = 46 :: r := h
    rw [hn] at h
    rcases prn_first hn h with q | q <;> exact absurd q (by decide)
  | dim x n hx hn =>
    have h : prn (H n) ++ x = 46 :: r := h
    rw [hn] at h
    rcases prn_first hn h with q | q <;> exact absurd q (by decide)
  | sign c hc => rw [(sign_facts hc).1] at h; injection h with _ h2; exact h2.symm
  | one c hc => injection h with _ h2; exact h2.symm
  | space => injection h with h1 _; exact absurd h1 (by decide)
/-- what stands behind a number in a token's text -/
def Tail (s : List UInt8) : Prop := s = [] ∨ s = [37] ∨ nm s
theorem tail_facts {s : List UInt8} (h : Tail s) : (∀ c r, s = c :: r → isD c = false ∧ c ≠ 46) ∧ ∀ v n, (meaL v n s).2 = n + s.length := by
  rcases h with rfl | rfl | h
  · exact ⟨(fun _ _ e => nomatch e), fun v n => rfl⟩
  · exact ⟨fun c r e => by injection e with e1 _; subst e1; decide, fun v n => rfl⟩
  · have h0 := h
    obtain ⟨c, r, rfl, hc⟩ := nm_ne h
    have hc2 : isD c = false ∧ c ≠ 46 ∧ c ≠ 37 := by
      rcases hc with hc | hc
      · obtain ⟨_, _, a3, _, _, _, _, a8, _, _, _, a12, _⟩ := let_facts hc
        exact ⟨a3, fun e => a8 (by rw [e]; rfl), fun e => a12 (by rw [e]; rfl)⟩
      · have e : c = 45 := UInt8.toNat_inj.1 hc
        subst e; decide
    refine ⟨fun d r' e => by injection e with e1 _; subst e1; exact ⟨hc2.1, hc2.2.1⟩, fun v n => ?_⟩
    unfold meaL
    rw [if_neg (by simp only [List.head?_cons]; intro q; injection q with q; exact hc2.2.2 q), if_pos h0.1]
    have := (tw_app h0.2 []).1
    simp only [List.append_nil, List.takeWhile_nil] at this
    rw [this]
theorem tail_stop {s F : List UInt8} (h : Tail s) : Stop F s :=
  ⟨fun c r e => ((tail_facts h).1 c r e).1, fun _ c r e => absurd rfl ((tail_facts h).1 46 (c :: r) e).2⟩
theorem digit_first {b : Tok} (hb : Shape b) {d : UInt8} {r : List UInt8} (h : tx b = d :: r) (hdg : isD d = true) :
    ∃ s, H b.n = b.n ∧ tx b = prn b.n ++ s ∧ Tail s := by
  have nl : ¬ (lB d = true ∨ d.toNat = 45) := by
    obtain ⟨_, _, h3, _, _, h6, _⟩ := dig_facts hdg
    rintro (q | q)
    · rw [h3] at q; cases q
    · exact h6 q
  cases hb with
  | ident x hx => exact absurd (name_first hx (y := []) (by rw [List.append_nil]; exact h)) nl
  | func x hx => exact absurd (name_first hx (y := [40]) h) nl
  | att x hx => injection h with h1 _; rw [← h1] at hdg; exact absurd hdg (by decide)
  | hash x _ _ => injection h with h1 _; rw [← h1] at hdg; exact absurd hdg (by decide)
  | str x _ _ =>
    rcases quo_first h with q | q
    · rw [q] at hdg; exact absurd hdg (by decide)
    · rw [q] at hdg; exact absurd hdg (by decide)
  | num n hn => exact ⟨[], hn, by show prn (H n) = prn n ++ []; rw [hn, List.append_nil], Or.inl rfl⟩
  | pct n hn => exact ⟨[37], hn, by show prn (H n) ++ [37] = prn n ++ [37]; rw [hn], Or.inr (Or.inl rfl)⟩
  | dim x n hx hn => exact ⟨x, hn, by show prn (H n) ++ x = prn n ++ x; rw [hn], Or.inr (Or.inr hx)⟩
  | sign c hc =>
    have k := sign_facts hc
    rw [k.1] at h; injection h with h1 _
    rw [← h1, k.2.2.2.2.2.1] at hdg; cases hdg
  | one c hc => injection h with h1 _; rw [← h1, (delim_facts hc).2.1] at hdg; cases hdg
  | space => injection h with h1 _; rw [← h1] at hdg; exact absurd hdg (by decide)
theorem blank_first {b : Tok} (hb : Shape b) {d : UInt8} {r : List UInt8} (h : tx b = d :: r) (hbl : blB d = true) : b = ⟨20, [], 0⟩ := by
  have := stp_one hb (stp_nil hb)
  rw [List.append_nil, h] at this
  have h1 : oneC d r = (some b, (d :: r).length) := this
  rw [oneC_bl (by have := bl_facts hbl; omega) hbl] at h1
  injection h1 with h1 _
  injection h1 with h1
  exact h1.symm

theorem first_is {l : List UInt8} {t t' : Tok} {r : List Tok} {n : Nat} (h : cut l = t :: r) (h1 : one l = (some t', n)) : t' = t ∧ cut (l.drop n) = r := by
  rw [cut_some h1] at h
  injection h with h2 h3
  exact ⟨h2, h3⟩
theorem one_dim {x : List UInt8} {n : Int} (hx : nm x) (hn : H n = n) (v : List UInt8) : one (prn n ++ (x ++ v)) = (some ⟨9, x ++ v.takeWhile gB, n⟩, (prn n).length + (x ++ v.takeWhile gB).length) := by
  obtain ⟨c, r, hc, hl⟩ := nm_ne hx
  have hl2 : isD c = false ∧ c.toNat ≠ 46 ∧ c.toNat ≠ 37 := by
    rcases hl with hl | hl
    · obtain ⟨_, _, a3, _, _, _, _, a8, _, _, _, a12, _⟩ := let_facts hl
      exact ⟨a3, a8, a12⟩
    · have e : c = 45 := UInt8.toNat_inj.1 hl
      subst e; decide
  have e : x ++ v = c :: (r ++ v) := by rw [hc]; rfl
  rw [one_num n hn ⟨fun d r' e' => by rw [e] at e'; injection e' with e1 _; rw [← e1]; exact hl2.1, fun _ d r' e' => by rw [e] at e'; injection e' with e1 _; exact absurd (by rw [e1]; rfl) hl2.2.1⟩]
  unfold meaL some1
  rw [if_neg (by rw [e]; simp only [List.head?_cons]; intro q; injection q with q; exact hl2.2.2 (by rw [q]; rfl)), if_pos (starts_app hx.1 v), (tw_app hx.2 v).1]

/-- a number, and a token whose text begins with a digit -/
theorem adj_dig {v : Int} (hv : H v = v) {b : Tok} {V s : List UInt8} (hb : H b.n = b.n) (he : V = prn b.n ++ s) (hs : Tail s) {d : UInt8} {r : List UInt8} (hV : V = d :: r) (hdg : isD d = true)
    (h : cut (prn v ++ V) = [⟨7, [], v⟩, b]) : ∀ Z, cut (prn v ++ (V ++ Z)) = ⟨7, [], v⟩ :: cut (V ++ Z) := by
  obtain ⟨sg, D, F, P⟩ := prn_parts v hv
  obtain ⟨sg2, D2, F2, P2⟩ := prn_parts b.n hb
  obtain ⟨hs1, hs2⟩ := tail_facts hs
  have hsg2 : sg2 = [] := by
    obtain ⟨c, r', e, _, k⟩ := P2.first
    refine k ?_
    rw [he, e] at hV
    injection hV with h1 _
    rw [h1]; exact hdg
  subst hsg2
  have single : ∀ (D' F' : List UInt8), prn v ++ V = sg ++ (D' ++ (F' ++ s)) → Num sg D' F' → False := by
    intro D' F' e hn
    have h1 := one_numS hn (tail_stop hs) P.sgn
    rw [← e] at h1
    obtain ⟨_, k⟩ := first_is h h1
    rw [hs2, e, List.drop_of_length_le (by simp; omega), cut_nil] at k
    cases k
  rcases P.num.frac with ⟨hF, _⟩ | ⟨G, hF, g1, g2⟩
  · exfalso
    refine single (D ++ D2) F2 ?_ ⟨P.num.sign, ?_, ?_⟩
    · rw [he, P.eq, P2.eq, hF]; simp
    · intro c hc
      rcases List.mem_append.1 hc with hc | hc
      · exact P.num.whole c hc
      · exact P2.num.whole c hc
    · rcases P2.num.frac with ⟨q, _⟩ | q
      · exact Or.inl ⟨q, by have := P.ne; simp [this]⟩
      · exact Or.inr q
  · have hg : ∀ c ∈ G ++ D2, isD c = true := by
      intro c hc
      rcases List.mem_append.1 hc with hc | hc
      · exact g2 c hc
      · exact P2.num.whole c hc
    have hn : Num sg D (46 :: (G ++ D2)) := ⟨P.num.sign, P.num.whole, Or.inr ⟨_, rfl, by simp [g1], hg⟩⟩
    rcases P2.num.frac with ⟨hF2, _⟩ | ⟨G2, hF2, k1, k2⟩
    · exfalso
      exact single D (46 :: (G ++ D2)) (by rw [he, P.eq, P2.eq, hF, hF2]; simp) hn
    · have hst : ∀ Y, Stop (46 :: (G ++ D2)) (46 :: Y) := fun Y => ⟨fun c r e => by injection e with e1 _; rw [← e1]; decide, fun q => nomatch q⟩
      have hone : ∀ Y, one (sg ++ (D ++ ((46 :: (G ++ D2)) ++ 46 :: Y))) = (some ⟨7, [], worth (sg ++ (D ++ (46 :: (G ++ D2))))⟩, (sg ++ (D ++ (46 :: (G ++ D2)))).length) := by
        intro Y
        rw [one_numS hn (hst Y) P.sgn]
        unfold meaL some1
        rw [if_neg (by simp), if_neg (by rw [starts_hd _ (by decide) (by decide)]; simp)]
      have e1 : prn v ++ V = sg ++ (D ++ ((46 :: (G ++ D2)) ++ 46 :: (G2 ++ s))) := by rw [he, P.eq, P2.eq, hF, hF2]; simp
      have h1 := hone (G2 ++ s)
      rw [← e1] at h1
      obtain ⟨k3, k4⟩ := first_is h h1
      have e2 : (prn v ++ V).drop (sg ++ (D ++ (46 :: (G ++ D2)))).length = 46 :: (G2 ++ s) := by
        rw [e1]
        have : sg ++ (D ++ ((46 :: (G ++ D2)) ++ 46 :: (G2 ++ s))) = (sg ++ (D ++ (46 :: (G ++ D2)))) ++ (46 :: (G2 ++ s)) := by simp
        rw [this, List.drop_left]
      rw [e2] at k4
      have h2 := one_numS (sg := []) (D := []) (F := 46 :: G2) (w := s) ⟨Or.inl rfl, (fun _ h => nomatch h), Or.inr ⟨G2, rfl, k1, k2⟩⟩ (tail_stop hs) (Or.inl rfl)
      have h2 : one (46 :: (G2 ++ s)) = some1 (meaL (worth (46 :: G2)) (46 :: G2).length s) := h2
      obtain ⟨k5, _⟩ := first_is k4 h2
      have k6 := meaL_n (worth (46 :: G2)) (46 :: G2).length s
      rw [k5] at k6
      have k7 := worth_frac G2 k2
      have hD2 : D2 = [48] := by
        rcases P2.low with q | q
        · exact q
        · omega
      intro Z
      obtain ⟨d2, G3, rfl⟩ : ∃ d2 G3, G2 = d2 :: G3 := by
        cases G2 with
        | nil => exact absurd rfl k1
        | cons x y => exact ⟨x, y, rfl⟩
      have e3 : prn v ++ (V ++ Z) = sg ++ (D ++ ((46 :: (G ++ D2)) ++ 46 :: (d2 :: (G3 ++ (s ++ Z))))) := by rw [he, P.eq, P2.eq, hF, hF2]; simp
      have e4 : V ++ Z = 48 :: 46 :: d2 :: (G3 ++ (s ++ Z)) := by rw [he, P2.eq, hF2, hD2]; simp
      have h3 := hone (d2 :: (G3 ++ (s ++ Z)))
      rw [e3, cut_some h3, k3, e4, dot_zero d2 (k2 d2 List.mem_cons_self)]
      congr 2
      have : sg ++ (D ++ ((46 :: (G ++ D2)) ++ 46 :: (d2 :: (G3 ++ (s ++ Z))))) = (sg ++ (D ++ (46 :: (G ++ D2)))) ++ (46 :: (d2 :: (G3 ++ (s ++ Z)))) := by simp
      rw [this, List.drop_left]

/-- two tokens whose texts run into no other ones -/
theorem adj {a b : Tok} (ha : Shape a) (hb : Shape b) (h : cut (tx a ++ tx b) = [a, b]) : Stp a (tx b) ∨ (a.kind = 7 ∧ ∀ Z, cut (tx a ++ (tx b ++ Z)) = a :: cut (tx b ++ Z)) := by
  have hV := tx_ne hb
  cases ha with
  | ident x hx =>
    left
    have h : cut (x ++ tx b) = [⟨1, x, 0⟩, b] := h
    have h1 := one_name hx (tx b)
    by_cases q : ((tx b).dropWhile gB).head? = some 40
    · rw [if_pos q] at h1
      have := (first_is h h1).1
      simp at this
    · rw [if_neg q] at h1
      have := (first_is h h1).1
      simp at this
      have k := tw_hd (p := gB) (v := tx b) (by simpa using this)
      rw [(hd_tw k).2] at q
      exact ⟨fun _ => ⟨k, q⟩, fun h => by simp at h, fun h => by simp at h, fun h => by simp at h, fun h => by simp at h⟩
  | func x hx => exact Or.inl ⟨fun h => by simp at h, fun h => by simp at h, fun h => by simp at h, fun h => by simp at h, fun h => by simp at h⟩
  | att x hx =>
    left
    have h : cut (64 :: (x ++ tx b)) = [⟨3, x, 0⟩, b] := h
    have := (first_is h (one_at hx (tx b))).1
    simp at this
    have k := tw_hd (p := gB) (v := tx b) (by simpa using this)
    exact ⟨fun h => by simp at h, fun _ => k, fun h => by simp at h, fun h => by simp at h, fun h => by simp at h⟩
  | hash x h0 hx =>
    left
    have h : cut (35 :: (x ++ tx b)) = [⟨4, x, 0⟩, b] := h
    have := (first_is h (one_hash h0 hx (tx b))).1
    simp at this
    have k := tw_hd (p := gB) (v := tx b) (by simpa using this)
    exact ⟨fun h => by simp at h, fun _ => k, fun h => by simp at h, fun h => by simp at h, fun h => by simp at h⟩
  | str x _ _ => exact Or.inl ⟨fun h => by simp at h, fun h => by simp at h, fun h => by simp at h, fun h => by simp at h, fun h => by simp at h⟩
  | num v hv =>
    have h : cut (prn (H v) ++ tx b) = [⟨7, [], v⟩, b] := h
    rw [hv] at h
    by_cases hdg : ∃ d r, tx b = d :: r ∧ isD d = true
    · right
      obtain ⟨d, r, e, hdg⟩ := hdg
      obtain ⟨s, k1, k2, k3⟩ := digit_first hb e hdg
      refine ⟨rfl, ?_⟩
      show ∀ Z, cut (prn (H v) ++ (tx b ++ Z)) = _
      rw [hv]
      exact adj_dig hv k1 k2 k3 e hdg h
    · left
      have hns : NumStop (prn v) (tx b) := by
        refine ⟨fun c r e => ?_, fun _ c r e => ?_⟩
        · cases hc : isD c with
          | false => rfl
          | true => exact absurd ⟨c, r, e, hc⟩ hdg
        · have := dot_first hb e; cases this
      have h1 := one_num v hv hns
      unfold meaL some1 at h1
      by_cases q1 : (tx b).head? = some 37
      · rw [if_pos q1] at h1
        have := (first_is h h1).1
        simp at this
      · rw [if_neg q1] at h1
        by_cases q2 : startsL (tx b) = true
        · rw [if_pos q2] at h1
          have := (first_is h h1).1
          simp at this
        · exact ⟨fun h => by simp at h, fun h => by simp at h, fun _ => ⟨hns, q1, by simpa using q2⟩, fun h => by simp at h, fun h => by simp at h⟩
  | pct n hn => exact Or.inl ⟨fun h => by simp at h, fun h => by simp at h, fun h => by simp at h, fun h => by simp at h, fun h => by simp at h⟩
  | dim x n hx hn =>
    left
    have h : cut ((prn (H n) ++ x) ++ tx b) = [⟨9, x, n⟩, b] := h
    rw [hn, List.append_assoc] at h
    have := (first_is h (one_dim hx hn (tx b))).1
    simp at this
    have k := tw_hd (p := gB) (v := tx b) (by simpa using this)
    exact ⟨fun h => by simp at h, fun _ => k, fun h => by simp at h, fun h => by simp at h, fun h => by simp at h⟩
  | sign c hc =>
    have k := sign_facts hc
    exact Or.inl ⟨fun h => absurd h (by show signK c ≠ 1; omega), fun h => absurd h (by show ¬ (signK c = 3 ∨ signK c = 4 ∨ signK c = 9); omega), fun h => absurd h (by show signK c ≠ 7; omega), fun h => absurd h (by show signK c ≠ 19; omega), fun h => absurd h (by show signK c ≠ 20; omega)⟩
  | one c hc =>
    left
    refine ⟨fun h => by simp at h, fun h => by simp at h, fun h => by simp at h, fun _ c' e => ?_, fun h => by simp at h⟩
    injection e with e1 _; subst e1
    have h : cut (c :: tx b) = [⟨19, [c], 0⟩, b] := h
    obtain ⟨_, _, f3, f4, f5, f6⟩ := delim_facts hc
    by_cases h1 : c.toNat = 47 ∧ (tx b).head? = some 42
    · exfalso
      obtain ⟨V', e⟩ : ∃ V', tx b = 42 :: V' := by
        cases hq : tx b with
        | nil => exact absurd hq hV
        | cons x y => rw [hq] at h1; have := h1.2; simp at this; exact ⟨y, by rw [this]⟩
      have hd42 : delim 42 := by unfold delim; decide +kernel
      have k1 := stp_one hb (stp_nil hb)
      rw [List.append_nil, e] at k1
      have k1 : oneC 42 V' = (some b, (42 :: V').length) := k1
      rw [oneC_delim hd42 (by intro q; exact absurd q.1 (by decide)) ⟨by decide, fun q => absurd q (by decide), fun q => absurd q (by decide)⟩ (fun q => absurd q (by decide)) (fun q => absurd q (by decide)) (starts_hd _ (by decide) (by decide))] at k1
      injection k1 with _ k2
      have : V' = [] := List.eq_nil_of_length_eq_zero (by simp only [List.length_cons] at k2; omega)
      have hc47 : c = 47 := UInt8.toNat_inj.1 h1.1
      rw [e, this, hc47] at h
      have : cut [47, 42] = [] := by decide +kernel
      rw [this] at h; cases h
    by_cases h2 : numL (c :: tx b) = 0
    · have hp := oneC_plain (r := tx b) ⟨h1, f3, by omega, h2⟩
      by_cases h3 : c.toNat = 35 ∧ 0 < ((tx b).takeWhile gB).length
      · rw [if_pos h3] at hp; have := (first_is h hp).1; simp at this
      rw [if_neg h3] at hp
      by_cases h4 : c.toNat = 64 ∧ startsL (tx b) = true
      · rw [if_pos h4] at hp; have := (first_is h hp).1; simp at this
      rw [if_neg h4] at hp
      by_cases h5 : startsL (c :: tx b) = true
      · rw [if_pos h5] at hp
        split at hp
        · have := (first_is h hp).1; simp at this
        · have := (first_is h hp).1; simp at this
      rw [if_neg h5] at hp
      rw [hp]
      unfold signT; rw [if_pos f6]
    · have hp := oneC_num (r := tx b) h1 f3 (by omega) (by omega)
      unfold meaL some1 at hp
      split at hp
      · have := (first_is h hp).1; simp at this
      · split at hp
        · have := (first_is h hp).1; simp at this
        · have := (first_is h hp).1; simp at this
  | space =>
    left
    refine ⟨fun h => by simp at h, fun h => by simp at h, fun h => by simp at h, fun h => by simp at h, fun _ d r e => ?_⟩
    cases hbl : blB d with
    | false => rfl
    | true =>
      have hb := blank_first hb e hbl
      rw [hb] at h
      have : cut (tx ⟨20, [], 0⟩ ++ tx ⟨20, [], 0⟩) = [⟨20, [], 0⟩] := by decide +kernel
      rw [this] at h; cases h

/-- what is printed begins with the first token's text; what is behind that may stand there -/
theorem print_rest {W : List UInt8} (hW : W = [] ∨ ∃ W', W = 47 :: 42 :: W') : ∀ (r : List Tok) (b : Tok), Shape b → (∀ t ∈ r, Shape t) → ∃ Z, printL (b :: r) ++ W = tx b ++ Z ∧ Zok b Z
  | [], b, hb, _ => by
    refine ⟨W, rfl, ?_⟩
    rcases hW with rfl | ⟨W', rfl⟩
    · exact zok_of hb (stp_nil hb)
    · exact zok_of hb (stp_com hb W')
  | c :: r, b, hb, hr => by
    have hc := hr c List.mem_cons_self
    obtain ⟨Z, e, hz⟩ := print_rest hW r c hc (fun t ht => hr t (List.mem_cons_of_mem _ ht))
    refine ⟨sepL b c ++ (printL (c :: r) ++ W), by show (tx b ++ (sepL b c ++ printL (c :: r))) ++ W = _; simp, ?_⟩
    unfold sepL
    by_cases q : cut (tx b ++ tx c) = [b, c]
    · rw [if_pos q, List.nil_append, e]
      rcases adj hb hc q with k | ⟨k, _⟩
      · exact zok_app (zok_of hb k) (tx_ne hc) Z
      · exact zok_num hb k _
    · rw [if_neg q]
      exact zok_of hb (stp_com hb _)
/-- WHAT IS PRINTED IS CUT INTO JUST THESE -/
theorem print_cut {W : List UInt8} (hW : W = [] ∨ ∃ W', W = 47 :: 42 :: W') : ∀ l : List Tok, (∀ t ∈ l, Shape t) → cut (printL l ++ W) = l ++ cut W
  | [], _ => rfl
  | [a], h => by
    have ha := h a List.mem_cons_self
    have hs : Stp a W := by
      rcases hW with rfl | ⟨W', rfl⟩
      · exact stp_nil ha
      · exact stp_com ha W'
    show cut (tx a ++ W) = _
    rw [cut_some (stp_one ha hs), List.drop_left]; rfl
  | a :: b :: r, h => by
    have ha := h a List.mem_cons_self
    have hr : ∀ t ∈ b :: r, Shape t := fun t ht => h t (List.mem_cons_of_mem _ ht)
    have hb := hr b List.mem_cons_self
    have ih := print_cut hW (b :: r) hr
    obtain ⟨Z, e, hz⟩ := print_rest hW r b hb (fun t ht => hr t (List.mem_cons_of_mem _ ht))
    have e0 : printL (a :: b :: r) ++ W = tx a ++ (sepL a b ++ (printL (b :: r) ++ W)) := by
      show (tx a ++ (sepL a b ++ printL (b :: r))) ++ W = _
      simp
    rw [e0]
    unfold sepL
    by_cases q : cut (tx a ++ tx b) = [a, b]
    · rw [if_pos q, List.nil_append]
      rcases adj ha hb q with k | ⟨_, k⟩
      · have := stp_one ha (stp_ext ha k (tx_ne hb) hz)
        rw [← e] at this
        rw [cut_some this, List.drop_left, ih]; rfl
      · rw [e, k Z, ← e, ih]; rfl
    · rw [if_neg q]
      have := stp_one ha (stp_com ha (42 :: 47 :: (printL (b :: r) ++ W)))
      have e1 : [47, 42, 42, 47] ++ (printL (b :: r) ++ W) = 47 :: 42 :: 42 :: 47 :: (printL (b :: r) ++ W) := rfl
      rw [e1, cut_some this, List.drop_left]
      have e2 : one (47 :: 42 :: 42 :: 47 :: (printL (b :: r) ++ W)) = (none, 4) := rfl
      rw [cut_none e2]
      show a :: cut (printL (b :: r) ++ W) = _
      rw [ih]; rfl
theorem print_cut_nil (l : List Tok) (h : ∀ t ∈ l, Shape t) : cut (printL l) = l := by
  have := print_cut (W := []) (Or.inl rfl) l h
  rwa [List.append_nil, cut_nil, List.append_nil] at this
end Go.Proofs.Ytoaenlbbochjhaa.LexP

namespace Go.Proofs.Ytoaenlbbochjhaa.LexP
open FixM FixP TreN

/-! how long -/
def tot : List Tok → Nat
  | [] => 0
  | t :: l => (tx t).length + 4 + tot l
theorem tot_app : ∀ l m, tot (l ++ m) = tot l + tot m
  | [], m => by simp [tot]
  | t :: l, m => by simp only [List.cons_append, tot, tot_app l m]; omega
theorem tot_filter (p : Tok → Bool) : ∀ l, tot (l.filter p) ≤ tot l
  | [] => Nat.le_refl _
  | t :: l => by
    have := tot_filter p l
    rw [List.filter_cons]
    split
    · simp only [tot]; omega
    · simp only [tot]; omega
theorem tot_take (l : List Tok) (j : Nat) : tot (l.take j) ≤ tot l := by
  have h : l = l.take j ++ l.drop j := (List.take_append_drop j l).symm
  have := tot_app (l.take j) (l.drop j)
  rw [← h] at this
  omega
theorem prT_tot (l : List Tok) : ∀ j, j ≤ l.length → (prT l j).length ≤ tot (l.take j)
  | 0, _ => by simp [prT_zero, tot]
  | j + 1, h => by
    have ih := prT_tot l j (by omega)
    have hj : l[j]? = some l[j] := List.getElem?_eq_getElem (by omega)
    rw [List.take_succ_eq_append_getElem (by omega), tot_app]
    show (prT l j ++ ((if j = 0 then [] else match l[j - 1]?, l[j]? with | some a, some b => sepL a b | _, _ => []) ++ (match l[j]? with | some b => tx b | none => []))).length ≤ _
    rw [hj]
    have hs : (if j = 0 then [] else match l[j - 1]?, some l[j] with | some a, some b => sepL a b | _, _ => []).length ≤ 4 := by
      split
      · simp
      · split
        · exact len_sepL _ _
        · simp
    simp only [List.length_append, tot]
    omega
theorem prT_le (l : List Tok) (j : Nat) (h : j ≤ l.length) : (prT l j).length ≤ tot l := Nat.le_trans (prT_tot l j h) (tot_take l j)
theorem printL_le (l : List Tok) : (printL l).length ≤ tot l := by rw [← prT_all]; exact prT_le l l.length (Nat.le_refl _)
theorem prn_le12 (n : Int) : (prn n).length ≤ 12 := by
  have hp : ∀ a, (prt a).length ≤ 11 := fun a => by
    have k1 := pr1s_len a 3
    have k2 := pr2s_len ((pr1s a 3).1, prp (pr1s a 3).2) 7
    have k3 := prp_len (pr1s a 3).2
    show (pr2s ((pr1s a 3).1, prp (pr1s a 3).2) 7).2.length ≤ 11
    simp only [] at k2
    omega
  unfold prn
  split
  · have := hp (-n); simp; omega
  · have := hp n; omega
theorem one_cost (c : UInt8) (r : List UInt8) (t : Tok) (h : (oneC c r).1 = some t) : (tx t).length + 4 ≤ 16 * (oneC c r).2 := by
  by_cases h1 : c.toNat = 47 ∧ r.head? = some 42
  · rw [oneC_com h1] at h; cases h
  by_cases h2 : blB c = true
  · rw [oneC_bl h1 h2] at h ⊢
    injection h with h; subst h
    have := tw_pos blB c r h2
    show 1 + 4 ≤ 16 * ((c :: r).takeWhile blB).length
    omega
  have h2 : blB c = false := by simpa using h2
  by_cases h3 : c.toNat = 34 ∨ c.toNat = 39
  · rw [oneC_quo h1 h2 h3] at h ⊢
    injection h with h
    have k5 : ∀ x : List UInt8, (tx ⟨5, x, 0⟩).length = x.length + 2 := fun x => by
      show (quoT x).length = _
      unfold quoT; split <;> simp
    have k6 : ∀ x : List UInt8, (tx ⟨6, x, 0⟩).length = 0 := fun x => rfl
    show _ ≤ 16 * (quoL c r).2
    unfold quoL at h ⊢
    split at h
    · rw [← h, k5]; simp only []; omega
    · split at h
      · rename_i hd; rw [← h, k6, if_pos hd]; simp only []; omega
      · rename_i hd; rw [← h, k5, if_neg hd]; simp only []; omega
  by_cases h4 : numL (c :: r) = 0
  · rw [oneC_plain ⟨h1, h2, h3, h4⟩] at h ⊢
    by_cases h5 : c.toNat = 35 ∧ 0 < (r.takeWhile gB).length
    · rw [if_pos h5] at h ⊢; injection h with h; subst h
      show (35 :: r.takeWhile gB).length + 4 ≤ 16 * (1 + (r.takeWhile gB).length)
      simp only [List.length_cons]; omega
    rw [if_neg h5] at h ⊢
    by_cases h6 : c.toNat = 64 ∧ startsL r = true
    · rw [if_pos h6] at h ⊢; injection h with h; subst h
      show (64 :: r.takeWhile gB).length + 4 ≤ 16 * (1 + (r.takeWhile gB).length)
      simp only [List.length_cons]; omega
    rw [if_neg h6] at h ⊢
    by_cases h7 : startsL (c :: r) = true
    · have := starts_go h7
      rw [if_pos h7] at h ⊢
      split at h
      · rename_i hd
        rw [if_pos hd]
        injection h with h; subst h
        show ((c :: r).takeWhile gB ++ [40]).length + 4 ≤ 16 * (((c :: r).takeWhile gB).length + 1)
        simp only [List.length_append, List.length_cons, List.length_nil]; omega
      · rename_i hd
        rw [if_neg hd]
        injection h with h; subst h
        show ((c :: r).takeWhile gB).length + 4 ≤ 16 * ((c :: r).takeWhile gB).length
        omega
    rw [if_neg h7] at h ⊢
    injection h with h
    unfold signT at h
    by_cases h8 : signK c = 0
    · rw [if_pos h8] at h; subst h
      show [c].length + 4 ≤ 16 * 1
      simp
    · rw [if_neg h8] at h; subst h
      rw [(sign_facts h8).1]; simp
  · rw [oneC_num h1 h2 h3 (by omega)] at h ⊢
    injection h with h
    generalize numL (c :: r) = m at *
    generalize worth ((c :: r).take m) = v at *
    generalize (c :: r).drop m = q at *
    have hp := prn_le12 (H v)
    show _ ≤ 16 * (meaL v m q).2
    unfold meaL at h ⊢
    split at h
    · rename_i hd
      rw [if_pos hd, ← h]
      show (prn (H v) ++ [37]).length + 4 ≤ 16 * (m + 1)
      simp only [List.length_append, List.length_cons, List.length_nil]; omega
    · rename_i hd
      rw [if_neg hd]
      split at h
      · rename_i hs
        have := starts_go hs
        rw [if_pos hs, ← h]
        show (prn (H v) ++ q.takeWhile gB).length + 4 ≤ 16 * (m + (q.takeWhile gB).length)
        simp only [List.length_append]; omega
      · rename_i hs
        rw [if_neg hs, ← h]
        show (prn (H v)).length + 4 ≤ 16 * m
        omega
theorem cutF_cost : ∀ (f : Nat) (l : List UInt8), tot (cutF f l) ≤ 16 * l.length
  | 0, l => by simp [cutF, tot]
  | f + 1, [] => by simp [cutF, tot]
  | f + 1, c :: r => by
    have hb := one_bd c r
    have ih := cutF_cost f ((c :: r).drop (one (c :: r)).2)
    rw [List.length_drop] at ih
    have hc := one_cost c r
    show tot ((one (c :: r)).1.toList ++ cutF f ((c :: r).drop (one (c :: r)).2)) ≤ _
    rw [tot_app]
    have hf : tot (one (c :: r)).1.toList ≤ 16 * (one (c :: r)).2 := by
      cases ho : (one (c :: r)).1 with
      | none => simp [tot]
      | some t =>
        have := hc t ho
        show (tx t).length + 4 + 0 ≤ 16 * (one (c :: r)).2
        exact this
    omega
theorem cut_cost (l : List UInt8) : tot (cut l) ≤ 16 * l.length := cutF_cost _ l

/-! a blank, and what is behind it -/
theorem tw32 {p : UInt8 → Bool} (hp : p 32 = false) (t : List UInt8) : ∀ a : List UInt8, (a ++ 32 :: t).takeWhile p = a.takeWhile p ∧ (a ++ 32 :: t).dropWhile p = a.dropWhile p ++ 32 :: t
  | [] => by simp [hp]
  | x :: a => by
    obtain ⟨h1, h2⟩ := tw32 hp t a
    cases hx : p x with
    | true => simp [hx, h1, h2]
    | false => simp [hx]
theorem tw_stop {p : UInt8 → Bool} (t : List UInt8) : ∀ a : List UInt8, (∃ x ∈ a, p x = false) → (a ++ t).takeWhile p = a.takeWhile p ∧ (a ++ t).dropWhile p = a.dropWhile p ++ t ∧ a.dropWhile p ≠ []
  | [], h => by obtain ⟨x, hx, _⟩ := h; cases hx
  | y :: a, h => by
    cases hy : p y with
    | false => simp [hy]
    | true =>
      obtain ⟨x, hx, hpx⟩ := h
      have hx' : x ∈ a := by
        rcases List.mem_cons.1 hx with rfl | h
        · rw [hy] at hpx; cases hpx
        · exact h
      obtain ⟨h1, h2, h3⟩ := tw_stop t a ⟨x, hx', hpx⟩
      simp [hy, h1, h2, h3]
theorem tw_or (p : UInt8 → Bool) (a : List UInt8) : (∃ x ∈ a, p x = false) ∨ ∀ x ∈ a, p x = true := by
  by_cases h : ∃ x ∈ a, p x = false
  · exact Or.inl h
  · right
    intro x hx
    cases hp : p x with
    | true => rfl
    | false => exact absurd ⟨x, hx, hp⟩ h
theorem starts32 (t : List UInt8) : ∀ a : List UInt8, startsL (a ++ 32 :: t) = startsL (a ++ [32])
  | [] => by
    have h : startsL [32] = false := by decide
    rw [List.nil_append, List.nil_append, h]
    exact starts_hd t (by decide) (by decide)
  | [x] => rfl
  | x :: y :: r => rfl
theorem head32 (t : List UInt8) : ∀ a : List UInt8, (a ++ 32 :: t).head? = (a ++ [32]).head?
  | [] => rfl
  | _ :: _ => rfl
theorem num32 (t : List UInt8) (c : UInt8) (r : List UInt8) : numL (c :: (r ++ 32 :: t)) = numL (c :: r) := by
  rw [numL_S, numL_S]
  have hb : beg (c :: (r ++ 32 :: t)) = beg (c :: r) := rfl
  have hle : beg (c :: r) ≤ (c :: r).length := beg_le _
  unfold numS
  rw [hb]
  have hd : (c :: (r ++ 32 :: t)).drop (beg (c :: r)) = (c :: r).drop (beg (c :: r)) ++ 32 :: t := by
    rw [← List.cons_append, List.drop_append_of_le_length hle]
  rw [hd]
  obtain ⟨e1, e2⟩ := tw32 (p := isD) (by decide) t ((c :: r).drop (beg (c :: r)))
  rw [e1, e2]
  generalize (c :: r).drop (beg (c :: r)) = q
  cases hq : q.dropWhile isD with
  | nil =>
    show (if (32 : UInt8).toNat = 46 ∧ _ then _ else _) = _
    rw [if_neg (by intro h; exact absurd h.1 (by decide))]
  | cons x y =>
    have e3 := (tw32 (p := isD) (by decide) t y).1
    have e4 : List.takeWhile isD (y.append (32 :: t)) = List.takeWhile isD y := e3
    show (if x.toNat = 46 ∧ (y.append (32 :: t)).takeWhile isD ≠ [] then _ + (List.takeWhile isD (y.append (32 :: t))).length else _) = _
    rw [e4]
theorem endC_32 (t : List UInt8) : endC (32 :: t) = endC t + 1 := by
  cases t with
  | nil => rfl
  | cons x y =>
    show (if (32 : UInt8).toNat = 42 ∧ x.toNat = 47 then 2 else endC (x :: y) + 1) = _
    rw [if_neg (by intro h; exact absurd h.1 (by decide))]
theorem endC_blanks (t : List UInt8) : endC (32 :: 9 :: 10 :: t) = endC t + 3 := by
  have h9 : ∀ (x : UInt8) (y : List UInt8), x.toNat ≠ 42 → endC (x :: y) = endC y + 1 := by
    intro x y hx
    cases y with
    | nil => rfl
    | cons a b =>
      show (if x.toNat = 42 ∧ a.toNat = 47 then 2 else endC (a :: b) + 1) = _
      rw [if_neg (by intro h; exact hx h.1)]
  rw [h9 32 _ (by decide), h9 9 _ (by decide), h9 10 _ (by decide)]
theorem endC_two : ∀ a : List UInt8, (endC (a ++ [32]) ≤ a.length ∧ ∀ t, endC (a ++ 32 :: t) = endC (a ++ [32])) ∨ ∀ t, endC (a ++ 32 :: t) = a.length + endC (32 :: t)
  | [] => Or.inr fun t => by simp
  | [x] => by
    refine Or.inr fun t => ?_
    show (if x.toNat = 42 ∧ (32 : UInt8).toNat = 47 then 2 else endC (32 :: t) + 1) = _
    rw [if_neg (by intro h; exact absurd h.2 (by decide))]
    simp; omega
  | x :: y :: a => by
    have e : ∀ t, endC (x :: y :: a ++ 32 :: t) = if x.toNat = 42 ∧ y.toNat = 47 then 2 else endC (y :: a ++ 32 :: t) + 1 := fun t => rfl
    by_cases h : x.toNat = 42 ∧ y.toNat = 47
    · left
      refine ⟨by rw [e, if_pos h]; simp, fun t => by rw [e, e, if_pos h, if_pos h]⟩
    · rcases endC_two (y :: a) with ⟨h1, h2⟩ | h2
      · left
        refine ⟨by rw [e, if_neg h]; simp at h1 ⊢; omega, fun t => by rw [e, e, if_neg h, if_neg h, h2]⟩
      · right
        intro t
        rw [e, if_neg h, h2]
        simp; omega
theorem mea32 (v : Int) (m : Nat) (q t : List UInt8) : meaL v m (q ++ 32 :: t) = meaL v m (q ++ [32]) ∧ (meaL v m (q ++ [32])).2 ≤ m + q.length := by
  have e1 := fun t => (tw32 (p := gB) (by decide) t q).1
  have hl := tw_le gB q
  unfold meaL
  rw [head32, starts32, e1 t, e1 []]
  refine ⟨rfl, ?_⟩
  split
  · rename_i h
    cases q with
    | nil => rw [List.nil_append] at h; exact absurd h (by decide)
    | cons x y => simp
  · split
    · simp; omega
    · simp
/-- but for comments, blanks and quotes, what begins a text does not reach the blank -/
theorem one32 (c : UInt8) (r t : List UInt8) (h1 : ¬ (c.toNat = 47 ∧ (r ++ [32]).head? = some 42)) (h2 : blB c = false) (h3 : ¬ (c.toNat = 34 ∨ c.toNat = 39)) :
    oneC c (r ++ 32 :: t) = oneC c (r ++ [32]) ∧ (oneC c (r ++ [32])).2 ≤ r.length + 1 := by
  have h1' : ¬ (c.toNat = 47 ∧ (r ++ 32 :: t).head? = some 42) := by rw [head32]; exact h1
  have n1 := num32 t c r
  have n2 := num32 [] c r
  have hnle := numL_le (c :: r)
  have g1 := fun t => tw32 (p := gB) (by decide) t r
  have g2 := fun t => tw32 (p := gB) (by decide) t (c :: r)
  have s1 := starts32 t (c :: r)
  have s2 := starts32 t r
  have lr := tw_le gB r
  have lc := tw_le gB (c :: r)
  simp only [List.cons_append] at s1 g2
  by_cases h4 : numL (c :: r) = 0
  · rw [oneC_plain ⟨h1', h2, h3, n1.trans h4⟩, oneC_plain ⟨h1, h2, h3, n2.trans h4⟩, (g1 t).1, (g1 []).1, (g2 t).1, (g2 t).2, (g2 []).1, (g2 []).2, s1, s2, head32]
    refine ⟨rfl, ?_⟩
    split
    · show 1 + (r.takeWhile gB).length ≤ _; omega
    · split
      · show 1 + (r.takeWhile gB).length ≤ _; omega
      · split
        · split
          · rename_i _ _ _ h
            show ((c :: r).takeWhile gB).length + 1 ≤ _
            have e := tw_dw gB (c :: r)
            have hne : (c :: r).dropWhile gB ≠ [] := by
              intro q; rw [q, List.nil_append] at h; exact absurd h (by decide)
            have := List.length_pos_iff.2 hne
            have hl : ((c :: r).takeWhile gB ++ (c :: r).dropWhile gB).length = r.length + 1 := by rw [← e]; rfl
            rw [List.length_append] at hl
            omega
          · show ((c :: r).takeWhile gB).length ≤ _; simp at lc; omega
        · show 1 ≤ _; omega
  · rw [oneC_num h1' h2 h3 (by rw [n1]; omega), oneC_num h1 h2 h3 (by rw [n2]; omega), n1, n2]
    have hlen : numL (c :: r) ≤ (c :: r).length := hnle
    have e1 : ∀ t, (c :: (r ++ 32 :: t)).take (numL (c :: r)) = (c :: r).take (numL (c :: r)) := fun t => by
      rw [← List.cons_append, List.take_append_of_le_length hlen]
    have e2 : ∀ t, (c :: (r ++ 32 :: t)).drop (numL (c :: r)) = (c :: r).drop (numL (c :: r)) ++ 32 :: t := fun t => by
      rw [← List.cons_append, List.drop_append_of_le_length hlen]
    rw [e1 t, e1 [], e2 t, e2 []]
    obtain ⟨m1, m2⟩ := mea32 (worth ((c :: r).take (numL (c :: r)))) (numL (c :: r)) ((c :: r).drop (numL (c :: r))) t
    rw [m1]
    refine ⟨rfl, ?_⟩
    rw [List.length_drop] at m2
    simp only [List.length_cons] at m2 hlen
    show (meaL _ _ _).2 ≤ _
    omega

/-- WHERE A BLANK STANDS, MORE OF THEM CHANGE NOTHING -/
theorem blanks (t : List UInt8) : ∀ (n : Nat) (s : List UInt8), s.length ≤ n → (∀ u, (cut (s ++ [32])).getLast? = some u → u.kind = 20) → cut (s ++ 32 :: t) = cut (s ++ 32 :: 9 :: 10 :: t)
  | _, [], _, _ => by
    have hb : ∀ t, one (32 :: t) = (some ⟨20, [], 0⟩, ((32 :: t).takeWhile blB).length) := fun t => oneC_bl (by intro h; exact absurd h.1 (by decide)) (by decide)
    have e : ∀ t, cut (32 :: t) = ⟨20, [], 0⟩ :: cut (t.dropWhile blB) := fun t => by
      rw [cut_some (hb t), tw_drop]; rfl
    show cut (32 :: t) = cut (32 :: 9 :: 10 :: t)
    rw [e, e]; rfl
  | 0, c :: r, h, _ => by simp at h
  | n + 1, c :: r, h, hl => by
    have key : ∀ m : Nat, 1 ≤ m → m ≤ r.length + 1 → ∀ o : Option Tok, one (c :: (r ++ [32])) = (o, m) → (∀ t, one (c :: (r ++ 32 :: t)) = (o, m)) → cut (c :: r ++ 32 :: t) = cut (c :: r ++ 32 :: 9 :: 10 :: t) := by
      intro m hm1 hm2 o h0 h1
      have hd : ∀ t, (c :: (r ++ 32 :: t)).drop m = (c :: r).drop m ++ 32 :: t := fun t => by
        rw [← List.cons_append, List.drop_append_of_le_length (by simp; omega)]
      have ih := blanks t n ((c :: r).drop m) (by rw [List.length_drop]; simp at h ⊢; omega) (by
        intro u hu
        refine hl u ?_
        show (cut (c :: (r ++ [32]))).getLast? = some u
        rw [cut_cons, h0, hd []]
        simp only []
        rw [List.getLast?_append, hu]; rfl)
      show cut (c :: (r ++ 32 :: t)) = cut (c :: (r ++ 32 :: 9 :: 10 :: t))
      rw [cut_cons, cut_cons, h1, h1, hd, hd]
      simp only []
      rw [ih]
    by_cases h1 : c.toNat = 47 ∧ (r ++ [32]).head? = some 42
    · obtain ⟨r', rfl⟩ : ∃ r', r = 42 :: r' := by
        cases r with
        | nil => exact absurd h1.2 (by decide)
        | cons x y => have := h1.2; simp at this; exact ⟨y, by rw [this]⟩
      have ho : ∀ t, one (c :: (42 :: r' ++ 32 :: t)) = (none, 2 + endC (r' ++ 32 :: t)) := fun t => oneC_com (r := 42 :: (r' ++ 32 :: t)) ⟨h1.1, rfl⟩
      rcases endC_two r' with ⟨k1, k2⟩ | k2
      · exact key _ (by omega) (by simp; omega) none (ho []) fun t => by rw [ho, k2]
      · show cut (c :: (42 :: r' ++ 32 :: t)) = cut (c :: (42 :: r' ++ 32 :: 9 :: 10 :: t))
        rw [cut_none (ho t), cut_none (ho _), k2, k2, endC_32, endC_blanks]
        have e1 : c :: (42 :: r' ++ 32 :: t) = (c :: 42 :: r' ++ [32]) ++ t := by simp
        have e2 : c :: (42 :: r' ++ 32 :: 9 :: 10 :: t) = (c :: 42 :: r' ++ [32, 9, 10]) ++ t := by simp
        have d1 : 2 + (r'.length + (endC t + 1)) = (c :: 42 :: r' ++ [32]).length + endC t := by simp; omega
        have d2 : 2 + (r'.length + (endC t + 3)) = (c :: 42 :: r' ++ [32, 9, 10]).length + endC t := by simp; omega
        rw [e1, e2, d1, d2, ← List.drop_drop, ← List.drop_drop, List.drop_left, List.drop_left]
    by_cases h2 : blB c = true
    · have ho : ∀ t, one (c :: (r ++ 32 :: t)) = (some ⟨20, [], 0⟩, ((c :: (r ++ 32 :: t)).takeWhile blB).length) := fun t => oneC_bl (by have := bl_facts h2; omega) h2
      rcases tw_or blB (c :: r) with hx | hx
      · have e := fun t => (tw_stop (p := blB) (32 :: t) (c :: r) hx).1
        have hle := tw_le blB (c :: r)
        have hpos := tw_pos blB c r h2
        simp only [List.cons_append] at e
        exact key _ (by rw [e []]; exact hpos) (by rw [e []]; simpa using hle) _ (ho []) fun t => by rw [ho, e, e]
      · have e : ∀ t, (c :: (r ++ 32 :: t)).dropWhile blB = t.dropWhile blB := fun t => by
          rw [← List.cons_append, List.dropWhile_append_of_pos hx, List.dropWhile_cons, if_pos (by decide)]
        show cut (c :: (r ++ 32 :: t)) = cut (c :: (r ++ 32 :: 9 :: 10 :: t))
        rw [cut_some (ho t), cut_some (ho _), tw_drop, tw_drop, e, e]; rfl
    have h2 : blB c = false := by simpa using h2
    by_cases h3 : c.toNat = 34 ∨ c.toNat = 39
    · have h1' : ∀ q : List UInt8, ¬ (c.toNat = 47 ∧ q.head? = some 42) := fun q => by omega
      have ho : ∀ t, one (c :: (r ++ 32 :: t)) = some1 (quoL c (r ++ 32 :: t)) := fun t => oneC_quo (h1' _) h2 h3
      rcases tw_or (inQ c) r with hx | hx
      · have e := fun t => tw_stop (p := inQ c) (32 :: t) r hx
        have hs : ∀ t, quoL c (r ++ 32 :: t) = quoL c r := fun t => by
          obtain ⟨e1, e2, e3⟩ := e t
          unfold quoL
          rw [e1, e2]
          cases hq : r.dropWhile (inQ c) with
          | nil => exact absurd hq e3
          | cons x y => rfl
        have hbd := quoL_bd c r
        exact key (quoL c r).2 hbd.1 (by omega) (some (quoL c r).1) (by rw [ho, hs]; rfl) fun t => by rw [ho, hs]; rfl
      · exfalso
        have h32 : inQ c 32 = true := by
          have : c ≠ 32 := by
            intro q; subst q; exact absurd h3 (by decide)
          unfold inQ
          simp [Ne.symm this]
        have hd : (r ++ [32]).dropWhile (inQ c) = [] := by
          rw [List.dropWhile_append_of_pos hx, List.dropWhile_cons, if_pos h32]; rfl
        have ht : (r ++ [32]).takeWhile (inQ c) = r ++ [32] := by
          have := tw_dw (inQ c) (r ++ [32])
          rw [hd, List.append_nil] at this
          exact this.symm
        have hq : quoL c (r ++ [32]) = (⟨5, r ++ [32], 0⟩, 1 + (r ++ [32]).length) := by
          unfold quoL; rw [hd, ht]
        have ho := ho []
        rw [hq] at ho
        have hc : cut (c :: (r ++ [32])) = [⟨5, r ++ [32], 0⟩] := by
          rw [cut_some ho, List.drop_of_length_le (by simp; omega), cut_nil]
        have := hl ⟨5, r ++ [32], 0⟩ (by show (cut (c :: (r ++ [32]))).getLast? = _; rw [hc]; rfl)
        simp at this
    · obtain ⟨k1, k2⟩ := one32 c r [] h1 h2 h3
      have hbd := one_bd c (r ++ [32])
      exact key _ hbd.1 k2 _ rfl fun t => (one32 c r t h1 h2 h3).1
end Go.Proofs.Ytoaenlbbochjhaa.LexP
