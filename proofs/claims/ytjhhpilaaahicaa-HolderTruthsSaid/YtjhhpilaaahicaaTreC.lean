/- What keeps a list from being a tree. -/
import Derived.Test.YtjhhpilaaahicaaTreW7
namespace Go.Proofs.Ytjhhpilaaahicaa
open Go.RowKit TreN TreP

/-- a list of nodes, as the walks are told of it -/
def Nods (w : World) (a : Option Addr) (len : Nat) (L : Nat → Nd) : Prop := len = 0 ∨ ∃ b off, a = some ⟨b, off, none⟩ ∧ b < w.heap.size ∧ ∀ i, i < len →
  (w.cell? ⟨b, off + i * 6, none⟩ = some (.int .i64 (L i).par) ∧ w.cell? ⟨b, off + i * 6 + 1, none⟩ = some (.string (L i).tag) ∧ w.cell? ⟨b, off + i * 6 + 2, none⟩ = some (.string (L i).id) ∧
   w.cell? ⟨b, off + i * 6 + 3, none⟩ = some (.slice (L i).ca (L i).cl (L i).cc) ∧ w.cell? ⟨b, off + i * 6 + 4, none⟩ = some (.slice (L i).aa (L i).al (L i).ac) ∧ w.cell? ⟨b, off + i * 6 + 5, none⟩ = some (.string (L i).tx)) ∧ NdIn w (L i)
set_option maxRecDepth 100000 in
theorem Nods.below {w w' : World} {a : Option Addr} {len : Nat} {L : Nat → Nd} (h : Nods w a len L) (hb : Below w.heap.size w w') : Nods w' a len L := by
  rcases h with rfl | ⟨b, off, e, hbs, hc⟩
  · exact Or.inl rfl
  · refine Or.inr ⟨b, off, e, Nat.lt_of_lt_of_le hbs hb.size, fun i hi => ?_⟩
    obtain ⟨⟨h0, h1, h2, h3, h4, h5⟩, hn⟩ := hc i hi
    refine ⟨⟨?_, ?_, ?_, ?_, ?_, ?_⟩, hn.below hb⟩
    · rw [hb.cell (p := ⟨b, off + i * 6, none⟩) hbs]; exact h0
    · rw [hb.cell (p := ⟨b, off + i * 6 + 1, none⟩) hbs]; exact h1
    · rw [hb.cell (p := ⟨b, off + i * 6 + 2, none⟩) hbs]; exact h2
    · rw [hb.cell (p := ⟨b, off + i * 6 + 3, none⟩) hbs]; exact h3
    · rw [hb.cell (p := ⟨b, off + i * 6 + 4, none⟩) hbs]; exact h4
    · rw [hb.cell (p := ⟨b, off + i * 6 + 5, none⟩) hbs]; exact h5
def parOf (L : Nat → Nd) (i : Nat) : Int := (L i).par
set_option maxRecDepth 100000 in
theorem Nods.pars {w : World} {a : Option Addr} {len : Nat} {L : Nat → Nd} (h : Nods w a len L) : Pars w a len (parOf L) := by
  rcases h with rfl | ⟨b, off, e, hbs, hc⟩
  · exact Or.inl rfl
  · exact Or.inr ⟨b, off, e, hbs, fun i hi => (hc i hi).1.1⟩
set_option maxRecDepth 100000 in
/-- where a node lies -/
theorem Nods.at_ {w : World} {a : Option Addr} {len : Nat} {L : Nat → Nd} (h : Nods w a len L) {i : Nat} (hi : i < len) : ∃ b off, a = some ⟨b, off, none⟩ ∧
    (w.cell? ⟨b, off + i * 6, none⟩ = some (.int .i64 (L i).par) ∧ w.cell? ⟨b, off + i * 6 + 1, none⟩ = some (.string (L i).tag) ∧ w.cell? ⟨b, off + i * 6 + 2, none⟩ = some (.string (L i).id) ∧
     w.cell? ⟨b, off + i * 6 + 3, none⟩ = some (.slice (L i).ca (L i).cl (L i).cc) ∧ w.cell? ⟨b, off + i * 6 + 4, none⟩ = some (.slice (L i).aa (L i).al (L i).ac) ∧ w.cell? ⟨b, off + i * 6 + 5, none⟩ = some (.string (L i).tx)) ∧ NdIn w (L i) := by
  rcases h with rfl | ⟨b, off, e, hbs, hc⟩
  · omega
  · exact ⟨b, off, e, hc i hi⟩

/-- where a list of nodes lies -/
def NAt (w : World) (b off len : Nat) (L : Nat → Nd) : Prop := b < w.heap.size ∧ ∀ i, i < len →
  (w.cell? ⟨b, off + i * 6, none⟩ = some (.int .i64 (L i).par) ∧ w.cell? ⟨b, off + i * 6 + 1, none⟩ = some (.string (L i).tag) ∧ w.cell? ⟨b, off + i * 6 + 2, none⟩ = some (.string (L i).id) ∧
   w.cell? ⟨b, off + i * 6 + 3, none⟩ = some (.slice (L i).ca (L i).cl (L i).cc) ∧ w.cell? ⟨b, off + i * 6 + 4, none⟩ = some (.slice (L i).aa (L i).al (L i).ac) ∧ w.cell? ⟨b, off + i * 6 + 5, none⟩ = some (.string (L i).tx)) ∧ NdIn w (L i)
set_option maxRecDepth 100000 in
theorem NAt.nods {w : World} {b off len : Nat} {L : Nat → Nd} (h : NAt w b off len L) : Nods w (some ⟨b, off, none⟩) len L := Or.inr ⟨b, off, rfl, h.1, h.2⟩
set_option maxRecDepth 100000 in
theorem NAt.below {w w' : World} {b off len : Nat} {L : Nat → Nd} (h : NAt w b off len L) (hb : Below w.heap.size w w') : NAt w' b off len L := by
  by_cases c : len = 0
  · subst c; exact ⟨Nat.lt_of_lt_of_le h.1 hb.size, fun i hi => by omega⟩
  · rcases h.nods.below hb with h0 | ⟨b2, off2, e, h1, h2⟩
    · exact absurd h0 c
    · injection e with e
      injection e with e1 e2
      subst e1; subst e2
      exact ⟨h1, h2⟩
set_option maxRecDepth 100000 in
theorem Nods.lies {w : World} {a : Option Addr} {len : Nat} {L : Nat → Nd} (h : Nods w a len L) (h0 : 0 < len) : ∃ b off, a = some ⟨b, off, none⟩ ∧ NAt w b off len L := by
  rcases h with rfl | ⟨b, off, e, hbs, hc⟩
  · omega
  · exact ⟨b, off, e, hbs, hc⟩
set_option maxRecDepth 100000 in
theorem NAt.first {w : World} {b off len : Nat} {L : Nat → Nd} (h : NAt w b off len L) (h0 : 0 < len) :
    w.cell? ⟨b, off, none⟩ = some (.int .i64 (L 0).par) ∧ w.cell? ⟨b, off + 1, none⟩ = some (.string (L 0).tag) ∧ w.cell? ⟨b, off + 2, none⟩ = some (.string (L 0).id) ∧
    w.cell? ⟨b, off + 3, none⟩ = some (.slice (L 0).ca (L 0).cl (L 0).cc) ∧ w.cell? ⟨b, off + 4, none⟩ = some (.slice (L 0).aa (L 0).al (L 0).ac) ∧ w.cell? ⟨b, off + 5, none⟩ = some (.string (L 0).tx) := by
  have h1 := (h.2 0 h0).1
  rw [Nat.zero_mul, Nat.add_zero] at h1
  exact h1

/-- is a node's parent as said? -/
def stB (L : Nat → Nd) (k : Nat) : Bool :=
  if k = 0 then decide ((L 0).par = -1) && !emB (L 0).tag
  else decide (0 ≤ up (parOf L) k) && (!emB (L (up (parOf L) k).toNat).tag && (decide (up (parOf L) k = (k : Int) - 1) || undB (parOf L) (k - 1) (up (parOf L) k).toNat))
def nodeS (L : Nat → Nd) (k : Nat) : Int := if (rightB (L k) && stB L k) = true then (if 64 < 1 + (ups (parOf L) k).length then 31 else 0) else 34
def chkTo (L : Nat → Nd) : Nat → Int
  | 0 => 0
  | k + 1 => if chkTo L k = 0 then nodeS L k else chkTo L k
def checkS (L : Nat → Nd) (len : Nat) : Int := if len = 0 then 34 else if 1024 < len then 32 else chkTo L len
set_option maxRecDepth 100000 in
theorem chk_zero (L : Nat → Nd) : ∀ k, (∀ j, j < k → nodeS L j = 0) → chkTo L k = 0
  | 0, _ => rfl
  | k + 1, h => by unfold chkTo; rw [if_pos (chk_zero L k fun j hj => h j (by omega))]; exact h k (by omega)
set_option maxRecDepth 100000 in
theorem chk_one (L : Nat → Nd) (k : Nat) (h : ∀ j, j < k → nodeS L j = 0) (hk : nodeS L k ≠ 0) : ∀ n, k < n → chkTo L n = nodeS L k
  | 0, hn => by omega
  | n + 1, hn => by
    unfold chkTo
    by_cases c : k = n
    · subst c; rw [if_pos (chk_zero L k h)]
    · have e := chk_one L k h hk n (by omega)
      rw [e, if_neg hk]

/-- is it found among these? -/
def fnd (L : Nat → Nd) (k : Nat) (rest : List Nat) : Bool := rest.any fun u => decide ((L k).par = (u : Int)) && !emB (L u).tag
set_option maxRecDepth 100000 in
theorem fnd_none (L : Nat → Nd) (k : Nat) (rest : List Nat) (h : ∀ u, u ∈ rest → (L k).par ≠ (u : Int)) : fnd L k rest = false := by
  unfold fnd
  rw [List.any_eq_false]
  intro u hu
  rw [decide_eq_false (h u hu)]; simp
set_option maxRecDepth 100000 in
theorem fnd_one (L : Nat → Nd) (k p : Nat) (rest : List Nat) (hp : (L k).par = (p : Int)) (hm : p ∈ rest) : fnd L k rest = !emB (L p).tag := by
  unfold fnd
  cases he : emB (L p).tag with
  | true =>
    show _ = false
    rw [List.any_eq_false]
    intro u hu
    by_cases c : (L k).par = (u : Int)
    · have : u = p := by omega
      subst this
      rw [he]; simp
    · rw [decide_eq_false c]; simp
  | false =>
    show _ = true
    rw [List.any_eq_true]
    exact ⟨p, hm, by rw [hp, he]; simp⟩
set_option maxRecDepth 100000 in
theorem st_fnd (L : Nat → Nd) (k : Nat) (hk : 0 < k) : stB L k = fnd L k ((k - 1) :: ups (parOf L) (k - 1)) := by
  unfold stB
  rw [if_neg (by omega)]
  have hu : up (parOf L) k = if 0 ≤ (L k).par ∧ (L k).par < (k : Int) then (L k).par else -1 := rfl
  by_cases h : 0 ≤ (L k).par ∧ (L k).par < (k : Int)
  · rw [if_pos h] at hu
    obtain ⟨p, hp⟩ := Int.eq_ofNat_of_zero_le h.1
    rw [hu, hp, Int.toNat_natCast, decide_eq_true (by omega), Bool.true_and]
    by_cases hm : p ∈ ((k - 1) :: ups (parOf L) (k - 1))
    · rw [fnd_one L k p _ hp hm]
      have : (decide ((p : Int) = (k : Int) - 1) || undB (parOf L) (k - 1) p) = true := by
        rcases List.mem_cons.1 hm with e | e
        · rw [decide_eq_true (by omega)]; rfl
        · unfold undB; rw [decide_eq_true e]; simp
      rw [this, Bool.and_true]
    · rw [fnd_none L k _ (fun u hu2 e => hm (by
        have e2 : u = p := by omega
        rw [← e2]; exact hu2))]
      have h1 : (decide ((p : Int) = (k : Int) - 1)) = false := decide_eq_false fun e => hm (by
        have e2 : p = k - 1 := by omega
        rw [e2]; simp)
      have h2 : undB (parOf L) (k - 1) p = false := by
        unfold undB
        exact decide_eq_false fun e => hm (List.mem_cons_of_mem _ e)
      rw [h1, h2]; simp
  · rw [if_neg h] at hu
    rw [hu, fnd_none L k _ (fun u hu2 e => h (by
      have : u < k := by
        rcases List.mem_cons.1 hu2 with e2 | e2
        · omega
        · have := ups_below _ _ _ e2; omega
      omega))]
    rfl
set_option maxRecDepth 100000 in
theorem nodeS_0 (L : Nat → Nd) : nodeS L 0 = if (rightB (L 0) && stB L 0) = true then 0 else 34 := by
  unfold nodeS
  have e : ups (parOf L) 0 = [] := by
    rcases ups_cases (parOf L) 0 with ⟨_, h⟩ | ⟨p, hp, _⟩
    · exact h
    · omega
  rw [e]
  rfl
end Go.Proofs.Ytjhhpilaaahicaa
