/- Layer 18: what is said of lines (pure). -/
import Derived.Test.YtekmgpbolbkiaaaWdsWA
namespace Go.Proofs.Ytekmgpbolbkiaaa
open FixM FixP TreN WdsP

def endA (l : List Ln) : Nat → Nat
  | 0 => 0
  | j + 1 => (l.getD j (0, 0, 0)).2.1
theorem endA_app {d : List Ln} {x : Ln} {j : Nat} (h : j ≤ d.length) : endA (d ++ [x]) j = endA d j := by
  cases j with
  | zero => rfl
  | succ j =>
    have hj : j < d.length := by omega
    show ((d ++ [x]).getD j (0, 0, 0)).2.1 = (d.getD j (0, 0, 0)).2.1
    rw [List.getD_eq_getElem?_getD, List.getD_eq_getElem?_getD, List.getElem?_append_left hj]
theorem endA_last (d : List Ln) (x : Ln) : endA (d ++ [x]) (d ++ [x]).length = x.2.1 := by
  rw [List.length_append, List.length_singleton]
  show ((d ++ [x]).getD d.length (0, 0, 0)).2.1 = x.2.1
  rw [List.getD_eq_getElem?_getD, List.getElem?_append_right (Nat.le_refl _)]; simp

/-- one line is as the document says -/
def LnOk (font room : Int) (L : List ByteArray) (f : Nat) (x : Ln) : Prop :=
  x.1 = f ∧ f < x.2.1 ∧ x.2.1 ≤ L.length ∧ x.2.2 = wid font (seg L f x.2.1) ∧ (f + 1 < x.2.1 → x.2.2 ≤ room) ∧ (x.2.1 < L.length → room < wid font (seg L f (x.2.1 + 1)))
def LsOk (font room : Int) (L : List ByteArray) (d : List Ln) (f : Nat) : Prop := (∀ j (h : j < d.length), LnOk font room L (endA d j) d[j]) ∧ endA d d.length = f
theorem LsOk.snoc {font room : Int} {L : List ByteArray} {d : List Ln} {f : Nat} {x : Ln} (h : LsOk font room L d f) (hx : LnOk font room L f x) : LsOk font room L (d ++ [x]) x.2.1 := by
  refine ⟨fun j hj => ?_, endA_last _ _⟩
  rw [List.length_append, List.length_singleton] at hj
  by_cases hjd : j < d.length
  · rw [endA_app (by omega), List.getElem_append_left hjd]; exact h.1 j hjd
  · have e : j = d.length := by omega
    subst e
    rw [endA_app (Nat.le_refl _), h.2, List.getElem_append_right (Nat.le_refl _)]
    simpa using hx
theorem brS_ok (font room : Int) (L : List ByteArray) : ∀ i, 0 < i → i ≤ L.length → LsOk font room L (brS font room L i).2 (brS font room L i).1 ∧ ((brS font room L i).1 + 1 < i → wid font (seg L (brS font room L i).1 i) ≤ room)
  | 0, h, _ => by omega
  | 1, _, _ => by
    rw [brS_one]
    exact ⟨⟨fun j hj => by simp at hj, rfl⟩, fun h => by simp only [] at h; omega⟩
  | i + 2, _, hl => by
    have h := brS_ok font room L (i + 1) (by omega) (by omega)
    have hb := brS_bd font room L (i + 1) (by omega)
    obtain ⟨⟨f, d⟩, hfd⟩ : ∃ x, brS font room L (i + 1) = x := ⟨_, rfl⟩
    rw [hfd] at h hb
    obtain ⟨h1, h2⟩ := h
    simp only [] at h1 h2 hb
    by_cases hc : room < wid font (seg L f (i + 1 + 1))
    · rw [brS_cut hfd (by omega) hc]
      refine ⟨h1.snoc (x := (f, i + 1, wid font (seg L f (i + 1)))) ⟨rfl, hb.1, (show i + 1 ≤ L.length by omega), rfl, h2, fun _ => hc⟩, fun h => ?_⟩
      have h : i + 1 + 1 < i + 2 := h
      omega
    · rw [brS_go hfd (by omega) hc]
      exact ⟨h1, fun _ => by show wid font (seg L f (i + 1 + 1)) ≤ room; omega⟩
theorem lines_ok (font room : Int) (L : List ByteArray) : LsOk font room L (linesS font room L) L.length := by
  by_cases h0 : L.length = 0
  · unfold linesS linesAt
    rw [if_pos h0]
    exact ⟨fun j hj => by simp at hj, by simp [endA, h0]⟩
  · have h := brS_ok font room L L.length (by omega) (Nat.le_refl _)
    have hb := brS_bd font room L L.length (by omega)
    obtain ⟨⟨f, d⟩, hfd⟩ : ∃ x, brS font room L L.length = x := ⟨_, rfl⟩
    rw [hfd] at h hb
    simp only [] at h hb
    unfold linesS
    rw [linesAt_pos font room L hfd (by omega)]
    exact h.1.snoc (x := (f, L.length, wid font (seg L f L.length))) ⟨rfl, hb.1, Nat.le_refl _, rfl, h.2, fun h => by simp only [] at h; omega⟩

/-- with more room there are no more lines -/
theorem brS_room {font a b : Int} (hf : 0 ≤ font) (hab : a ≤ b) (L : List ByteArray) : ∀ i, 0 < i → i ≤ L.length → (brS font b L i).2.length < (brS font a L i).2.length ∨ ((brS font b L i).2.length = (brS font a L i).2.length ∧ (brS font a L i).1 ≤ (brS font b L i).1)
  | 0, h, _ => by omega
  | 1, _, _ => by rw [brS_one, brS_one]; exact Or.inr ⟨rfl, Nat.le_refl _⟩
  | i + 2, _, hl => by
    have h := brS_room hf hab L (i + 1) (by omega) (by omega)
    have hba := brS_bd font a L (i + 1) (by omega)
    have hbb := brS_bd font b L (i + 1) (by omega)
    obtain ⟨⟨fa, da⟩, ha⟩ : ∃ x, brS font a L (i + 1) = x := ⟨_, rfl⟩
    obtain ⟨⟨fb, db⟩, hb⟩ : ∃ x, brS font b L (i + 1) = x := ⟨_, rfl⟩
    rw [ha, hb] at h
    rw [ha] at hba
    rw [hb] at hbb
    simp only [] at h hba hbb
    by_cases ca : a < wid font (seg L fa (i + 1 + 1))
    · rw [brS_cut ha (by omega) ca]
      by_cases cb : b < wid font (seg L fb (i + 1 + 1))
      · rw [brS_cut hb (by omega) cb]; simp only [List.length_append, List.length_singleton]; omega
      · rw [brS_go hb (by omega) cb]; simp only [List.length_append, List.length_singleton]; omega
    · rw [brS_go ha (by omega) ca]
      by_cases cb : b < wid font (seg L fb (i + 1 + 1))
      · rw [brS_cut hb (by omega) cb]; simp only [List.length_append, List.length_singleton]
        rcases h with h | ⟨h1, h2⟩
        · omega
        · exfalso
          have := wid_seg hf (L := L) (f := fa) (g := fb) (t := i + 1 + 1) (u := i + 1 + 1) h2 (by omega) (Nat.le_refl _)
          omega
      · rw [brS_go hb (by omega) cb]; simp only []; exact h
theorem lines_room {font a b : Int} (hf : 0 ≤ font) (hab : a ≤ b) (L : List ByteArray) : (linesS font b L).length ≤ (linesS font a L).length := by
  unfold linesS linesAt
  by_cases h0 : L.length = 0
  · rw [if_pos h0, if_pos h0]; exact Nat.le_refl _
  · rw [if_neg h0, if_neg h0]
    have := brS_room hf hab L L.length (by omega) (Nat.le_refl _)
    simp only [List.length_append, List.length_singleton]; omega

theorem mxK_ge (font : Int) (L : List ByteArray) : ∀ k j, j < k → wid font (seg L j (j + 1)) ≤ mxK font L k
  | 0, j, h => by omega
  | k + 1, j, h => by
    unfold mxK
    by_cases e : j = k
    · subst e; omega
    · have := mxK_ge font L k j (by omega); omega
theorem mxK_le {font : Int} (hf : 0 ≤ font) (L : List ByteArray) : ∀ k, k ≤ L.length → mxK font L k ≤ wid font L
  | 0, _ => by
    have h := wid_seg hf (L := L) (f := 0) (g := 0) (t := min 1 L.length) (u := L.length) (Nat.le_refl _) (by omega) (by omega)
    rw [seg_all] at h
    have e : seg L 0 (min 1 L.length) = L.take 1 := by unfold seg; rw [List.drop_zero, List.take_eq_take_iff]; omega
    rw [e] at h; exact h
  | k + 1, hk => by
    have h1 := mxK_le hf L k (by omega)
    have h2 := wid_seg hf (L := L) (f := 0) (g := k) (t := k + 1) (u := L.length) (by omega) (by omega) hk
    rw [seg_all] at h2
    unfold mxK; omega
theorem least_le {font : Int} (hf : 0 ≤ font) (L : List ByteArray) : leastS font L ≤ wid font L := by
  unfold leastS
  split
  · rename_i h
    have e : L = [] := List.eq_nil_of_length_eq_zero h
    subst e
    unfold wid; rw [totL_nil, PT_k]; simp [H_id]
  · exact mxK_le hf L _ (Nat.le_refl _)
theorem least_bd (font : Int) (L : List ByteArray) : -1073741824 ≤ leastS font L ∧ leastS font L ≤ 1073741824 := by
  unfold leastS
  split
  · omega
  · exact mxK_bd _ _ _
/-- in a room of the lesser extreme no line is wider -/
theorem lines_least (font : Int) (L : List ByteArray) : ∀ j (h : j < (linesS font (leastS font L) L).length), (linesS font (leastS font L) L)[j].2.2 ≤ leastS font L := by
  intro j h
  obtain ⟨h1, h2, h3, h4, h5, h6⟩ := (lines_ok font (leastS font L) L).1 j h
  by_cases e : endA (linesS font (leastS font L) L) j + 1 < (linesS font (leastS font L) L)[j].2.1
  · exact h5 e
  · have e2 : (linesS font (leastS font L) L)[j].2.1 = endA (linesS font (leastS font L) L) j + 1 := by omega
    rw [h4, e2]
    have := mxK_ge font L L.length (endA (linesS font (leastS font L) L) j) (by omega)
    have e3 : leastS font L = mxK font L L.length := by unfold leastS; rw [if_neg (by omega)]
    exact Int.le_trans this (Int.le_of_eq e3.symm)
theorem brS_most {font : Int} (hf : 0 ≤ font) (L : List ByteArray) : ∀ i, 0 < i → i ≤ L.length → brS font (wid font L) L i = (0, [])
  | 0, h, _ => by omega
  | 1, _, _ => brS_one _ _ _
  | i + 2, _, hl => by
    have h := brS_most hf L (i + 1) (by omega) (by omega)
    refine brS_go h (by omega) ?_
    have := wid_seg hf (L := L) (f := 0) (g := 0) (t := i + 1 + 1) (u := L.length) (Nat.le_refl _) (by omega) hl
    rw [seg_all] at this
    omega
theorem lines_most {font : Int} (hf : 0 ≤ font) (L : List ByteArray) : (linesS font (wid font L) L).length ≤ 1 := by
  unfold linesS linesAt
  split
  · simp
  · rw [brS_most hf L L.length (by omega) (Nat.le_refl _)]; simp
end Go.Proofs.Ytekmgpbolbkiaaa
