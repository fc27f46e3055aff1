/- Layer 18: words, how wide they are, and their lines (pure). -/
import Derived.Test.YtekmgpbolbkiaaaFixAll
namespace Go.Proofs.Ytekmgpbolbkiaaa.WdsP
open FixM FixP TreN

def thinL : List Int := [102, 105, 106, 108, 114, 116, 46, 44, 58, 59, 39, 33, 124, 40, 41, 91, 93]
def fatL : List Int := [109, 119, 77, 87, 37]
def advB (c : Int) : Int := if c = 32 then 250 else if thinL.contains c then 300 else if fatL.contains c then 800 else if (65 ≤ c ∧ c ≤ 90) ∨ (48 ≤ c ∧ c ≤ 57) then 600 else 500
theorem advB_bd (c : Int) : 0 ≤ advB c ∧ advB c ≤ 800 := by unfold advB; repeat' split <;> omega

def awK (x : ByteArray) : Nat → Int
  | 0 => 0
  | k + 1 => awK x k + advB (bt x k)
def aw (x : ByteArray) : Int := awK x x.size
theorem awK_bd (x : ByteArray) : ∀ k, 0 ≤ awK x k ∧ awK x k ≤ 800 * k
  | 0 => by simp [awK]
  | k + 1 => by have := awK_bd x k; have := advB_bd (bt x k); unfold awK; omega
theorem aw_nonneg (x : ByteArray) : 0 ≤ aw x := (awK_bd x _).1

def sumL : List ByteArray → Int
  | [] => 0
  | x :: L => aw x + sumL L
theorem sumL_nonneg : ∀ L, 0 ≤ sumL L
  | [] => by simp [sumL]
  | x :: L => by have := sumL_nonneg L; have := aw_nonneg x; unfold sumL; omega
theorem sumL_app (A B : List ByteArray) : sumL (A ++ B) = sumL A + sumL B := by
  induction A with
  | nil => simp [sumL]
  | cons a A ih => simp only [List.cons_append, sumL, ih]; omega
def totL (L : List ByteArray) : Int := sumL L + 250 * ((L.length - 1 : Nat) : Int)
theorem totL_nil : totL [] = 0 := rfl
theorem totL_nonneg (L : List ByteArray) : 0 ≤ totL L := by have := sumL_nonneg L; unfold totL; omega
theorem totL_snoc (L : List ByteArray) (x : ByteArray) : totL (L ++ [x]) = totL L + (if L.length = 0 then 0 else 250) + aw x := by
  unfold totL
  rw [sumL_app]
  simp only [sumL, List.length_append, List.length_singleton]
  split <;> omega
theorem totL_one (x : ByteArray) : totL [x] = aw x := by simp [totL, sumL]
theorem totL_sub (A B C : List ByteArray) : totL B ≤ totL (A ++ B ++ C) := by
  unfold totL
  rw [sumL_app, sumL_app]
  have := sumL_nonneg A
  have := sumL_nonneg C
  simp only [List.length_append]
  omega

def wid (font : Int) (L : List ByteArray) : Int := PT font (totL L) 1000
theorem PT_k (a n : Int) : PT a n 1000 = H (H a * H n / 1000) := by
  unfold PT
  rw [if_neg (by decide), H_id (x := 1000) (by decide) (by decide), FL_pos _ _ (by decide)]
theorem PT_H (a n : Int) : PT a (H n) 1000 = PT a n 1000 := by rw [PT_k, PT_k, H_H]
theorem PT_mono (a : Int) (ha : 0 ≤ a) {n m : Int} (h : n ≤ m) : PT a n 1000 ≤ PT a m 1000 := by
  rw [PT_k, PT_k]
  have h1 : 0 ≤ H a := H_nonneg ha
  have h2 := Int.mul_le_mul_of_nonneg_left (H_mono h) h1
  exact H_mono (Int.ediv_le_ediv (by decide) h2)
theorem PT_bd (a n d : Int) : -1073741824 ≤ PT a n d ∧ PT a n d ≤ 1073741824 := by
  unfold PT
  split
  · omega
  · exact H_bd _
theorem wid_bd (font : Int) (L : List ByteArray) : -1073741824 ≤ wid font L ∧ wid font L ≤ 1073741824 := PT_bd _ _ _
theorem wid_sub {font : Int} (h : 0 ≤ font) (A B C : List ByteArray) : wid font B ≤ wid font (A ++ B ++ C) := PT_mono _ h (totL_sub A B C)
theorem H_add {a b : Int} (ha : 0 ≤ a) (hb : 0 ≤ b) : H (H (H a) + H b) = H (a + b) := by
  rw [H_H]; unfold H; repeat' split <;> omega

/-- words of a text, up to a place: where the one under way begins, and those ahead of it -/
def spS (s : ByteArray) : Nat → Nat × List ByteArray
  | 0 => (0, [])
  | i + 1 =>
    if i < s.size ∧ bt s i ≠ 32 then spS s i
    else if (spS s i).1 < i then (i + 1, (spS s i).2 ++ [s.extract (spS s i).1 i]) else (i + 1, (spS s i).2)
def wordsS (s : ByteArray) : List ByteArray := (spS s (s.size + 1)).2
theorem spS_go {s : ByteArray} {i f : Nat} {l : List ByteArray} (h : spS s i = (f, l)) (hi : i < s.size) (hb : bt s i ≠ 32) : spS s (i + 1) = (f, l) := by
  unfold spS; rw [if_pos ⟨hi, hb⟩, h]
theorem spS_cut {s : ByteArray} {i f : Nat} {l : List ByteArray} (h : spS s i = (f, l)) (hi : s.size ≤ i ∨ bt s i = 32) (hf : f < i) : spS s (i + 1) = (i + 1, l ++ [s.extract f i]) := by
  unfold spS
  rw [if_neg (by rintro ⟨a, b⟩; rcases hi with c | c; omega; exact b c), h]
  simp only [hf, if_true]
theorem spS_no {s : ByteArray} {i f : Nat} {l : List ByteArray} (h : spS s i = (f, l)) (hi : s.size ≤ i ∨ bt s i = 32) (hf : ¬ f < i) : spS s (i + 1) = (i + 1, l) := by
  unfold spS
  rw [if_neg (by rintro ⟨a, b⟩; rcases hi with c | c; omega; exact b c), h]
  simp only [hf, if_false]
theorem spS_bd (s : ByteArray) : ∀ i, (spS s i).1 ≤ i ∧ (spS s i).2.length ≤ (spS s i).1
  | 0 => by simp [spS]
  | i + 1 => by
    have h := spS_bd s i
    unfold spS
    split
    · omega
    · split
      · simp only [List.length_append, List.length_singleton]; omega
      · simp only []; omega
theorem words_len (s : ByteArray) : (wordsS s).length ≤ s.size + 1 := by have := spS_bd s (s.size + 1); unfold wordsS; omega

/-- the words from one on up to another one -/
def seg (L : List ByteArray) (f t : Nat) : List ByteArray := (L.take t).drop f
theorem seg_snoc {L : List ByteArray} {f t : Nat} (hf : f ≤ t) (ht : t < L.length) : seg L f (t + 1) = seg L f t ++ [L[t]] := by
  unfold seg
  rw [List.take_succ_eq_append_getElem ht, List.drop_append_of_le_length (by rw [List.length_take]; omega)]
theorem seg_nil (L : List ByteArray) (f : Nat) : seg L f f = [] := by
  unfold seg; exact List.drop_eq_nil_of_le (by rw [List.length_take]; omega)
theorem seg_one {L : List ByteArray} {t : Nat} (ht : t < L.length) : seg L t (t + 1) = [L[t]] := by
  rw [seg_snoc (Nat.le_refl _) ht, seg_nil]; rfl
theorem seg_all (L : List ByteArray) : seg L 0 L.length = L := by unfold seg; simp
theorem seg_len {L : List ByteArray} {f t : Nat} (ht : t ≤ L.length) : (seg L f t).length = t - f := by
  unfold seg; rw [List.length_drop, List.length_take, Nat.min_eq_left ht]
theorem seg_split {L : List ByteArray} {f g t u : Nat} (h1 : f ≤ g) (h2 : g ≤ t) (h3 : t ≤ u) : seg L f u = seg L f g ++ seg L g t ++ seg L t u := by
  have key : ∀ a b c, a ≤ b → b ≤ c → seg L a c = seg L a b ++ seg L b c := by
    intro a b c hab hbc
    unfold seg
    have e : L.take b = (L.take c).take b := by rw [List.take_take, Nat.min_eq_left hbc]
    rw [e]
    have h := List.take_append_drop (b - a) ((L.take c).drop a)
    rw [List.take_drop, List.drop_drop, Nat.add_sub_cancel' hab] at h
    exact h.symm
  rw [key f g u h1 (by omega), key g t u h2 h3, List.append_assoc]
theorem wid_seg {font : Int} (h : 0 ≤ font) {L : List ByteArray} {f g t u : Nat} (h1 : f ≤ g) (h2 : g ≤ t) (h3 : t ≤ u) : wid font (seg L g t) ≤ wid font (seg L f u) := by
  rw [seg_split h1 h2 h3]; exact wid_sub h _ _ _

abbrev Ln := Nat × Nat × Int
/-- lines, up to a word: where the one under way begins, and those ahead of it -/
def brS (font room : Int) (L : List ByteArray) : Nat → Nat × List Ln
  | 0 => (0, [])
  | i + 1 => if i = 0 then (0, []) else
    if room < wid font (seg L (brS font room L i).1 (i + 1)) then (i, (brS font room L i).2 ++ [((brS font room L i).1, i, wid font (seg L (brS font room L i).1 i))]) else brS font room L i
/-- the lines of some words -/
def linesAt (font room : Int) (L : List ByteArray) (i : Nat) : List Ln := if i = 0 then [] else (brS font room L i).2 ++ [((brS font room L i).1, i, wid font (seg L (brS font room L i).1 i))]
def linesS (font room : Int) (L : List ByteArray) : List Ln := linesAt font room L L.length
theorem brS_one (font room : Int) (L : List ByteArray) : brS font room L 1 = (0, []) := by unfold brS; simp
theorem brS_go {font room : Int} {L : List ByteArray} {i f : Nat} {d : List Ln} (h : brS font room L i = (f, d)) (hi : 0 < i) (hb : ¬ room < wid font (seg L f (i + 1))) : brS font room L (i + 1) = (f, d) := by
  unfold brS; rw [if_neg (by omega), h]; simp only [hb, if_false]
theorem brS_cut {font room : Int} {L : List ByteArray} {i f : Nat} {d : List Ln} (h : brS font room L i = (f, d)) (hi : 0 < i) (hb : room < wid font (seg L f (i + 1))) : brS font room L (i + 1) = (i, d ++ [(f, i, wid font (seg L f i))]) := by
  unfold brS; rw [if_neg (by omega), h]; simp only [hb, if_true]
theorem brS_bd (font room : Int) (L : List ByteArray) : ∀ i, 0 < i → (brS font room L i).1 < i ∧ (brS font room L i).2.length ≤ (brS font room L i).1
  | 0, h => by omega
  | 1, _ => by rw [brS_one]; simp
  | i + 2, _ => by
    have h := brS_bd font room L (i + 1) (by omega)
    obtain ⟨⟨f, d⟩, hb⟩ : ∃ x, brS font room L (i + 1) = x := ⟨_, rfl⟩
    rw [hb] at h
    by_cases hc : room < wid font (seg L f (i + 1 + 1))
    · rw [brS_cut hb (by omega) hc]; simp only [List.length_append, List.length_singleton]; simp only [] at h; omega
    · rw [brS_go hb (by omega) hc]; simp only [] at h ⊢; omega
theorem linesAt_len (font room : Int) (L : List ByteArray) (i : Nat) : (linesAt font room L i).length ≤ i := by
  unfold linesAt
  split
  · simp
  · have := brS_bd font room L i (by omega)
    simp only [List.length_append, List.length_singleton]; omega
end Go.Proofs.Ytekmgpbolbkiaaa.WdsP
