/- Names and words: their bytes. Nothing of the program is imported. -/
namespace Go.Proofs.Ytanhpdejlodidab.TreN

/-- a byte of a text -/
def bt (s : ByteArray) (i : Nat) : Int := if h : i < s.size then (s[i].toNat : Int) else 0
theorem bt_eq (s : ByteArray) (i : Nat) (h : i < s.size) : bt s i = (s[i].toNat : Int) := by unfold bt; rw [dif_pos h]
theorem bt_bd (s : ByteArray) (i : Nat) : 0 ≤ bt s i ∧ bt s i ≤ 255 := by
  unfold bt
  split
  · have := UInt8.toNat_lt s[i]; omega
  · omega

/-- a beginning's byte; a byte of a name; a byte of words -/
def letB (c : Int) : Bool := decide (97 ≤ c ∧ c ≤ 122 ∨ 65 ≤ c ∧ c ≤ 90 ∨ c = 95 ∨ 128 ≤ c)
def goB (c : Int) : Bool := letB c || (decide (c = 45) || decide (48 ≤ c ∧ c ≤ 57))
def txB (c : Int) : Bool := decide (32 ≤ c ∧ c ≠ 34)

/-- all bytes are as they should -/
def allB (p : Int → Bool) (s : ByteArray) : Bool := (List.range s.size).all fun i => p (bt s i)
theorem allB_true {p : Int → Bool} {s : ByteArray} (h : ∀ j, j < s.size → p (bt s j) = true) : allB p s = true := by
  unfold allB
  rw [List.all_eq_true]
  intro x hx
  exact h x (List.mem_range.1 hx)
theorem allB_false {p : Int → Bool} {s : ByteArray} (k : Nat) (hk : k < s.size) (h : p (bt s k) = false) : allB p s = false := by
  unfold allB
  rw [List.all_eq_false]
  exact ⟨k, List.mem_range.2 hk, by rw [h]; decide⟩
theorem allB_iff {p : Int → Bool} {s : ByteArray} : allB p s = true ↔ ∀ j, j < s.size → p (bt s j) = true := by
  constructor
  · intro h j hj
    unfold allB at h
    rw [List.all_eq_true] at h
    exact h j (List.mem_range.2 hj)
  · exact allB_true

/-- a name's beginning -/
def begB (s : ByteArray) : Bool := if 1 < s.size ∧ bt s 0 = 45 then (decide (bt s 1 = 45) || letB (bt s 1)) else decide (0 < s.size) && letB (bt s 0)
def nameB (s : ByteArray) : Bool := decide (s.size ≤ 32) && (begB s && allB goB s)
def textB (s : ByteArray) : Bool := decide (s.size ≤ 256) && allB txB s
end Go.Proofs.Ytanhpdejlodidab.TreN
