/- Floats that are whole numbers: what their words read as, and what the operations make of them. -/
import Derived.Laws.FloatArith
import Derived.Laws.ComplexArith
namespace Go.Proofs.Ytanhpdejlodidaa
namespace AxiF
open Ieee

theorem log2_mul_pow (m c : Nat) (h : m ≠ 0) : (m * 2 ^ c).log2 = m.log2 + c := by
  have hp : 0 < 2 ^ c := Nat.two_pow_pos _
  have hne : m * 2 ^ c ≠ 0 := Nat.mul_ne_zero h (by omega)
  rw [Nat.log2_eq_iff hne]
  have h1 := Nat.log2_self_le h
  have h2 := @Nat.lt_log2_self m
  refine ⟨?_, ?_⟩
  · rw [Nat.pow_add]; exact Nat.mul_le_mul_right _ h1
  · rw [show m.log2 + c + 1 = (m.log2 + 1) + c by omega, Nat.pow_add]
    exact Nat.mul_lt_mul_of_pos_right h2 hp

theorem cut_none (way : Toward) (neg : Bool) (n : Nat) : way.cut neg n 0 = n := by
  unfold Toward.cut
  cases way <;> simp [Nat.mod_one]

theorem cut_whole (neg : Bool) (n d : Nat) (hn : n ≠ 0) : Toward.even.cut neg (n * 2 ^ d) d = n := by
  have hp : 0 < 2 ^ d := Nat.two_pow_pos _
  have hm : min d ((n * 2 ^ d).log2 + 2) = d := by rw [log2_mul_pow n d hn]; omega
  unfold Toward.cut
  simp only [hm, Nat.one_shiftLeft]
  rw [Nat.mul_div_cancel _ hp, Nat.mul_mod_left]
  have : ¬ (2 ^ d < 2 * 0) := by omega
  have h2 : (2 ^ d == 2 * 0) = false := by simp
  simp

def rungOf (m : Nat) : Nat := (m.log2 + 1022) * 4503599627370496 + m * 2 ^ (52 - m.log2)

theorem log2_le (m : Nat) (h : m < 9007199254740992) : m.log2 ≤ 52 := by
  by_cases h0 : m = 0
  · subst h0; simp
  · have := (Nat.log2_lt h0 (k := 53)).2 (by simpa using h)
    omega

theorem sig_bd (m : Nat) (h0 : m ≠ 0) (h : m < 9007199254740992) : 4503599627370496 ≤ m * 2 ^ (52 - m.log2) ∧ m * 2 ^ (52 - m.log2) < 9007199254740992 := by
  have hk := log2_le m h
  have h1 := Nat.log2_self_le h0
  have h2 := @Nat.lt_log2_self m
  have hp : 0 < 2 ^ (52 - m.log2) := Nat.two_pow_pos _
  constructor
  · have := Nat.mul_le_mul_right (2 ^ (52 - m.log2)) h1
    rw [← Nat.pow_add, show m.log2 + (52 - m.log2) = 52 by omega] at this
    simpa using this
  · have := Nat.mul_lt_mul_of_pos_right h2 hp
    rw [← Nat.pow_add, show m.log2 + 1 + (52 - m.log2) = 53 by omega] at this
    simpa using this

theorem nearest_whole (neg : Bool) (m c : Nat) (h0 : m ≠ 0) (h : m < 9007199254740992) :
    double.nearest neg (m * 2 ^ c) (-(c : Int)) = double.word neg (rungOf m) := by
  have hk := log2_le m h
  have hg := sig_bd m h0 h
  have hp : 0 < 2 ^ c := Nat.two_pow_pos _
  have hne : m * 2 ^ c ≠ 0 := Nat.mul_ne_zero h0 (by omega)
  unfold Format.nearest
  rw [if_neg hne]
  have hlp : double.leastPlace = -1074 := by decide +kernel
  have hfb : double.fractionBits = 52 := rfl
  have hbin : double.binade = 4503599627370496 := by decide +kernel
  have hinf : double.infRung = 9218868437227405312 := by decide +kernel
  have hl : max (-(c : Int) + ((m * 2 ^ c).log2 : Nat) - (double.fractionBits : Nat)) double.leastPlace = (m.log2 : Int) - 52 := by
    rw [log2_mul_pow m c h0, hlp, hfb]; omega
  have hcut : Toward.even.cut neg ((m * 2 ^ c) <<< (-(c : Int) - ((m.log2 : Int) - 52)).toNat) (((m.log2 : Int) - 52) - -(c : Int)).toNat = m * 2 ^ (52 - m.log2) := by
    by_cases hc : c ≤ 52 - m.log2
    · have e1 : (-(c : Int) - ((m.log2 : Int) - 52)).toNat = 52 - m.log2 - c := by omega
      have e2 : (((m.log2 : Int) - 52) - -(c : Int)).toNat = 0 := by omega
      rw [e1, e2, cut_none, Nat.shiftLeft_eq, Nat.mul_assoc, ← Nat.pow_add, show c + (52 - m.log2 - c) = 52 - m.log2 by omega]
    · have e1 : (-(c : Int) - ((m.log2 : Int) - 52)).toNat = 0 := by omega
      have e2 : (((m.log2 : Int) - 52) - -(c : Int)).toNat = c - (52 - m.log2) := by omega
      rw [e1, e2, Nat.shiftLeft_zero]
      have e3 : m * 2 ^ c = (m * 2 ^ (52 - m.log2)) * 2 ^ (c - (52 - m.log2)) := by
        rw [Nat.mul_assoc, ← Nat.pow_add, show 52 - m.log2 + (c - (52 - m.log2)) = c by omega]
      rw [e3, cut_whole _ _ _ (by omega)]
  dsimp only
  rw [hl, hcut, hlp, hbin, hinf]
  unfold rungOf
  clear hl hcut hp hne
  have e : ((m.log2 : Int) - 52 - -1074).toNat = m.log2 + 1022 := by omega
  rw [e]
  generalize m * 2 ^ (52 - m.log2) = g at *
  generalize m.log2 = k at *
  have hle : (k + 1022) * 4503599627370496 + g ≤ 9218868437227405312 := by omega
  rw [Nat.min_eq_left hle]

theorem sw : double.signWeight = 9223372036854775808 := by decide +kernel

theorem read_word (neg : Bool) (r : Nat) (hr : r < 9223372036854775808) : (double.word neg r / double.signWeight % 2 == 1) = neg ∧ double.word neg r % double.signWeight = r := by
  rw [sw]
  unfold Format.word
  rw [sw]
  cases neg
  · simp only [Bool.false_eq_true, if_false]
    exact ⟨by rw [beq_eq_false_iff_ne]; omega, by omega⟩
  · simp only [if_true]
    exact ⟨by rw [beq_iff_eq]; omega, by omega⟩

theorem rung_bd (m : Nat) (h0 : m ≠ 0) (h : m < 9007199254740992) : 4503599627370496 ≤ rungOf m ∧ rungOf m < 9218868437227405312 := by
  have hk := log2_le m h
  have hg := sig_bd m h0 h
  unfold rungOf
  omega

/-- the word of a whole number with its sign -/
def W (neg : Bool) (m : Nat) : Nat := double.nearest neg m 0

/-- what a word reads as, if it is a whole number's -/
def Rd (b : Nat) (neg : Bool) (m : Nat) : Prop := ∃ c : Nat, c ≤ 1074 ∧ double.read b = .number neg (m * 2 ^ c) (-(c : Int))

theorem W_rung (neg : Bool) (m : Nat) (h0 : m ≠ 0) (h : m < 9007199254740992) : W neg m = double.word neg (rungOf m) := by
  have := nearest_whole neg m 0 h0 h
  simpa [W] using this

theorem W_zero (neg : Bool) : W neg 0 = double.word neg 0 := by
  unfold W Format.nearest
  simp

theorem nearest_W (neg : Bool) (m c : Nat) (h : m < 9007199254740992) : double.nearest neg (m * 2 ^ c) (-(c : Int)) = W neg m := by
  by_cases h0 : m = 0
  · subst h0
    rw [W_zero, Nat.zero_mul]
    unfold Format.nearest
    simp
  · rw [nearest_whole neg m c h0 h, W_rung neg m h0 h]

theorem Rd_W (neg : Bool) (m : Nat) (h : m < 9007199254740992) : Rd (W neg m) neg m := by
  have hlp : double.leastPlace = -1074 := by decide +kernel
  have hbin : double.binade = 4503599627370496 := by decide +kernel
  have hinf : double.infRung = 9218868437227405312 := by decide +kernel
  by_cases h0 : m = 0
  · subst h0
    obtain ⟨k, hk⟩ : ∃ k, k = 1074 := ⟨_, rfl⟩
    refine ⟨k, by omega, ?_⟩
    rw [W_zero, Nat.zero_mul, hk]
    obtain ⟨e1, e2⟩ := read_word neg 0 (by omega)
    unfold Format.read
    simp only [e1, e2, hlp, hbin]
    rw [if_pos (by omega)]
    rfl
  · have hk := log2_le m h
    have hg := sig_bd m h0 h
    obtain ⟨b1, b2⟩ := rung_bd m h0 h
    refine ⟨52 - m.log2, by omega, ?_⟩
    rw [W_rung neg m h0 h]
    obtain ⟨e1, e2⟩ := read_word neg (rungOf m) (by omega)
    unfold Format.read
    simp only [e1, e2, hlp, hbin, hinf]
    rw [if_neg (by omega), if_pos b2]
    unfold rungOf
    generalize m * 2 ^ (52 - m.log2) = g at *
    have d1 : ((m.log2 + 1022) * 4503599627370496 + g) % 4503599627370496 = g - 4503599627370496 := by omega
    have d2 : ((m.log2 + 1022) * 4503599627370496 + g) / 4503599627370496 = m.log2 + 1023 := by omega
    rw [d1, d2]
    have d3 : 4503599627370496 + (g - 4503599627370496) = g := by omega
    have d4 : -1074 + ((m.log2 + 1023 - 1 : Nat) : Int) = -((52 - m.log2 : Nat) : Int) := by omega
    rw [d3, d4]

def sg (neg : Bool) (m : Nat) : Int := if neg then -(m : Int) else m

theorem mul_W {a b : Nat} {s t : Bool} {m n : Nat} (ha : Rd a s m) (hb : Rd b t n) (h : m * n < 9007199254740992) : double.mul a b = some (W (s ^^ t) (m * n)) := by
  obtain ⟨c, _, ra⟩ := ha
  obtain ⟨e, _, rb⟩ := hb
  unfold Format.mul
  rw [ra, rb]
  unfold Datum.product
  simp only [Option.map_some, Format.write]
  have e1 : m * 2 ^ c * (n * 2 ^ e) = (m * n) * 2 ^ (c + e) := by rw [Nat.pow_add]; ac_rfl
  have e2 : -(c : Int) + -(e : Int) = -((c + e : Nat) : Int) := by omega
  rw [e1, e2, nearest_W _ _ _ h]

theorem signed_eq (s : Bool) (m c d : Nat) (h : c ≤ d) : signed s (m * 2 ^ c) (d - c) = sg s m * ((2 ^ d : Nat) : Int) := by
  have e : (m * 2 ^ c) <<< (d - c) = m * 2 ^ d := by
    rw [Nat.shiftLeft_eq, Nat.mul_assoc, ← Nat.pow_add, show c + (d - c) = d by omega]
  unfold signed sg
  rw [e]
  cases s <;> simp [Int.neg_mul]

theorem sum_dat (s t : Bool) (m n c e : Nat) (h : (sg s m + sg t n).natAbs < 9007199254740992) :
    ((Datum.number s (m * 2 ^ c) (-(c : Int))).sum (.number t (n * 2 ^ e) (-(e : Int)))).map double.write
      = some (W (if sg s m + sg t n = 0 then s && t else decide (sg s m + sg t n < 0)) (sg s m + sg t n).natAbs) := by
  obtain ⟨d, hd⟩ : ∃ d, d = max c e := ⟨_, rfl⟩
  have hb : min (-(c : Int)) (-(e : Int)) = -(d : Int) := by omega
  have e1 : (-(c : Int) - -(d : Int)).toNat = d - c := by omega
  have e2 : (-(e : Int) - -(d : Int)).toNat = d - e := by omega
  unfold Datum.sum
  simp only [hb, e1, e2, Option.map_some, Format.write]
  rw [signed_eq s m c d (by omega), signed_eq t n e d (by omega), ← Int.add_mul]
  generalize sg s m + sg t n = z at *
  have hp : (0 : Int) < ((2 ^ d : Nat) : Int) := by have := Nat.two_pow_pos d; omega
  have z0 : (z * ((2 ^ d : Nat) : Int) = 0) ↔ z = 0 := by
    constructor
    · intro h'; rcases Int.mul_eq_zero.1 h' with h' | h' <;> omega
    · rintro rfl; simp
  have z1 : (z * ((2 ^ d : Nat) : Int) < 0) ↔ z < 0 := by
    constructor
    · intro h'
      by_cases c0 : z < 0
      · exact c0
      · have := Int.mul_nonneg (show 0 ≤ z by omega) (show (0 : Int) ≤ ((2 ^ d : Nat) : Int) by omega); omega
    · intro h'; exact Int.mul_neg_of_neg_of_pos h' hp
  have z2 : (z * ((2 ^ d : Nat) : Int)).natAbs = z.natAbs * 2 ^ d := by rw [Int.natAbs_mul, Int.natAbs_natCast]
  simp only [z0, z1, z2]
  rw [nearest_W _ _ _ h]

theorem add_W {a b : Nat} {s t : Bool} {m n : Nat} (ha : Rd a s m) (hb : Rd b t n) (h : (sg s m + sg t n).natAbs < 9007199254740992) :
    double.add a b = some (W (if sg s m + sg t n = 0 then s && t else decide (sg s m + sg t n < 0)) (sg s m + sg t n).natAbs) := by
  obtain ⟨c, _, ra⟩ := ha
  obtain ⟨e, _, rb⟩ := hb
  unfold Format.add
  rw [ra, rb]
  exact sum_dat s t m n c e h

theorem sub_W {a b : Nat} {s t : Bool} {m n : Nat} (ha : Rd a s m) (hb : Rd b t n) (h : (sg s m + sg (!t) n).natAbs < 9007199254740992) :
    double.sub a b = some (W (if sg s m + sg (!t) n = 0 then s && !t else decide (sg s m + sg (!t) n < 0)) (sg s m + sg (!t) n).natAbs) := by
  obtain ⟨c, _, ra⟩ := ha
  obtain ⟨e, _, rb⟩ := hb
  unfold Format.sub
  rw [ra, rb]
  exact sum_dat s (!t) m n c e h

/-! ### any number: its worth in parts of the least one -/

/-- how many of the least parts make 1 -/
def T : Nat := 1 <<< 1074
theorem T_eq (k : Nat) (h : k = 1074) : T = 2 ^ k := by rw [← Nat.one_shiftLeft, h]; rfl
theorem T_pos : 0 < T := by obtain ⟨k, hk⟩ : ∃ k, k = 1074 := ⟨_, rfl⟩; rw [T_eq k hk]; exact Nat.two_pow_pos _

def V : Datum → Int
  | .number s m i => signed s m (i + 1074).toNat
  | _ => 0

theorem read_place (b : Nat) (s : Bool) (m : Nat) (i : Int) (h : double.read b = .number s m i) : -1074 ≤ i := by
  have hlp : double.leastPlace = -1074 := by decide +kernel
  unfold Format.read at h
  simp only [hlp] at h
  split at h
  · cases h; omega
  · split at h
    · cases h; omega
    · split at h <;> cases h

theorem signed_shift (s : Bool) (m a b : Nat) : signed s m (a + b) = signed s m a * ((2 ^ b : Nat) : Int) := by
  have e : m <<< (a + b) = (m <<< a) * 2 ^ b := by rw [Nat.shiftLeft_eq, Nat.shiftLeft_eq, Nat.pow_add, Nat.mul_assoc]
  unfold signed
  rw [e]
  cases s <;> simp [Int.neg_mul]

theorem compare_mul (x y : Int) (k : Nat) (hk : 0 < k) : compare (x * (k : Int)) (y * (k : Int)) = compare x y := by
  have hk' : (0 : Int) < (k : Int) := by omega
  rcases Int.lt_trichotomy x y with h | h | h
  · have := Int.mul_lt_mul_of_pos_right h hk'
    rw [Int.compare_eq_lt.2 h, Int.compare_eq_lt.2 this]
  · subst h; simp
  · have := Int.mul_lt_mul_of_pos_right h hk'
    rw [Int.compare_eq_gt.2 h, Int.compare_eq_gt.2 this]

theorem order_V (s t : Bool) (m n : Nat) (i j : Int) (hi : -1074 ≤ i) (hj : -1074 ≤ j) :
    (Datum.number s m i).order (.number t n j) = some (compare (V (.number s m i)) (V (.number t n j))) := by
  obtain ⟨b, hb⟩ : ∃ b, b = min i j := ⟨_, rfl⟩
  unfold Datum.order V
  simp only [← hb]
  have e1 : (i + 1074).toNat = (i - b).toNat + (b + 1074).toNat := by omega
  have e2 : (j + 1074).toNat = (j - b).toNat + (b + 1074).toNat := by omega
  rw [e1, e2, signed_shift, signed_shift, compare_mul _ _ _ (Nat.two_pow_pos _)]

theorem V_whole (s : Bool) (m c : Nat) (h : c ≤ 1074) : V (.number s (m * 2 ^ c) (-(c : Int))) = sg s m * (T : Int) := by
  unfold V
  have e : (-(c : Int) + 1074).toNat = 1074 - c := by omega
  simp only [e]
  obtain ⟨k, hk⟩ : ∃ k, k = 1074 := ⟨_, rfl⟩
  rw [T_eq k hk, ← hk]
  exact signed_eq s m c k (by omega)

theorem cut_zero (s : Bool) (n d : Nat) : Toward.zero.cut s n d = n / 2 ^ d := by
  unfold Toward.cut
  simp only [Bool.toNat_false, Nat.add_zero, Nat.one_shiftLeft]
  by_cases h : d ≤ n.log2 + 2
  · rw [Nat.min_eq_left h]
  · rw [Nat.min_eq_right (by omega)]
    have h1 := @Nat.lt_log2_self n
    have h2 : 2 ^ (n.log2 + 1) ≤ 2 ^ (n.log2 + 2) := Nat.pow_le_pow_right (by omega) (by omega)
    have h3 : 2 ^ (n.log2 + 2) ≤ 2 ^ d := Nat.pow_le_pow_right (by omega) (by omega)
    rw [Nat.div_eq_of_lt (by omega), Nat.div_eq_of_lt (by omega)]

theorem toInt_V (s : Bool) (m : Nat) (i : Int) (hi : -1074 ≤ i) : (Datum.number s m i).toInt .zero = some ((V (.number s m i)).tdiv (T : Int)) := by
  unfold Datum.toInt Datum.integral
  simp only [cut_zero]
  congr 1
  have key : (m <<< (i + 1074).toNat) / T = (m <<< i.toNat) / 2 ^ (-i).toNat := by
    obtain ⟨k, hk⟩ : ∃ k, k = 1074 := ⟨_, rfl⟩
    rw [T_eq k hk, Nat.shiftLeft_eq, Nat.shiftLeft_eq]
    by_cases h : 0 ≤ i
    · have e1 : (i + 1074).toNat = i.toNat + k := by omega
      have e2 : (-i).toNat = 0 := by omega
      rw [e1, e2, Nat.pow_add, ← Nat.mul_assoc, Nat.mul_div_cancel _ (Nat.two_pow_pos _)]
      simp
    · have e1 : i.toNat = 0 := by omega
      have e2 : k = (i + 1074).toNat + (-i).toNat := by omega
      rw [e1]
      generalize (i + 1074).toNat = a at *
      generalize (-i).toNat = b at *
      rw [e2, Nat.pow_add, ← Nat.div_div_eq_div_mul, Nat.mul_div_cancel _ (Nat.two_pow_pos _)]
      simp
  unfold V signed
  cases s
  · simp only [Bool.false_eq_true, if_false, Nat.shiftLeft_zero]
    rw [← key, ← Int.ofNat_tdiv]
  · simp only [if_true, Nat.shiftLeft_zero]
    rw [← key, Int.neg_tdiv, ← Int.ofNat_tdiv]

end AxiF
end Go.Proofs.Ytanhpdejlodidaa
