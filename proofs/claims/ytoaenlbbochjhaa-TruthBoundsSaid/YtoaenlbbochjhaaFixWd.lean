/- Joined texts: FixW6 FixW7. -/
import Derived.Test.YtoaenlbbochjhaaFixWa
import Derived.Test.YtoaenlbbochjhaaFixAll
namespace Go.Proofs.Ytoaenlbbochjhaa
open Go.RowKit FixM FixP

/-- the array from behind on -/
def bufA (t : List UInt8) : Array Value := (List.replicate (12 - t.length) (Value.int .u8 0) ++ t.map (fun c => Value.int .u8 c.toNat)).toArray
theorem bufA_at (t : List UInt8) (i : Nat) (h : i < 12 - t.length) : (bufA t)[i]? = some (.int .u8 0) := by
  unfold bufA; simp [List.getElem?_append, h]
theorem bufA_put (t : List UInt8) (c : UInt8) (h : t.length < 12) : (bufA t).setIfInBounds (11 - t.length) (.int .u8 c.toNat) = bufA (c :: t) := by
  unfold bufA
  simp only [List.setIfInBounds_toArray, List.length_cons, List.map_cons]
  congr 1
  obtain ⟨k, hk⟩ : ∃ k, 12 - t.length = k + 1 := ⟨11 - t.length, by omega⟩
  have e1 : 11 - t.length = k := by omega
  have e2 : 12 - (t.length + 1) = k := by omega
  rw [hk, e1, e2, List.replicate_succ', List.append_assoc, List.set_append_right _ _ (by simp)]
  simp

theorem bufA_get (t : List UInt8) (j : Nat) (h : j < t.length) : (bufA t)[12 - t.length + j]? = some (.int .u8 (t[j].toNat : Int)) := by
  unfold bufA
  simp [h]

end Go.Proofs.Ytoaenlbbochjhaa

namespace Go.Proofs.Ytoaenlbbochjhaa
open Go.RowKit FixM FixP

end Go.Proofs.Ytoaenlbbochjhaa
