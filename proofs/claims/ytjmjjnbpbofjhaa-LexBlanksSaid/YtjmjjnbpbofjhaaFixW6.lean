/- The walk of layer 1's texts: 'Print'. -/
import Derived.Test.YtjmjjnbpbofjhaaFixWa
import Derived.Test.YtjmjjnbpbofjhaaFixAll
namespace Go.Proofs.Ytjmjjnbpbofjhaa
open Go.RowKit FixM FixP

/-- the array from behind on -/
def bufA (t : List UInt8) : Array Value := (List.replicate (12 - t.length) (Value.int .u8 0) ++ t.map (fun c => Value.int .u8 c.toNat)).toArray
theorem bufA_at (t : List UInt8) (i : Nat) (h : i < 12 - t.length) : (bufA t)[i]? = some (.int .u8 0) := by
  unfold bufA; simp [List.getElem?_append, h]
theorem bufA_put (t : List UInt8) (c : UInt8) (h : t.length < 12) : (bufA t).setIfInBounds (11 - t.length) (.int .u8 c.toNat) = bufA (c :: t) := by
  unfold bufA
  simp only [List.setIfInBounds_toArray, List.length_cons, List.map_cons]
  congr 1
  obtain ⟨k, hk⟩ : ∃ k, 12 - t.length = k + 1 := ⟨11 - t.length, by omega⟩
  have e1 : 11 - t.length = k := by omega
  have e2 : 12 - (t.length + 1) = k := by omega
  rw [hk, e1, e2, List.replicate_succ', List.append_assoc, List.set_append_right _ _ (by simp)]
  simp

/-- the world in which 'Print' has made its variables: the array, from behind on, and where it begins -/
@[reducible] def PRW (w : World) (t : List UInt8) : World :=
  (w.alloc (.cells (bufA t) 105)).alloc (.cells #[.int .i64 (12 - (t.length : Int))] 3)

set_option maxRecDepth 100000 in
set_option maxHeartbeats 400000 in
theorem put_any (w : World) (t : List UInt8) (ci : Int) (c : UInt8) (hci : ci = c.toNat) (ht : t.length < 12) :
    Calls Try.prog 102 #[.int .u8 ci, .pointer (some ⟨w.heap.size + 1, 0, none⟩), .pointer (some ⟨w.heap.size, 0, none⟩)] (PRW w t) fun e w' => e = .returned (.tuple #[]) ∧ PRW w (c :: t) = w' := by
  subst hci
  have hat := bufA_at t (11 - t.length) (by omega)
  have hput := bufA_put t c ht
  have e1 : (12 - (t.length : Int) - 1) = 11 - (t.length : Int) := by omega
  have e2 : (11 - (t.length : Int)).toNat = 11 - t.length := by omega
  have g0 : (0 : Int) ≤ 11 - (t.length : Int) := by omega
  have g1 : (11 - (t.length : Int)) < 12 := by omega
  have HP := Lib.hid hput
  clear hput
  go_enter Try.func102, Try.ntmps102
  go_wp2_with fail
  go_end0
  refine ⟨rfl, ?_⟩
  rw [HP.out]
  have e3 : (12 - (((c :: t).length : Nat) : Int)) = 11 - (t.length : Int) := by simp; omega
  unfold PRW
  rw [e3]

theorem bufA_get (t : List UInt8) (j : Nat) (h : j < t.length) : (bufA t)[12 - t.length + j]? = some (.int .u8 (t[j].toNat : Int)) := by
  unfold bufA
  simp [h]

theorem slice_buf (W : World) (b : Nat) (x : Int) (n : Nat) (hx : x = 12 - (n : Int)) (h1 : 1 ≤ n) (h2 : n ≤ 12) :
    (Instr.sliceAt 105 (.pointer (some ⟨b, 0, none⟩)) (some (.int .i64 x)) none none).run Try.prog W = .ok (.slice (some ⟨b, 12 - n, none⟩) n n) W := by
  have hl : Try.prog.arrayLen 105 = 12 := by kernel_rfl
  have he : Try.prog.elem 105 = 5 := by kernel_rfl
  have hs : ∀ w, (sizeOf 5).run Try.prog w = .ok 1 w := fun _ => by kernel_rfl
  rw [run_sliceAt_array_l W _ _ (by kernel_rfl) .i64 x (by omega) (by rw [hl]; omega), hl, he, hs]
  have e : x.toNat = 12 - n := by omega
  simp only [Result.andThen, slicedAt, e]
  rw [if_neg (by omega)]
  have e2 : 12 - (12 - n) = n := by omega
  rw [e2]
  simp [Addr.add]
  omega

theorem text_buf (w : World) (t : List UInt8) (o n c : Nat) (ho : o = 12 - t.length) (hn : n = t.length) :
    (convert 76 9 (.slice (some ⟨w.heap.size, o, none⟩) n c)).run Try.prog (PRW w t) = .ok (.string ⟨t.toArray⟩) (PRW w t) := by
  subst hn ho
  refine run_convert_bytes_back (PRW w t) _ _ 5 ⟨w.heap.size, 12 - t.length, none⟩ c t Try.underlying76 Try.underlying5 Try.underlying9 ?_
  intro j hj
  have ha : (⟨w.heap.size, 12 - t.length, none⟩ : Addr).add j = ⟨w.heap.size, 12 - t.length + j, none⟩ := by simp [Addr.add]
  rw [ha]
  unfold PRW
  rw [World.cell?_alloc_past _ _ _ (by simp), World.cell?_alloc_at _ _ _ _ rfl]
  exact bufA_get t j hj

end Go.Proofs.Ytjmjjnbpbofjhaa
