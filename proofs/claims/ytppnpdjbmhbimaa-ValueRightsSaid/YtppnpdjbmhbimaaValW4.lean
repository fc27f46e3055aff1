/- Package tokens: Ident, Sign, Delim, Ratio; layer 9: Tokens. -/
import Derived.Test.YtppnpdjbmhbimaaValW2
namespace Go.Proofs.Ytppnpdjbmhbimaa
open Go.RowKit TreN LexP FixP SynP ValP FixM
set_option linter.unusedVariables false

/-- a list made anew -/
theorem made_toks (W : World) (l : List Tok) : Tks (W.alloc (.cells (tkcs l).toArray 44)) (some ⟨W.heap.size, 0, none⟩) l := by
  have hb : (W.alloc (.cells (tkcs l).toArray 44)).heap[W.heap.size]? = some (.cells (tkcs l).toArray 44 (0, 0)) := heap_alloc_new W _
  refine Or.inr ⟨W.heap.size, 0, rfl, by simp, fun i hi => ?_⟩
  obtain ⟨h1, h2, h3⟩ := tkcs_get l i hi
  exact ⟨cell_of hb (by rw [Nat.zero_add]; simpa using h1), cell_of hb (by rw [Nat.zero_add]; simpa using h2), cell_of hb (by rw [Nat.zero_add]; simpa using h3)⟩
set_option maxRecDepth 100000 in
theorem Ident_any (x : List UInt8) (w : World) : Calls Try.prog 37 #[.string ⟨x.toArray⟩] w fun e w' => e = .returned (.agg #[.int .i64 1, .string ⟨x.toArray⟩, .int .i64 0]) ∧ w' = w.alloc (.cells #[.int .i64 1, .string ⟨x.toArray⟩, .int .i64 0] 44) := by
  go_enter Try.func37, Try.ntmps37
  go_wp2_with fail
  exact bodyPost_ret (v := .agg #[.int .i64 1, .string ⟨x.toArray⟩, .int .i64 0]) (by simp [results, Try.results37, go_sem]) rfl ⟨rfl, rfl⟩
set_option maxRecDepth 100000 in
theorem Delim_any (x : List UInt8) (w : World) : Calls Try.prog 62 #[.string ⟨x.toArray⟩] w fun e w' => e = .returned (.agg #[.int .i64 19, .string ⟨x.toArray⟩, .int .i64 0]) ∧ w' = w.alloc (.cells #[.int .i64 19, .string ⟨x.toArray⟩, .int .i64 0] 44) := by
  go_enter Try.func62, Try.ntmps62
  go_wp2_with fail
  exact bodyPost_ret (v := .agg #[.int .i64 19, .string ⟨x.toArray⟩, .int .i64 0]) (by simp [results, Try.results62, go_sem]) rfl ⟨rfl, rfl⟩
set_option maxRecDepth 100000 in
theorem Sign_any (k : Int) (w : World) : Calls Try.prog 61 #[.int .i64 k] w fun e w' => e = .returned (.agg #[.int .i64 k, .string ⟨#[]⟩, .int .i64 0]) ∧ w' = w.alloc (.cells #[.int .i64 k, .string ⟨#[]⟩, .int .i64 0] 44) := by
  go_enter Try.func61, Try.ntmps61
  go_wp2_with fail
  exact bodyPost_ret (v := .agg #[.int .i64 k, .string ⟨#[]⟩, .int .i64 0]) (by simp [results, Try.results61, go_sem]) rfl ⟨rfl, rfl⟩
theorem below_one (w : World) (o : Obj) : Below w.heap.size w (w.alloc o) := (Below.refl _ _).alloc (Nat.le_refl _) _
set_option maxRecDepth 100000 in
set_option maxHeartbeats 1000000 in
theorem Ratio_any (n d : Int) (w : World) : Calls Try.prog 38 #[.int .i64 n, .int .i64 d] w (ToldCap w (ratT n d)) := by
  have CS := Lib.hid (fun W => (Sign_any 20 W).mono (R' := fun e w' => e = .returned (.agg #[.int .i64 20, .string ⟨#[]⟩, .int .i64 0]) ∧ Hid (Below W.heap.size W w')) fun e w' h => ⟨h.1, Lib.hid (by rw [h.2]; exact below_one _ _)⟩)
  have CD := Lib.hid (fun W => (Delim_any [47] W).mono (R' := fun e w' => e = .returned (.agg #[.int .i64 19, .string ⟨#[47]⟩, .int .i64 0]) ∧ Hid (Below W.heap.size W w')) fun e w' h => ⟨h.1, Lib.hid (by rw [h.2]; exact below_one _ _)⟩)
  go_enter Try.func38, Try.ntmps38
  go_wp2_with fail
  refine (CS.out _).mono ?_
  rintro e w1 ⟨rfl, hb1⟩
  go_wp2_with fail
  refine (CD.out _).mono ?_
  rintro e w2 ⟨rfl, hb2⟩
  have HB2 := Lib.hid (hb1.out.trans (hb2.out.mono hb1.out.size))
  go_wp2_with fail
  refine (CS.out _).mono ?_
  rintro e w3 ⟨rfl, hb3⟩
  have HB3 := Lib.hid (HB2.out.trans (hb3.out.mono HB2.out.size))
  go_wp2_with fail
  go_ret
  exact ⟨_, _, rfl, made_toks w3 (ratT n d), HB3.out.alloc HB3.out.size _, Nat.le_refl _, by unfold maxLen; decide⟩
end Go.Proofs.Ytppnpdjbmhbimaa
