/- The walks of layer 4: is a node right? -/
import Derived.Test.YtijhneadfagehaaTreD
namespace Go.Proofs.Ytijhneadfagehaa
open Go.RowKit TreN TreP

/-- a node's cells, in a block of their own -/
def Box (w : World) (g : Nat) (n : Nd) : Prop :=
  w.cell? ⟨g, 0, none⟩ = some (.int .i64 n.par) ∧ w.cell? ⟨g, 1, none⟩ = some (.string n.tag) ∧ w.cell? ⟨g, 2, none⟩ = some (.string n.id) ∧
  w.cell? ⟨g, 3, none⟩ = some (.slice n.ca n.cl n.cc) ∧ w.cell? ⟨g, 4, none⟩ = some (.slice n.aa n.al n.ac) ∧ w.cell? ⟨g, 5, none⟩ = some (.string n.tx)
set_option maxRecDepth 100000 in
theorem Box.below {w w' : World} {g B : Nat} {n : Nd} (h : Box w g n) (hb : Below B w w') (hg : g < B) : Box w' g n := by
  obtain ⟨h0, h1, h2, h3, h4, h5⟩ := h
  refine ⟨?_, ?_, ?_, ?_, ?_, ?_⟩
  · rw [hb.cell (p := ⟨g, 0, none⟩) hg]; exact h0
  · rw [hb.cell (p := ⟨g, 1, none⟩) hg]; exact h1
  · rw [hb.cell (p := ⟨g, 2, none⟩) hg]; exact h2
  · rw [hb.cell (p := ⟨g, 3, none⟩) hg]; exact h3
  · rw [hb.cell (p := ⟨g, 4, none⟩) hg]; exact h4
  · rw [hb.cell (p := ⟨g, 5, none⟩) hg]; exact h5
def boxed (w : World) (n : Nd) : World := w.alloc (.cells #[.int .i64 n.par, .string n.tag, .string n.id, .slice n.ca n.cl n.cc, .slice n.aa n.al n.ac, .string n.tx] 41)
set_option maxRecDepth 100000 in
theorem boxed_box (w : World) (n : Nd) : Box (boxed w n) w.heap.size n := by
  unfold boxed
  refine ⟨?_, ?_, ?_, ?_, ?_, ?_⟩
  all_goals (rw [World.cell?_alloc_at _ _ _ _ rfl]; rfl)
set_option maxRecDepth 100000 in
theorem boxed_below (w : World) (n : Nd) : Below w.heap.size w (boxed w n) := (Below.refl _ _).alloc (Nat.le_refl _) _
set_option maxRecDepth 100000 in
theorem boxed_size (w : World) (n : Nd) : w.heap.size < (boxed w n).heap.size := by unfold boxed; simp
set_option maxRecDepth 100000 in
theorem Nd.val_eq (n : Nd) : n.val = #[.int .i64 n.par, .string n.tag, .string n.id, .slice n.ca n.cl n.cc, .slice n.aa n.al n.ac, .string n.tx] := rfl

set_option maxRecDepth 100000 in
set_option maxHeartbeats 2000000 in
theorem right_w1 (n : Nd) (w : World) (hn : NdIn w n) (ht : emB n.tag = true) (hx : textB n.tx = false) : Calls Try.prog 24 #[.agg n.val] w fun e w' => e = .returned (.bool false) ∧ Below w.heap.size w w' := by
  have HN := Lib.hid hn
  have hE := element_any n (boxed w n)
  rw [Nd.val_eq] at hE ⊢
  have HE := Lib.hid hE
  clear hn hE
  have HT := Lib.hid ht
  have HX := Lib.hid hx
  clear ht hx
  have hbx : (w.alloc (.cells #[.int .i64 n.par, .string n.tag, .string n.id, .slice n.ca n.cl n.cc, .slice n.aa n.al n.ac, .string n.tx] 41)) = boxed w n := rfl
  obtain ⟨c0, c1, c2, c3, c4, c5⟩ := boxed_box w n
  have HB := Lib.hid (boxed_box w n)
  go_enter Try.func24, Try.ntmps24
  go_wp2_with fail
  clear hbx c0 c1 c2 c3 c4 c5
  refine HE.out.mono ?_
  rintro e w1 ⟨rfl, hb1⟩
  rw [HT.out]
  have hB1 := HB.out.below hb1 (boxed_size w n)
  have h01 : Below w.heap.size w w1 := (boxed_below w n).trans (hb1.mono (boxed_below w n).size)
  have H01 := Lib.hid h01
  have HB1 := Lib.hid hB1
  obtain ⟨c0, c1, c2, c3, c4, c5⟩ := hB1
  clear hb1 h01
  go_wp2_with (go_at_call 31; refine (Text_any _ HN.out.stx _).mono ?_; rintro e w' ⟨rfl, rfl⟩; rw [HX.out])
  go_ret
  exact ⟨rfl, H01.out⟩

set_option maxRecDepth 100000 in
set_option maxHeartbeats 2000000 in
theorem right_w2 (n : Nd) (w : World) (hn : NdIn w n) (ht : emB n.tag = true) (hx : textB n.tx = true) (hi : emB n.id = false) : Calls Try.prog 24 #[.agg n.val] w fun e w' => e = .returned (.bool false) ∧ Below w.heap.size w w' := by
  have HN := Lib.hid hn
  have hE := element_any n (boxed w n)
  rw [Nd.val_eq] at hE ⊢
  have HE := Lib.hid hE
  clear hn hE
  have HT := Lib.hid ht
  have HX := Lib.hid hx
  clear ht hx
  unfold emB at hi
  have hbx : (w.alloc (.cells #[.int .i64 n.par, .string n.tag, .string n.id, .slice n.ca n.cl n.cc, .slice n.aa n.al n.ac, .string n.tx] 41)) = boxed w n := rfl
  obtain ⟨c0, c1, c2, c3, c4, c5⟩ := boxed_box w n
  have HB := Lib.hid (boxed_box w n)
  go_enter Try.func24, Try.ntmps24
  go_wp2_with fail
  clear hbx c0 c1 c2 c3 c4 c5
  refine HE.out.mono ?_
  rintro e w1 ⟨rfl, hb1⟩
  rw [HT.out]
  have hB1 := HB.out.below hb1 (boxed_size w n)
  have h01 : Below w.heap.size w w1 := (boxed_below w n).trans (hb1.mono (boxed_below w n).size)
  have H01 := Lib.hid h01
  have HB1 := Lib.hid hB1
  obtain ⟨c0, c1, c2, c3, c4, c5⟩ := hB1
  clear hb1 h01
  go_wp2_with (go_at_call 31; refine (Text_any _ HN.out.stx _).mono ?_; rintro e w' ⟨rfl, rfl⟩; rw [HX.out])
  go_ret
  exact ⟨rfl, H01.out⟩

set_option maxRecDepth 100000 in
set_option maxHeartbeats 2000000 in
theorem right_w3 (n : Nd) (w : World) (hn : NdIn w n) (ht : emB n.tag = true) (hx : textB n.tx = true) (hi : emB n.id = true) (hc : ¬ n.cl = 0) : Calls Try.prog 24 #[.agg n.val] w fun e w' => e = .returned (.bool false) ∧ Below w.heap.size w w' := by
  have HN := Lib.hid hn
  have hE := element_any n (boxed w n)
  rw [Nd.val_eq] at hE ⊢
  have HE := Lib.hid hE
  clear hn hE
  have HT := Lib.hid ht
  have HX := Lib.hid hx
  clear ht hx
  unfold emB at hi
  have hcz : ((n.cl : Int) == 0) = false := by rw [beq_eq_false_iff_ne]; omega
  have hbx : (w.alloc (.cells #[.int .i64 n.par, .string n.tag, .string n.id, .slice n.ca n.cl n.cc, .slice n.aa n.al n.ac, .string n.tx] 41)) = boxed w n := rfl
  obtain ⟨c0, c1, c2, c3, c4, c5⟩ := boxed_box w n
  have HB := Lib.hid (boxed_box w n)
  go_enter Try.func24, Try.ntmps24
  go_wp2_with fail
  clear hbx c0 c1 c2 c3 c4 c5
  refine HE.out.mono ?_
  rintro e w1 ⟨rfl, hb1⟩
  rw [HT.out]
  have hB1 := HB.out.below hb1 (boxed_size w n)
  have h01 : Below w.heap.size w w1 := (boxed_below w n).trans (hb1.mono (boxed_below w n).size)
  have H01 := Lib.hid h01
  have HB1 := Lib.hid hB1
  obtain ⟨c0, c1, c2, c3, c4, c5⟩ := hB1
  clear hb1 h01
  go_wp2_with (go_at_call 31; refine (Text_any _ HN.out.stx _).mono ?_; rintro e w' ⟨rfl, rfl⟩; rw [HX.out])
  go_ret
  exact ⟨rfl, H01.out⟩

set_option maxRecDepth 100000 in
set_option maxHeartbeats 2000000 in
theorem right_w4 (n : Nd) (w : World) (hn : NdIn w n) (ht : emB n.tag = true) (hx : textB n.tx = true) (hi : emB n.id = true) (hc : n.cl = 0) : Calls Try.prog 24 #[.agg n.val] w fun e w' => e = .returned (.bool (decide (n.al = 0))) ∧ Below w.heap.size w w' := by
  have HN := Lib.hid hn
  have hE := element_any n (boxed w n)
  rw [Nd.val_eq] at hE ⊢
  have HE := Lib.hid hE
  clear hn hE
  have HT := Lib.hid ht
  have HX := Lib.hid hx
  have HC := Lib.hid hc
  clear ht hx hc
  unfold emB at hi
  have hcz : ((n.cl : Int) == 0) = true := by rw [beq_iff_eq, HC.out]; rfl
  have hbx : (w.alloc (.cells #[.int .i64 n.par, .string n.tag, .string n.id, .slice n.ca n.cl n.cc, .slice n.aa n.al n.ac, .string n.tx] 41)) = boxed w n := rfl
  obtain ⟨c0, c1, c2, c3, c4, c5⟩ := boxed_box w n
  have HB := Lib.hid (boxed_box w n)
  go_enter Try.func24, Try.ntmps24
  go_wp2_with fail
  clear hbx c0 c1 c2 c3 c4 c5
  refine HE.out.mono ?_
  rintro e w1 ⟨rfl, hb1⟩
  rw [HT.out]
  have hB1 := HB.out.below hb1 (boxed_size w n)
  have h01 : Below w.heap.size w w1 := (boxed_below w n).trans (hb1.mono (boxed_below w n).size)
  have H01 := Lib.hid h01
  have HB1 := Lib.hid hB1
  obtain ⟨c0, c1, c2, c3, c4, c5⟩ := hB1
  clear hb1 h01
  go_wp2_with (go_at_call 31; refine (Text_any _ HN.out.stx _).mono ?_; rintro e w' ⟨rfl, rfl⟩; rw [HX.out])
  go_ret
  refine ⟨ret_bool ?_, H01.out⟩
  rw [Bool.eq_iff_iff]; simp

set_option maxRecDepth 100000 in
set_option maxHeartbeats 2000000 in
theorem right_e1 (n : Nd) (w : World) (hn : NdIn w n) (ht : emB n.tag = false) (hg : nameB n.tag = false) : Calls Try.prog 24 #[.agg n.val] w fun e w' => e = .returned (.bool false) ∧ Below w.heap.size w w' := by
  have HN := Lib.hid hn
  have hE := element_any n (boxed w n)
  rw [Nd.val_eq] at hE ⊢
  have HE := Lib.hid hE
  clear hn hE
  have HT := Lib.hid ht
  have HG := Lib.hid hg
  clear ht hg
  have hbx : (w.alloc (.cells #[.int .i64 n.par, .string n.tag, .string n.id, .slice n.ca n.cl n.cc, .slice n.aa n.al n.ac, .string n.tx] 41)) = boxed w n := rfl
  obtain ⟨c0, c1, c2, c3, c4, c5⟩ := boxed_box w n
  have HB := Lib.hid (boxed_box w n)
  go_enter Try.func24, Try.ntmps24
  go_wp2_with fail
  clear hbx c0 c1 c2 c3 c4 c5
  refine HE.out.mono ?_
  rintro e w1 ⟨rfl, hb1⟩
  rw [HT.out]
  have hB1 := HB.out.below hb1 (boxed_size w n)
  have h01 : Below w.heap.size w w1 := (boxed_below w n).trans (hb1.mono (boxed_below w n).size)
  have H01 := Lib.hid h01
  have HB1 := Lib.hid hB1
  obtain ⟨c0, c1, c2, c3, c4, c5⟩ := hB1
  clear hb1 h01
  go_wp2_with (go_at_call 16; refine (Name_any n.tag HN.out.stag _).mono ?_; rintro e w' ⟨rfl, rfl⟩; rw [HG.out])
  go_ret
  exact ⟨rfl, H01.out⟩

set_option maxRecDepth 100000 in
set_option maxHeartbeats 2000000 in
theorem right_e2 (n : Nd) (w : World) (hn : NdIn w n) (ht : emB n.tag = false) (hg : nameB n.tag = true) (he : emB n.id = false) (hi : nameB n.id = false) : Calls Try.prog 24 #[.agg n.val] w fun e w' => e = .returned (.bool false) ∧ Below w.heap.size w w' := by
  have HN := Lib.hid hn
  have hE := element_any n (boxed w n)
  rw [Nd.val_eq] at hE ⊢
  have HE := Lib.hid hE
  clear hn hE
  have HT := Lib.hid ht
  have HG := Lib.hid hg
  have HI := Lib.hid hi
  clear ht hg hi
  unfold emB at he
  have hbx : (w.alloc (.cells #[.int .i64 n.par, .string n.tag, .string n.id, .slice n.ca n.cl n.cc, .slice n.aa n.al n.ac, .string n.tx] 41)) = boxed w n := rfl
  obtain ⟨c0, c1, c2, c3, c4, c5⟩ := boxed_box w n
  have HB := Lib.hid (boxed_box w n)
  go_enter Try.func24, Try.ntmps24
  go_wp2_with fail
  clear hbx c0 c1 c2 c3 c4 c5
  refine HE.out.mono ?_
  rintro e w1 ⟨rfl, hb1⟩
  rw [HT.out]
  have hB1 := HB.out.below hb1 (boxed_size w n)
  have h01 : Below w.heap.size w w1 := (boxed_below w n).trans (hb1.mono (boxed_below w n).size)
  have H01 := Lib.hid h01
  have HB1 := Lib.hid hB1
  obtain ⟨c0, c1, c2, c3, c4, c5⟩ := hB1
  clear hb1 h01
  go_wp2_with (go_at_call 16; first | (with_reducible refine (Name_any n.tag HN.out.stag _).mono ?_; rintro e w' ⟨rfl, rfl⟩; rw [HG.out]) | (with_reducible refine (Name_any n.id HN.out.sid _).mono ?_; rintro e w' ⟨rfl, rfl⟩; rw [HI.out]))
  go_ret
  exact ⟨rfl, H01.out⟩

set_option maxRecDepth 100000 in
set_option maxHeartbeats 2000000 in
theorem right_e3 (n : Nd) (w : World) (hn : NdIn w n) (ht : emB n.tag = false) (hg : nameB n.tag = true) (he : emB n.id = true) (hx : emB n.tx = false) : Calls Try.prog 24 #[.agg n.val] w fun e w' => e = .returned (.bool false) ∧ Below w.heap.size w w' := by
  have HN := Lib.hid hn
  have hE := element_any n (boxed w n)
  rw [Nd.val_eq] at hE ⊢
  have HE := Lib.hid hE
  clear hn hE
  have HT := Lib.hid ht
  have HG := Lib.hid hg
  clear ht hg
  unfold emB at he hx
  have hbx : (w.alloc (.cells #[.int .i64 n.par, .string n.tag, .string n.id, .slice n.ca n.cl n.cc, .slice n.aa n.al n.ac, .string n.tx] 41)) = boxed w n := rfl
  obtain ⟨c0, c1, c2, c3, c4, c5⟩ := boxed_box w n
  have HB := Lib.hid (boxed_box w n)
  go_enter Try.func24, Try.ntmps24
  go_wp2_with fail
  clear hbx c0 c1 c2 c3 c4 c5
  refine HE.out.mono ?_
  rintro e w1 ⟨rfl, hb1⟩
  rw [HT.out]
  have hB1 := HB.out.below hb1 (boxed_size w n)
  have h01 : Below w.heap.size w w1 := (boxed_below w n).trans (hb1.mono (boxed_below w n).size)
  have H01 := Lib.hid h01
  have HB1 := Lib.hid hB1
  obtain ⟨c0, c1, c2, c3, c4, c5⟩ := hB1
  clear hb1 h01
  go_wp2_with (go_at_call 16; refine (Name_any n.tag HN.out.stag _).mono ?_; rintro e w' ⟨rfl, rfl⟩; rw [HG.out])
  go_ret
  exact ⟨rfl, H01.out⟩

set_option maxRecDepth 100000 in
set_option maxHeartbeats 2000000 in
theorem right_e4 (n : Nd) (w : World) (hn : NdIn w n) (ht : emB n.tag = false) (hg : nameB n.tag = true) (he : emB n.id = false) (hi : nameB n.id = true) (hx : emB n.tx = false) : Calls Try.prog 24 #[.agg n.val] w fun e w' => e = .returned (.bool false) ∧ Below w.heap.size w w' := by
  have HN := Lib.hid hn
  have hE := element_any n (boxed w n)
  rw [Nd.val_eq] at hE ⊢
  have HE := Lib.hid hE
  clear hn hE
  have HT := Lib.hid ht
  have HG := Lib.hid hg
  have HI := Lib.hid hi
  clear ht hg hi
  unfold emB at he hx
  have hbx : (w.alloc (.cells #[.int .i64 n.par, .string n.tag, .string n.id, .slice n.ca n.cl n.cc, .slice n.aa n.al n.ac, .string n.tx] 41)) = boxed w n := rfl
  obtain ⟨c0, c1, c2, c3, c4, c5⟩ := boxed_box w n
  have HB := Lib.hid (boxed_box w n)
  go_enter Try.func24, Try.ntmps24
  go_wp2_with fail
  clear hbx c0 c1 c2 c3 c4 c5
  refine HE.out.mono ?_
  rintro e w1 ⟨rfl, hb1⟩
  rw [HT.out]
  have hB1 := HB.out.below hb1 (boxed_size w n)
  have h01 : Below w.heap.size w w1 := (boxed_below w n).trans (hb1.mono (boxed_below w n).size)
  have H01 := Lib.hid h01
  have HB1 := Lib.hid hB1
  obtain ⟨c0, c1, c2, c3, c4, c5⟩ := hB1
  clear hb1 h01
  go_wp2_with (go_at_call 16; first | (with_reducible refine (Name_any n.tag HN.out.stag _).mono ?_; rintro e w' ⟨rfl, rfl⟩; rw [HG.out]) | (with_reducible refine (Name_any n.id HN.out.sid _).mono ?_; rintro e w' ⟨rfl, rfl⟩; rw [HI.out]))
  go_ret
  exact ⟨rfl, H01.out⟩

set_option maxRecDepth 100000 in
set_option maxHeartbeats 2000000 in
theorem right_e5 (n : Nd) (w : World) (hn : NdIn w n) (ht : emB n.tag = false) (hg : nameB n.tag = true) (he : emB n.id = true) (hx : emB n.tx = true) : Calls Try.prog 24 #[.agg n.val] w fun e w' => e = .returned (.bool (mkB n)) ∧ Below w.heap.size w w' := by
  have HN := Lib.hid hn
  have hE := element_any n (boxed w n)
  rw [Nd.val_eq] at hE ⊢
  have HE := Lib.hid hE
  clear hn hE
  have HT := Lib.hid ht
  have HG := Lib.hid hg
  clear ht hg
  unfold emB at he hx
  have hbx : (w.alloc (.cells #[.int .i64 n.par, .string n.tag, .string n.id, .slice n.ca n.cl n.cc, .slice n.aa n.al n.ac, .string n.tx] 41)) = boxed w n := rfl
  obtain ⟨c0, c1, c2, c3, c4, c5⟩ := boxed_box w n
  have HB := Lib.hid (boxed_box w n)
  go_enter Try.func24, Try.ntmps24
  go_wp2_with fail
  clear hbx c0 c1 c2 c3 c4 c5
  refine HE.out.mono ?_
  rintro e w1 ⟨rfl, hb1⟩
  rw [HT.out]
  have hB1 := HB.out.below hb1 (boxed_size w n)
  have h01 : Below w.heap.size w w1 := (boxed_below w n).trans (hb1.mono (boxed_below w n).size)
  have H01 := Lib.hid h01
  have HB1 := Lib.hid hB1
  obtain ⟨c0, c1, c2, c3, c4, c5⟩ := hB1
  clear hb1 h01
  go_wp2_with (go_at_call 16; refine (Name_any n.tag HN.out.stag _).mono ?_; rintro e w' ⟨rfl, rfl⟩; rw [HG.out])
  have hM := marked_any n w1 (HN.out.below H01.out)
  rw [Nd.val_eq] at hM
  refine hM.mono ?_
  rintro e w2 ⟨rfl, hb2⟩
  have h02 := H01.out.trans (hb2.mono H01.out.size)
  have H02 := Lib.hid h02
  clear hM hb2 h02
  go_wp2_with fail
  go_ret
  exact ⟨rfl, H02.out⟩

set_option maxRecDepth 100000 in
set_option maxHeartbeats 2000000 in
theorem right_e6 (n : Nd) (w : World) (hn : NdIn w n) (ht : emB n.tag = false) (hg : nameB n.tag = true) (he : emB n.id = false) (hi : nameB n.id = true) (hx : emB n.tx = true) : Calls Try.prog 24 #[.agg n.val] w fun e w' => e = .returned (.bool (mkB n)) ∧ Below w.heap.size w w' := by
  have HN := Lib.hid hn
  have hE := element_any n (boxed w n)
  rw [Nd.val_eq] at hE ⊢
  have HE := Lib.hid hE
  clear hn hE
  have HT := Lib.hid ht
  have HG := Lib.hid hg
  have HI := Lib.hid hi
  clear ht hg hi
  unfold emB at he hx
  have hbx : (w.alloc (.cells #[.int .i64 n.par, .string n.tag, .string n.id, .slice n.ca n.cl n.cc, .slice n.aa n.al n.ac, .string n.tx] 41)) = boxed w n := rfl
  obtain ⟨c0, c1, c2, c3, c4, c5⟩ := boxed_box w n
  have HB := Lib.hid (boxed_box w n)
  go_enter Try.func24, Try.ntmps24
  go_wp2_with fail
  clear hbx c0 c1 c2 c3 c4 c5
  refine HE.out.mono ?_
  rintro e w1 ⟨rfl, hb1⟩
  rw [HT.out]
  have hB1 := HB.out.below hb1 (boxed_size w n)
  have h01 : Below w.heap.size w w1 := (boxed_below w n).trans (hb1.mono (boxed_below w n).size)
  have H01 := Lib.hid h01
  have HB1 := Lib.hid hB1
  obtain ⟨c0, c1, c2, c3, c4, c5⟩ := hB1
  clear hb1 h01
  go_wp2_with (go_at_call 16; first | (with_reducible refine (Name_any n.tag HN.out.stag _).mono ?_; rintro e w' ⟨rfl, rfl⟩; rw [HG.out]) | (with_reducible refine (Name_any n.id HN.out.sid _).mono ?_; rintro e w' ⟨rfl, rfl⟩; rw [HI.out]))
  have hM := marked_any n w1 (HN.out.below H01.out)
  rw [Nd.val_eq] at hM
  refine hM.mono ?_
  rintro e w2 ⟨rfl, hb2⟩
  have h02 := H01.out.trans (hb2.mono H01.out.size)
  have H02 := Lib.hid h02
  clear hM hb2 h02
  go_wp2_with fail
  go_ret
  exact ⟨rfl, H02.out⟩

set_option maxRecDepth 100000 in
theorem rightB_w (n : Nd) (h : emB n.tag = true) : rightB n = (textB n.tx && (emB n.id && (decide (n.cl = 0) && decide (n.al = 0)))) := by unfold rightB; rw [if_pos h]
set_option maxRecDepth 100000 in
theorem rightB_e (n : Nd) (h : emB n.tag = false) : rightB n = (nameB n.tag && ((emB n.id || nameB n.id) && (emB n.tx && mkB n))) := by unfold rightB; rw [if_neg (by rw [h]; decide)]

set_option maxRecDepth 100000 in
theorem right_any (n : Nd) (w : World) (hn : NdIn w n) : Calls Try.prog 24 #[.agg n.val] w fun e w' => e = .returned (.bool (rightB n)) ∧ Below w.heap.size w w' := by
  cases ht : emB n.tag with
  | true =>
    rw [rightB_w n ht]
    cases hx : textB n.tx with
    | false => exact right_w1 n w hn ht hx
    | true =>
      cases hi : emB n.id with
      | false => exact right_w2 n w hn ht hx hi
      | true =>
        by_cases hc : n.cl = 0
        · rw [decide_eq_true hc]; exact right_w4 n w hn ht hx hi hc
        · rw [decide_eq_false hc]; exact right_w3 n w hn ht hx hi hc
  | false =>
    rw [rightB_e n ht]
    cases hg : nameB n.tag with
    | false => exact right_e1 n w hn ht hg
    | true =>
      cases he : emB n.id with
      | true =>
        cases hx : emB n.tx with
        | false => exact right_e3 n w hn ht hg he hx
        | true => exact right_e5 n w hn ht hg he hx
      | false =>
        cases hi : nameB n.id with
        | false => exact right_e2 n w hn ht hg he hi
        | true =>
          cases hx : emB n.tx with
          | false => exact right_e4 n w hn ht hg he hi hx
          | true => exact right_e6 n w hn ht hg he hi hx
end Go.Proofs.Ytijhneadfagehaa
