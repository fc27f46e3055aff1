/- Layer 20, the code: a case's frame. (Written by gen_sizc1.py.) -/
import Derived.Test.YthfabalnioggcaaSizW3
import Derived.Deep.DeepCutAuto
namespace Go.Proofs.Ythfabalnioggcaa
open Go.RowKit TreN LexP FixP SynP ValP PropP FixM
set_option linter.unusedVariables false

def Cz.auto (c : Cz) (i : Nat) : Bool := c.z (14 + i * 2) == 0
def frameL (c : Cz) : List Value := [.int .i64 (c.mar 0), .int .i64 (c.mar 1), .int .i64 (c.mar 2), .int .i64 (c.mar 3), .bool (c.auto 0), .bool (c.auto 1), .bool (c.auto 2), .bool (c.auto 3), .int .i64 (c.pad 0), .int .i64 (c.pad 1), .int .i64 (c.pad 2), .int .i64 (c.pad 3), .int .i64 (c.edge 0), .int .i64 (c.edge 1), .int .i64 (c.edge 2), .int .i64 (c.edge 3)]
def zero16 : List Value := [.int .i64 0, .int .i64 0, .int .i64 0, .int .i64 0, .bool false, .bool false, .bool false, .bool false, .int .i64 0, .int .i64 0, .int .i64 0, .int .i64 0, .int .i64 0, .int .i64 0, .int .i64 0, .int .i64 0]
def frS (c : Cz) : Nat → List Value
  | 0 => zero16
  | k + 1 => ((((frS c k).set k (.int .i64 (c.mar k))).set (4 + k) (.bool (c.auto k))).set (8 + k) (.int .i64 (c.pad k))).set (12 + k) (.int .i64 (c.edge k))
theorem frS_4 (c : Cz) : frS c 4 = frameL c := rfl
theorem frameL_len (c : Cz) : (frameL c).length = 16 := rfl
theorem frameL_one (c : Cz) : ∀ v, v ∈ frameL c → v.oneCell' = true := by
  intro v hv
  unfold frameL at hv
  simp only [List.mem_cons, List.not_mem_nil, or_false] at hv
  repeat' (rcases hv with rfl | hv; · rfl)
theorem size20f : (Try.prog.info? 32).map (·.size) = some 16 := by kernel_rfl
/-- a frame under way -/
structure Fx (w W : World) (b b2 bf : Nat) (As Fs : List Value) : Prop where
  bx : Bx w W b As
  fr : W.rangeAt bf 0 Fs
  fth : W.there bf 0 16
  rth : W.there b2 0 16
  lf : bf < W.heap.size
  l2 : b2 < W.heap.size
  hf : w.heap.size ≤ bf
  h2 : w.heap.size ≤ b2
  n1 : bf ≠ b
theorem Fx.call {w W W' : World} {b b2 bf : Nat} {As Fs : List Value} (h : Fx w W b b2 bf As Fs) (hb : Below W.heap.size W W') : Fx w W' b b2 bf As Fs :=
  ⟨h.bx.call hb, rangeS_below h.fr hb h.lf, thereS_below h.fth hb h.lf, thereS_below h.rth hb h.l2, Nat.lt_of_lt_of_le h.lf hb.size, Nat.lt_of_lt_of_le h.l2 hb.size, h.hf, h.h2, h.n1⟩
theorem Fx.drew {w W : World} {b b2 bf : Nat} {As Fs : List Value} (h : Fx w W b b2 bf As Fs) : Fx w W.drew b b2 bf As Fs := h.call (Below.refl _ _).drew
theorem Fx.set {w W : World} {b b2 bf : Nat} {As Fs : List Value} (h : Fx w W b b2 bf As Fs) (j : Nat) (v : Value) : Fx w (W.setCell ⟨bf, j, none⟩ v) b b2 bf As (Fs.set j v) :=
  ⟨⟨h.bx.bel.setCell (p := ⟨bf, j, none⟩) h.hf v, rangeS_other h.bx.rng h.n1 j v, by simpa using h.bx.lt⟩, rangeS_set h.fr j v, thereS_set h.fth j v, thereS_set h.rth j v, by simpa using h.lf, by simpa using h.l2, h.hf, h.h2, h.n1⟩
theorem Fx.c {w W : World} {b b2 bf : Nat} {As Fs : List Value} (h : Fx w W b b2 bf As Fs) (i : Nat) (hi : i < 16) : ∃ v, W.cell? ⟨bf, i, none⟩ = some v ∧ W.frozen? ⟨bf, i, none⟩ = false := by
  have := h.fth i hi
  rw [Nat.zero_add] at this
  obtain ⟨v, hv⟩ := Option.isSome_iff_exists.1 this.1
  exact ⟨v, hv, this.2⟩
theorem resultsF {fn : Func} {p : Tmp} (h : fn.results = #[.cell p 32]) (tmps : Array Value) (w : World) (b : Nat) (As : List Value) (hl : As.length = 16) (hp : tmps.getD p undef = .pointer (some ⟨b, 0, none⟩)) (hr : w.rangeAt b 0 As) :
    (results fn tmps).run Try.prog w = .ok (.agg As.toArray) w := by
  have hv := run_loadVar_mid (P := Try.prog) w b 0 32 As _ hr Try.underlying32 rfl (by rw [size20f, hl])
  have hp' : tmps[p]?.getD undef = .pointer (some ⟨b, 0, none⟩) := by simpa using hp
  simp [results, h, hp', asAddr, hv]
set_option maxRecDepth 100000 in
set_option maxHeartbeats 2000000 in
theorem Of20_any (c : Cz) (w : World) : Calls Try.prog 9 #[.agg (caseL c).toArray] w fun e w' => e = .returned (.agg (frameL c).toArray) ∧ Below w.heap.size w w' := by
  have HAL := Lib.hid (caseL_len c)
  have HCE := Lib.hid (fun i h => caseL_at c i h)
  have hx := Bx.new w (caseL c) 29
  generalize caseL c = As at *
  have hal := HAL.out
  have hF4 := frS_4 c
  have hFl := frameL_len c
  have HFO := Lib.hid (frameL_one c)
  generalize frameL c = Fs at *
  have hs1 : (w.alloc (.cells As.toArray 29)).heap.size = w.heap.size + 1 := by simp
  have hs2 : ((w.alloc (.cells As.toArray 29)).alloc (.cells #[.int .i64 0, .int .i64 0, .int .i64 0, .int .i64 0, .bool false, .bool false, .bool false, .bool false, .int .i64 0, .int .i64 0, .int .i64 0, .int .i64 0, .int .i64 0, .int .i64 0, .int .i64 0, .int .i64 0] 32)).heap.size = w.heap.size + 1 + 1 := by simp
  have hs3 : (((w.alloc (.cells As.toArray 29)).alloc (.cells #[.int .i64 0, .int .i64 0, .int .i64 0, .int .i64 0, .bool false, .bool false, .bool false, .bool false, .int .i64 0, .int .i64 0, .int .i64 0, .int .i64 0, .int .i64 0, .int .i64 0, .int .i64 0, .int .i64 0] 32)).alloc (.cells #[.int .i64 0, .int .i64 0, .int .i64 0, .int .i64 0, .bool false, .bool false, .bool false, .bool false, .int .i64 0, .int .i64 0, .int .i64 0, .int .i64 0, .int .i64 0, .int .i64 0, .int .i64 0, .int .i64 0] 32)).heap.size = w.heap.size + 1 + 1 + 1 := by simp
  have hb1 := below_one7h (w.alloc (.cells As.toArray 29)) (.cells #[.int .i64 0, .int .i64 0, .int .i64 0, .int .i64 0, .bool false, .bool false, .bool false, .bool false, .int .i64 0, .int .i64 0, .int .i64 0, .int .i64 0, .int .i64 0, .int .i64 0, .int .i64 0, .int .i64 0] 32)
  have hb2 := below_one7h ((w.alloc (.cells As.toArray 29)).alloc (.cells #[.int .i64 0, .int .i64 0, .int .i64 0, .int .i64 0, .bool false, .bool false, .bool false, .bool false, .int .i64 0, .int .i64 0, .int .i64 0, .int .i64 0, .int .i64 0, .int .i64 0, .int .i64 0, .int .i64 0] 32)) (.cells #[.int .i64 0, .int .i64 0, .int .i64 0, .int .i64 0, .bool false, .bool false, .bool false, .bool false, .int .i64 0, .int .i64 0, .int .i64 0, .int .i64 0, .int .i64 0, .int .i64 0, .int .i64 0, .int .i64 0] 32)
  have t1 : ((w.alloc (.cells As.toArray 29)).alloc (.cells #[.int .i64 0, .int .i64 0, .int .i64 0, .int .i64 0, .bool false, .bool false, .bool false, .bool false, .int .i64 0, .int .i64 0, .int .i64 0, .int .i64 0, .int .i64 0, .int .i64 0, .int .i64 0, .int .i64 0] 32)).there (w.alloc (.cells As.toArray 29)).heap.size 0 16 := thereS_of_block (heap_alloc_new (w.alloc (.cells As.toArray 29)) (.cells #[.int .i64 0, .int .i64 0, .int .i64 0, .int .i64 0, .bool false, .bool false, .bool false, .bool false, .int .i64 0, .int .i64 0, .int .i64 0, .int .i64 0, .int .i64 0, .int .i64 0, .int .i64 0, .int .i64 0] 32))
  have t2 : (((w.alloc (.cells As.toArray 29)).alloc (.cells #[.int .i64 0, .int .i64 0, .int .i64 0, .int .i64 0, .bool false, .bool false, .bool false, .bool false, .int .i64 0, .int .i64 0, .int .i64 0, .int .i64 0, .int .i64 0, .int .i64 0, .int .i64 0, .int .i64 0] 32)).alloc (.cells #[.int .i64 0, .int .i64 0, .int .i64 0, .int .i64 0, .bool false, .bool false, .bool false, .bool false, .int .i64 0, .int .i64 0, .int .i64 0, .int .i64 0, .int .i64 0, .int .i64 0, .int .i64 0, .int .i64 0] 32)).there ((w.alloc (.cells As.toArray 29)).alloc (.cells #[.int .i64 0, .int .i64 0, .int .i64 0, .int .i64 0, .bool false, .bool false, .bool false, .bool false, .int .i64 0, .int .i64 0, .int .i64 0, .int .i64 0, .int .i64 0, .int .i64 0, .int .i64 0, .int .i64 0] 32)).heap.size 0 16 := thereS_of_block (heap_alloc_new ((w.alloc (.cells As.toArray 29)).alloc (.cells #[.int .i64 0, .int .i64 0, .int .i64 0, .int .i64 0, .bool false, .bool false, .bool false, .bool false, .int .i64 0, .int .i64 0, .int .i64 0, .int .i64 0, .int .i64 0, .int .i64 0, .int .i64 0, .int .i64 0] 32)) (.cells #[.int .i64 0, .int .i64 0, .int .i64 0, .int .i64 0, .bool false, .bool false, .bool false, .bool false, .int .i64 0, .int .i64 0, .int .i64 0, .int .i64 0, .int .i64 0, .int .i64 0, .int .i64 0, .int .i64 0] 32))
  have r2 : (((w.alloc (.cells As.toArray 29)).alloc (.cells #[.int .i64 0, .int .i64 0, .int .i64 0, .int .i64 0, .bool false, .bool false, .bool false, .bool false, .int .i64 0, .int .i64 0, .int .i64 0, .int .i64 0, .int .i64 0, .int .i64 0, .int .i64 0, .int .i64 0] 32)).alloc (.cells #[.int .i64 0, .int .i64 0, .int .i64 0, .int .i64 0, .bool false, .bool false, .bool false, .bool false, .int .i64 0, .int .i64 0, .int .i64 0, .int .i64 0, .int .i64 0, .int .i64 0, .int .i64 0, .int .i64 0] 32)).rangeAt ((w.alloc (.cells As.toArray 29)).alloc (.cells #[.int .i64 0, .int .i64 0, .int .i64 0, .int .i64 0, .bool false, .bool false, .bool false, .bool false, .int .i64 0, .int .i64 0, .int .i64 0, .int .i64 0, .int .i64 0, .int .i64 0, .int .i64 0, .int .i64 0] 32)).heap.size 0 zero16 := rangeS_of_block (As := zero16) (heap_alloc_new ((w.alloc (.cells As.toArray 29)).alloc (.cells #[.int .i64 0, .int .i64 0, .int .i64 0, .int .i64 0, .bool false, .bool false, .bool false, .bool false, .int .i64 0, .int .i64 0, .int .i64 0, .int .i64 0, .int .i64 0, .int .i64 0, .int .i64 0, .int .i64 0] 32)) (.cells #[.int .i64 0, .int .i64 0, .int .i64 0, .int .i64 0, .bool false, .bool false, .bool false, .bool false, .int .i64 0, .int .i64 0, .int .i64 0, .int .i64 0, .int .i64 0, .int .i64 0, .int .i64 0, .int .i64 0] 32))
  have t1' := thereS_below t1 hb2 (by omega)
  have hx2 := (hx.call hb1).call hb2
  rw [hs1] at t1'
  rw [hs2] at t2 r2
  have hfx : Fx w (((w.alloc (.cells As.toArray 29)).alloc (.cells #[.int .i64 0, .int .i64 0, .int .i64 0, .int .i64 0, .bool false, .bool false, .bool false, .bool false, .int .i64 0, .int .i64 0, .int .i64 0, .int .i64 0, .int .i64 0, .int .i64 0, .int .i64 0, .int .i64 0] 32)).alloc (.cells #[.int .i64 0, .int .i64 0, .int .i64 0, .int .i64 0, .bool false, .bool false, .bool false, .bool false, .int .i64 0, .int .i64 0, .int .i64 0, .int .i64 0, .int .i64 0, .int .i64 0, .int .i64 0, .int .i64 0] 32)) w.heap.size (w.heap.size + 1) (w.heap.size + 1 + 1) As zero16 := ⟨hx2, r2, t2, t1', by omega, by omega, by omega, by omega, by omega⟩
  clear hs1 hs2 hs3 hb1 hb2 t1 t2 r2 t1' hx2 hx
  go_enter Try.func9, Try.ntmps9
  go_upto_region 2 with fail
  obtain ⟨W1, hW⟩ : ∃ W, (((w.alloc (.cells As.toArray 29)).alloc (.cells #[.int .i64 0, .int .i64 0, .int .i64 0, .int .i64 0, .bool false, .bool false, .bool false, .bool false, .int .i64 0, .int .i64 0, .int .i64 0, .int .i64 0, .int .i64 0, .int .i64 0, .int .i64 0, .int .i64 0] 32)).alloc (.cells #[.int .i64 0, .int .i64 0, .int .i64 0, .int .i64 0, .bool false, .bool false, .bool false, .bool false, .int .i64 0, .int .i64 0, .int .i64 0, .int .i64 0, .int .i64 0, .int .i64 0, .int .i64 0, .int .i64 0] 32)) = W := ⟨_, rfl⟩
  rw [hW] at hfx ⊢
  clear hW
  obtain ⟨bf, hbf⟩ : ∃ x, w.heap.size + 1 + 1 = x := ⟨_, rfl⟩
  obtain ⟨br, hbr⟩ : ∃ x, w.heap.size + 1 = x := ⟨_, rfl⟩
  obtain ⟨b, hb⟩ : ∃ b, w.heap.size = b := ⟨_, rfl⟩
  rw [hbf, hbr, hb] at hfx
  rw [hbf, hbr, hb]
  have HF : Hid (Fx w W1 b br bf As (frS c 0)) := Lib.hid hfx
  clear hfx hbf hbr
  have CL := Lib.hid (fun k n a W => length_any k n a W)
  go_wp2_with fail
  go_loopw [6] (fun vi wr => ∃ k : Nat, vi = .int .i64 k ∧ k ≤ 4 ∧ Hid (Fx w wr b br bf As (frS c k))) (fun vi _ => 4 - (intOf vi).toNat)
  case atStart => exact ⟨0, rfl, by omega, HF⟩
  case round =>
    clear HF
    obtain ⟨k, rfl, hk, HF⟩ := hrel
    by_cases hlt : k < 4
    · have hlt4 : k = 0 ∨ k = 1 ∨ k = 2 ∨ k = 3 := by omega
      clear hlt hk
      rcases hlt4 with rfl | rfl | rfl | rfl
      · have q14 : wr.cell? ⟨b, 14, none⟩ = some (.int .i64 (c.z 14)) := HF.out.bx.at_ 14 _ (HCE.out 14 (by decide))
        have q15 : wr.cell? ⟨b, 15, none⟩ = some (.int .i64 (c.z 15)) := HF.out.bx.at_ 15 _ (HCE.out 15 (by decide))
        go_upto_region 6 with fail
        clear q14 q15
        have hz := heap_alloc_new wr (.cells #[.int .i64 (c.z 14), .int .i64 (c.z 15)] 23)
        have HN := Lib.hid (HF.out.call (below_one7h wr (.cells #[.int .i64 (c.z 14), .int .i64 (c.z 15)] 23)))
        obtain ⟨X1, hW⟩ : ∃ X, wr.alloc (.cells #[.int .i64 (c.z 14), .int .i64 (c.z 15)] 23) = X := ⟨_, rfl⟩
        rw [hW] at hz HN ⊢
        clear hW
        have hnz : wr.heap.size ≠ bf := by have := HF.out.lf; omega
        obtain ⟨bz, hbz⟩ : ∃ x, wr.heap.size = x := ⟨_, rfl⟩
        rw [hbz] at hz hnz ⊢
        clear HF hbz
        have HF := HN
        clear HN
        have HZ := Lib.hid hz
        have HNZ := Lib.hid hnz
        clear hz hnz
        have z0 := cell_of (k := 0) HZ.out rfl
        have z1 := cell_of (k := 1) HZ.out rfl
        have q55 : X1.cell? ⟨b, 55, none⟩ = some (.int .i64 c.av) := HF.out.bx.at_ 55 _ (HCE.out 55 (by decide))
        go_wp2_with fail
        refine (CL.out _ _ _ _).mono ?_
        rintro e X2 ⟨rfl, hb2⟩
        have HY := Lib.hid ((hb2.block bz (Array.getElem?_eq_some_iff.1 HZ.out).1).trans HZ.out)
        have HN := Lib.hid (HF.out.call hb2)
        clear hb2 z0 z1 q55 HF HZ
        have HF := HN
        have HZ := HY
        clear HN HY
        obtain ⟨v0, c0, f0⟩ := HF.out.c 0 (by decide)
        go_upto_region 7 with fail
        clear c0 f0 v0
        have HN := Lib.hid (HF.out.set 0 (.int .i64 (worthZ (c.z 14) (c.z 15) c.av)))
        obtain ⟨X3, hW⟩ : ∃ X, X2.setCell ⟨bf, 0, none⟩ (.int .i64 (worthZ (c.z 14) (c.z 15) c.av)) = X := ⟨_, rfl⟩
        rw [hW] at HN ⊢
        have HY : Hid (X3.heap[bz]? = some (.cells #[.int .i64 (c.z 14), .int .i64 (c.z 15)] 23 (0, 0))) := Lib.hid (by rw [← hW]; exact (heap_setCell_other _ _ _ _ HNZ.out).trans HZ.out)
        clear HZ
        have HZ := HY
        clear HY
        clear hW HF
        have HF := HN
        clear HN
        have z0 := cell_of (k := 0) HZ.out rfl
        obtain ⟨v0, c0, f0⟩ := HF.out.c 4 (by decide)
        go_upto_region 8 with fail
        clear c0 f0 v0 z0
        have HN := Lib.hid (HF.out.set 4 (.bool (c.z 14 == 0)))
        obtain ⟨X4, hW⟩ : ∃ X, X3.setCell ⟨bf, 4, none⟩ (.bool (c.z 14 == 0)) = X := ⟨_, rfl⟩
        rw [hW] at HN ⊢
        clear hW HF
        have HF := HN
        clear HN
        clear HZ HNZ
        have q22 : X4.drew.cell? ⟨b, 22, none⟩ = some (.int .i64 (c.z 22)) := HF.out.bx.at_ 22 _ (HCE.out 22 (by decide))
        have q23 : X4.drew.cell? ⟨b, 23, none⟩ = some (.int .i64 (c.z 23)) := HF.out.bx.at_ 23 _ (HCE.out 23 (by decide))
        have q55 : X4.drew.cell? ⟨b, 55, none⟩ = some (.int .i64 c.av) := HF.out.bx.at_ 55 _ (HCE.out 55 (by decide))
        have HFD := Lib.hid HF.out.drew
        clear HF
        go_region_with (go_at_call 32; refine (CL.out _ _ _ _).mono ?_; rintro e X5 ⟨rfl, hb2⟩; have HF5 := Lib.hid (HFD.out.call hb2); clear hb2; obtain ⟨v5, c5, f5⟩ := HF5.out.c 8 (by decide))
        all_goals
          clear c5 f5 v5 q22 q23 q55 HFD
          have HF := HF5
          clear HF5
          rw [show max 0 (worthZ (c.z 22) (c.z 23) c.av) = c.pad 0 from Int.max_comm _ _]
          have HN := Lib.hid (HF.out.set 8 (.int .i64 (c.pad 0)))
          obtain ⟨X6, hW⟩ : ∃ X, X5.setCell ⟨bf, 8, none⟩ (.int .i64 (c.pad 0)) = X := ⟨_, rfl⟩
          rw [hW] at HN ⊢
          clear hW HF
          have HF := HN
          clear HN
          have q30 : X6.cell? ⟨b, 30, none⟩ = some (.int .i64 (c.z 30)) := HF.out.bx.at_ 30 _ (HCE.out 30 (by decide))
          obtain ⟨v0, c0, f0⟩ := HF.out.c 12 (by decide)
          go_upto_region 10 with (go_at_call 33; refine (Hold_any _ _).mono ?_; rintro e wq ⟨rfl, rfl⟩)
          clear c0 f0 v0 q30
          rw [show max 0 (H (c.z 30)) = c.edge 0 from Int.max_comm _ _]
          have HN := Lib.hid (HF.out.set 12 (.int .i64 (c.edge 0)))
          obtain ⟨X7, hW⟩ : ∃ X, X6.setCell ⟨bf, 12, none⟩ (.int .i64 (c.edge 0)) = X := ⟨_, rfl⟩
          rw [hW] at HN ⊢
          clear hW HF
          have HF := HN
          clear HN
          go_wp2_with fail
          go_roundw
          case rel => exact ⟨1, by first | rfl | go_num, by omega, HF⟩
          case measure => (simp [intOf] <;> omega)
      · have q16 : wr.cell? ⟨b, 16, none⟩ = some (.int .i64 (c.z 16)) := HF.out.bx.at_ 16 _ (HCE.out 16 (by decide))
        have q17 : wr.cell? ⟨b, 17, none⟩ = some (.int .i64 (c.z 17)) := HF.out.bx.at_ 17 _ (HCE.out 17 (by decide))
        go_upto_region 6 with fail
        clear q16 q17
        have hz := heap_alloc_new wr (.cells #[.int .i64 (c.z 16), .int .i64 (c.z 17)] 23)
        have HN := Lib.hid (HF.out.call (below_one7h wr (.cells #[.int .i64 (c.z 16), .int .i64 (c.z 17)] 23)))
        obtain ⟨X1, hW⟩ : ∃ X, wr.alloc (.cells #[.int .i64 (c.z 16), .int .i64 (c.z 17)] 23) = X := ⟨_, rfl⟩
        rw [hW] at hz HN ⊢
        clear hW
        have hnz : wr.heap.size ≠ bf := by have := HF.out.lf; omega
        obtain ⟨bz, hbz⟩ : ∃ x, wr.heap.size = x := ⟨_, rfl⟩
        rw [hbz] at hz hnz ⊢
        clear HF hbz
        have HF := HN
        clear HN
        have HZ := Lib.hid hz
        have HNZ := Lib.hid hnz
        clear hz hnz
        have z0 := cell_of (k := 0) HZ.out rfl
        have z1 := cell_of (k := 1) HZ.out rfl
        have q55 : X1.cell? ⟨b, 55, none⟩ = some (.int .i64 c.av) := HF.out.bx.at_ 55 _ (HCE.out 55 (by decide))
        go_wp2_with fail
        refine (CL.out _ _ _ _).mono ?_
        rintro e X2 ⟨rfl, hb2⟩
        have HY := Lib.hid ((hb2.block bz (Array.getElem?_eq_some_iff.1 HZ.out).1).trans HZ.out)
        have HN := Lib.hid (HF.out.call hb2)
        clear hb2 z0 z1 q55 HF HZ
        have HF := HN
        have HZ := HY
        clear HN HY
        obtain ⟨v0, c0, f0⟩ := HF.out.c 1 (by decide)
        go_upto_region 7 with fail
        clear c0 f0 v0
        have HN := Lib.hid (HF.out.set 1 (.int .i64 (worthZ (c.z 16) (c.z 17) c.av)))
        obtain ⟨X3, hW⟩ : ∃ X, X2.setCell ⟨bf, 1, none⟩ (.int .i64 (worthZ (c.z 16) (c.z 17) c.av)) = X := ⟨_, rfl⟩
        rw [hW] at HN ⊢
        have HY : Hid (X3.heap[bz]? = some (.cells #[.int .i64 (c.z 16), .int .i64 (c.z 17)] 23 (0, 0))) := Lib.hid (by rw [← hW]; exact (heap_setCell_other _ _ _ _ HNZ.out).trans HZ.out)
        clear HZ
        have HZ := HY
        clear HY
        clear hW HF
        have HF := HN
        clear HN
        have z0 := cell_of (k := 0) HZ.out rfl
        obtain ⟨v0, c0, f0⟩ := HF.out.c 5 (by decide)
        go_upto_region 8 with fail
        clear c0 f0 v0 z0
        have HN := Lib.hid (HF.out.set 5 (.bool (c.z 16 == 0)))
        obtain ⟨X4, hW⟩ : ∃ X, X3.setCell ⟨bf, 5, none⟩ (.bool (c.z 16 == 0)) = X := ⟨_, rfl⟩
        rw [hW] at HN ⊢
        clear hW HF
        have HF := HN
        clear HN
        clear HZ HNZ
        have q24 : X4.drew.cell? ⟨b, 24, none⟩ = some (.int .i64 (c.z 24)) := HF.out.bx.at_ 24 _ (HCE.out 24 (by decide))
        have q25 : X4.drew.cell? ⟨b, 25, none⟩ = some (.int .i64 (c.z 25)) := HF.out.bx.at_ 25 _ (HCE.out 25 (by decide))
        have q55 : X4.drew.cell? ⟨b, 55, none⟩ = some (.int .i64 c.av) := HF.out.bx.at_ 55 _ (HCE.out 55 (by decide))
        have HFD := Lib.hid HF.out.drew
        clear HF
        go_region_with (go_at_call 32; refine (CL.out _ _ _ _).mono ?_; rintro e X5 ⟨rfl, hb2⟩; have HF5 := Lib.hid (HFD.out.call hb2); clear hb2; obtain ⟨v5, c5, f5⟩ := HF5.out.c 9 (by decide))
        all_goals
          clear c5 f5 v5 q24 q25 q55 HFD
          have HF := HF5
          clear HF5
          rw [show max 0 (worthZ (c.z 24) (c.z 25) c.av) = c.pad 1 from Int.max_comm _ _]
          have HN := Lib.hid (HF.out.set 9 (.int .i64 (c.pad 1)))
          obtain ⟨X6, hW⟩ : ∃ X, X5.setCell ⟨bf, 9, none⟩ (.int .i64 (c.pad 1)) = X := ⟨_, rfl⟩
          rw [hW] at HN ⊢
          clear hW HF
          have HF := HN
          clear HN
          have q31 : X6.cell? ⟨b, 31, none⟩ = some (.int .i64 (c.z 31)) := HF.out.bx.at_ 31 _ (HCE.out 31 (by decide))
          obtain ⟨v0, c0, f0⟩ := HF.out.c 13 (by decide)
          go_upto_region 10 with (go_at_call 33; refine (Hold_any _ _).mono ?_; rintro e wq ⟨rfl, rfl⟩)
          clear c0 f0 v0 q31
          rw [show max 0 (H (c.z 31)) = c.edge 1 from Int.max_comm _ _]
          have HN := Lib.hid (HF.out.set 13 (.int .i64 (c.edge 1)))
          obtain ⟨X7, hW⟩ : ∃ X, X6.setCell ⟨bf, 13, none⟩ (.int .i64 (c.edge 1)) = X := ⟨_, rfl⟩
          rw [hW] at HN ⊢
          clear hW HF
          have HF := HN
          clear HN
          go_wp2_with fail
          go_roundw
          case rel => exact ⟨2, by first | rfl | go_num, by omega, HF⟩
          case measure => (simp [intOf] <;> omega)
      · have q18 : wr.cell? ⟨b, 18, none⟩ = some (.int .i64 (c.z 18)) := HF.out.bx.at_ 18 _ (HCE.out 18 (by decide))
        have q19 : wr.cell? ⟨b, 19, none⟩ = some (.int .i64 (c.z 19)) := HF.out.bx.at_ 19 _ (HCE.out 19 (by decide))
        go_upto_region 6 with fail
        clear q18 q19
        have hz := heap_alloc_new wr (.cells #[.int .i64 (c.z 18), .int .i64 (c.z 19)] 23)
        have HN := Lib.hid (HF.out.call (below_one7h wr (.cells #[.int .i64 (c.z 18), .int .i64 (c.z 19)] 23)))
        obtain ⟨X1, hW⟩ : ∃ X, wr.alloc (.cells #[.int .i64 (c.z 18), .int .i64 (c.z 19)] 23) = X := ⟨_, rfl⟩
        rw [hW] at hz HN ⊢
        clear hW
        have hnz : wr.heap.size ≠ bf := by have := HF.out.lf; omega
        obtain ⟨bz, hbz⟩ : ∃ x, wr.heap.size = x := ⟨_, rfl⟩
        rw [hbz] at hz hnz ⊢
        clear HF hbz
        have HF := HN
        clear HN
        have HZ := Lib.hid hz
        have HNZ := Lib.hid hnz
        clear hz hnz
        have z0 := cell_of (k := 0) HZ.out rfl
        have z1 := cell_of (k := 1) HZ.out rfl
        have q55 : X1.cell? ⟨b, 55, none⟩ = some (.int .i64 c.av) := HF.out.bx.at_ 55 _ (HCE.out 55 (by decide))
        go_wp2_with fail
        refine (CL.out _ _ _ _).mono ?_
        rintro e X2 ⟨rfl, hb2⟩
        have HY := Lib.hid ((hb2.block bz (Array.getElem?_eq_some_iff.1 HZ.out).1).trans HZ.out)
        have HN := Lib.hid (HF.out.call hb2)
        clear hb2 z0 z1 q55 HF HZ
        have HF := HN
        have HZ := HY
        clear HN HY
        obtain ⟨v0, c0, f0⟩ := HF.out.c 2 (by decide)
        go_upto_region 7 with fail
        clear c0 f0 v0
        have HN := Lib.hid (HF.out.set 2 (.int .i64 (worthZ (c.z 18) (c.z 19) c.av)))
        obtain ⟨X3, hW⟩ : ∃ X, X2.setCell ⟨bf, 2, none⟩ (.int .i64 (worthZ (c.z 18) (c.z 19) c.av)) = X := ⟨_, rfl⟩
        rw [hW] at HN ⊢
        have HY : Hid (X3.heap[bz]? = some (.cells #[.int .i64 (c.z 18), .int .i64 (c.z 19)] 23 (0, 0))) := Lib.hid (by rw [← hW]; exact (heap_setCell_other _ _ _ _ HNZ.out).trans HZ.out)
        clear HZ
        have HZ := HY
        clear HY
        clear hW HF
        have HF := HN
        clear HN
        have z0 := cell_of (k := 0) HZ.out rfl
        obtain ⟨v0, c0, f0⟩ := HF.out.c 6 (by decide)
        go_upto_region 8 with fail
        clear c0 f0 v0 z0
        have HN := Lib.hid (HF.out.set 6 (.bool (c.z 18 == 0)))
        obtain ⟨X4, hW⟩ : ∃ X, X3.setCell ⟨bf, 6, none⟩ (.bool (c.z 18 == 0)) = X := ⟨_, rfl⟩
        rw [hW] at HN ⊢
        clear hW HF
        have HF := HN
        clear HN
        clear HZ HNZ
        have q26 : X4.drew.cell? ⟨b, 26, none⟩ = some (.int .i64 (c.z 26)) := HF.out.bx.at_ 26 _ (HCE.out 26 (by decide))
        have q27 : X4.drew.cell? ⟨b, 27, none⟩ = some (.int .i64 (c.z 27)) := HF.out.bx.at_ 27 _ (HCE.out 27 (by decide))
        have q55 : X4.drew.cell? ⟨b, 55, none⟩ = some (.int .i64 c.av) := HF.out.bx.at_ 55 _ (HCE.out 55 (by decide))
        have HFD := Lib.hid HF.out.drew
        clear HF
        go_region_with (go_at_call 32; refine (CL.out _ _ _ _).mono ?_; rintro e X5 ⟨rfl, hb2⟩; have HF5 := Lib.hid (HFD.out.call hb2); clear hb2; obtain ⟨v5, c5, f5⟩ := HF5.out.c 10 (by decide))
        all_goals
          clear c5 f5 v5 q26 q27 q55 HFD
          have HF := HF5
          clear HF5
          rw [show max 0 (worthZ (c.z 26) (c.z 27) c.av) = c.pad 2 from Int.max_comm _ _]
          have HN := Lib.hid (HF.out.set 10 (.int .i64 (c.pad 2)))
          obtain ⟨X6, hW⟩ : ∃ X, X5.setCell ⟨bf, 10, none⟩ (.int .i64 (c.pad 2)) = X := ⟨_, rfl⟩
          rw [hW] at HN ⊢
          clear hW HF
          have HF := HN
          clear HN
          have q32 : X6.cell? ⟨b, 32, none⟩ = some (.int .i64 (c.z 32)) := HF.out.bx.at_ 32 _ (HCE.out 32 (by decide))
          obtain ⟨v0, c0, f0⟩ := HF.out.c 14 (by decide)
          go_upto_region 10 with (go_at_call 33; refine (Hold_any _ _).mono ?_; rintro e wq ⟨rfl, rfl⟩)
          clear c0 f0 v0 q32
          rw [show max 0 (H (c.z 32)) = c.edge 2 from Int.max_comm _ _]
          have HN := Lib.hid (HF.out.set 14 (.int .i64 (c.edge 2)))
          obtain ⟨X7, hW⟩ : ∃ X, X6.setCell ⟨bf, 14, none⟩ (.int .i64 (c.edge 2)) = X := ⟨_, rfl⟩
          rw [hW] at HN ⊢
          clear hW HF
          have HF := HN
          clear HN
          go_wp2_with fail
          go_roundw
          case rel => exact ⟨3, by first | rfl | go_num, by omega, HF⟩
          case measure => (simp [intOf] <;> omega)
      · have q20 : wr.cell? ⟨b, 20, none⟩ = some (.int .i64 (c.z 20)) := HF.out.bx.at_ 20 _ (HCE.out 20 (by decide))
        have q21 : wr.cell? ⟨b, 21, none⟩ = some (.int .i64 (c.z 21)) := HF.out.bx.at_ 21 _ (HCE.out 21 (by decide))
        go_upto_region 6 with fail
        clear q20 q21
        have hz := heap_alloc_new wr (.cells #[.int .i64 (c.z 20), .int .i64 (c.z 21)] 23)
        have HN := Lib.hid (HF.out.call (below_one7h wr (.cells #[.int .i64 (c.z 20), .int .i64 (c.z 21)] 23)))
        obtain ⟨X1, hW⟩ : ∃ X, wr.alloc (.cells #[.int .i64 (c.z 20), .int .i64 (c.z 21)] 23) = X := ⟨_, rfl⟩
        rw [hW] at hz HN ⊢
        clear hW
        have hnz : wr.heap.size ≠ bf := by have := HF.out.lf; omega
        obtain ⟨bz, hbz⟩ : ∃ x, wr.heap.size = x := ⟨_, rfl⟩
        rw [hbz] at hz hnz ⊢
        clear HF hbz
        have HF := HN
        clear HN
        have HZ := Lib.hid hz
        have HNZ := Lib.hid hnz
        clear hz hnz
        have z0 := cell_of (k := 0) HZ.out rfl
        have z1 := cell_of (k := 1) HZ.out rfl
        have q55 : X1.cell? ⟨b, 55, none⟩ = some (.int .i64 c.av) := HF.out.bx.at_ 55 _ (HCE.out 55 (by decide))
        go_wp2_with fail
        refine (CL.out _ _ _ _).mono ?_
        rintro e X2 ⟨rfl, hb2⟩
        have HY := Lib.hid ((hb2.block bz (Array.getElem?_eq_some_iff.1 HZ.out).1).trans HZ.out)
        have HN := Lib.hid (HF.out.call hb2)
        clear hb2 z0 z1 q55 HF HZ
        have HF := HN
        have HZ := HY
        clear HN HY
        obtain ⟨v0, c0, f0⟩ := HF.out.c 3 (by decide)
        go_upto_region 7 with fail
        clear c0 f0 v0
        have HN := Lib.hid (HF.out.set 3 (.int .i64 (worthZ (c.z 20) (c.z 21) c.av)))
        obtain ⟨X3, hW⟩ : ∃ X, X2.setCell ⟨bf, 3, none⟩ (.int .i64 (worthZ (c.z 20) (c.z 21) c.av)) = X := ⟨_, rfl⟩
        rw [hW] at HN ⊢
        have HY : Hid (X3.heap[bz]? = some (.cells #[.int .i64 (c.z 20), .int .i64 (c.z 21)] 23 (0, 0))) := Lib.hid (by rw [← hW]; exact (heap_setCell_other _ _ _ _ HNZ.out).trans HZ.out)
        clear HZ
        have HZ := HY
        clear HY
        clear hW HF
        have HF := HN
        clear HN
        have z0 := cell_of (k := 0) HZ.out rfl
        obtain ⟨v0, c0, f0⟩ := HF.out.c 7 (by decide)
        go_upto_region 8 with fail
        clear c0 f0 v0 z0
        have HN := Lib.hid (HF.out.set 7 (.bool (c.z 20 == 0)))
        obtain ⟨X4, hW⟩ : ∃ X, X3.setCell ⟨bf, 7, none⟩ (.bool (c.z 20 == 0)) = X := ⟨_, rfl⟩
        rw [hW] at HN ⊢
        clear hW HF
        have HF := HN
        clear HN
        clear HZ HNZ
        have q28 : X4.drew.cell? ⟨b, 28, none⟩ = some (.int .i64 (c.z 28)) := HF.out.bx.at_ 28 _ (HCE.out 28 (by decide))
        have q29 : X4.drew.cell? ⟨b, 29, none⟩ = some (.int .i64 (c.z 29)) := HF.out.bx.at_ 29 _ (HCE.out 29 (by decide))
        have q55 : X4.drew.cell? ⟨b, 55, none⟩ = some (.int .i64 c.av) := HF.out.bx.at_ 55 _ (HCE.out 55 (by decide))
        have HFD := Lib.hid HF.out.drew
        clear HF
        go_region_with (go_at_call 32; refine (CL.out _ _ _ _).mono ?_; rintro e X5 ⟨rfl, hb2⟩; have HF5 := Lib.hid (HFD.out.call hb2); clear hb2; obtain ⟨v5, c5, f5⟩ := HF5.out.c 11 (by decide))
        all_goals
          clear c5 f5 v5 q28 q29 q55 HFD
          have HF := HF5
          clear HF5
          rw [show max 0 (worthZ (c.z 28) (c.z 29) c.av) = c.pad 3 from Int.max_comm _ _]
          have HN := Lib.hid (HF.out.set 11 (.int .i64 (c.pad 3)))
          obtain ⟨X6, hW⟩ : ∃ X, X5.setCell ⟨bf, 11, none⟩ (.int .i64 (c.pad 3)) = X := ⟨_, rfl⟩
          rw [hW] at HN ⊢
          clear hW HF
          have HF := HN
          clear HN
          have q33 : X6.cell? ⟨b, 33, none⟩ = some (.int .i64 (c.z 33)) := HF.out.bx.at_ 33 _ (HCE.out 33 (by decide))
          obtain ⟨v0, c0, f0⟩ := HF.out.c 15 (by decide)
          go_upto_region 10 with (go_at_call 33; refine (Hold_any _ _).mono ?_; rintro e wq ⟨rfl, rfl⟩)
          clear c0 f0 v0 q33
          rw [show max 0 (H (c.z 33)) = c.edge 3 from Int.max_comm _ _]
          have HN := Lib.hid (HF.out.set 15 (.int .i64 (c.edge 3)))
          obtain ⟨X7, hW⟩ : ∃ X, X6.setCell ⟨bf, 15, none⟩ (.int .i64 (c.edge 3)) = X := ⟨_, rfl⟩
          rw [hW] at HN ⊢
          clear hW HF
          have HF := HN
          clear HN
          go_wp2_with fail
          go_roundw
          case rel => exact ⟨4, by first | rfl | go_num, by omega, HF⟩
          case measure => (simp [intOf] <;> omega)
    · have hk4 : k = 4 := by omega
      subst hk4
      clear hlt hk
      rw [hF4] at HF
      go_upto_region 11 with fail
      have hFz : Fs.toArray.size = 16 := by simpa using hFl
      refine wp_region_lit ?_
      refine wpList_load_mid rfl 32 _ rfl bf 0 rfl Fs _ HF.out.fr Try.underlying32 rfl (by rw [size20f, hFl]) ?_
      refine wpList_store_mid rfl 32 _ _ rfl br 0 Fs.toArray (by kernel_rfl) (by kernel_rfl) (by rw [hFz]; exact HF.out.rth) (by rw [hFz]; exact size20f) (all_oneCell_toArray HFO.out) ?_
      have hrr := World.rangeAt_setCells_same wr br 0 Fs (by rw [hFl]; exact HF.out.rth)
      have hbf := belowS_setCells HF.out.bx.bel br HF.out.h2 Fs 0
      have e55 : Fs.toArray.toList = Fs := rfl
      rw [e55]
      generalize wr.setCells br 0 Fs = wf at *
      clear HF e55
      go_wp2_with fail
      exact bodyPost_ret (resultsF rfl _ _ br Fs hFl (by kernel_rfl) hrr) rfl ⟨rfl, hbf⟩
end Go.Proofs.Ythfabalnioggcaa
