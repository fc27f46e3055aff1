/- The walks of layer 4's reference: nodes held against each other. -/
import Derived.Test.YtlnglpjmfoigmaaTreK
import Derived.StillTailTactics
import Derived.Laws.StructEq
namespace Go.Proofs.Ytlnglpjmfoigmaa
open Go.RowKit TreN TreP

set_option maxRecDepth 100000 in
theorem str_eq (x : ByteArray) : (x.toList == x.toList) = true := by simp

set_option maxRecDepth 100000 in
set_option maxHeartbeats 1000000 in
theorem SameTexts_eq (a a2 : Option Addr) (n c c2 : Nat) (f g : Nat → ByteArray) (w : World) (hl : n ≤ 100000) (h1 : Strs w a n f) (h2 : Strs w a2 n g) (he : ∀ i, i < n → f i = g i) :
    Calls Try.prog 64 #[.slice a n c, .slice a2 n c2] w fun e w' => e = .returned (.bool true) ∧ ∃ q, w' = w.drewN q := by
  have H1 := Lib.hid h1
  have H2 := Lib.hid h2
  have HE := Lib.hid he
  clear h1 h2 he
  go_enter Try.func64, Try.ntmps64
  go_wp2_with fail
  go_loopw [5] (fun vi wr => ∃ k q : Nat, vi = .int .i64 k ∧ k ≤ n ∧ wr = w.drewN q) (fun vi _ => n - (intOf vi).toNat)
  case atStart => exact ⟨0, 0, rfl, by omega, rfl⟩
  case round =>
    obtain ⟨k, q, rfl, hk, rfl⟩ := hrel
    by_cases hlt : k < n
    · have hltz : (k : Int) < (n : Int) := by omega
      obtain ⟨b1, o1, rfl, c1⟩ : ∃ b off, a = some ⟨b, off, none⟩ ∧ w.cell? ⟨b, off + k, none⟩ = some (.string (f k)) := by
        rcases H1.out with e | ⟨b, off, e, _, hc⟩
        · omega
        · exact ⟨b, off, e, hc k hlt⟩
      obtain ⟨b2, o2, rfl, c2'⟩ : ∃ b off, a2 = some ⟨b, off, none⟩ ∧ w.cell? ⟨b, off + k, none⟩ = some (.string (g k)) := by
        rcases H2.out with e | ⟨b, off, e, _, hc⟩
        · omega
        · exact ⟨b, off, e, hc k hlt⟩
      rw [← HE.out k hlt] at c2'
      obtain ⟨y, hy⟩ : ∃ y, f k = y := ⟨_, rfl⟩
      rw [hy] at c1 c2'
      clear hy
      have d1 : (w.drewN q).cell? ⟨b1, o1 + k, none⟩ = some (.string y) := c1
      have d2 : (w.drewN q).cell? ⟨b2, o2 + k, none⟩ = some (.string y) := c2'
      clear c1 c2'
      have hse := str_eq y
      generalize hwq : w.drewN q = wq at d1 d2 ⊢
      have HW := Lib.hid hwq
      clear hwq
      go_wp2_with fail
      go_quiet (fail)
      go_wp2_with fail
      go_roundw
      case rel => exact ⟨k + 1, q + nq, by go_num, by omega, by rw [← HW.out, World.drewN_drewN]⟩
      case measure => simp [intOf]; omega
    · go_wp2_with fail
      go_ret
      exact ⟨rfl, q, rfl⟩

/-- two nodes are the same but their Parents -/
structure Eqn (A B : Nd) : Prop where
  tag : B.tag = A.tag
  id : B.id = A.id
  tx : B.tx = A.tx
  cl : B.cl = A.cl
  al : B.al = A.al
  cs : ∀ i, i < A.cl → B.cs i = A.cs i
  an : ∀ i, i < A.al → B.an i = A.an i
  av : ∀ i, i < A.al → B.av i = A.av i

set_option maxRecDepth 100000 in
theorem att_same (x y : ByteArray) (w : World) : (binOp .neq 67 (.agg #[.string x, .string y]) (.agg #[.string x, .string y])).run Try.prog w = .ok (.bool false) w := by
  rw [run_neq_struct, run_equalIn_agg w 9999 67 _ _ (by kernel_rfl) (by kernel_rfl)]
  have hf : Try.prog.fieldsOf 67 = (match Try.prog.underlying 67 with | some (.struct fs) => fs | _ => #[]) := rfl
  rw [hf, Try.underlying67]
  have p1 : ∀ (w : World), (part 9 #[.string x, .string y] 0).run Try.prog w = .ok (.string x) w := fun w => by kernel_rfl
  have p2 : ∀ (w : World), (part 9 #[.string x, .string y] 1).run Try.prog w = .ok (.string y) w := fun w => by kernel_rfl
  simp only [Op.eqFields, Sem.run_ite, Sem.run_bind, p1, p2, Result.andThen_ok, run_equalIn_string w 9998 9 x x Try.underlying9, run_equalIn_string w 9998 9 y y Try.underlying9]
  simp

set_option maxRecDepth 100000 in
set_option maxHeartbeats 4000000 in
theorem Like_eq (A B : Nd) (w : World) (hA : NdIn w A) (hB : NdIn w B) (he : Eqn A B) (h8 : A.cl ≤ 8) (h8' : A.al ≤ 8) :
    Calls Try.prog 56 #[.agg A.val, .agg B.val] w fun e w' => e = .returned (.bool true) ∧ Below w.heap.size w w' := by
  have hvB : B.val = #[.int .i64 B.par, .string A.tag, .string A.id, .slice B.ca A.cl B.cc, .slice B.aa A.al B.ac, .string A.tx] := by rw [Nd.val_eq, he.tag, he.id, he.tx, he.cl, he.al]
  obtain ⟨b0, b1, b2, b3, b4, b5⟩ := boxed_box w A
  obtain ⟨d0, d1, d2, d3, d4, d5⟩ := boxed_box (boxed w A) B
  have HBX := Lib.hid (boxed_box w A)
  have hbd := (boxed_box w A).below (boxed_below (boxed w A) B) (boxed_size w A)
  obtain ⟨c0, c1, c2, c3, c4, c5⟩ := hbd
  rw [he.tag] at d1
  rw [he.id] at d2
  rw [he.tx] at d5
  rw [he.cl] at d3
  rw [he.al] at d4
  have hbel : Below w.heap.size w (boxed (boxed w A) B) := (boxed_below w A).trans ((boxed_below (boxed w A) B).mono (boxed_below w A).size)
  have hbx : ((w.alloc (.cells #[.int .i64 A.par, .string A.tag, .string A.id, .slice A.ca A.cl A.cc, .slice A.aa A.al A.ac, .string A.tx] 39)).alloc (.cells #[.int .i64 B.par, .string A.tag, .string A.id, .slice B.ca A.cl B.cc, .slice B.aa A.al B.ac, .string A.tx] 39)) = boxed (boxed w A) B := by
    unfold boxed; rw [he.tag, he.id, he.tx, he.cl, he.al]
  have hs2 : (boxed w A).heap.size = w.heap.size + 1 := by unfold boxed; simp
  rw [hs2] at d0 d1 d2 d3 d4 d5
  clear b0 b1 b2 b3 b4 b5
  have hB2 : Strs w B.ca A.cl B.cs := by have := hB.hc; rw [he.cl] at this; exact this
  have hB3 : Atts w B.aa A.al B.an B.av := by have := hB.ha; rw [he.al] at this; exact this
  have CS := Lib.hid (SameTexts_eq A.ca B.ca A.cl A.cc B.cc A.cs B.cs (boxed (boxed w A) B) (by omega) (hA.hc.below hbel) (hB2.below hbel) (fun i hi => (he.cs i hi).symm))
  have HE := Lib.hid he
  have HA2 := Lib.hid (hA.ha.below hbel)
  have HB2 := Lib.hid (hB3.below hbel)
  have HBEL := Lib.hid hbel
  have e1 := str_eq A.tag
  have e2 := str_eq A.id
  have e3 := str_eq A.tx
  rw [hvB, Nd.val_eq]
  generalize boxed (boxed w A) B = wb at *
  clear hA hB he hvB hB2 hB3 hbel hs2 c0 d0
  go_enter Try.func56, Try.ntmps56
  go_wp2_with fail
  clear hbx c1 c2 c5 d1 d2 d5 e1 e2 e3
  refine CS.out.mono ?_
  rintro e w1 ⟨rfl, q, rfl⟩
  have c4' : (wb.drewN q).cell? ⟨w.heap.size, 4, none⟩ = some (.slice A.aa A.al A.ac) := c4
  have d4' : (wb.drewN q).cell? ⟨w.heap.size + 1, 4, none⟩ = some (.slice B.aa A.al B.ac) := d4
  have HA3 : Hid (Atts (wb.drewN q) A.aa A.al A.an A.av) := HA2
  have HB3 : Hid (Atts (wb.drewN q) B.aa A.al B.an B.av) := HB2
  have HBL := Lib.hid (below_drewN' HBEL.out q)
  clear c3 c4 d3 d4 CS HA2 HB2
  generalize wb.drewN q = w1 at c4' d4' HA3 HB3 HBL ⊢
  go_wp2_with fail
  have HC4 := Lib.hid c4'
  have HD4 := Lib.hid d4'
  clear c4' d4'
  go_loopw [5] (fun vi wr => ∃ k q : Nat, vi = .int .i64 k ∧ k ≤ A.al ∧ wr = w1.drewN q) (fun vi _ => A.al - (intOf vi).toNat)
  case atStart => exact ⟨0, 0, rfl, by omega, rfl⟩
  case round =>
    obtain ⟨k, q, rfl, hk, rfl⟩ := hrel
    have f4 : (w1.drewN q).cell? ⟨w.heap.size, 4, none⟩ = some (.slice A.aa A.al A.ac) := HC4.out
    have g4 : (w1.drewN q).cell? ⟨w.heap.size + 1, 4, none⟩ = some (.slice B.aa A.al B.ac) := HD4.out
    by_cases hlt : k < A.al
    · have hltz : (k : Int) < (A.al : Int) := by omega
      obtain ⟨b1, o1, ha1, c1, c2⟩ : ∃ b off, A.aa = some ⟨b, off, none⟩ ∧ w1.cell? ⟨b, off + k * 2, none⟩ = some (.string (A.an k)) ∧ w1.cell? ⟨b, off + k * 2 + 1, none⟩ = some (.string (A.av k)) := by
        rcases HA3.out with e | ⟨b, off, e, _, hc⟩
        · omega
        · exact ⟨b, off, e, hc k hlt⟩
      obtain ⟨b2, o2, ha2, c3, c4⟩ : ∃ b off, B.aa = some ⟨b, off, none⟩ ∧ w1.cell? ⟨b, off + k * 2, none⟩ = some (.string (A.an k)) ∧ w1.cell? ⟨b, off + k * 2 + 1, none⟩ = some (.string (A.av k)) := by
        rcases HB3.out with e | ⟨b, off, e, _, hc⟩
        · omega
        · have := hc k hlt
          rw [HE.out.an k hlt, HE.out.av k hlt] at this
          exact ⟨b, off, e, this⟩
      rw [ha1] at f4
      rw [ha2] at g4
      obtain ⟨x, hx⟩ : ∃ x, A.an k = x := ⟨_, rfl⟩
      obtain ⟨y, hy⟩ : ∃ y, A.av k = y := ⟨_, rfl⟩
      rw [hx] at c1 c3
      rw [hy] at c2 c4
      have hsame : ∀ w : World, (binOp .neq 67 (.agg #[.string x, .string y]) (.agg #[.string x, .string y])).run Try.prog w = .ok (.bool false) w := fun w => att_same x y w
      have k1 : (w1.drewN q).cell? ⟨b1, o1 + k * 2, none⟩ = some (.string x) := c1
      have k2 : (w1.drewN q).cell? ⟨b1, o1 + k * 2 + 1, none⟩ = some (.string y) := c2
      have k3 : (w1.drewN q).cell? ⟨b2, o2 + k * 2, none⟩ = some (.string x) := c3
      have k4 : (w1.drewN q).cell? ⟨b2, o2 + k * 2 + 1, none⟩ = some (.string y) := c4
      clear c1 c2 c3 c4 hx hy ha1 ha2
      generalize hwq : w1.drewN q = wq at f4 g4 k1 k2 k3 k4 ⊢
      have HW := Lib.hid hwq
      clear hwq
      go_wp2_with fail
      go_quiet (fail)
      go_wp2_with fail
      go_roundw
      case rel => exact ⟨k + 1, q + nq, by go_num, by omega, by rw [← HW.out, World.drewN_drewN]⟩
      case measure => simp [intOf]; omega
    · have hltz : ¬ (k : Int) < (A.al : Int) := by omega
      go_wp2_with fail
      go_ret
      exact ⟨rfl, below_drewN' HBL.out q⟩
end Go.Proofs.Ytlnglpjmfoigmaa
