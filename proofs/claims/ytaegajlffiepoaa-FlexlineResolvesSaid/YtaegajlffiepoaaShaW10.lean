/- The walks of layer 2: places are picked. -/
import Derived.Test.YtaegajlffiepoaaShaW8
import Derived.Test.YtaegajlffiepoaaShaW9
namespace Go.Proofs.Ytaegajlffiepoaa
open Go.RowKit FixM ShaD ShaM Go.Sort

/-- the row of noughts that a make lays -/
def mk0 (w : World) (n : Nat) : World := w.alloc (.cells (madeCells #[.int .i64 0] n) 3)

theorem madeCells_get (n i : Nat) (h : i < n) : (madeCells #[Value.int .i64 0] n)[i]? = some (.int .i64 0) := by
  unfold madeCells
  simp [h, Nat.mod_one]
theorem mk0_holds (w : World) (n : Nat) : Holds (Value.int .i64) (mk0 w n) w.heap.size 0 (Array.replicate n 0) := by
  intro j hj
  have hj' : j < n := by simpa using hj
  unfold mk0
  rw [Nat.zero_add]
  refine ⟨?_, by simp⟩
  rw [World.cell?_alloc_at _ _ _ _ rfl, madeCells_get n j hj']
  simp [hj']
theorem RW_below (w : World) (n : Nat) (d : Array Int) (m : Nat) : Below w.heap.size w (RW (mk0 w n) w.heap.size d m) := by
  refine ⟨rfl, rfl, rfl, ?_, fun k hk => ?_⟩
  · show w.heap.size ≤ (Array.modify _ _ _).size
    rw [Array.size_modify]
    show w.heap.size ≤ (w.heap.push _).size
    rw [Array.size_push]; omega
  · show (Array.modify _ _ _)[k]? = _
    rw [Array.getElem?_modify, if_neg (by omega)]
    show (w.heap.push _)[k]? = _
    rw [Array.getElem?_push, if_neg (by omega)]
theorem RW_set (w : World) (blk : Nat) (d : Array Int) (i : Nat) (x : Int) (hi : i < d.size) : (RW w blk d 0).setCell ⟨blk, i, none⟩ (.int .i64 x) = RW w blk (d.setIfInBounds i x) 0 := by
  have := putRow_set (Value.int .i64) w blk 0 d i x hi
  rw [Nat.zero_add] at this
  exact this

theorem info_int : (Try.prog.info? 3).map (fun i => (i.zero, i.size, i.bytes)) = some (some (.int .i64 0), 1, 8) := by kernel_rfl
theorem make_ints (n : Nat) (h : n ≤ 1000) (u : World) : (Instr.makeSlice 25 (.int .i64 (n : Int)) (.int .i64 (n : Int))).run Try.prog u = .ok (.slice (some ⟨u.heap.size, 0, none⟩) n n) (mk0 u n) := by
  obtain ⟨i0, hi, hz0, hz1, hz2⟩ := info_parts info_int
  have h := run_make (P := Try.prog) u 25 3 i0 (.int .i64 0) Try.underlying25 hi hz0 .i64 .i64 (n : Int) (n : Int) (by omega) (Int.le_refl _) (by rw [hz2]; omega) (by omega)
  simpa [hz1, Value.cells, mk0] using h

set_option maxRecDepth 100000 in
set_option maxHeartbeats 1000000 in
theorem pick_any (few n g : Nat) (cb : Array Value) (cf : Int → Int → Int) (LT : Int → Int → Prop) (w : World) (hn : n ≤ 1000) (hf : few ≤ n)
    (eg : ∀ args w, (callFunc g args).run Try.prog w = .ok (.enter g args) w) (hO : Ord LT) (hcf : ∀ x y, y < x → (cf x y < 0 ↔ LT x y))
    (hc : ∀ W, Below w.heap.size w W → ∀ x y : Int, 0 ≤ y → y < x → x < n → Calls Try.prog g (#[.int .i64 x, .int .i64 y] ++ cb) W fun e w' => e = .returned (.int .i64 (cf x y)) ∧ ∃ q, w' = W.drewN q) :
    Calls Try.prog 63 #[.int .i64 few, .int .i64 n, .func (.func g) #[] cb] w fun e w' =>
      e = .returned (.slice (some ⟨w.heap.size, 0, none⟩) few n) ∧ ∃ d' m', d'.size = n ∧ Rng n d' ∧ (∀ i j, i < j → j < n → d'[i]! ≠ d'[j]!) ∧ Srt LT 0 n d' ∧ RW (mk0 w n) w.heap.size d' m' = w' := by
  have hmk := make_ints n hn
  have hcmp : CmpOK (mk0 w n) w.heap.size n g cb cf := fun d m x y _ h1 h2 h3 => hc _ (RW_below w n d m) x y h1 h2 h3
  have HO := Lib.hid hO
  have HCF := Lib.hid hcf
  have HCM := Lib.hid hcmp
  have H0 := Lib.hid (mk0_holds w n)
  clear hO hcf hcmp hc
  go_enter Try.func63, Try.ntmps63
  go_wp2_with fail
  clear hmk
  go_loopw [13] (fun vi wr => ∃ (k : Nat) (dk : Array Int), vi = .int .i64 k ∧ k ≤ n ∧ wr = RW (mk0 w n) w.heap.size dk 0 ∧ Hid (dk.size = n) ∧ Hid (∀ j, j < k → dk[j]! = (j : Int))) (fun vi _ => n - (intOf vi).toNat)
  case atStart => exact ⟨0, Array.replicate n 0, rfl, by omega, (by
    have := putRow_self (Value.int .i64) (mk0 w n) w.heap.size 0 (Array.replicate n 0) H0.out
    show mk0 w n = (putRow _ _ _ _ _).drewN 0
    rw [this]; rfl), by simp [Hid], fun j h => by omega⟩
  case round =>
    obtain ⟨k, dk, rfl, hk, rfl, HSK, HI⟩ := hrel
    by_cases hlt : k < n
    · obtain ⟨ck, fk⟩ := RW_cells H0.out (by rw [HSK.out]; simp) 0 k (show k < dk.size by rw [HSK.out]; exact hlt)
      have hst := RW_set (mk0 w n) w.heap.size dk k (k : Int) (by rw [HSK.out]; exact hlt)
      have hltz : (k : Int) < (n : Int) := by omega
      have HST := Lib.hid hst
      clear hst
      generalize hwq : RW (mk0 w n) w.heap.size dk 0 = wq at ck fk ⊢
      have HWQ := Lib.hid hwq
      clear hwq
      go_wp2_with fail
      go_roundw
      case rel =>
        refine ⟨k + 1, dk.setIfInBounds k (k : Int), by go_num, by omega, ?_, by show _ = _; rw [Array.size_setIfInBounds]; exact HSK.out, fun j hj => ?_⟩
        · have e := HST.out
          rw [HWQ.out] at e
          exact e
        · by_cases c : j = k
          · rw [c, getElem!_set_same _ _ _ (by rw [HSK.out]; exact hlt)]
          · rw [getElem!_set_other _ _ _ _ c]; exact HI.out j (by omega)
      case measure => simp [intOf]; omega
    · have hkn : k = n := by omega
      have hsz : dk.size = (Array.replicate n (0 : Int)).size := by rw [HSK.out]; simp
      have c := sortStable_any (mk0 w n) w.heap.size n g cb cf LT (Array.replicate n 0) dk 0 eg HO.out HCF.out (by rw [Array.size_replicate]; exact HCM.out) H0.out hsz (by rw [Array.size_replicate]; omega) (fun i hi => HI.out i (by rw [HSK.out] at hi; omega))
      rw [Array.size_replicate, HSK.out] at c
      have C := Lib.hid c
      have hI : ∀ j, j < n → dk[j]! = (j : Int) := fun j hj => HI.out j (by omega)
      have HJ := Lib.hid hI
      have fz : (few : Int) ≤ (n : Int) := by omega
      clear c hsz hI hkn
      go_wp2_with fail
      refine C.out.mono ?_
      rintro x w' ⟨rfl, d', m', hm, hs, rfl⟩
      have r1 : d'.size = n := hm.size.trans HSK.out
      have r2 : Rng n d' := hm.rng (Nat.le_refl _) (fun j hj => by rw [HJ.out j hj]; omega)
      have r3 : ∀ i j, i < j → j < n → d'[i]! ≠ d'[j]! := fun i j h1 h2 => hm.inj (fun p q _ p2 p3 => by rw [HJ.out p (by omega), HJ.out q p3]; omega) i j (Nat.zero_le _) h1 h2
      have R1 := Lib.hid r1
      have R2 := Lib.hid r2
      have R3 := Lib.hid r3
      have R4 := Lib.hid hs
      clear hm hs r1 r2 r3
      go_wp2_with fail
      go_ret
      first | exact ⟨rfl, d', m', R1.out, R2.out, R3.out, R4.out, rfl⟩ | exact ⟨rfl, d', R1.out, R2.out, R3.out, R4.out, m', rfl⟩
end Go.Proofs.Ytaegajlffiepoaa
