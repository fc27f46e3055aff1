/- The walks of layer 2: how the library's stable sort moves a row: two pieces exchanged. -/
import Derived.Test.YtaegajlffiepoaaProg
import Derived.Test.YtaegajlffiepoaaShaM
import Derived.Sort.WalkC
import Derived.WalkKit
import Derived.WalkSpells
import Derived.BigRegion
import Derived.BigQuiet
import Derived.Deep.QuietTactic
import Derived.Deep.LoopGhost
import Derived.Lib.Hide
namespace Go.Proofs.Ytaegajlffiepoaa
open Go.RowKit Go.Sort ShaM

/-- the row's world: it holds d, so many draws on -/
def RW (w : World) (blk : Nat) (d : Array Int) (m : Nat) : World := (putRow (Value.int .i64) w blk 0 d).drewN m

theorem RW_cells {w : World} {blk : Nat} {d0 d : Array Int} (h0 : Holds (Value.int .i64) w blk 0 d0) (hs : d.size = d0.size) (m i : Nat) (hi : i < d.size) :
    (RW w blk d m).cell? ⟨blk, i, none⟩ = some (.int .i64 d[i]!) ∧ (RW w blk d m).frozen? ⟨blk, i, none⟩ = false := by
  have h := holds_putRow (Value.int .i64) w blk 0 d0 d h0 hs i hi
  rw [Nat.zero_add] at h
  exact h
theorem RW_swap {w : World} {blk : Nat} {d : Array Int} (m i j : Nat) (hi : i < d.size) (hj : j < d.size) :
    (((RW w blk d m).setCell ⟨blk, i, none⟩ (.int .i64 d[j]!)).setCell ⟨blk, j, none⟩ (.int .i64 d[i]!)).drew = RW w blk (swp d i j) (m + 1) := by
  have h := swap_worldC (Value.int .i64) w blk 0 d m i j hi hj
  simp only [Nat.zero_add] at h
  exact h

set_option maxRecDepth 100000 in
set_option maxHeartbeats 1000000 in
theorem swapRange_any (w : World) (blk cap a b k : Nat) (g : Nat) (cb : Array Value) (d0 d : Array Int) (m : Nat) (h0 : Holds (Value.int .i64) w blk 0 d0) (hs : d.size = d0.size)
    (hak : a + k ≤ d.size) (hbk : b + k ≤ d.size) (hsz : d.size < 4611686018427387904) (hab : a ≠ b) :
    Calls Try.prog 70 #[.slice (some ⟨blk, 0, none⟩) d0.size cap, .int .i64 a, .int .i64 b, .int .i64 k, .func (.func g) #[] cb] (RW w blk d m) fun e w' =>
      e = .returned (.tuple #[]) ∧ ∃ m', RW w blk (swr a b d k) m' = w' := by
  have H0 := Lib.hid h0
  have HS := Lib.hid hs
  clear h0 hs
  go_enter Try.func70, Try.ntmps70
  go_wp2_with fail
  go_loopw [10] (fun vi wr => ∃ i mi : Nat, vi = .int .i64 i ∧ i ≤ k ∧ wr = RW w blk (swr a b d i) mi) (fun vi _ => k - (intOf vi).toNat)
  case atStart => exact ⟨0, m, rfl, by omega, rfl⟩
  case round =>
    obtain ⟨i, mi, rfl, hik, rfl⟩ := hrel
    by_cases hlt : i < k
    · have hsd := swr_size a b d i
      obtain ⟨dk, hdk⟩ : ∃ dk, swr a b d i = dk := ⟨_, rfl⟩
      rw [hdk] at hsd ⊢
      have ha := RW_cells H0.out (hsd.trans HS.out) mi (a + i) (by omega)
      have hb := RW_cells H0.out (hsd.trans HS.out) mi (b + i) (by omega)
      have hsw := RW_swap (w := w) (blk := blk) mi (a + i) (b + i) (show a + i < dk.size by omega) (show b + i < dk.size by omega)
      have hd0 : d0.size = d.size := HS.out.symm
      have HSW := Lib.hid hsw
      have HDK := Lib.hid hdk
      have HD0 := Lib.hid hd0
      clear hsw hdk hd0
      obtain ⟨xa, hxa⟩ : ∃ x, dk[a + i]! = x := ⟨_, rfl⟩
      obtain ⟨xb, hxb⟩ : ∃ x, dk[b + i]! = x := ⟨_, rfl⟩
      rw [hxa] at ha
      rw [hxb] at hb
      have HXA := Lib.hid hxa
      have HXB := Lib.hid hxb
      obtain ⟨ca, fa⟩ := ha
      obtain ⟨cb', fb⟩ := hb
      obtain ⟨ja, hja⟩ : ∃ j, j = a + i := ⟨_, rfl⟩
      obtain ⟨jb, hjb⟩ : ∃ j, j = b + i := ⟨_, rfl⟩
      rw [← hja] at ca fa
      rw [← hjb] at cb' fb
      have q1 : (a : Int) + (i : Int) = (ja : Int) := by omega
      have q2 : (b : Int) + (i : Int) = (jb : Int) := by omega
      have r1 : (ja : Int) < (d0.size : Int) := by rw [HD0.out]; omega
      have r2 : (jb : Int) < (d0.size : Int) := by rw [HD0.out]; omega
      have hne : ja ≠ jb := by omega
      have s1 : IntKind.i64.wrap (ja : Int) = (ja : Int) := IntWalk.i64_in _ (by omega)
      have s2 : IntKind.i64.wrap (jb : Int) = (jb : Int) := IntWalk.i64_in _ (by omega)
      have HJA := Lib.hid hja
      have HJB := Lib.hid hjb
      clear hja hjb hxa hxb
      have hz : (i : Int) < (k : Int) := by omega
      generalize hwq : RW w blk dk mi = wq at ca fa cb' fb ⊢
      have HWQ := Lib.hid hwq
      clear hwq
      go_wp2_with fail
      go_big_region
      go_wp2_with fail
      go_roundw
      case rel =>
        refine ⟨i + 1, mi + 1, by go_num, by omega, ?_⟩
        have e := HSW.out
        rw [HXA.out, HXB.out, ← HJA.out, ← HJB.out, HWQ.out] at e
        rw [e]
        show RW w blk (swp dk ja jb) (mi + 1) = RW w blk (swp (swr a b d i) (a + i) (b + i)) (mi + 1)
        rw [HDK.out, HJA.out, HJB.out]
      case measure => simp [intOf]; omega
    · have hik' : i = k := by omega
      have HE := Lib.hid hik'
      clear hik'
      go_wp2_with fail
      go_end0
      have e := HE.out
      subst e
      exact ⟨rfl, mi, rfl⟩
theorem swapRange_at (w : World) (blk cap : Nat) (ai bi ki : Int) (a b k : Nat) (ha : ai = a) (hb : bi = b) (hk : ki = k) (g : Nat) (cb : Array Value) (d0 d : Array Int) (m : Nat) (h0 : Holds (Value.int .i64) w blk 0 d0) (hs : d.size = d0.size)
    (hak : a + k ≤ d.size) (hbk : b + k ≤ d.size) (hsz : d.size < 4611686018427387904) (hab : a ≠ b) :
    Calls Try.prog 70 #[.slice (some ⟨blk, 0, none⟩) d0.size cap, .int .i64 ai, .int .i64 bi, .int .i64 ki, .func (.func g) #[] cb] (RW w blk d m) fun e w' =>
      e = .returned (.tuple #[]) ∧ ∃ m', RW w blk (swr a b d k) m' = w' := by
  subst ha hb hk
  exact swapRange_any w blk cap a b k g cb d0 d m h0 hs hak hbk hsz hab
end Go.Proofs.Ytaegajlffiepoaa
