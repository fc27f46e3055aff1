/- The walks of layer 2: lists held against each other; what must come of fixed calls. -/
import Derived.Test.YtaegajlffiepoaaShaW12
namespace Go.Proofs.Ytaegajlffiepoaa
open Go.RowKit FixM ShaD ShaM Go.Sort

set_option maxRecDepth 100000 in
set_option maxHeartbeats 1000000 in
theorem Ints_yes (n b o cap b2 o2 cap2 : Nat) (f g : Nat → Int) (w : World) (hn : n ≤ 1000) (hf : ∀ i, i < n → w.cell? ⟨b, o + i, none⟩ = some (.int .i64 (f i))) (hg : ∀ i, i < n → w.cell? ⟨b2, o2 + i, none⟩ = some (.int .i64 (g i))) (he : ∀ i, i < n → f i = g i) :
    Calls Try.prog 14 #[.slice (some ⟨b, o, none⟩) n cap, .slice (some ⟨b2, o2, none⟩) n cap2] w fun e w' => e = .returned (.bool true) ∧ ∃ q, w' = w.drewN q := by
  have HF := Lib.hid hf
  have HG := Lib.hid hg
  have HE := Lib.hid he
  clear hf hg he
  go_enter Try.func14, Try.ntmps14
  go_wp2_with fail
  go_loopw [5] (fun vi wr => ∃ k q : Nat, vi = .int .i64 k ∧ k ≤ n ∧ wr = w.drewN q) (fun vi _ => n - (intOf vi).toNat)
  case atStart => exact ⟨0, 0, rfl, by omega, rfl⟩
  case round =>
    obtain ⟨k, q, rfl, hk, rfl⟩ := hrel
    by_cases hlt : k < n
    · have hltz : (k : Int) < (n : Int) := by omega
      have c1 := HF.out k hlt
      have c2 := HG.out k hlt
      rw [HE.out k hlt] at c1
      have c1' : (w.drewN q).cell? ⟨b, o + k, none⟩ = some (.int .i64 (g k)) := c1
      have c2' : (w.drewN q).cell? ⟨b2, o2 + k, none⟩ = some (.int .i64 (g k)) := c2
      clear c1 c2
      generalize hwq : w.drewN q = wq at c1' c2' ⊢
      have HW := Lib.hid hwq
      clear hwq
      go_wp2_with fail
      go_quiet (fail)
      go_wp2_with fail
      go_roundw
      case rel => exact ⟨k + 1, q + nq, by go_num, by omega, by rw [← HW.out, World.drewN_drewN]⟩
      case measure => simp [intOf]; omega
    · go_wp2_with fail
      go_ret
      exact ⟨rfl, q, rfl⟩

theorem below_drewNS' {B : Nat} {a w : World} (h : Below B a w) (q : Nat) : Below B a (w.drewN q) := ⟨h.os, h.tape, h.output, h.size, h.block⟩

end Go.Proofs.Ytaegajlffiepoaa
