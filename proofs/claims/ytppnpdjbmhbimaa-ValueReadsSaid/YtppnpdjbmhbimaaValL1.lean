/- Layer 9: the law ValueReads. -/
import Derived.Test.YtppnpdjbmhbimaaValR4
import Derived.Test.YtppnpdjbmhbimaaValK
namespace Go.Proofs.Ytppnpdjbmhbimaa
open Go.RowKit TreN LexP FixP SynP ValP FixM
set_option linter.unusedVariables false

theorem pv_len : ∀ (f : Nat) (l : List Tok) (vs : List Val), pv f l = some vs → vs.length ≤ l.length
  | 0, _, _, h => by cases h
  | f + 1, l, vs, h => by
    unfold pv at h
    split at h
    · cases h
    · rename_i h0
      have hq := readV_le l
      split at h
      · cases hp : pv f (bs (l.drop (readV l).2)) with
        | none => rw [hp] at h; cases h
        | some z =>
          rw [hp] at h
          injection h with h
          subst h
          have h1 := pv_len f _ z hp
          have h2 := bs_len (l.drop (readV l).2)
          rw [List.length_drop] at h2
          simp only [List.length_cons]
          omega
      · split at h
        · injection h with h
          subst h
          simp only [List.length_singleton]; omega
        · cases h
theorem parseV_len {l : List Tok} {vs : List Val} (h : parseV l = some vs) : vs.length ≤ l.length := Nat.le_trans (pv_len _ _ _ h) (trm_len l)

set_option maxRecDepth 100000 in
theorem few9_any (a : Option Addr) (n cap : Nat) (w : World) (hm : n ≤ maxLen) :
    Calls Try.prog 20 #[.slice a n cap] w fun e w' => e = .returned (.bool (decide (n ≤ 300))) ∧ w' = w := by
  unfold maxLen at hm
  by_cases h : n ≤ 300
  · have hz : (n : Int) ≤ 300 := by omega
    have hd : decide (n ≤ 300) = true := decide_eq_true h
    rw [hd]
    clear hd
    go_enter Try.func20, Try.ntmps20
    go_wp2_with fail
    go_ret
    exact ⟨rfl, rfl⟩
  · have hz : ¬ (n : Int) ≤ 300 := by omega
    have hd : decide (n ≤ 300) = false := decide_eq_false h
    rw [hd]
    clear hd
    go_enter Try.func20, Try.ntmps20
    go_wp2_with fail
    go_ret
    exact ⟨rfl, rfl⟩

end Go.Proofs.Ytppnpdjbmhbimaa
