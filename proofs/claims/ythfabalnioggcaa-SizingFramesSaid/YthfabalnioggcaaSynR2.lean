/- Layer 6's reference: Trim, Loud, Broken, Top. -/
import Derived.Test.YthfabalnioggcaaSynR1
import Derived.Test.YthfabalnioggcaaSynUa
namespace Go.Proofs.Ythfabalnioggcaa
open Go.RowKit TreN LexP FixP SynP
set_option linter.unusedVariables false

theorem isSp_t {t : Tok} (h : t.kind = 20) : isSp t = true := by unfold isSp; rw [decide_eq_true h]
theorem isSp_f {t : Tok} (h : ¬ t.kind = 20) : isSp t = false := by unfold isSp; rw [decide_eq_false h]
theorem bs_sp {t : Tok} {r : List Tok} (h : t.kind = 20) : bs (t :: r) = bs r := by
  show (t :: r).dropWhile isSp = r.dropWhile isSp
  rw [List.dropWhile_cons, if_pos (isSp_t h)]
theorem bs_no {t : Tok} {r : List Tok} (h : ¬ t.kind = 20) : bs (t :: r) = t :: r := by
  show (t :: r).dropWhile isSp = t :: r
  rw [List.dropWhile_cons, if_neg (by rw [isSp_f h]; simp)]
theorem trm_sp {t : Tok} {r : List Tok} (h : t.kind = 20) : trm (t :: r) = trm r := by unfold trm; rw [bs_sp h]
theorem es_sp {m : List Tok} {u : Tok} (h : u.kind = 20) : es (m ++ [u]) = es m := by rw [es_snoc, if_pos (isSp_t h)]
theorem es_no {m : List Tok} {u : Tok} (h : ¬ u.kind = 20) : es (m ++ [u]) = m ++ [u] := by rw [es_snoc, if_neg (by rw [isSp_f h]; simp)]
theorem trm_last {t u : Tok} {m : List Tok} (h : ¬ t.kind = 20) (h2 : u.kind = 20) : trm (t :: m ++ [u]) = trm (t :: m) := by
  unfold trm
  rw [List.cons_append, bs_no h, bs_no h, ← List.cons_append, es_sp h2]
theorem trm_keep {t u : Tok} {r m : List Tok} (h : ¬ t.kind = 20) (h2 : ¬ u.kind = 20) (e : t :: r = m ++ [u]) : trm (t :: r) = t :: r := by
  unfold trm
  rw [bs_no h, e, es_no h2]

/-- what a call answers: a piece of its list, whatever the world -/
def SlPc (a : Option Addr) (l m : List Tok) (e : Ending) : Prop := ∃ a2 c2, e = .returned (.slice a2 m.length c2) ∧ m.length ≤ c2 ∧ c2 ≤ maxLen ∧ ∀ W : World, Tks W a l → Tks W a2 m

end Go.Proofs.Ythfabalnioggcaa
