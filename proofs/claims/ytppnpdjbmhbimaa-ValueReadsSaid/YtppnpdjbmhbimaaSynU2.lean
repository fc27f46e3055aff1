/- Joined texts: SynW3 SynW4. -/
import Derived.Test.YtppnpdjbmhbimaaSynU1
import Derived.WalkSmall
namespace Go.Proofs.Ytppnpdjbmhbimaa
open Go.RowKit TreN LexP FixP SynP
set_option linter.unusedVariables false

theorem info_intS : (Try.prog.info? 3).map (fun i => (i.zero, i.size, i.bytes)) = some (some (.int .i64 0), 1, 8) := by kernel_rfl
theorem tkcs_newsI (w : World) (c : Int) {g : Nat} (h : w.heap[g]? = some (.cells #[.int .i64 c] 3 (0, 0))) : ∀ (j : Nat) (u : Value), ([.int .i64 c] : List Value)[j]? = some u → w.cell? ((⟨g, 0, none⟩ : Addr).add j) = some u := by
  intro j u hj
  rcases j with _ | j
  · simp at hj; subst hj
    rw [Addr.add_lit]
    exact cell_of h rfl
  · simp at hj
/-- where the search for what closes stands -/
def MtAt (l : List Tok) (i k : Nat) (aw : List Int) : Prop := (aw = [] → k = i) ∧ mtc l i = (match mt (l.drop k) aw with | some d => k + d | none => l.length)
theorem MtAt.start {l : List Tok} {i : Nat} (h : i < l.length) (hc : clo l[i].kind ≠ 0) : MtAt l i i [] := by
  refine ⟨fun _ => rfl, ?_⟩
  rw [List.drop_eq_getElem_cons h, mt_open hc, mtc_lpR h hc]
  unfold lpR
  cases mt (l.drop (i + 1)) [clo l[i].kind] with
  | none => rfl
  | some d => show i + 1 + d = i + (d + 1); omega
theorem MtAt.map {l : List Tok} {i k : Nat} {o : Option Nat} : (match o.map (· + 1) with | some d => k + d | none => l.length) = (match o with | some d => k + 1 + d | none => l.length) := by
  cases o with
  | none => rfl
  | some d => show k + (d + 1) = k + 1 + d; omega
theorem MtAt.opened {l : List Tok} {i k : Nat} {aw : List Int} (h : MtAt l i k aw) (hk : k < l.length) (hc : clo l[k].kind ≠ 0) : MtAt l i (k + 1) (clo l[k].kind :: aw) := by
  refine ⟨(fun h => nomatch h), ?_⟩
  have h2 := h.2
  rw [List.drop_eq_getElem_cons hk, mt_open hc, MtAt.map (i := i)] at h2
  exact h2
theorem MtAt.passed {l : List Tok} {i k : Nat} {c : Int} {aw : List Int} (h : MtAt l i k (c :: aw)) (hk : k < l.length) (hc : clo l[k].kind = 0) (hn : l[k].kind ≠ c) : MtAt l i (k + 1) (c :: aw) := by
  refine ⟨(fun h => nomatch h), ?_⟩
  have h2 := h.2
  rw [List.drop_eq_getElem_cons hk, mt_other hc _ hn, MtAt.map (i := i)] at h2
  exact h2
theorem MtAt.closed {l : List Tok} {i k : Nat} {c : Int} {aw : List Int} (h : MtAt l i k (c :: aw)) (hk : k < l.length) (hc : clo l[k].kind = 0) (hn : l[k].kind = c) (ha : aw ≠ []) : MtAt l i (k + 1) aw := by
  refine ⟨fun h => absurd h ha, ?_⟩
  have h2 := h.2
  subst hn
  rw [List.drop_eq_getElem_cons hk, mt_close hc _ ha, MtAt.map (i := i)] at h2
  exact h2
theorem MtAt.found {l : List Tok} {i k : Nat} {c : Int} (h : MtAt l i k [c]) (hk : k < l.length) (hc : clo l[k].kind = 0) (hn : l[k].kind = c) : mtc l i = k := by
  have h2 := h.2
  subst hn
  rw [List.drop_eq_getElem_cons hk, mt_last hc] at h2
  exact h2
theorem MtAt.over {l : List Tok} {i k : Nat} {aw : List Int} (h : MtAt l i k aw) (hk : l.length ≤ k) : mtc l i = l.length := by
  have h2 := h.2
  rw [List.drop_of_length_le hk] at h2
  cases aw <;> exact h2

end Go.Proofs.Ytppnpdjbmhbimaa

namespace Go.Proofs.Ytppnpdjbmhbimaa
open Go.RowKit TreN LexP FixP SynP
set_option linter.unusedVariables false

end Go.Proofs.Ytppnpdjbmhbimaa
