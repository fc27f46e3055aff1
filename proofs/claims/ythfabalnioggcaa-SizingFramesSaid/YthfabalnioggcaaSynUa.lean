/- Joined texts: SynU2 SynW5. -/
import Derived.Test.YthfabalnioggcaaSynU1
import Derived.WalkSmall
namespace Go.Proofs.Ythfabalnioggcaa
open Go.RowKit TreN LexP FixP SynP
set_option linter.unusedVariables false

theorem info_intS : (Try.prog.info? 3).map (fun i => (i.zero, i.size, i.bytes)) = some (some (.int .i64 0), 1, 8) := by kernel_rfl
theorem tkcs_newsI (w : World) (c : Int) {g : Nat} (h : w.heap[g]? = some (.cells #[.int .i64 c] 3 (0, 0))) : ∀ (j : Nat) (u : Value), ([.int .i64 c] : List Value)[j]? = some u → w.cell? ((⟨g, 0, none⟩ : Addr).add j) = some u := by
  intro j u hj
  rcases j with _ | j
  · simp at hj; subst hj
    rw [Addr.add_lit]
    exact cell_of h rfl
  · simp at hj
/-- where the search for what closes stands -/
def MtAt (l : List Tok) (i k : Nat) (aw : List Int) : Prop := (aw = [] → k = i) ∧ mtc l i = (match mt (l.drop k) aw with | some d => k + d | none => l.length)
theorem MtAt.start {l : List Tok} {i : Nat} (h : i < l.length) (hc : clo l[i].kind ≠ 0) : MtAt l i i [] := by
  refine ⟨fun _ => rfl, ?_⟩
  rw [List.drop_eq_getElem_cons h, mt_open hc, mtc_lpR h hc]
  unfold lpR
  cases mt (l.drop (i + 1)) [clo l[i].kind] with
  | none => rfl
  | some d => show i + 1 + d = i + (d + 1); omega
theorem MtAt.map {l : List Tok} {i k : Nat} {o : Option Nat} : (match o.map (· + 1) with | some d => k + d | none => l.length) = (match o with | some d => k + 1 + d | none => l.length) := by
  cases o with
  | none => rfl
  | some d => show k + (d + 1) = k + 1 + d; omega
theorem MtAt.opened {l : List Tok} {i k : Nat} {aw : List Int} (h : MtAt l i k aw) (hk : k < l.length) (hc : clo l[k].kind ≠ 0) : MtAt l i (k + 1) (clo l[k].kind :: aw) := by
  refine ⟨(fun h => nomatch h), ?_⟩
  have h2 := h.2
  rw [List.drop_eq_getElem_cons hk, mt_open hc, MtAt.map (i := i)] at h2
  exact h2
theorem MtAt.passed {l : List Tok} {i k : Nat} {c : Int} {aw : List Int} (h : MtAt l i k (c :: aw)) (hk : k < l.length) (hc : clo l[k].kind = 0) (hn : l[k].kind ≠ c) : MtAt l i (k + 1) (c :: aw) := by
  refine ⟨(fun h => nomatch h), ?_⟩
  have h2 := h.2
  rw [List.drop_eq_getElem_cons hk, mt_other hc _ hn, MtAt.map (i := i)] at h2
  exact h2
theorem MtAt.closed {l : List Tok} {i k : Nat} {c : Int} {aw : List Int} (h : MtAt l i k (c :: aw)) (hk : k < l.length) (hc : clo l[k].kind = 0) (hn : l[k].kind = c) (ha : aw ≠ []) : MtAt l i (k + 1) aw := by
  refine ⟨fun h => absurd h ha, ?_⟩
  have h2 := h.2
  subst hn
  rw [List.drop_eq_getElem_cons hk, mt_close hc _ ha, MtAt.map (i := i)] at h2
  exact h2
theorem MtAt.found {l : List Tok} {i k : Nat} {c : Int} (h : MtAt l i k [c]) (hk : k < l.length) (hc : clo l[k].kind = 0) (hn : l[k].kind = c) : mtc l i = k := by
  have h2 := h.2
  subst hn
  rw [List.drop_eq_getElem_cons hk, mt_last hc] at h2
  exact h2
theorem MtAt.over {l : List Tok} {i k : Nat} {aw : List Int} (h : MtAt l i k aw) (hk : l.length ≤ k) : mtc l i = l.length := by
  have h2 := h.2
  rw [List.drop_of_length_le hk] at h2
  cases aw <;> exact h2

end Go.Proofs.Ythfabalnioggcaa

namespace Go.Proofs.Ythfabalnioggcaa
open Go.RowKit TreN LexP FixP SynP
set_option linter.unusedVariables false

end Go.Proofs.Ythfabalnioggcaa

namespace Go.Proofs.Ythfabalnioggcaa
open Go.RowKit TreN LexP FixP SynP
set_option linter.unusedVariables false

theorem text_imp (x : List UInt8) : ((⟨x.toArray⟩ : ByteArray).toList == (⟨#[105, 109, 112, 111, 114, 116, 97, 110, 116]⟩ : ByteArray).toList) = decide (x = impT) := str_beq x impT
theorem last_split {l : List Tok} (h : 0 < l.length) : ∃ j t, l.length = j + 1 ∧ l[j]? = some t ∧ l.getLast? = some t ∧ l.dropLast = l.take j := by
  obtain ⟨j, hj⟩ : ∃ j, l.length = j + 1 := ⟨l.length - 1, by omega⟩
  refine ⟨j, l[j]'(by omega), hj, List.getElem?_eq_getElem _, ?_, ?_⟩
  · rw [List.getLast?_eq_getElem?, show l.length - 1 = j by omega]; exact List.getElem?_eq_getElem _
  · rw [List.dropLast_eq_take, hj]; rfl

/-- what unmarked answers -/
def UnIs (w0 w : World) (r : List Tok × Bool) (e : Ending) (w' : World) : Prop := (∃ a2 c2, e = .returned (.tuple #[.slice a2 r.1.length c2, .bool r.2]) ∧ r.1.length ≤ c2 ∧ c2 ≤ maxLen ∧ Tks w' a2 r.1) ∧ Below w.heap.size w w'
theorem unmS_nil : unmS [] = ([], false) := rfl
theorem unmS_no {v : List Tok} {t : Tok} (h : v.getLast? = some t) (hn : ¬ (t.kind = 1 ∧ t.text = impT)) : unmS v = (v, false) := by unfold unmS; rw [h]; simp only []; rw [if_neg hn]
theorem unmS_end {v : List Tok} {t : Tok} (h : v.getLast? = some t) (hn : t.kind = 1 ∧ t.text = impT) (h2 : (trm v.dropLast).getLast? = none) : unmS v = (v, false) := by unfold unmS; rw [h]; simp only []; rw [if_pos hn, h2]
theorem unmS_some {v : List Tok} {t u : Tok} (h : v.getLast? = some t) (hn : t.kind = 1 ∧ t.text = impT) (h2 : (trm v.dropLast).getLast? = some u) : unmS v = if excl u = true then (trm (trm v.dropLast).dropLast, true) else (v, false) := by unfold unmS; rw [h]; simp only []; rw [if_pos hn, h2]

end Go.Proofs.Ythfabalnioggcaa
