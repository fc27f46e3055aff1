/- Layer 6: Trim; layer 9: Parse. -/
import Derived.Test.YtppnpdjbmhbimaaValW8
import Derived.Test.YtppnpdjbmhbimaaSynU1
namespace Go.Proofs.Ytppnpdjbmhbimaa
open Go.RowKit TreN LexP FixP SynP ValP FixM
set_option linter.unusedVariables false

set_option maxRecDepth 100000 in
theorem Trim_any (a : Option Addr) (l : List Tok) (cap : Nat) (w : World) (h1 : l.length ≤ cap) (h2 : cap ≤ maxLen) (hl : l.length ≤ 90000) (hT : Tks w a l) :
    Calls Try.prog 48 #[.slice a l.length cap] w (ToldCap w (trm l)) := by
  have C := Lib.hid (trimmed_any a l cap w h1 h2 hT)
  have hlt := trm_len l
  obtain ⟨n, hn⟩ : ∃ n, l.length = n := ⟨_, rfl⟩
  rw [hn] at C hl hlt ⊢
  clear h1 h2 hT hn
  go_enter Try.func48, Try.ntmps48
  go_wp2_with fail
  refine C.out.mono ?_
  rintro e w1 ⟨⟨a2, c2, rfl, g1, g2, g3⟩, rfl⟩
  have D := Lib.hid (clone_toks a2 (trm l) c2 w (by omega) g3)
  obtain ⟨m, hm⟩ : ∃ m, (trm l).length = m := ⟨_, rfl⟩
  have HM := Lib.hid hm
  rw [hm] at D ⊢
  clear g1 g2 g3 hm hlt
  go_wp2_with fail
  refine D.out.mono ?_
  rintro e w2 ⟨⟨a3, c3, rfl, k1, k2, k3, _⟩, hb⟩
  have HF := Lib.hid (And.intro k3 (And.intro hb (And.intro k1 k2)))
  clear k1 k2 k3 hb
  go_wp2_with fail
  go_ret
  exact ⟨a3, c3, by rw [HM.out]; rfl, HF.out.1, HF.out.2.1, by rw [HM.out]; exact HF.out.2.2.1, HF.out.2.2.2⟩

/-- values in memory -/
def vcs (l : List Val) : List Value := l.flatMap vc
theorem vcs_length : ∀ l, (vcs l).length = l.length * 4
  | [] => rfl
  | v :: l => by
    have := vcs_length l
    unfold vcs at this ⊢
    rw [List.flatMap_cons, List.length_append, this]
    simp only [vc, List.length_cons, List.length_nil]; omega
theorem vcs_append (l m : List Val) : vcs (l ++ m) = vcs l ++ vcs m := by unfold vcs; rw [List.flatMap_append]
theorem vcs_one (l : List Val) : ∀ u ∈ vcs l, u.oneCell' = true := by
  intro u hu
  unfold vcs at hu
  obtain ⟨v, _, hv⟩ := List.mem_flatMap.1 hu
  simp only [vc, List.mem_cons, List.not_mem_nil, or_false] at hv
  rcases hv with rfl | rfl | rfl | rfl <;> rfl
theorem info_value : (Try.prog.info? 30).map (fun i => (i.zero, i.size, i.bytes)) = some (some (.agg #[.int .i64 0, .int .i64 0, .int .i64 0, .string ⟨#[]⟩]), 4, 40) := by kernel_rfl
theorem und_values : Try.prog.underlying 38 = some (.slice 30) := by kernel_rfl
/-- a list of values, in a row of its own -/
def Vls (w : World) (v : Value) (l : List Val) : Prop := ∃ base, w.ownsRow base 30 4 v l.length (vcs l)
theorem vcs_get (l : List Val) (i : Nat) (h : i < l.length) : (vcs l)[i * 4]? = some (.int .i64 l[i].kind) ∧ (vcs l)[i * 4 + 1]? = some (.int .i64 l[i].n) ∧ (vcs l)[i * 4 + 2]? = some (.int .i64 l[i].d) ∧ (vcs l)[i * 4 + 3]? = some (.string ⟨l[i].name.toArray⟩) := by
  induction l generalizing i with
  | nil => simp at h
  | cons v l ih =>
    have e : vcs (v :: l) = vc v ++ vcs l := by unfold vcs; rw [List.flatMap_cons]
    rw [e]
    cases i with
    | zero => exact ⟨rfl, rfl, rfl, rfl⟩
    | succ i =>
      have := ih i (by simpa using h)
      have e1 : (i + 1) * 4 = i * 4 + 4 := by omega
      rw [e1]
      exact this
theorem Cur.grown {w0 w x : World} {P : Nat} {T : TypeId} {rest : List Value} {l : List Tok} {row : Option Nat} (h : Cur w0 w P T rest l) (hg : w.grownBy x row) (hr : ∀ k, row = some k → P < k) : Cur w0 x P T rest l := by
  have hlt := h.lt
  obtain ⟨a, c, h1, h2⟩ := h.ex
  have h0 := h.base
  exact ⟨⟨a, c, (hg.block P hlt (by intro e; have := hr P e.symm; omega)).trans h1, h2⟩, h.base, h.bel.grown hg h.bel.size (fun k hk => by have := hr k hk; omega)⟩
theorem ownsRow_cur {w x : World} {P : Nat} {e : TypeId} {size : Nat} {v : Value} {n : Nat} {xs : List Value} (h : w.ownsRow (P + 1) e size v n xs) (hg : w.grownBy x (some P)) : x.ownsRow (P + 1) e size v n xs := by
  refine h.kept hg ?_
  cases hv : v.ownBlock with
  | none => exact Or.inl rfl
  | some k =>
    right
    intro e
    injection e with e
    have := (World.ownsRow.lt h k hv).1
    omega
theorem value_news (w : World) (v : Val) (w1 : World) (h : w1 = w.alloc (.cells #[.int .i64 v.kind, .int .i64 v.n, .int .i64 v.d, .string ⟨v.name.toArray⟩] 30)) : ∀ j u, (vc v)[j]? = some u → w1.cell? ((⟨w.heap.size, 0, none⟩ : Addr).add j) = some u := by
  intro j u hj
  subst h
  have hb : (w.alloc (.cells #[.int .i64 v.kind, .int .i64 v.n, .int .i64 v.d, .string ⟨v.name.toArray⟩] 30)).heap[w.heap.size]? = some (.cells #[.int .i64 v.kind, .int .i64 v.n, .int .i64 v.d, .string ⟨v.name.toArray⟩] 30 (0, 0)) := heap_alloc_new w _
  rw [Go.WideShapes.add_plain, Nat.zero_add]
  refine cell_of hb ?_
  rw [← hj]
  simp [vc]
/-- where Parse's loop stands -/
def PvAt (L : List Tok) (acc : List Val) (p : Bool) (m : List Tok) : Prop :=
  TxOk m ∧ m.length ≤ L.length ∧ if p = true then parseV L = (pv (m.length + 1) m).map (acc ++ ·) else parseV L = if m = [] then some acc else none
theorem TxOk.suf {l m : List Tok} (h : TxOk l) (hs : m <:+ l) : TxOk m := fun t ht => h t (hs.mem ht)
theorem pv_step {m : List Tok} (h : (readV m).2 ≠ 0) : pv (m.length + 1) m = if (bs (m.drop (readV m).2)).length < (m.drop (readV m).2).length then (pv ((bs (m.drop (readV m).2)).length + 1) (bs (m.drop (readV m).2))).map ((readV m).1 :: ·) else if m.drop (readV m).2 = [] then some [(readV m).1] else none := by
  have e : pv (m.length + 1) m = (if (readV m).2 = 0 then none else if (bs (m.drop (readV m).2)).length < (m.drop (readV m).2).length then (pv m.length (bs (m.drop (readV m).2))).map ((readV m).1 :: ·) else if m.drop (readV m).2 = [] then some [(readV m).1] else none) := rfl
  rw [e, if_neg h]
  by_cases hb : (bs (m.drop (readV m).2)).length < (m.drop (readV m).2).length
  · rw [if_pos hb, if_pos hb]
    have : (m.drop (readV m).2).length ≤ m.length := by rw [List.length_drop]; omega
    rw [pv_same m.length _ ((bs (m.drop (readV m).2)).length + 1) (by omega) (by omega)]
  · rw [if_neg hb, if_neg hb]
theorem PvAt.step {L : List Tok} {acc : List Val} {m : List Tok} (h : PvAt L acc true m) (hr : (readV m).2 ≠ 0) : PvAt L (acc ++ [(readV m).1]) (decide ((bs (m.drop (readV m).2)).length < (m.drop (readV m).2).length)) (bs (m.drop (readV m).2)) := by
  obtain ⟨h1, h2, h3⟩ := h
  rw [if_pos rfl, pv_step hr] at h3
  have hs : bs (m.drop (readV m).2) <:+ m := (bs_suf _).trans (List.drop_suffix _ _)
  refine ⟨h1.suf hs, Nat.le_trans hs.length_le h2, ?_⟩
  by_cases hb : (bs (m.drop (readV m).2)).length < (m.drop (readV m).2).length
  · rw [if_pos (by rw [decide_eq_true hb]), h3, if_pos hb, Option.map_map]
    congr 1
    funext z
    simp
  · rw [if_neg (by rw [decide_eq_false hb]; simp), h3, if_neg hb, bs_eq hb]
    by_cases h0 : m.drop (readV m).2 = []
    · rw [if_pos h0, if_pos h0]; rfl
    · rw [if_neg h0, if_neg h0]; rfl
theorem PvAt.fail {L : List Tok} {acc : List Val} {m : List Tok} (h : PvAt L acc true m) (hr : (readV m).2 = 0) : parseV L = none := by
  obtain ⟨h1, h2, h3⟩ := h
  rw [if_pos rfl] at h3
  rw [h3]
  have e : pv (m.length + 1) m = none := by
    show (if (readV m).2 = 0 then none else _) = none
    rw [if_pos hr]
  rw [e]; rfl
/-- what a parse of values answers -/
def PvIs (w : World) (r : Option (List Val)) (e : Ending) (w' : World) : Prop :=
  (match r with | none => e = .returned (.tuple #[.slice none 0 0, .int .i64 22]) | some vs => ∃ v, e = .returned (.tuple #[v, .int .i64 0]) ∧ Vls w' v vs) ∧ Below w.heap.size w w'
end Go.Proofs.Ytppnpdjbmhbimaa
