/- Layer 6's reference: SameRules on equal lists; rules put behind rules. -/
import Derived.Test.YtaiommmbbajgnaaSynL2
namespace Go.Proofs.Ytaiommmbbajgnaa
open Go.RowKit TreN LexP FixP SynP
set_option linter.unusedVariables false

theorem rcs_get : ∀ (l : List RawV) (i : Nat) (h : i < l.length), (rcs l)[i * 4]? = some (.string ⟨l[i].r.att.toArray⟩) ∧ (rcs l)[i * 4 + 1]? = some (.slice l[i].ah l[i].r.head.length l[i].ch) ∧ (rcs l)[i * 4 + 2]? = some (.slice l[i].ab l[i].r.body.length l[i].cb) ∧ (rcs l)[i * 4 + 3]? = some (.bool l[i].r.block)
  | t :: l, 0, h => ⟨rfl, rfl, rfl, rfl⟩
  | t :: l, i + 1, h => by
    have := rcs_get l i (by simpa using h)
    have e1 : (i + 1) * 4 = i * 4 + 4 := by omega
    rw [e1]
    exact this
def RawV.ok (w : World) (x : RawV) : Prop := x.r.head.length ≤ x.ch ∧ x.ch ≤ maxLen ∧ Tks w x.ah x.r.head ∧ x.r.body.length ≤ x.cb ∧ x.cb ≤ maxLen ∧ Tks w x.ab x.r.body
theorem RawV.ok.below {w w' : World} {x : RawV} (h : x.ok w) (hb : Below w.heap.size w w') : x.ok w' := ⟨h.1, h.2.1, h.2.2.1.below hb, h.2.2.2.1, h.2.2.2.2.1, h.2.2.2.2.2.below hb⟩
/-- a list of rules that was answered -/
def Rls (w : World) (v : Value) (L : List Rul) : Prop := ∃ xs, xs.map RawV.r = L ∧ ∃ base, w.ownsRow base 41 4 v xs.length (rcs xs) ∧ ∀ x ∈ xs, x.ok w
theorem RuR.rls {w0 w : World} {v : Value} {L : List Rul} (h : RuR w0 v L w) : Rls w v L := by
  obtain ⟨⟨xs, h1, h2, h3⟩, _⟩ := h
  exact ⟨xs, h1, _, h2, fun x hx => ⟨(h3 x hx).1.1, (h3 x hx).1.2.1, (h3 x hx).1.tks, (h3 x hx).2.1, (h3 x hx).2.2.1, (h3 x hx).2.tks⟩⟩
theorem Rls.below {w w' : World} {v : Value} {L : List Rul} (h : Rls w v L) (hb : Below w.heap.size w w') : Rls w' v L := by
  obtain ⟨xs, h1, base, h2, h3⟩ := h
  exact ⟨xs, h1, base, ownsRow_below h2 hb, fun x hx => (h3 x hx).below hb⟩
theorem Rls.slice {w : World} {v : Value} {L : List Rul} (h : Rls w v L) : ∃ a c, v = .slice a L.length c := by
  obtain ⟨xs, h1, base, h2, h3⟩ := h
  have hl : xs.length = L.length := by rw [← h1, List.length_map]
  rcases h2.2 with ⟨hv, h0⟩ | ⟨g, cap, cur, hv, _⟩
  · exact ⟨none, 0, by rw [hv, ← hl, h0]⟩
  · exact ⟨_, cap, by rw [hv, hl]⟩
theorem Rls.get {w : World} {v : Value} {L : List Rul} (h : Rls w v L) {k : Nat} (hk : k < L.length) :
    ∃ g c, v = .slice (some ⟨g, 0, none⟩) L.length c ∧ w.cell? ⟨g, k * 4, none⟩ = some (.string ⟨L[k].att.toArray⟩) ∧ (∃ a cc, w.cell? ⟨g, k * 4 + 1, none⟩ = some (.slice a L[k].head.length cc) ∧ Tks w a L[k].head) ∧ (∃ a cc, w.cell? ⟨g, k * 4 + 2, none⟩ = some (.slice a L[k].body.length cc) ∧ Tks w a L[k].body) ∧ w.cell? ⟨g, k * 4 + 3, none⟩ = some (.bool L[k].block) := by
  obtain ⟨ds, h1, base, h2, h3⟩ := h
  have hl : ds.length = L.length := by rw [← h1, List.length_map]
  have hkd : k < ds.length := by omega
  have e : L[k] = ds[k].r := by simp only [← h1]; rw [List.getElem_map]
  obtain ⟨g, c, rfl, hg, hgl⟩ := h2.form (by omega)
  obtain ⟨k1, k2, k3, k4⟩ := rcs_get ds k hkd
  obtain ⟨m1, m2, m3, m4, m5, m6⟩ := h3 _ (List.getElem_mem hkd)
  rw [e]
  exact ⟨g, c, by rw [hl], by rw [h2.cellAt (k * 4) (by omega), k1], ⟨_, _, by rw [h2.cellAt (k * 4 + 1) (by omega), k2], m3⟩, ⟨_, _, by rw [h2.cellAt (k * 4 + 2) (by omega), k3], m6⟩, by rw [h2.cellAt (k * 4 + 3) (by omega), k4]⟩

set_option maxRecDepth 100000 in
set_option maxHeartbeats 2000000 in
theorem refSameRules_eq (v1 v2 : Value) (L : List Rul) (w : World) (hl : L.length ≤ 90000) (hv : ∀ d ∈ L, d.head.length ≤ 90000 ∧ d.body.length ≤ 90000) (H1 : Rls w v1 L) (H2 : Rls w v2 L) :
    Calls Try.prog 18 #[v1, v2] w fun e w' => e = .returned (.bool true) ∧ ∃ q, w' = w.drewN q := by
  obtain ⟨a1, c1, rfl⟩ := H1.slice
  obtain ⟨a2, c2, rfl⟩ := H2.slice
  have HD1 := Lib.hid H1
  have HD2 := Lib.hid H2
  have HV := Lib.hid hv
  obtain ⟨n, hn⟩ : ∃ n, L.length = n := ⟨_, rfl⟩
  have HN := Lib.hid hn
  rw [hn] at hl HD1 HD2 ⊢
  clear H1 H2 hv hn
  go_enter Try.func18, Try.ntmps18
  go_wp2_with fail
  go_loopw [5] (fun vi wr => ∃ k q : Nat, vi = .int .i64 (k : Int) ∧ k ≤ n ∧ wr = w.drewN q) (fun vi _ => n - (intOf vi).toNat)
  case atStart => exact ⟨0, 0, rfl, by omega, rfl⟩
  case round =>
    obtain ⟨k, q, rfl, hk, rfl⟩ := hrel
    by_cases hlt : k < n
    · have hltz : (k : Int) < (n : Int) := by omega
      have hkl : k < L.length := by have := HN.out; omega
      obtain ⟨g1, x1, ev1, d1, ⟨b1, y1, d2, d3⟩, ⟨b3, y3, d5, d6⟩, d4⟩ := HD1.out.get hkl
      obtain ⟨g2, x2, ev2, e1, ⟨b2, y2, e2, e3⟩, ⟨b4, y4, e5, e6⟩, e4⟩ := HD2.out.get hkl
      injection ev1 with ev1 _ _; subst ev1
      injection ev2 with ev2 _ _; subst ev2
      have hvl := HV.out _ (List.getElem_mem hkl)
      obtain ⟨d, hd⟩ : ∃ d, L[k] = d := ⟨_, rfl⟩
      rw [hd] at d1 d2 d3 d4 d5 d6 e1 e2 e3 e4 e5 e6 hvl
      have S := fun (m : Nat) => refSame_any b1 b2 y1 y2 d.head d.head ((w.drewN q).drewN m) (by omega) (d3.below (below_drewN2 (below_drewN2 (Below.refl _ _) q) m)) (e3.below (below_drewN2 (below_drewN2 (Below.refl _ _) q) m))
      have S2 := fun (m : Nat) => refSame_any b3 b4 y3 y4 d.body d.body ((w.drewN q).drewN m) (by omega) (d6.below (below_drewN2 (below_drewN2 (Below.refl _ _) q) m)) (e6.below (below_drewN2 (below_drewN2 (Below.refl _ _) q) m))
      rw [decide_eq_true rfl] at S S2
      have d1' : (w.drewN q).cell? ⟨g1, k * 4, none⟩ = _ := d1
      have d2' : (w.drewN q).cell? ⟨g1, k * 4 + 1, none⟩ = _ := d2
      have d5' : (w.drewN q).cell? ⟨g1, k * 4 + 2, none⟩ = _ := d5
      have d4' : (w.drewN q).cell? ⟨g1, k * 4 + 3, none⟩ = _ := d4
      have e1' : (w.drewN q).cell? ⟨g2, k * 4, none⟩ = _ := e1
      have e2' : (w.drewN q).cell? ⟨g2, k * 4 + 1, none⟩ = _ := e2
      have e5' : (w.drewN q).cell? ⟨g2, k * 4 + 2, none⟩ = _ := e5
      have e4' : (w.drewN q).cell? ⟨g2, k * 4 + 3, none⟩ = _ := e4
      generalize hwq : w.drewN q = wq at *
      have HW := Lib.hid hwq
      have SS := Lib.hid S
      have SS2 := Lib.hid S2
      obtain ⟨m, hm⟩ : ∃ m, d.head.length = m := ⟨_, rfl⟩
      obtain ⟨m2, hm2⟩ : ∃ m, d.body.length = m := ⟨_, rfl⟩
      rw [hm] at SS d2' e2'
      rw [hm2] at SS2 d5' e5'
      obtain ⟨nm, hnm⟩ : ∃ x, d.att = x := ⟨_, rfl⟩
      obtain ⟨im, him⟩ : ∃ x, d.block = x := ⟨_, rfl⟩
      rw [hnm] at d1' e1'
      rw [him] at d4' e4'
      have hkn0 : (0 : Int) ≤ (k : Int) := by omega
      clear d1 d2 d3 d4 d5 d6 e1 e2 e3 e4 e5 e6 hvl hd S S2 hwq hm hm2 hnm him
      go_wp2_with fail
      go_quiet (first | (go_at_call_of 21 y1; refine Calls.quiet_of (SS.out _)) | (go_at_call_of 21 y3; refine Calls.quiet_of (SS2.out _)))
      go_wp2_with fail
      go_roundw
      case rel => exact ⟨k + 1, q + nq, by go_num, by omega, by rw [← HW.out, World.drewN_drewN]⟩
      case measure => simp [intOf]; omega
    · have hltz : ¬ (k : Int) < (n : Int) := by omega
      go_wp2_with fail
      go_ret
      exact ⟨rfl, q, rfl⟩

/-- rules put behind rules of an own row -/
theorem app_rcs (H : Nat) (v : Value) (xs : List RawV) (v2 : Value) (L : List Rul) (w0 w : World) (hb0 : Below w0.heap.size w0 w) (hH : H ≤ w.heap.size) (hx : xs.length ≤ 10000) (hl : L.length ≤ 10000) (hown : w.ownsRow H 41 4 v xs.length (rcs xs)) (h2 : Rls w0 v2 L) :
    ∃ v' w' ys, (Builtin.append_ #[35, 35] 35 #[v, v2]).run Try.prog w = .ok v' w' ∧ ys.map RawV.r = L ∧ w'.ownsRow H 41 4 v' (xs ++ ys).length (rcs (xs ++ ys)) ∧ (∀ y ∈ ys, y.ok w0) ∧ Below H w w' := by
  obtain ⟨i, hi, hz0, hz1, hz2⟩ := info_parts info_raw
  obtain ⟨ys, h3, base, h4, h5⟩ := h2
  obtain ⟨a, c, rfl, hn⟩ := row_news (ownsRow_below h4 hb0)
  have hyl : ys.length = L.length := by rw [← h3, List.length_map]
  obtain ⟨v', w', r1, r2, r3⟩ := app_cells 35 41 i _ 4 72 und_raws hi hz0 hz1 hz2 rfl (by decide) H v xs.length (rcs xs) a ys.length c (rcs ys) w hH hown (rcs_length ys) hn (rcs_one ys) (by unfold maxLen; omega) (by omega)
  exact ⟨v', w', ys, r1, h3, by rw [List.length_append, rcs_append]; exact r2, h5, r3⟩

theorem rulT_len (att : List UInt8) (ab : Bool) (l : List Tok) : (rulT att ab l).1.head.length ≤ l.length ∧ (rulT att ab l).1.body.length ≤ l.length := by
  have hb := fst_bd (stopB ab) l
  have ht : ∀ e, (trm (l.take e)).length ≤ l.length := fun e => by have := trm_len (l.take e); rw [List.length_take] at this; omega
  by_cases he : fst (stopB ab) l = l.length
  · rw [rulT_end he]; exact ⟨ht _, Nat.zero_le _⟩
  · have hlt : fst (stopB ab) l < l.length := by omega
    by_cases hk : (l[fst (stopB ab) l]).kind = 17
    · rw [rulT_open rfl hlt hk]
      refine ⟨ht _, ?_⟩
      show ((l.take _).drop _).length ≤ _
      rw [List.length_drop, List.length_take]; omega
    · rw [rulT_semi rfl hlt hk]; exact ⟨ht _, Nat.zero_le _⟩
theorem rulS_len (t : Tok) (r : List Tok) : (rulS (t :: r)).1.head.length ≤ (t :: r).length ∧ (rulS (t :: r)).1.body.length ≤ (t :: r).length := by
  by_cases hk : t.kind = 3
  · rw [rulS_at hk]
    have := rulT_len t.text true r
    simp only [List.length_cons]
    omega
  · rw [rulS_no hk]; exact rulT_len _ _ _
theorem rusF_len : ∀ (f : Nat) (l : List Tok), (rusF f l).length ≤ f ∧ ∀ R ∈ rusF f l, R.head.length ≤ l.length ∧ R.body.length ≤ l.length
  | 0, l => ⟨Nat.le_refl _, fun R h => by cases h⟩
  | f + 1, l => by
    cases hb : bs l with
    | nil => rw [rusF_nil hb]; exact ⟨Nat.zero_le _, fun R h => by cases h⟩
    | cons t r =>
      have h1 := bs_len l
      rw [hb] at h1
      obtain ⟨h2, h3⟩ := rusF_len f ((t :: r).drop (rulS (t :: r)).2)
      rw [rusF_cons hb]
      have h4 : (ruls1 t r).length ≤ 1 ∧ ∀ R ∈ ruls1 t r, R = (rulS (t :: r)).1 := by
        unfold ruls1
        split
        · exact ⟨Nat.le_refl _, fun R h => by simpa using h⟩
        · exact ⟨Nat.zero_le _, fun R h => by cases h⟩
      refine ⟨by rw [List.length_append]; omega, fun R h => ?_⟩
      rcases List.mem_append.1 h with h | h
      · rw [h4.2 R h]
        have := rulS_len t r
        omega
      · have := h3 R h
        rw [List.length_drop] at this
        omega
theorem rus_len (l : List Tok) : (rusS l).length ≤ l.length ∧ ∀ R ∈ rusS l, R.head.length ≤ l.length ∧ R.body.length ≤ l.length := rusF_len _ l
end Go.Proofs.Ytaiommmbbajgnaa
