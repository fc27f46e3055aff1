/- Layer 6's reference: SameDecls on equal lists, Closed. -/
import Derived.Test.YtaiommmbbajgnaaSynQ
import Derived.Test.YtaiommmbbajgnaaSynW8
namespace Go.Proofs.Ytaiommmbbajgnaa
open Go.RowKit TreN LexP FixP SynP
set_option linter.unusedVariables false

theorem dcs_get : ∀ (l : List DecV) (i : Nat) (h : i < l.length), (dcs l)[i * 3]? = some (.string ⟨l[i].d.name.toArray⟩) ∧ (dcs l)[i * 3 + 1]? = some (.slice l[i].a l[i].d.value.length l[i].cap) ∧ (dcs l)[i * 3 + 2]? = some (.bool l[i].d.imp)
  | t :: l, 0, h => ⟨rfl, rfl, rfl⟩
  | t :: l, i + 1, h => by
    have := dcs_get l i (by simpa using h)
    have e1 : (i + 1) * 3 = i * 3 + 3 := by omega
    rw [e1]
    exact this
/-- a row of declarations, read at a place -/
theorem Dcs.get {w : World} {v : Value} {L : List Dec} (h : Dcs w v L) {k : Nat} (hk : k < L.length) :
    ∃ g c, v = .slice (some ⟨g, 0, none⟩) L.length c ∧ g < w.heap.size ∧ w.cell? ⟨g, k * 3, none⟩ = some (.string ⟨L[k].name.toArray⟩) ∧ (∃ a cc, w.cell? ⟨g, k * 3 + 1, none⟩ = some (.slice a L[k].value.length cc) ∧ L[k].value.length ≤ cc ∧ cc ≤ maxLen ∧ Tks w a L[k].value) ∧ w.cell? ⟨g, k * 3 + 2, none⟩ = some (.bool L[k].imp) := by
  obtain ⟨ds, h1, base, h2, h3⟩ := h
  have hl : ds.length = L.length := by rw [← h1, List.length_map]
  have hkd : k < ds.length := by omega
  have e : L[k] = ds[k].d := by simp only [← h1]; rw [List.getElem_map]
  obtain ⟨g, c, rfl, hg, hgl⟩ := h2.form (by omega)
  obtain ⟨k1, k2, k3⟩ := dcs_get ds k hkd
  obtain ⟨m1, m2, m3⟩ := h3 _ (List.getElem_mem hkd)
  rw [e]
  exact ⟨g, c, by rw [hl], hgl, by rw [h2.cellAt (k * 3) (by omega), k1], ⟨_, _, by rw [h2.cellAt (k * 3 + 1) (by omega), k2], m1, m2, m3⟩, by rw [h2.cellAt (k * 3 + 2) (by omega), k3]⟩
theorem Dcs.slice {w : World} {v : Value} {L : List Dec} (h : Dcs w v L) : ∃ a c, v = .slice a L.length c := by
  obtain ⟨ds, h1, base, h2, h3⟩ := h
  have hl : ds.length = L.length := by rw [← h1, List.length_map]
  rcases h2.2 with ⟨hv, h0⟩ | ⟨g, cap, cur, hv, _⟩
  · exact ⟨none, 0, by rw [hv, ← hl, h0]⟩
  · exact ⟨_, cap, by rw [hv, hl]⟩
theorem Dcs.below {w w' : World} {v : Value} {L : List Dec} (h : Dcs w v L) (hb : Below w.heap.size w w') : Dcs w' v L := by
  obtain ⟨ds, h1, base, h2, h3⟩ := h
  exact ⟨ds, h1, base, ownsRow_below h2 hb, fun x hx => ⟨(h3 x hx).1, (h3 x hx).2.1, (h3 x hx).2.2.below hb⟩⟩

set_option maxRecDepth 100000 in
set_option maxHeartbeats 2000000 in
theorem refSameDecls_eq (v1 v2 : Value) (L : List Dec) (w : World) (hl : L.length ≤ 90000) (hv : ∀ d ∈ L, d.value.length ≤ 90000) (H1 : Dcs w v1 L) (H2 : Dcs w v2 L) :
    Calls Try.prog 13 #[v1, v2] w fun e w' => e = .returned (.bool true) ∧ ∃ q, w' = w.drewN q := by
  obtain ⟨a1, c1, rfl⟩ := H1.slice
  obtain ⟨a2, c2, rfl⟩ := H2.slice
  have HD1 := Lib.hid H1
  have HD2 := Lib.hid H2
  have HV := Lib.hid hv
  obtain ⟨n, hn⟩ : ∃ n, L.length = n := ⟨_, rfl⟩
  have HN := Lib.hid hn
  rw [hn] at hl HD1 HD2 ⊢
  clear H1 H2 hv hn
  go_enter Try.func13, Try.ntmps13
  go_wp2_with fail
  go_loopw [5] (fun vi wr => ∃ k q : Nat, vi = .int .i64 (k : Int) ∧ k ≤ n ∧ wr = w.drewN q) (fun vi _ => n - (intOf vi).toNat)
  case atStart => exact ⟨0, 0, rfl, by omega, rfl⟩
  case round =>
    obtain ⟨k, q, rfl, hk, rfl⟩ := hrel
    by_cases hlt : k < n
    · have hltz : (k : Int) < (n : Int) := by omega
      have hkl : k < L.length := by have := HN.out; omega
      obtain ⟨g1, x1, ev1, hg1, d1, ⟨b1, y1, d2, _, _, d3⟩, d4⟩ := HD1.out.get hkl
      obtain ⟨g2, x2, ev2, hg2, e1, ⟨b2, y2, e2, _, _, e3⟩, e4⟩ := HD2.out.get hkl
      injection ev1 with ev1 _ _; subst ev1
      injection ev2 with ev2 _ _; subst ev2
      have hvl := HV.out _ (List.getElem_mem hkl)
      obtain ⟨d, hd⟩ : ∃ d, L[k] = d := ⟨_, rfl⟩
      rw [hd] at d1 d2 d3 d4 e1 e2 e3 e4 hvl
      have S := fun (m : Nat) => refSame_any b1 b2 y1 y2 d.value d.value ((w.drewN q).drewN m) (by omega) (d3.below (below_drewN2 (below_drewN2 (Below.refl _ _) q) m)) (e3.below (below_drewN2 (below_drewN2 (Below.refl _ _) q) m))
      rw [decide_eq_true rfl] at S
      have d1' : (w.drewN q).cell? ⟨g1, k * 3, none⟩ = _ := d1
      have d2' : (w.drewN q).cell? ⟨g1, k * 3 + 1, none⟩ = _ := d2
      have d4' : (w.drewN q).cell? ⟨g1, k * 3 + 2, none⟩ = _ := d4
      have e1' : (w.drewN q).cell? ⟨g2, k * 3, none⟩ = _ := e1
      have e2' : (w.drewN q).cell? ⟨g2, k * 3 + 1, none⟩ = _ := e2
      have e4' : (w.drewN q).cell? ⟨g2, k * 3 + 2, none⟩ = _ := e4
      generalize hwq : w.drewN q = wq at *
      have HW := Lib.hid hwq
      have SS := Lib.hid S
      obtain ⟨m, hm⟩ : ∃ m, d.value.length = m := ⟨_, rfl⟩
      rw [hm] at SS d2' e2'
      obtain ⟨nm, hnm⟩ : ∃ x, d.name = x := ⟨_, rfl⟩
      obtain ⟨im, him⟩ : ∃ x, d.imp = x := ⟨_, rfl⟩
      rw [hnm] at d1' e1'
      rw [him] at d4' e4'
      have hkn0 : (0 : Int) ≤ (k : Int) := by omega
      clear d1 d2 d3 d4 e1 e2 e3 e4 hvl hd S hwq hm hnm him hg1 hg2
      go_wp2_with fail
      go_quiet (first | (go_at_call 21; refine Calls.quiet_of (SS.out _)))
      go_wp2_with fail
      go_roundw
      case rel => exact ⟨k + 1, q + nq, by go_num, by omega, by rw [← HW.out, World.drewN_drewN]⟩
      case measure => simp [intOf]; omega
    · have hltz : ¬ (k : Int) < (n : Int) := by omega
      go_wp2_with fail
      go_ret
      exact ⟨rfl, q, rfl⟩

/-- where the loop of Closed stands -/
def ClAt (l : List Tok) (i : Nat) : Prop := i ≤ l.length ∧ clS l = clS (l.drop i)
theorem ClAt.step {l : List Tok} {i : Nat} (h : ClAt l i) (hi : i < l.length) (hm : mtc l i < l.length) : ClAt l (mtc l i + 1) := by
  obtain ⟨h1, h2⟩ := h
  refine ⟨by omega, ?_⟩
  rcases mtc_pas hi with ⟨h3, _⟩ | ⟨h3, _⟩
  · rw [h2, List.drop_eq_getElem_cons hi, clS_cons, if_neg, ← List.drop_eq_getElem_cons hi, List.drop_drop, h3]
    rintro ⟨c1, c2⟩
    rw [mtc_end hi c1 c2] at hm; omega
  · omega
theorem ClAt.bad {l : List Tok} {i : Nat} (h : ClAt l i) (hi : i < l.length) (hm : mtc l i = l.length) : clS l = false := by
  rw [h.2, List.drop_eq_getElem_cons hi, clS_cons, if_pos]
  by_cases hc : clo l[i].kind = 0
  · rw [mtc_none hi hc] at hm; omega
  · refine ⟨hc, ?_⟩
    cases hq : mt (l.drop (i + 1)) [clo l[i].kind] with
    | none => rfl
    | some d =>
      have := mt_lt _ _ _ hq
      rw [List.length_drop] at this
      rw [mtc_some hi hc hq] at hm; omega

set_option maxRecDepth 100000 in
set_option maxHeartbeats 2000000 in
theorem refClosed_any (a : Option Addr) (l : List Tok) (cap : Nat) (w : World) (hl : l.length ≤ 90000) (hT : Tks w a l) :
    Calls Try.prog 16 #[.slice a l.length cap] w fun e w' => e = .returned (.bool (clS l)) ∧ ∃ q, w' = w.drewN q := by
  have HM := Lib.hid fun (k : Nat) (hk : k < l.length) W (hW : Below w.heap.size w W) => refMatch_nat a l l.length cap rfl (by omega) (l.length - k) k W hk (Nat.le_refl _) (hT.below hW)
  have HS : Hid (ClAt l 0) := Lib.hid ⟨Nat.zero_le _, rfl⟩
  obtain ⟨n, hn⟩ : ∃ n, l.length = n := ⟨_, rfl⟩
  have HN := Lib.hid hn
  obtain ⟨R, hR⟩ : ∃ R, clS l = R := ⟨_, rfl⟩
  have HR := Lib.hid hR
  rw [hn] at hl ⊢
  rw [hR]
  clear hT hn hR
  go_enter Try.func16, Try.ntmps16
  go_wp2_with fail
  go_loopw [3] (fun vi wr => ∃ k q : Nat, vi = .int .i64 (k : Int) ∧ k ≤ n ∧ wr = w.drewN q ∧ Hid (ClAt l k)) (fun vi _ => n - (intOf vi).toNat)
  case atStart => exact ⟨0, 0, rfl, by omega, rfl, HS⟩
  case round =>
    obtain ⟨k, q, rfl, hk, rfl, HA⟩ := hrel
    by_cases hlt : k < n
    · have hltz : (k : Int) < (n : Int) := by omega
      have hkl : k < l.length := by have := HN.out; omega
      have MM := Lib.hid (HM.out k hkl _ (below_drewN2 (Below.refl _ _) q))
      have hbd := mtc_bd hkl
      have hln := HN.out
      have HX : Hid (mtc l k = l.length → R = false) := Lib.hid (fun h => by rw [← HR.out]; exact HA.out.bad hkl h)
      have HY : Hid (mtc l k < l.length → ClAt l (mtc l k + 1)) := Lib.hid (fun h => HA.out.step hkl h)
      obtain ⟨m, hm⟩ : ∃ m, mtc l k = m := ⟨_, rfl⟩
      rw [hm, hln] at MM HX HY
      rw [hm, hln] at hbd
      clear hm hln
      by_cases hmn : m = n
      · subst hmn
        have HF := Lib.hid (HX.out rfl)
        go_wp2_with fail
        refine MM.out.mono ?_
        rintro e w2 ⟨rfl, q2, rfl⟩
        go_wp2_with fail
        go_ret
        exact ⟨by rw [HF.out]; rfl, q + q2, rfl⟩
      · have hz : ((m : Int) == (n : Int)) = false := by rw [beq_eq_false_iff_ne]; omega
        have HF := Lib.hid (HY.out (by omega))
        have hw : IntKind.i64.wrap ((m : Int) + 1) = ((m : Int) + 1) := IntWalk.i64_in _ (by omega)
        have hm1 : m + 1 ≤ n := by omega
        clear hmn
        go_wp2_with fail
        refine MM.out.mono ?_
        rintro e w2 ⟨rfl, q2, rfl⟩
        go_wp2_with fail
        go_roundw
        case rel => exact ⟨m + 1, q + q2, by go_num, hm1, rfl, HF⟩
        case measure => simp [intOf]; omega
    · have hltz : ¬ (k : Int) < (n : Int) := by omega
      have HF : Hid (R = true) := Lib.hid (by rw [← HR.out, HA.out.2, List.drop_of_length_le (by have := HN.out; omega)]; rfl)
      go_wp2_with fail
      go_ret
      exact ⟨by rw [HF.out]; rfl, q, rfl⟩
end Go.Proofs.Ytaiommmbbajgnaa
