/- Tokens held against each other. -/
import Derived.Test.YtbodmfbpmeapoaaGreatLexR6
import Derived.StillTailTactics
import Derived.Laws.StructEq
namespace Go.Proofs.YtbodmfbpmeapoaaGreat
open Go.RowKit TreN LexP FixP

theorem str_beq (x y : List UInt8) : ((⟨x.toArray⟩ : ByteArray).toList == (⟨y.toArray⟩ : ByteArray).toList) = decide (x = y) := by
  rw [Lib.toList_data, Lib.toList_data, Bool.eq_iff_iff]
  simp
set_option maxRecDepth 100000 in
theorem tok_eqIn (k1 k2 n1 n2 : Int) (x1 x2 : List UInt8) (w : World) : (Op.equalIn 10000 58 (.agg #[.int .i64 k1, .string ⟨x1.toArray⟩, .int .i64 n1]) (.agg #[.int .i64 k2, .string ⟨x2.toArray⟩, .int .i64 n2])).run Tryz.prog w = .ok (decide ((⟨k1, x1, n1⟩ : Tok) = ⟨k2, x2, n2⟩)) w := by
  rw [run_equalIn_agg w 9999 58 _ _ (by kernel_rfl) (by kernel_rfl)]
  have hf : Tryz.prog.fieldsOf 58 = (match Tryz.prog.underlying 58 with | some (.struct fs) => fs | _ => #[]) := rfl
  rw [hf, Tryz.underlying58]
  have p1 : ∀ (k : Int) (x : List UInt8) (n : Int) (w : World), (part 3 #[.int .i64 k, .string ⟨x.toArray⟩, .int .i64 n] 0).run Tryz.prog w = .ok (.int .i64 k) w := fun _ _ _ w => by kernel_rfl
  have p2 : ∀ (k : Int) (x : List UInt8) (n : Int) (w : World), (part 9 #[.int .i64 k, .string ⟨x.toArray⟩, .int .i64 n] 1).run Tryz.prog w = .ok (.string ⟨x.toArray⟩) w := fun _ _ _ w => by kernel_rfl
  have p3 : ∀ (k : Int) (x : List UInt8) (n : Int) (w : World), (part 3 #[.int .i64 k, .string ⟨x.toArray⟩, .int .i64 n] 2).run Tryz.prog w = .ok (.int .i64 n) w := fun _ _ _ w => by kernel_rfl
  simp only [Op.eqFields, Sem.run_ite, Sem.run_bind, p1, p2, p3, Result.andThen_ok, run_equalIn_int w 9998 3 .i64 .i64 k1 k2 Tryz.underlying3, run_equalIn_int w 9998 3 .i64 .i64 n1 n2 Tryz.underlying3, run_equalIn_string w 9998 9 ⟨x1.toArray⟩ ⟨x2.toArray⟩ Tryz.underlying9, str_beq]
  by_cases h1 : k1 = k2
  · subst h1
    by_cases h2 : x1 = x2
    · subst h2
      by_cases h3 : n1 = n2
      · subst h3; simp
      · have e3 : (n1 == n2) = false := by rw [beq_eq_false_iff_ne]; exact h3
        simp [h3, e3]
    · simp [h2]
  · have e1 : (k1 == k2) = false := by rw [beq_eq_false_iff_ne]; exact h1
    simp [h1, e1]
theorem tok_eql (t u : Tok) (w : World) : (binOp .eql 58 t.val u.val).run Tryz.prog w = .ok (.bool (decide (t = u))) w := by
  obtain ⟨k1, x1, n1⟩ := t
  obtain ⟨k2, x2, n2⟩ := u
  unfold LexP.Tok.val
  rw [run_eql_struct, tok_eqIn]; rfl
theorem tok_neq (t u : Tok) (w : World) : (binOp .neq 58 t.val u.val).run Tryz.prog w = .ok (.bool (!decide (t = u))) w := by
  obtain ⟨k1, x1, n1⟩ := t
  obtain ⟨k2, x2, n2⟩ := u
  unfold LexP.Tok.val
  rw [run_neq_struct, tok_eqIn]; rfl

theorem Tks.get {w : World} {a : Option Addr} {l : List Tok} (h : Tks w a l) {i : Nat} (hi : i < l.length) : ∃ b o, a = some ⟨b, o, none⟩ ∧ b < w.heap.size ∧ TkAt w b (o + i * 3) l[i] := by
  rcases h with rfl | ⟨b, o, h1, h2, h3⟩
  · simp at hi
  · exact ⟨b, o, h1, h2, h3 i hi⟩
theorem below_drewN2 {B : Nat} {a w : World} (h : Below B a w) (q : Nat) : Below B a (w.drewN q) := h.trans ⟨rfl, rfl, rfl, Nat.le_refl _, fun _ _ => rfl⟩

set_option maxRecDepth 100000 in
set_option maxHeartbeats 2000000 in
theorem refSame_any (a a2 : Option Addr) (c c2 : Nat) (l m : List Tok) (w : World) (hl : l.length ≤ 100000) (h1 : Tks w a l) (h2 : Tks w a2 m) :
    Calls Tryz.prog 39 #[.slice a l.length c, .slice a2 m.length c2] w fun e w' => e = .returned (.bool (decide (l = m))) ∧ ∃ q, w' = w.drewN q := by
  by_cases hlen : l.length = m.length
  · have hz : ((l.length : Int) != (m.length : Int)) = false := by rw [hlen]; simp
    have H1 := Lib.hid h1
    have H2 := Lib.hid h2
    have HLEN := Lib.hid hlen
    clear h1 h2
    obtain ⟨n, hn⟩ : ∃ n, l.length = n := ⟨_, rfl⟩
    have hm : m.length = n := by omega
    have HN := Lib.hid hn
    have HM := Lib.hid hm
    rw [hn] at hl hz ⊢
    rw [hm] at hz ⊢
    clear hn hm hlen
    go_enter Tryz.func39, Tryz.ntmps39
    go_wp2_with fail
    go_loopw [5] (fun vi wr => ∃ k q : Nat, vi = .int .i64 k ∧ k ≤ n ∧ wr = w.drewN q ∧ Hid (∀ j (hj : j < l.length) (hj2 : j < m.length), j < k → l[j] = m[j])) (fun vi _ => n - (intOf vi).toNat)
    case atStart => exact ⟨0, 0, rfl, by omega, rfl, fun j hj hj2 h => by omega⟩
    case round =>
      obtain ⟨k, q, rfl, hk, rfl, HJ⟩ := hrel
      by_cases hlt : k < n
      · have hltz : (k : Int) < (n : Int) := by omega
        have hkl : k < l.length := by have := HN.out; omega
        have hkm : k < m.length := by have := HM.out; omega
        obtain ⟨b1, o1, rfl, g1, k1⟩ := H1.out.get hkl
        obtain ⟨b2, o2, rfl, g2, k2⟩ := H2.out.get hkm
        have EQ := fun W => tok_neq l[k] m[k] W
        obtain ⟨t, ht⟩ : ∃ t, l[k] = t := ⟨_, rfl⟩
        obtain ⟨u, hu⟩ : ∃ u, m[k] = u := ⟨_, rfl⟩
        rw [ht, hu] at EQ
        rw [ht] at k1
        rw [hu] at k2
        unfold LexP.Tok.val at EQ
        have d1 : (w.drewN q).cell? ⟨b1, o1 + k * 3, none⟩ = some (.int .i64 t.kind) := k1.kind
        have d2 : (w.drewN q).cell? ⟨b1, o1 + k * 3 + 1, none⟩ = some (.string ⟨t.text.toArray⟩) := k1.text
        have d3 : (w.drewN q).cell? ⟨b1, o1 + k * 3 + 2, none⟩ = some (.int .i64 t.n) := k1.n
        have e1 : (w.drewN q).cell? ⟨b2, o2 + k * 3, none⟩ = some (.int .i64 u.kind) := k2.kind
        have e2 : (w.drewN q).cell? ⟨b2, o2 + k * 3 + 1, none⟩ = some (.string ⟨u.text.toArray⟩) := k2.text
        have e3 : (w.drewN q).cell? ⟨b2, o2 + k * 3 + 2, none⟩ = some (.int .i64 u.n) := k2.n
        generalize hwq : w.drewN q = wq at d1 d2 d3 e1 e2 e3 ⊢
        have HW := Lib.hid hwq
        have HT := Lib.hid ht
        have HU := Lib.hid hu
        clear k1 k2 hwq ht hu
        by_cases htu : t = u
        · rw [decide_eq_true htu] at EQ
          have HTU := Lib.hid htu
          clear htu
          go_wp2_with fail
          go_quiet (fail)
          go_wp2_with fail
          go_roundw
          case rel =>
            refine ⟨k + 1, q + nq, by go_num, by omega, by rw [← HW.out, World.drewN_drewN], fun j hj hj2 h => ?_⟩
            by_cases c : j = k
            · subst c; rw [HT.out, HU.out, HTU.out]
            · exact HJ.out j hj hj2 (by omega)
          case measure => simp [intOf]; omega
        · rw [decide_eq_false htu] at EQ
          have HTU := Lib.hid htu
          clear htu
          go_wp2_with fail
          go_quiet (fail)
          go_wp2_with fail
          go_ret
          refine ⟨ret_bool ?_, q + nq, by rw [← HW.out, World.drewN_drewN]⟩
          symm
          rw [decide_eq_false_iff_not]
          intro x
          subst x
          exact HTU.out (by rw [← HT.out, ← HU.out])
      · have hall : l = m := by
          have hn1 := HN.out
          have hm1 := HM.out
          exact List.ext_getElem (by omega) fun j hj hj2 => HJ.out j hj hj2 (by omega)
        have HA := Lib.hid hall
        clear hall
        have hltz : ¬ (k : Int) < (n : Int) := by omega
        go_wp2_with fail
        go_ret
        exact ⟨ret_bool (by rw [decide_eq_true HA.out]), q, rfl⟩
  · have hz : ((l.length : Int) != (m.length : Int)) = true := by rw [bne_iff_ne]; omega
    have hne : decide (l = m) = false := by
      rw [decide_eq_false_iff_not]; intro x; exact hlen (by rw [x])
    rw [hne]
    clear hlen h1 h2 hne
    go_enter Tryz.func39, Tryz.ntmps39
    go_wp2_with fail
    go_ret
    exact ⟨rfl, 0, rfl⟩
end Go.Proofs.YtbodmfbpmeapoaaGreat
