/- Layer 7: lists held against each other, whatever they are. -/
import Derived.Test.YtfbfndknhabmhaaGreatSelSm
namespace Go.Proofs.YtfbfndknhabmhaaGreat
open Go.RowKit TreN LexP FixP SynP ValP SelP FixM
set_option linter.unusedVariables false

theorem bytes_eq {x y : List UInt8} : ((⟨x.toArray⟩ : ByteArray).toList == (⟨y.toArray⟩ : ByteArray).toList) = decide (x = y) := str_beq x y
theorem eq_first {α : Type} [DecidableEq α] {l m : List α} (h : l.length = m.length) (k : Nat) (hk : k < l.length) (hm : k < m.length) (hne : l[k] ≠ m[k]) : decide (l = m) = false := decide_eq_false (by rintro rfl; exact hne rfl)
theorem eq_all {α : Type} [DecidableEq α] {l m : List α} (h : l.length = m.length) (ha : ∀ i (h1 : i < l.length) (h2 : i < m.length), l[i] = m[i]) : decide (l = m) = true := decide_eq_true (List.ext_getElem h ha)
set_option maxRecDepth 100000 in
theorem tst_ne7 (x y x' y' : List UInt8) (b b' : Bool) (w : World) : (binOp .neq 57 (.agg #[.string ⟨x.toArray⟩, .bool b, .string ⟨y.toArray⟩]) (.agg #[.string ⟨x'.toArray⟩, .bool b', .string ⟨y'.toArray⟩])).run Tryz.prog w = .ok (.bool (!decide ((⟨x, b, y⟩ : Tst) = ⟨x', b', y'⟩))) w := by
  rw [run_neq_struct, run_equalIn_agg w 9999 57 _ _ (by kernel_rfl) (by kernel_rfl)]
  have hf : Tryz.prog.fieldsOf 57 = (match Tryz.prog.underlying 57 with | some (.struct fs) => fs | _ => #[]) := rfl
  rw [hf, Tryz.underlying57]
  have p1 : ∀ (s t : ByteArray) (b : Bool) (w : World), (part 9 #[.string s, .bool b, .string t] 0).run Tryz.prog w = .ok (.string s) w := fun _ _ _ w => by kernel_rfl
  have p2 : ∀ (s t : ByteArray) (b : Bool) (w : World), (part 4 #[.string s, .bool b, .string t] 1).run Tryz.prog w = .ok (.bool b) w := fun _ _ _ w => by kernel_rfl
  have p3 : ∀ (s t : ByteArray) (b : Bool) (w : World), (part 9 #[.string s, .bool b, .string t] 2).run Tryz.prog w = .ok (.string t) w := fun _ _ _ w => by kernel_rfl
  have q1 := fun (s t : ByteArray) (w : World) => run_equalIn_string w 9998 9 s t Tryz.underlying9
  have q2 := fun (s t : Bool) (w : World) => run_equalIn_bool w 9998 4 s t Tryz.underlying4
  simp only [Op.eqFields, Sem.run_ite, Sem.run_bind, p1, p2, p3, Result.andThen_ok, q1, q2, Sem.run_pure]
  by_cases h1 : x = x' <;> by_cases h2 : b = b' <;> by_cases h3 : y = y' <;> simp [h1, h2, h3]
set_option maxRecDepth 100000 in
set_option maxHeartbeats 1000000 in
theorem slEqStr7 (a a2 : Option Addr) (l m : List (List UInt8)) (n n2 c c2 : Nat) (w : World) (hn : l.length = n) (hn2 : m.length = n2) (hl : n ≤ 9223372036854775807) (hl2 : n2 ≤ 9223372036854775807) (h1 : Txs w a l) (h2 : Txs w a2 m) :
    Calls Tryz.prog 29 #[.slice a n c, .slice a2 n2 c2] w fun e w' => e = .returned (.bool (decide (l = m))) ∧ ∃ q, w' = w.drewN q := by
  by_cases hlen : n = n2
  · subst hlen
    obtain ⟨R, hR⟩ : ∃ R, decide (l = m) = R := ⟨_, rfl⟩
    rw [hR]
    have HR := Lib.hid hR
    have H1 := Lib.hid h1
    have H2 := Lib.hid h2
    have HN := Lib.hid hn
    have HN2 := Lib.hid hn2
    have hnz : (n : Int) ≤ 9223372036854775807 := by omega
    clear h1 h2 hn hn2 hR
    go_enter Tryz.func29, Tryz.ntmps29
    go_wp2_with fail
    go_loopw [13] (fun vi wr => ∃ k q : Nat, vi = .int .i64 (k : Int) ∧ k ≤ n ∧ wr = w.drewN q ∧ Hid (∀ i (h1 : i < l.length) (h2 : i < m.length), i < k → l[i] = m[i])) (fun vi _ => n - (intOf vi).toNat)
    case atStart => exact ⟨0, 0, rfl, by omega, rfl, fun i _ _ h => by omega⟩
    case round =>
      obtain ⟨k, q, rfl, hk, rfl, HE⟩ := hrel
      by_cases hlt : k < n
      · have hltz : (k : Int) < (n : Int) := by omega
        have hkl : k < l.length := by have := HN.out; omega
        have hkm : k < m.length := by have := HN2.out; omega
        obtain ⟨b1, o1, rfl, _, c1⟩ := H1.out.get hkl
        obtain ⟨b2, o2, rfl, _, c2'⟩ := H2.out.get hkm
        obtain ⟨x, hx⟩ : ∃ y, l[k] = y := ⟨_, rfl⟩
        obtain ⟨y, hy⟩ : ∃ y, m[k] = y := ⟨_, rfl⟩
        rw [hx] at c1
        rw [hy] at c2'
        have d1 : (w.drewN q).cell? ⟨b1, o1 + k, none⟩ = some (.string ⟨x.toArray⟩) := c1
        have d2 : (w.drewN q).cell? ⟨b2, o2 + k, none⟩ = some (.string ⟨y.toArray⟩) := c2'
        clear c1 c2'
        by_cases hxy : x = y
        · subst hxy
          have HE2 : Hid (∀ i (h1 : i < l.length) (h2 : i < m.length), i < k + 1 → l[i] = m[i]) := Lib.hid fun i h1 h2 h => by
            by_cases e : i = k
            · subst e; rw [hx, hy]
            · exact HE.out i h1 h2 (by omega)
          have hse := str_eq7 x
          clear hx hy hkl hkm HE
          generalize hwq : w.drewN q = wq at d1 d2 ⊢
          have HW := Lib.hid hwq
          clear hwq
          go_wp2_with fail
          go_quiet (fail)
          go_wp2_with fail
          go_roundw
          case rel => exact ⟨k + 1, q + nq, by go_num, by omega, by rw [← HW.out, World.drewN_drewN], HE2⟩
          case measure => simp [intOf]; omega
        · have HF : Hid (R = false) := Lib.hid (by rw [← HR.out]; exact decide_eq_false (by rintro rfl; exact hxy (hx.symm.trans hy)))
          have hse : (x == y) = false := by simpa using hxy
          clear hx hy hkl hkm HE hxy
          generalize hwq : w.drewN q = wq at d1 d2 ⊢
          have HW := Lib.hid hwq
          clear hwq
          go_wp2_with fail
          go_quiet (fail)
          go_wp2_with fail
          go_ret
          exact ⟨ret_bool HF.out.symm, q + nq, by rw [← HW.out, World.drewN_drewN]⟩
      · have hltz : ¬ (k : Int) < (n : Int) := by omega
        have HF : Hid (R = true) := Lib.hid (by rw [← HR.out]; exact eq_all (by have := HN.out; have := HN2.out; omega) fun i h1 h2 => HE.out i h1 h2 (by have := HN.out; omega))
        clear HE
        go_wp2_with fail
        go_ret
        exact ⟨ret_bool HF.out.symm, q, rfl⟩
  · have hz : ((n : Int) != (n2 : Int)) = true := by rw [bne_iff_ne]; omega
    have HF : Hid (decide (l = m) = false) := Lib.hid (decide_eq_false (by rintro rfl; omega))
    have hlz : ¬ (n : Int) = (n2 : Int) := by omega
    rw [HF.out]
    clear h1 h2 hn hn2 HF
    go_enter Tryz.func29, Tryz.ntmps29
    go_wp2_with fail
    go_ret
    exact ⟨rfl, 0, rfl⟩
set_option maxRecDepth 100000 in
set_option maxHeartbeats 1000000 in
theorem slEqTst7 (a a2 : Option Addr) (l m : List (Tst)) (n n2 c c2 : Nat) (w : World) (hn : l.length = n) (hn2 : m.length = n2) (hl : n ≤ 9223372036854775807) (hl2 : n2 ≤ 9223372036854775807) (h1 : Tss w a l) (h2 : Tss w a2 m) :
    Calls Tryz.prog 30 #[.slice a n c, .slice a2 n2 c2] w fun e w' => e = .returned (.bool (decide (l = m))) ∧ ∃ q, w' = w.drewN q := by
  by_cases hlen : n = n2
  · subst hlen
    obtain ⟨R, hR⟩ : ∃ R, decide (l = m) = R := ⟨_, rfl⟩
    rw [hR]
    have HR := Lib.hid hR
    have H1 := Lib.hid h1
    have H2 := Lib.hid h2
    have HN := Lib.hid hn
    have HN2 := Lib.hid hn2
    have hnz : (n : Int) ≤ 9223372036854775807 := by omega
    clear h1 h2 hn hn2 hR
    go_enter Tryz.func30, Tryz.ntmps30
    go_wp2_with fail
    go_loopw [13] (fun vi wr => ∃ k q : Nat, vi = .int .i64 (k : Int) ∧ k ≤ n ∧ wr = w.drewN q ∧ Hid (∀ i (h1 : i < l.length) (h2 : i < m.length), i < k → l[i] = m[i])) (fun vi _ => n - (intOf vi).toNat)
    case atStart => exact ⟨0, 0, rfl, by omega, rfl, fun i _ _ h => by omega⟩
    case round =>
      obtain ⟨k, q, rfl, hk, rfl, HE⟩ := hrel
      by_cases hlt : k < n
      · have hltz : (k : Int) < (n : Int) := by omega
        have hkl : k < l.length := by have := HN.out; omega
        have hkm : k < m.length := by have := HN2.out; omega
        obtain ⟨b1, o1, rfl, _, c1, c3, c5⟩ := H1.out.get hkl
        obtain ⟨b2, o2, rfl, _, c2', c4, c6⟩ := H2.out.get hkm
        obtain ⟨⟨x, xb, xv⟩, hx⟩ : ∃ y, l[k] = y := ⟨_, rfl⟩
        obtain ⟨⟨y, yb, yv⟩, hy⟩ : ∃ y, m[k] = y := ⟨_, rfl⟩
        rw [hx] at c1 c3 c5
        rw [hy] at c2' c4 c6
        have d1 : (w.drewN q).cell? ⟨b1, o1 + k * 3, none⟩ = some (.string ⟨x.toArray⟩) := c1
        have d3 : (w.drewN q).cell? ⟨b1, o1 + k * 3 + 1, none⟩ = some (.bool xb) := c3
        have d5 : (w.drewN q).cell? ⟨b1, o1 + k * 3 + 2, none⟩ = some (.string ⟨xv.toArray⟩) := c5
        have d2 : (w.drewN q).cell? ⟨b2, o2 + k * 3, none⟩ = some (.string ⟨y.toArray⟩) := c2'
        have d4 : (w.drewN q).cell? ⟨b2, o2 + k * 3 + 1, none⟩ = some (.bool yb) := c4
        have d6 : (w.drewN q).cell? ⟨b2, o2 + k * 3 + 2, none⟩ = some (.string ⟨yv.toArray⟩) := c6
        have hse : ∀ w : World, (binOp .neq 57 (.agg #[.string ⟨x.toArray⟩, .bool xb, .string ⟨xv.toArray⟩]) (.agg #[.string ⟨y.toArray⟩, .bool yb, .string ⟨yv.toArray⟩])).run Tryz.prog w = .ok (.bool (!decide ((⟨x, xb, xv⟩ : Tst) = ⟨y, yb, yv⟩))) w := fun w => tst_ne7 _ _ _ _ _ _ w
        clear c1 c2' c3 c4 c5 c6
        by_cases hxy : (⟨x, xb, xv⟩ : Tst) = ⟨y, yb, yv⟩
        · rw [decide_eq_true hxy] at hse
          have HE2 : Hid (∀ i (h1 : i < l.length) (h2 : i < m.length), i < k + 1 → l[i] = m[i]) := Lib.hid fun i h1 h2 h => by
            by_cases e : i = k
            · subst e; rw [hx, hy, hxy]
            · exact HE.out i h1 h2 (by omega)
          simp only [Bool.not_true] at hse
          clear hx hy hkl hkm HE hxy
          generalize hwq : w.drewN q = wq at d1 d2 d3 d4 d5 d6 ⊢
          have HW := Lib.hid hwq
          clear hwq
          go_wp2_with fail
          go_quiet (fail)
          go_wp2_with fail
          go_roundw
          case rel => exact ⟨k + 1, q + nq, by go_num, by omega, by rw [← HW.out, World.drewN_drewN], HE2⟩
          case measure => simp [intOf]; omega
        · rw [decide_eq_false hxy] at hse
          have HF : Hid (R = false) := Lib.hid (by rw [← HR.out]; exact decide_eq_false (by rintro rfl; exact hxy (hx.symm.trans hy)))
          simp only [Bool.not_false] at hse
          clear hx hy hkl hkm HE hxy
          generalize hwq : w.drewN q = wq at d1 d2 d3 d4 d5 d6 ⊢
          have HW := Lib.hid hwq
          clear hwq
          go_wp2_with fail
          go_quiet (fail)
          go_wp2_with fail
          go_ret
          exact ⟨ret_bool HF.out.symm, q + nq, by rw [← HW.out, World.drewN_drewN]⟩
      · have hltz : ¬ (k : Int) < (n : Int) := by omega
        have HF : Hid (R = true) := Lib.hid (by rw [← HR.out]; exact eq_all (by have := HN.out; have := HN2.out; omega) fun i h1 h2 => HE.out i h1 h2 (by have := HN.out; omega))
        clear HE
        go_wp2_with fail
        go_ret
        exact ⟨ret_bool HF.out.symm, q, rfl⟩
  · have hz : ((n : Int) != (n2 : Int)) = true := by rw [bne_iff_ne]; omega
    have HF : Hid (decide (l = m) = false) := Lib.hid (decide_eq_false (by rintro rfl; omega))
    have hlz : ¬ (n : Int) = (n2 : Int) := by omega
    rw [HF.out]
    clear h1 h2 hn hn2 HF
    go_enter Tryz.func30, Tryz.ntmps30
    go_wp2_with fail
    go_ret
    exact ⟨rfl, 0, rfl⟩
set_option maxRecDepth 100000 in
set_option maxHeartbeats 1000000 in
theorem refTexts7 (a a2 : Option Addr) (l m : List (List UInt8)) (n n2 c c2 : Nat) (w : World) (hn : l.length = n) (hn2 : m.length = n2) (hl : n ≤ 9223372036854775807) (hl2 : n2 ≤ 9223372036854775807) (h1 : Txs w a l) (h2 : Txs w a2 m) :
    Calls Tryz.prog 42 #[.slice a n c, .slice a2 n2 c2] w fun e w' => e = .returned (.bool (decide (l = m))) ∧ ∃ q, w' = w.drewN q := by
  by_cases hlen : n = n2
  · subst hlen
    obtain ⟨R, hR⟩ : ∃ R, decide (l = m) = R := ⟨_, rfl⟩
    rw [hR]
    have HR := Lib.hid hR
    have H1 := Lib.hid h1
    have H2 := Lib.hid h2
    have HN := Lib.hid hn
    have HN2 := Lib.hid hn2
    have hnz : (n : Int) ≤ 9223372036854775807 := by omega
    clear h1 h2 hn hn2 hR
    go_enter Tryz.func42, Tryz.ntmps42
    go_wp2_with fail
    go_loopw [5] (fun vi wr => ∃ k q : Nat, vi = .int .i64 (k : Int) ∧ k ≤ n ∧ wr = w.drewN q ∧ Hid (∀ i (h1 : i < l.length) (h2 : i < m.length), i < k → l[i] = m[i])) (fun vi _ => n - (intOf vi).toNat)
    case atStart => exact ⟨0, 0, rfl, by omega, rfl, fun i _ _ h => by omega⟩
    case round =>
      obtain ⟨k, q, rfl, hk, rfl, HE⟩ := hrel
      by_cases hlt : k < n
      · have hltz : (k : Int) < (n : Int) := by omega
        have hkl : k < l.length := by have := HN.out; omega
        have hkm : k < m.length := by have := HN2.out; omega
        obtain ⟨b1, o1, rfl, _, c1⟩ := H1.out.get hkl
        obtain ⟨b2, o2, rfl, _, c2'⟩ := H2.out.get hkm
        obtain ⟨x, hx⟩ : ∃ y, l[k] = y := ⟨_, rfl⟩
        obtain ⟨y, hy⟩ : ∃ y, m[k] = y := ⟨_, rfl⟩
        rw [hx] at c1
        rw [hy] at c2'
        have d1 : (w.drewN q).cell? ⟨b1, o1 + k, none⟩ = some (.string ⟨x.toArray⟩) := c1
        have d2 : (w.drewN q).cell? ⟨b2, o2 + k, none⟩ = some (.string ⟨y.toArray⟩) := c2'
        clear c1 c2'
        by_cases hxy : x = y
        · subst hxy
          have HE2 : Hid (∀ i (h1 : i < l.length) (h2 : i < m.length), i < k + 1 → l[i] = m[i]) := Lib.hid fun i h1 h2 h => by
            by_cases e : i = k
            · subst e; rw [hx, hy]
            · exact HE.out i h1 h2 (by omega)
          have hse := str_eq7 x
          clear hx hy hkl hkm HE
          generalize hwq : w.drewN q = wq at d1 d2 ⊢
          have HW := Lib.hid hwq
          clear hwq
          go_wp2_with fail
          go_quiet (fail)
          go_wp2_with fail
          go_roundw
          case rel => exact ⟨k + 1, q + nq, by go_num, by omega, by rw [← HW.out, World.drewN_drewN], HE2⟩
          case measure => simp [intOf]; omega
        · have HF : Hid (R = false) := Lib.hid (by rw [← HR.out]; exact decide_eq_false (by rintro rfl; exact hxy (hx.symm.trans hy)))
          have hse : (x == y) = false := by simpa using hxy
          clear hx hy hkl hkm HE hxy
          generalize hwq : w.drewN q = wq at d1 d2 ⊢
          have HW := Lib.hid hwq
          clear hwq
          go_wp2_with fail
          go_quiet (fail)
          go_wp2_with fail
          go_ret
          exact ⟨ret_bool HF.out.symm, q + nq, by rw [← HW.out, World.drewN_drewN]⟩
      · have hltz : ¬ (k : Int) < (n : Int) := by omega
        have HF : Hid (R = true) := Lib.hid (by rw [← HR.out]; exact eq_all (by have := HN.out; have := HN2.out; omega) fun i h1 h2 => HE.out i h1 h2 (by have := HN.out; omega))
        clear HE
        go_wp2_with fail
        go_ret
        exact ⟨ret_bool HF.out.symm, q, rfl⟩
  · have hz : ((n : Int) != (n2 : Int)) = true := by rw [bne_iff_ne]; omega
    have HF : Hid (decide (l = m) = false) := Lib.hid (decide_eq_false (by rintro rfl; omega))
    have hlz : ¬ (n : Int) = (n2 : Int) := by omega
    rw [HF.out]
    clear h1 h2 hn hn2 HF
    go_enter Tryz.func42, Tryz.ntmps42
    go_wp2_with fail
    go_ret
    exact ⟨rfl, 0, rfl⟩
end Go.Proofs.YtfbfndknhabmhaaGreat
