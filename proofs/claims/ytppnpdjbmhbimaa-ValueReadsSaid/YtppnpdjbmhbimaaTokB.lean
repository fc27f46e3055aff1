/- Package tokens: Pass, Spaces. -/
import Derived.Test.YtppnpdjbmhbimaaTokA
import Derived.Test.YtppnpdjbmhbimaaSynR2
import Derived.Outline
import Derived.Deep.LoopGhost
namespace Go.Proofs.Ytppnpdjbmhbimaa
open Go.RowKit TreN LexP FixP SynP ValP
set_option linter.unusedVariables false

theorem tok_f0 (k m : Int) (x : ByteArray) (W : World) : (Instr.field 44 (.agg #[.int .i64 k, .string x, .int .i64 m]) 0).run Try.prog W = .ok (.int .i64 k) W := by kernel_rfl
theorem tok_f1 (k m : Int) (x : ByteArray) (W : World) : (Instr.field 44 (.agg #[.int .i64 k, .string x, .int .i64 m]) 1).run Try.prog W = .ok (.string x) W := by kernel_rfl
set_option maxRecDepth 100000 in
set_option maxHeartbeats 1000000 in
theorem Pass_yes {w0 w : World} {P : Nat} {T : TypeId} {rest : List Value} {t : Tok} {r : List Tok} (h : Cur w0 w P T rest (t :: r)) :
    Calls Try.prog 80 #[.pointer (some ⟨P, 0, none⟩), .int .i64 t.kind, .string ⟨t.text.toArray⟩] w fun e w' => e = .returned (.bool true) ∧ w.grownBy w' (some P) ∧ Cur w0 w' P T rest r := by
  have TK := Lib.hid fun W (hW : Below w.heap.size w W) => Take_yes (h.keep hW)
  have NX := Lib.hid (Next_any h)
  obtain ⟨k, x, m⟩ := t
  have NX2 : Hid (Calls Try.prog 67 #[.pointer (some ⟨P, 0, none⟩)] w fun e w' => e = .returned (.agg #[.int .i64 k, .string ⟨x.toArray⟩, .int .i64 m]) ∧ Below w.heap.size w w') := Lib.hid NX.out
  show Calls _ _ #[_, .int .i64 k, .string ⟨x.toArray⟩] _ _
  have TK2 : Hid (∀ W : World, Below w.heap.size w W → Calls Try.prog 63 #[.pointer (some ⟨P, 0, none⟩), .int .i64 k] W fun e w' => e = .returned (.tuple #[.agg #[.int .i64 k, .string ⟨x.toArray⟩, .int .i64 m], .bool true]) ∧ W.grownBy w' (some P) ∧ Cur w0 w' P T rest r) := Lib.hid fun W hW => TK.out W hW
  clear NX TK h
  have F1 := tok_f1
  go_enter Try.func80, Try.ntmps80
  go_wp2_with fail
  refine NX2.out.mono ?_
  rintro e w1 ⟨rfl, hb1⟩
  have HB1 := Lib.hid hb1
  clear hb1
  go_wp2_with fail
  refine (TK2.out _ HB1.out).mono ?_
  rintro e w2 ⟨rfl, hg, hc⟩
  have G := Lib.hid (grownBy_trans (grownBy_below (some P) HB1.out) hg)
  have C := Lib.hid hc
  clear hg hc
  go_wp2_with fail
  go_ret
  exact ⟨rfl, grownBy_trans G.out (grownBy_below (some P) ((Below.refl _ _).alloc (Nat.le_refl _) _)), C.out.keep ((Below.refl _ _).alloc (Nat.le_refl _) _)⟩
set_option maxRecDepth 100000 in
set_option maxHeartbeats 1000000 in
theorem Pass_no {w0 w : World} {P : Nat} {T : TypeId} {rest : List Value} {l : List Tok} (k : Int) (y : List UInt8) (h : Cur w0 w P T rest l) (hp : passP k y l = none) :
    Calls Try.prog 80 #[.pointer (some ⟨P, 0, none⟩), .int .i64 k, .string ⟨y.toArray⟩] w fun e w' => e = .returned (.bool false) ∧ Below w.heap.size w w' := by
  have NX := Lib.hid (Next_any h)
  by_cases hx : (nxt l).text = y
  · unfold passP at hp
    rw [if_pos hx] at hp
    have hp2 : takeP k l = none := by
      cases ht : takeP k l with
      | none => rfl
      | some p => rw [ht] at hp; cases hp
    have TK := Lib.hid fun W (hW : Below w.heap.size w W) => Take_no k (h.keep hW) hp2
    obtain ⟨t, ht⟩ : ∃ t, nxt l = t := ⟨_, rfl⟩
    rw [ht] at hx NX
    obtain ⟨k1, x, m⟩ := t
    have hx : x = y := hx
    subst hx
    have NX2 : Hid (Calls Try.prog 67 #[.pointer (some ⟨P, 0, none⟩)] w fun e w' => e = .returned (.agg #[.int .i64 k1, .string ⟨x.toArray⟩, .int .i64 m]) ∧ Below w.heap.size w w') := Lib.hid NX.out
    have TK2 : Hid (∀ W : World, Below w.heap.size w W → Calls Try.prog 63 #[.pointer (some ⟨P, 0, none⟩), .int .i64 k] W fun e w' => e = .returned (.tuple #[.agg #[.int .i64 0, .string ⟨#[]⟩, .int .i64 0], .bool false]) ∧ Below W.heap.size W w') := Lib.hid fun W hW => TK.out W hW
    clear NX TK h hp hp2 ht
    have F1 := tok_f1
    go_enter Try.func80, Try.ntmps80
    go_wp2_with fail
    refine NX2.out.mono ?_
    rintro e w1 ⟨rfl, hb1⟩
    have HB1 := Lib.hid hb1
    clear hb1
    go_wp2_with fail
    refine (TK2.out _ HB1.out).mono ?_
    rintro e w2 ⟨rfl, hb2⟩
    have HB2 := Lib.hid (HB1.out.trans (hb2.mono HB1.out.size))
    clear hb2
    go_wp2_with fail
    go_ret
    exact ⟨rfl, HB2.out.alloc HB2.out.size _⟩
  · obtain ⟨t, ht⟩ : ∃ t, nxt l = t := ⟨_, rfl⟩
    rw [ht] at hx NX
    obtain ⟨k1, x, m⟩ := t
    have hne : (x == y) = false := by rw [beq_eq_false_iff_ne]; exact hx
    have NX2 : Hid (Calls Try.prog 67 #[.pointer (some ⟨P, 0, none⟩)] w fun e w' => e = .returned (.agg #[.int .i64 k1, .string ⟨x.toArray⟩, .int .i64 m]) ∧ Below w.heap.size w w') := Lib.hid NX.out
    clear NX h hp ht hx
    have F1 := tok_f1
    go_enter Try.func80, Try.ntmps80
    go_wp2_with fail
    refine NX2.out.mono ?_
    rintro e w1 ⟨rfl, hb1⟩
    have HB1 := Lib.hid hb1
    clear hb1
    go_wp2_with fail
    go_ret
    exact ⟨rfl, HB1.out⟩

/-- where the loop of Spaces stands -/
def SpAt (l : List Tok) (m : List Tok) : Prop := bs m = bs l ∧ m.length ≤ l.length
set_option maxRecDepth 100000 in
set_option maxHeartbeats 1000000 in
theorem Spaces_any {w0 w : World} {P : Nat} {T : TypeId} {rest : List Value} {l : List Tok} (h : Cur w0 w P T rest l) :
    Calls Try.prog 49 #[.pointer (some ⟨P, 0, none⟩)] w fun e w' => e = .returned (.bool (decide ((bs l).length < l.length))) ∧ w.grownBy w' (some P) ∧ Cur w0 w' P T rest (bs l) := by
  have hlt := h.lt
  have H := Lib.hid h
  obtain ⟨a, c, hb, hc1, hc2, hT⟩ := h.ex
  obtain ⟨n, hn⟩ : ∃ n, l.length = n := ⟨_, rfl⟩
  have HN := Lib.hid hn
  rw [hn] at hb hc1 ⊢
  have c0 : w.cell? ⟨P, 0, none⟩ = some (.slice a n c) := cell_of hb rfl
  have hcz : n ≤ 9223372036854775807 := by unfold maxLen at hc2; omega
  clear hb hT h hn hc2 hc1
  go_enter Try.func49, Try.ntmps49
  go_wp2_with fail
  have HP : Hid (Cur w0 w P T rest l ∧ w.grownBy w (some P)) := Lib.hid ⟨H.out, World.grownBy.refl _ _⟩
  clear c0
  go_loopg [12] n (fun gg vv wr => ∃ m : List Tok, m.length = gg ∧ Hid (SpAt l m) ∧ Hid (Cur w0 wr P T rest m) ∧ Hid (w.grownBy wr (some P)))
  case atStart => exact ⟨l, HN.out, Lib.hid ⟨rfl, Nat.le_refl _⟩, HP.out.1, HP.out.2⟩
  case round =>
    obtain ⟨m, hm, HS, HC, HG⟩ := hrel
    cases m with
    | nil =>
      have NX : Hid (Calls Try.prog 67 #[.pointer (some ⟨P, 0, none⟩)] wr fun e w' => e = .returned (.agg #[.int .i64 0, .string ⟨#[]⟩, .int .i64 0]) ∧ Below wr.heap.size wr w') := Lib.hid (Next_any HC.out)
      have F0 := tok_f0
      go_wp2_with fail
      refine NX.out.mono ?_
      rintro e w1 ⟨rfl, hb1⟩
      have HC1 := Lib.hid (HC.out.keep hb1)
      have HG1 := Lib.hid (grownBy_trans HG.out (grownBy_below (some P) hb1))
      obtain ⟨a1, k1, hk, _, hk2, _⟩ := HC1.out.ex
      have c0 : w1.cell? ⟨P, 0, none⟩ = some (.slice a1 0 k1) := cell_of hk rfl
      have hbl : bs l = [] := HS.out.1.symm
      have HF : Hid (decide ((bs l).length < n) = decide (0 < n)) := Lib.hid (by rw [hbl]; rfl)
      have HBL := Lib.hid hbl
      have HF2 := Lib.hid hk2
      clear hb1 hk hbl hm hk2
      go_wp2_with fail
      go_ret
      exact ⟨ret_bool HF.out.symm, HG1.out, by rw [HBL.out]; exact HC1.out⟩
    | cons t r =>
      have NX := Lib.hid (Next_any HC.out)
      obtain ⟨k, x, nn⟩ := t
      have NX2 : Hid (Calls Try.prog 67 #[.pointer (some ⟨P, 0, none⟩)] wr fun e w' => e = .returned (.agg #[.int .i64 k, .string ⟨x.toArray⟩, .int .i64 nn]) ∧ Below wr.heap.size wr w') := Lib.hid NX.out
      have F0 := tok_f0
      clear NX
      by_cases h20 : k = 20
      · have hkz : (k == 20) = true := by rw [beq_iff_eq]; exact h20
        have HS2 : Hid (SpAt l r) := Lib.hid ⟨by rw [← HS.out.1]; exact (bs_sp h20).symm, by have := HS.out.2; simp at this; omega⟩
        clear h20
        go_wp2_with fail
        refine NX2.out.mono ?_
        rintro e w1 ⟨rfl, hb1⟩
        have HC1 := Lib.hid (HC.out.keep hb1)
        have HG1 := Lib.hid (grownBy_trans HG.out (grownBy_below (some P) hb1))
        obtain ⟨a1, k1, hk, hk1, hk2, hT⟩ := HC1.out.ex
        obtain ⟨p, hp⟩ : ∃ p, ((⟨k, x, nn⟩ : Tok) :: r).length = p := ⟨_, rfl⟩
        have hpr : p - 1 = r.length := by rw [← hp]; simp
        have hp0 : 0 < p := by rw [← hp]; simp
        obtain ⟨a2, s1, s2, s3, s4, s5⟩ := sl_from a1 (⟨k, x, nn⟩ :: r) k1 p 1 hp 1 rfl (by omega) (by omega) hk2
        have HT := Lib.hid (s5 w0 hT)
        rw [hp] at hk hk1
        have c0 : w1.cell? ⟨P, 0, none⟩ = some (.slice a1 p k1) := cell_of hk rfl
        have c1 : w1.frozen? ⟨P, 0, none⟩ = false := unfrozen_of hk
        have hst : w1.grownBy (w1.setCell ⟨P, 0, none⟩ (.slice a2 (p - 1) (k1 - 1))) (some P) := grownBy_set _ _ _ _
        have HC2 : Hid (Cur w0 (w1.setCell ⟨P, 0, none⟩ (.slice a2 (p - 1) (k1 - 1))) P T rest r) := Lib.hid ⟨⟨a2, k1 - 1, by rw [setCell_here _ hk, ← hpr]; simp, by omega, s4, HT.out⟩, HC1.out.base, HC1.out.bel.setCell (p := ⟨P, 0, none⟩) HC1.out.base _⟩
        have HG2 := Lib.hid (grownBy_trans HG1.out hst)
        have HM : Hid (r.length < gk) := Lib.hid (by simp at hm; omega)
        unfold maxLen at hk2
        have hpz : (1 : Int) ≤ (p : Int) := by omega
        clear hb1 hk hT hst s2 s5 hp hm hpr
        go_wp2_with fail
        go_roundg r.length
        case rel => exact ⟨r, rfl, HS2, HC2, HG2⟩
        case measure => exact HM.out
      · have hkz : (k == 20) = false := by rw [beq_eq_false_iff_ne]; exact h20
        have hbl : bs l = ⟨k, x, nn⟩ :: r := by rw [← HS.out.1]; exact bs_no h20
        have hle := HS.out.2
        clear h20
        go_wp2_with fail
        refine NX2.out.mono ?_
        rintro e w1 ⟨rfl, hb1⟩
        have HC1 := Lib.hid (HC.out.keep hb1)
        have HG1 := Lib.hid (grownBy_trans HG.out (grownBy_below (some P) hb1))
        obtain ⟨a1, k1, hk, hk1, hk2, hT⟩ := HC1.out.ex
        obtain ⟨p, hp⟩ : ∃ p, ((⟨k, x, nn⟩ : Tok) :: r).length = p := ⟨_, rfl⟩
        rw [hp] at hk hk1 hle
        have c0 : w1.cell? ⟨P, 0, none⟩ = some (.slice a1 p k1) := cell_of hk rfl
        have HF : Hid (decide ((bs l).length < n) = decide (p < n)) := Lib.hid (by rw [hbl, hp])
        have HBL := Lib.hid hbl
        unfold maxLen at hk2
        clear hb1 hk hT hp hm hbl
        go_wp2_with fail
        go_ret
        exact ⟨ret_bool HF.out.symm, HG1.out, by rw [HBL.out]; exact HC1.out⟩
end Go.Proofs.Ytppnpdjbmhbimaa
