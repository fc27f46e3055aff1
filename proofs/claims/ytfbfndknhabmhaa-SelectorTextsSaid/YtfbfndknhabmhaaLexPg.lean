/- Layer 5's reference: longer lists are printed. -/
import Derived.Test.YtfbfndknhabmhaaLexSb
namespace Go.Proofs.Ytfbfndknhabmhaa
open Go.RowKit TreN LexP FixP FixM
set_option linter.unusedVariables false

set_option maxRecDepth 100000 in
set_option maxHeartbeats 4000000 in
theorem refPrG_any (a : Option Addr) (l : List Tok) (cap : Nat) (w : World) (hl : l.length ≤ 10000) (hc : l.length ≤ cap) (hT : Tks w a l) (hf : ∀ t ∈ l, t.text.length ≤ 1000) (hP : ∀ j, j ≤ l.length → (prT l j).length ≤ 20000) :
    Calls Try.prog 15 #[.slice a l.length cap] w fun e w' => e = .returned (.string ⟨(printL l).toArray⟩) ∧ Below w.heap.size w w' := by
  have HP : Hid (∀ j, j ≤ l.length → (prT l j).length ≤ 20000) := Lib.hid hP
  have HF := Lib.hid hf
  have HT := Lib.hid hT
  obtain ⟨n, hn⟩ : ∃ n, l.length = n := ⟨_, rfl⟩
  have HN := Lib.hid hn
  rw [hn] at hl hc ⊢
  clear hT hf hn hP
  go_enter Try.func15, Try.ntmps15
  go_wp2_with fail
  go_loopw [3, 4, 5] (fun vs vl vi wr => ∃ k : Nat, vi = .int .i64 k ∧ k ≤ n ∧ vs = .string ⟨(prT l k).toArray⟩ ∧ (∃ z : List UInt8, vl = .string ⟨z.toArray⟩ ∧ Hid (∀ j (hj : j < l.length), k = j + 1 → tx l[j] = z) ∧ Hid (k = 0 → z = [])) ∧ Hid (Below w.heap.size w wr)) (fun _ _ vi _ => n - (intOf vi).toNat)
  case atStart => exact ⟨0, rfl, by omega, rfl, ⟨[], rfl, fun j hj h => by omega, fun _ => rfl⟩, Lib.hid (Below.refl _ _)⟩
  case round =>
    obtain ⟨k, rfl, hk, rfl, ⟨z, rfl, HZ, HZ0⟩, HB⟩ := hrel
    by_cases hlt : k < n
    · have hltz : (k : Int) < (n : Int) := by omega
      have hkl : k < l.length := by have := HN.out; omega
      obtain ⟨b1, o1, rfl, g1, k1⟩ := HT.out.get hkl
      obtain ⟨t, ht⟩ : ∃ t, l[k] = t := ⟨_, rfl⟩
      rw [ht] at k1
      have k2 := k1.below HB.out g1
      have hmem : t ∈ l := by rw [← ht]; exact List.getElem_mem hkl
      have hf1 := HF.out t hmem
      have hlx := len_txS t
      have C : ∀ W : World, Calls Try.prog 32 #[t.val] W fun e w' => e = .returned (.tuple #[.string ⟨(tx t).toArray⟩, .bool (hasTx t.kind)]) ∧ Below W.heap.size W w' := fun W => refTxt_any t W (by omega)
      obtain ⟨hk0, hhk⟩ : ∃ x, hasTx t.kind = x := ⟨_, rfl⟩
      rw [hhk] at C
      have CC := Lib.hid C
      unfold LexP.Tok.val at CC
      have d1 : wr.cell? ⟨b1, o1 + k * 3, none⟩ = some (.int .i64 t.kind) := k2.kind
      have d2 : wr.cell? ⟨b1, o1 + k * 3 + 1, none⟩ = some (.string ⟨t.text.toArray⟩) := k2.text
      have d3 : wr.cell? ⟨b1, o1 + k * 3 + 2, none⟩ = some (.int .i64 t.n) := k2.n
      have HTT := Lib.hid ht
      have hpk := HP.out k (by omega)
      have hnx : k = 0 → prT l (k + 1) = prT l k ++ tx t := fun h => by subst h; rw [prT_oneS l hkl, ht]; rfl
      clear k1 k2 C ht hmem hhk
      by_cases h0 : k = 0
      · subst h0
        have hz := HZ0.out rfl
        subst hz
        have hnx := hnx rfl
        have HNX := Lib.hid hnx
        have a1 : ∀ W : World, (Op.stringOp .add ⟨(prT l 0).toArray⟩ ⟨(tx t).toArray⟩).run Try.prog W = .ok (.string ⟨(prT l 0 ++ tx t).toArray⟩) W := fun W => add_any W _ _ (by omega) (by omega)
        rw [Nat.zero_mul, Nat.add_zero] at d1 d2 d3
        clear hnx hlx hf1
        go_wp2_with fail
        refine (CC.out _).mono ?_
        rintro e w2 ⟨rfl, hb⟩
        have hb2 : Below w.heap.size w w2 := HB.out.trans (hb.mono HB.out.size)
        have HB2 := Lib.hid hb2
        clear hb hb2 CC d1 d2 d3
        go_wp2_with fail
        go_quiet (fail)
        go_wp2_with fail
        go_roundw
        case rel => exact ⟨1, by go_num, by omega, by rw [HNX.out], ⟨tx t, rfl, Lib.hid (fun j hj h => by have e : j = 0 := by { omega }; subst e; exact congrArg tx HTT.out), Lib.hid (fun h => by omega)⟩, Lib.hid (below_drewN2 HB2.out nq)⟩
        case measure => simp [intOf]; omega
      · obtain ⟨j, hkj⟩ : ∃ j, k = j + 1 := ⟨k - 1, by omega⟩
        have hjl : j < l.length := by omega
        obtain ⟨u, hu⟩ : ∃ u, l[j] = u := ⟨_, rfl⟩
        have hz := HZ.out j hjl hkj
        rw [hu] at hz
        have hf2 : u.text.length ≤ 1000 := HF.out u (by rw [← hu]; exact List.getElem_mem hjl)
        have hux := len_txS u
        have hnx : prT l (k + 1) = prT l k ++ (sepL u t ++ tx t) := by
          have := prT_next l j (by omega)
          subst hkj
          rw [this, hu, HTT.out]
        obtain ⟨tf, htf⟩ : ∃ tf, decide (cut (tx u ++ tx t) = [u, t]) = tf := ⟨_, rfl⟩
        have hsep : sepL u t = if tf = true then [] else [47, 42, 42, 47] := by
          unfold sepL
          rw [← htf]
          simp only [decide_eq_true_eq]
        rw [hz] at htf hux
        obtain ⟨cz, hcc⟩ : ∃ cz, cut (z ++ tx t) = cz := ⟨_, rfl⟩
        have hcl : cz.length ≤ 4000 := by
          rw [← hcc]
          have := (cut_texts _ (z ++ tx t) (Nat.le_refl _)).1
          rw [List.length_append] at this
          omega
        have hcut : ∀ W : World, Calls Try.prog 14 #[.string ⟨(z ++ tx t).toArray⟩] W (ToldList W cz) := fun W => by
          have := refCut_any ⟨(z ++ tx t).toArray⟩ W (by show (z ++ tx t).toArray.size ≤ 40000; simp; omega)
          rw [size_txS, hcc] at this
          exact this
        rw [hcc] at htf
        have hsame : ∀ (W : World) (a2 : Option Addr) (c2 : Nat), Tks W a2 cz → Below w.heap.size w W → Calls Try.prog 11 #[.slice a2 cz.length c2, .slice (some ⟨b1, o1 + j * 3, none⟩) 2 (cap - j)] W fun e w' => e = .returned (.bool tf) ∧ ∃ q, w' = W.drewN q := fun W a2 c2 h1 h2 => by
          have hp := (HT.out.pair (j := j) (by omega)).below h2
          have e1 : [l[j], l[j + 1]] = [u, t] := by
            rw [hu]
            have : l[j + 1]'(by omega) = t := by rw [← HTT.out]; congr 1; omega
            rw [this]
          rw [e1] at hp
          have := refSame_any a2 (some ⟨b1, o1 + j * 3, none⟩) c2 (cap - j) cz [u, t] W (by omega) h1 hp
          rw [htf] at this
          exact this
        obtain ⟨s1, s2⟩ := slice_two b1 o1 n cap j k hkj hlt hc
        obtain ⟨sp, hsp⟩ : ∃ sp, sepL u t = sp := ⟨_, rfl⟩
        rw [hsp] at hnx hsep
        have a0 : ∀ W : World, (Op.stringOp .add ⟨z.toArray⟩ ⟨(tx t).toArray⟩).run Try.prog W = .ok (.string ⟨(z ++ tx t).toArray⟩) W := fun W => add_any W _ _ (by omega) (by omega)
        have a2 : ∀ W : World, (Op.stringOp .add ⟨(prT l k).toArray⟩ ⟨#[47, 42, 42, 47]⟩).run Try.prog W = .ok (.string ⟨(prT l k ++ [47, 42, 42, 47]).toArray⟩) W := fun W => add_any W _ [47, 42, 42, 47] (by omega) (by simp)
        have ad3 : ∀ W : World, (Op.stringOp .add ⟨(prT l k ++ [47, 42, 42, 47]).toArray⟩ ⟨(tx t).toArray⟩).run Try.prog W = .ok (.string ⟨(prT l k ++ [47, 42, 42, 47] ++ tx t).toArray⟩) W := fun W => add_any W _ _ (by simp; omega) (by omega)
        have a4 : ∀ W : World, (Op.stringOp .add ⟨(prT l k).toArray⟩ ⟨(tx t).toArray⟩).run Try.prog W = .ok (.string ⟨(prT l k ++ tx t).toArray⟩) W := fun W => add_any W _ _ (by omega) (by omega)
        have HC := Lib.hid hcut
        have HS := Lib.hid hsame
        have HSEP := Lib.hid hsep
        have HNX := Lib.hid hnx
        have hk0z : (0 : Int) < (k : Int) := by omega
        have hkd : decide (0 < k) = true := by simp; omega
        have hw : IntKind.i64.wrap ((k : Int) - 1) = (j : Int) := by
          have : (k : Int) - 1 = (j : Int) := by omega
          rw [this]
          exact IntWalk.i64_in _ (by omega)
        have hs0 : (0 : Int) ≤ (k : Int) - 1 := by omega
        have hs1 : (j : Int) ≤ (k : Int) + 1 := by omega
        have hs2 : (k : Int) + 1 ≤ (cap : Int) := by omega
        have hw2 : IntKind.i64.wrap ((k : Int) + 1) = (k : Int) + 1 := IntWalk.i64_in _ (by omega)
        have HKJ := Lib.hid hkj
        clear hcut hsame hsep hnx hkj h0 hcc htf hsp hu hjl hux hf1 hf2 hlx hz
        go_wp2_with fail
        refine (CC.out _).mono ?_
        rintro e w2 ⟨rfl, hb⟩
        have hb2 : Below w.heap.size w w2 := HB.out.trans (hb.mono HB.out.size)
        have HB2 := Lib.hid hb2
        clear hb CC d1 d2 d3
        go_wp2_with fail
        go_region_held3 (fun w' => Below w.heap.size w w')
          ((first
            | assumption
            | exact Below.drew (by assumption)
            | exact HB2.out))
          ((first
            | (go_at_call 14; refine (HC.out _).mono ?_; rintro e w3 ⟨a3, cap3, rfl, hT3, hb3⟩; have d6 : Below w.heap.size w w3 := Below.trans (by assumption) (hb3.mono (Below.size (by assumption))); have HT3 := Lib.hid hT3; have HBC := Lib.hid d6; clear hb3 hT3)
            | (go_at_call 11; refine (HS.out _ _ _ HT3.out HBC.out).mono ?_; rintro e w3 ⟨rfl, q3, rfl⟩; have d6 := below_drewN2 HBC.out q3; have HBS := Lib.hid d6)))
        have HBT := HBS
        clear HBS HBC HT3 d6
        generalize w3.drewN q3 = w4 at HBT ⊢
        cases tf
        · have hsp4 : sp = [47, 42, 42, 47] := HSEP.out
          go_wp2_with fail
          go_roundw
          case rel => exact ⟨k + 1, by go_num, by omega, by rw [HNX.out, hsp4]; rfl, ⟨tx t, rfl, Lib.hid (fun i hi h => by have e : i = k := by { omega }; subst e; exact congrArg tx HTT.out), Lib.hid (fun h => by omega)⟩, HBT⟩
          case measure => simp [intOf]; omega
        · have hsp4 : sp = [] := HSEP.out
          go_wp2_with fail
          go_roundw
          case rel => exact ⟨k + 1, by go_num, by omega, by rw [HNX.out, hsp4, List.nil_append], ⟨tx t, rfl, Lib.hid (fun i hi h => by have e : i = k := by { omega }; subst e; exact congrArg tx HTT.out), Lib.hid (fun h => by omega)⟩, HBT⟩
          case measure => simp [intOf]; omega
    · have hke : k = n := by omega
      have hall : prT l n = printL l := by rw [← HN.out]; exact prT_all l
      have HA := Lib.hid hall
      clear hall
      have hltz : ¬ (k : Int) < (n : Int) := by omega
      go_wp2_with fail
      go_ret
      exact ⟨by show Ending.returned (Value.string ⟨(prT l n).toArray⟩) = _; rw [HA.out], HB.out⟩
end Go.Proofs.Ytfbfndknhabmhaa
