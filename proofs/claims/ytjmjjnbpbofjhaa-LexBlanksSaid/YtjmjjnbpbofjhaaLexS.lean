/- Joined texts: LexS1 LexS2 LexS3 LexL3. -/
import Derived.Test.YtjmjjnbpbofjhaaLexW10
import Derived.Test.YtjmjjnbpbofjhaaLexE
import Derived.Test.YtjmjjnbpbofjhaaLexQ
import Derived.Deep.RegionHeld3
import Derived.Deep.RegionWith
import Derived.Test.YtjmjjnbpbofjhaaLexR7
import Derived.Test.YtjmjjnbpbofjhaaLexL1
namespace Go.Proofs.Ytjmjjnbpbofjhaa
open Go.RowKit TreN LexP FixP
set_option linter.unusedVariables false

/-- not too long, nor any of its texts -/
def shortL (l : List Tok) : Bool := l.all (fun t => decide (t.text.length ≤ 200)) && decide (l.length ≤ 60)
theorem Tks.getS {w : World} {a : Option Addr} {l : List Tok} (h : Tks w a l) {i : Nat} (hi : i < l.length) : ∃ b o, a = some ⟨b, o, none⟩ ∧ b < w.heap.size ∧ TkAt w b (o + i * 3) l[i] := by
  rcases h with rfl | ⟨b, o, h1, h2, h3⟩
  · simp at hi
  · exact ⟨b, o, h1, h2, h3 i hi⟩
set_option maxRecDepth 100000 in
set_option maxHeartbeats 1000000 in
theorem short_any (a : Option Addr) (l : List Tok) (cap : Nat) (w : World) (hm : l.length ≤ maxLen) (hT : Tks w a l) :
    Calls Try.prog 23 #[.slice a l.length cap] w fun e w' => e = .returned (.bool (shortL l)) ∧ w = w' := by
  have HT := Lib.hid hT
  obtain ⟨n, hn⟩ : ∃ n, l.length = n := ⟨_, rfl⟩
  have HN := Lib.hid hn
  rw [hn] at hm ⊢
  unfold maxLen at hm
  clear hT hn
  go_enter Try.func23, Try.ntmps23
  go_wp2_with fail
  go_loopw [3] (fun vi wr => ∃ k : Nat, vi = .int .i64 k ∧ k ≤ n ∧ wr = w ∧ Hid (∀ j (hj : j < l.length), j < k → l[j].text.length ≤ 200)) (fun vi _ => n - (intOf vi).toNat)
  case atStart => exact ⟨0, rfl, by omega, rfl, fun j hj h => by omega⟩
  case round =>
    obtain ⟨k, rfl, hk, rfl, HJ⟩ := hrel
    by_cases hlt : k < n
    · have hltz : (k : Int) < (n : Int) := by omega
      have hkl : k < l.length := by have := HN.out; omega
      obtain ⟨b1, o1, rfl, g1, k1⟩ := HT.out.getS hkl
      obtain ⟨t, ht⟩ : ∃ t, l[k] = t := ⟨_, rfl⟩
      rw [ht] at k1
      have d2 : wr.cell? ⟨b1, o1 + k * 3 + 1, none⟩ = some (.string ⟨t.text.toArray⟩) := k1.text
      have HTT := Lib.hid ht
      clear k1 ht
      obtain ⟨z, hz⟩ : ∃ z, t.text.length = z := ⟨_, rfl⟩
      have HZ := Lib.hid hz
      have hzs : (⟨t.text.toArray⟩ : ByteArray).size = z := hz
      by_cases hq : z ≤ 200
      · have hq1 : ¬ (200 : Int) < (z : Int) := by omega
        have hq2 : (t.text.length : Int) ≤ 200 := by omega
        clear hz hzs
        go_wp2_with fail
        go_roundw
        case rel =>
          refine ⟨k + 1, by go_num, by omega, trivial, fun j hj h => ?_⟩
          by_cases c : j = k
          · subst c; rw [HTT.out, HZ.out]; exact hq
          · exact HJ.out j hj (by omega)
        case measure => simp [intOf]; omega
      · have hq2 : ¬ (t.text.length : Int) ≤ 200 := by omega
        clear hz hzs
        go_wp2_with fail
        go_ret
        refine ⟨ret_bool ?_, rfl⟩
        symm
        unfold shortL
        rw [Bool.and_eq_false_iff]
        left
        rw [List.all_eq_false]
        exact ⟨t, by rw [← HTT.out]; exact List.getElem_mem hkl, by rw [HZ.out]; simp; omega⟩
    · have hltz : ¬ (k : Int) < (n : Int) := by omega
      have hall : shortL l = decide ((n : Int) ≤ 60) := by
        unfold shortL
        have h1 : l.all (fun t => decide (t.text.length ≤ 200)) = true := by
          rw [List.all_eq_true]
          intro t ht
          obtain ⟨j, hj, e⟩ := List.getElem_of_mem ht
          have hn := HN.out
          rw [← e, decide_eq_true_eq]
          exact HJ.out j hj (by omega)
        rw [h1, HN.out, Bool.true_and, decide_eq_decide]
        omega
      have HA := Lib.hid hall
      clear hall
      go_wp2_with fail
      go_ret
      exact ⟨ret_bool HA.out.symm, rfl⟩
end Go.Proofs.Ytjmjjnbpbofjhaa

namespace Go.Proofs.Ytjmjjnbpbofjhaa
open Go.RowKit TreN LexP FixP FixM
set_option linter.unusedVariables false

theorem size_txS (l : List UInt8) : (⟨l.toArray⟩ : ByteArray).data.toList = l := by simp
theorem prT_oneS (l : List Tok) (h : 0 < l.length) : prT l 1 = tx l[0] := by
  cases l with
  | nil => simp at h
  | cons a l => rfl
theorem TkAt.drewN {w : World} {b o : Nat} {t : Tok} (h : TkAt w b o t) (q : Nat) : TkAt (w.drewN q) b o t := ⟨h.kind, h.text, h.n⟩
/-- two tokens of a list -/
theorem slice_two (b o n cap j k : Nat) (hj : k = j + 1) (hk : k < n) (hc : n ≤ cap) : (∀ W : World, (Instr.slice 49 (.slice (some ⟨b, o, none⟩) n cap) (some (.int .i64 (j : Int))) (some (.int .i64 ((k : Int) + 1))) none).run Try.prog W = .ok (.slice (some ⟨b, o + j * 3, none⟩) 2 (cap - j)) W) ∧
    (∀ W : World, (Instr.sliceAt 49 (.slice (some ⟨b, o, none⟩) n cap) (some (.int .i64 (j : Int))) (some (.int .i64 ((k : Int) + 1))) none).run Try.prog W = .ok (.slice (some ⟨b, o + j * 3, none⟩) 2 (cap - j)) W) := by
  obtain ⟨i, hi, hz0, hz1, hz2⟩ := info_parts info_token
  have he : Try.prog.elem 49 = 47 := by kernel_rfl
  have hu : Try.prog.underlying 49 = some (.slice (Try.prog.elem 49)) := by rw [he]; exact und_tokens
  have hs : ∀ W : World, (sizeOf (Try.prog.elem 49)).run Try.prog W = .ok 3 W := fun W => by rw [he]; simp [sizeOf, typeInfo, hi, hz1]
  have h1 : ∀ W : World, (Instr.slice 49 (.slice (some ⟨b, o, none⟩) n cap) (some (.int .i64 (j : Int))) (some (.int .i64 ((k : Int) + 1))) none).run Try.prog W = .ok (.slice (some ⟨b, o + j * 3, none⟩) 2 (cap - j)) W := fun W => by
    rw [run_slice_lh W 49 _ _ _ hu .i64 .i64 (j : Int) ((k : Int) + 1) (by omega) (by omega) (by omega), hs]
    have e2 : (j : Int).toNat = j := by omega
    have e3 : ((k : Int) + 1).toNat = k + 1 := by omega
    have e4 : k + 1 - j = 2 := by omega
    have hck : ¬ cap = j := by omega
    show Result.ok (sliced _ _ _ _ _) W = _
    unfold sliced
    simp [e2, e3, e4, hck, Addr.add_lit]
  exact ⟨h1, fun W => by rw [run_sliceAt_slice W 49 _ _ _ _ hu, h1]⟩
theorem Tks.pair {w : World} {b o : Nat} {l : List Tok} (h : Tks w (some ⟨b, o, none⟩) l) {j : Nat} (hj : j + 1 < l.length) : Tks w (some ⟨b, o + j * 3, none⟩) [l[j], l[j + 1]] := by
  obtain ⟨b2, o2, e, h1, h2⟩ := h.get (i := j) (by omega)
  injection e with e; injection e with e1 e2; subst e1; subst e2
  obtain ⟨b3, o3, e, _, h3⟩ := h.get (i := j + 1) hj
  injection e with e; injection e with e1 e2; subst e1; subst e2
  refine Or.inr ⟨b, _, rfl, h1, fun i hi => ?_⟩
  have hi : i < 2 := hi
  rcases (by omega : i = 0 ∨ i = 1) with e | e
  · subst e; rw [Nat.zero_mul, Nat.add_zero]; exact h2
  · subst e
    have : o + j * 3 + 1 * 3 = o + (j + 1) * 3 := by omega
    rw [this]; exact h3
theorem tot_short (l : List Tok) (h : ∀ t ∈ l, t.text.length ≤ 200) (hx : ∀ t : Tok, (tx t).length ≤ t.text.length + 40) : tot l ≤ 244 * l.length := by
  induction l with
  | nil => simp [tot]
  | cons t l ih =>
    have h1 := h t List.mem_cons_self
    have h2 := hx t
    have := ih (fun t ht => h t (List.mem_cons_of_mem _ ht))
    simp only [tot, List.length_cons]
    omega
theorem len_ifS {c : Prop} [Decidable c] {a b : List UInt8} {n : Nat} (ha : a.length ≤ n) (hb : b.length ≤ n) : (if c then a else b).length ≤ n := by
  split
  · exact ha
  · exact hb
theorem len_txS (t : Tok) : (tx t).length ≤ t.text.length + 40 := by
  have hp := prn_le12 (H t.n)
  have lq : (quoT t.text).length = t.text.length + 2 := by unfold quoT; split <;> simp
  unfold tx
  generalize prn (H t.n) = y at hp ⊢
  repeat' apply len_ifS
  all_goals try simp only [List.length_append, List.length_cons, List.length_nil]
  all_goals omega

set_option maxRecDepth 100000 in
set_option maxHeartbeats 4000000 in
theorem refPr_any (a : Option Addr) (l : List Tok) (cap : Nat) (w : World) (hl : l.length ≤ 60) (hc : l.length ≤ cap) (hT : Tks w a l) (hf : ∀ t ∈ l, t.text.length ≤ 200) :
    Calls Try.prog 27 #[.slice a l.length cap] w fun e w' => e = .returned (.string ⟨(printL l).toArray⟩) ∧ Below w.heap.size w w' := by
  have htot := tot_short l hf len_txS
  have HP : Hid (∀ j, j ≤ l.length → (prT l j).length ≤ 20000) := Lib.hid fun j hj => by have := prT_le l j hj; omega
  have HF := Lib.hid hf
  have HT := Lib.hid hT
  obtain ⟨n, hn⟩ : ∃ n, l.length = n := ⟨_, rfl⟩
  have HN := Lib.hid hn
  rw [hn] at hl hc ⊢
  clear hT hf hn htot
  go_enter Try.func27, Try.ntmps27
  go_wp2_with fail
  go_loopw [3, 4, 5] (fun vs vl vi wr => ∃ k : Nat, vi = .int .i64 k ∧ k ≤ n ∧ vs = .string ⟨(prT l k).toArray⟩ ∧ (∃ z : List UInt8, vl = .string ⟨z.toArray⟩ ∧ Hid (∀ j (hj : j < l.length), k = j + 1 → tx l[j] = z) ∧ Hid (k = 0 → z = [])) ∧ Hid (Below w.heap.size w wr)) (fun _ _ vi _ => n - (intOf vi).toNat)
  case atStart => exact ⟨0, rfl, by omega, rfl, ⟨[], rfl, fun j hj h => by omega, fun _ => rfl⟩, Lib.hid (Below.refl _ _)⟩
  case round =>
    obtain ⟨k, rfl, hk, rfl, ⟨z, rfl, HZ, HZ0⟩, HB⟩ := hrel
    by_cases hlt : k < n
    · have hltz : (k : Int) < (n : Int) := by omega
      have hkl : k < l.length := by have := HN.out; omega
      obtain ⟨b1, o1, rfl, g1, k1⟩ := HT.out.get hkl
      obtain ⟨t, ht⟩ : ∃ t, l[k] = t := ⟨_, rfl⟩
      rw [ht] at k1
      have k2 := k1.below HB.out g1
      have hmem : t ∈ l := by rw [← ht]; exact List.getElem_mem hkl
      have hf1 := HF.out t hmem
      have hlx := len_txS t
      have C : ∀ W : World, Calls Try.prog 49 #[t.val] W fun e w' => e = .returned (.tuple #[.string ⟨(tx t).toArray⟩, .bool (hasTx t.kind)]) ∧ Below W.heap.size W w' := fun W => refTxt_any t W (by omega)
      obtain ⟨hk0, hhk⟩ : ∃ x, hasTx t.kind = x := ⟨_, rfl⟩
      rw [hhk] at C
      have CC := Lib.hid C
      unfold LexP.Tok.val at CC
      have d1 : wr.cell? ⟨b1, o1 + k * 3, none⟩ = some (.int .i64 t.kind) := k2.kind
      have d2 : wr.cell? ⟨b1, o1 + k * 3 + 1, none⟩ = some (.string ⟨t.text.toArray⟩) := k2.text
      have d3 : wr.cell? ⟨b1, o1 + k * 3 + 2, none⟩ = some (.int .i64 t.n) := k2.n
      have HTT := Lib.hid ht
      have hpk := HP.out k (by omega)
      have hnx : k = 0 → prT l (k + 1) = prT l k ++ tx t := fun h => by subst h; rw [prT_oneS l hkl, ht]; rfl
      clear k1 k2 C ht hmem hhk
      by_cases h0 : k = 0
      · subst h0
        have hz := HZ0.out rfl
        subst hz
        have hnx := hnx rfl
        have HNX := Lib.hid hnx
        have a1 : ∀ W : World, (Op.stringOp .add ⟨(prT l 0).toArray⟩ ⟨(tx t).toArray⟩).run Try.prog W = .ok (.string ⟨(prT l 0 ++ tx t).toArray⟩) W := fun W => add_any W _ _ (by omega) (by omega)
        rw [Nat.zero_mul, Nat.add_zero] at d1 d2 d3
        clear hnx hlx hf1
        go_wp2_with fail
        refine (CC.out _).mono ?_
        rintro e w2 ⟨rfl, hb⟩
        have hb2 : Below w.heap.size w w2 := HB.out.trans (hb.mono HB.out.size)
        have HB2 := Lib.hid hb2
        clear hb hb2 CC d1 d2 d3
        go_wp2_with fail
        go_quiet (fail)
        go_wp2_with fail
        go_roundw
        case rel => exact ⟨1, by go_num, by omega, by rw [HNX.out], ⟨tx t, rfl, Lib.hid (fun j hj h => by have e : j = 0 := by { omega }; subst e; exact congrArg tx HTT.out), Lib.hid (fun h => by omega)⟩, Lib.hid (below_drewN2 HB2.out nq)⟩
        case measure => simp [intOf]; omega
      · obtain ⟨j, hkj⟩ : ∃ j, k = j + 1 := ⟨k - 1, by omega⟩
        have hjl : j < l.length := by omega
        obtain ⟨u, hu⟩ : ∃ u, l[j] = u := ⟨_, rfl⟩
        have hz := HZ.out j hjl hkj
        rw [hu] at hz
        have hf2 : u.text.length ≤ 200 := HF.out u (by rw [← hu]; exact List.getElem_mem hjl)
        have hux := len_txS u
        have hnx : prT l (k + 1) = prT l k ++ (sepL u t ++ tx t) := by
          have := prT_next l j (by omega)
          subst hkj
          rw [this, hu, HTT.out]
        obtain ⟨tf, htf⟩ : ∃ tf, decide (cut (tx u ++ tx t) = [u, t]) = tf := ⟨_, rfl⟩
        have hsep : sepL u t = if tf = true then [] else [47, 42, 42, 47] := by
          unfold sepL
          rw [← htf]
          simp only [decide_eq_true_eq]
        rw [hz] at htf hux
        obtain ⟨cz, hcc⟩ : ∃ cz, cut (z ++ tx t) = cz := ⟨_, rfl⟩
        have hcl : cz.length ≤ 1000 := by
          rw [← hcc]
          have := (cut_texts _ (z ++ tx t) (Nat.le_refl _)).1
          rw [List.length_append] at this
          omega
        have hcut : ∀ W : World, Calls Try.prog 29 #[.string ⟨(z ++ tx t).toArray⟩] W (ToldList W cz) := fun W => by
          have := refCut_any ⟨(z ++ tx t).toArray⟩ W (by show (z ++ tx t).toArray.size ≤ 40000; simp; omega)
          rw [size_txS, hcc] at this
          exact this
        rw [hcc] at htf
        have hsame : ∀ (W : World) (a2 : Option Addr) (c2 : Nat), Tks W a2 cz → Below w.heap.size w W → Calls Try.prog 28 #[.slice a2 cz.length c2, .slice (some ⟨b1, o1 + j * 3, none⟩) 2 (cap - j)] W fun e w' => e = .returned (.bool tf) ∧ ∃ q, w' = W.drewN q := fun W a2 c2 h1 h2 => by
          have hp := (HT.out.pair (j := j) (by omega)).below h2
          have e1 : [l[j], l[j + 1]] = [u, t] := by
            rw [hu]
            have : l[j + 1]'(by omega) = t := by rw [← HTT.out]; congr 1; omega
            rw [this]
          rw [e1] at hp
          have := refSame_any a2 (some ⟨b1, o1 + j * 3, none⟩) c2 (cap - j) cz [u, t] W (by omega) h1 hp
          rw [htf] at this
          exact this
        obtain ⟨s1, s2⟩ := slice_two b1 o1 n cap j k hkj hlt hc
        obtain ⟨sp, hsp⟩ : ∃ sp, sepL u t = sp := ⟨_, rfl⟩
        rw [hsp] at hnx hsep
        have a0 : ∀ W : World, (Op.stringOp .add ⟨z.toArray⟩ ⟨(tx t).toArray⟩).run Try.prog W = .ok (.string ⟨(z ++ tx t).toArray⟩) W := fun W => add_any W _ _ (by omega) (by omega)
        have a2 : ∀ W : World, (Op.stringOp .add ⟨(prT l k).toArray⟩ ⟨#[47, 42, 42, 47]⟩).run Try.prog W = .ok (.string ⟨(prT l k ++ [47, 42, 42, 47]).toArray⟩) W := fun W => add_any W _ [47, 42, 42, 47] (by omega) (by simp)
        have ad3 : ∀ W : World, (Op.stringOp .add ⟨(prT l k ++ [47, 42, 42, 47]).toArray⟩ ⟨(tx t).toArray⟩).run Try.prog W = .ok (.string ⟨(prT l k ++ [47, 42, 42, 47] ++ tx t).toArray⟩) W := fun W => add_any W _ _ (by simp; omega) (by omega)
        have a4 : ∀ W : World, (Op.stringOp .add ⟨(prT l k).toArray⟩ ⟨(tx t).toArray⟩).run Try.prog W = .ok (.string ⟨(prT l k ++ tx t).toArray⟩) W := fun W => add_any W _ _ (by omega) (by omega)
        have HC := Lib.hid hcut
        have HS := Lib.hid hsame
        have HSEP := Lib.hid hsep
        have HNX := Lib.hid hnx
        have hk0z : (0 : Int) < (k : Int) := by omega
        have hkd : decide (0 < k) = true := by simp; omega
        have hw : IntKind.i64.wrap ((k : Int) - 1) = (j : Int) := by
          have : (k : Int) - 1 = (j : Int) := by omega
          rw [this]
          exact IntWalk.i64_in _ (by omega)
        have hs0 : (0 : Int) ≤ (k : Int) - 1 := by omega
        have hs1 : (j : Int) ≤ (k : Int) + 1 := by omega
        have hs2 : (k : Int) + 1 ≤ (cap : Int) := by omega
        have hw2 : IntKind.i64.wrap ((k : Int) + 1) = (k : Int) + 1 := IntWalk.i64_in _ (by omega)
        have HKJ := Lib.hid hkj
        clear hcut hsame hsep hnx hkj h0 hcc htf hsp hu hjl hux hf1 hf2 hlx hz
        go_wp2_with fail
        refine (CC.out _).mono ?_
        rintro e w2 ⟨rfl, hb⟩
        have hb2 : Below w.heap.size w w2 := HB.out.trans (hb.mono HB.out.size)
        have HB2 := Lib.hid hb2
        clear hb CC d1 d2 d3
        go_wp2_with fail
        go_region_held3 (fun w' => Below w.heap.size w w')
          ((first
            | assumption
            | exact Below.drew (by assumption)
            | exact HB2.out))
          ((first
            | (go_at_call 29; refine (HC.out _).mono ?_; rintro e w3 ⟨a3, cap3, rfl, hT3, hb3⟩; have d6 : Below w.heap.size w w3 := Below.trans (by assumption) (hb3.mono (Below.size (by assumption))); have HT3 := Lib.hid hT3; have HBC := Lib.hid d6; clear hb3 hT3)
            | (go_at_call 28; refine (HS.out _ _ _ HT3.out HBC.out).mono ?_; rintro e w3 ⟨rfl, q3, rfl⟩; have d6 := below_drewN2 HBC.out q3; have HBS := Lib.hid d6)))
        have HBT := HBS
        clear HBS HBC HT3 d6
        generalize w3.drewN q3 = w4 at HBT ⊢
        cases tf
        · have hsp4 : sp = [47, 42, 42, 47] := HSEP.out
          go_wp2_with fail
          go_roundw
          case rel => exact ⟨k + 1, by go_num, by omega, by rw [HNX.out, hsp4]; rfl, ⟨tx t, rfl, Lib.hid (fun i hi h => by have e : i = k := by { omega }; subst e; exact congrArg tx HTT.out), Lib.hid (fun h => by omega)⟩, HBT⟩
          case measure => simp [intOf]; omega
        · have hsp4 : sp = [] := HSEP.out
          go_wp2_with fail
          go_roundw
          case rel => exact ⟨k + 1, by go_num, by omega, by rw [HNX.out, hsp4, List.nil_append], ⟨tx t, rfl, Lib.hid (fun i hi h => by have e : i = k := by { omega }; subst e; exact congrArg tx HTT.out), Lib.hid (fun h => by omega)⟩, HBT⟩
          case measure => simp [intOf]; omega
    · have hke : k = n := by omega
      have hall : prT l n = printL l := by rw [← HN.out]; exact prT_all l
      have HA := Lib.hid hall
      clear hall
      have hltz : ¬ (k : Int) < (n : Int) := by omega
      go_wp2_with fail
      go_ret
      exact ⟨by show Ending.returned (Value.string ⟨(prT l n).toArray⟩) = _; rw [HA.out], HB.out⟩
end Go.Proofs.Ytjmjjnbpbofjhaa

namespace Go.Proofs.Ytjmjjnbpbofjhaa
open Go.RowKit TreN LexP FixP FixM
set_option linter.unusedVariables false

set_option maxRecDepth 100000 in
set_option maxHeartbeats 1000000 in
theorem refAll_any (a : Option Addr) (l : List Tok) (cap : Nat) (w : World) (hl : l.length ≤ 100000) (hT : Tks w a l) (hf : ∀ t ∈ l, t.text.length ≤ 30000 ∧ (tx t).length ≤ 40000) :
    Calls Try.prog 25 #[.slice a l.length cap] w fun e w' => e = .returned (.bool (l.all right)) ∧ Below w.heap.size w w' := by
  have HF := Lib.hid hf
  have HT := Lib.hid hT
  obtain ⟨n, hn⟩ : ∃ n, l.length = n := ⟨_, rfl⟩
  have HN := Lib.hid hn
  rw [hn] at hl ⊢
  clear hT hf hn
  go_enter Try.func25, Try.ntmps25
  go_wp2_with fail
  go_loopw [3] (fun vi wr => ∃ k : Nat, vi = .int .i64 k ∧ k ≤ n ∧ Hid (Below w.heap.size w wr) ∧ Hid (∀ j (hj : j < l.length), j < k → right l[j] = true)) (fun vi _ => n - (intOf vi).toNat)
  case atStart => exact ⟨0, rfl, by omega, Lib.hid (Below.refl _ _), Lib.hid fun j hj h => by omega⟩
  case round =>
    obtain ⟨k, rfl, hk, HB, HJ⟩ := hrel
    by_cases hlt : k < n
    · have hltz : (k : Int) < (n : Int) := by omega
      have hkl : k < l.length := by have := HN.out; omega
      obtain ⟨b1, o1, rfl, g1, k1⟩ := HT.out.get hkl
      obtain ⟨t, ht⟩ : ∃ t, l[k] = t := ⟨_, rfl⟩
      rw [ht] at k1
      have k2 := k1.below HB.out g1
      have hmem : t ∈ l := by rw [← ht]; exact List.getElem_mem hkl
      obtain ⟨hf1, hf2⟩ := HF.out t hmem
      have C : ∀ W : World, Calls Try.prog 22 #[t.val] W fun e w' => e = .returned (.bool (right t)) ∧ Below W.heap.size W w' := fun W => refRight_any t W hf1 hf2
      obtain ⟨tf, htf⟩ : ∃ tf, right t = tf := ⟨_, rfl⟩
      rw [htf] at C
      have CC := Lib.hid C
      unfold LexP.Tok.val at CC
      have d1 : wr.cell? ⟨b1, o1 + k * 3, none⟩ = some (.int .i64 t.kind) := k2.kind
      have d2 : wr.cell? ⟨b1, o1 + k * 3 + 1, none⟩ = some (.string ⟨t.text.toArray⟩) := k2.text
      have d3 : wr.cell? ⟨b1, o1 + k * 3 + 2, none⟩ = some (.int .i64 t.n) := k2.n
      have HTT := Lib.hid ht
      have HTF := Lib.hid htf
      have HM := Lib.hid hmem
      clear k1 k2 C hf1 hf2 ht htf hmem
      cases tf
      · go_wp2_with fail
        refine (CC.out _).mono ?_
        rintro e w2 ⟨rfl, hb⟩
        have HB2 := Lib.hid (HB.out.trans (hb.mono HB.out.size))
        clear hb CC
        go_wp2_with fail
        go_ret
        refine ⟨ret_bool ?_, HB2.out⟩
        symm
        rw [List.all_eq_false]
        exact ⟨t, HM.out, by rw [HTF.out]; simp⟩
      · go_wp2_with fail
        refine (CC.out _).mono ?_
        rintro e w2 ⟨rfl, hb⟩
        have HB2 := Lib.hid (HB.out.trans (hb.mono HB.out.size))
        clear hb CC
        go_wp2_with fail
        go_roundw
        case rel =>
          refine ⟨k + 1, by go_num, by omega, HB2, Lib.hid fun j hj h => ?_⟩
          by_cases c : j = k
          · subst c; rw [HTT.out, HTF.out]
          · exact HJ.out j hj (by omega)
        case measure => simp [intOf]; omega
    · have hall : l.all right = true := by
        rw [List.all_eq_true]
        intro t ht
        obtain ⟨j, hj, e⟩ := List.getElem_of_mem ht
        have hn := HN.out
        rw [← e]
        exact HJ.out j hj (by omega)
      have HA := Lib.hid hall
      clear hall
      have hltz : ¬ (k : Int) < (n : Int) := by omega
      go_wp2_with fail
      go_ret
      exact ⟨ret_bool HA.out.symm, HB.out⟩
end Go.Proofs.Ytjmjjnbpbofjhaa

namespace Go.Proofs.Ytjmjjnbpbofjhaa
open Go.RowKit TreN LexP FixP FixM Go.Sort
set_option linter.unusedVariables false

/-- a contract's 'Below' as a world that has grown -/
theorem below_refl' (w : World) : Below w.heap.size w w := Below.refl _ _
theorem Tks.sameC {W : World} {a a2 : Option Addr} {c c2 : Nat} {l m : List Tok} (hl : l.length ≤ 100000) (h1 : Tks W a l) (h2 : Tks W a2 m) :
    Calls Try.prog 28 #[.slice a l.length c, .slice a2 m.length c2] W fun e w' => e = .returned (.bool (decide (l = m))) ∧ Below W.heap.size W w' :=
  (refSame_any a a2 c c2 l m W hl h1 h2).mono (by
    rintro e w' ⟨rfl, q, rfl⟩
    exact ⟨rfl, below_drewN W q⟩)
theorem shortL_iff (l : List Tok) : shortL l = true ↔ (∀ t ∈ l, t.text.length ≤ 200) ∧ l.length ≤ 60 := by
  unfold shortL
  rw [Bool.and_eq_true, List.all_eq_true, decide_eq_true_eq]
  constructor
  · rintro ⟨h1, h2⟩; exact ⟨fun t ht => by simpa using h1 t ht, h2⟩
  · rintro ⟨h1, h2⟩; exact ⟨fun t ht => by simpa using h1 t ht, h2⟩
theorem short_fits {l : List Tok} (h : shortL l = true) : Fits l ∧ (∀ t ∈ l, t.text.length ≤ 30000 ∧ (tx t).length ≤ 40000) ∧ (∀ j, j ≤ l.length → (prT l j).length ≤ 20000) ∧ (printL l).length ≤ 15000 ∧ l.length ≤ 60 := by
  obtain ⟨h1, h2⟩ := (shortL_iff l).1 h
  have ht := tot_short l h1 len_txS
  refine ⟨fun t ht => ?_, fun t ht => ?_, fun j hj => ?_, ?_, h2⟩
  · have := h1 t ht; have := len_txS t; exact ⟨by omega, by omega⟩
  · have := h1 t ht; have := len_txS t; exact ⟨by omega, by omega⟩
  · have := prT_le l j hj; omega
  · have := printL_le l; omega

set_option maxRecDepth 100000 in
set_option maxHeartbeats 4000000 in
theorem LexPrints_walk (a : Option Addr) (l : List Tok) (cap : Nat) (w : World) (h : Has0 w) (hc : l.length ≤ cap) (hm : cap ≤ maxLen) (hT : Tks w a l) :
    Calls Try.prog 5 #[.slice a l.length cap] w fun e w' => e = .returned (.bool true) ∧ Below w.heap.size w w' := by
  have hk : ∀ W : World, Below w.heap.size w W → Calls Try.prog 20 #[] W fun e w' => e = .returned (.bool true) ∧ Below W.heap.size W w' := fun W hW => known5_any W (h.below hW)
  have hS := fun W (hW : Below w.heap.size w W) => short_any a l cap W (by omega) (hT.below hW)
  have KN := Lib.hid hk
  cases hs : shortL l with
  | false =>
    rw [hs] at hS
    have HS := Lib.hid hS
    clear hS hk hs
    go_enter Try.func5, Try.ntmps5
    go_wp2_with fail
    refine (HS.out _ (Below.refl _ _)).mono ?_
    rintro e w1 ⟨rfl, rfl⟩
    go_wp2_with fail
    refine (KN.out _ (Below.refl _ _)).mono ?_
    rintro e w1 ⟨rfl, hb⟩
    go_wp2_with fail
    go_ret
    exact ⟨rfl, hb⟩
  | true =>
    rw [hs] at hS
    obtain ⟨hf, hf2, hp, hpl, h60⟩ := short_fits hs
    have hA := fun W (hW : Below w.heap.size w W) => refAll_any a l cap W (by omega) (hT.below hW) hf2
    cases hr : l.all right with
    | false =>
      rw [hr] at hA
      have hP := fun W (hW : Below w.heap.size w W) => Print_bad a l cap W (h.below hW) (hT.below hW) (by omega) hf (by
        rw [List.all_eq_false] at hr
        obtain ⟨t, ht, hn⟩ := hr
        exact ⟨t, ht, by simpa using hn⟩)
      have HS := Lib.hid hS
      have HP := Lib.hid hP
      have HA := Lib.hid hA
      clear hS hk hs hP hA hr hf hf2 hp h
      go_enter Try.func5, Try.ntmps5
      go_wp2_with fail
      refine (HS.out _ (Below.refl _ _)).mono ?_
      rintro e w1 ⟨rfl, rfl⟩
      go_wp2_with fail
      refine (HP.out _ (Below.refl _ _)).mono ?_
      rintro e w2 ⟨rfl, hb2⟩
      have HB2 := Lib.hid hb2
      clear hb2
      go_wp2_with fail
      refine (HA.out _ HB2.out).mono ?_
      rintro e w3 ⟨rfl, hb3⟩
      have HB3 := Lib.hid (HB2.out.trans (hb3.mono HB2.out.size))
      clear hb3
      go_wp2_with fail
      refine (KN.out _ HB3.out).mono ?_
      rintro e w4 ⟨rfl, hb4⟩
      have HB4 := Lib.hid (HB3.out.trans (hb4.mono HB3.out.size))
      clear hb4
      go_wp2_with fail
      go_ret
      exact ⟨rfl, HB4.out⟩
    | true =>
      rw [hr] at hA
      have hr' : ∀ t ∈ l, right t = true := by rw [List.all_eq_true] at hr; exact hr
      have hP := fun W (hW : Below w.heap.size w W) => Print_ok a l cap W (h.below hW) (hT.below hW) (by omega) hf hr' (fun j hj => by have := hp j hj; omega)
      have hcut : cut (printL l) = l := print_cut_nil l (fun t ht => right_shape (hr' t ht))
      have hL : ∀ W : World, Below w.heap.size w W → Calls Try.prog 26 #[.string ⟨(printL l).toArray⟩] W (ToldTks W l 0) := fun W hW => by
        have := Lex_any ⟨(printL l).toArray⟩ W (h.below hW) (by show (printL l).toArray.size ≤ 32768; simp; omega)
        rw [size_txS, hcut] at this
        exact this
      have hRP := fun W (hW : Below w.heap.size w W) => refPr_any a l cap W (by omega) hc (hT.below hW) ((shortL_iff l).1 hs).1
      have hSm : ∀ (W : World) (a2 : Option Addr) (c2 : Nat), Tks W a2 l → Below w.heap.size w W → Calls Try.prog 28 #[.slice a2 l.length c2, .slice a l.length cap] W fun e w' => e = .returned (.bool true) ∧ Below W.heap.size W w' := fun W a2 c2 h2 hW => by
        have := Tks.sameC (c := c2) (c2 := cap) (by omega) h2 (hT.below hW)
        rw [decide_eq_true rfl] at this
        exact this
      have HS := Lib.hid hS
      have HP := Lib.hid hP
      have HA := Lib.hid hA
      have HL := Lib.hid hL
      have HRP := Lib.hid hRP
      have HSM := Lib.hid hSm
      clear hS hk hs hP hA hr hf hf2 hp h hL hRP hSm hcut hr'
      generalize hpr : printL l = pr at HP HL HRP hpl ⊢
      clear hpr
      obtain ⟨n, hn⟩ : ∃ n, l.length = n := ⟨_, rfl⟩
      unfold ToldTks at HL
      rw [hn] at HS HP HA HL HRP HSM ⊢
      clear hn hT
      go_enter Try.func5, Try.ntmps5
      go_wp2_with fail
      refine (HS.out _ (Below.refl _ _)).mono ?_
      rintro e w1 ⟨rfl, rfl⟩
      go_wp2_with fail
      refine (HP.out _ (Below.refl _ _)).mono ?_
      rintro e w2 ⟨rfl, hb2⟩
      have HB2 := Lib.hid hb2
      clear hb2
      go_wp2_with fail
      refine (HA.out _ HB2.out).mono ?_
      rintro e w3 ⟨rfl, hb3⟩
      have HB3 := Lib.hid (HB2.out.trans (hb3.mono HB2.out.size))
      clear hb3
      go_wp2_with fail
      refine (HL.out _ HB3.out).mono ?_
      rintro e w4 ⟨a4, c4, rfl, hT4, hb4⟩
      have HB4 := Lib.hid (HB3.out.trans (hb4.mono HB3.out.size))
      have HT4 := Lib.hid hT4
      clear hb4 hT4
      go_wp2_with fail
      refine (HRP.out _ HB4.out).mono ?_
      rintro e w5 ⟨rfl, hb5⟩
      have HB5 := Lib.hid (HB4.out.trans (hb5.mono HB4.out.size))
      have HT5 := Lib.hid (HT4.out.below hb5)
      clear hb5 HT4
      go_wp2_with fail
      refine (HSM.out _ _ _ HT5.out HB5.out).mono ?_
      rintro e w6 ⟨rfl, hb6⟩
      have HB6 := Lib.hid (HB5.out.trans (hb6.mono HB5.out.size))
      clear hb6 HT5
      go_wp2_with fail
      refine (KN.out _ HB6.out).mono ?_
      rintro e w7 ⟨rfl, hb7⟩
      have HB7 := Lib.hid (HB6.out.trans (hb7.mono HB6.out.size))
      clear hb7
      go_wp2_with fail
      go_ret
      exact ⟨rfl, HB7.out⟩
end Go.Proofs.Ytjmjjnbpbofjhaa
