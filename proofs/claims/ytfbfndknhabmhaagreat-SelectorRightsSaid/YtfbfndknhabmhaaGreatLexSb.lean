/- Joined texts: AppT LexSa. -/
import Derived.Test.YtfbfndknhabmhaaGreatLexE
import Derived.OwnWalk
import Derived.Test.YtfbfndknhabmhaaGreatLexJa
import Derived.Test.YtfbfndknhabmhaaGreatLexT3
import Derived.Test.YtfbfndknhabmhaaGreatLexQ
import Derived.Deep.RegionHeld3
import Derived.Deep.RegionWith
namespace Go.Proofs.YtfbfndknhabmhaaGreat
open Go.RowKit TreN LexP FixP FixM
set_option linter.unusedVariables false

set_option maxRecDepth 100000 in
/-- an append whose outcome is known -/
theorem wpList_append_runL {P : Program} {ops : Array Oper} {rest : List Oper} {o : Oper} {a : Act} {Q : Exit → Act → World → Prop} {w : World} (hgd : o.guard = none) (s x : Operand) (t : TypeId)
    (ho : o.op = .call { callee := .builtin .append, args := #[s, x], argTypes := #[t, t] }) (vs vx v : Value) (w' : World) (hs : a.eval s = vs) (hx : a.eval x = vx)
    (hr : (Builtin.append_ #[t, t] o.type #[vs, vx]).run P w = .ok v w') (h : wpList P ops Q rest (a.put o.dst v) w') : wpList P ops Q (o :: rest) a w := by
  refine wpList_plain hgd fun K hK => ?_
  unfold Oper.wp execOp
  simp only [ho, resolve, invoke, builtin, Sem.run_bind, Sem.run_pure, Result.andThen_ok, List.map_toArray, List.map_cons, List.map_nil, hs, hx, hr]
  exact hK _ _ h

set_option maxRecDepth 100000 in
/-- tokens put behind tokens of an own row -/
theorem app_toks (H : Nat) (v : Value) (xs : List Tok) (a : Option Addr) (l : List Tok) (c : Nat) (w : World) (hH : H ≤ w.heap.size) (hx : xs.length ≤ 10000) (hl : l.length ≤ 10000) (hown : w.ownsRow H 70 3 v xs.length (tkcs xs)) (hT : Tks w a l) :
    ∃ v' w', (Builtin.append_ #[46, 46] 46 #[v, .slice a l.length c]).run Tryz.prog w = .ok v' w' ∧ w'.ownsRow H 70 3 v' (xs ++ l).length (tkcs (xs ++ l)) ∧ Below H w w' := by
  obtain ⟨i, hi, hz0, hz1, hz2⟩ := info_parts info_token
  by_cases h0 : l = []
  · subst h0
    refine ⟨v, w, ?_, by rw [List.append_nil]; exact hown, Below.refl _ _⟩
    cases a with
    | none => exact run_append_owned_none (P := Tryz.prog) w H 46 46 70 i 3 und_tokens hi _ xs.length (tkcs xs) hown
    | some ad =>
      rcases hown.2 with ⟨hv, _⟩ | ⟨g, cap, cur, hv, _, _, hcap, _⟩
      · subst hv
        simp [Builtin.append_, run_underlying und_tokens, sizeOf, typeInfo, hi, Builtin.lenOf, Builtin.firstCells, loadCells, loadCellsFrom]
      · subst hv
        simp [Builtin.append_, run_underlying und_tokens, sizeOf, typeInfo, hi, Builtin.lenOf, Builtin.firstCells, loadCells, loadCellsFrom, hcap, storeCells]
  · rcases hT with hT | ⟨b, o, rfl, hb, hT⟩
    · exact absurd hT h0
    · have news : ∀ (j : Nat) (u : Value), (tkcs l)[j]? = some u → w.cell? ((⟨b, o, none⟩ : Addr).add j) = some u := by
        intro j u hj
        by_cases hjn : j < l.length * 3
        · obtain ⟨p, hp⟩ : ∃ p, j / 3 = p := ⟨_, rfl⟩
          have hpl : p < l.length := by omega
          obtain ⟨k1, k2, k3⟩ := tkcs_get l p hpl
          have ht := hT p hpl
          rw [Addr.add_lit]
          rcases (by omega : j = p * 3 ∨ j = p * 3 + 1 ∨ j = p * 3 + 2) with e | e | e
          · subst e
            rw [k1] at hj; injection hj with hj; subst hj
            exact ht.kind
          · subst e
            rw [k2] at hj; injection hj with hj; subst hj
            exact ht.text
          · subst e
            rw [k3] at hj; injection hj with hj; subst hj
            exact ht.n
        · rw [List.getElem?_eq_none (by rw [tkcs_length]; omega)] at hj
          cases hj
      have hpos := List.length_pos_iff.2 h0
      obtain ⟨v', w', hr, h2, h3, _⟩ := run_append_own (P := Tryz.prog) w H 46 46 70 i _ 3 32 und_tokens hi hz0 hz1 hz2 (by rfl) (by omega) v xs.length (tkcs xs) hown ⟨b, o, none⟩ l.length c (tkcs l) (tkcs_length l) news (tkcs_one l) (by unfold maxLen; omega) (by omega) hH
      refine ⟨v', w', hr, by rw [List.length_append, tkcs_append]; exact h2, (Below.refl _ _).grown h3 hH (fun q hq => (World.ownsRow.lt hown q hq).1)⟩
end Go.Proofs.YtfbfndknhabmhaaGreat

namespace Go.Proofs.YtfbfndknhabmhaaGreat
open Go.RowKit TreN LexP FixP FixM
set_option linter.unusedVariables false

theorem size_txS (l : List UInt8) : (⟨l.toArray⟩ : ByteArray).data.toList = l := by simp
theorem prT_oneS (l : List Tok) (h : 0 < l.length) : prT l 1 = tx l[0] := by
  cases l with
  | nil => simp at h
  | cons a l => rfl
theorem TkAt.drewN {w : World} {b o : Nat} {t : Tok} (h : TkAt w b o t) (q : Nat) : TkAt (w.drewN q) b o t := ⟨h.kind, h.text, h.n⟩
/-- two tokens of a list -/
theorem slice_two (b o n cap j k : Nat) (hj : k = j + 1) (hk : k < n) (hc : n ≤ cap) : (∀ W : World, (Instr.slice 46 (.slice (some ⟨b, o, none⟩) n cap) (some (.int .i64 (j : Int))) (some (.int .i64 ((k : Int) + 1))) none).run Tryz.prog W = .ok (.slice (some ⟨b, o + j * 3, none⟩) 2 (cap - j)) W) ∧
    (∀ W : World, (Instr.sliceAt 46 (.slice (some ⟨b, o, none⟩) n cap) (some (.int .i64 (j : Int))) (some (.int .i64 ((k : Int) + 1))) none).run Tryz.prog W = .ok (.slice (some ⟨b, o + j * 3, none⟩) 2 (cap - j)) W) := by
  obtain ⟨i, hi, hz0, hz1, hz2⟩ := info_parts info_token
  have he : Tryz.prog.elem 46 = 70 := by kernel_rfl
  have hu : Tryz.prog.underlying 46 = some (.slice (Tryz.prog.elem 46)) := by rw [he]; exact und_tokens
  have hs : ∀ W : World, (sizeOf (Tryz.prog.elem 46)).run Tryz.prog W = .ok 3 W := fun W => by rw [he]; simp [sizeOf, typeInfo, hi, hz1]
  have h1 : ∀ W : World, (Instr.slice 46 (.slice (some ⟨b, o, none⟩) n cap) (some (.int .i64 (j : Int))) (some (.int .i64 ((k : Int) + 1))) none).run Tryz.prog W = .ok (.slice (some ⟨b, o + j * 3, none⟩) 2 (cap - j)) W := fun W => by
    rw [run_slice_lh W 46 _ _ _ hu .i64 .i64 (j : Int) ((k : Int) + 1) (by omega) (by omega) (by omega), hs]
    have e2 : (j : Int).toNat = j := by omega
    have e3 : ((k : Int) + 1).toNat = k + 1 := by omega
    have e4 : k + 1 - j = 2 := by omega
    have hck : ¬ cap = j := by omega
    show Result.ok (sliced _ _ _ _ _) W = _
    unfold sliced
    simp [e2, e3, e4, hck, Addr.add_lit]
  exact ⟨h1, fun W => by rw [run_sliceAt_slice W 46 _ _ _ _ hu, h1]⟩
theorem Tks.pair {w : World} {b o : Nat} {l : List Tok} (h : Tks w (some ⟨b, o, none⟩) l) {j : Nat} (hj : j + 1 < l.length) : Tks w (some ⟨b, o + j * 3, none⟩) [l[j], l[j + 1]] := by
  obtain ⟨b2, o2, e, h1, h2⟩ := h.get (i := j) (by omega)
  injection e with e; injection e with e1 e2; subst e1; subst e2
  obtain ⟨b3, o3, e, _, h3⟩ := h.get (i := j + 1) hj
  injection e with e; injection e with e1 e2; subst e1; subst e2
  refine Or.inr ⟨b, _, rfl, h1, fun i hi => ?_⟩
  have hi : i < 2 := hi
  rcases (by omega : i = 0 ∨ i = 1) with e | e
  · subst e; rw [Nat.zero_mul, Nat.add_zero]; exact h2
  · subst e
    have : o + j * 3 + 1 * 3 = o + (j + 1) * 3 := by omega
    rw [this]; exact h3
theorem tot_short (l : List Tok) (h : ∀ t ∈ l, t.text.length ≤ 200) (hx : ∀ t : Tok, (tx t).length ≤ t.text.length + 40) : tot l ≤ 244 * l.length := by
  induction l with
  | nil => simp [tot]
  | cons t l ih =>
    have h1 := h t List.mem_cons_self
    have h2 := hx t
    have := ih (fun t ht => h t (List.mem_cons_of_mem _ ht))
    simp only [tot, List.length_cons]
    omega
theorem len_ifS {c : Prop} [Decidable c] {a b : List UInt8} {n : Nat} (ha : a.length ≤ n) (hb : b.length ≤ n) : (if c then a else b).length ≤ n := by
  split
  · exact ha
  · exact hb
theorem len_txS (t : Tok) : (tx t).length ≤ t.text.length + 40 := by
  have hp := prn_le12 (H t.n)
  have lq : (quoT t.text).length = t.text.length + 2 := by unfold quoT; split <;> simp
  unfold tx
  generalize prn (H t.n) = y at hp ⊢
  repeat' apply len_ifS
  all_goals try simp only [List.length_append, List.length_cons, List.length_nil]
  all_goals omega

set_option maxRecDepth 100000 in
set_option maxHeartbeats 4000000 in
theorem refPr_any (a : Option Addr) (l : List Tok) (cap : Nat) (w : World) (hl : l.length ≤ 60) (hc : l.length ≤ cap) (hT : Tks w a l) (hf : ∀ t ∈ l, t.text.length ≤ 200) :
    Calls Tryz.prog 26 #[.slice a l.length cap] w fun e w' => e = .returned (.string ⟨(printL l).toArray⟩) ∧ Below w.heap.size w w' := by
  have htot := tot_short l hf len_txS
  have HP : Hid (∀ j, j ≤ l.length → (prT l j).length ≤ 20000) := Lib.hid fun j hj => by have := prT_le l j hj; omega
  have HF := Lib.hid hf
  have HT := Lib.hid hT
  obtain ⟨n, hn⟩ : ∃ n, l.length = n := ⟨_, rfl⟩
  have HN := Lib.hid hn
  rw [hn] at hl hc ⊢
  clear hT hf hn htot
  go_enter Tryz.func26, Tryz.ntmps26
  go_wp2_with fail
  go_loopw [3, 4, 5] (fun vs vl vi wr => ∃ k : Nat, vi = .int .i64 k ∧ k ≤ n ∧ vs = .string ⟨(prT l k).toArray⟩ ∧ (∃ z : List UInt8, vl = .string ⟨z.toArray⟩ ∧ Hid (∀ j (hj : j < l.length), k = j + 1 → tx l[j] = z) ∧ Hid (k = 0 → z = [])) ∧ Hid (Below w.heap.size w wr)) (fun _ _ vi _ => n - (intOf vi).toNat)
  case atStart => exact ⟨0, rfl, by omega, rfl, ⟨[], rfl, fun j hj h => by omega, fun _ => rfl⟩, Lib.hid (Below.refl _ _)⟩
  case round =>
    obtain ⟨k, rfl, hk, rfl, ⟨z, rfl, HZ, HZ0⟩, HB⟩ := hrel
    by_cases hlt : k < n
    · have hltz : (k : Int) < (n : Int) := by omega
      have hkl : k < l.length := by have := HN.out; omega
      obtain ⟨b1, o1, rfl, g1, k1⟩ := HT.out.get hkl
      obtain ⟨t, ht⟩ : ∃ t, l[k] = t := ⟨_, rfl⟩
      rw [ht] at k1
      have k2 := k1.below HB.out g1
      have hmem : t ∈ l := by rw [← ht]; exact List.getElem_mem hkl
      have hf1 := HF.out t hmem
      have hlx := len_txS t
      have C : ∀ W : World, Calls Tryz.prog 52 #[t.val] W fun e w' => e = .returned (.tuple #[.string ⟨(tx t).toArray⟩, .bool (hasTx t.kind)]) ∧ Below W.heap.size W w' := fun W => refTxt_any t W (by omega)
      obtain ⟨hk0, hhk⟩ : ∃ x, hasTx t.kind = x := ⟨_, rfl⟩
      rw [hhk] at C
      have CC := Lib.hid C
      unfold LexP.Tok.val at CC
      have d1 : wr.cell? ⟨b1, o1 + k * 3, none⟩ = some (.int .i64 t.kind) := k2.kind
      have d2 : wr.cell? ⟨b1, o1 + k * 3 + 1, none⟩ = some (.string ⟨t.text.toArray⟩) := k2.text
      have d3 : wr.cell? ⟨b1, o1 + k * 3 + 2, none⟩ = some (.int .i64 t.n) := k2.n
      have HTT := Lib.hid ht
      have hpk := HP.out k (by omega)
      have hnx : k = 0 → prT l (k + 1) = prT l k ++ tx t := fun h => by subst h; rw [prT_oneS l hkl, ht]; rfl
      clear k1 k2 C ht hmem hhk
      by_cases h0 : k = 0
      · subst h0
        have hz := HZ0.out rfl
        subst hz
        have hnx := hnx rfl
        have HNX := Lib.hid hnx
        have a1 : ∀ W : World, (Op.stringOp .add ⟨(prT l 0).toArray⟩ ⟨(tx t).toArray⟩).run Tryz.prog W = .ok (.string ⟨(prT l 0 ++ tx t).toArray⟩) W := fun W => add_any W _ _ (by omega) (by omega)
        rw [Nat.zero_mul, Nat.add_zero] at d1 d2 d3
        clear hnx hlx hf1
        go_wp2_with fail
        refine (CC.out _).mono ?_
        rintro e w2 ⟨rfl, hb⟩
        have hb2 : Below w.heap.size w w2 := HB.out.trans (hb.mono HB.out.size)
        have HB2 := Lib.hid hb2
        clear hb hb2 CC d1 d2 d3
        go_wp2_with fail
        go_quiet (fail)
        go_wp2_with fail
        go_roundw
        case rel => exact ⟨1, by go_num, by omega, by rw [HNX.out], ⟨tx t, rfl, Lib.hid (fun j hj h => by have e : j = 0 := by { omega }; subst e; exact congrArg tx HTT.out), Lib.hid (fun h => by omega)⟩, Lib.hid (below_drewN2 HB2.out nq)⟩
        case measure => simp [intOf]; omega
      · obtain ⟨j, hkj⟩ : ∃ j, k = j + 1 := ⟨k - 1, by omega⟩
        have hjl : j < l.length := by omega
        obtain ⟨u, hu⟩ : ∃ u, l[j] = u := ⟨_, rfl⟩
        have hz := HZ.out j hjl hkj
        rw [hu] at hz
        have hf2 : u.text.length ≤ 200 := HF.out u (by rw [← hu]; exact List.getElem_mem hjl)
        have hux := len_txS u
        have hnx : prT l (k + 1) = prT l k ++ (sepL u t ++ tx t) := by
          have := prT_next l j (by omega)
          subst hkj
          rw [this, hu, HTT.out]
        obtain ⟨tf, htf⟩ : ∃ tf, decide (cut (tx u ++ tx t) = [u, t]) = tf := ⟨_, rfl⟩
        have hsep : sepL u t = if tf = true then [] else [47, 42, 42, 47] := by
          unfold sepL
          rw [← htf]
          simp only [decide_eq_true_eq]
        rw [hz] at htf hux
        obtain ⟨cz, hcc⟩ : ∃ cz, cut (z ++ tx t) = cz := ⟨_, rfl⟩
        have hcl : cz.length ≤ 1000 := by
          rw [← hcc]
          have := (cut_texts _ (z ++ tx t) (Nat.le_refl _)).1
          rw [List.length_append] at this
          omega
        have hcut : ∀ W : World, Calls Tryz.prog 24 #[.string ⟨(z ++ tx t).toArray⟩] W (ToldList W cz) := fun W => by
          have := refCut_any ⟨(z ++ tx t).toArray⟩ W (by show (z ++ tx t).toArray.size ≤ 40000; simp; omega)
          rw [size_txS, hcc] at this
          exact this
        rw [hcc] at htf
        have hsame : ∀ (W : World) (a2 : Option Addr) (c2 : Nat), Tks W a2 cz → Below w.heap.size w W → Calls Tryz.prog 53 #[.slice a2 cz.length c2, .slice (some ⟨b1, o1 + j * 3, none⟩) 2 (cap - j)] W fun e w' => e = .returned (.bool tf) ∧ ∃ q, w' = W.drewN q := fun W a2 c2 h1 h2 => by
          have hp := (HT.out.pair (j := j) (by omega)).below h2
          have e1 : [l[j], l[j + 1]] = [u, t] := by
            rw [hu]
            have : l[j + 1]'(by omega) = t := by rw [← HTT.out]; congr 1; omega
            rw [this]
          rw [e1] at hp
          have := refSame_any a2 (some ⟨b1, o1 + j * 3, none⟩) c2 (cap - j) cz [u, t] W (by omega) h1 hp
          rw [htf] at this
          exact this
        obtain ⟨s1, s2⟩ := slice_two b1 o1 n cap j k hkj hlt hc
        obtain ⟨sp, hsp⟩ : ∃ sp, sepL u t = sp := ⟨_, rfl⟩
        rw [hsp] at hnx hsep
        have a0 : ∀ W : World, (Op.stringOp .add ⟨z.toArray⟩ ⟨(tx t).toArray⟩).run Tryz.prog W = .ok (.string ⟨(z ++ tx t).toArray⟩) W := fun W => add_any W _ _ (by omega) (by omega)
        have a2 : ∀ W : World, (Op.stringOp .add ⟨(prT l k).toArray⟩ ⟨#[47, 42, 42, 47]⟩).run Tryz.prog W = .ok (.string ⟨(prT l k ++ [47, 42, 42, 47]).toArray⟩) W := fun W => add_any W _ [47, 42, 42, 47] (by omega) (by simp)
        have ad3 : ∀ W : World, (Op.stringOp .add ⟨(prT l k ++ [47, 42, 42, 47]).toArray⟩ ⟨(tx t).toArray⟩).run Tryz.prog W = .ok (.string ⟨(prT l k ++ [47, 42, 42, 47] ++ tx t).toArray⟩) W := fun W => add_any W _ _ (by simp; omega) (by omega)
        have a4 : ∀ W : World, (Op.stringOp .add ⟨(prT l k).toArray⟩ ⟨(tx t).toArray⟩).run Tryz.prog W = .ok (.string ⟨(prT l k ++ tx t).toArray⟩) W := fun W => add_any W _ _ (by omega) (by omega)
        have HC := Lib.hid hcut
        have HS := Lib.hid hsame
        have HSEP := Lib.hid hsep
        have HNX := Lib.hid hnx
        have hk0z : (0 : Int) < (k : Int) := by omega
        have hkd : decide (0 < k) = true := by simp; omega
        have hw : IntKind.i64.wrap ((k : Int) - 1) = (j : Int) := by
          have : (k : Int) - 1 = (j : Int) := by omega
          rw [this]
          exact IntWalk.i64_in _ (by omega)
        have hs0 : (0 : Int) ≤ (k : Int) - 1 := by omega
        have hs1 : (j : Int) ≤ (k : Int) + 1 := by omega
        have hs2 : (k : Int) + 1 ≤ (cap : Int) := by omega
        have hw2 : IntKind.i64.wrap ((k : Int) + 1) = (k : Int) + 1 := IntWalk.i64_in _ (by omega)
        have HKJ := Lib.hid hkj
        clear hcut hsame hsep hnx hkj h0 hcc htf hsp hu hjl hux hf1 hf2 hlx hz
        go_wp2_with fail
        refine (CC.out _).mono ?_
        rintro e w2 ⟨rfl, hb⟩
        have hb2 : Below w.heap.size w w2 := HB.out.trans (hb.mono HB.out.size)
        have HB2 := Lib.hid hb2
        clear hb CC d1 d2 d3
        go_wp2_with fail
        go_region_held3 (fun w' => Below w.heap.size w w')
          ((first
            | assumption
            | exact Below.drew (by assumption)
            | exact HB2.out))
          ((first
            | (go_at_call 24; refine (HC.out _).mono ?_; rintro e w3 ⟨a3, cap3, rfl, hT3, hb3⟩; have d6 : Below w.heap.size w w3 := Below.trans (by assumption) (hb3.mono (Below.size (by assumption))); have HT3 := Lib.hid hT3; have HBC := Lib.hid d6; clear hb3 hT3)
            | (go_at_call 53; refine (HS.out _ _ _ HT3.out HBC.out).mono ?_; rintro e w3 ⟨rfl, q3, rfl⟩; have d6 := below_drewN2 HBC.out q3; have HBS := Lib.hid d6)))
        have HBT := HBS
        clear HBS HBC HT3 d6
        generalize w3.drewN q3 = w4 at HBT ⊢
        cases tf
        · have hsp4 : sp = [47, 42, 42, 47] := HSEP.out
          go_wp2_with fail
          go_roundw
          case rel => exact ⟨k + 1, by go_num, by omega, by rw [HNX.out, hsp4]; rfl, ⟨tx t, rfl, Lib.hid (fun i hi h => by have e : i = k := by { omega }; subst e; exact congrArg tx HTT.out), Lib.hid (fun h => by omega)⟩, HBT⟩
          case measure => simp [intOf]; omega
        · have hsp4 : sp = [] := HSEP.out
          go_wp2_with fail
          go_roundw
          case rel => exact ⟨k + 1, by go_num, by omega, by rw [HNX.out, hsp4, List.nil_append], ⟨tx t, rfl, Lib.hid (fun i hi h => by have e : i = k := by { omega }; subst e; exact congrArg tx HTT.out), Lib.hid (fun h => by omega)⟩, HBT⟩
          case measure => simp [intOf]; omega
    · have hke : k = n := by omega
      have hall : prT l n = printL l := by rw [← HN.out]; exact prT_all l
      have HA := Lib.hid hall
      clear hall
      have hltz : ¬ (k : Int) < (n : Int) := by omega
      go_wp2_with fail
      go_ret
      exact ⟨by show Ending.returned (Value.string ⟨(prT l n).toArray⟩) = _; rw [HA.out], HB.out⟩
end Go.Proofs.YtfbfndknhabmhaaGreat
