/- Layer 6: spoilt values, the mark of what is important. -/
import Derived.Test.YtaiommmbbajgnaaSynU2
namespace Go.Proofs.Ytaiommmbbajgnaa
open Go.RowKit TreN LexP FixP SynP
set_option linter.unusedVariables false

set_option maxRecDepth 100000 in
set_option maxHeartbeats 1000000 in
theorem broken_any (t : Tok) (w : World) : Calls Try.prog 51 #[t.val] w fun e w' => e = .returned (.bool (bad6 t)) ∧ Below w.heap.size w w' := by
  obtain ⟨k, x, n⟩ := t
  have hx : bad6 ⟨k, x, n⟩ = decide (k = 6) := rfl
  rw [hx]
  unfold LexP.Tok.val
  have hb : Below w.heap.size w (w.alloc (.cells #[.int .i64 k, .string ⟨x.toArray⟩, .int .i64 n] 29)) := (Below.refl _ _).alloc (Nat.le_refl _) _
  have HB := Lib.hid hb
  clear hb hx
  go_enter Try.func51, Try.ntmps51
  go_wp2_with fail
  go_ret
  exact ⟨ret_bool (by rw [Bool.eq_iff_iff]; simp), HB.out⟩
theorem enters_broken : ∀ args w, (callFunc 51 args).run Try.prog w = .ok (.enter 51 args) w := enters_of Try.func51 (by kernel_rfl) rfl
theorem enters_exclaims : ∀ args w, (callFunc 50 args).run Try.prog w = .ok (.enter 50 args) w := enters_of Try.func50 (by kernel_rfl) rfl

set_option maxRecDepth 100000 in
set_option maxHeartbeats 2000000 in
theorem IndexFunc_any (q : Nat) (caps : Array Value) (p : Tok → Bool) (eq : ∀ args w, (callFunc q args).run Try.prog w = .ok (.enter q args) w) (a : Option Addr) (l : List Tok) (cap : Nat) (w : World)
    (hf : ∀ t ∈ l, ∀ W, Below w.heap.size w W → Calls Try.prog q (#[t.val] ++ caps) W fun e W' => e = .returned (.bool (p t)) ∧ Below W.heap.size W W') (hl : l.length ≤ 100000) (hT : Tks w a l) :
    Calls Try.prog 57 #[.slice a l.length cap, .func (.func q) #[] caps] w fun e w' => (∃ z : Int, e = .returned (.int .i64 z) ∧ decide (0 ≤ z) = l.any p) ∧ Below w.heap.size w w' := by
  have HT := Lib.hid hT
  have HF := Lib.hid hf
  obtain ⟨n, hn⟩ : ∃ n, l.length = n := ⟨_, rfl⟩
  have HN := Lib.hid hn
  rw [hn] at hl ⊢
  clear hT hf hn
  go_enter Try.func57, Try.ntmps57
  go_wp2_with fail
  go_loopw [8] (fun vi wr => ∃ k : Nat, vi = .int .i64 (k : Int) ∧ k ≤ n ∧ Hid (Below w.heap.size w wr) ∧ Hid (∀ j (hj : j < l.length), j < k → p l[j] = false)) (fun vi _ => n - (intOf vi).toNat)
  case atStart => exact ⟨0, rfl, by omega, Lib.hid (Below.refl _ _), Lib.hid fun j hj h => by omega⟩
  case round =>
    obtain ⟨k, rfl, hk, HB, HJ⟩ := hrel
    by_cases hlt : k < n
    · have hltz : (k : Int) < (n : Int) := by omega
      have hkl : k < l.length := by have := HN.out; omega
      obtain ⟨b1, o1, rfl, g1, k1⟩ := HT.out.get hkl
      obtain ⟨t, ht⟩ : ∃ t, l[k] = t := ⟨_, rfl⟩
      rw [ht] at k1
      have k2 := k1.below HB.out g1
      have hmem : t ∈ l := by rw [← ht]; exact List.getElem_mem hkl
      have C := fun W hW => HF.out t hmem W hW
      obtain ⟨tf, htf⟩ : ∃ b, p t = b := ⟨_, rfl⟩
      rw [htf] at C
      have CC := Lib.hid C
      unfold LexP.Tok.val at CC
      have d1 : wr.cell? ⟨b1, o1 + k * 3, none⟩ = some (.int .i64 t.kind) := k2.kind
      have d2 : wr.cell? ⟨b1, o1 + k * 3 + 1, none⟩ = some (.string ⟨t.text.toArray⟩) := k2.text
      have d3 : wr.cell? ⟨b1, o1 + k * 3 + 2, none⟩ = some (.int .i64 t.n) := k2.n
      have HTT := Lib.hid ht
      have HTF := Lib.hid htf
      have HMM := Lib.hid hmem
      clear k1 k2 C ht htf hmem
      cases tf
      · go_wp2_with fail
        refine (CC.out _ HB.out).mono ?_
        rintro e w2 ⟨rfl, hb⟩
        have HB2 := Lib.hid (HB.out.trans (hb.mono HB.out.size))
        clear hb CC
        go_wp2_with fail
        go_roundw
        case rel =>
          refine ⟨k + 1, by go_num, by omega, HB2, Lib.hid fun j hj h => ?_⟩
          by_cases c : j = k
          · subst c; rw [HTT.out, HTF.out]
          · exact HJ.out j hj (by omega)
        case measure => simp [intOf]; omega
      · have HA : Hid (decide (0 ≤ (k : Int)) = l.any p) := Lib.hid (by
          have h1 : l.any p = true := by rw [List.any_eq_true]; exact ⟨t, HMM.out, HTF.out⟩
          rw [h1, decide_eq_true_eq]; omega)
        go_wp2_with fail
        refine (CC.out _ HB.out).mono ?_
        rintro e w2 ⟨rfl, hb⟩
        have HB2 := Lib.hid (HB.out.trans (hb.mono HB.out.size))
        clear hb CC
        go_wp2_with fail
        go_ret
        exact ⟨⟨_, rfl, HA.out⟩, HB2.out⟩
    · have HA : Hid (decide (0 ≤ (-1 : Int)) = l.any p) := Lib.hid (by
        have h1 : l.any p = false := by
          rw [List.any_eq_false]
          intro t ht
          obtain ⟨j, hj, e⟩ := List.getElem_of_mem ht
          have hn := HN.out
          rw [← e, HJ.out j hj (by omega)]; simp
        rw [h1]; rfl)
      have hltz : ¬ (k : Int) < (n : Int) := by omega
      go_wp2_with fail
      go_ret
      exact ⟨⟨_, rfl, HA.out⟩, HB.out⟩

set_option maxRecDepth 100000 in
set_option maxHeartbeats 1000000 in
theorem ContainsFunc_any (q : Nat) (caps : Array Value) (p : Tok → Bool) (eq : ∀ args w, (callFunc q args).run Try.prog w = .ok (.enter q args) w) (a : Option Addr) (l : List Tok) (cap : Nat) (w : World)
    (hf : ∀ t ∈ l, ∀ W, Below w.heap.size w W → Calls Try.prog q (#[t.val] ++ caps) W fun e W' => e = .returned (.bool (p t)) ∧ Below W.heap.size W W') (hl : l.length ≤ 100000) (hT : Tks w a l) :
    Calls Try.prog 52 #[.slice a l.length cap, .func (.func q) #[] caps] w fun e w' => e = .returned (.bool (l.any p)) ∧ Below w.heap.size w w' := by
  have C := Lib.hid (IndexFunc_any q caps p eq a l cap w hf hl hT)
  obtain ⟨b, hb⟩ : ∃ b, l.any p = b := ⟨_, rfl⟩
  rw [hb] at C ⊢
  obtain ⟨n, hn⟩ : ∃ n, l.length = n := ⟨_, rfl⟩
  rw [hn] at C ⊢
  clear hf hl hT hn hb
  go_enter Try.func52, Try.ntmps52
  go_wp2_with fail
  refine C.out.mono ?_
  rintro e w1 ⟨⟨z, rfl, hz⟩, hb1⟩
  have HB := Lib.hid hb1
  have HZ := Lib.hid hz
  clear hb1 hz C
  go_wp2_with fail
  go_ret
  exact ⟨ret_bool HZ.out, HB.out⟩

set_option maxRecDepth 100000 in
set_option maxHeartbeats 1000000 in
theorem spoilt_any (a : Option Addr) (l : List Tok) (cap : Nat) (w : World) (hl : l.length ≤ 100000) (hT : Tks w a l) :
    Calls Try.prog 33 #[.slice a l.length cap] w fun e w' => e = .returned (.bool (spoS l)) ∧ Below w.heap.size w w' := by
  have C := Lib.hid fun (W : World) (hW : Below w.heap.size w W) => ContainsFunc_any 51 #[] bad6 enters_broken a l cap W (fun t _ W' _ => broken_any t W') hl (hT.below hW)
  have D := Lib.hid fun (W : World) (hW : Below w.heap.size w W) => first_any 50 #[] excl enters_exclaims a l cap W (fun t _ W' _ => exclaims_any t W') hl (hT.below hW)
  have hsp : spoS l = (l.any bad6 || decide (fst excl l < l.length)) := rfl
  rw [hsp]
  have hfb := fst_bd excl l
  obtain ⟨n, hn⟩ : ∃ n, l.length = n := ⟨_, rfl⟩
  obtain ⟨f, hf⟩ : ∃ f, fst excl l = f := ⟨_, rfl⟩
  rw [hn, hf] at hfb
  rw [hn] at C D hl ⊢
  rw [hf] at D ⊢
  obtain ⟨b, hb⟩ : ∃ b, l.any bad6 = b := ⟨_, rfl⟩
  rw [hb] at C ⊢
  have hmf : ∀ (fn : Fn) (first cap : Array Value) (w : World), (Instr.makeFunc fn first cap).run Try.prog w = .ok (.func fn first cap) w := fun _ _ _ _ => rfl
  clear hT hsp hn hf hb
  go_enter Try.func33, Try.ntmps33
  go_wp2_with fail
  refine (C.out _ (Below.refl _ _)).mono ?_
  rintro e w1 ⟨rfl, hb1⟩
  have HB1 := Lib.hid hb1
  clear hb1 C
  cases b
  · go_wp2_with fail
    refine (D.out _ HB1.out).mono ?_
    rintro e w2 ⟨rfl, hb2⟩
    have HB2 := Lib.hid (HB1.out.trans (hb2.mono HB1.out.size))
    clear hb2 D
    go_wp2_with fail
    go_ret
    exact ⟨ret_bool (by rw [Bool.false_or, decide_eq_decide]), HB2.out⟩
  · go_wp2_with fail
    go_ret
    exact ⟨rfl, HB1.out⟩

theorem text_imp (x : List UInt8) : ((⟨x.toArray⟩ : ByteArray).toList == (⟨#[105, 109, 112, 111, 114, 116, 97, 110, 116]⟩ : ByteArray).toList) = decide (x = impT) := str_beq x impT
theorem last_split {l : List Tok} (h : 0 < l.length) : ∃ j t, l.length = j + 1 ∧ l[j]? = some t ∧ l.getLast? = some t ∧ l.dropLast = l.take j := by
  obtain ⟨j, hj⟩ : ∃ j, l.length = j + 1 := ⟨l.length - 1, by omega⟩
  refine ⟨j, l[j]'(by omega), hj, List.getElem?_eq_getElem _, ?_, ?_⟩
  · rw [List.getLast?_eq_getElem?, show l.length - 1 = j by omega]; exact List.getElem?_eq_getElem _
  · rw [List.dropLast_eq_take, hj]; rfl

/-- what unmarked answers -/
def UnIs (w0 w : World) (r : List Tok × Bool) (e : Ending) (w' : World) : Prop := (∃ a2 c2, e = .returned (.tuple #[.slice a2 r.1.length c2, .bool r.2]) ∧ r.1.length ≤ c2 ∧ c2 ≤ maxLen ∧ Tks w' a2 r.1) ∧ Below w.heap.size w w'
theorem unmS_nil : unmS [] = ([], false) := rfl
theorem unmS_no {v : List Tok} {t : Tok} (h : v.getLast? = some t) (hn : ¬ (t.kind = 1 ∧ t.text = impT)) : unmS v = (v, false) := by unfold unmS; rw [h]; simp only []; rw [if_neg hn]
theorem unmS_end {v : List Tok} {t : Tok} (h : v.getLast? = some t) (hn : t.kind = 1 ∧ t.text = impT) (h2 : (trm v.dropLast).getLast? = none) : unmS v = (v, false) := by unfold unmS; rw [h]; simp only []; rw [if_pos hn, h2]
theorem unmS_some {v : List Tok} {t u : Tok} (h : v.getLast? = some t) (hn : t.kind = 1 ∧ t.text = impT) (h2 : (trm v.dropLast).getLast? = some u) : unmS v = if excl u = true then (trm (trm v.dropLast).dropLast, true) else (v, false) := by unfold unmS; rw [h]; simp only []; rw [if_pos hn, h2]

set_option maxRecDepth 100000 in
set_option maxHeartbeats 2000000 in
theorem unmarked_any (a : Option Addr) (l : List Tok) (cap : Nat) (w : World) (h1 : l.length ≤ cap) (h2 : cap ≤ maxLen) (hT : Tks w a l) :
    Calls Try.prog 32 #[.slice a l.length cap] w (UnIs w w (unmS l)) := by
  unfold UnIs
  by_cases h0 : l.length = 0
  · have hl0 : l = [] := List.eq_nil_of_length_eq_zero h0
    subst hl0
    rw [unmS_nil]
    have HF : Hid (cap ≤ maxLen ∧ Tks w a []) := Lib.hid ⟨h2, hT⟩
    clear h1 h2 hT
    go_enter Try.func32, Try.ntmps32
    go_wp2_with fail
    go_ret2
    exact ⟨⟨a, cap, rfl, Nat.zero_le _, HF.out.1, HF.out.2⟩, Below.refl _ _⟩
  · obtain ⟨j, t, hj, htj, hlast, hdl⟩ := last_split (l := l) (by omega)
    have hT0 := hT
    rcases hT with h | ⟨b1, o1, rfl, hb1, ht1⟩
    · rw [h] at h0; exact absurd rfl h0
    have hjl : j < l.length := by omega
    have hte : l[j] = t := by rw [List.getElem?_eq_getElem hjl] at htj; exact Option.some.inj htj
    have k1 := ht1 j hjl
    rw [hte] at k1
    have d1 : w.cell? ⟨b1, o1 + j * 3, none⟩ = some (.int .i64 t.kind) := k1.kind
    have d2 : w.cell? ⟨b1, o1 + j * 3 + 1, none⟩ = some (.string ⟨t.text.toArray⟩) := k1.text
    obtain ⟨n, hn⟩ : ∃ n, l.length = n := ⟨_, rfl⟩
    have HV : Hid (l.length = n ∧ n ≤ cap ∧ cap ≤ maxLen ∧ Tks w (some ⟨b1, o1, none⟩) l) := Lib.hid ⟨hn, by omega, h2, hT0⟩
    have hw : IntKind.i64.wrap ((n : Int) - 1) = (j : Int) := by
      have e : (n : Int) - 1 = (j : Int) := by omega
      unfold maxLen at h2
      rw [e]; exact IntWalk.i64_in _ (by omega)
    have hz1 : ¬ (j : Int) < 0 := by omega
    have hz2 : (j : Int) < (n : Int) := by omega
    have hz3 : (0 : Int) ≤ (j : Int) := by omega
    have hz4 : j < n := by omega
    have hz5 : (j : Int) ≤ (cap : Int) := by omega
    rw [hn]
    by_cases hk : t.kind = 1
    · by_cases hx : t.text = impT
      · have hTr := trimmed_any (some ⟨b1, o1, none⟩) (l.take j) cap w (by rw [List.length_take]; omega) h2 (by have := Tks.part hT0 0 j; simpa using this)
        rw [show (l.take j).length = j by rw [List.length_take]; omega, ← hdl] at hTr
        have C := Lib.hid hTr
        obtain ⟨rs, hrs⟩ : ∃ r, trm l.dropLast = r := ⟨_, rfl⟩
        rw [hrs] at C
        have hkk := fun (u : Tok) => unmS_some (v := l) (u := u) hlast ⟨hk, hx⟩
        have hkn := unmS_end (v := l) hlast ⟨hk, hx⟩
        rw [hrs] at hkn
        simp only [hrs] at hkk
        have hkz : (t.kind == 1) = true := by rw [beq_iff_eq]; exact hk
        have hkz2 : (t.kind != 1) = false := by rw [hk]; rfl
        have hxz : (t.text == [105, 109, 112, 111, 114, 116, 97, 110, 116]) = true := by rw [hx]; rfl
        obtain ⟨R, hR⟩ : ∃ R, unmS l = R := ⟨_, rfl⟩
        rw [hR] at hkn ⊢
        simp only [hR] at hkk
        have HKK := Lib.hid hkk
        have HKN := Lib.hid hkn
        clear hR
        clear hkk hkn hTr hT0 ht1 k1 hte htj hlast hdl hrs hn h0 hjl hj hk
        generalize t.kind = tk at *
        generalize t.text = tt at *
        clear hx
        unfold maxLen at h2
        go_enter Try.func32, Try.ntmps32
        go_wp2_with fail
        refine C.out.mono ?_
        rintro e w1 ⟨⟨a2, c2, rfl, hc1, hc2, hTr⟩, rfl⟩
        have HTr := Lib.hid hTr
        by_cases hr0 : rs.length = 0
        · have hr1 : rs = [] := List.eq_nil_of_length_eq_zero hr0
          subst hr1
          have hu := HKN.out rfl
          clear hTr hc2
          have HUU := Lib.hid hu
          clear hu
          go_wp2_with fail
          go_ret2
          obtain ⟨v1, v2, v3, v4⟩ := HV.out
          rw [HUU.out]
          exact ⟨⟨_, cap, by rw [v1]; rfl, by rw [v1]; exact v2, v3, v4⟩, Below.refl _ _⟩
        · obtain ⟨m, u, hm, hum, hul, hud⟩ := last_split (l := rs) (by omega)
          have hkk := HKK.out _ hul
          rcases hTr with h | ⟨b3, o3, rfl, hb3, ht3⟩
          · rw [h] at hr0; exact absurd rfl hr0
          have hmr : m < rs.length := by omega
          have hue : rs[m] = u := by rw [List.getElem?_eq_getElem hmr] at hum; exact Option.some.inj hum
          have k3 := ht3 m hmr
          rw [hue] at k3
          have e1 : w.cell? ⟨b3, o3 + m * 3, none⟩ = some (.int .i64 u.kind) := k3.kind
          have e2 : w.cell? ⟨b3, o3 + m * 3 + 1, none⟩ = some (.string ⟨u.text.toArray⟩) := k3.text
          have e3 : w.cell? ⟨b3, o3 + m * 3 + 2, none⟩ = some (.int .i64 u.n) := k3.n
          have X : ∀ W : World, Calls Try.prog 50 #[u.val] W fun e w' => e = .returned (.bool (excl u)) ∧ Below W.heap.size W w' := fun W => exclaims_any u W
          have hTr2 := fun (W : World) (hW : Below w.heap.size w W) => trimmed_any (some ⟨b3, o3, none⟩) (rs.take m) c2 W (by rw [List.length_take]; omega) hc2 (by have := Tks.part (HTr.out.below hW) 0 m; simpa using this)
          rw [show (rs.take m).length = m by rw [List.length_take]; omega, ← hud] at hTr2
          have C2 := Lib.hid hTr2
          obtain ⟨q, hq⟩ : ∃ q, rs.length = q := ⟨_, rfl⟩
          have hw2 : IntKind.i64.wrap ((q : Int) - 1) = (m : Int) := by
            have e : (q : Int) - 1 = (m : Int) := by omega
            unfold maxLen at hc2
            rw [e]; exact IntWalk.i64_in _ (by omega)
          have hy1 : ¬ (m : Int) < 0 := by omega
          have hy2 : (m : Int) < (q : Int) := by omega
          have hy3 : (0 : Int) ≤ (m : Int) := by omega
          have hy4 : m < q := by omega
          have hy5 : (m : Int) ≤ (c2 : Int) := by omega
          rw [hq]
          obtain ⟨xu, hxu⟩ : ∃ b, excl u = b := ⟨_, rfl⟩
          rw [hxu] at X hkk
          have XX := Lib.hid X
          unfold LexP.Tok.val at XX
          clear X hTr2 k3 hue hum hul hud ht3 hmr hm hr0 hxu hq HKK HKN
          cases xu
          · have HUU : Hid (R = (l, false)) := Lib.hid (by rw [hkk, if_neg (by simp)])
            clear hkk
            go_wp2_with fail
            refine (XX.out _).mono ?_
            rintro e w2 ⟨rfl, hb2⟩
            have HB2 := Lib.hid hb2
            clear hb2 XX
            go_wp2_with fail
            go_ret2
            obtain ⟨v1, v2, v3, v4⟩ := HV.out
            rw [HUU.out]
            exact ⟨⟨_, cap, by rw [v1]; rfl, by rw [v1]; exact v2, v3, v4.below HB2.out⟩, HB2.out⟩
          · have HUU : Hid (R = (trm rs.dropLast, true)) := Lib.hid (by rw [hkk, if_pos rfl])
            clear hkk
            go_wp2_with fail
            refine (XX.out _).mono ?_
            rintro e w2 ⟨rfl, hb2⟩
            have HB2 := Lib.hid hb2
            clear hb2 XX
            go_wp2_with fail
            refine (C2.out _ HB2.out).mono ?_
            rintro e w3 ⟨⟨a4, c4, rfl, v1, v2, v3⟩, rfl⟩
            have HV3 := Lib.hid v3
            have HV2 := Lib.hid v2
            clear v3 v2
            go_wp2_with fail
            go_ret2
            rw [HUU.out]
            exact ⟨⟨a4, c4, rfl, v1, HV2.out, HV3.out⟩, HB2.out⟩
      · have hu := unmS_no (v := l) hlast (fun h => hx h.2)
        rw [hu]
        have hkz : (t.kind == 1) = true := by rw [beq_iff_eq]; exact hk
        have hkz2 : (t.kind != 1) = false := by rw [hk]; rfl
        have hxz : (t.text == [105, 109, 112, 111, 114, 116, 97, 110, 116]) = false := by rw [beq_eq_false_iff_ne]; exact hx
        have hxz2 : ¬ t.text = [105, 109, 112, 111, 114, 116, 97, 110, 116] := hx
        clear hT0 ht1 k1 hte htj hlast hdl hn h0 hjl hj hk hx hu
        generalize t.kind = tk at *
        generalize t.text = tt at *
        go_enter Try.func32, Try.ntmps32
        go_wp2_with fail
        go_ret2
        obtain ⟨v1, v2, v3, v4⟩ := HV.out
        exact ⟨⟨_, cap, by rw [v1]; rfl, by rw [v1]; exact v2, v3, v4⟩, Below.refl _ _⟩
    · have hu := unmS_no (v := l) hlast (fun h => hk h.1)
      rw [hu]
      have hkz : (t.kind == 1) = false := by rw [beq_eq_false_iff_ne]; exact hk
      have hkz2 : (t.kind != 1) = true := by rw [bne_iff_ne]; exact hk
      clear hT0 ht1 k1 hte htj hlast hdl hn h0 hjl hj hk hu
      generalize t.kind = tk at *
      generalize t.text = tt at *
      go_enter Try.func32, Try.ntmps32
      go_wp2_with fail
      go_ret2
      obtain ⟨v1, v2, v3, v4⟩ := HV.out
      exact ⟨⟨_, cap, by rw [v1]; rfl, by rw [v1]; exact v2, v3, v4⟩, Below.refl _ _⟩
end Go.Proofs.Ytaiommmbbajgnaa
