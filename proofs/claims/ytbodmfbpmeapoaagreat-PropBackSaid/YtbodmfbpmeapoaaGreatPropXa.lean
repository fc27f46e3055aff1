/- Joined texts: PropX1 PropX2 PropX3. -/
import Derived.Test.YtbodmfbpmeapoaaGreatPropFi
import Derived.Test.YtbodmfbpmeapoaaGreatValR3
namespace Go.Proofs.YtbodmfbpmeapoaaGreat.PropP
open FixM FixP TreN LexP SynP ValP

def marginT : List UInt8 := [109, 97, 114, 103, 105, 110]
def paddingT : List UInt8 := [112, 97, 100, 100, 105, 110, 103]
def borderT : List UInt8 := [98, 111, 114, 100, 101, 114, 45, 119, 105, 100, 116, 104]
def flowT : List UInt8 := [102, 108, 101, 120, 45, 102, 108, 111, 119]
def flexT : List UInt8 := [102, 108, 101, 120]
def gapT : List UInt8 := [103, 97, 112]
def contT : List UInt8 := [99, 111, 110, 116, 97, 105, 110, 101, 114]
/-- what a name stands for: the first property, and how many -/
def stP (s : List UInt8) : Nat × Nat :=
  if s = marginT then (9, 4) else if s = paddingT then (13, 4) else if s = borderT then (17, 4) else if s = flowT then (22, 2) else if s = flexT then (24, 3)
  else if s = gapT then (32, 2) else if s = contT then (34, 2) else (namedP s, min (namedP s) 1)
theorem named_bd (s : List UInt8) : namedP s ≤ 37 := by
  have := plc_bd namesL s 1
  have e : namesL.length = 37 := rfl
  unfold namedP
  omega
theorem stP_bd (s : List UInt8) : (stP s).2 ≤ 4 ∧ (stP s).1 ≤ 37 := by
  have := named_bd s
  unfold stP
  repeat' split
  all_goals first | decide | (constructor <;> simp only [] <;> omega)
def genS (v : Val) : Bool := isB v genW
def fitP (L : List Val) (count : Nat) : Bool := decide (L.length = 1) || (decide (L.length ≤ count) && !L.any genS)
end Go.Proofs.YtbodmfbpmeapoaaGreat.PropP

namespace Go.Proofs.YtbodmfbpmeapoaaGreat
open Go.RowKit TreN LexP FixP SynP ValP PropP FixM
set_option linter.unusedVariables false

set_option maxRecDepth 100000 in
theorem standsFor_any (s : List UInt8) (w : World) : Calls Tryz.prog 18 #[.string ⟨s.toArray⟩] w fun e w' => e = .returned (.tuple #[.int .i64 ((stP s).1 : Nat), .int .i64 ((stP s).2 : Nat)]) ∧ Below w.heap.size w w' := by
  have N := Lib.hid (Named_any s w)
  have hb := named_bd s
  obtain ⟨r, hr⟩ : ∃ r, stP s = r := ⟨_, rfl⟩
  rw [hr]
  unfold stP at hr
  by_cases h1 : s = marginT
  · rw [if_pos h1] at hr; subst hr; subst h1; clear N hb
    unfold marginT
    go_enter Tryz.func18, Tryz.ntmps18
    go_wp2_with fail
    go_ret2
    exact ⟨rfl, Below.refl _ _⟩
  rw [if_neg h1] at hr
  have z1 : (s == [109, 97, 114, 103, 105, 110]) = false := by rw [beq_eq_false_iff_ne]; exact h1
  clear h1
  by_cases h1 : s = paddingT
  · rw [if_pos h1] at hr; subst hr; subst h1; clear N hb
    unfold paddingT at *
    go_enter Tryz.func18, Tryz.ntmps18
    go_wp2_with fail
    go_ret2
    exact ⟨rfl, Below.refl _ _⟩
  rw [if_neg h1] at hr
  have z2 : (s == [112, 97, 100, 100, 105, 110, 103]) = false := by rw [beq_eq_false_iff_ne]; exact h1
  clear h1
  by_cases h1 : s = borderT
  · rw [if_pos h1] at hr; subst hr; subst h1; clear N hb
    unfold borderT at *
    go_enter Tryz.func18, Tryz.ntmps18
    go_wp2_with fail
    go_ret2
    exact ⟨rfl, Below.refl _ _⟩
  rw [if_neg h1] at hr
  have z3 : (s == [98, 111, 114, 100, 101, 114, 45, 119, 105, 100, 116, 104]) = false := by rw [beq_eq_false_iff_ne]; exact h1
  clear h1
  by_cases h1 : s = flowT
  · rw [if_pos h1] at hr; subst hr; subst h1; clear N hb
    unfold flowT at *
    go_enter Tryz.func18, Tryz.ntmps18
    go_wp2_with fail
    go_ret2
    exact ⟨rfl, Below.refl _ _⟩
  rw [if_neg h1] at hr
  have z4 : (s == [102, 108, 101, 120, 45, 102, 108, 111, 119]) = false := by rw [beq_eq_false_iff_ne]; exact h1
  clear h1
  by_cases h1 : s = flexT
  · rw [if_pos h1] at hr; subst hr; subst h1; clear N hb
    unfold flexT at *
    go_enter Tryz.func18, Tryz.ntmps18
    go_wp2_with fail
    go_ret2
    exact ⟨rfl, Below.refl _ _⟩
  rw [if_neg h1] at hr
  have z5 : (s == [102, 108, 101, 120]) = false := by rw [beq_eq_false_iff_ne]; exact h1
  clear h1
  by_cases h1 : s = gapT
  · rw [if_pos h1] at hr; subst hr; subst h1; clear N hb
    unfold gapT at *
    go_enter Tryz.func18, Tryz.ntmps18
    go_wp2_with fail
    go_ret2
    exact ⟨rfl, Below.refl _ _⟩
  rw [if_neg h1] at hr
  have z6 : (s == [103, 97, 112]) = false := by rw [beq_eq_false_iff_ne]; exact h1
  clear h1
  by_cases h1 : s = contT
  · rw [if_pos h1] at hr; subst hr; subst h1; clear N hb
    unfold contT at *
    go_enter Tryz.func18, Tryz.ntmps18
    go_wp2_with fail
    go_ret2
    exact ⟨rfl, Below.refl _ _⟩
  rw [if_neg h1] at hr
  have z7 : (s == [99, 111, 110, 116, 97, 105, 110, 101, 114]) = false := by rw [beq_eq_false_iff_ne]; exact h1
  clear h1
  subst hr
  obtain ⟨q, hq⟩ : ∃ q, namedP s = q := ⟨_, rfl⟩
  rw [hq] at N hb ⊢
  clear hq
  have HM : Hid (min (q : Int) 1 = ((min q 1 : Nat) : Int)) := Lib.hid (by omega)
  go_enter Tryz.func18, Tryz.ntmps18
  go_wp2_with fail
  refine N.out.mono ?_
  rintro e w1 ⟨rfl, hb1⟩
  have HB1 := Lib.hid hb1
  clear hb1
  rcases Nat.eq_zero_or_pos q with h0 | h0
  · subst h0
    go_wp2_with fail
    go_ret2
    exact ⟨rfl, HB1.out⟩
  · have h01 : (1 : Int) ≤ (q : Int) := by omega
    have HM2 : Hid (min q 1 = 1) := Lib.hid (by omega)
    go_wp2_with fail
    go_ret2
    refine ⟨?_, HB1.out⟩
    have e := HM.out
    simp
    omega

theorem Vs.get {w : World} {a : Option Addr} {l : List Val} (h : Vs w a l) {k : Nat} (hk : k < l.length) : ∃ b o, a = some ⟨b, o, none⟩ ∧ b < w.heap.size ∧ (w.cell? ⟨b, o + k * 4, none⟩ = some (.int .i64 l[k].kind) ∧ w.cell? ⟨b, o + k * 4 + 1, none⟩ = some (.int .i64 l[k].n) ∧ w.cell? ⟨b, o + k * 4 + 2, none⟩ = some (.int .i64 l[k].d) ∧ w.cell? ⟨b, o + k * 4 + 3, none⟩ = some (.string ⟨l[k].name.toArray⟩)) := by
  rcases h with h | ⟨b, o, e, hb, hc⟩
  · rw [h] at hk; simp at hk
  · exact ⟨b, o, e, hb, hc k hk⟩
/-- a value as an argument -/
abbrev vag (v : Val) : Value := .agg #[.int .i64 v.kind, .int .i64 v.n, .int .i64 v.d, .string ⟨v.name.toArray⟩]

set_option maxRecDepth 100000 in
set_option maxHeartbeats 1000000 in
theorem IndexFuncV_any (q : Nat) (caps : Array Value) (p : Val → Bool) (eq : ∀ args w, (callFunc q args).run Tryz.prog w = .ok (.enter q args) w) (a : Option Addr) (l : List Val) (cap : Nat) (w : World)
    (hf : ∀ t ∈ l, ∀ W, Below w.heap.size w W → Calls Tryz.prog q (#[vag t] ++ caps) W fun e W' => e = .returned (.bool (p t)) ∧ Below W.heap.size W W') (hl : l.length ≤ 100000) (hT : Vs w a l) :
    Calls Tryz.prog 68 #[.slice a l.length cap, .func (.func q) #[] caps] w fun e w' => (∃ z : Int, e = .returned (.int .i64 z) ∧ decide (0 ≤ z) = l.any p) ∧ Below w.heap.size w w' := by
  have HT := Lib.hid hT
  have HF := Lib.hid hf
  obtain ⟨n, hn⟩ : ∃ n, l.length = n := ⟨_, rfl⟩
  have HN := Lib.hid hn
  rw [hn] at hl ⊢
  clear hT hf hn
  go_enter Tryz.func68, Tryz.ntmps68
  go_wp2_with fail
  go_loopw [8] (fun vi wr => ∃ k : Nat, vi = .int .i64 (k : Int) ∧ k ≤ n ∧ Hid (Below w.heap.size w wr) ∧ Hid (∀ j (hj : j < l.length), j < k → p l[j] = false)) (fun vi _ => n - (intOf vi).toNat)
  case atStart => exact ⟨0, rfl, by omega, Lib.hid (Below.refl _ _), Lib.hid fun j hj h => by omega⟩
  case round =>
    obtain ⟨k, rfl, hk, HB, HJ⟩ := hrel
    by_cases hlt : k < n
    · have hltz : (k : Int) < (n : Int) := by omega
      have hkl : k < l.length := by have := HN.out; omega
      obtain ⟨b1, o1, rfl, g1, k1⟩ := HT.out.get hkl
      obtain ⟨⟨tk, tn, td, tx⟩, ht⟩ : ∃ t, l[k] = t := ⟨_, rfl⟩
      rw [ht] at k1
      obtain ⟨k1, k2, k3, k4⟩ := k1
      have d1 := (HB.out.cell (p := ⟨b1, o1 + k * 4, none⟩) g1).trans k1
      have d2 := (HB.out.cell (p := ⟨b1, o1 + k * 4 + 1, none⟩) g1).trans k2
      have d3 := (HB.out.cell (p := ⟨b1, o1 + k * 4 + 2, none⟩) g1).trans k3
      have d4 := (HB.out.cell (p := ⟨b1, o1 + k * 4 + 3, none⟩) g1).trans k4
      have hmem : (⟨tk, tn, td, tx⟩ : Val) ∈ l := by rw [← ht]; exact List.getElem_mem hkl
      have C := fun W hW => HF.out ⟨tk, tn, td, tx⟩ hmem W hW
      obtain ⟨tf, htf⟩ : ∃ b, p ⟨tk, tn, td, tx⟩ = b := ⟨_, rfl⟩
      rw [htf] at C
      have CC := Lib.hid C
      have HTT := Lib.hid ht
      have HTF := Lib.hid htf
      have HMM := Lib.hid hmem
      clear k1 k2 k3 k4 C ht htf hmem
      cases tf
      · go_wp2_with fail
        refine (CC.out _ HB.out).mono ?_
        rintro e w2 ⟨rfl, hb⟩
        have HB2 := Lib.hid (HB.out.trans (hb.mono HB.out.size))
        clear hb CC
        go_wp2_with fail
        go_roundw
        case rel =>
          refine ⟨k + 1, by go_num, by omega, HB2, Lib.hid fun j hj h => ?_⟩
          by_cases c : j = k
          · subst c; rw [HTT.out, HTF.out]
          · exact HJ.out j hj (by omega)
        case measure => simp [intOf]; omega
      · have HA : Hid (decide (0 ≤ (k : Int)) = l.any p) := Lib.hid (by
          have h1 : l.any p = true := by rw [List.any_eq_true]; exact ⟨_, HMM.out, HTF.out⟩
          rw [h1, decide_eq_true_eq]; omega)
        go_wp2_with fail
        refine (CC.out _ HB.out).mono ?_
        rintro e w2 ⟨rfl, hb⟩
        have HB2 := Lib.hid (HB.out.trans (hb.mono HB.out.size))
        clear hb CC
        go_wp2_with fail
        go_ret
        exact ⟨⟨_, rfl, HA.out⟩, HB2.out⟩
    · have HA : Hid (decide (0 ≤ (-1 : Int)) = l.any p) := Lib.hid (by
        have h1 : l.any p = false := by
          rw [List.any_eq_false]
          intro t ht
          obtain ⟨j, hj, e⟩ := List.getElem_of_mem ht
          have hn := HN.out
          rw [← e, HJ.out j hj (by omega)]; simp
        rw [h1]; rfl)
      have hltz : ¬ (k : Int) < (n : Int) := by omega
      go_wp2_with fail
      go_ret
      exact ⟨⟨_, rfl, HA.out⟩, HB.out⟩

set_option maxRecDepth 100000 in
set_option maxHeartbeats 1000000 in
theorem ContainsFuncV_any (q : Nat) (caps : Array Value) (p : Val → Bool) (eq : ∀ args w, (callFunc q args).run Tryz.prog w = .ok (.enter q args) w) (a : Option Addr) (l : List Val) (cap : Nat) (w : World)
    (hf : ∀ t ∈ l, ∀ W, Below w.heap.size w W → Calls Tryz.prog q (#[vag t] ++ caps) W fun e W' => e = .returned (.bool (p t)) ∧ Below W.heap.size W W') (hl : l.length ≤ 100000) (hT : Vs w a l) :
    Calls Tryz.prog 44 #[.slice a l.length cap, .func (.func q) #[] caps] w fun e w' => e = .returned (.bool (l.any p)) ∧ Below w.heap.size w w' := by
  have C := Lib.hid (IndexFuncV_any q caps p eq a l cap w hf hl hT)
  obtain ⟨b, hb⟩ : ∃ b, l.any p = b := ⟨_, rfl⟩
  rw [hb] at C ⊢
  obtain ⟨n, hn⟩ : ∃ n, l.length = n := ⟨_, rfl⟩
  rw [hn] at C ⊢
  clear hf hl hT hn hb
  go_enter Tryz.func44, Tryz.ntmps44
  go_wp2_with fail
  refine C.out.mono ?_
  rintro e w1 ⟨⟨z, rfl, hz⟩, hb1⟩
  have HB := Lib.hid hb1
  have HZ := Lib.hid hz
  clear hb1 hz C
  go_wp2_with fail
  go_ret
  exact ⟨ret_bool HZ.out, HB.out⟩

set_option maxRecDepth 100000 in
set_option maxHeartbeats 1000000 in
theorem fit_any (a : Option Addr) (l : List Val) (n cap count : Nat) (w : World) (hn : l.length = n) (hl : n ≤ 100000) (hc : count ≤ 4) (hT : Vs w a l) :
    Calls Tryz.prog 20 #[.slice a n cap, .int .i64 (count : Nat)] w fun e w' => e = .returned (.bool (fitP l count)) ∧ Below w.heap.size w w' := by
  have C := ContainsFuncV_any 25 #[] genS (fun _ _ => rfl) a l cap w (fun t _ W _ => general_any t.kind t.n t.d t.name W) (by omega) hT
  obtain ⟨g, hg⟩ : ∃ g, l.any genS = g := ⟨_, rfl⟩
  obtain ⟨R, hR⟩ : ∃ R, fitP l count = R := ⟨_, rfl⟩
  unfold fitP at hR
  rw [hg, hn] at hR
  rw [hn, hg] at C
  have CC := Lib.hid C
  unfold fitP
  rw [hn, hg, hR]
  clear C hg hT hn
  by_cases h1 : n = 1
  · subst h1
    have HR : Hid (true = R) := Lib.hid (by rw [← hR]; simp)
    clear hR CC
    go_enter Tryz.func20, Tryz.ntmps20
    go_wp2_with fail
    go_ret
    exact ⟨ret_bool HR.out, Below.refl _ _⟩
  · have z1 : ((n : Int) == 1) = false := by rw [beq_eq_false_iff_ne]; omega
    rw [decide_eq_false h1, Bool.false_or] at hR
    by_cases h2 : n ≤ count
    · have h2z : (n : Int) ≤ (count : Int) := by omega
      rw [decide_eq_true h2, Bool.true_and] at hR
      have HR := Lib.hid hR
      clear hR
      go_enter Tryz.func20, Tryz.ntmps20
      go_wp2_with fail
      refine CC.out.mono ?_
      rintro e w1 ⟨rfl, hb⟩
      have HB := Lib.hid hb
      clear hb CC
      go_wp2_with fail
      go_ret
      exact ⟨ret_bool HR.out, HB.out⟩
    · have h2z : ¬ (n : Int) ≤ (count : Int) := by omega
      rw [decide_eq_false h2, Bool.false_and] at hR
      have HR := Lib.hid hR
      clear hR CC
      go_enter Tryz.func20, Tryz.ntmps20
      go_wp2_with fail
      go_ret
      exact ⟨ret_bool HR.out, Below.refl _ _⟩
end Go.Proofs.YtbodmfbpmeapoaaGreat

namespace Go.Proofs.YtbodmfbpmeapoaaGreat.PropP
open FixM FixP TreN LexP SynP ValP
set_option linter.unusedVariables false

/-- which one of n values stands on side i -/
def sIx (n : Nat) : Nat → Nat
  | 0 => 0
  | 1 => if 1 < n then 1 else 0
  | i + 2 => if i + 2 < n then i + 2 else sIx n i
theorem sIx_lt {n : Nat} (h : 0 < n) : ∀ i, sIx n i < n
  | 0 => h
  | 1 => by show (if 1 < n then 1 else 0) < n; split <;> omega
  | i + 2 => by
    show (if i + 2 < n then i + 2 else sIx n i) < n
    split
    · assumption
    · exact sIx_lt h i
theorem sIx_in {n : Nat} : ∀ {i : Nat}, i < n → sIx n i = i
  | 0, _ => rfl
  | 1, h => if_pos h
  | i + 2, h => if_pos h
theorem sIx_out {n : Nat} (h0 : 0 < n) : ∀ {i : Nat}, n ≤ i → sIx n i = sIx n (i - 2)
  | 0, h => by omega
  | 1, _ => if_neg (by omega)
  | _ + 2, _ => if_neg (by omega)
structure Dec10 where
  prop : Int
  val : Val
  imp : Bool
def sideP (L : List Val) (i : Nat) : Val := L.getD (sIx L.length i) zeroV
def declP (first : Nat) (L : List Val) (count : Nat) : List Dec10 := (List.range count).map fun (i : Nat) => ⟨(first : Int) + (i : Int), sideP L i, false⟩
theorem declP_succ (first : Nat) (L : List Val) (count : Nat) : declP first L (count + 1) = declP first L count ++ [⟨(first : Int) + (count : Int), sideP L count, false⟩] := by
  unfold declP; rw [List.range_succ, List.map_append]; rfl
theorem declP_len (first : Nat) (L : List Val) (count : Nat) : (declP first L count).length = count := by unfold declP; simp
end Go.Proofs.YtbodmfbpmeapoaaGreat.PropP

namespace Go.Proofs.YtbodmfbpmeapoaaGreat
open Go.RowKit TreN LexP FixP SynP ValP PropP FixM
set_option linter.unusedVariables false

/-- what is told lies behind a side's function -/
structure SdAt (w : World) (b : Nat) (L : List Val) : Prop where
  ex : ∃ a c, w.heap[b]? = some (.cells #[.slice a L.length c] 49 (0, 0)) ∧ Vs w a L
theorem SdAt.keep {w w' : World} {b : Nat} {L : List Val} (h : SdAt w b L) (hb : Below w.heap.size w w') : SdAt w' b L := by
  obtain ⟨a, c, h1, h2⟩ := h.ex
  exact ⟨a, c, (hb.block _ (blk_ltP h1)).trans h1, h2.below hb⟩

set_option maxRecDepth 100000 in
set_option maxHeartbeats 1000000 in
theorem side_any (b i : Nat) (L : List Val) (w : World) (hi : i ≤ 100) (hL : 0 < L.length) (hl : L.length ≤ 100000) (h : SdAt w b L) :
    Calls Tryz.prog 48 #[.int .i64 (i : Nat), .pointer (some ⟨b, 0, none⟩)] w fun e w' => e = .returned (vag (sideP L i)) ∧ Below w.heap.size w w' := by
  obtain ⟨a, c, h1, h2⟩ := h.ex
  have hbl := blk_ltP h1
  obtain ⟨n, hn⟩ : ∃ n, L.length = n := ⟨_, rfl⟩
  have hlt := sIx_lt hL i
  obtain ⟨v, hv⟩ : ∃ v, sideP L i = v := ⟨_, rfl⟩
  rw [hv]
  unfold sideP at hv
  rw [List.getD_eq_getElem?_getD, List.getElem?_eq_getElem hlt, Option.getD_some] at hv
  obtain ⟨k, hk⟩ : ∃ k, sIx L.length i = k := ⟨_, rfl⟩
  simp only [hk] at hv hlt
  obtain ⟨b1, o1, rfl, g1, k1⟩ := h2.get hlt
  rw [hv] at k1
  obtain ⟨k1, k2, k3, k4⟩ := k1
  obtain ⟨vk, vn, vd, vx⟩ := v
  rw [hn] at h1 hk hL hl hlt
  have c0 : w.cell? ⟨b, 0, none⟩ = some (.slice (some ⟨b1, o1, none⟩) n c) := cell_of h1 rfl
  have HN := Lib.hid hn
  have HK := Lib.hid hk
  have hkz : (k : Int) < (n : Int) := by omega
  clear h1 h2 h hn hk hv
  go_enter Tryz.func48, Tryz.ntmps48
  go_wp2_with fail
  go_loop [0] (fun vi => ∃ j : Nat, vi = .int .i64 (j : Int) ∧ j ≤ 100 ∧ Hid (sIx n j = k)) (fun vi => (intOf vi).toNat)
  case atStart => exact ⟨i, rfl, hi, HK⟩
  case round =>
    obtain ⟨j, rfl, hj, HJ⟩ := hrel
    by_cases hjn : n ≤ j
    · have hjz : (n : Int) ≤ (j : Int) := by omega
      have HJ2 : Hid (sIx n (j - 2) = k) := Lib.hid (by rw [← sIx_out hL hjn]; exact HJ.out)
      have hj1 : 0 < j := by omega
      go_wp2_with fail
      go_round
      case rel => exact ⟨j - 2, by congr 1; omega, by omega, HJ2⟩
      case measure => simp [intOf]; omega
    · have hjz : ¬ (n : Int) ≤ (j : Int) := by omega
      have hjk : j = k := by have := HJ.out; rw [sIx_in (by omega)] at this; exact this
      subst hjk
      go_wp2_with fail
      exact bodyPost_ret (v := .agg #[.int .i64 vk, .int .i64 vn, .int .i64 vd, .string ⟨vx.toArray⟩]) (by simp [results, Tryz.results48, go_sem]) rfl ⟨rfl, below_oneP _ _⟩
end Go.Proofs.YtbodmfbpmeapoaaGreat

namespace Go.Proofs.YtbodmfbpmeapoaaGreat.PropP
open FixM FixP TreN LexP SynP ValP
set_option linter.unusedVariables false

theorem right_name {v : Val} (h : rightV v = true) : v.name.length ≤ maxLen := by
  have hz : ∀ {x : List UInt8}, x = [] → x.length ≤ maxLen := by rintro x rfl; exact Nat.zero_le _
  unfold rightV at h
  split at h
  · exact hz (of_decide_eq_true h).2.1
  split at h
  · exact hz (of_decide_eq_true h).2.2.2
  split at h
  · exact hz (of_decide_eq_true h).2.2
  split at h
  · exact hz (of_decide_eq_true h).2.2.2.2
  split at h
  · have := (of_decide_eq_true h).2.2.1
    unfold nameL nameB at this
    have h1 := (Bool.and_eq_true_iff.1 this).1
    have h2 : v.name.length ≤ 32 := of_decide_eq_true h1
    unfold maxLen
    omega
  · cases h
theorem pv_right : ∀ (f : Nat) (l : List Tok) (vs : List Val), pv f l = some vs → vs ≠ [] ∧ ∀ v ∈ vs, rightV v = true
  | 0, l, vs, h => by cases h
  | f + 1, l, vs, h => by
    have e : pv (f + 1) l = (if (readV l).2 = 0 then none else if (bs (l.drop (readV l).2)).length < (l.drop (readV l).2).length then (pv f (bs (l.drop (readV l).2))).map ((readV l).1 :: ·) else if l.drop (readV l).2 = [] then some [(readV l).1] else none) := rfl
    rw [e] at h
    by_cases h0 : (readV l).2 = 0
    · rw [if_pos h0] at h; cases h
    · rw [if_neg h0] at h
      have hr : rightV (readV l).1 = true := by
        cases hr : rightV (rawV l).1 with
        | false => exact absurd (readV_zero.2 hr) h0
        | true => unfold readV; rw [if_pos hr]; exact hr
      split at h
      · cases hp : pv f (bs (l.drop (readV l).2)) with
        | none => rw [hp] at h; cases h
        | some ws =>
          rw [hp] at h
          injection h with h
          subst h
          refine ⟨by simp, fun v hv => ?_⟩
          rcases List.mem_cons.1 hv with rfl | hv
          · exact hr
          · exact (pv_right f _ ws hp).2 v hv
      · split at h
        · injection h with h; subst h; exact ⟨by simp, fun v hv => by rw [List.mem_singleton] at hv; subst hv; exact hr⟩
        · cases h
theorem parse_right {l : List Tok} {vs : List Val} (h : parseV l = some vs) : vs ≠ [] ∧ ∀ v ∈ vs, rightV v = true := pv_right _ _ _ h

def numV (n : Int) : Val := ⟨4, n, 0, []⟩
def wrdV (s : List UInt8) : Val := ⟨1, (wordP s : Nat), 0, []⟩
def hdV (vs : List Val) : Val := vs.headD zeroV
def lastV (vs : List Val) : Val := vs.getLastD zeroV
def secondL (vs : List Val) (p : Int) : Val := if 1 < vs.length then vs.getD 1 zeroV else firstZ p
def flowL (vs : List Val) : List Val := if takesP 22 (hdV vs) then [hdV vs, secondL vs 23] else [secondL vs 22, hdV vs]
def padL (vs : List Val) : List Val := vs ++ List.replicate (2 - vs.length) (numV 1000)
def flexL (vs : List Val) : List Val :=
  if decide (vs.length = 1) && isB (hdV vs) [[110, 111, 110, 101]] then [numV 0, numV 0, wrdV [97, 117, 116, 111]]
  else if takesP 26 (hdV vs) then padL (vs.drop 1) ++ [hdV vs]
  else if takesP 26 (lastV vs) then padL (vs.take (vs.length - 1)) ++ [lastV vs]
  else padL vs ++ [⟨2, 0, 1, []⟩]
def partsP (name : List UInt8) (vs : List Val) : List Val :=
  if genS (hdV vs) then vs else if name = flowT then flowL vs else if name = flexT then flexL vs else if name = contT then [secondL vs 34, hdV vs] else vs
def takesD (d : Dec10) : Bool := takesP d.prop d.val
def setI (b : Bool) (d : Dec10) : Dec10 := { d with imp := b }
/-- what a declaration of a name declares, from the values that it tells -/
def parseP (name : List UInt8) (told : Option (List Val)) (imp : Bool) : Int × List Dec10 :=
  if (stP name).2 = 0 then (23, []) else
  match told with
  | none => (22, [])
  | some vs =>
    if fitP vs (stP name).2 = true ∧ (declP (stP name).1 (partsP name vs) (stP name).2).all takesD = true then (0, (declP (stP name).1 (partsP name vs) (stP name).2).map (setI imp)) else (22, [])
theorem setI_take (b : Bool) (l : List Dec10) (k : Nat) (h : k < l.length) : (l.take (k + 1)).map (setI b) ++ l.drop (k + 1) = (l.take k).map (setI b) ++ setI b l[k] :: l.drop (k + 1) := by
  rw [List.take_succ_eq_append_getElem h, List.map_append, List.append_assoc]; rfl
end Go.Proofs.YtbodmfbpmeapoaaGreat.PropP

namespace Go.Proofs.YtbodmfbpmeapoaaGreat
open Go.RowKit TreN LexP FixP SynP ValP PropP FixM
set_option linter.unusedVariables false

def dc10 (d : Dec10) : List Value := [.int .i64 d.prop, .int .i64 d.val.kind, .int .i64 d.val.n, .int .i64 d.val.d, .string ⟨d.val.name.toArray⟩, .bool d.imp]
def dcs10 (l : List Dec10) : List Value := l.flatMap dc10
theorem dcs10_append (l m : List Dec10) : dcs10 (l ++ m) = dcs10 l ++ dcs10 m := by unfold dcs10; rw [List.flatMap_append]
theorem dcs10_length : ∀ l, (dcs10 l).length = l.length * 6
  | [] => rfl
  | d :: l => by
    have : dcs10 (d :: l) = dc10 d ++ dcs10 l := rfl
    rw [this, List.length_append, dcs10_length l, List.length_cons]
    show 6 + _ = _
    omega
theorem dcs10_get (l : List Dec10) (i j : Nat) (h : i < l.length) (hj : j < 6) : (dcs10 l)[i * 6 + j]? = (dc10 l[i])[j]? := by
  have e : l = l.take i ++ l[i] :: l.drop (i + 1) := by rw [← List.drop_eq_getElem_cons h]; simp
  have h1 : (dcs10 (l.take i)).length = i * 6 := by rw [dcs10_length, List.length_take]; congr 1; omega
  generalize hx : l[i] = x at *
  rw [e, dcs10_append, List.getElem?_append_right (by rw [h1]; omega), h1]
  have e2 : dcs10 (x :: l.drop (i + 1)) = dc10 x ++ dcs10 (l.drop (i + 1)) := rfl
  rw [e2, List.getElem?_append_left (by show i * 6 + j - i * 6 < 6; omega)]
  congr 1
  omega
theorem dcs10_set (b : Bool) (l : List Dec10) (k : Nat) (h : k < l.length) :
    (dcs10 ((l.take k).map (setI b) ++ l.drop k)).set (k * 6 + 5) (.bool b) = dcs10 ((l.take (k + 1)).map (setI b) ++ l.drop (k + 1)) := by
  rw [setI_take b l k h, List.drop_eq_getElem_cons h, dcs10_append, dcs10_append]
  have h1 : (dcs10 ((l.take k).map (setI b))).length = k * 6 := by rw [dcs10_length, List.length_map, List.length_take]; congr 1; omega
  rw [List.set_append_right _ _ (by rw [h1]; omega), h1]
  congr 1
  have e2 : k * 6 + 5 - k * 6 = 5 := by omega
  rw [e2]
  rfl
/-- declarations lie there -/
def Ds (w : World) (a : Option Addr) (l : List Dec10) : Prop := l = [] ∨ ∃ b, a = some ⟨b, 0, none⟩ ∧ b < w.heap.size ∧ ∀ i (h : i < l.length), w.cell? ⟨b, i * 6, none⟩ = some (.int .i64 l[i].prop) ∧ w.cell? ⟨b, i * 6 + 1, none⟩ = some (.int .i64 l[i].val.kind) ∧ w.cell? ⟨b, i * 6 + 2, none⟩ = some (.int .i64 l[i].val.n) ∧ w.cell? ⟨b, i * 6 + 3, none⟩ = some (.int .i64 l[i].val.d) ∧ w.cell? ⟨b, i * 6 + 4, none⟩ = some (.string ⟨l[i].val.name.toArray⟩) ∧ w.cell? ⟨b, i * 6 + 5, none⟩ = some (.bool l[i].imp)
theorem Ds.below {w w' : World} {a : Option Addr} {l : List Dec10} (h : Ds w a l) (hb : Below w.heap.size w w') : Ds w' a l := by
  rcases h with h | ⟨b, e, hl, hc⟩
  · exact Or.inl h
  · refine Or.inr ⟨b, e, Nat.lt_of_lt_of_le hl hb.size, fun i hi => ?_⟩
    obtain ⟨h1, h2, h3, h4, h5, h6⟩ := hc i hi
    exact ⟨(hb.cell (p := ⟨b, i * 6, none⟩) hl).trans h1, (hb.cell (p := ⟨b, i * 6 + 1, none⟩) hl).trans h2, (hb.cell (p := ⟨b, i * 6 + 2, none⟩) hl).trans h3, (hb.cell (p := ⟨b, i * 6 + 3, none⟩) hl).trans h4, (hb.cell (p := ⟨b, i * 6 + 4, none⟩) hl).trans h5, (hb.cell (p := ⟨b, i * 6 + 5, none⟩) hl).trans h6⟩
theorem ds_own {w : World} {base g cap : Nat} {l : List Dec10} {n : Nat} (hn : l.length = n) (hg : g < w.heap.size) (h : w.ownsRow base 25 6 (.slice (some ⟨g, 0, none⟩) n cap) n (dcs10 l)) : Ds w (some ⟨g, 0, none⟩) l := by
  subst hn
  refine Or.inr ⟨g, rfl, hg, fun i hi => ?_⟩
  have k := fun j (hj : j < 6) => (h.cellAt (i * 6 + j) (by omega)).trans (dcs10_get l i j hi hj)
  exact ⟨k 0 (by omega), k 1 (by omega), k 2 (by omega), k 3 (by omega), k 4 (by omega), k 5 (by omega)⟩
theorem info_decl10 : (Tryz.prog.info? 25).map (fun i => (i.zero, i.size, i.bytes)) = some (some (.agg #[.int .i64 0, .int .i64 0, .int .i64 0, .int .i64 0, .string ⟨#[]⟩, .bool false]), 6, 56) := by kernel_rfl
theorem und_decls10 : Tryz.prog.underlying 34 = some (.slice 25) := by kernel_rfl
theorem dcs10_one (l : List Dec10) : ∀ u ∈ dcs10 l, u.oneCell' = true := by
  intro u hu
  obtain ⟨d, _, hd⟩ := List.mem_flatMap.1 hu
  simp only [dc10, List.mem_cons, List.not_mem_nil, or_false] at hd
  rcases hd with rfl | rfl | rfl | rfl | rfl | rfl <;> rfl
theorem decl_news (w : World) (d : Dec10) (w1 : World) (h : w1 = w.alloc (.cells (dc10 d).toArray 25)) : ∀ j u, (dc10 d)[j]? = some u → w1.cell? ((⟨w.heap.size, 0, none⟩ : Addr).add j) = some u := by
  intro j u hj
  subst h
  have hb := heap_alloc_new w (.cells (dc10 d).toArray 25)
  rw [Go.WideShapes.add_plain, Nat.zero_add]
  refine cell_of hb ?_
  rw [← hj]
  simp

set_option maxRecDepth 100000 in
set_option maxHeartbeats 2000000 in
theorem declare_any (first count b : Nat) (L : List Val) (w : World) (hc : count ≤ 4) (hf : first ≤ 37) (hL : 0 < L.length) (hl : L.length ≤ 100000) (h : SdAt w b L) :
    Calls Tryz.prog 21 #[.int .i64 (first : Nat), .int .i64 (count : Nat), .func (.func 48) #[] #[.pointer (some ⟨b, 0, none⟩)]] w fun e w' => (∃ v, e = .returned v ∧ w'.ownsRow w.heap.size 25 6 v count (dcs10 (declP first L count))) ∧ Below w.heap.size w w' := by
  have HS := Lib.hid h
  obtain ⟨i0, hi0, hz0, hz1, hz2⟩ := info_parts info_decl10
  clear h
  go_enter Tryz.func21, Tryz.ntmps21
  go_wp2_with fail
  go_loopw [7, 10] (fun v7 v10 wr => ∃ k : Nat, v10 = .int .i64 (k : Int) ∧ k ≤ count ∧ wr.ownsRow w.heap.size 25 6 v7 k (dcs10 (declP first L k)) ∧ Hid (Below w.heap.size w wr)) (fun _ v10 _ => count - (intOf v10).toNat)
  case atStart => exact ⟨0, rfl, by omega, World.ownsRow_nil _ _ _ 6, Lib.hid (Below.refl _ _)⟩
  case round =>
    obtain ⟨k, rfl, hk, hown, HB⟩ := hrel
    by_cases hlt : k < count
    · have hltz : (k : Int) < (count : Int) := by omega
      have S := Lib.hid (side_any b k L wr (by omega) hL hl (HS.out.keep HB.out))
      obtain ⟨⟨vk, vn, vd, vx⟩, hv⟩ : ∃ v, sideP L k = v := ⟨_, rfl⟩
      have hsucc := declP_succ first L k
      rw [hv] at S hsucc
      have HSU := Lib.hid hsucc
      have HO := Lib.hid hown
      clear hv hown hsucc
      go_wp2_with fail
      refine S.out.mono ?_
      rintro e w2 ⟨rfl, hb2⟩
      have hO2 := ownsRow_below HO.out hb2
      have HB2 := Lib.hid (HB.out.trans (hb2.mono HB.out.size))
      clear hb2 HO
      have hrow : ∀ r, u7.ownBlock = some r → w.heap.size ≤ r := fun r hr => (World.ownsRow.lt hO2 r hr).1
      go_wp2_with (at_builtin; refine wpList_append_own _ rfl _ _ 34 rfl w.heap.size 25 i0 _ 6 56 und_decls10 hi0 hz0 hz1 hz2 rfl (by decide) _ _ _ rfl (hO2.alloc _) ⟨w2.heap.size, 0, none⟩ 1 1 (dc10 ⟨(first : Int) + (k : Int), ⟨vk, vn, vd, vx⟩, false⟩) rfl rfl ?c1 ?c2 ?c3 ?c4 ?c5 ?_)
      case c1 => exact decl_news w2 ⟨(first : Int) + (k : Int), ⟨vk, vn, vd, vx⟩, false⟩ _ rfl
      case c2 => intro u hu; exact dcs10_one [⟨(first : Int) + (k : Int), ⟨vk, vn, vd, vx⟩, false⟩] u (by simpa [dcs10] using hu)
      case c3 => unfold maxLen; omega
      case c4 => omega
      case c5 => have := HB2.out.size; simp; omega
      intro v' w4 hown' hgrow _
      have HB4 : Hid (Below w.heap.size w w4) := Lib.hid ((HB2.out.alloc HB2.out.size _).grown hgrow (by have := HB2.out.size; simp; omega) (fun q hq => hrow q hq))
      have HO4 : Hid (w4.ownsRow w.heap.size 25 6 v' (k + 1) (dcs10 (declP first L (k + 1)))) := Lib.hid (by rw [HSU.out, dcs10_append]; simpa [dcs10] using hown')
      clear hown' hgrow hO2
      go_wp2_with fail
      go_roundw
      case rel => exact ⟨k + 1, by go_num, by omega, HO4.out, HB4⟩
      case measure => simp [intOf]; omega
    · have hltz : ¬ (k : Int) < (count : Int) := by omega
      have hkc : k = count := by omega
      subst hkc
      have HO := Lib.hid hown
      clear hown
      go_wp2_with fail
      go_ret
      exact ⟨⟨_, rfl, HO.out⟩, HB.out⟩
end Go.Proofs.YtbodmfbpmeapoaaGreat
