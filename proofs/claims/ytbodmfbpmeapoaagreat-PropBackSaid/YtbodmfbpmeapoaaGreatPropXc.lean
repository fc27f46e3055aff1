/- Joined texts: PropX7 PropX8. -/
import Derived.Test.YtbodmfbpmeapoaaGreatPropXb
import Derived.Test.YtbodmfbpmeapoaaGreatValW3
namespace Go.Proofs.YtbodmfbpmeapoaaGreat.PropP
open FixM FixP TreN LexP SynP ValP
set_option linter.unusedVariables false

theorem pv_len : ∀ (f : Nat) (l : List Tok) (vs : List Val), pv f l = some vs → vs.length ≤ l.length
  | 0, l, vs, h => by cases h
  | f + 1, l, vs, h => by
    have e : pv (f + 1) l = (if (readV l).2 = 0 then none else if (bs (l.drop (readV l).2)).length < (l.drop (readV l).2).length then (pv f (bs (l.drop (readV l).2))).map ((readV l).1 :: ·) else if l.drop (readV l).2 = [] then some [(readV l).1] else none) := rfl
    rw [e] at h
    have hle := readV_le l
    by_cases h0 : (readV l).2 = 0
    · rw [if_pos h0] at h; cases h
    · rw [if_neg h0] at h
      have hb := bs_len (l.drop (readV l).2)
      rw [List.length_drop] at hb
      split at h
      · cases hp : pv f (bs (l.drop (readV l).2)) with
        | none => rw [hp] at h; cases h
        | some ws =>
          rw [hp] at h
          injection h with h
          subst h
          have := pv_len f _ ws hp
          rw [List.length_cons]
          omega
      · split at h
        · injection h with h; subst h; simp; omega
        · cases h
theorem parse_len {l : List Tok} {vs : List Val} (h : parseV l = some vs) : vs.length ≤ l.length := Nat.le_trans (pv_len _ _ _ h) (trm_len l)
theorem parts_plain {name : List UInt8} {vs : List Val} (h : genS (hdV vs) = true ∨ (name ≠ flowT ∧ name ≠ flexT ∧ name ≠ contT)) : partsP name vs = vs := by
  unfold partsP
  rcases h with h | ⟨h1, h2, h3⟩
  · rw [if_pos h]
  · split
    · rfl
    · first
      | rfl
      | rw [if_neg h1, if_neg h2, if_neg h3]
def onePx : List UInt8 := [49, 112, 120, 32, 97, 117, 116, 111]
def twoT : List UInt8 := [50]
theorem onePx_len : (cut onePx).length = 3 := by decide +kernel
theorem twoT_len : (cut twoT).length = 1 := by decide +kernel
theorem onePx_told : parseV (cut onePx) = some [⟨2, 1000, 1, []⟩, ⟨1, 1, 0, []⟩] := by decide +kernel
theorem twoT_told : parseV (cut twoT) = some [⟨4, 2000, 0, []⟩] := by decide +kernel
theorem margin_gives : (parseP marginT (some [⟨2, 1000, 1, []⟩, ⟨1, 1, 0, []⟩]) false).1 = 0 ∧ (parseP marginT (some [⟨2, 1000, 1, []⟩, ⟨1, 1, 0, []⟩]) false).2.map Dec10.val = [⟨2, 1000, 1, []⟩, ⟨1, 1, 0, []⟩, ⟨2, 1000, 1, []⟩, ⟨1, 1, 0, []⟩] := by decide +kernel
theorem flex_gives : (parseP flexT (some [⟨4, 2000, 0, []⟩]) false).1 = 0 ∧ (parseP flexT (some [⟨4, 2000, 0, []⟩]) false).2.map Dec10.val = [⟨4, 2000, 0, []⟩, ⟨4, 1000, 0, []⟩, ⟨2, 0, 1, []⟩] := by decide +kernel
theorem flex_parts : partsP flexT [⟨4, 2000, 0, []⟩] = [⟨4, 2000, 0, []⟩, numV 1000, ⟨2, 0, 1, []⟩] := by decide +kernel
theorem two_facts : isB ⟨4, 2000, 0, []⟩ [[110, 111, 110, 101]] = false ∧ takesP 26 ⟨4, 2000, 0, []⟩ = false ∧ genS ⟨4, 2000, 0, []⟩ = false := by decide +kernel
theorem cut_ok (s : List UInt8) (h : s.length ≤ 10000) : ∀ t ∈ cut s, t.text.length ≤ maxLen := fun t ht => by
  have := (cut_texts _ s (Nat.le_refl _)).2 t ht
  unfold maxLen; omega
end Go.Proofs.YtbodmfbpmeapoaaGreat.PropP

namespace Go.Proofs.YtbodmfbpmeapoaaGreat
open Go.RowKit TreN LexP FixP SynP ValP PropP FixM
set_option linter.unusedVariables false

theorem Parse10_plain (name : List UInt8) (a : Option Addr) (l : List Tok) (n cap : Nat) (imp : Bool) (w : World) (hn : l.length = n) (h1 : n ≤ cap) (h2 : cap ≤ maxLen) (hl : n ≤ 90000) (hT : Tks w a l) (hx : TxOk l) (hc : name ≠ contT)
    (hg : ∀ vs, parseV l = some vs → fitP vs (stP name).2 = true → genS (hdV vs) = true ∨ (name ≠ flowT ∧ name ≠ flexT ∧ name ≠ contT)) :
    Calls Tryz.prog 8 #[.agg #[.string ⟨name.toArray⟩, .slice a n cap, .bool imp]] w (PdIs w (parseP name (parseV l) imp)) := by
  subst hn
  have hne : ∀ vs, parseV l = some vs → 0 < vs.length := fun vs h => List.length_pos_iff.2 (parse_right h).1
  refine Parse10_of name a l _ cap imp w (parseV l) rfl (fun W hW => tell_any name a l cap imp W h1 h2 hl (hT.below hW) hx hc) (fun vs h hf W a2 c hV => ?_) (fun vs h => Nat.le_trans (parse_len h) hl) (fun vs h hf => ?_)
  · rw [parts_plain (hg vs h hf)]
    exact sides_gen name a2 vs vs.length c W rfl (hne vs h) (by have := parse_len h; omega) hV (hg vs h hf)
  · rw [parts_plain (hg vs h hf)]
    exact ⟨hne vs h, by have := parse_len h; omega, fun v hv => right_name ((parse_right h).2 v hv)⟩

theorem cell_heap {w w' : World} {b : Nat} (h : w'.heap[b]? = w.heap[b]?) (o : Nat) : w'.cell? ⟨b, o, none⟩ = w.cell? ⟨b, o, none⟩ := by simp [World.cell?, h]
theorem tks_other {w x : World} {B : Nat} {s : ByteArray} {sl : Value} {bb : Bool} {T : TypeId} {n0 n1 n2 : Value} {a : Option Addr} {l : List Tok} (h : Tks w a l) (hs : ∀ k, sl ≠ .int .i64 k)
    (hB : w.heap[B]? = some (.cells #[.string s, sl, .bool bb] T (0, 0))) (h3 : Three w x B T n0 n1 n2) : Tks x a l := by
  rcases h with h | ⟨b, o, e, hb, hc⟩
  · exact Or.inl h
  · by_cases hl : l = []
    · exact Or.inl hl
    · have hpos := List.length_pos_iff.2 hl
      have hne : b ≠ B := by
        rintro rfl
        have k := (hc 0 hpos).kind
        rw [Nat.zero_mul, Nat.add_zero, cell_of_row w b o _ T (0, 0) hB] at k
        rcases o with _ | _ | _ | o
        · simp at k
        · simp at k; exact hs _ k
        · simp at k
        · simp at k
      exact Or.inr ⟨b, o, e, by rw [h3.size]; exact hb, fun i hi => ⟨(cell_heap (h3.there b hne) _).trans (hc i hi).kind, (cell_heap (h3.there b hne) _).trans (hc i hi).text, (cell_heap (h3.there b hne) _).trans (hc i hi).n⟩⟩

set_option maxRecDepth 100000 in
set_option maxHeartbeats 1000000 in
theorem raw10_any (name s : List UInt8) (w : World) (hs : s.length ≤ 10000) :
    Calls Tryz.prog 17 #[.string ⟨name.toArray⟩, .string ⟨s.toArray⟩] w fun e w' => (∃ a c, e = .returned (.agg #[.string ⟨name.toArray⟩, .slice a (cut s).length c, .bool false]) ∧ Tks w' a (cut s) ∧ (cut s).length ≤ c ∧ c ≤ maxLen) ∧ Below w.heap.size w w' := by
  have HBB := Lib.hid (below_oneP w (.cells #[.string ⟨#[]⟩, .slice none 0 0, .bool false] 28))
  have HX : Hid ((w.alloc (.cells #[.string ⟨#[]⟩, .slice none 0 0, .bool false] 28)).heap[w.heap.size]? = some (.cells #[.string ⟨#[]⟩, .slice none 0 0, .bool false] 28 (0, 0))) := Lib.hid (heap_alloc_new w _)
  have C := Lib.hid (fun W => refCut_cap ⟨s.toArray⟩ W (by show s.toArray.size ≤ 40000; simp; omega))
  go_enter Tryz.func17, Tryz.ntmps17
  go_wp2_with fail
  refine (C.out _).mono ?_
  rintro e w1 ⟨a1, c1, rfl, hT, hb, hc1, hc2⟩
  have hx1 := (hb.block _ (blk_ltP HX.out)).trans HX.out
  have HB1 := HBB.out.trans (hb.mono HBB.out.size)
  obtain ⟨m, hm⟩ : ∃ m, (cut s).length = m := ⟨_, rfl⟩
  have hm2 : (cut (⟨s.toArray⟩ : ByteArray).data.toList).length = m := hm
  rw [hm2] at hc1 ⊢
  obtain ⟨x1, x2, x3, ⟨p0, q0, r0⟩, ⟨p1, q1, r1⟩, ⟨p2, q2, r2⟩, h3⟩ := three_store w1 w.heap.size 28 _ _ _ (.string ⟨name.toArray⟩) (.slice a1 m c1) (.bool false) hx1
  have e0 := cell_of (k := 0) h3.here rfl
  have e1 := cell_of (k := 1) h3.here rfl
  have e2 := cell_of (k := 2) h3.here rfl
  have HT : Hid (Tks x3 a1 (cut s)) := Lib.hid (tks_other hT (by intro k; simp) hx1 h3)
  have HB := Lib.hid (h3.below w.heap.size w (Nat.le_refl _) HB1)
  have HM := Lib.hid hm
  have HC := Lib.hid (And.intro hc1 hc2)
  clear hT hb hx1 HB1 h3 hm hm2 hc1 hc2
  go_wp2_with fail
  exact bodyPost_ret (v := .agg #[.string ⟨name.toArray⟩, .slice a1 m c1, .bool false]) (by simp [results, Tryz.results17, go_sem, e0, e1, e2]) rfl ⟨⟨a1, c1, by rw [HM.out], HT.out, by rw [HM.out]; exact HC.out.1, HC.out.2⟩, HB.out⟩
end Go.Proofs.YtbodmfbpmeapoaaGreat

namespace Go.Proofs.YtbodmfbpmeapoaaGreat
open Go.RowKit TreN LexP FixP SynP ValP PropP FixM
set_option linter.unusedVariables false

theorem Ds.get {w : World} {a : Option Addr} {l : List Dec10} (h : Ds w a l) {i : Nat} (hi : i < l.length) : ∃ b, a = some ⟨b, 0, none⟩ ∧ b < w.heap.size ∧ (w.cell? ⟨b, i * 6, none⟩ = some (.int .i64 l[i].prop) ∧ w.cell? ⟨b, i * 6 + 1, none⟩ = some (.int .i64 l[i].val.kind) ∧ w.cell? ⟨b, i * 6 + 2, none⟩ = some (.int .i64 l[i].val.n) ∧ w.cell? ⟨b, i * 6 + 3, none⟩ = some (.int .i64 l[i].val.d) ∧ w.cell? ⟨b, i * 6 + 4, none⟩ = some (.string ⟨l[i].val.name.toArray⟩) ∧ w.cell? ⟨b, i * 6 + 5, none⟩ = some (.bool l[i].imp)) := by
  rcases h with h | ⟨b, e, hl, hc⟩
  · rw [h] at hi; simp at hi
  · exact ⟨b, e, hl, hc i hi⟩
theorem vals_at {l : List Dec10} {vs : List Val} (h : l.map Dec10.val = vs) (i : Nat) (hi : i < l.length) (v : Val) (hv : vs[i]? = some v) : l[i].val = v := by
  subst h
  rw [List.getElem?_map, List.getElem?_eq_getElem hi] at hv
  simpa using hv

set_option maxRecDepth 100000 in
set_option maxHeartbeats 4000000 in
theorem known10_any (w : World) : Calls Tryz.prog 7 #[] w fun e w' => e = .returned (.bool true) ∧ Below w.heap.size w w' := by
  have R1 := fun W => raw10_any marginT onePx W (by decide)
  have R2 := fun W => raw10_any flexT twoT W (by decide)
  simp only [onePx_len] at R1
  simp only [twoT_len] at R2
  have P1 := fun W a c (h1 : 3 ≤ c) (h2 : c ≤ maxLen) hT => Parse10_plain marginT a (cut onePx) 3 c false W onePx_len h1 h2 (by omega) hT (cut_ok onePx (by decide)) (by decide) (fun _ _ _ => Or.inr (by decide))
  have P2 := fun W a c (h1 : 1 ≤ c) (h2 : c ≤ maxLen) (hT : Tks W a (cut twoT)) => Parse10_of flexT a (cut twoT) 1 c false W (parseV (cut twoT)) twoT_len
    (fun W2 hW => by have := tell_any flexT a (cut twoT) c false W2 (by rw [twoT_len]; exact h1) h2 (by rw [twoT_len]; omega) (hT.below hW) (cut_ok twoT (by decide)) (by decide); rw [twoT_len] at this; exact this)
    (fun vs h hf W2 a2 c2 hV => by
      rw [twoT_told] at h; injection h with h; subst h
      rw [flex_parts]
      exact sides_flex ⟨4, 2000, 0, []⟩ a2 c2 W2 hV two_facts.1 two_facts.2.1 two_facts.2.2 (Nat.zero_le _))
    (fun vs h => by rw [twoT_told] at h; injection h with h; subst h; decide)
    (fun vs h hf => by
      rw [twoT_told] at h; injection h with h; subst h
      rw [flex_parts]
      exact ⟨by decide, by decide, fun v hv => by
        have : v.name = [] := by
          simp only [List.mem_cons, List.not_mem_nil, or_false] at hv
          rcases hv with rfl | rfl | rfl <;> rfl
        rw [this]; exact Nat.zero_le _⟩)
  rw [onePx_told] at P1
  rw [twoT_told] at P2
  obtain ⟨m1, m2⟩ := margin_gives
  obtain ⟨x1, x2⟩ := flex_gives
  obtain ⟨⟨mc, ml⟩, hml⟩ : ∃ r, parseP marginT (some [⟨2, 1000, 1, []⟩, ⟨1, 1, 0, []⟩]) false = r := ⟨_, rfl⟩
  obtain ⟨⟨xc, xl⟩, hxl⟩ : ∃ r, parseP flexT (some [⟨4, 2000, 0, []⟩]) false = r := ⟨_, rfl⟩
  rw [hml] at P1 m1 m2
  rw [hxl] at P2 x1 x2
  simp only [] at m1 m2 x1 x2
  subst m1; subst x1
  have lm : ml.length = 4 := by have := congrArg List.length m2; rw [List.length_map] at this; exact this
  have lx : xl.length = 3 := by have := congrArg List.length x2; rw [List.length_map] at this; exact this
  have v1 := vals_at m2 1 (by omega) _ rfl
  have v2 := vals_at x2 0 (by omega) _ rfl
  have v3 := vals_at x2 2 (by omega) _ rfl
  have P1b : Hid (∀ W a c, 3 ≤ c → c ≤ maxLen → Tks W a (cut onePx) → Calls Tryz.prog 8 #[.agg #[.string ⟨marginT.toArray⟩, .slice a 3 c, .bool false]] W fun e w' => ∃ b c, e = .returned (.tuple #[.slice (some ⟨b, 0, none⟩) 4 c, .int .i64 0]) ∧ Hid ((w'.cell? ⟨b, 7, none⟩ = some (.int .i64 1) ∧ w'.cell? ⟨b, 8, none⟩ = some (.int .i64 1) ∧ w'.cell? ⟨b, 9, none⟩ = some (.int .i64 0) ∧ w'.cell? ⟨b, 10, none⟩ = some (.string ⟨#[]⟩)) ∧ b < w'.heap.size ∧ Below W.heap.size W w')) := Lib.hid fun W a c h1 h2 hT => (P1 W a c h1 h2 hT).mono fun e w' h => by
    obtain ⟨⟨a4, c4, he, hd⟩, hb⟩ := h
    have hd : Ds w' a4 ml := hd
    obtain ⟨b, rfl, hbl, g0, g1, g2, g3, g4, g5⟩ := hd.get (i := 1) (by omega)
    rw [v1] at g1 g2 g3 g4
    exact ⟨b, c4, by rw [he]; simp only [lm], ⟨g1, g2, g3, g4⟩, hbl, hb⟩
  have P2b : Hid (∀ W a c, 1 ≤ c → c ≤ maxLen → Tks W a (cut twoT) → Calls Tryz.prog 8 #[.agg #[.string ⟨flexT.toArray⟩, .slice a 1 c, .bool false]] W fun e w' => ∃ b c, e = .returned (.tuple #[.slice (some ⟨b, 0, none⟩) 3 c, .int .i64 0]) ∧ Hid (((w'.cell? ⟨b, 1, none⟩ = some (.int .i64 4) ∧ w'.cell? ⟨b, 2, none⟩ = some (.int .i64 2000) ∧ w'.cell? ⟨b, 3, none⟩ = some (.int .i64 0) ∧ w'.cell? ⟨b, 4, none⟩ = some (.string ⟨#[]⟩)) ∧ (w'.cell? ⟨b, 13, none⟩ = some (.int .i64 2) ∧ w'.cell? ⟨b, 14, none⟩ = some (.int .i64 0) ∧ w'.cell? ⟨b, 15, none⟩ = some (.int .i64 1) ∧ w'.cell? ⟨b, 16, none⟩ = some (.string ⟨#[]⟩))) ∧ Below W.heap.size W w')) := Lib.hid fun W a c h1 h2 hT => (P2 W a c h1 h2 hT).mono fun e w' h => by
    obtain ⟨⟨a4, c4, he, hd⟩, hb⟩ := h
    have hd : Ds w' a4 xl := hd
    obtain ⟨b, rfl, hbl, g0, g1, g2, g3, g4, g5⟩ := hd.get (i := 0) (by omega)
    obtain ⟨b', e', _, k0, k1, k2, k3, k4, k5⟩ := hd.get (i := 2) (by omega)
    injection e' with e'; injection e' with e'; subst e'
    rw [v2] at g1 g2 g3 g4
    rw [v3] at k1 k2 k3 k4
    exact ⟨b, c4, by rw [he]; simp only [lx], ⟨⟨g1, g2, g3, g4⟩, ⟨k1, k2, k3, k4⟩⟩, hb⟩
  have R1H := Lib.hid R1
  have R2H := Lib.hid R2
  have q1 : ∀ W, (binOp .eql 23 (.agg #[.int .i64 1, .int .i64 1, .int .i64 0, .string ⟨#[]⟩]) (.agg #[.int .i64 1, .int .i64 1, .int .i64 0, .string ⟨#[]⟩])).run Tryz.prog W = .ok (.bool true) W := fun W => by have := val_eql 1 1 0 1 1 0 [] [] W; simpa using this
  have q2 : ∀ W, (binOp .eql 23 (.agg #[.int .i64 4, .int .i64 2000, .int .i64 0, .string ⟨#[]⟩]) (.agg #[.int .i64 4, .int .i64 2000, .int .i64 0, .string ⟨#[]⟩])).run Tryz.prog W = .ok (.bool true) W := fun W => by have := val_eql 4 2000 0 4 2000 0 [] [] W; simpa using this
  have q3 : ∀ W, (binOp .eql 23 (.agg #[.int .i64 2, .int .i64 0, .int .i64 1, .string ⟨#[]⟩]) (.agg #[.int .i64 2, .int .i64 0, .int .i64 1, .string ⟨#[]⟩])).run Tryz.prog W = .ok (.bool true) W := fun W => by have := val_eql 2 0 1 2 0 1 [] [] W; simpa using this
  have Q1 := Lib.hid q1
  have Q2 := Lib.hid q2
  have Q3 := Lib.hid q3
  clear P1 P2 R1 R2 m2 x2 hml hxl v1 v2 v3 lm lx q1 q2 q3
  go_enter Tryz.func7, Tryz.ntmps7
  go_wp2_with fail
  refine (R1H.out _).mono ?_
  rintro e w1 ⟨⟨a1, c1, rfl, hT1, g1, g2⟩, hb1⟩
  have HB1 := Lib.hid hb1
  have C1 := Lib.hid (P1b.out w1 a1 c1 g1 g2 hT1)
  clear hb1 hT1 g1 g2
  go_wp2_with fail
  refine C1.out.mono ?_
  rintro e w2 ⟨b2, c2, rfl, HF2⟩
  have HB2 := Lib.hid (HB1.out.trans (HF2.out.2.2.mono HB1.out.size))
  go_wp2_with fail
  refine (R2H.out _).mono ?_
  rintro e w3 ⟨⟨a3, c3, rfl, hT3, g1, g2⟩, hb3⟩
  have HB3 := Lib.hid (HB2.out.trans (hb3.mono HB2.out.size))
  have C3 := Lib.hid (P2b.out w3 a3 c3 g1 g2 hT3)
  have HQ3 := Lib.hid hb3
  clear hb3 hT3 g1 g2
  go_wp2_with fail
  refine C3.out.mono ?_
  rintro e w4 ⟨b4, c4, rfl, HF4⟩
  have hb4 := HF4.out.2
  have HB4 := Lib.hid (HB3.out.trans (hb4.mono HB3.out.size))
  obtain ⟨⟨d1, d2, d3, d4⟩, hl2, _⟩ := HF2.out
  have hq3 := HQ3.out
  have hl3 := Nat.lt_of_lt_of_le hl2 hq3.size
  have d1 := (hb4.cell (p := ⟨b2, 7, none⟩) hl3).trans ((hq3.cell (p := ⟨b2, 7, none⟩) hl2).trans d1)
  have d2 := (hb4.cell (p := ⟨b2, 8, none⟩) hl3).trans ((hq3.cell (p := ⟨b2, 8, none⟩) hl2).trans d2)
  have d3 := (hb4.cell (p := ⟨b2, 9, none⟩) hl3).trans ((hq3.cell (p := ⟨b2, 9, none⟩) hl2).trans d3)
  have d4 := (hb4.cell (p := ⟨b2, 10, none⟩) hl3).trans ((hq3.cell (p := ⟨b2, 10, none⟩) hl2).trans d4)
  obtain ⟨⟨⟨e1, e2, e3, e4⟩, f1, f2, f3, f4⟩, _⟩ := HF4.out
  have q1 := Q1.out
  have q2 := Q2.out
  have q3 := Q3.out
  clear hb4 hq3
  go_wp2_with fail
  go_ret
  exact ⟨rfl, HB4.out⟩
end Go.Proofs.YtbodmfbpmeapoaaGreat
