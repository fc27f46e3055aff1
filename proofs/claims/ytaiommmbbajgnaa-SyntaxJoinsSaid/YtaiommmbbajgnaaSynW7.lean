/- Layer 6: declarations read one by one. -/
import Derived.Test.YtaiommmbbajgnaaSynW6
import Derived.Outline
import Derived.Deep.RegionLaw
import Derived.Deep.AppendLies
namespace Go.Proofs.Ytaiommmbbajgnaa
open Go.RowKit TreN LexP FixP SynP
set_option linter.unusedVariables false

/-- a declaration in memory -/
structure DecV where
  d : Dec
  a : Option Addr
  cap : Nat
def dcs : List DecV → List Value
  | [] => []
  | x :: r => .string ⟨x.d.name.toArray⟩ :: .slice x.a x.d.value.length x.cap :: .bool x.d.imp :: dcs r
theorem dcs_length : ∀ l, (dcs l).length = l.length * 3
  | [] => rfl
  | x :: l => by simp only [dcs, List.length_cons, dcs_length l]; omega
theorem dcs_append : ∀ l m, dcs (l ++ m) = dcs l ++ dcs m
  | [], m => rfl
  | x :: l, m => by simp only [List.cons_append, dcs, dcs_append l m]
theorem dcs_one : ∀ (l : List DecV) (v : Value), v ∈ dcs l → v.oneCell' = true
  | [], v, h => by cases h
  | x :: l, v, h => by
    simp only [dcs, List.mem_cons] at h
    rcases h with rfl | rfl | rfl | h
    · rfl
    · rfl
    · rfl
    · exact dcs_one l v h
theorem info_decl : (Try.prog.info? 43).map (fun i => (i.zero, i.size, i.bytes)) = some (some (.agg #[.string ⟨#[]⟩, .slice none 0 0, .bool false]), 3, 48) := by kernel_rfl
theorem und_decls : Try.prog.underlying 32 = some (.slice 43) := by kernel_rfl
/-- its value lies apart from the row -/
def VIn (w : World) (lo : Nat) (v : Value) (x : DecV) : Prop := x.d.value.length ≤ x.cap ∧ x.cap ≤ maxLen ∧ (x.d.value = [] ∨ ∃ b o, x.a = some ⟨b, o, none⟩ ∧ lo ≤ b ∧ v.ownBlock ≠ some b ∧ b < w.heap.size ∧ TksAt w b o x.d.value)
theorem VIn.tks {w : World} {lo : Nat} {v : Value} {x : DecV} (h : VIn w lo v x) : Tks w x.a x.d.value := by
  rcases h.2.2 with h | ⟨b, o, h1, _, _, h4, h5⟩
  · exact Or.inl h
  · exact Or.inr ⟨b, o, h1, h4, h5⟩
theorem VIn.below {w w' : World} {lo : Nat} {v : Value} {x : DecV} (h : VIn w lo v x) (hb : Below w.heap.size w w') : VIn w' lo v x := by
  obtain ⟨c1, c2, h⟩ := h
  refine ⟨c1, c2, ?_⟩
  rcases h with h | ⟨b, o, h1, h2, h3, h4, h5⟩
  · exact Or.inl h
  · exact Or.inr ⟨b, o, h1, h2, h3, Nat.lt_of_lt_of_le h4 hb.size, h5.below hb h4⟩
/-- what is read so far: the reader P -/
structure RdR (w0 : World) (P : Nat) (l : List Dec) (w : World) : Prop where
  ex : ∃ v ds, ds.map DecV.d = l ∧ w.heap[P]? = some (.cells #[v] 47 (0, 0)) ∧ w.ownsRow (P + 2) 43 3 v ds.length (dcs ds) ∧ ∀ x ∈ ds, VIn w (P + 2) v x
  below : Below w0.heap.size w0 w
  base : w0.heap.size ≤ P
  lt : P + 1 < w.heap.size ∨ P + 1 = w.heap.size
theorem RdR.keep {w0 : World} {P : Nat} {l : List Dec} {w w' : World} (h : RdR w0 P l w) (hb : Below w.heap.size w w') : RdR w0 P l w' := by
  obtain ⟨⟨v, ds, h1, h2, h3, h4⟩, h5, h6, h7⟩ := h
  have hP : P < w.heap.size := by
    obtain ⟨hlt, _⟩ := Array.getElem?_eq_some_iff.1 h2
    exact hlt
  exact ⟨⟨v, ds, h1, (hb.block P hP).trans h2, ownsRow_below h3 hb, fun x hx => (h4 x hx).below hb⟩, h5.trans (hb.mono h5.size), h6, by have := hb.size; omega⟩
theorem VIn.moved {w w' : World} {lo P g : Nat} {v v2 : Value} {x : DecV} {u : Value} (h : VIn w lo v x) (hlo : P < lo) (hg : w.grownBy w' v.ownBlock) (hv : v2.ownBlock = some g) (hgn : v.ownBlock = some g ∨ w.heap.size ≤ g) : VIn (w'.setCell ⟨P, 0, none⟩ u) lo v2 x := by
  obtain ⟨c1, c2, h⟩ := h
  refine ⟨c1, c2, ?_⟩
  rcases h with h | ⟨b, o, h1, h2, h3, h4, h5⟩
  · exact Or.inl h
  · have hne : g ≠ b := by
      rcases hgn with q | q
      · intro e; subst e; exact h3 q
      · omega
    have hblk : (w'.setCell ⟨P, 0, none⟩ u).heap[b]? = w.heap[b]? := by
      rw [setCell_there _ (by omega)]
      exact hg.block b h4 (fun e => h3 e.symm)
    have hcell : ∀ j, (w'.setCell ⟨P, 0, none⟩ u).cell? ⟨b, j, none⟩ = w.cell? ⟨b, j, none⟩ := fun j => by
      simp only [World.cell?]
      rw [hblk]
    refine Or.inr ⟨b, o, h1, h2, by rw [hv]; intro e; injection e with e; exact hne e, by rw [setCell_size]; exact Nat.lt_of_lt_of_le h4 hg.size, fun i hi => ?_⟩
    have h6 := h5 i hi
    exact ⟨(hcell _).trans h6.kind, (hcell _).trans h6.text, (hcell _).trans h6.n⟩
/-- one declaration more -/
theorem RdR.push {w0 : World} {P : Nat} {v : Value} {ds : List DecV} {w4 w5 : World} {X : DecV} {o : Obj} {g cap : Nat} {l : List Dec} (hP0 : w0.heap.size ≤ P) (hl : ds.map DecV.d = l) (hb : Below w0.heap.size w0 w4)
    (hP : w4.heap[P]? = some (.cells #[v] 47 (0, 0))) (hown : w4.ownsRow (P + 2) 43 3 v ds.length (dcs ds)) (hV : ∀ x ∈ ds, VIn w4 (P + 2) v x) (hX : VIn w4 (P + 2) v X) (hlt : P + 1 < w4.heap.size ∨ P + 1 = w4.heap.size)
    (hg : (w4.alloc o).grownBy w5 v.ownBlock) (ho5 : w5.ownsRow (P + 2) 43 3 (.slice (some ⟨g, 0, none⟩) (ds.length + 1) cap) (ds.length + 1) (dcs ds ++ dcs [X])) (hgn : v.ownBlock = some g ∨ g = (w4.alloc o).heap.size) :
    RdR w0 P (l ++ [X.d]) (w5.setCell ⟨P, 0, none⟩ (.slice (some ⟨g, 0, none⟩) (ds.length + 1) cap)) := by
  have hrow : ∀ q, v.ownBlock = some q → P + 2 ≤ q ∧ q < w4.heap.size := fun q hq => World.ownsRow.lt hown q hq
  have hPlt : P < w4.heap.size := by
    obtain ⟨h, _⟩ := Array.getElem?_eq_some_iff.1 hP
    exact h
  have hP5 : w5.heap[P]? = some (.cells #[v] 47 (0, 0)) := by
    rw [hg.block P (by simp; omega) (fun e => by have := hrow P e.symm; omega), Below.heap_alloc _ _ _ hPlt]; exact hP
  have hb5 : Below w0.heap.size w0 w5 := (hb.alloc hb.size _).grown hg (by have := hb.size; simp; omega) (fun q hq => by have := hrow q hq; omega)
  have hP6 := setCell_here (k := 0) (.slice (some ⟨g, 0, none⟩) (ds.length + 1) cap) hP5
  have hg2 : (P + 2) ≤ g := by
    rcases hgn with h | h
    · exact (hrow g h).1
    · simp at h; omega
  have mv : ∀ x, VIn w4 (P + 2) v x → VIn (w5.setCell ⟨P, 0, none⟩ (.slice (some ⟨g, 0, none⟩) (ds.length + 1) cap)) (P + 2) (.slice (some ⟨g, 0, none⟩) (ds.length + 1) cap) x := fun x hx =>
    VIn.moved (hx.below ((Below.refl _ _).alloc (Nat.le_refl _) o)) (by omega) hg rfl (by rcases hgn with h | h; exact Or.inl h; exact Or.inr (by rw [h]; exact Nat.le_refl _))
  refine ⟨⟨_, ds ++ [X], by simp [hl], hP6, ?_, ?_⟩, hb5.setCell (p := ⟨P, 0, none⟩) hP0 _, hP0, ?_⟩
  · rw [List.length_append, dcs_append]
    exact ownsRow_setNe ho5 (fun g' hg' => by injection hg' with hg'; have e : g = g' := hg'; omega) _
  · intro x hx
    rcases List.mem_append.1 hx with hx | hx
    · exact mv x (hV x hx)
    · rw [List.mem_singleton] at hx; subst hx; exact mv _ hX
  · have := hg.size
    rw [setCell_size]
    simp at this; omega
theorem read_blk {P : Nat} {v : Value} {ds : List DecV} {w3 w4 w5 : World} {o : Obj} {rest : Prop} (h : w3.heap[P]? = some (.cells #[v] 47 (0, 0)) ∧ w3.ownsRow (P + 2) 43 3 v ds.length (dcs ds) ∧ rest) (hb : Below w3.heap.size w3 w4) (hg : (w4.alloc o).grownBy w5 v.ownBlock) : w5.heap[P]? = some (.cells #[v] 47 (0, 0)) := by
  have hP := blk_keepS hb h.1
  have hPlt : P < w4.heap.size := by
    obtain ⟨h, _⟩ := Array.getElem?_eq_some_iff.1 hP
    exact h
  rw [hg.block P (by simp; omega) (fun e => by have := (World.ownsRow.lt h.2.1 P e.symm).1; omega), Below.heap_alloc _ _ _ hPlt]
  exact hP
theorem read_fin {w0 w w3 w4 w5 : World} {P dl nu g cp c9 : Nat} {v : Value} {ds : List DecV} {done : List Dec} {a9 : Option Addr} {uv : List Tok} {ui : Bool} {tt : List UInt8}
    (h1 : w3.heap[P]? = some (.cells #[v] 47 (0, 0)) ∧ w3.ownsRow (P + 2) 43 3 v ds.length (dcs ds) ∧ (∀ x ∈ ds, VIn w3 (P + 2) v x) ∧ Below w0.heap.size w0 w3 ∧ ds.map DecV.d = done ∧ (P + 1 < w3.heap.size ∨ P + 1 = w3.heap.size) ∧ w0.heap.size ≤ P)
    (h2 : ∀ o, w.heap[P + 1]? = some o → w3.heap[P + 1]? = some o) (h2x : ∃ o, w.heap[P + 1]? = some o ∨ P + 1 < w3.heap.size)
    (h3 : nu ≤ c9 ∧ c9 ≤ maxLen ∧ Tks w4 a9 uv ∧ (uv ≠ [] → ∃ b o, a9 = some ⟨b, o, none⟩ ∧ w3.heap.size ≤ b) ∧ Below w3.heap.size w3 w4)
    (h4 : w5.ownsRow (P + 2) 43 3 (.slice (some ⟨g, 0, none⟩) (dl + 1) cp) (dl + 1) (dcs ds ++ [.string ⟨tt.toArray⟩, .slice a9 nu c9, .bool ui]) ∧ (w4.alloc (.cells #[.string ⟨tt.toArray⟩, .slice a9 nu c9, .bool ui] 43)).grownBy w5 v.ownBlock ∧ (v.ownBlock = some g ∨ g = (w4.alloc (.cells #[.string ⟨tt.toArray⟩, .slice a9 nu c9, .bool ui] 43)).heap.size) ∧ g < w5.heap.size)
    (hd : ds.length = dl) (hu : uv.length = nu) :
    RdR w0 P (done ++ [⟨tt, uv, ui⟩]) (w5.setCell ⟨P, 0, none⟩ (.slice (some ⟨g, 0, none⟩) (dl + 1) cp)) ∧ ∀ o, w.heap[P + 1]? = some o → (w5.setCell ⟨P, 0, none⟩ (.slice (some ⟨g, 0, none⟩) (dl + 1) cp)).heap[P + 1]? = some o := by
  subst hd; subst hu
  obtain ⟨k1, k2, k3, k4, k5, k6, k7⟩ := h1
  obtain ⟨g1, g2, g3, g4, g5⟩ := h3
  obtain ⟨e1, e2, e3, e4⟩ := h4
  have hrow : ∀ q, v.ownBlock = some q → P + 2 ≤ q ∧ q < w3.heap.size := fun q hq => World.ownsRow.lt k2 q hq
  have hX : VIn w4 (P + 2) v ⟨⟨tt, uv, ui⟩, a9, c9⟩ := by
    refine ⟨g1, g2, ?_⟩
    rcases g3 with h | ⟨b, o, h, hb, ht⟩
    · exact Or.inl h
    · by_cases hn : uv = []
      · exact Or.inl hn
      · obtain ⟨b2, o2, hb2, hle⟩ := g4 hn
        rw [h] at hb2
        injection hb2 with hb2; injection hb2 with hb2 _
        subst hb2
        rcases h2x with ⟨ob, hob | hlt⟩
        · have h3x := h2 ob hob
          obtain ⟨hlt, _⟩ := Array.getElem?_eq_some_iff.1 h3x
          exact Or.inr ⟨b, o, h, by omega, fun e => by have := hrow b e; omega, hb, ht⟩
        · exact Or.inr ⟨b, o, h, by omega, fun e => by have := hrow b e; omega, hb, ht⟩
  refine ⟨RdR.push (X := ⟨⟨tt, uv, ui⟩, a9, c9⟩) k7 k5 (k4.trans (g5.mono k4.size)) (blk_keepS g5 k1) (ownsRow_below k2 g5) (fun x hx => (k3 x hx).below g5) hX (by have := g5.size; omega) e2 e1 e3, fun o ho => ?_⟩
  have h3x := blk_keepS g5 (h2 o ho)
  obtain ⟨hlt, _⟩ := Array.getElem?_eq_some_iff.1 h3x
  rw [setCell_there _ (by omega), e2.block (P + 1) (by simp; omega) (fun e => by have := hrow (P + 1) e.symm; omega), Below.heap_alloc _ _ _ hlt]
  exact h3x
theorem unmS_len (v : List Tok) : (unmS v).1.length ≤ v.length := by
  unfold unmS
  split
  · exact Nat.le_refl _
  · split
    · split
      · split
        · have h1 := trm_len (trm v.dropLast).dropLast
          have h2 := trm_len v.dropLast
          simp only [List.length_dropLast] at h1 h2
          show (trm (trm v.dropLast).dropLast).length ≤ v.length
          omega
        · exact Nat.le_refl _
      · exact Nat.le_refl _
    · exact Nat.le_refl _
theorem decS_none1 {l : List Tok} (h : trm l = []) : decS l = none := by unfold decS; rw [h]; rfl
theorem decS_eq {l : List Tok} {t : Tok} {r : List Tok} (h : trm l = t :: r) : decS l = decT (t :: r) := by unfold decS; rw [h]
theorem decT_cons (t : Tok) (r : List Tok) : decT (t :: r) = if t.kind = 1 then
      (match bs r with
      | [] => none
      | c :: q => if c.kind = 10 then
          (if (unmS (trm q)).1 = [] ∨ spoS (unmS (trm q)).1 = true then none else some ⟨t.text, (unmS (trm q)).1, (unmS (trm q)).2⟩)
        else none)
    else none := rfl
theorem decT_kind {t : Tok} {r : List Tok} (h : ¬ t.kind = 1) : decT (t :: r) = none := by rw [decT_cons, if_neg h]
theorem decT_nil {t : Tok} {r : List Tok} (h : t.kind = 1) (h2 : bs r = []) : decT (t :: r) = none := by rw [decT_cons, if_pos h, h2]
theorem decT_col {t c : Tok} {r q : List Tok} (h : t.kind = 1) (h2 : bs r = c :: q) (h3 : ¬ c.kind = 10) : decT (t :: r) = none := by rw [decT_cons, if_pos h, h2]; simp only []; rw [if_neg h3]
theorem decT_val {t c : Tok} {r q : List Tok} (h : t.kind = 1) (h2 : bs r = c :: q) (h3 : c.kind = 10) : decT (t :: r) = if (unmS (trm q)).1 = [] ∨ spoS (unmS (trm q)).1 = true then none else some ⟨t.text, (unmS (trm q)).1, (unmS (trm q)).2⟩ := by rw [decT_cons, if_pos h, h2]; simp only []; rw [if_pos h3]

theorem Tks.first {w : World} {a : Option Addr} {t : Tok} {r : List Tok} (h : Tks w a (t :: r)) : ∃ b o, a = some ⟨b, o, none⟩ ∧ b < w.heap.size ∧ TkAt w b o t := by
  obtain ⟨b, o, h1, h2, h3⟩ := h.get (i := 0) (by simp)
  exact ⟨b, o, h1, h2, by simpa using h3⟩

set_option maxRecDepth 100000 in
set_option maxHeartbeats 4000000 in
theorem read_any (w0 : World) (P : Nat) (done : List Dec) (a : Option Addr) (l : List Tok) (cap : Nat) (w : World) (hR : RdR w0 P done w) (hbx1 : P + 1 < w.heap.size) (h1 : l.length ≤ cap) (h2 : cap ≤ maxLen) (hl : l.length ≤ 100000) (hdn : done.length ≤ 100000) (hT : ∀ W', Below w0.heap.size w0 W' → Tks W' a l) :
    Calls Try.prog 23 #[.pointer (some ⟨P, 0, none⟩), .slice a l.length cap] w fun e w' => e = .returned (.tuple #[]) ∧ RdR w0 P (done ++ (decS l).toList) w' ∧ ∀ o, w.heap[P + 1]? = some o → w'.heap[P + 1]? = some o := by
  have HR := Lib.hid hR
  have HB0 := hR.below
  have C := Lib.hid (trimmed_any a l cap w h1 h2 (hT w HB0))
  have hlen := trm_len l
  obtain ⟨n, hn⟩ : ∃ n, l.length = n := ⟨_, rfl⟩
  obtain ⟨p, hp⟩ : ∃ p, trm l = p := ⟨_, rfl⟩
  rw [hp, hn] at hlen
  rw [hp] at C
  rw [hn] at C h1 hl ⊢
  obtain ⟨D, hD⟩ : ∃ D, decS l = D := ⟨_, rfl⟩
  have HD := Lib.hid hD
  rw [hD]
  clear hT hn hD hR
  cases p with
  | nil =>
    have hd : D = none := by rw [← HD.out]; exact decS_none1 hp
    have HDN := Lib.hid hd
    clear hd hp
    go_enter Try.func23, Try.ntmps23
    go_wp2_with fail
    refine C.out.mono ?_
    rintro e w1 ⟨⟨a2, c2, rfl, hc1, hc2, hTp⟩, rfl⟩
    clear hTp
    go_wp2_with fail
    refine bodyPost_ret (results_none rfl _ _ _) rfl ?_
    exact ⟨rfl, by rw [HDN.out]; simpa using HR.out, fun o h => h⟩
  | cons t r =>
    have hde := decS_eq hp
    rw [HD.out] at hde
    by_cases hk : t.kind = 1
    · have hkz : (t.kind == 1) = true := by rw [beq_iff_eq]; exact hk
      have hkz2 : (t.kind != 1) = false := by rw [hk]; rfl
      have hrl : r.length + 1 ≤ n := by simpa using hlen
      obtain ⟨b', hb'⟩ : ∃ x, bs r = x := ⟨_, rfl⟩
      have hbl := bs_len r
      rw [hb'] at hbl
      have hC2 := fun (a3 : Option Addr) (c3 : Nat) (W : World) (h3 : r.length ≤ c3) (h4 : c3 ≤ maxLen) (h5 : Tks W a3 r) => behindSpaces_any a3 r c3 W h3 h4 h5
      rw [hb'] at hC2
      obtain ⟨nr, hnr⟩ : ∃ x, r.length = x := ⟨_, rfl⟩
      have HNR := Lib.hid hnr
      simp only [hnr] at hC2
      rw [hnr] at hrl hbl
      have HC2 := Lib.hid hC2
      obtain ⟨m1, hpl⟩ : ∃ m, (t :: r).length = m := ⟨_, rfl⟩
      have HPL := Lib.hid hpl
      have HM1 : Hid (m1 = nr + 1) := Lib.hid (by rw [← hpl, ← hnr]; simp)
      clear hC2 hp hlen hnr hpl
      cases b' with
      | nil =>
        have hd : D = none := by rw [hde]; exact decT_nil hk hb'
        have HDN := Lib.hid hd
        clear hd hde hb' hk
        go_enter Try.func23, Try.ntmps23
        go_wp2_with fail
        refine C.out.mono ?_
        rintro e w1 ⟨⟨a2, c2, hv, hc1, hc2, hTp⟩, rfl⟩
        rw [HPL.out] at hv hc1
        subst hv
        obtain ⟨b, o, rfl, hb, k1⟩ := hTp.first
        have d1 : w.cell? ⟨b, o, none⟩ = some (.int .i64 t.kind) := k1.kind
        obtain ⟨a3, s1, s2, s3, s5, s4⟩ := sl_from (some ⟨b, o, none⟩) (t :: r) c2 m1 1 HPL.out 1 rfl (by have := HM1.out; omega) hc1 hc2
        have e1 : m1 - 1 = nr := by have := HM1.out; omega
        have hm0 : ¬ m1 = 0 := by have := HM1.out; omega
        have hm0z : ((m1 : Int) == 0) = false := by rw [beq_eq_false_iff_ne]; omega
        have hm1z : (1 : Int) ≤ (m1 : Int) := by omega
        rw [e1] at s1 s3
        have X := Lib.hid (HC2.out a3 (c2 - 1) w s3 s5 (s4 w hTp))
        clear hTp k1 s4 s2 s3 s5 hc2 e1
        go_wp2_with fail
        refine X.out.mono ?_
        rintro e w1 ⟨⟨a4, c4, rfl, _, _, _⟩, rfl⟩
        go_wp2_with fail
        refine bodyPost_ret (results_none rfl _ _ _) rfl ?_
        exact ⟨rfl, by rw [HDN.out]; simpa using HR.out, fun o h => h⟩
      | cons c q =>
        obtain ⟨m2, hm2⟩ : ∃ m, (c :: q).length = m := ⟨_, rfl⟩
        obtain ⟨nq, hnq⟩ : ∃ m, q.length = m := ⟨_, rfl⟩
        have HM2 : Hid ((c :: q).length = m2 ∧ m2 = nq + 1 ∧ q.length = nq) := Lib.hid ⟨hm2, by rw [← hm2, ← hnq]; simp, hnq⟩
        rw [hm2] at hbl
        by_cases hck : c.kind = 10
        · have hcz : (c.kind == 10) = true := by rw [beq_iff_eq]; exact hck
          have hcz2 : (c.kind != 10) = false := by rw [hck]; rfl
          have hdv := decT_val hk hb' hck
          rw [← hde] at hdv
          have htl := trm_len q
          obtain ⟨tq, htq⟩ : ∃ x, trm q = x := ⟨_, rfl⟩
          have hC3 := fun (a3 : Option Addr) (c3 : Nat) (W : World) (h3 : q.length ≤ c3) (h4 : c3 ≤ maxLen) (h5 : Tks W a3 q) => trimmed_any a3 q c3 W h3 h4 h5
          rw [htq] at hC3 hdv htl
          simp only [hnq] at hC3
          have HC3 := Lib.hid hC3
          have hUl : (unmS tq).1.length ≤ 100000 := by have := unmS_len tq; have := HM2.out.2.1; have := HM2.out.2.2; omega
          have hC4 := fun (a3 : Option Addr) (c3 : Nat) (W : World) (h3 : tq.length ≤ c3) (h4 : c3 ≤ maxLen) (h5 : Tks W a3 tq) => unmarked_any a3 tq c3 W h3 h4 h5
          obtain ⟨⟨uv, ui⟩, hU⟩ : ∃ x, unmS tq = x := ⟨_, rfl⟩
          rw [hU] at hdv hUl
          simp only [hU] at hC4
          have HC4 := Lib.hid hC4
          have HC5 := Lib.hid fun (a3 : Option Addr) (c3 : Nat) (W : World) (h5 : Tks W a3 uv) => spoilt_any a3 uv c3 W hUl h5
          have HC6 := Lib.hid fun (a3 : Option Addr) (c3 : Nat) (W : World) (h5 : Tks W a3 uv) => clone_toks a3 uv c3 W hUl h5
          have HDV := Lib.hid hdv
          have HUL := Lib.hid hUl
          clear hC3 hC4 hdv hU htq htl hUl hm2 hnq hde hb' hck hk
          go_enter Try.func23, Try.ntmps23
          go_wp2_with fail
          refine C.out.mono ?_
          rintro e w1 ⟨⟨a2, c2, hv, hc1, hc2, hTp⟩, rfl⟩
          rw [HPL.out] at hv hc1
          subst hv
          obtain ⟨b, o, rfl, hb, k1⟩ := hTp.first
          have d1 : w.cell? ⟨b, o, none⟩ = some (.int .i64 t.kind) := k1.kind
          have DT : Hid (w.cell? ⟨b, o + 1, none⟩ = some (.string ⟨t.text.toArray⟩)) := Lib.hid k1.text
          obtain ⟨a3, s1, s2, s3, s5, s4⟩ := sl_from (some ⟨b, o, none⟩) (t :: r) c2 m1 1 HPL.out 1 rfl (by have := HM1.out; omega) hc1 hc2
          have e1 : m1 - 1 = nr := by have := HM1.out; omega
          have hm0 : ¬ m1 = 0 := by have := HM1.out; omega
          have hm0z : ((m1 : Int) == 0) = false := by rw [beq_eq_false_iff_ne]; omega
          have hm1z : (1 : Int) ≤ (m1 : Int) := by omega
          rw [e1] at s1 s3
          have X := Lib.hid (HC2.out a3 (c2 - 1) w s3 s5 (s4 w hTp))
          clear hTp k1 s4 s2 s3 s5 hc2 e1
          go_wp2_with fail
          refine X.out.mono ?_
          rintro e w1 ⟨⟨a4, c4, hv, hc4, hc5, hT4⟩, rfl⟩
          rw [HM2.out.1] at hv hc4
          subst hv
          obtain ⟨b4, o4, rfl, hb4, k4⟩ := hT4.first
          have d4 : w.cell? ⟨b4, o4, none⟩ = some (.int .i64 c.kind) := k4.kind
          obtain ⟨a5, t1, t2, t3, t5, t4⟩ := sl_from (some ⟨b4, o4, none⟩) (c :: q) c4 m2 1 HM2.out.1 1 rfl (by have := HM2.out.2.1; omega) hc4 hc5
          have e1 : m2 - 1 = nq := by have := HM2.out.2.1; omega
          have hq0 : ¬ m2 = 0 := by have := HM2.out.2.1; omega
          have hq0z : ((m2 : Int) == 0) = false := by rw [beq_eq_false_iff_ne]; omega
          have hq1z : (1 : Int) ≤ (m2 : Int) := by omega
          rw [e1] at t1 t3
          have Y := Lib.hid (HC3.out a5 (c4 - 1) w t3 t5 (t4 w hT4))
          have HTX : Hid (w.cell? ⟨b, o + 1, none⟩ = some (.string ⟨t.text.toArray⟩)) := DT
          clear hT4 k4 t4 t2 t3 t5 hc5 e1 X
          go_wp2_with fail
          refine Y.out.mono ?_
          rintro e w1 ⟨⟨a6, c6, rfl, hc6, hc7, hT6⟩, rfl⟩
          have Z := Lib.hid (HC4.out a6 c6 w hc6 hc7 hT6)
          clear hT6 hc7 Y
          go_wp2_with fail
          refine Z.out.mono ?_
          rintro e w2 ⟨⟨a7, c7, rfl, hc8, hc9, hT7⟩, hb2⟩
          have HT7 := Lib.hid hT7
          have HB2 := Lib.hid hb2
          have HR2 := Lib.hid (HR.out.keep hb2)
          simp only [] at hc8 hT7
          clear hT7 hb2 Z hc9
          obtain ⟨nu, hnu⟩ : ∃ x, uv.length = x := ⟨_, rfl⟩
          have HNU := Lib.hid hnu
          have hh : (uv, ui).1.length = nu := hnu
          rw [hh]
          simp only [hnu] at HC5 HC6
          obtain ⟨sp, hsp⟩ : ∃ x, spoS uv = x := ⟨_, rfl⟩
          have HSP := Lib.hid hsp
          simp only [hsp] at HC5
          have hnul : nu ≤ 100000 := by rw [← hnu]; exact HUL.out
          clear hh hnu hsp hc8
          by_cases hnu0 : nu = 0
          · subst hnu0
            have hd : D = none := by rw [HDV.out, if_pos (Or.inl (List.eq_nil_of_length_eq_zero HNU.out))]
            have HDN := Lib.hid hd
            clear hd
            go_wp2_with fail
            refine bodyPost_ret (results_none rfl _ _ _) rfl ?_
            exact ⟨rfl, by rw [HDN.out]; simpa using HR2.out, fun o h => blk_keepS HB2.out h⟩
          · have hnz : ((nu : Int) == 0) = false := by rw [beq_eq_false_iff_ne]; omega
            have V := Lib.hid (HC5.out a7 c7 w2 HT7.out)
            cases sp
            · go_wp2_with fail
              refine V.out.mono ?_
              rintro e w3 ⟨rfl, hb3⟩
              have HB3 := Lib.hid (HB2.out.trans (hb3.mono HB2.out.size))
              have HR3 := Lib.hid (HR2.out.keep hb3)
              have HT3 := Lib.hid (HT7.out.below hb3)
              have d8 : w3.cell? ⟨b, o + 1, none⟩ = some (.string ⟨t.text.toArray⟩) := (HB3.out.cell (World.block_lt_of_cell? w _ HTX.out)).trans HTX.out
              clear hb3 V
              go_wp2_with fail
              have hdd : D = some ⟨t.text, uv, ui⟩ := by rw [HDV.out, if_neg (by rw [HSP.out]; intro h; rcases h with h | h; exact hnu0 (by rw [← HNU.out, h]; rfl); cases h)]
              have HDD := Lib.hid hdd
              obtain ⟨⟨v, ds, r1, r2, r3, r4⟩, r5, r6, r7⟩ := HR3.out
              have hPlt : P < w3.heap.size := by
                obtain ⟨h, _⟩ := Array.getElem?_eq_some_iff.1 r2
                exact h
              have p1 : w3.drew.cell? ⟨P, 0, none⟩ = some v := cell_of r2 rfl
              have p2 : w3.drew.cell? ⟨b, o + 1, none⟩ = some (.string ⟨t.text.toArray⟩) := d8
              have XC := Lib.hid (HC6.out a7 c7 w3.drew (HT3.out.below ((Below.refl _ _).drew)))
              have HPL2 : Hid (w3.drew.heap[P]? = some (.cells #[v] 47 (0, 0)) ∧ w3.drew.ownsRow (P + 2) 43 3 v ds.length (dcs ds) ∧ (∀ x ∈ ds, VIn w3.drew (P + 2) v x) ∧ Below w0.heap.size w0 w3.drew ∧ ds.map DecV.d = done ∧ (P + 1 < w3.drew.heap.size ∨ P + 1 = w3.drew.heap.size) ∧ w0.heap.size ≤ P) := Lib.hid ⟨r2, r3, fun x hx => (r4 x hx).below ((Below.refl _ _).drew), r5.drew, r1, r7, r6⟩
              have HQL : Hid (∀ o, w.heap[P + 1]? = some o → w3.drew.heap[P + 1]? = some o) := Lib.hid fun o h => by show w3.heap[P + 1]? = some o; exact blk_keepS HB3.out h
              obtain ⟨i0, hi0, hq0', hq1', hq2'⟩ := info_parts info_decl
              have hdl : ds.length ≤ 100000 := by rw [← r1, List.length_map] at hdn; exact hdn
              have hPw : P < w3.drew.heap.size := hPlt
              obtain ⟨dl, hdl2⟩ : ∃ x, ds.length = x := ⟨_, rfl⟩
              have HDL := Lib.hid hdl2
              obtain ⟨tt, htt⟩ : ∃ x, t.text = x := ⟨_, rfl⟩
              have HTT := Lib.hid htt
              have hbx : b < w3.drew.heap.size := World.block_lt_of_cell? w3 _ d8
              rw [htt] at p2
              have HBX : Hid (∃ o, w.heap[P + 1]? = some o ∨ P + 1 < w3.drew.heap.size) := Lib.hid (by
                obtain ⟨o, ho⟩ : ∃ o, w.heap[P + 1]? = some o := ⟨_, Array.getElem?_eq_some_iff.2 ⟨hbx1, rfl⟩⟩
                exact ⟨o, Or.inl ho⟩)
              have hm2z : (0 : Int) < (m1 : Int) := by omega
              have hm3n : 0 < m1 := by omega
              clear hdd r1 r2 r3 r4 r5 r6 r7 HR3 HR2 HR hPlt HC5 HC6 HDV HTX d8 htt HB0
              go_region_law ((first
                | (go_simp; go_at_call 34; refine XC.out.mono ?_; rintro e w4 ⟨⟨a9, c9, rfl, g1, g2, g3, g4⟩, hb4⟩; have p1 := (hb4.cell (World.block_lt_of_cell? _ _ p1)).trans p1; have p2 := (hb4.cell (World.block_lt_of_cell? _ _ p2)).trans p2; have p3 : ∀ ob, (w4.alloc ob).cell? ⟨P, 0, none⟩ = some v := fun ob => (((Below.refl w4.heap.size w4).alloc (Nat.le_refl _) ob).cell (World.block_lt_of_cell? _ _ p1)).trans p1; have hown4 : w4.ownsRow (P + 2) 43 3 v dl (dcs ds) := (by rw [← HDL.out]; exact ownsRow_below HPL2.out.2.1 hb4); have h4le := hb4.size; have G9 := Lib.hid (And.intro g1 (And.intro g2 (And.intro g3 (And.intro g4 hb4)))); clear hb4 g1 g2 g3 g4)
                | (refine step_append_lies _ rfl (.tmp 50) (.tmp 59) 32 rfl (P + 2) 43 i0 _ 3 48 und_decls hi0 hq0' hq1' hq2' rfl (by decide) v dl (dcs ds) (by first | (simp [Act.eval]; done) | simp [Act.eval, Act.put]) (hown4.alloc _) ⟨w4.heap.size, 0, none⟩ 1 1 [.string ⟨tt.toArray⟩, .slice a9 nu c9, .bool ui] (by first | (simp [Act.eval]; done) | simp [Act.eval, Act.put]) rfl (World.news_of_block (heap_alloc_new w4 _)) (by intro u hu; simp only [List.mem_cons, List.not_mem_nil, or_false] at hu; rcases hu with rfl | rfl | rfl <;> rfl) (by decide) (by unfold maxLen; omega) (by omega) (by simp; omega) _ rfl ?_; intro g cp w5 hown5 hgrow hgn hglt; have q0 : w5.heap[P]? = some (.cells #[v] 47 (0, 0)) := read_blk (HPL2.out) G9.out.2.2.2.2 hgrow; have q1 : w5.cell? ⟨P, 0, none⟩ = some v := cell_of q0 rfl; have q2 : w5.frozen? ⟨P, 0, none⟩ = false := unfrozen_of q0; have G5 := Lib.hid (And.intro hown5 (And.intro hgrow (And.intro hgn hglt))); clear hown5 hgrow hgn hglt q0)))
              all_goals
                go_end0
                rw [HDD.out]
                refine ⟨rfl, ?_⟩
                have hfin := read_fin (tt := tt) HPL2.out HQL.out HBX.out G9.out G5.out HDL.out HNU.out
                rw [← HTT.out] at hfin
                exact hfin
            · have hd : D = none := by rw [HDV.out, if_pos (Or.inr HSP.out)]
              have HDN := Lib.hid hd
              clear hd
              go_wp2_with fail
              refine V.out.mono ?_
              rintro e w3 ⟨rfl, hb3⟩
              have HB3 := Lib.hid (HB2.out.trans (hb3.mono HB2.out.size))
              have HR3 := Lib.hid (HR2.out.keep hb3)
              clear hb3 V
              go_wp2_with fail
              refine bodyPost_ret (results_none rfl _ _ _) rfl ?_
              exact ⟨rfl, by rw [HDN.out]; simpa using HR3.out, fun o h => blk_keepS HB3.out h⟩
        · have hcz : (c.kind == 10) = false := by rw [beq_eq_false_iff_ne]; exact hck
          have hcz2 : (c.kind != 10) = true := by rw [bne_iff_ne]; exact hck
          have hd : D = none := by rw [hde]; exact decT_col hk hb' hck
          have HDN := Lib.hid hd
          clear hd hde hb' hck hk hm2 hnq
          go_enter Try.func23, Try.ntmps23
          go_wp2_with fail
          refine C.out.mono ?_
          rintro e w1 ⟨⟨a2, c2, hv, hc1, hc2, hTp⟩, rfl⟩
          rw [HPL.out] at hv hc1
          subst hv
          obtain ⟨b, o, rfl, hb, k1⟩ := hTp.first
          have d1 : w.cell? ⟨b, o, none⟩ = some (.int .i64 t.kind) := k1.kind
          obtain ⟨a3, s1, s2, s3, s5, s4⟩ := sl_from (some ⟨b, o, none⟩) (t :: r) c2 m1 1 HPL.out 1 rfl (by have := HM1.out; omega) hc1 hc2
          have e1 : m1 - 1 = nr := by have := HM1.out; omega
          have hm0 : ¬ m1 = 0 := by have := HM1.out; omega
          have hm0z : ((m1 : Int) == 0) = false := by rw [beq_eq_false_iff_ne]; omega
          have hm1z : (1 : Int) ≤ (m1 : Int) := by omega
          rw [e1] at s1 s3
          have X := Lib.hid (HC2.out a3 (c2 - 1) w s3 s5 (s4 w hTp))
          clear hTp k1 s4 s2 s3 s5 hc2 e1
          go_wp2_with fail
          refine X.out.mono ?_
          rintro e w1 ⟨⟨a4, c4, hv, hc4, hc5, hT4⟩, rfl⟩
          rw [HM2.out.1] at hv
          subst hv
          obtain ⟨b4, o4, rfl, hb4, k4⟩ := hT4.first
          have d4 : w.cell? ⟨b4, o4, none⟩ = some (.int .i64 c.kind) := k4.kind
          have hq0 : ¬ m2 = 0 := by have := HM2.out.2.1; omega
          have hq0z : ((m2 : Int) == 0) = false := by rw [beq_eq_false_iff_ne]; omega
          have hq1z : (0 : Int) < (m2 : Int) := by omega
          clear hT4 k4 hc4 hc5 X
          go_wp2_with fail
          refine bodyPost_ret (results_none rfl _ _ _) rfl ?_
          exact ⟨rfl, by rw [HDN.out]; simpa using HR.out, fun o h => h⟩
    · have hd : D = none := by rw [hde]; exact decT_kind hk
      have HDN := Lib.hid hd
      have hkz : (t.kind == 1) = false := by rw [beq_eq_false_iff_ne]; exact hk
      have hkz2 : (t.kind != 1) = true := by rw [bne_iff_ne]; exact hk
      clear hd hp hde
      go_enter Try.func23, Try.ntmps23
      go_wp2_with fail
      refine C.out.mono ?_
      rintro e w1 ⟨⟨a2, c2, rfl, hc1, hc2, hTp⟩, rfl⟩
      obtain ⟨b, o, rfl, hb, k1⟩ := hTp.first
      have d1 : w.cell? ⟨b, o, none⟩ = some (.int .i64 t.kind) := k1.kind
      clear hTp k1
      go_wp2_with fail
      refine bodyPost_ret (results_none rfl _ _ _) rfl ?_
      exact ⟨rfl, by rw [HDN.out]; simpa using HR.out, fun o h => h⟩
end Go.Proofs.Ytaiommmbbajgnaa
