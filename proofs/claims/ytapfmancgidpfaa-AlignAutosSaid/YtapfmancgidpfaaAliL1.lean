/- Layer 22: margins that are auto. -/
import Derived.Test.YtapfmancgidpfaaAliK
import Derived.ProofKit
import Derived.OpenShut
import Derived.Deep.Slices
import Derived.Deep.Fields
namespace Go.Proofs.Ytapfmancgidpfaa
open Go.RowKit FixM ShaD ShaM Go.Sort
set_option linter.unusedVariables false

/-- a list of truths in memory -/
def BL (w : World) (a : Option Addr) (n : Nat) (g : Nat → Bool) : Prop := n = 0 ∨ ∃ b off, a = some ⟨b, off, none⟩ ∧ b < w.heap.size ∧ ∀ i, i < n → w.cell? ⟨b, off + i, none⟩ = some (.bool (g i))
theorem BL.below {w w' : World} {a : Option Addr} {n : Nat} {g : Nat → Bool} (h : BL w a n g) (hb : Below w.heap.size w w') : BL w' a n g := by
  rcases h with h | ⟨b, off, rfl, hl, hc⟩
  · exact Or.inl h
  · exact Or.inr ⟨b, off, rfl, Nat.lt_of_lt_of_le hl hb.size, fun i hi => by rw [hb.cell (p := ⟨b, off + i, none⟩) hl]; exact hc i hi⟩
/-- what an auto margin weighs -/
def auW (g : Nat → Bool) (i : Nat) : Int := if g i = true then 1 else 0

set_option maxRecDepth 100000 in
set_option maxHeartbeats 1000000 in
theorem Autos1_any (i n cap P : Nat) (a : Option Addr) (g : Nat → Bool) (w : World) (hi : i < n) (hn : n ≤ 1000) (hP : w.cell? ⟨P, 0, none⟩ = some (.slice a n cap)) (hB : BL w a n g) :
    Calls Try.prog 31 #[.int .i64 (i : Int), .pointer (some ⟨P, 0, none⟩)] w fun e w' => e = .returned (.int .i64 (auW g i)) ∧ w = w' := by
  rcases hB with h0 | ⟨b, off, rfl, hl, hc⟩
  · omega
  · have c := hc i hi
    have hiz : (i : Int) < (n : Int) := by omega
    have hz : auW g i = if g i = true then 1 else 0 := rfl
    obtain ⟨x, hx⟩ : ∃ x, g i = x := ⟨_, rfl⟩
    rw [hx] at c hz
    rw [hz]
    clear hc hx hz
    cases x
    · rw [if_neg (by decide)]
      go_enter Try.func31, Try.ntmps31
      go_wp2_with fail
      go_ret
      exact ⟨rfl, rfl⟩
    · rw [if_pos rfl]
      go_enter Try.func31, Try.ntmps31
      go_wp2_with fail
      go_ret
      exact ⟨rfl, rfl⟩
theorem enters_au1 : ∀ args w, (callFunc 31 args).run Try.prog w = .ok (.enter 31 args) w := enters_of Try.func31 (by kernel_rfl) rfl

def AuIs (w : World) (n : Nat) (f : Nat → Int) (e : Ending) (w' : World) : Prop :=
  ∃ b, w.heap.size ≤ b ∧ e = .returned (.slice (some ⟨b, 0, none⟩) n n) ∧ Below w.heap.size w w' ∧ Row w' b n f

set_option maxRecDepth 100000 in
set_option maxHeartbeats 2000000 in
theorem Autos22_any (t : Int) (a : Option Addr) (n cap : Nat) (g : Nat → Bool) (w : World) (hn : n ≤ 1000) (hB : BL w a n g) :
    Calls Try.prog 15 #[.int .i64 t, .slice a n cap] w (AuIs w n (shareS (max 0 (H t)) ((List.range n).map (auW g)))) := by
  have hFb := H_bd t
  have hHH : H (max 0 (H t)) = max 0 (H t) := H_id (by omega) (by omega)
  obtain ⟨F, hFe⟩ : ∃ F, H t = F := ⟨_, rfl⟩
  rw [hFe] at hFb hHH ⊢
  have HFE := Lib.hid hFe
  obtain ⟨fs, hfs⟩ : ∃ fs, shareS (max 0 F) ((List.range n).map (auW g)) = fs := ⟨_, rfl⟩
  have D : ∀ P W, W.cell? ⟨P, 0, none⟩ = some (.slice a n cap) → P < W.heap.size → BL W a n g → Calls Try.prog 22 #[.int .i64 (max 0 F), .int .i64 (n : Int), .func (.func 31) #[] #[.pointer (some ⟨P, 0, none⟩)]] W fun e w' =>
      e = .returned (.slice (some ⟨W.heap.size + 1, 0, none⟩) n n) ∧ Below W.heap.size W w' ∧ Row w' (W.heap.size + 1) n fs := fun P W hP hl hW => by
    have h := deal22_any (max 0 F) n 31 #[.pointer (some ⟨P, 0, none⟩)] (auW g) W hn enters_au1 (fun W2 h2 i hi => Autos1_any i n cap P a g W2 hi hn (by rw [h2.cell (p := ⟨P, 0, none⟩) hl]; exact hP) (hW.below h2))
    rwa [hHH, hfs] at h
  rw [hfs]
  have DD := Lib.hid D
  obtain ⟨W1, hW1⟩ : ∃ W1, w.alloc (.cells #[.slice a n cap] 29) = W1 := ⟨_, rfl⟩
  have b1 : Below w.heap.size w W1 := by rw [← hW1]; exact (Below.refl _ _).alloc (Nat.le_refl _) _
  have z1 : W1.heap.size = w.heap.size + 1 := by rw [← hW1]; simp
  have c1 : W1.cell? ⟨w.heap.size, 0, none⟩ = some (.slice a n cap) := by rw [← hW1, World.cell?_alloc_at _ _ _ _ rfl]; rfl
  have HB1 := Lib.hid b1
  have HZ1 := Lib.hid z1
  have HL := Lib.hid (hB.below b1)
  have hl1 : w.heap.size < W1.heap.size := by omega
  have HC1 := Lib.hid c1
  unfold AuIs
  clear hFe hHH D hfs hB b1 z1
  go_enter Try.func15, Try.ntmps15
  go_upto_region 1 with fail
  clear hW1
  have D1 := Lib.hid (DD.out w.heap.size W1.drew HC1.out hl1 (show BL W1 a n g from HL.out))
  go_region_with (first
    | (go_at_call 19; refine (Hold_any _ _).mono ?_; rw [HFE.out]; rintro e w' ⟨rfl, rfl⟩)
    | (go_at_call 22; refine D1.out.mono ?_; rintro e w9 ⟨rfl, hb, hr⟩; have HB9 := Lib.hid hb; have HR9 := Lib.hid hr; clear hb hr))
  all_goals go_wp2_with fail
  all_goals go_ret
  all_goals
    have hz : W1.drew.heap.size = w.heap.size + 1 := HZ1.out
    have hs := HB1.out.size
    exact ⟨W1.drew.heap.size + 1, by omega, rfl, HB1.out.drew.trans (HB9.out.mono (by omega)), HR9.out⟩

theorem below_wk {B : Nat} {a b c : World} (h1 : Below B a b) (h2 : Below b.heap.size b c) (h : B ≤ a.heap.size) : Below B a c := h1.trans (h2.mono (Nat.le_trans h h1.size))

set_option maxRecDepth 100000 in
set_option maxHeartbeats 2000000 in
theorem refAutos22_any (t : Int) (a : Option Addr) (n cap : Nat) (g : Nat → Bool) (w : World) (hn : n ≤ 1000) (hB : BL w a n g) :
    Calls Try.prog 16 #[.int .i64 t, .slice a n cap] w (AuIs w n (shareS (max 0 (H t)) ((List.range n).map (auW g)))) := by
  have hmk := make_ints n hn
  have B0 := below_mk0 w n
  have R0 := row_mk0 w n
  have Z0 : (mk0 w n).heap.size = w.heap.size + 1 := by unfold mk0; simp
  have HL := Lib.hid hB
  have hpos : ∀ i, 0 < t → shareS (H t) ((List.range n).map (auW g)) i = shareS (max 0 (H t)) ((List.range n).map (auW g)) i := fun i h => by
    have : 0 ≤ H t := by unfold H; repeat' split <;> omega
    rw [show max 0 (H t) = H t by omega]
  have hneg : ∀ i, t ≤ 0 → 0 = shareS (max 0 (H t)) ((List.range n).map (auW g)) i := fun i h => by
    have : H t ≤ 0 := by unfold H; repeat' split <;> omega
    rw [show max 0 (H t) = 0 by omega]
    unfold shareS
    rw [if_neg (by omega), share0_zero]
  obtain ⟨fs, hfs⟩ : ∃ fs, shareS (max 0 (H t)) ((List.range n).map (auW g)) = fs := ⟨_, rfl⟩
  rw [hfs] at hpos hneg ⊢
  have HP := Lib.hid hpos
  have HG := Lib.hid hneg
  unfold AuIs
  obtain ⟨S, hS⟩ : ∃ S, S = w.heap.size := ⟨_, rfl⟩
  rw [← hS] at B0 R0 Z0 ⊢
  have HS := Lib.hid hS
  obtain ⟨W0, hW0⟩ : ∃ W0, mk0 w n = W0 := ⟨_, rfl⟩
  rw [hW0] at B0 R0 Z0
  have HB0 := Lib.hid B0
  have HR0 := Lib.hid R0
  have HZ0 := Lib.hid Z0
  have HW0 := Lib.hid hW0
  clear hB hpos hneg hfs hS B0 R0 Z0 hW0
  go_enter Try.func16, Try.ntmps16
  go_wp2_with fail
  rw [HW0.out, ← HS.out]
  go_loopw [6] (fun vi wr => ∃ k : Nat, vi = .int .i64 k ∧ k ≤ n ∧ Hid (wr.heap.size = S + 1) ∧ Hid (Below S w wr) ∧ Hid (Row wr S n (fun i => if i < k then auW g i else 0))) (fun vi _ => n - (intOf vi).toNat)
  case atStart => exact ⟨0, rfl, by omega, HZ0, HB0, HR0.out.ext (fun i _ => by rw [if_neg (by omega)])⟩
  case round =>
    clear HB0 HR0 HZ0
    obtain ⟨k, rfl, hk, HZ, HB, HR⟩ := hrel
    by_cases hlt : k < n
    · have hltz : (k : Int) < (n : Int) := by omega
      have hb1 : Below w.heap.size w wr := by rw [← HS.out]; exact HB.out
      rcases HL.out.below hb1 with h0 | ⟨b, off, ha, hl, hc⟩
      · omega
      · subst ha
        have c := hc k hlt
        obtain ⟨ck, fk⟩ := HR.out k hlt
        simp only [Nat.lt_irrefl, if_false] at ck
        have hv : auW g k = if g k = true then 1 else 0 := rfl
        obtain ⟨x, hx⟩ : ∃ x, g k = x := ⟨_, rfl⟩
        rw [hx] at c hv
        have HX := Lib.hid hv
        clear hc hv hx hb1 hl
        cases x
        · have hrow : Hid (Row wr S n (fun i => if i < k + 1 then auW g i else 0)) := HR.out.ext (fun i hi => by
            have := HX.out
            rw [if_neg (by decide)] at this
            by_cases c1 : i = k
            · subst c1; rw [if_neg (by omega), if_pos (by omega), this]
            · by_cases c2 : i < k
              · rw [if_pos c2, if_pos (by omega)]
              · rw [if_neg c2, if_neg (by omega)])
          go_wp2_with fail
          go_roundw
          case rel => exact ⟨k + 1, by go_num, by omega, HZ, HB, hrow⟩
          case measure => simp [intOf]; omega
        · have N1 := Lib.hid (HR.out.set hlt 1)
          have N2 := Lib.hid (HB.out.setCell (p := ⟨S, k, none⟩) (Nat.le_refl S) (.int .i64 1))
          have N3 : Hid ((wr.setCell ⟨S, k, none⟩ (.int .i64 1)).heap.size = S + 1) := by have := HZ.out; simpa [Hid] using this
          have hrow : Hid (Row (wr.setCell ⟨S, k, none⟩ (.int .i64 1)) S n (fun i => if i < k + 1 then auW g i else 0)) := N1.out.ext (fun i hi => by
            have := HX.out
            rw [if_pos rfl] at this
            by_cases c1 : i = k
            · subst c1; rw [if_pos rfl, if_pos (by omega), this]
            · rw [if_neg c1]
              by_cases c2 : i < k
              · rw [if_pos c2, if_pos (by omega)]
              · rw [if_neg c2, if_neg (by omega)])
          go_wp2_with fail
          go_roundw
          case rel => exact ⟨k + 1, by go_num, by omega, N3, N2, hrow⟩
          case measure => simp [intOf]; omega
    · have hkn : k = n := by omega
      have hrow : Row wr S n (auW g) := HR.out.ext (fun i hi => by rw [if_pos (by omega)])
      have hl : ((List.range n).map (auW g)).length = n := len_row n _
      have D := refDeal_told t (some ⟨S, 0, none⟩) n ((List.range n).map (auW g)) wr (by rw [hl]; exact hn) (Lst_row hrow)
      rw [hl] at D
      have DD := Lib.hid D
      clear D hl hrow hkn
      by_cases ht : t ≤ 0
      · have hfin : Row (mk0 wr n) wr.heap.size n fs := (row_mk0 wr n).ext (fun i _ => HG.out i ht)
        have HF := Lib.hid hfin
        have HBF := Lib.hid (HB.out.trans ((below_mk0 wr n).mono (by have := HZ.out; omega)))
        clear hfin
        go_wp2_with fail
        go_ret
        have HZ2 := HZ.out
        exact ⟨wr.heap.size, by omega, rfl, HBF.out, HF.out⟩
      · have ht2 : 0 < t := by omega
        go_wp2_with fail
        refine DD.out.mono ?_
        rintro e w2 ⟨rfl, hb, hr⟩
        have HB2 := Lib.hid (HB.out.trans (hb.mono (by have := HZ.out; omega)))
        have HR2 : Hid (Row w2 wr.heap.size n fs) := hr.ext (fun i _ => HP.out i ht2)
        clear hb hr
        go_wp2_with fail
        go_ret
        have HZ2 := HZ.out
        exact ⟨wr.heap.size, by omega, rfl, HB2.out, HR2.out⟩

set_option maxRecDepth 100000 in
set_option maxHeartbeats 1000000 in
theorem AlignAutos_walk (t : Int) (a : Option Addr) (n cap : Nat) (g : Nat → Bool) (w : World) (hB : BL w a n g) :
    Calls Try.prog 5 #[.int .i64 t, .slice a n cap] w fun e w' => e = .returned (.bool true) ∧ Below w.heap.size w w' := by
  by_cases hn : n ≤ 100
  · have hnz : (n : Int) ≤ 100 := by omega
    have C1 := Lib.hid (Autos22_any t a n cap g w (by omega) hB)
    have C2 := Lib.hid (fun W (h : Below w.heap.size w W) => refAutos22_any t a n cap g W (by omega) (hB.below h))
    unfold AuIs at C1 C2
    obtain ⟨fs, hfs⟩ : ∃ fs, shareS (max 0 (H t)) ((List.range n).map (auW g)) = fs := ⟨_, rfl⟩
    rw [hfs] at C1 C2
    have hM : n ≤ 1000 := by omega
    clear hB hfs
    go_enter Try.func5, Try.ntmps5
    go_wp2_with fail
    refine C1.out.mono ?_
    rintro e w1 ⟨b1, hz1, rfl, hb1, hr1⟩
    have HB1 := Lib.hid hb1
    have HR1 := Lib.hid hr1
    clear hb1 hr1
    go_wp2_with fail
    refine (C2.out w1 HB1.out).mono ?_
    rintro e w2 ⟨b2, hz2, rfl, hb2, hr2⟩
    have HB2 := Lib.hid (HB1.out.trans (hb2.mono HB1.out.size))
    have HR2 := Lib.hid hr2
    have HR1' : Hid (Row w2 b1 n fs) := fun i hi => by
      have h0 := Row_lt HR1.out (by omega : 0 < n)
      exact (HR1.out.below hb2 h0) i hi
    clear hb2 hr2
    have I := Lib.hid (sp_ints w.heap.size w w1 w2 b1 b2 n fs fs hM HB2.out HR1'.out HR2.out (fun _ _ => rfl))
    go_wp2_with fail
    refine I.out.mono ?_
    rintro e w3 ⟨rfl, hb3⟩
    have HB3 := Lib.hid hb3
    clear hb3
    go_wp2_with fail
    refine (known22_any w3).mono ?_
    rintro e w4 ⟨rfl, hb4⟩
    have HB4 := Lib.hid (HB3.out.trans (hb4.mono HB3.out.size))
    clear hb4
    go_wp2_with fail
    go_ret
    exact ⟨rfl, HB4.out⟩
  · have hnz : (100 : Int) < (n : Int) := by omega
    clear hB
    go_enter Try.func5, Try.ntmps5
    go_wp2_with fail
    refine (known22_any w).mono ?_
    rintro e w4 ⟨rfl, hb4⟩
    have HB4 := Lib.hid hb4
    clear hb4
    go_wp2_with fail
    go_ret
    exact ⟨rfl, HB4.out⟩

section
open Go.ChangeShapes Go.WideShapes Go.ChangeAt
variable {H : Type} {enc : TypeId × Value → H} {w : World}
theorem cells_bool22 : Try.prog.cellsOf 4 = 1 := by kernel_rfl
theorem plain_of22 {a : Addr} {v : Value} (h : w.cell? (a.add 0) = some v) : ∃ b off, a = ⟨b, off, none⟩ ∧ b < w.heap.size := by
  obtain ⟨b, off, spot⟩ := a
  have hspot : spot = none := by simpa [Addr.add] using World.cell?_spot h
  subst hspot
  have hl := World.block_lt_of_cell? w _ h
  rw [Go.WideShapes.add_plain] at hl
  exact ⟨b, off, rfl, hl⟩
set_option maxRecDepth 100000 in
/-- a list of truths that came in -/
theorem open_bools {fuel : Nat} {c : Value} {x : DataW H × List MemPlace} (h : DataW.trod enc Try.prog w 0 (fun _ => true) true fuel 29 [c] = some x) :
    ∃ a n cap g, c = .slice a n cap ∧ BL w a n g := by
  rcases Go.Deep.open_slice Try.underlying29 h with ⟨hc, _⟩ | ⟨a, len, cap, m, n, D, Pl, hc, _, hl, hm, hmm, _, hi⟩
  · injection hc with hc
    exact ⟨none, 0, 0, fun _ => false, hc, Or.inl rfl⟩
  · injection hc with hc
    simp only [if_true] at hmm
    rw [cells_bool22] at hi
    have each : ∀ i, i < len → ∃ t : Bool, w.cell? (a.add (i * 1)) = some (.bool t) := by
      intro i hi1
      obtain ⟨cs', h1, h2⟩ := hi i (by omega)
      obtain ⟨_, _, hat⟩ := World.cells?_some h1
      obtain ⟨t, ht, _⟩ := DataW.trod_bool Try.underlying4 h2
      subst ht
      have k0 := hat 0 (by simp)
      rw [Go.Deep.add_add] at k0
      exact ⟨t, k0⟩
    obtain ⟨f, hf⟩ : ∃ f : Nat → Bool, ∀ i, i < len → w.cell? (a.add (i * 1)) = some (.bool (f i)) := by
      refine ⟨fun i => if hi : i < len then Classical.choose (each i hi) else false, fun i hi => ?_⟩
      simp only [dif_pos hi]
      exact Classical.choose_spec (each i hi)
    refine ⟨some a, len, cap, f, hc, ?_⟩
    by_cases h0 : len = 0
    · exact Or.inl h0
    · obtain ⟨b, off, rfl, hb⟩ := plain_of22 (a := a) (by have := hf 0 (by omega); rwa [Nat.zero_mul] at this)
      refine Or.inr ⟨b, off, rfl, hb, fun i hi => ?_⟩
      have k1 := hf i hi
      rw [Go.WideShapes.add_plain, Nat.mul_one] at k1
      exact k1
end
end Go.Proofs.Ytapfmancgidpfaa
