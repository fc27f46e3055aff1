/- Layer 9: Read. -/
import Derived.Test.YtbodmfbpmeapoaaGreatValWe
import Derived.Deep.DeepCutAuto
import Derived.Outline
namespace Go.Proofs.YtbodmfbpmeapoaaGreat
open Go.RowKit TreN LexP FixP SynP ValP FixM
set_option linter.unusedVariables false

/-- texts that a machine can hold -/
def TxOk (l : List Tok) : Prop := ∀ t ∈ l, t.text.length ≤ maxLen
/-- while Read reads -/
structure RdAt (w wr : World) (v : Val) (m : List Tok) : Prop where
  bel : Below w.heap.size w wr
  res : wr.heap[w.heap.size]? = some (.cells #[.int .i64 0, .int .i64 0, .int .i64 0, .string ⟨#[]⟩] 23 (0, 0))
  cur : Cur w wr (w.heap.size + 1) 101 (vc v) m
theorem RdAt.step {w wr wx : World} {v u : Val} {m r : List Tok} (h : RdAt w wr v m) (hg : wr.grownBy wx (some (w.heap.size + 1))) (hc : Cur w wx (w.heap.size + 1) 101 (vc u) r) : RdAt w wx u r :=
  ⟨h.bel.grown hg h.bel.size (fun k hk => by injection hk with hk; omega), by rw [hg.block _ (blk_lt9 h.res) (by intro e; injection e with e; omega)]; exact h.res, hc⟩
theorem RdAt.keep {w wr wx : World} {v : Val} {m : List Tok} (h : RdAt w wr v m) (hb : Below wr.heap.size wr wx) : RdAt w wx v m := h.step (grownBy_below _ hb) (h.cur.keep hb)
theorem RdAt.start {w : World} {a : Option Addr} {n c : Nat} {l : List Tok} (hn : l.length = n) (h1 : n ≤ c) (h2 : c ≤ maxLen) (hT : Tks w a l) :
    RdAt w ((w.alloc (.cells #[.int .i64 0, .int .i64 0, .int .i64 0, .string ⟨#[]⟩] 23)).alloc (.cells #[.slice a n c, .int .i64 0, .int .i64 0, .int .i64 0, .string ⟨#[]⟩] 101)) zeroV l := by
  subst hn
  obtain ⟨k1, k2, k3, _⟩ := two_blocks w _ (.cells #[.int .i64 0, .int .i64 0, .int .i64 0, .string ⟨#[]⟩] 23) (.cells #[.slice a l.length c, .int .i64 0, .int .i64 0, .int .i64 0, .string ⟨#[]⟩] 101) (Below.refl _ _)
  exact ⟨k3, k1, ⟨a, c, k2, h1, h2, hT⟩, by omega, k3⟩
theorem namedV_name (x : List UInt8) : (namedV x).name = [] ∨ (namedV x).name = x := by unfold namedV; split <;> simp
theorem rawV_name {l : List Tok} (h : TxOk l) : (rawV l).1.name.length ≤ maxLen := by
  cases l with
  | nil => exact Nat.zero_le _
  | cons t r =>
    unfold rawV
    dsimp only
    split
    · cases overP r with
      | none => exact Nat.zero_le _
      | some p => exact Nat.zero_le _
    · split
      · exact Nat.zero_le _
      · split
        · exact Nat.zero_le _
        · split
          · rcases namedV_name t.text with e | e
            · rw [e]; exact Nat.zero_le _
            · rw [e]; exact h t (by simp)
          · exact Nat.zero_le _
theorem takeP_no {k : Int} {t : Tok} {r : List Tok} (h : t.kind ≠ k) : takeP k (t :: r) = none := by
  show (if t.kind = k then _ else _) = _
  rw [if_neg h]

set_option maxRecDepth 100000 in
set_option maxHeartbeats 4000000 in
theorem Read9_any (a : Option Addr) (l : List Tok) (cap : Nat) (w : World) (h1 : l.length ≤ cap) (h2 : cap ≤ maxLen) (hT : Tks w a l) (hx : TxOk l) :
    Calls Tryz.prog 66 #[.slice a l.length cap] w fun e w' => e = .returned (.tuple #[valV (readV l).1, .int .i64 ((readV l).2 : Nat)]) ∧ Below w.heap.size w w' := by
  obtain ⟨n, hn⟩ : ∃ n, l.length = n := ⟨_, rfl⟩
  have HN := Lib.hid hn
  rw [hn] at h1 ⊢
  have HS := Lib.hid (RdAt.start hn h1 h2 hT)
  have HX := Lib.hid (rawV_name hx)
  obtain ⟨⟨vk, vn, vd, vx⟩, hv⟩ : ∃ v, (rawV l).1 = v := ⟨_, rfl⟩
  obtain ⟨l2, hl2⟩ : ∃ l2, (rawV l).2 = l2 := ⟨_, rfl⟩
  have HV : Hid (rawV l = (⟨vk, vn, vd, vx⟩, l2)) := Lib.hid (by rw [← hv, ← hl2])
  rw [hv] at HX
  have HLE : Hid (l2.length ≤ n) := Lib.hid (by rw [← hl2, ← hn]; exact (rawV_suf l).length_le)
  have hnm : n ≤ 9223372036854775807 := by unfold maxLen at h2; omega
  clear hn hv hl2 hT hx h2
  go_enter Tryz.func66, Tryz.ntmps66
  have hcase : l = [] ∨ ∃ t r, l = t :: r := by
    cases l with
    | nil => exact Or.inl rfl
    | cons t r => exact Or.inr ⟨t, r, rfl⟩
  have hR9 := fun (W : World) => Right9_any vk vn vd vx W HX.out
  have HR9 := Lib.hid hR9
  have HRL : Hid (readV l = if rightV ⟨vk, vn, vd, vx⟩ = true then (⟨vk, vn, vd, vx⟩, n - l2.length) else (zeroV, 0)) := Lib.hid (by unfold readV; rw [HV.out, HN.out])
  obtain ⟨R, hR⟩ : ∃ R, readV l = R := ⟨_, rfl⟩
  rw [hR] at HRL ⊢
  clear hR hR9
  rcases hcase with rfl | ⟨t, r, rfl⟩
  · have hv : (zeroV, []) = ((⟨vk, vn, vd, vx⟩ : Val), l2) := HV.out
    injection hv with hv1 hv2
    go_wp2_with fail
    refine (take_no 7 _ HS.out.cur rfl).mono ?_
    rintro e w1 ⟨rfl, hb1⟩
    replace HS := Lib.hid (HS.out.keep hb1)
    clear hb1
    go_wp2_with fail
    refine (take_no 8 _ HS.out.cur rfl).mono ?_
    rintro e w1 ⟨rfl, hb1⟩
    replace HS := Lib.hid (HS.out.keep hb1)
    clear hb1
    go_wp2_with fail
    refine (take_no 9 _ HS.out.cur rfl).mono ?_
    rintro e w1 ⟨rfl, hb1⟩
    replace HS := Lib.hid (HS.out.keep hb1)
    clear hb1
    go_wp2_with fail
    refine (take_no 1 _ HS.out.cur rfl).mono ?_
    rintro e w1 ⟨rfl, hb1⟩
    replace HS := Lib.hid (HS.out.keep hb1)
    clear hb1
    have HF : Hid (RdAt w w1 ⟨vk, vn, vd, vx⟩ l2) := Lib.hid (by rw [← hv1, ← hv2]; exact HS.out)
    clear hv1 hv2 HS
    go_upto_region 7 with (fail)
    obtain ⟨bl, rs, cu⟩ := HF.out
    obtain ⟨a9, c9, hP, hq1, hq2, hq3⟩ := cu.ex
    obtain ⟨m, hm⟩ : ∃ m, l2.length = m := ⟨_, rfl⟩
    have hle := HLE.out
    have hrl := HRL.out
    rw [hm] at hle hrl hP
    have e0 : World.cell? _ ⟨w.heap.size + 1, 0, none⟩ = some (.slice a9 m c9) := cell_of hP rfl
    have e1 : World.cell? _ ⟨w.heap.size + 1, 1, none⟩ = some (.int .i64 vk) := cell_of hP rfl
    have e2 : World.cell? _ ⟨w.heap.size + 1, 2, none⟩ = some (.int .i64 vn) := cell_of hP rfl
    have e3 : World.cell? _ ⟨w.heap.size + 1, 3, none⟩ = some (.int .i64 vd) := cell_of hP rfl
    have e4 : World.cell? _ ⟨w.heap.size + 1, 4, none⟩ = some (.string ⟨vx.toArray⟩) := cell_of hP rfl
    have HP := Lib.hid hP
    have HRS := Lib.hid rs
    have HBL := Lib.hid bl
    have hl1 := blk_lt9 hP
    have hl0 := blk_lt9 rs
    clear HF bl rs cu hP hq1 hq2 hq3 hm
    cases hr : rightV ⟨vk, vn, vd, vx⟩ with
    | false =>
      have HR2 : Hid (∀ W : World, Calls Tryz.prog 24 #[.agg #[.int .i64 vk, .int .i64 vn, .int .i64 vd, .string ⟨vx.toArray⟩]] W fun e w' => e = .returned (.bool false) ∧ Below W.heap.size W w') := Lib.hid fun W => by have := HR9.out W; rw [hr] at this; exact this
      rw [hr] at hrl
      have HZ : Hid (R = (zeroV, 0)) := Lib.hid hrl
      clear hrl hr
      go_wp2_with fail
      refine (HR2.out _).mono ?_
      rintro e w5 ⟨rfl, hb5⟩
      have hrs5 := (hb5.block _ hl0).trans HRS.out
      obtain ⟨x1, x2, x3, x4, v0, v1, v2, v3, ⟨p0, q0, r0⟩, ⟨p1, q1, r1⟩, ⟨p2, q2, r2⟩, ⟨p3, q3, r3⟩, h4⟩ := four_store w5 w.heap.size 23 _ 0 1 2 3 (.int .i64 0) (.int .i64 0) (.int .i64 0) (.string ⟨#[]⟩) hrs5 (by decide) (by decide) (by decide) (by decide)
      have f0 := cell_of (k := 0) h4.here rfl
      have f1 := cell_of (k := 1) h4.here rfl
      have f2 := cell_of (k := 2) h4.here rfl
      have f3 := cell_of (k := 3) h4.here rfl
      have HB5 := Lib.hid (h4.below w.heap.size w (Nat.le_refl _) (HBL.out.trans (hb5.mono HBL.out.size)))
      clear hb5 hrs5 h4
      go_wp2_with fail
      refine bodyPost_ret (v := .tuple #[.agg #[.int .i64 0, .int .i64 0, .int .i64 0, .string ⟨#[]⟩], .int .i64 0]) (by simp [results, Tryz.results66, go_sem, f0, f1, f2, f3]) rfl ⟨?_, HB5.out⟩
      rw [HZ.out]; rfl
    | true =>
      have HR2 : Hid (∀ W : World, Calls Tryz.prog 24 #[.agg #[.int .i64 vk, .int .i64 vn, .int .i64 vd, .string ⟨vx.toArray⟩]] W fun e w' => e = .returned (.bool true) ∧ Below W.heap.size W w') := Lib.hid fun W => by have := HR9.out W; rw [hr] at this; exact this
      rw [hr] at hrl
      have HZ : Hid (R = (⟨vk, vn, vd, vx⟩, n - m)) := Lib.hid hrl
      have hw : IntKind.i64.wrap ((n : Int) - (m : Int)) = ((n - m : Nat) : Int) := by
        rw [show (n : Int) - (m : Int) = ((n - m : Nat) : Int) by omega]; exact IntWalk.i64_in _ (by omega)
      clear hrl hr
      go_wp2_with fail
      refine (HR2.out _).mono ?_
      rintro e w5 ⟨rfl, hb5⟩
      have hP5 := (hb5.block _ hl1).trans HP.out
      have e0 : w5.cell? ⟨w.heap.size + 1, 0, none⟩ = some (.slice a9 m c9) := cell_of hP5 rfl
      have e1 : w5.cell? ⟨w.heap.size + 1, 1, none⟩ = some (.int .i64 vk) := cell_of hP5 rfl
      have e2 : w5.cell? ⟨w.heap.size + 1, 2, none⟩ = some (.int .i64 vn) := cell_of hP5 rfl
      have e3 : w5.cell? ⟨w.heap.size + 1, 3, none⟩ = some (.int .i64 vd) := cell_of hP5 rfl
      have e4 : w5.cell? ⟨w.heap.size + 1, 4, none⟩ = some (.string ⟨vx.toArray⟩) := cell_of hP5 rfl
      have hrs5 := (hb5.block _ hl0).trans HRS.out
      obtain ⟨x1, x2, x3, x4, v0, v1, v2, v3, ⟨p0, q0, r0⟩, ⟨p1, q1, r1⟩, ⟨p2, q2, r2⟩, ⟨p3, q3, r3⟩, h4⟩ := four_store w5 w.heap.size 23 _ 0 1 2 3 (.int .i64 vk) (.int .i64 vn) (.int .i64 vd) (.string ⟨vx.toArray⟩) hrs5 (by decide) (by decide) (by decide) (by decide)
      have f0 : x4.cell? ⟨w.heap.size, 0, none⟩ = some (.int .i64 vk) := cell_of h4.here rfl
      have f1 : x4.cell? ⟨w.heap.size, 1, none⟩ = some (.int .i64 vn) := cell_of h4.here rfl
      have f2 : x4.cell? ⟨w.heap.size, 2, none⟩ = some (.int .i64 vd) := cell_of h4.here rfl
      have f3 : x4.cell? ⟨w.heap.size, 3, none⟩ = some (.string ⟨vx.toArray⟩) := cell_of h4.here rfl
      have f4 : x4.cell? ⟨w.heap.size + 1, 0, none⟩ = some (.slice a9 m c9) := cell_of ((h4.there _ (by omega)).trans hP5) rfl
      have HB5 := Lib.hid (h4.below w.heap.size w (Nat.le_refl _) (HBL.out.trans (hb5.mono HBL.out.size)))
      clear hb5 hrs5 h4 hP5
      go_wp2_with fail
      go_region
      all_goals
        go_wp2_with fail
        refine bodyPost_ret (v := .tuple #[.agg #[.int .i64 vk, .int .i64 vn, .int .i64 vd, .string ⟨vx.toArray⟩], .int .i64 ((n - m : Nat) : Int)]) (by simp [results, Tryz.results66, go_sem, f0, f1, f2, f3]) rfl ⟨?_, HB5.out.drew⟩
        rw [HZ.out]; rfl
  · by_cases k7 : t.kind = 7
    · have TY : Hid (∀ W : World, Cur w W (w.heap.size + 1) 101 (vc zeroV) (t :: r) → Calls Tryz.prog 97 #[.pointer (some ⟨w.heap.size + 1, 0, none⟩), .int .i64 7, .func (.func 98) #[] #[]] W fun e w' => e = .returned (.bool true) ∧ W.grownBy w' (some (w.heap.size + 1)) ∧ Cur w w' (w.heap.size + 1) 101 (vc ⟨4, t.n, 0, []⟩) r) := Lib.hid fun W hW => by have := take_yes (f := 98) (fun _ _ => rfl) hW asNum; rw [k7] at this; exact this
      have hv : (match overP r with | some (u, r2) => (⟨5, t.n, u.n, []⟩, r2) | none => (⟨4, t.n, 0, []⟩, r)) = ((⟨vk, vn, vd, vx⟩ : Val), l2) := by rw [← HV.out]; unfold rawV; dsimp only; rw [if_pos k7]; cases overP r <;> rfl
      clear k7
      go_wp2_with fail
      refine (TY.out _ HS.out.cur).mono ?_
      rintro e w1 ⟨rfl, hg1, hc1⟩
      have HS2 := Lib.hid (HS.out.step hg1 hc1)
      clear hg1 hc1 HS
      cases ho : overP r with
      | none =>
        rw [ho] at hv
        injection hv with hv1 hv2
        have TO := Lib.hid (takeOver_no HS2.out.cur ho)
        have HF0 : Hid (RdAt w w1 ⟨vk, vn, vd, vx⟩ l2) := Lib.hid (by rw [← hv1, ← hv2]; exact HS2.out)
        clear hv1 hv2 HS2 ho
        go_wp2_with fail
        refine TO.out.mono ?_
        rintro e w2 ⟨rfl, hb2⟩
        have HF : Hid (RdAt w w2 ⟨vk, vn, vd, vx⟩ l2) := Lib.hid (HF0.out.keep hb2)
        clear hb2 HF0
        go_upto_region 7 with (fail)
        obtain ⟨bl, rs, cu⟩ := HF.out
        obtain ⟨a9, c9, hP, hq1, hq2, hq3⟩ := cu.ex
        obtain ⟨m, hm⟩ : ∃ m, l2.length = m := ⟨_, rfl⟩
        have hle := HLE.out
        have hrl := HRL.out
        rw [hm] at hle hrl hP
        have e0 : World.cell? _ ⟨w.heap.size + 1, 0, none⟩ = some (.slice a9 m c9) := cell_of hP rfl
        have e1 : World.cell? _ ⟨w.heap.size + 1, 1, none⟩ = some (.int .i64 vk) := cell_of hP rfl
        have e2 : World.cell? _ ⟨w.heap.size + 1, 2, none⟩ = some (.int .i64 vn) := cell_of hP rfl
        have e3 : World.cell? _ ⟨w.heap.size + 1, 3, none⟩ = some (.int .i64 vd) := cell_of hP rfl
        have e4 : World.cell? _ ⟨w.heap.size + 1, 4, none⟩ = some (.string ⟨vx.toArray⟩) := cell_of hP rfl
        have HP := Lib.hid hP
        have HRS := Lib.hid rs
        have HBL := Lib.hid bl
        have hl1 := blk_lt9 hP
        have hl0 := blk_lt9 rs
        clear HF bl rs cu hP hq1 hq2 hq3 hm
        cases hr : rightV ⟨vk, vn, vd, vx⟩ with
        | false =>
          have HR2 : Hid (∀ W : World, Calls Tryz.prog 24 #[.agg #[.int .i64 vk, .int .i64 vn, .int .i64 vd, .string ⟨vx.toArray⟩]] W fun e w' => e = .returned (.bool false) ∧ Below W.heap.size W w') := Lib.hid fun W => by have := HR9.out W; rw [hr] at this; exact this
          rw [hr] at hrl
          have HZ : Hid (R = (zeroV, 0)) := Lib.hid hrl
          clear hrl hr
          go_wp2_with fail
          refine (HR2.out _).mono ?_
          rintro e w5 ⟨rfl, hb5⟩
          have hrs5 := (hb5.block _ hl0).trans HRS.out
          obtain ⟨x1, x2, x3, x4, v0, v1, v2, v3, ⟨p0, q0, r0⟩, ⟨p1, q1, r1⟩, ⟨p2, q2, r2⟩, ⟨p3, q3, r3⟩, h4⟩ := four_store w5 w.heap.size 23 _ 0 1 2 3 (.int .i64 0) (.int .i64 0) (.int .i64 0) (.string ⟨#[]⟩) hrs5 (by decide) (by decide) (by decide) (by decide)
          have f0 := cell_of (k := 0) h4.here rfl
          have f1 := cell_of (k := 1) h4.here rfl
          have f2 := cell_of (k := 2) h4.here rfl
          have f3 := cell_of (k := 3) h4.here rfl
          have HB5 := Lib.hid (h4.below w.heap.size w (Nat.le_refl _) (HBL.out.trans (hb5.mono HBL.out.size)))
          clear hb5 hrs5 h4
          go_wp2_with fail
          refine bodyPost_ret (v := .tuple #[.agg #[.int .i64 0, .int .i64 0, .int .i64 0, .string ⟨#[]⟩], .int .i64 0]) (by simp [results, Tryz.results66, go_sem, f0, f1, f2, f3]) rfl ⟨?_, HB5.out⟩
          rw [HZ.out]; rfl
        | true =>
          have HR2 : Hid (∀ W : World, Calls Tryz.prog 24 #[.agg #[.int .i64 vk, .int .i64 vn, .int .i64 vd, .string ⟨vx.toArray⟩]] W fun e w' => e = .returned (.bool true) ∧ Below W.heap.size W w') := Lib.hid fun W => by have := HR9.out W; rw [hr] at this; exact this
          rw [hr] at hrl
          have HZ : Hid (R = (⟨vk, vn, vd, vx⟩, n - m)) := Lib.hid hrl
          have hw : IntKind.i64.wrap ((n : Int) - (m : Int)) = ((n - m : Nat) : Int) := by
            rw [show (n : Int) - (m : Int) = ((n - m : Nat) : Int) by omega]; exact IntWalk.i64_in _ (by omega)
          clear hrl hr
          go_wp2_with fail
          refine (HR2.out _).mono ?_
          rintro e w5 ⟨rfl, hb5⟩
          have hP5 := (hb5.block _ hl1).trans HP.out
          have e0 : w5.cell? ⟨w.heap.size + 1, 0, none⟩ = some (.slice a9 m c9) := cell_of hP5 rfl
          have e1 : w5.cell? ⟨w.heap.size + 1, 1, none⟩ = some (.int .i64 vk) := cell_of hP5 rfl
          have e2 : w5.cell? ⟨w.heap.size + 1, 2, none⟩ = some (.int .i64 vn) := cell_of hP5 rfl
          have e3 : w5.cell? ⟨w.heap.size + 1, 3, none⟩ = some (.int .i64 vd) := cell_of hP5 rfl
          have e4 : w5.cell? ⟨w.heap.size + 1, 4, none⟩ = some (.string ⟨vx.toArray⟩) := cell_of hP5 rfl
          have hrs5 := (hb5.block _ hl0).trans HRS.out
          obtain ⟨x1, x2, x3, x4, v0, v1, v2, v3, ⟨p0, q0, r0⟩, ⟨p1, q1, r1⟩, ⟨p2, q2, r2⟩, ⟨p3, q3, r3⟩, h4⟩ := four_store w5 w.heap.size 23 _ 0 1 2 3 (.int .i64 vk) (.int .i64 vn) (.int .i64 vd) (.string ⟨vx.toArray⟩) hrs5 (by decide) (by decide) (by decide) (by decide)
          have f0 : x4.cell? ⟨w.heap.size, 0, none⟩ = some (.int .i64 vk) := cell_of h4.here rfl
          have f1 : x4.cell? ⟨w.heap.size, 1, none⟩ = some (.int .i64 vn) := cell_of h4.here rfl
          have f2 : x4.cell? ⟨w.heap.size, 2, none⟩ = some (.int .i64 vd) := cell_of h4.here rfl
          have f3 : x4.cell? ⟨w.heap.size, 3, none⟩ = some (.string ⟨vx.toArray⟩) := cell_of h4.here rfl
          have f4 : x4.cell? ⟨w.heap.size + 1, 0, none⟩ = some (.slice a9 m c9) := cell_of ((h4.there _ (by omega)).trans hP5) rfl
          have HB5 := Lib.hid (h4.below w.heap.size w (Nat.le_refl _) (HBL.out.trans (hb5.mono HBL.out.size)))
          clear hb5 hrs5 h4 hP5
          go_wp2_with fail
          go_region
          all_goals
            go_wp2_with fail
            refine bodyPost_ret (v := .tuple #[.agg #[.int .i64 vk, .int .i64 vn, .int .i64 vd, .string ⟨vx.toArray⟩], .int .i64 ((n - m : Nat) : Int)]) (by simp [results, Tryz.results66, go_sem, f0, f1, f2, f3]) rfl ⟨?_, HB5.out.drew⟩
            rw [HZ.out]; rfl
      | some p =>
        obtain ⟨u, r2⟩ := p
        rw [ho] at hv
        injection hv with hv1 hv2
        have TO := Lib.hid (takeOver_yes HS2.out.cur ho)
        clear ho
        go_wp2_with fail
        refine TO.out.mono ?_
        rintro e w2 ⟨rfl, hg2, hc2⟩
        have HF : Hid (RdAt w w2 ⟨vk, vn, vd, vx⟩ l2) := Lib.hid (by rw [← hv1, ← hv2]; exact HS2.out.step hg2 hc2)
        clear hg2 hc2 HS2 hv1 hv2
        go_upto_region 7 with (fail)
        obtain ⟨bl, rs, cu⟩ := HF.out
        obtain ⟨a9, c9, hP, hq1, hq2, hq3⟩ := cu.ex
        obtain ⟨m, hm⟩ : ∃ m, l2.length = m := ⟨_, rfl⟩
        have hle := HLE.out
        have hrl := HRL.out
        rw [hm] at hle hrl hP
        have e0 : World.cell? _ ⟨w.heap.size + 1, 0, none⟩ = some (.slice a9 m c9) := cell_of hP rfl
        have e1 : World.cell? _ ⟨w.heap.size + 1, 1, none⟩ = some (.int .i64 vk) := cell_of hP rfl
        have e2 : World.cell? _ ⟨w.heap.size + 1, 2, none⟩ = some (.int .i64 vn) := cell_of hP rfl
        have e3 : World.cell? _ ⟨w.heap.size + 1, 3, none⟩ = some (.int .i64 vd) := cell_of hP rfl
        have e4 : World.cell? _ ⟨w.heap.size + 1, 4, none⟩ = some (.string ⟨vx.toArray⟩) := cell_of hP rfl
        have HP := Lib.hid hP
        have HRS := Lib.hid rs
        have HBL := Lib.hid bl
        have hl1 := blk_lt9 hP
        have hl0 := blk_lt9 rs
        clear HF bl rs cu hP hq1 hq2 hq3 hm
        cases hr : rightV ⟨vk, vn, vd, vx⟩ with
        | false =>
          have HR2 : Hid (∀ W : World, Calls Tryz.prog 24 #[.agg #[.int .i64 vk, .int .i64 vn, .int .i64 vd, .string ⟨vx.toArray⟩]] W fun e w' => e = .returned (.bool false) ∧ Below W.heap.size W w') := Lib.hid fun W => by have := HR9.out W; rw [hr] at this; exact this
          rw [hr] at hrl
          have HZ : Hid (R = (zeroV, 0)) := Lib.hid hrl
          clear hrl hr
          go_wp2_with fail
          refine (HR2.out _).mono ?_
          rintro e w5 ⟨rfl, hb5⟩
          have hrs5 := (hb5.block _ hl0).trans HRS.out
          obtain ⟨x1, x2, x3, x4, v0, v1, v2, v3, ⟨p0, q0, r0⟩, ⟨p1, q1, r1⟩, ⟨p2, q2, r2⟩, ⟨p3, q3, r3⟩, h4⟩ := four_store w5 w.heap.size 23 _ 0 1 2 3 (.int .i64 0) (.int .i64 0) (.int .i64 0) (.string ⟨#[]⟩) hrs5 (by decide) (by decide) (by decide) (by decide)
          have f0 := cell_of (k := 0) h4.here rfl
          have f1 := cell_of (k := 1) h4.here rfl
          have f2 := cell_of (k := 2) h4.here rfl
          have f3 := cell_of (k := 3) h4.here rfl
          have HB5 := Lib.hid (h4.below w.heap.size w (Nat.le_refl _) (HBL.out.trans (hb5.mono HBL.out.size)))
          clear hb5 hrs5 h4
          go_wp2_with fail
          refine bodyPost_ret (v := .tuple #[.agg #[.int .i64 0, .int .i64 0, .int .i64 0, .string ⟨#[]⟩], .int .i64 0]) (by simp [results, Tryz.results66, go_sem, f0, f1, f2, f3]) rfl ⟨?_, HB5.out⟩
          rw [HZ.out]; rfl
        | true =>
          have HR2 : Hid (∀ W : World, Calls Tryz.prog 24 #[.agg #[.int .i64 vk, .int .i64 vn, .int .i64 vd, .string ⟨vx.toArray⟩]] W fun e w' => e = .returned (.bool true) ∧ Below W.heap.size W w') := Lib.hid fun W => by have := HR9.out W; rw [hr] at this; exact this
          rw [hr] at hrl
          have HZ : Hid (R = (⟨vk, vn, vd, vx⟩, n - m)) := Lib.hid hrl
          have hw : IntKind.i64.wrap ((n : Int) - (m : Int)) = ((n - m : Nat) : Int) := by
            rw [show (n : Int) - (m : Int) = ((n - m : Nat) : Int) by omega]; exact IntWalk.i64_in _ (by omega)
          clear hrl hr
          go_wp2_with fail
          refine (HR2.out _).mono ?_
          rintro e w5 ⟨rfl, hb5⟩
          have hP5 := (hb5.block _ hl1).trans HP.out
          have e0 : w5.cell? ⟨w.heap.size + 1, 0, none⟩ = some (.slice a9 m c9) := cell_of hP5 rfl
          have e1 : w5.cell? ⟨w.heap.size + 1, 1, none⟩ = some (.int .i64 vk) := cell_of hP5 rfl
          have e2 : w5.cell? ⟨w.heap.size + 1, 2, none⟩ = some (.int .i64 vn) := cell_of hP5 rfl
          have e3 : w5.cell? ⟨w.heap.size + 1, 3, none⟩ = some (.int .i64 vd) := cell_of hP5 rfl
          have e4 : w5.cell? ⟨w.heap.size + 1, 4, none⟩ = some (.string ⟨vx.toArray⟩) := cell_of hP5 rfl
          have hrs5 := (hb5.block _ hl0).trans HRS.out
          obtain ⟨x1, x2, x3, x4, v0, v1, v2, v3, ⟨p0, q0, r0⟩, ⟨p1, q1, r1⟩, ⟨p2, q2, r2⟩, ⟨p3, q3, r3⟩, h4⟩ := four_store w5 w.heap.size 23 _ 0 1 2 3 (.int .i64 vk) (.int .i64 vn) (.int .i64 vd) (.string ⟨vx.toArray⟩) hrs5 (by decide) (by decide) (by decide) (by decide)
          have f0 : x4.cell? ⟨w.heap.size, 0, none⟩ = some (.int .i64 vk) := cell_of h4.here rfl
          have f1 : x4.cell? ⟨w.heap.size, 1, none⟩ = some (.int .i64 vn) := cell_of h4.here rfl
          have f2 : x4.cell? ⟨w.heap.size, 2, none⟩ = some (.int .i64 vd) := cell_of h4.here rfl
          have f3 : x4.cell? ⟨w.heap.size, 3, none⟩ = some (.string ⟨vx.toArray⟩) := cell_of h4.here rfl
          have f4 : x4.cell? ⟨w.heap.size + 1, 0, none⟩ = some (.slice a9 m c9) := cell_of ((h4.there _ (by omega)).trans hP5) rfl
          have HB5 := Lib.hid (h4.below w.heap.size w (Nat.le_refl _) (HBL.out.trans (hb5.mono HBL.out.size)))
          clear hb5 hrs5 h4 hP5
          go_wp2_with fail
          go_region
          all_goals
            go_wp2_with fail
            refine bodyPost_ret (v := .tuple #[.agg #[.int .i64 vk, .int .i64 vn, .int .i64 vd, .string ⟨vx.toArray⟩], .int .i64 ((n - m : Nat) : Int)]) (by simp [results, Tryz.results66, go_sem, f0, f1, f2, f3]) rfl ⟨?_, HB5.out.drew⟩
            rw [HZ.out]; rfl
    · have n7 := takeP_no (r := r) k7
      by_cases k8 : t.kind = 8
      · have TY : Hid (∀ W : World, Cur w W (w.heap.size + 1) 101 (vc zeroV) (t :: r) → Calls Tryz.prog 97 #[.pointer (some ⟨w.heap.size + 1, 0, none⟩), .int .i64 8, .func (.func 100) #[] #[]] W fun e w' => e = .returned (.bool true) ∧ W.grownBy w' (some (w.heap.size + 1)) ∧ Cur w w' (w.heap.size + 1) 101 (vc (⟨3, t.n, 0, []⟩)) r) := Lib.hid fun W hW => by have := take_yes (f := 100) (fun _ _ => rfl) hW asPct; rw [k8] at this; exact this
        have hv : (⟨3, t.n, 0, []⟩, r) = ((⟨vk, vn, vd, vx⟩ : Val), l2) := by rw [← HV.out]; unfold rawV; dsimp only; rw [if_neg k7, if_pos k8]
        injection hv with hv1 hv2
        clear k7 k8
        go_wp2_with fail
        refine (take_no 7 _ HS.out.cur n7).mono ?_
        rintro e w1 ⟨rfl, hb1⟩
        replace HS := Lib.hid (HS.out.keep hb1)
        clear hb1
        go_wp2_with fail
        refine (TY.out _ HS.out.cur).mono ?_
        rintro e w2 ⟨rfl, hg1, hc1⟩
        have HF : Hid (RdAt w w2 ⟨vk, vn, vd, vx⟩ l2) := Lib.hid (by rw [← hv1, ← hv2]; exact HS.out.step hg1 hc1)
        clear hg1 hc1 HS hv1 hv2
        go_upto_region 7 with (fail)
        obtain ⟨bl, rs, cu⟩ := HF.out
        obtain ⟨a9, c9, hP, hq1, hq2, hq3⟩ := cu.ex
        obtain ⟨m, hm⟩ : ∃ m, l2.length = m := ⟨_, rfl⟩
        have hle := HLE.out
        have hrl := HRL.out
        rw [hm] at hle hrl hP
        have e0 : World.cell? _ ⟨w.heap.size + 1, 0, none⟩ = some (.slice a9 m c9) := cell_of hP rfl
        have e1 : World.cell? _ ⟨w.heap.size + 1, 1, none⟩ = some (.int .i64 vk) := cell_of hP rfl
        have e2 : World.cell? _ ⟨w.heap.size + 1, 2, none⟩ = some (.int .i64 vn) := cell_of hP rfl
        have e3 : World.cell? _ ⟨w.heap.size + 1, 3, none⟩ = some (.int .i64 vd) := cell_of hP rfl
        have e4 : World.cell? _ ⟨w.heap.size + 1, 4, none⟩ = some (.string ⟨vx.toArray⟩) := cell_of hP rfl
        have HP := Lib.hid hP
        have HRS := Lib.hid rs
        have HBL := Lib.hid bl
        have hl1 := blk_lt9 hP
        have hl0 := blk_lt9 rs
        clear HF bl rs cu hP hq1 hq2 hq3 hm
        cases hr : rightV ⟨vk, vn, vd, vx⟩ with
        | false =>
          have HR2 : Hid (∀ W : World, Calls Tryz.prog 24 #[.agg #[.int .i64 vk, .int .i64 vn, .int .i64 vd, .string ⟨vx.toArray⟩]] W fun e w' => e = .returned (.bool false) ∧ Below W.heap.size W w') := Lib.hid fun W => by have := HR9.out W; rw [hr] at this; exact this
          rw [hr] at hrl
          have HZ : Hid (R = (zeroV, 0)) := Lib.hid hrl
          clear hrl hr
          go_wp2_with fail
          refine (HR2.out _).mono ?_
          rintro e w5 ⟨rfl, hb5⟩
          have hrs5 := (hb5.block _ hl0).trans HRS.out
          obtain ⟨x1, x2, x3, x4, v0, v1, v2, v3, ⟨p0, q0, r0⟩, ⟨p1, q1, r1⟩, ⟨p2, q2, r2⟩, ⟨p3, q3, r3⟩, h4⟩ := four_store w5 w.heap.size 23 _ 0 1 2 3 (.int .i64 0) (.int .i64 0) (.int .i64 0) (.string ⟨#[]⟩) hrs5 (by decide) (by decide) (by decide) (by decide)
          have f0 := cell_of (k := 0) h4.here rfl
          have f1 := cell_of (k := 1) h4.here rfl
          have f2 := cell_of (k := 2) h4.here rfl
          have f3 := cell_of (k := 3) h4.here rfl
          have HB5 := Lib.hid (h4.below w.heap.size w (Nat.le_refl _) (HBL.out.trans (hb5.mono HBL.out.size)))
          clear hb5 hrs5 h4
          go_wp2_with fail
          refine bodyPost_ret (v := .tuple #[.agg #[.int .i64 0, .int .i64 0, .int .i64 0, .string ⟨#[]⟩], .int .i64 0]) (by simp [results, Tryz.results66, go_sem, f0, f1, f2, f3]) rfl ⟨?_, HB5.out⟩
          rw [HZ.out]; rfl
        | true =>
          have HR2 : Hid (∀ W : World, Calls Tryz.prog 24 #[.agg #[.int .i64 vk, .int .i64 vn, .int .i64 vd, .string ⟨vx.toArray⟩]] W fun e w' => e = .returned (.bool true) ∧ Below W.heap.size W w') := Lib.hid fun W => by have := HR9.out W; rw [hr] at this; exact this
          rw [hr] at hrl
          have HZ : Hid (R = (⟨vk, vn, vd, vx⟩, n - m)) := Lib.hid hrl
          have hw : IntKind.i64.wrap ((n : Int) - (m : Int)) = ((n - m : Nat) : Int) := by
            rw [show (n : Int) - (m : Int) = ((n - m : Nat) : Int) by omega]; exact IntWalk.i64_in _ (by omega)
          clear hrl hr
          go_wp2_with fail
          refine (HR2.out _).mono ?_
          rintro e w5 ⟨rfl, hb5⟩
          have hP5 := (hb5.block _ hl1).trans HP.out
          have e0 : w5.cell? ⟨w.heap.size + 1, 0, none⟩ = some (.slice a9 m c9) := cell_of hP5 rfl
          have e1 : w5.cell? ⟨w.heap.size + 1, 1, none⟩ = some (.int .i64 vk) := cell_of hP5 rfl
          have e2 : w5.cell? ⟨w.heap.size + 1, 2, none⟩ = some (.int .i64 vn) := cell_of hP5 rfl
          have e3 : w5.cell? ⟨w.heap.size + 1, 3, none⟩ = some (.int .i64 vd) := cell_of hP5 rfl
          have e4 : w5.cell? ⟨w.heap.size + 1, 4, none⟩ = some (.string ⟨vx.toArray⟩) := cell_of hP5 rfl
          have hrs5 := (hb5.block _ hl0).trans HRS.out
          obtain ⟨x1, x2, x3, x4, v0, v1, v2, v3, ⟨p0, q0, r0⟩, ⟨p1, q1, r1⟩, ⟨p2, q2, r2⟩, ⟨p3, q3, r3⟩, h4⟩ := four_store w5 w.heap.size 23 _ 0 1 2 3 (.int .i64 vk) (.int .i64 vn) (.int .i64 vd) (.string ⟨vx.toArray⟩) hrs5 (by decide) (by decide) (by decide) (by decide)
          have f0 : x4.cell? ⟨w.heap.size, 0, none⟩ = some (.int .i64 vk) := cell_of h4.here rfl
          have f1 : x4.cell? ⟨w.heap.size, 1, none⟩ = some (.int .i64 vn) := cell_of h4.here rfl
          have f2 : x4.cell? ⟨w.heap.size, 2, none⟩ = some (.int .i64 vd) := cell_of h4.here rfl
          have f3 : x4.cell? ⟨w.heap.size, 3, none⟩ = some (.string ⟨vx.toArray⟩) := cell_of h4.here rfl
          have f4 : x4.cell? ⟨w.heap.size + 1, 0, none⟩ = some (.slice a9 m c9) := cell_of ((h4.there _ (by omega)).trans hP5) rfl
          have HB5 := Lib.hid (h4.below w.heap.size w (Nat.le_refl _) (HBL.out.trans (hb5.mono HBL.out.size)))
          clear hb5 hrs5 h4 hP5
          go_wp2_with fail
          go_region
          all_goals
            go_wp2_with fail
            refine bodyPost_ret (v := .tuple #[.agg #[.int .i64 vk, .int .i64 vn, .int .i64 vd, .string ⟨vx.toArray⟩], .int .i64 ((n - m : Nat) : Int)]) (by simp [results, Tryz.results66, go_sem, f0, f1, f2, f3]) rfl ⟨?_, HB5.out.drew⟩
            rw [HZ.out]; rfl
      · have n8 := takeP_no (r := r) k8
        by_cases k9 : t.kind = 9
        · have TY : Hid (∀ W : World, Cur w W (w.heap.size + 1) 101 (vc zeroV) (t :: r) → Calls Tryz.prog 97 #[.pointer (some ⟨w.heap.size + 1, 0, none⟩), .int .i64 9, .func (.func 101) #[] #[]] W fun e w' => e = .returned (.bool true) ∧ W.grownBy w' (some (w.heap.size + 1)) ∧ Cur w w' (w.heap.size + 1) 101 (vc (⟨2, t.n, unitP t.text, []⟩)) r) := Lib.hid fun W hW => by have := take_yes (f := 101) (fun _ _ => rfl) hW asDim; rw [k9] at this; exact this
          have hv : (⟨2, t.n, unitP t.text, []⟩, r) = ((⟨vk, vn, vd, vx⟩ : Val), l2) := by rw [← HV.out]; unfold rawV; dsimp only; rw [if_neg k7, if_neg k8, if_pos k9]
          injection hv with hv1 hv2
          clear k7 k8 k9
          go_wp2_with fail
          refine (take_no 7 _ HS.out.cur n7).mono ?_
          rintro e w1 ⟨rfl, hb1⟩
          replace HS := Lib.hid (HS.out.keep hb1)
          clear hb1
          go_wp2_with fail
          refine (take_no 8 _ HS.out.cur n8).mono ?_
          rintro e w1 ⟨rfl, hb1⟩
          replace HS := Lib.hid (HS.out.keep hb1)
          clear hb1
          go_wp2_with fail
          refine (TY.out _ HS.out.cur).mono ?_
          rintro e w2 ⟨rfl, hg1, hc1⟩
          have HF : Hid (RdAt w w2 ⟨vk, vn, vd, vx⟩ l2) := Lib.hid (by rw [← hv1, ← hv2]; exact HS.out.step hg1 hc1)
          clear hg1 hc1 HS hv1 hv2
          go_upto_region 7 with (fail)
          obtain ⟨bl, rs, cu⟩ := HF.out
          obtain ⟨a9, c9, hP, hq1, hq2, hq3⟩ := cu.ex
          obtain ⟨m, hm⟩ : ∃ m, l2.length = m := ⟨_, rfl⟩
          have hle := HLE.out
          have hrl := HRL.out
          rw [hm] at hle hrl hP
          have e0 : World.cell? _ ⟨w.heap.size + 1, 0, none⟩ = some (.slice a9 m c9) := cell_of hP rfl
          have e1 : World.cell? _ ⟨w.heap.size + 1, 1, none⟩ = some (.int .i64 vk) := cell_of hP rfl
          have e2 : World.cell? _ ⟨w.heap.size + 1, 2, none⟩ = some (.int .i64 vn) := cell_of hP rfl
          have e3 : World.cell? _ ⟨w.heap.size + 1, 3, none⟩ = some (.int .i64 vd) := cell_of hP rfl
          have e4 : World.cell? _ ⟨w.heap.size + 1, 4, none⟩ = some (.string ⟨vx.toArray⟩) := cell_of hP rfl
          have HP := Lib.hid hP
          have HRS := Lib.hid rs
          have HBL := Lib.hid bl
          have hl1 := blk_lt9 hP
          have hl0 := blk_lt9 rs
          clear HF bl rs cu hP hq1 hq2 hq3 hm
          cases hr : rightV ⟨vk, vn, vd, vx⟩ with
          | false =>
            have HR2 : Hid (∀ W : World, Calls Tryz.prog 24 #[.agg #[.int .i64 vk, .int .i64 vn, .int .i64 vd, .string ⟨vx.toArray⟩]] W fun e w' => e = .returned (.bool false) ∧ Below W.heap.size W w') := Lib.hid fun W => by have := HR9.out W; rw [hr] at this; exact this
            rw [hr] at hrl
            have HZ : Hid (R = (zeroV, 0)) := Lib.hid hrl
            clear hrl hr
            go_wp2_with fail
            refine (HR2.out _).mono ?_
            rintro e w5 ⟨rfl, hb5⟩
            have hrs5 := (hb5.block _ hl0).trans HRS.out
            obtain ⟨x1, x2, x3, x4, v0, v1, v2, v3, ⟨p0, q0, r0⟩, ⟨p1, q1, r1⟩, ⟨p2, q2, r2⟩, ⟨p3, q3, r3⟩, h4⟩ := four_store w5 w.heap.size 23 _ 0 1 2 3 (.int .i64 0) (.int .i64 0) (.int .i64 0) (.string ⟨#[]⟩) hrs5 (by decide) (by decide) (by decide) (by decide)
            have f0 := cell_of (k := 0) h4.here rfl
            have f1 := cell_of (k := 1) h4.here rfl
            have f2 := cell_of (k := 2) h4.here rfl
            have f3 := cell_of (k := 3) h4.here rfl
            have HB5 := Lib.hid (h4.below w.heap.size w (Nat.le_refl _) (HBL.out.trans (hb5.mono HBL.out.size)))
            clear hb5 hrs5 h4
            go_wp2_with fail
            refine bodyPost_ret (v := .tuple #[.agg #[.int .i64 0, .int .i64 0, .int .i64 0, .string ⟨#[]⟩], .int .i64 0]) (by simp [results, Tryz.results66, go_sem, f0, f1, f2, f3]) rfl ⟨?_, HB5.out⟩
            rw [HZ.out]; rfl
          | true =>
            have HR2 : Hid (∀ W : World, Calls Tryz.prog 24 #[.agg #[.int .i64 vk, .int .i64 vn, .int .i64 vd, .string ⟨vx.toArray⟩]] W fun e w' => e = .returned (.bool true) ∧ Below W.heap.size W w') := Lib.hid fun W => by have := HR9.out W; rw [hr] at this; exact this
            rw [hr] at hrl
            have HZ : Hid (R = (⟨vk, vn, vd, vx⟩, n - m)) := Lib.hid hrl
            have hw : IntKind.i64.wrap ((n : Int) - (m : Int)) = ((n - m : Nat) : Int) := by
              rw [show (n : Int) - (m : Int) = ((n - m : Nat) : Int) by omega]; exact IntWalk.i64_in _ (by omega)
            clear hrl hr
            go_wp2_with fail
            refine (HR2.out _).mono ?_
            rintro e w5 ⟨rfl, hb5⟩
            have hP5 := (hb5.block _ hl1).trans HP.out
            have e0 : w5.cell? ⟨w.heap.size + 1, 0, none⟩ = some (.slice a9 m c9) := cell_of hP5 rfl
            have e1 : w5.cell? ⟨w.heap.size + 1, 1, none⟩ = some (.int .i64 vk) := cell_of hP5 rfl
            have e2 : w5.cell? ⟨w.heap.size + 1, 2, none⟩ = some (.int .i64 vn) := cell_of hP5 rfl
            have e3 : w5.cell? ⟨w.heap.size + 1, 3, none⟩ = some (.int .i64 vd) := cell_of hP5 rfl
            have e4 : w5.cell? ⟨w.heap.size + 1, 4, none⟩ = some (.string ⟨vx.toArray⟩) := cell_of hP5 rfl
            have hrs5 := (hb5.block _ hl0).trans HRS.out
            obtain ⟨x1, x2, x3, x4, v0, v1, v2, v3, ⟨p0, q0, r0⟩, ⟨p1, q1, r1⟩, ⟨p2, q2, r2⟩, ⟨p3, q3, r3⟩, h4⟩ := four_store w5 w.heap.size 23 _ 0 1 2 3 (.int .i64 vk) (.int .i64 vn) (.int .i64 vd) (.string ⟨vx.toArray⟩) hrs5 (by decide) (by decide) (by decide) (by decide)
            have f0 : x4.cell? ⟨w.heap.size, 0, none⟩ = some (.int .i64 vk) := cell_of h4.here rfl
            have f1 : x4.cell? ⟨w.heap.size, 1, none⟩ = some (.int .i64 vn) := cell_of h4.here rfl
            have f2 : x4.cell? ⟨w.heap.size, 2, none⟩ = some (.int .i64 vd) := cell_of h4.here rfl
            have f3 : x4.cell? ⟨w.heap.size, 3, none⟩ = some (.string ⟨vx.toArray⟩) := cell_of h4.here rfl
            have f4 : x4.cell? ⟨w.heap.size + 1, 0, none⟩ = some (.slice a9 m c9) := cell_of ((h4.there _ (by omega)).trans hP5) rfl
            have HB5 := Lib.hid (h4.below w.heap.size w (Nat.le_refl _) (HBL.out.trans (hb5.mono HBL.out.size)))
            clear hb5 hrs5 h4 hP5
            go_wp2_with fail
            go_region
            all_goals
              go_wp2_with fail
              refine bodyPost_ret (v := .tuple #[.agg #[.int .i64 vk, .int .i64 vn, .int .i64 vd, .string ⟨vx.toArray⟩], .int .i64 ((n - m : Nat) : Int)]) (by simp [results, Tryz.results66, go_sem, f0, f1, f2, f3]) rfl ⟨?_, HB5.out.drew⟩
              rw [HZ.out]; rfl
        · have n9 := takeP_no (r := r) k9
          by_cases k1 : t.kind = 1
          · have TY : Hid (∀ W : World, Cur w W (w.heap.size + 1) 101 (vc zeroV) (t :: r) → Calls Tryz.prog 97 #[.pointer (some ⟨w.heap.size + 1, 0, none⟩), .int .i64 1, .func (.func 103) #[] #[]] W fun e w' => e = .returned (.bool true) ∧ W.grownBy w' (some (w.heap.size + 1)) ∧ Cur w w' (w.heap.size + 1) 101 (vc (namedV t.text)) r) := Lib.hid fun W hW => by have := take_yes (f := 103) (fun _ _ => rfl) hW asName; rw [k1] at this; exact this
            have hv : (namedV t.text, r) = ((⟨vk, vn, vd, vx⟩ : Val), l2) := by rw [← HV.out]; unfold rawV; dsimp only; rw [if_neg k7, if_neg k8, if_neg k9, if_pos k1]
            injection hv with hv1 hv2
            clear k7 k8 k9 k1
            go_wp2_with fail
            refine (take_no 7 _ HS.out.cur n7).mono ?_
            rintro e w1 ⟨rfl, hb1⟩
            replace HS := Lib.hid (HS.out.keep hb1)
            clear hb1
            go_wp2_with fail
            refine (take_no 8 _ HS.out.cur n8).mono ?_
            rintro e w1 ⟨rfl, hb1⟩
            replace HS := Lib.hid (HS.out.keep hb1)
            clear hb1
            go_wp2_with fail
            refine (take_no 9 _ HS.out.cur n9).mono ?_
            rintro e w1 ⟨rfl, hb1⟩
            replace HS := Lib.hid (HS.out.keep hb1)
            clear hb1
            go_wp2_with fail
            refine (TY.out _ HS.out.cur).mono ?_
            rintro e w2 ⟨rfl, hg1, hc1⟩
            have HF : Hid (RdAt w w2 ⟨vk, vn, vd, vx⟩ l2) := Lib.hid (by rw [← hv1, ← hv2]; exact HS.out.step hg1 hc1)
            clear hg1 hc1 HS hv1 hv2
            go_upto_region 7 with (fail)
            obtain ⟨bl, rs, cu⟩ := HF.out
            obtain ⟨a9, c9, hP, hq1, hq2, hq3⟩ := cu.ex
            obtain ⟨m, hm⟩ : ∃ m, l2.length = m := ⟨_, rfl⟩
            have hle := HLE.out
            have hrl := HRL.out
            rw [hm] at hle hrl hP
            have e0 : World.cell? _ ⟨w.heap.size + 1, 0, none⟩ = some (.slice a9 m c9) := cell_of hP rfl
            have e1 : World.cell? _ ⟨w.heap.size + 1, 1, none⟩ = some (.int .i64 vk) := cell_of hP rfl
            have e2 : World.cell? _ ⟨w.heap.size + 1, 2, none⟩ = some (.int .i64 vn) := cell_of hP rfl
            have e3 : World.cell? _ ⟨w.heap.size + 1, 3, none⟩ = some (.int .i64 vd) := cell_of hP rfl
            have e4 : World.cell? _ ⟨w.heap.size + 1, 4, none⟩ = some (.string ⟨vx.toArray⟩) := cell_of hP rfl
            have HP := Lib.hid hP
            have HRS := Lib.hid rs
            have HBL := Lib.hid bl
            have hl1 := blk_lt9 hP
            have hl0 := blk_lt9 rs
            clear HF bl rs cu hP hq1 hq2 hq3 hm
            cases hr : rightV ⟨vk, vn, vd, vx⟩ with
            | false =>
              have HR2 : Hid (∀ W : World, Calls Tryz.prog 24 #[.agg #[.int .i64 vk, .int .i64 vn, .int .i64 vd, .string ⟨vx.toArray⟩]] W fun e w' => e = .returned (.bool false) ∧ Below W.heap.size W w') := Lib.hid fun W => by have := HR9.out W; rw [hr] at this; exact this
              rw [hr] at hrl
              have HZ : Hid (R = (zeroV, 0)) := Lib.hid hrl
              clear hrl hr
              go_wp2_with fail
              refine (HR2.out _).mono ?_
              rintro e w5 ⟨rfl, hb5⟩
              have hrs5 := (hb5.block _ hl0).trans HRS.out
              obtain ⟨x1, x2, x3, x4, v0, v1, v2, v3, ⟨p0, q0, r0⟩, ⟨p1, q1, r1⟩, ⟨p2, q2, r2⟩, ⟨p3, q3, r3⟩, h4⟩ := four_store w5 w.heap.size 23 _ 0 1 2 3 (.int .i64 0) (.int .i64 0) (.int .i64 0) (.string ⟨#[]⟩) hrs5 (by decide) (by decide) (by decide) (by decide)
              have f0 := cell_of (k := 0) h4.here rfl
              have f1 := cell_of (k := 1) h4.here rfl
              have f2 := cell_of (k := 2) h4.here rfl
              have f3 := cell_of (k := 3) h4.here rfl
              have HB5 := Lib.hid (h4.below w.heap.size w (Nat.le_refl _) (HBL.out.trans (hb5.mono HBL.out.size)))
              clear hb5 hrs5 h4
              go_wp2_with fail
              refine bodyPost_ret (v := .tuple #[.agg #[.int .i64 0, .int .i64 0, .int .i64 0, .string ⟨#[]⟩], .int .i64 0]) (by simp [results, Tryz.results66, go_sem, f0, f1, f2, f3]) rfl ⟨?_, HB5.out⟩
              rw [HZ.out]; rfl
            | true =>
              have HR2 : Hid (∀ W : World, Calls Tryz.prog 24 #[.agg #[.int .i64 vk, .int .i64 vn, .int .i64 vd, .string ⟨vx.toArray⟩]] W fun e w' => e = .returned (.bool true) ∧ Below W.heap.size W w') := Lib.hid fun W => by have := HR9.out W; rw [hr] at this; exact this
              rw [hr] at hrl
              have HZ : Hid (R = (⟨vk, vn, vd, vx⟩, n - m)) := Lib.hid hrl
              have hw : IntKind.i64.wrap ((n : Int) - (m : Int)) = ((n - m : Nat) : Int) := by
                rw [show (n : Int) - (m : Int) = ((n - m : Nat) : Int) by omega]; exact IntWalk.i64_in _ (by omega)
              clear hrl hr
              go_wp2_with fail
              refine (HR2.out _).mono ?_
              rintro e w5 ⟨rfl, hb5⟩
              have hP5 := (hb5.block _ hl1).trans HP.out
              have e0 : w5.cell? ⟨w.heap.size + 1, 0, none⟩ = some (.slice a9 m c9) := cell_of hP5 rfl
              have e1 : w5.cell? ⟨w.heap.size + 1, 1, none⟩ = some (.int .i64 vk) := cell_of hP5 rfl
              have e2 : w5.cell? ⟨w.heap.size + 1, 2, none⟩ = some (.int .i64 vn) := cell_of hP5 rfl
              have e3 : w5.cell? ⟨w.heap.size + 1, 3, none⟩ = some (.int .i64 vd) := cell_of hP5 rfl
              have e4 : w5.cell? ⟨w.heap.size + 1, 4, none⟩ = some (.string ⟨vx.toArray⟩) := cell_of hP5 rfl
              have hrs5 := (hb5.block _ hl0).trans HRS.out
              obtain ⟨x1, x2, x3, x4, v0, v1, v2, v3, ⟨p0, q0, r0⟩, ⟨p1, q1, r1⟩, ⟨p2, q2, r2⟩, ⟨p3, q3, r3⟩, h4⟩ := four_store w5 w.heap.size 23 _ 0 1 2 3 (.int .i64 vk) (.int .i64 vn) (.int .i64 vd) (.string ⟨vx.toArray⟩) hrs5 (by decide) (by decide) (by decide) (by decide)
              have f0 : x4.cell? ⟨w.heap.size, 0, none⟩ = some (.int .i64 vk) := cell_of h4.here rfl
              have f1 : x4.cell? ⟨w.heap.size, 1, none⟩ = some (.int .i64 vn) := cell_of h4.here rfl
              have f2 : x4.cell? ⟨w.heap.size, 2, none⟩ = some (.int .i64 vd) := cell_of h4.here rfl
              have f3 : x4.cell? ⟨w.heap.size, 3, none⟩ = some (.string ⟨vx.toArray⟩) := cell_of h4.here rfl
              have f4 : x4.cell? ⟨w.heap.size + 1, 0, none⟩ = some (.slice a9 m c9) := cell_of ((h4.there _ (by omega)).trans hP5) rfl
              have HB5 := Lib.hid (h4.below w.heap.size w (Nat.le_refl _) (HBL.out.trans (hb5.mono HBL.out.size)))
              clear hb5 hrs5 h4 hP5
              go_wp2_with fail
              go_region
              all_goals
                go_wp2_with fail
                refine bodyPost_ret (v := .tuple #[.agg #[.int .i64 vk, .int .i64 vn, .int .i64 vd, .string ⟨vx.toArray⟩], .int .i64 ((n - m : Nat) : Int)]) (by simp [results, Tryz.results66, go_sem, f0, f1, f2, f3]) rfl ⟨?_, HB5.out.drew⟩
                rw [HZ.out]; rfl
          · have n1 := takeP_no (r := r) k1
            have hv : (zeroV, t :: r) = ((⟨vk, vn, vd, vx⟩ : Val), l2) := by rw [← HV.out]; unfold rawV; dsimp only; rw [if_neg k7, if_neg k8, if_neg k9, if_neg k1]
            injection hv with hv1 hv2
            clear k7 k8 k9 k1
            go_wp2_with fail
            refine (take_no 7 _ HS.out.cur n7).mono ?_
            rintro e w1 ⟨rfl, hb1⟩
            replace HS := Lib.hid (HS.out.keep hb1)
            clear hb1
            go_wp2_with fail
            refine (take_no 8 _ HS.out.cur n8).mono ?_
            rintro e w1 ⟨rfl, hb1⟩
            replace HS := Lib.hid (HS.out.keep hb1)
            clear hb1
            go_wp2_with fail
            refine (take_no 9 _ HS.out.cur n9).mono ?_
            rintro e w1 ⟨rfl, hb1⟩
            replace HS := Lib.hid (HS.out.keep hb1)
            clear hb1
            go_wp2_with fail
            refine (take_no 1 _ HS.out.cur n1).mono ?_
            rintro e w1 ⟨rfl, hb1⟩
            replace HS := Lib.hid (HS.out.keep hb1)
            clear hb1
            have HF : Hid (RdAt w w1 ⟨vk, vn, vd, vx⟩ l2) := Lib.hid (by rw [← hv1, ← hv2]; exact HS.out)
            clear hv1 hv2 HS
            go_upto_region 7 with (fail)
            obtain ⟨bl, rs, cu⟩ := HF.out
            obtain ⟨a9, c9, hP, hq1, hq2, hq3⟩ := cu.ex
            obtain ⟨m, hm⟩ : ∃ m, l2.length = m := ⟨_, rfl⟩
            have hle := HLE.out
            have hrl := HRL.out
            rw [hm] at hle hrl hP
            have e0 : World.cell? _ ⟨w.heap.size + 1, 0, none⟩ = some (.slice a9 m c9) := cell_of hP rfl
            have e1 : World.cell? _ ⟨w.heap.size + 1, 1, none⟩ = some (.int .i64 vk) := cell_of hP rfl
            have e2 : World.cell? _ ⟨w.heap.size + 1, 2, none⟩ = some (.int .i64 vn) := cell_of hP rfl
            have e3 : World.cell? _ ⟨w.heap.size + 1, 3, none⟩ = some (.int .i64 vd) := cell_of hP rfl
            have e4 : World.cell? _ ⟨w.heap.size + 1, 4, none⟩ = some (.string ⟨vx.toArray⟩) := cell_of hP rfl
            have HP := Lib.hid hP
            have HRS := Lib.hid rs
            have HBL := Lib.hid bl
            have hl1 := blk_lt9 hP
            have hl0 := blk_lt9 rs
            clear HF bl rs cu hP hq1 hq2 hq3 hm
            cases hr : rightV ⟨vk, vn, vd, vx⟩ with
            | false =>
              have HR2 : Hid (∀ W : World, Calls Tryz.prog 24 #[.agg #[.int .i64 vk, .int .i64 vn, .int .i64 vd, .string ⟨vx.toArray⟩]] W fun e w' => e = .returned (.bool false) ∧ Below W.heap.size W w') := Lib.hid fun W => by have := HR9.out W; rw [hr] at this; exact this
              rw [hr] at hrl
              have HZ : Hid (R = (zeroV, 0)) := Lib.hid hrl
              clear hrl hr
              go_wp2_with fail
              refine (HR2.out _).mono ?_
              rintro e w5 ⟨rfl, hb5⟩
              have hrs5 := (hb5.block _ hl0).trans HRS.out
              obtain ⟨x1, x2, x3, x4, v0, v1, v2, v3, ⟨p0, q0, r0⟩, ⟨p1, q1, r1⟩, ⟨p2, q2, r2⟩, ⟨p3, q3, r3⟩, h4⟩ := four_store w5 w.heap.size 23 _ 0 1 2 3 (.int .i64 0) (.int .i64 0) (.int .i64 0) (.string ⟨#[]⟩) hrs5 (by decide) (by decide) (by decide) (by decide)
              have f0 := cell_of (k := 0) h4.here rfl
              have f1 := cell_of (k := 1) h4.here rfl
              have f2 := cell_of (k := 2) h4.here rfl
              have f3 := cell_of (k := 3) h4.here rfl
              have HB5 := Lib.hid (h4.below w.heap.size w (Nat.le_refl _) (HBL.out.trans (hb5.mono HBL.out.size)))
              clear hb5 hrs5 h4
              go_wp2_with fail
              refine bodyPost_ret (v := .tuple #[.agg #[.int .i64 0, .int .i64 0, .int .i64 0, .string ⟨#[]⟩], .int .i64 0]) (by simp [results, Tryz.results66, go_sem, f0, f1, f2, f3]) rfl ⟨?_, HB5.out⟩
              rw [HZ.out]; rfl
            | true =>
              have HR2 : Hid (∀ W : World, Calls Tryz.prog 24 #[.agg #[.int .i64 vk, .int .i64 vn, .int .i64 vd, .string ⟨vx.toArray⟩]] W fun e w' => e = .returned (.bool true) ∧ Below W.heap.size W w') := Lib.hid fun W => by have := HR9.out W; rw [hr] at this; exact this
              rw [hr] at hrl
              have HZ : Hid (R = (⟨vk, vn, vd, vx⟩, n - m)) := Lib.hid hrl
              have hw : IntKind.i64.wrap ((n : Int) - (m : Int)) = ((n - m : Nat) : Int) := by
                rw [show (n : Int) - (m : Int) = ((n - m : Nat) : Int) by omega]; exact IntWalk.i64_in _ (by omega)
              clear hrl hr
              go_wp2_with fail
              refine (HR2.out _).mono ?_
              rintro e w5 ⟨rfl, hb5⟩
              have hP5 := (hb5.block _ hl1).trans HP.out
              have e0 : w5.cell? ⟨w.heap.size + 1, 0, none⟩ = some (.slice a9 m c9) := cell_of hP5 rfl
              have e1 : w5.cell? ⟨w.heap.size + 1, 1, none⟩ = some (.int .i64 vk) := cell_of hP5 rfl
              have e2 : w5.cell? ⟨w.heap.size + 1, 2, none⟩ = some (.int .i64 vn) := cell_of hP5 rfl
              have e3 : w5.cell? ⟨w.heap.size + 1, 3, none⟩ = some (.int .i64 vd) := cell_of hP5 rfl
              have e4 : w5.cell? ⟨w.heap.size + 1, 4, none⟩ = some (.string ⟨vx.toArray⟩) := cell_of hP5 rfl
              have hrs5 := (hb5.block _ hl0).trans HRS.out
              obtain ⟨x1, x2, x3, x4, v0, v1, v2, v3, ⟨p0, q0, r0⟩, ⟨p1, q1, r1⟩, ⟨p2, q2, r2⟩, ⟨p3, q3, r3⟩, h4⟩ := four_store w5 w.heap.size 23 _ 0 1 2 3 (.int .i64 vk) (.int .i64 vn) (.int .i64 vd) (.string ⟨vx.toArray⟩) hrs5 (by decide) (by decide) (by decide) (by decide)
              have f0 : x4.cell? ⟨w.heap.size, 0, none⟩ = some (.int .i64 vk) := cell_of h4.here rfl
              have f1 : x4.cell? ⟨w.heap.size, 1, none⟩ = some (.int .i64 vn) := cell_of h4.here rfl
              have f2 : x4.cell? ⟨w.heap.size, 2, none⟩ = some (.int .i64 vd) := cell_of h4.here rfl
              have f3 : x4.cell? ⟨w.heap.size, 3, none⟩ = some (.string ⟨vx.toArray⟩) := cell_of h4.here rfl
              have f4 : x4.cell? ⟨w.heap.size + 1, 0, none⟩ = some (.slice a9 m c9) := cell_of ((h4.there _ (by omega)).trans hP5) rfl
              have HB5 := Lib.hid (h4.below w.heap.size w (Nat.le_refl _) (HBL.out.trans (hb5.mono HBL.out.size)))
              clear hb5 hrs5 h4 hP5
              go_wp2_with fail
              go_region
              all_goals
                go_wp2_with fail
                refine bodyPost_ret (v := .tuple #[.agg #[.int .i64 vk, .int .i64 vn, .int .i64 vd, .string ⟨vx.toArray⟩], .int .i64 ((n - m : Nat) : Int)]) (by simp [results, Tryz.results66, go_sem, f0, f1, f2, f3]) rfl ⟨?_, HB5.out.drew⟩
                rw [HZ.out]; rfl
end Go.Proofs.YtbodmfbpmeapoaaGreat
