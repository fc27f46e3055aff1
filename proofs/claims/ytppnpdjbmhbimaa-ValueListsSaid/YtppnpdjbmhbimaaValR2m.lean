/- Layer 9's reference: Read of all. -/
import Derived.Test.YtppnpdjbmhbimaaValRb
namespace Go.Proofs.Ytppnpdjbmhbimaa
open Go.RowKit TreN LexP FixP SynP ValP FixM
set_option linter.unusedVariables false

set_option maxRecDepth 100000 in
set_option maxHeartbeats 8000000 in
theorem refRead9_any (a : Option Addr) (l : List Tok) (n cap : Nat) (w : World) (hn : l.length = n) (hnm : n ≤ 8000000) (hT : Tks w a l) (hx : TxOk l) :
    Calls Try.prog 22 #[.slice a n cap] w fun e w' => e = .returned (.tuple #[valV (readV l).1, .int .i64 ((readV l).2 : Nat)]) ∧ Below w.heap.size w w' := by
  have HN := Lib.hid hn
  have HX := Lib.hid (rawV_name hx)
  obtain ⟨⟨vk, vn, vd, vx⟩, hv⟩ : ∃ v, (rawV l).1 = v := ⟨_, rfl⟩
  obtain ⟨l2, hl2⟩ : ∃ l2, (rawV l).2 = l2 := ⟨_, rfl⟩
  have HV : Hid (rawV l = (⟨vk, vn, vd, vx⟩, l2)) := Lib.hid (by rw [← hv, ← hl2])
  rw [hv] at HX
  have hR9 := fun (W : World) => refRight9_any vk vn vd vx W HX.out
  have HR9 := Lib.hid hR9
  have HRL : Hid (readV l = if rightV ⟨vk, vn, vd, vx⟩ = true then (⟨vk, vn, vd, vx⟩, n - l2.length) else (zeroV, 0)) := Lib.hid (by unfold readV; rw [HV.out, HN.out])
  obtain ⟨R, hR⟩ : ∃ R, readV l = R := ⟨_, rfl⟩
  rw [hR] at HRL ⊢
  have HRE := Lib.hid hR
  have HTT := Lib.hid hT
  have HXX := Lib.hid hx
  clear hv hl2 hx hR hR9 hT hn
  cases l with
  | nil =>
    have hv : (zeroV, []) = ((⟨vk, vn, vd, vx⟩ : Val), l2) := HV.out
    have hv1 : zeroV = ⟨vk, vn, vd, vx⟩ := congrArg Prod.fst hv
    have hz : n = 0 := HN.out.symm
    subst hz
    have HZ : Hid (R = (zeroV, 0)) := Lib.hid (by
      have := HRL.out
      rw [← hv1, right_zero] at this
      exact this)
    clear hv hv1
    go_enter Try.func22, Try.ntmps22
    go_wp2_with fail
    refine bodyPost_ret (v := .tuple #[.agg #[.int .i64 0, .int .i64 0, .int .i64 0, .string ⟨#[]⟩], .int .i64 0]) (by simp [results, Try.results22, go_sem]) rfl ⟨?_, (Below.refl _ _).alloc (Nat.le_refl _) _⟩
    rw [HZ.out]; rfl
  | cons t r =>
    obtain ⟨b, o, rfl, hbw, hk⟩ := HTT.out.get (i := 0) (by simp)
    have d1 : w.cell? ⟨b, o, none⟩ = some (.int .i64 t.kind) := by have := hk.kind; simpa using this
    have d2 : w.cell? ⟨b, o + 1, none⟩ = some (.string ⟨t.text.toArray⟩) := by have := hk.text; simpa using this
    have d3 : w.cell? ⟨b, o + 2, none⟩ = some (.int .i64 t.n) := by have := hk.n; simpa using this
    have hn0 : 0 < n := by have := HN.out; simp at this; omega
    have hnz : (0 : Int) < (n : Int) := by omega
    have hne : ((n : Int) == 0) = false := by rw [beq_eq_false_iff_ne]; omega
    have hne2 : ¬ n = 0 := by omega
    clear hk
    have hBK : ∀ W : World, Below w.heap.size w W → Tks W (some ⟨b, o, none⟩) (t :: r) := fun W hW => HTT.out.below hW
    have HBK := Lib.hid hBK
    clear hBK
    by_cases k7 : t.kind = 7
    · have kz : (t.kind == 7) = true := by rw [beq_iff_eq]; exact k7
      have hv : (match overP r with | some (u, r2) => (⟨5, t.n, u.n, []⟩, r2) | none => (⟨4, t.n, 0, []⟩, r)) = ((⟨vk, vn, vd, vx⟩ : Val), l2) := by rw [← HV.out]; unfold rawV; dsimp only; rw [if_pos k7]; cases overP r <;> rfl
      have hk1 : skipN (t :: r) 1 ≤ n := by rw [← HN.out]; exact skipN_le (by simp)
      have hk2 : skipN (t :: r) (skipN (t :: r) 1 + 1) ≤ n + n + 1 := by have := skipN_bd (t :: r) (skipN (t :: r) 1 + 1); rw [HN.out] at this; omega
      have SK1 := Lib.hid (fun (W : World) (hW : Below w.heap.size w W) => refSkip7_any _ (t :: r) n cap 1 W HN.out (by omega) (by omega) (HBK.out W hW))
      have SK2 := Lib.hid (fun (W : World) (hW : Below w.heap.size w W) => refSkip7_any _ (t :: r) n cap (skipN (t :: r) 1 + 1) W HN.out (by omega) (by omega) (HBK.out W hW))
      have SG := Lib.hid (fun (W : World) (hW : Below w.heap.size w W) => refSign7_any _ (t :: r) n cap (skipN (t :: r) 1) [47] W HN.out (by omega) (by omega) (HBK.out W hW))
      have SI := Lib.hid (fun (W : World) (hW : Below w.heap.size w W) => refIs7_any _ (t :: r) n cap (skipN (t :: r) (skipN (t :: r) 1 + 1)) 7 W HN.out (by omega) (by omega) (HBK.out W hW))
      have hover := over_idx t r
      obtain ⟨k, hk⟩ : ∃ k, skipN (t :: r) 1 = k := ⟨_, rfl⟩
      rw [hk] at hk1 hk2 SK1 SK2 SG SI hover
      obtain ⟨m, hm⟩ : ∃ m, skipN (t :: r) (k + 1) = m := ⟨_, rfl⟩
      rw [hm] at hk2 SK2 SI hover
      have hw1 : IntKind.i64.wrap ((k : Int) + 1) = ((k + 1 : Nat) : Int) := by rw [show (k : Int) + 1 = ((k + 1 : Nat) : Int) by omega]; exact IntWalk.i64_in _ (by omega)
      have HB2 := Lib.hid (fun (o1 o2 : Obj) => ((Below.refl w.heap.size w).alloc (Nat.le_refl _) o1).alloc (by simp) o2)
      clear hk hm
      rcases hover with ⟨hsg, hsi, hml, hov⟩ | ⟨hno, hov⟩
      · rw [hov] at hv
        injection hv with hv1 hv2
        injection hv1 with e1 e2 e3 e4
        have hnn : n - l2.length = m + 1 := by
          rw [← hv2, List.length_drop, HN.out]; have := HN.out; omega
        obtain ⟨b7, o7, eb7, _, hk7⟩ := HTT.out.get hml
        injection eb7 with eb7; injection eb7 with eb7 eo7; subst eb7; subst eo7
        have d7 : w.cell? ⟨b, o + m * 3 + 2, none⟩ = some (.int .i64 (t :: r)[m].n) := hk7.n
        have hmz : (m : Int) < (n : Int) := by have := HN.out; omega
        have hm0 : (0 : Int) ≤ (m : Int) := by omega
        generalize (t :: r)[m].n = dn at *
        have tn : ∃ tn, t.n = tn := ⟨_, rfl⟩
        obtain ⟨tn, htn⟩ := tn
        rw [htn] at e2 d3
        subst e1 e2 e3 e4
        generalize t.kind = tk at *
        have SG2 : Hid (∀ W : World, Below w.heap.size w W → Calls Try.prog 46 #[.slice (some ⟨b, o, none⟩) n cap, .int .i64 (k : Nat), .string ⟨#[47]⟩] W fun e w' => e = .returned (.bool true) ∧ w' = W) := Lib.hid fun W hW => by have := SG.out W hW; rw [hsg] at this; exact this
        have SI2 : Hid (∀ W : World, Below w.heap.size w W → Calls Try.prog 47 #[.slice (some ⟨b, o, none⟩) n cap, .int .i64 (m : Nat), .int .i64 7] W fun e w' => e = .returned (.bool true) ∧ w' = W) := Lib.hid fun W hW => by have := SI.out W hW; rw [hsi] at this; exact this
        clear k7 hv2 hov hk7 hsg hsi SG SI htn HV HTT
        cases hr : rightV ⟨5, tn, dn, []⟩ with
        | false =>
          have HR2 : Hid (∀ W : World, Calls Try.prog 16 #[.agg #[.int .i64 (5), .int .i64 (tn), .int .i64 (dn), .string ⟨#[]⟩]] W fun e w' => e = .returned (.bool false) ∧ Below W.heap.size W w') := Lib.hid fun W => by have := HR9.out W; rw [hr] at this; exact this
          have HZ : Hid (R = (zeroV, 0)) := Lib.hid (by have := HRL.out; rw [hr] at this; exact this)
          clear hr
          go_enter Try.func22, Try.ntmps22
          go_wp2_with fail
          refine (SK1.out _ (HB2.out _ _)).mono ?_
          rintro e w1 ⟨rfl, rfl⟩
          go_wp2_with fail
          refine (SK2.out _ (HB2.out _ _)).mono ?_
          rintro e w1 ⟨rfl, rfl⟩
          go_wp2_with fail
          refine (SG2.out _ (HB2.out _ _)).mono ?_
          rintro e w1 ⟨rfl, rfl⟩
          go_wp2_with fail
          refine (SI2.out _ (HB2.out _ _)).mono ?_
          rintro e w1 ⟨rfl, rfl⟩
          go_wp2_with fail
          refine (HR2.out _).mono ?_
          rintro e w5 ⟨rfl, hb5⟩
          obtain ⟨k1, k2, k3, k4⟩ := two_blocks w w5 (.cells #[.int .i64 0, .int .i64 0, .int .i64 0, .string ⟨#[]⟩] 30) (.cells #[.int .i64 5, .int .i64 tn, .int .i64 dn, .string ⟨#[]⟩] 30) hb5
          obtain ⟨x1, x2, x3, x4, v0, v1, v2, v3, ⟨p0, q0, r0⟩, ⟨p1, q1, r1⟩, ⟨p2, q2, r2⟩, ⟨p3, q3, r3⟩, h4⟩ := four_store w5 w.heap.size 30 _ 0 1 2 3 (.int .i64 0) (.int .i64 0) (.int .i64 0) (.string ⟨#[]⟩) k1 (by decide) (by decide) (by decide) (by decide)
          have f0 := cell_of (k := 0) h4.here rfl
          have f1 := cell_of (k := 1) h4.here rfl
          have f2 := cell_of (k := 2) h4.here rfl
          have f3 := cell_of (k := 3) h4.here rfl
          have HB5 := Lib.hid (h4.below w.heap.size w (Nat.le_refl _) k3)
          clear hb5 k1 k2 k3 h4
          go_wp2_with fail
          refine bodyPost_ret (v := .tuple #[.agg #[.int .i64 0, .int .i64 0, .int .i64 0, .string ⟨#[]⟩], .int .i64 0]) (by simp [results, Try.results22, go_sem, f0, f1, f2, f3]) rfl ⟨?_, HB5.out⟩
          rw [HZ.out]; rfl
        | true =>
          have HR2 : Hid (∀ W : World, Calls Try.prog 16 #[.agg #[.int .i64 (5), .int .i64 (tn), .int .i64 (dn), .string ⟨#[]⟩]] W fun e w' => e = .returned (.bool true) ∧ Below W.heap.size W w') := Lib.hid fun W => by have := HR9.out W; rw [hr] at this; exact this
          have HZ : Hid (R = (⟨5, tn, dn, []⟩, m + 1)) := Lib.hid (by have := HRL.out; rw [hr, hnn] at this; exact this)
          clear hr
          go_enter Try.func22, Try.ntmps22
          go_wp2_with fail
          refine (SK1.out _ (HB2.out _ _)).mono ?_
          rintro e w1 ⟨rfl, rfl⟩
          go_wp2_with fail
          refine (SK2.out _ (HB2.out _ _)).mono ?_
          rintro e w1 ⟨rfl, rfl⟩
          go_wp2_with fail
          refine (SG2.out _ (HB2.out _ _)).mono ?_
          rintro e w1 ⟨rfl, rfl⟩
          go_wp2_with fail
          refine (SI2.out _ (HB2.out _ _)).mono ?_
          rintro e w1 ⟨rfl, rfl⟩
          go_wp2_with fail
          refine (HR2.out _).mono ?_
          rintro e w5 ⟨rfl, hb5⟩
          obtain ⟨k1, k2, k3, k4⟩ := two_blocks w w5 (.cells #[.int .i64 0, .int .i64 0, .int .i64 0, .string ⟨#[]⟩] 30) (.cells #[.int .i64 5, .int .i64 tn, .int .i64 dn, .string ⟨#[]⟩] 30) hb5
          have e1 : w5.cell? ⟨w.heap.size + 1, 0, none⟩ = some (.int .i64 (5)) := cell_of k2 rfl
          have e2 : w5.cell? ⟨w.heap.size + 1, 1, none⟩ = some (.int .i64 (tn)) := cell_of k2 rfl
          have e3 : w5.cell? ⟨w.heap.size + 1, 2, none⟩ = some (.int .i64 (dn)) := cell_of k2 rfl
          have e4 : w5.cell? ⟨w.heap.size + 1, 3, none⟩ = some (.string ⟨#[]⟩) := cell_of k2 rfl
          obtain ⟨x1, x2, x3, x4, v0, v1, v2, v3, ⟨p0, q0, r0⟩, ⟨p1, q1, r1⟩, ⟨p2, q2, r2⟩, ⟨p3, q3, r3⟩, h4⟩ := four_store w5 w.heap.size 30 _ 0 1 2 3 (.int .i64 (5)) (.int .i64 (tn)) (.int .i64 (dn)) (.string ⟨#[]⟩) k1 (by decide) (by decide) (by decide) (by decide)
          have f0 : x4.cell? ⟨w.heap.size, 0, none⟩ = some (.int .i64 (5)) := cell_of h4.here rfl
          have f1 : x4.cell? ⟨w.heap.size, 1, none⟩ = some (.int .i64 (tn)) := cell_of h4.here rfl
          have f2 : x4.cell? ⟨w.heap.size, 2, none⟩ = some (.int .i64 (dn)) := cell_of h4.here rfl
          have f3 : x4.cell? ⟨w.heap.size, 3, none⟩ = some (.string ⟨#[]⟩) := cell_of h4.here rfl
          have HB5 := Lib.hid (h4.below w.heap.size w (Nat.le_refl _) k3)
          clear hb5 k1 k2 k3 h4
          go_wp2_with fail
          refine bodyPost_ret (v := .tuple #[.agg #[.int .i64 (5), .int .i64 (tn), .int .i64 (dn), .string ⟨#[]⟩], .int .i64 ((m + 1 : Nat) : Int)]) (by simp [results, Try.results22, go_sem, f0, f1, f2, f3]) rfl ⟨?_, HB5.out⟩
          rw [HZ.out]; rfl
      · rw [hov] at hv
        injection hv with hv1 hv2
        injection hv1 with e1 e2 e3 e4
        have hnn : n - l2.length = 1 := by have := HN.out; rw [← hv2]; simp at this; omega
        have tn : ∃ tn, t.n = tn := ⟨_, rfl⟩
        obtain ⟨tn, htn⟩ := tn
        rw [htn] at e2 d3
        subst e1 e2 e3 e4
        generalize t.kind = tk at *
        rcases hno with hsg | ⟨hsg, hsi⟩
        · have SG2 : Hid (∀ W : World, Below w.heap.size w W → Calls Try.prog 46 #[.slice (some ⟨b, o, none⟩) n cap, .int .i64 (k : Nat), .string ⟨#[47]⟩] W fun e w' => e = .returned (.bool false) ∧ w' = W) := Lib.hid fun W hW => by have := SG.out W hW; rw [hsg] at this; exact this
          clear k7 hv2 hov hsg SG SI htn HV HTT
          cases hr : rightV ⟨4, tn, 0, []⟩ with
          | false =>
            have HR2 : Hid (∀ W : World, Calls Try.prog 16 #[.agg #[.int .i64 (4), .int .i64 (tn), .int .i64 (0), .string ⟨#[]⟩]] W fun e w' => e = .returned (.bool false) ∧ Below W.heap.size W w') := Lib.hid fun W => by have := HR9.out W; rw [hr] at this; exact this
            have HZ : Hid (R = (zeroV, 0)) := Lib.hid (by have := HRL.out; rw [hr] at this; exact this)
            clear hr
            go_enter Try.func22, Try.ntmps22
            go_wp2_with fail
            refine (SK1.out _ (HB2.out _ _)).mono ?_
            rintro e w1 ⟨rfl, rfl⟩
            go_wp2_with fail
            refine (SK2.out _ (HB2.out _ _)).mono ?_
            rintro e w1 ⟨rfl, rfl⟩
            go_wp2_with fail
            refine (SG2.out _ (HB2.out _ _)).mono ?_
            rintro e w1 ⟨rfl, rfl⟩
            go_wp2_with fail
            refine (HR2.out _).mono ?_
            rintro e w5 ⟨rfl, hb5⟩
            obtain ⟨k1, k2, k3, k4⟩ := two_blocks w w5 (.cells #[.int .i64 0, .int .i64 0, .int .i64 0, .string ⟨#[]⟩] 30) (.cells #[.int .i64 4, .int .i64 tn, .int .i64 0, .string ⟨#[]⟩] 30) hb5
            obtain ⟨x1, x2, x3, x4, v0, v1, v2, v3, ⟨p0, q0, r0⟩, ⟨p1, q1, r1⟩, ⟨p2, q2, r2⟩, ⟨p3, q3, r3⟩, h4⟩ := four_store w5 w.heap.size 30 _ 0 1 2 3 (.int .i64 0) (.int .i64 0) (.int .i64 0) (.string ⟨#[]⟩) k1 (by decide) (by decide) (by decide) (by decide)
            have f0 := cell_of (k := 0) h4.here rfl
            have f1 := cell_of (k := 1) h4.here rfl
            have f2 := cell_of (k := 2) h4.here rfl
            have f3 := cell_of (k := 3) h4.here rfl
            have HB5 := Lib.hid (h4.below w.heap.size w (Nat.le_refl _) k3)
            clear hb5 k1 k2 k3 h4
            go_wp2_with fail
            refine bodyPost_ret (v := .tuple #[.agg #[.int .i64 0, .int .i64 0, .int .i64 0, .string ⟨#[]⟩], .int .i64 0]) (by simp [results, Try.results22, go_sem, f0, f1, f2, f3]) rfl ⟨?_, HB5.out⟩
            rw [HZ.out]; rfl
          | true =>
            have HR2 : Hid (∀ W : World, Calls Try.prog 16 #[.agg #[.int .i64 (4), .int .i64 (tn), .int .i64 (0), .string ⟨#[]⟩]] W fun e w' => e = .returned (.bool true) ∧ Below W.heap.size W w') := Lib.hid fun W => by have := HR9.out W; rw [hr] at this; exact this
            have HZ : Hid (R = (⟨4, tn, 0, []⟩, 1)) := Lib.hid (by have := HRL.out; rw [hr, hnn] at this; exact this)
            clear hr
            go_enter Try.func22, Try.ntmps22
            go_wp2_with fail
            refine (SK1.out _ (HB2.out _ _)).mono ?_
            rintro e w1 ⟨rfl, rfl⟩
            go_wp2_with fail
            refine (SK2.out _ (HB2.out _ _)).mono ?_
            rintro e w1 ⟨rfl, rfl⟩
            go_wp2_with fail
            refine (SG2.out _ (HB2.out _ _)).mono ?_
            rintro e w1 ⟨rfl, rfl⟩
            go_wp2_with fail
            refine (HR2.out _).mono ?_
            rintro e w5 ⟨rfl, hb5⟩
            obtain ⟨k1, k2, k3, k4⟩ := two_blocks w w5 (.cells #[.int .i64 0, .int .i64 0, .int .i64 0, .string ⟨#[]⟩] 30) (.cells #[.int .i64 4, .int .i64 tn, .int .i64 0, .string ⟨#[]⟩] 30) hb5
            have e1 : w5.cell? ⟨w.heap.size + 1, 0, none⟩ = some (.int .i64 (4)) := cell_of k2 rfl
            have e2 : w5.cell? ⟨w.heap.size + 1, 1, none⟩ = some (.int .i64 (tn)) := cell_of k2 rfl
            have e3 : w5.cell? ⟨w.heap.size + 1, 2, none⟩ = some (.int .i64 (0)) := cell_of k2 rfl
            have e4 : w5.cell? ⟨w.heap.size + 1, 3, none⟩ = some (.string ⟨#[]⟩) := cell_of k2 rfl
            obtain ⟨x1, x2, x3, x4, v0, v1, v2, v3, ⟨p0, q0, r0⟩, ⟨p1, q1, r1⟩, ⟨p2, q2, r2⟩, ⟨p3, q3, r3⟩, h4⟩ := four_store w5 w.heap.size 30 _ 0 1 2 3 (.int .i64 (4)) (.int .i64 (tn)) (.int .i64 (0)) (.string ⟨#[]⟩) k1 (by decide) (by decide) (by decide) (by decide)
            have f0 : x4.cell? ⟨w.heap.size, 0, none⟩ = some (.int .i64 (4)) := cell_of h4.here rfl
            have f1 : x4.cell? ⟨w.heap.size, 1, none⟩ = some (.int .i64 (tn)) := cell_of h4.here rfl
            have f2 : x4.cell? ⟨w.heap.size, 2, none⟩ = some (.int .i64 (0)) := cell_of h4.here rfl
            have f3 : x4.cell? ⟨w.heap.size, 3, none⟩ = some (.string ⟨#[]⟩) := cell_of h4.here rfl
            have HB5 := Lib.hid (h4.below w.heap.size w (Nat.le_refl _) k3)
            clear hb5 k1 k2 k3 h4
            go_wp2_with fail
            refine bodyPost_ret (v := .tuple #[.agg #[.int .i64 (4), .int .i64 (tn), .int .i64 (0), .string ⟨#[]⟩], .int .i64 ((1 : Nat) : Int)]) (by simp [results, Try.results22, go_sem, f0, f1, f2, f3]) rfl ⟨?_, HB5.out⟩
            rw [HZ.out]; rfl
        · have SG2 : Hid (∀ W : World, Below w.heap.size w W → Calls Try.prog 46 #[.slice (some ⟨b, o, none⟩) n cap, .int .i64 (k : Nat), .string ⟨#[47]⟩] W fun e w' => e = .returned (.bool true) ∧ w' = W) := Lib.hid fun W hW => by have := SG.out W hW; rw [hsg] at this; exact this
          have SI2 : Hid (∀ W : World, Below w.heap.size w W → Calls Try.prog 47 #[.slice (some ⟨b, o, none⟩) n cap, .int .i64 (m : Nat), .int .i64 7] W fun e w' => e = .returned (.bool false) ∧ w' = W) := Lib.hid fun W hW => by have := SI.out W hW; rw [hsi] at this; exact this
          clear k7 hv2 hov hsg hsi SG SI htn HV HTT
          cases hr : rightV ⟨4, tn, 0, []⟩ with
          | false =>
            have HR2 : Hid (∀ W : World, Calls Try.prog 16 #[.agg #[.int .i64 (4), .int .i64 (tn), .int .i64 (0), .string ⟨#[]⟩]] W fun e w' => e = .returned (.bool false) ∧ Below W.heap.size W w') := Lib.hid fun W => by have := HR9.out W; rw [hr] at this; exact this
            have HZ : Hid (R = (zeroV, 0)) := Lib.hid (by have := HRL.out; rw [hr] at this; exact this)
            clear hr
            go_enter Try.func22, Try.ntmps22
            go_wp2_with fail
            refine (SK1.out _ (HB2.out _ _)).mono ?_
            rintro e w1 ⟨rfl, rfl⟩
            go_wp2_with fail
            refine (SK2.out _ (HB2.out _ _)).mono ?_
            rintro e w1 ⟨rfl, rfl⟩
            go_wp2_with fail
            refine (SG2.out _ (HB2.out _ _)).mono ?_
            rintro e w1 ⟨rfl, rfl⟩
            go_wp2_with fail
            refine (SI2.out _ (HB2.out _ _)).mono ?_
            rintro e w1 ⟨rfl, rfl⟩
            go_wp2_with fail
            refine (HR2.out _).mono ?_
            rintro e w5 ⟨rfl, hb5⟩
            obtain ⟨k1, k2, k3, k4⟩ := two_blocks w w5 (.cells #[.int .i64 0, .int .i64 0, .int .i64 0, .string ⟨#[]⟩] 30) (.cells #[.int .i64 4, .int .i64 tn, .int .i64 0, .string ⟨#[]⟩] 30) hb5
            obtain ⟨x1, x2, x3, x4, v0, v1, v2, v3, ⟨p0, q0, r0⟩, ⟨p1, q1, r1⟩, ⟨p2, q2, r2⟩, ⟨p3, q3, r3⟩, h4⟩ := four_store w5 w.heap.size 30 _ 0 1 2 3 (.int .i64 0) (.int .i64 0) (.int .i64 0) (.string ⟨#[]⟩) k1 (by decide) (by decide) (by decide) (by decide)
            have f0 := cell_of (k := 0) h4.here rfl
            have f1 := cell_of (k := 1) h4.here rfl
            have f2 := cell_of (k := 2) h4.here rfl
            have f3 := cell_of (k := 3) h4.here rfl
            have HB5 := Lib.hid (h4.below w.heap.size w (Nat.le_refl _) k3)
            clear hb5 k1 k2 k3 h4
            go_wp2_with fail
            refine bodyPost_ret (v := .tuple #[.agg #[.int .i64 0, .int .i64 0, .int .i64 0, .string ⟨#[]⟩], .int .i64 0]) (by simp [results, Try.results22, go_sem, f0, f1, f2, f3]) rfl ⟨?_, HB5.out⟩
            rw [HZ.out]; rfl
          | true =>
            have HR2 : Hid (∀ W : World, Calls Try.prog 16 #[.agg #[.int .i64 (4), .int .i64 (tn), .int .i64 (0), .string ⟨#[]⟩]] W fun e w' => e = .returned (.bool true) ∧ Below W.heap.size W w') := Lib.hid fun W => by have := HR9.out W; rw [hr] at this; exact this
            have HZ : Hid (R = (⟨4, tn, 0, []⟩, 1)) := Lib.hid (by have := HRL.out; rw [hr, hnn] at this; exact this)
            clear hr
            go_enter Try.func22, Try.ntmps22
            go_wp2_with fail
            refine (SK1.out _ (HB2.out _ _)).mono ?_
            rintro e w1 ⟨rfl, rfl⟩
            go_wp2_with fail
            refine (SK2.out _ (HB2.out _ _)).mono ?_
            rintro e w1 ⟨rfl, rfl⟩
            go_wp2_with fail
            refine (SG2.out _ (HB2.out _ _)).mono ?_
            rintro e w1 ⟨rfl, rfl⟩
            go_wp2_with fail
            refine (SI2.out _ (HB2.out _ _)).mono ?_
            rintro e w1 ⟨rfl, rfl⟩
            go_wp2_with fail
            refine (HR2.out _).mono ?_
            rintro e w5 ⟨rfl, hb5⟩
            obtain ⟨k1, k2, k3, k4⟩ := two_blocks w w5 (.cells #[.int .i64 0, .int .i64 0, .int .i64 0, .string ⟨#[]⟩] 30) (.cells #[.int .i64 4, .int .i64 tn, .int .i64 0, .string ⟨#[]⟩] 30) hb5
            have e1 : w5.cell? ⟨w.heap.size + 1, 0, none⟩ = some (.int .i64 (4)) := cell_of k2 rfl
            have e2 : w5.cell? ⟨w.heap.size + 1, 1, none⟩ = some (.int .i64 (tn)) := cell_of k2 rfl
            have e3 : w5.cell? ⟨w.heap.size + 1, 2, none⟩ = some (.int .i64 (0)) := cell_of k2 rfl
            have e4 : w5.cell? ⟨w.heap.size + 1, 3, none⟩ = some (.string ⟨#[]⟩) := cell_of k2 rfl
            obtain ⟨x1, x2, x3, x4, v0, v1, v2, v3, ⟨p0, q0, r0⟩, ⟨p1, q1, r1⟩, ⟨p2, q2, r2⟩, ⟨p3, q3, r3⟩, h4⟩ := four_store w5 w.heap.size 30 _ 0 1 2 3 (.int .i64 (4)) (.int .i64 (tn)) (.int .i64 (0)) (.string ⟨#[]⟩) k1 (by decide) (by decide) (by decide) (by decide)
            have f0 : x4.cell? ⟨w.heap.size, 0, none⟩ = some (.int .i64 (4)) := cell_of h4.here rfl
            have f1 : x4.cell? ⟨w.heap.size, 1, none⟩ = some (.int .i64 (tn)) := cell_of h4.here rfl
            have f2 : x4.cell? ⟨w.heap.size, 2, none⟩ = some (.int .i64 (0)) := cell_of h4.here rfl
            have f3 : x4.cell? ⟨w.heap.size, 3, none⟩ = some (.string ⟨#[]⟩) := cell_of h4.here rfl
            have HB5 := Lib.hid (h4.below w.heap.size w (Nat.le_refl _) k3)
            clear hb5 k1 k2 k3 h4
            go_wp2_with fail
            refine bodyPost_ret (v := .tuple #[.agg #[.int .i64 (4), .int .i64 (tn), .int .i64 (0), .string ⟨#[]⟩], .int .i64 ((1 : Nat) : Int)]) (by simp [results, Try.results22, go_sem, f0, f1, f2, f3]) rfl ⟨?_, HB5.out⟩
            rw [HZ.out]; rfl
    · have z7 : (t.kind == 7) = false := by rw [beq_eq_false_iff_ne]; exact k7
      by_cases k8 : t.kind = 8
      · have kz : (t.kind == 8) = true := by rw [beq_iff_eq]; exact k8
        have hv : (⟨3, t.n, 0, []⟩, r) = ((⟨vk, vn, vd, vx⟩ : Val), l2) := by rw [← HV.out]; unfold rawV; dsimp only; rw [if_neg k7, if_pos k8]
        injection hv with hv1 hv2
        injection hv1 with e1 e2 e3 e4
        have hnn : n - l2.length = 1 := by have := HN.out; rw [← hv2]; simp at this; omega
        obtain ⟨tn, htn⟩ : ∃ tn, t.n = tn := ⟨_, rfl⟩
        rw [htn] at e2 d3
        subst e1 e2 e3 e4
        generalize t.kind = tk at *
        clear k7 k8 hv2 htn HV HTT
        cases hr : rightV ⟨3, tn, 0, []⟩ with
        | false =>
          have HR2 : Hid (∀ W : World, Calls Try.prog 16 #[.agg #[.int .i64 (3), .int .i64 (tn), .int .i64 (0), .string ⟨#[]⟩]] W fun e w' => e = .returned (.bool false) ∧ Below W.heap.size W w') := Lib.hid fun W => by have := HR9.out W; rw [hr] at this; exact this
          have HZ : Hid (R = (zeroV, 0)) := Lib.hid (by have := HRL.out; rw [hr] at this; exact this)
          clear hr
          go_enter Try.func22, Try.ntmps22
          go_wp2_with fail
          refine (HR2.out _).mono ?_
          rintro e w5 ⟨rfl, hb5⟩
          obtain ⟨k1, k2, k3, k4⟩ := two_blocks w w5 (.cells #[.int .i64 0, .int .i64 0, .int .i64 0, .string ⟨#[]⟩] 30) (.cells #[.int .i64 3, .int .i64 tn, .int .i64 0, .string ⟨#[]⟩] 30) hb5
          obtain ⟨x1, x2, x3, x4, v0, v1, v2, v3, ⟨p0, q0, r0⟩, ⟨p1, q1, r1⟩, ⟨p2, q2, r2⟩, ⟨p3, q3, r3⟩, h4⟩ := four_store w5 w.heap.size 30 _ 0 1 2 3 (.int .i64 0) (.int .i64 0) (.int .i64 0) (.string ⟨#[]⟩) k1 (by decide) (by decide) (by decide) (by decide)
          have f0 := cell_of (k := 0) h4.here rfl
          have f1 := cell_of (k := 1) h4.here rfl
          have f2 := cell_of (k := 2) h4.here rfl
          have f3 := cell_of (k := 3) h4.here rfl
          have HB5 := Lib.hid (h4.below w.heap.size w (Nat.le_refl _) k3)
          clear hb5 k1 k2 k3 h4
          go_wp2_with fail
          refine bodyPost_ret (v := .tuple #[.agg #[.int .i64 0, .int .i64 0, .int .i64 0, .string ⟨#[]⟩], .int .i64 0]) (by simp [results, Try.results22, go_sem, f0, f1, f2, f3]) rfl ⟨?_, HB5.out⟩
          rw [HZ.out]; rfl
        | true =>
          have HR2 : Hid (∀ W : World, Calls Try.prog 16 #[.agg #[.int .i64 (3), .int .i64 (tn), .int .i64 (0), .string ⟨#[]⟩]] W fun e w' => e = .returned (.bool true) ∧ Below W.heap.size W w') := Lib.hid fun W => by have := HR9.out W; rw [hr] at this; exact this
          have HZ : Hid (R = (⟨3, tn, 0, []⟩, 1)) := Lib.hid (by have := HRL.out; rw [hr, hnn] at this; exact this)
          clear hr
          go_enter Try.func22, Try.ntmps22
          go_wp2_with fail
          refine (HR2.out _).mono ?_
          rintro e w5 ⟨rfl, hb5⟩
          obtain ⟨k1, k2, k3, k4⟩ := two_blocks w w5 (.cells #[.int .i64 0, .int .i64 0, .int .i64 0, .string ⟨#[]⟩] 30) (.cells #[.int .i64 3, .int .i64 tn, .int .i64 0, .string ⟨#[]⟩] 30) hb5
          have e1 : w5.cell? ⟨w.heap.size + 1, 0, none⟩ = some (.int .i64 (3)) := cell_of k2 rfl
          have e2 : w5.cell? ⟨w.heap.size + 1, 1, none⟩ = some (.int .i64 (tn)) := cell_of k2 rfl
          have e3 : w5.cell? ⟨w.heap.size + 1, 2, none⟩ = some (.int .i64 (0)) := cell_of k2 rfl
          have e4 : w5.cell? ⟨w.heap.size + 1, 3, none⟩ = some (.string ⟨#[]⟩) := cell_of k2 rfl
          obtain ⟨x1, x2, x3, x4, v0, v1, v2, v3, ⟨p0, q0, r0⟩, ⟨p1, q1, r1⟩, ⟨p2, q2, r2⟩, ⟨p3, q3, r3⟩, h4⟩ := four_store w5 w.heap.size 30 _ 0 1 2 3 (.int .i64 (3)) (.int .i64 (tn)) (.int .i64 (0)) (.string ⟨#[]⟩) k1 (by decide) (by decide) (by decide) (by decide)
          have f0 : x4.cell? ⟨w.heap.size, 0, none⟩ = some (.int .i64 (3)) := cell_of h4.here rfl
          have f1 : x4.cell? ⟨w.heap.size, 1, none⟩ = some (.int .i64 (tn)) := cell_of h4.here rfl
          have f2 : x4.cell? ⟨w.heap.size, 2, none⟩ = some (.int .i64 (0)) := cell_of h4.here rfl
          have f3 : x4.cell? ⟨w.heap.size, 3, none⟩ = some (.string ⟨#[]⟩) := cell_of h4.here rfl
          have HB5 := Lib.hid (h4.below w.heap.size w (Nat.le_refl _) k3)
          clear hb5 k1 k2 k3 h4
          go_wp2_with fail
          refine bodyPost_ret (v := .tuple #[.agg #[.int .i64 (3), .int .i64 (tn), .int .i64 (0), .string ⟨#[]⟩], .int .i64 ((1 : Nat) : Int)]) (by simp [results, Try.results22, go_sem, f0, f1, f2, f3]) rfl ⟨?_, HB5.out⟩
          rw [HZ.out]; rfl
      · have z8 : (t.kind == 8) = false := by rw [beq_eq_false_iff_ne]; exact k8
        by_cases k9 : t.kind = 9
        · have kz : (t.kind == 9) = true := by rw [beq_iff_eq]; exact k9
          have hv : (⟨2, t.n, unitP t.text, []⟩, r) = ((⟨vk, vn, vd, vx⟩ : Val), l2) := by rw [← HV.out]; unfold rawV; dsimp only; rw [if_neg k7, if_neg k8, if_pos k9]
          injection hv with hv1 hv2
          injection hv1 with e1 e2 e3 e4
          have hnn : n - l2.length = 1 := by have := HN.out; rw [← hv2]; simp at this; omega
          obtain ⟨W9, hW9⟩ : ∃ W9, (w.alloc (.cells #[.int .i64 0, .int .i64 0, .int .i64 0, .string ⟨#[]⟩] 30)).alloc (.cells #[.int .i64 2, .int .i64 t.n, .int .i64 0, .string ⟨#[]⟩] 30) = W9 := ⟨_, rfl⟩
          obtain ⟨j1, j2, j3, j4⟩ := two_blocks w W9 (.cells #[.int .i64 0, .int .i64 0, .int .i64 0, .string ⟨#[]⟩] 30) (.cells #[.int .i64 2, .int .i64 t.n, .int .i64 0, .string ⟨#[]⟩] 30) (by rw [← hW9]; exact Below.refl _ _)
          have hP := fun (W : World) (hW : TxAt W W9.heap.size uL) => refPlace_any W9.heap.size unitsL 9 9 t.text W rfl (by omega) hW
          have e9 : plc unitsL t.text 1 = unitP t.text := rfl
          rw [e9] at hP
          have dd2 : W9.cell? ⟨b, o + 1, none⟩ = some (.string ⟨t.text.toArray⟩) := (j3.cell (p := ⟨b, o + 1, none⟩) hbw).trans d2
          have dd1 : W9.cell? ⟨b, o, none⟩ = some (.int .i64 t.kind) := (j3.cell (p := ⟨b, o, none⟩) hbw).trans d1
          obtain ⟨x9, v9, y1, y2, y3, y4, y5, y6, y7⟩ := put_one (k := 2) (.int .i64 (unitP t.text : Nat)) j1 j2 j3 (by simp)
          have hbW9 : b < W9.heap.size := by have := j3.size; omega
          obtain ⟨tn, htn⟩ : ∃ tn, t.n = tn := ⟨_, rfl⟩
          obtain ⟨tx, htx⟩ : ∃ tx, t.text = tx := ⟨_, rfl⟩
          obtain ⟨q, hq⟩ : ∃ q, unitP t.text = q := ⟨_, rfl⟩
          rw [hq] at e3 hP y3
          rw [htx] at d2 hP dd2
          rw [htn] at e2 d3 hW9
          rw [hq] at y5
          rw [htn] at y5
          subst e1 e2 e3 e4
          generalize t.kind = tk at *
          have UN := Lib.hid refUnits_any
          obtain ⟨C, hC⟩ : ∃ C, Obj.cells (txcs uL) 9 = C := ⟨_, rfl⟩
          have hTX := TxAt.made W9 uL
          rw [hC] at hTX UN
          have NB := Lib.hid (hP (W9.alloc C).drew (fun i h => hTX i h))
          have YY := Lib.hid (And.intro y5 (And.intro y6 y7))
          have g0 : x9.cell? ⟨w.heap.size + 1, 0, none⟩ = some (.int .i64 2) := cell_of y5 rfl
          have g1 : x9.cell? ⟨w.heap.size + 1, 1, none⟩ = some (.int .i64 tn) := cell_of y5 rfl
          have g2 : x9.cell? ⟨w.heap.size + 1, 2, none⟩ = some (.int .i64 (q : Nat)) := cell_of y5 rfl
          have g3 : x9.cell? ⟨w.heap.size + 1, 3, none⟩ = some (.string ⟨#[]⟩) := cell_of y5 rfl
          clear k7 k8 k9 hv2 htn htx hq HV HTT hC hTX hP e9 y5 y6 y7 j1 j2 j3
          cases hr : rightV ⟨2, tn, (q : Nat), []⟩ with
          | false =>
            have HR2 : Hid (∀ W : World, Calls Try.prog 16 #[.agg #[.int .i64 (2), .int .i64 (tn), .int .i64 ((q : Nat)), .string ⟨#[]⟩]] W fun e w' => e = .returned (.bool false) ∧ Below W.heap.size W w') := Lib.hid fun W => by have := HR9.out W; rw [hr] at this; exact this
            have HZ : Hid (R = (zeroV, 0)) := Lib.hid (by have := HRL.out; rw [hr] at this; exact this)
            clear hr
            go_enter Try.func22, Try.ntmps22
            go_upto_region 18 with (fail)
            go_region_with (first
                | (go_at_call 12; refine (UN.out _).mono ?_; rintro e w2 ⟨rfl, rfl⟩)
                | (go_at_call 10; refine NB.out.mono ?_; rintro e w2 ⟨rfl, rfl⟩))
            all_goals
              go_wp2_with fail
              refine (HR2.out _).mono ?_
              rintro e w5 ⟨rfl, hb5⟩
              obtain ⟨k1, k2, k3, k4⟩ := after_drawn hb5 YY.out.1 YY.out.2.1 YY.out.2.2
              obtain ⟨x1, x2, x3, x4, v0, v1, v2, v3, ⟨p0, q0, r0⟩, ⟨p1, q1, r1⟩, ⟨p2, q2, r2⟩, ⟨p3, q3, r3⟩, h4⟩ := four_store w5 w.heap.size 30 _ 0 1 2 3 (.int .i64 0) (.int .i64 0) (.int .i64 0) (.string ⟨#[]⟩) k1 (by decide) (by decide) (by decide) (by decide)
              have f0 := cell_of (k := 0) h4.here rfl
              have f1 := cell_of (k := 1) h4.here rfl
              have f2 := cell_of (k := 2) h4.here rfl
              have f3 := cell_of (k := 3) h4.here rfl
              have HB5 := Lib.hid (h4.below w.heap.size w (Nat.le_refl _) k3)
              clear hb5 k1 k2 k3 h4
              go_wp2_with fail
              refine bodyPost_ret (v := .tuple #[.agg #[.int .i64 0, .int .i64 0, .int .i64 0, .string ⟨#[]⟩], .int .i64 0]) (by simp [results, Try.results22, go_sem, f0, f1, f2, f3]) rfl ⟨?_, HB5.out⟩
              rw [HZ.out]; rfl
          | true =>
            have HR2 : Hid (∀ W : World, Calls Try.prog 16 #[.agg #[.int .i64 (2), .int .i64 (tn), .int .i64 ((q : Nat)), .string ⟨#[]⟩]] W fun e w' => e = .returned (.bool true) ∧ Below W.heap.size W w') := Lib.hid fun W => by have := HR9.out W; rw [hr] at this; exact this
            have HZ : Hid (R = (⟨2, tn, (q : Nat), []⟩, 1)) := Lib.hid (by have := HRL.out; rw [hr, hnn] at this; exact this)
            clear hr
            go_enter Try.func22, Try.ntmps22
            go_upto_region 18 with (fail)
            go_region_with (first
                | (go_at_call 12; refine (UN.out _).mono ?_; rintro e w2 ⟨rfl, rfl⟩)
                | (go_at_call 10; refine NB.out.mono ?_; rintro e w2 ⟨rfl, rfl⟩))
            all_goals
              go_wp2_with fail
              refine (HR2.out _).mono ?_
              rintro e w5 ⟨rfl, hb5⟩
              obtain ⟨k1, k2, k3, k4⟩ := after_drawn hb5 YY.out.1 YY.out.2.1 YY.out.2.2
              have e1 : w5.cell? ⟨w.heap.size + 1, 0, none⟩ = some (.int .i64 (2)) := cell_of k2 rfl
              have e2 : w5.cell? ⟨w.heap.size + 1, 1, none⟩ = some (.int .i64 (tn)) := cell_of k2 rfl
              have e3 : w5.cell? ⟨w.heap.size + 1, 2, none⟩ = some (.int .i64 ((q : Nat))) := cell_of k2 rfl
              have e4 : w5.cell? ⟨w.heap.size + 1, 3, none⟩ = some (.string ⟨#[]⟩) := cell_of k2 rfl
              obtain ⟨x1, x2, x3, x4, v0, v1, v2, v3, ⟨p0, q0, r0⟩, ⟨p1, q1, r1⟩, ⟨p2, q2, r2⟩, ⟨p3, q3, r3⟩, h4⟩ := four_store w5 w.heap.size 30 _ 0 1 2 3 (.int .i64 (2)) (.int .i64 (tn)) (.int .i64 ((q : Nat))) (.string ⟨#[]⟩) k1 (by decide) (by decide) (by decide) (by decide)
              have f0 : x4.cell? ⟨w.heap.size, 0, none⟩ = some (.int .i64 (2)) := cell_of h4.here rfl
              have f1 : x4.cell? ⟨w.heap.size, 1, none⟩ = some (.int .i64 (tn)) := cell_of h4.here rfl
              have f2 : x4.cell? ⟨w.heap.size, 2, none⟩ = some (.int .i64 ((q : Nat))) := cell_of h4.here rfl
              have f3 : x4.cell? ⟨w.heap.size, 3, none⟩ = some (.string ⟨#[]⟩) := cell_of h4.here rfl
              have HB5 := Lib.hid (h4.below w.heap.size w (Nat.le_refl _) k3)
              clear hb5 k1 k2 k3 h4
              go_wp2_with fail
              refine bodyPost_ret (v := .tuple #[.agg #[.int .i64 (2), .int .i64 (tn), .int .i64 ((q : Nat)), .string ⟨#[]⟩], .int .i64 ((1 : Nat) : Int)]) (by simp [results, Try.results22, go_sem, f0, f1, f2, f3]) rfl ⟨?_, HB5.out⟩
              rw [HZ.out]; rfl
        · have z9 : (t.kind == 9) = false := by rw [beq_eq_false_iff_ne]; exact k9
          by_cases k1 : t.kind = 1
          · have := refRead9_w t r n cap w (some ⟨b, o, none⟩) HN.out hnm HTT.out HXX.out k1; rw [HRE.out] at this; exact this
          · have z1 : (t.kind == 1) = false := by rw [beq_eq_false_iff_ne]; exact k1
            have hv : (zeroV, t :: r) = ((⟨vk, vn, vd, vx⟩ : Val), l2) := by rw [← HV.out]; unfold rawV; dsimp only; rw [if_neg k7, if_neg k8, if_neg k9, if_neg k1]
            injection hv with hv1 hv2
            injection hv1 with e1 e2 e3 e4
            subst e1 e2 e3 e4
            have HR2 : Hid (∀ W : World, Calls Try.prog 16 #[.agg #[.int .i64 0, .int .i64 t.n, .int .i64 0, .string ⟨#[]⟩]] W fun e w' => e = .returned (.bool false) ∧ Below W.heap.size W w') := Lib.hid fun W => refRight9_any 0 t.n 0 [] W (Nat.zero_le _)
            have HZ : Hid (R = (zeroV, 0)) := Lib.hid HRL.out
            obtain ⟨tn, htn⟩ : ∃ tn, t.n = tn := ⟨_, rfl⟩
            rw [htn] at d3 HR2
            generalize t.kind = tk at *
            clear k7 k8 k9 k1 hv2 htn HV HTT
            go_enter Try.func22, Try.ntmps22
            go_wp2_with fail
            refine (HR2.out _).mono ?_
            rintro e w5 ⟨rfl, hb5⟩
            obtain ⟨k1, k2, k3, k4⟩ := two_blocks w w5 (.cells #[.int .i64 0, .int .i64 0, .int .i64 0, .string ⟨#[]⟩] 30) (.cells #[.int .i64 0, .int .i64 tn, .int .i64 0, .string ⟨#[]⟩] 30) hb5
            obtain ⟨x1, x2, x3, x4, v0, v1, v2, v3, ⟨p0, q0, r0⟩, ⟨p1, q1, r1⟩, ⟨p2, q2, r2⟩, ⟨p3, q3, r3⟩, h4⟩ := four_store w5 w.heap.size 30 _ 0 1 2 3 (.int .i64 0) (.int .i64 0) (.int .i64 0) (.string ⟨#[]⟩) k1 (by simp) (by simp) (by simp) (by simp)
            have f0 := cell_of (k := 0) h4.here rfl
            have f1 := cell_of (k := 1) h4.here rfl
            have f2 := cell_of (k := 2) h4.here rfl
            have f3 := cell_of (k := 3) h4.here rfl
            have HB5 := Lib.hid (h4.below w.heap.size w (Nat.le_refl _) k3)
            clear hb5 k1 k2 k3 h4
            go_wp2_with fail
            refine bodyPost_ret (v := .tuple #[.agg #[.int .i64 0, .int .i64 0, .int .i64 0, .string ⟨#[]⟩], .int .i64 0]) (by simp [results, Try.results22, go_sem, f0, f1, f2, f3]) rfl ⟨?_, HB5.out⟩
            rw [HZ.out]; rfl
end Go.Proofs.Ytppnpdjbmhbimaa
