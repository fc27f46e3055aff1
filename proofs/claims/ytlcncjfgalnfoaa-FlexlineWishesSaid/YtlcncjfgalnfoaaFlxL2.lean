/- Layer 21: without factors each item has its wish. -/
import Derived.Test.YtlcncjfgalnfoaaFlxR1
import Derived.Test.YtlcncjfgalnfoaaFlxQb
namespace Go.Proofs.Ytlcncjfgalnfoaa
open Go.RowKit FixM ShaD ShaM Go.Sort
set_option linter.unusedVariables false

/-- an item without factors -/
def noF (t : It) : It := ⟨t.b, t.l, t.m, t.g, t.i, 0, 0⟩
theorem own_items {w0 w : World} {B n : Nat} {v : Value} {L : Nat → It} (h : w.ownsRow B 34 7 v n (itcs L n)) (hn : n = 0 → v = .slice none 0 0) : ∃ ra rc, v = .slice ra n rc ∧ ItA w ra n L := by
  by_cases h0 : n = 0
  · exact ⟨none, 0, by rw [hn h0, h0], Or.inl h0⟩
  · obtain ⟨g, c, hv, _, _⟩ := h.form (by omega)
    have ho := h
    rw [hv] at ho
    have hg := World.ownsRow.lt ho g rfl
    refine ⟨_, c, hv, Or.inr ⟨g, 0, rfl, hg.2, fun i hi => ?_⟩⟩
    have key : ∀ j, j < 7 → w.cell? ⟨g, i * 7 + j, none⟩ = (itc (L i))[j]? := fun j hj => by
      rw [ho.cellAt _ (by omega), itcs_get L j hj i n hi]
    rw [Nat.zero_add]
    exact ⟨key 0 (by omega), key 1 (by omega), key 2 (by omega), key 3 (by omega), key 4 (by omega), key 5 (by omega), key 6 (by omega)⟩

set_option maxRecDepth 100000 in
set_option maxHeartbeats 4000000 in
theorem FlexlineWishes_walk (a : Option Addr) (n cap : Nat) (L0 : Nat → It) (room : Int) (w : World) (hA : ItA w a n L0) :
    Calls Try.prog 4 #[.slice a n cap, .int .i64 room] w fun e w' => e = .returned (.bool true) ∧ Below w.heap.size w w' := by
  have F := Lib.hid (few21_any a n cap w)
  by_cases hn : n ≤ 60
  · obtain ⟨L, hL⟩ : ∃ L : Nat → It, ∀ i, L i = noF (L0 i) := ⟨fun i => noF (L0 i), fun _ => rfl⟩
    have hw0 := resolveF_wish (fun i => hI (L i)) (H room) n (fun i => by rw [hL i]; exact ⟨(by decide : WT 0 = 0), (by decide : WT 0 = 0)⟩)
    have hwe : ∀ i, wsh (hI (L i)) = wsh (hI (L0 i)) := fun i => by rw [hL i]; rfl
    have RC : ∀ ra rc W, ItA W ra n L → Calls Try.prog 11 #[.slice ra n rc, .int .i64 room] W fun e w' => e = .returned (.tuple #[.slice (some ⟨W.heap.size, 0, none⟩) n n, .int .i64 0]) ∧ Below W.heap.size W w' ∧ Row w' W.heap.size n (fun i => wsh (hI (L0 i))) := fun ra rc W hW => by
      refine (Resolve_any ra n rc L (fun i => hI (L i)) room W (by omega) hW (fun _ => rfl)).mono ?_
      rintro e w' ⟨rfl, hb, hr⟩
      exact ⟨by rw [hw0.1]; rfl, hb, hr.ext (fun i hi => by rw [hw0.2 i hi, hwe i])⟩
    rw [decide_eq_true hn] at F
    have HRC := Lib.hid RC
    have HA := Lib.hid hA
    have HLL := Lib.hid hL
    have HO0 : Hid (w.ownsRow w.heap.size 34 7 (.slice none 0 0) 0 (itcs L 0)) := ⟨rfl, Or.inl ⟨rfl, rfl⟩⟩
    clear hA RC hw0 hwe hL
    go_enter Try.func4, Try.ntmps4
    go_wp2_with fail
    refine F.out.mono ?_
    rintro e w' ⟨rfl, rfl⟩
    go_wp2_with fail
    go_loopw [5, 6] (fun vo vi wr => ∃ (k : Nat) (y : Value), vo = y ∧ vi = .int .i64 k ∧ k ≤ n ∧ Hid (Below w.heap.size w wr) ∧ Hid (wr.ownsRow w.heap.size 34 7 y k (itcs L k)) ∧ Hid (k = 0 → y = .slice none 0 0)) (fun _ vi _ => n - (intOf vi).toNat)
    case atStart => exact ⟨0, _, rfl, rfl, by omega, Below.refl _ _, HO0, fun _ => rfl⟩
    case round =>
      obtain ⟨k, vo, hvo, rfl, hk, HB, HO, HN⟩ := hrel
      have hvo2 := hvo.symm
      subst hvo2
      by_cases hlt : k < n
      · have hltz : (k : Int) < (n : Int) := by omega
        rcases HA.out.below HB.out with h0 | ⟨b, off, ha, hbl, hI⟩
        · omega
        · subst ha
          have S7 := hI k hlt
          have htl := HLL.out k
          obtain ⟨t, ht⟩ : ∃ t, L0 k = t := ⟨_, rfl⟩
          rw [ht] at S7 htl
          obtain ⟨q0, q1, q2, q3, q4, q5, q6⟩ := S7
          have HTL := Lib.hid htl
          clear hI ht htl
          go_upto_region 9 with fail
          clear q0 q1 q2 q3 q4 q5 q6
          have hb2 := below_one21 wr (.cells #[.int .i64 t.b, .int .i64 t.l, .int .i64 t.m, .int .i64 t.g, .int .i64 t.i, .int .i64 0, .int .i64 0] 34)
          have hx2 := heap_alloc_new wr (.cells #[.int .i64 t.b, .int .i64 t.l, .int .i64 t.m, .int .i64 t.g, .int .i64 t.i, .int .i64 0, .int .i64 0] 34)
          obtain ⟨X, hX⟩ : ∃ X, wr.heap.size = X := ⟨_, rfl⟩
          generalize hw2 : wr.alloc (.cells #[.int .i64 t.b, .int .i64 t.l, .int .i64 t.m, .int .i64 t.g, .int .i64 t.i, .int .i64 0, .int .i64 0] 34) = w2 at hb2 hx2 ⊢
          rw [hX] at hx2 ⊢
          have d0 : w2.cell? ⟨X, 0, none⟩ = some (.int .i64 t.b) := cell_ofF hx2 rfl
          have d1 : w2.cell? ⟨X, 1, none⟩ = some (.int .i64 t.l) := cell_ofF hx2 rfl
          have d2 : w2.cell? ⟨X, 2, none⟩ = some (.int .i64 t.m) := cell_ofF hx2 rfl
          have d3 : w2.cell? ⟨X, 3, none⟩ = some (.int .i64 t.g) := cell_ofF hx2 rfl
          have d4 : w2.cell? ⟨X, 4, none⟩ = some (.int .i64 t.i) := cell_ofF hx2 rfl
          have d5 : w2.cell? ⟨X, 5, none⟩ = some (.int .i64 0) := cell_ofF hx2 rfl
          have d6 : w2.cell? ⟨X, 6, none⟩ = some (.int .i64 0) := cell_ofF hx2 rfl
          have hB2 := HB.out.trans (hb2.mono HB.out.size)
          have hO2 := rowA_below HO.out hb2
          obtain ⟨g5, c5, w5, hr5, ho5, hg5⟩ := putIt w.heap.size vo L k w2 hB2.size (by omega) hO2
          rw [HTL.out] at hr5 hg5
          have hr6 : (Builtin.append_ #[22, 22] 22 #[vo, .slice (some ⟨w2.heap.size, 0, none⟩) 1 1]).run Try.prog (w2.alloc (.cells #[.int .i64 t.b, .int .i64 t.l, .int .i64 t.m, .int .i64 t.g, .int .i64 t.i, .int .i64 0, .int .i64 0] 34)) = .ok (.slice (some ⟨g5, 0, none⟩) (k + 1) c5) w5 := hr5
          have hb5 : Below w.heap.size w w5 := (hB2.alloc hB2.size _).grown hg5 (by have := hB2.size; simp; omega) (fun q hq => (World.ownsRow.lt hO2 q hq).1)
          have HR6 := Lib.hid hr6
          have HB5 := Lib.hid hb5
          have HO5 := Lib.hid ho5
          have HN5 : Hid (k + 1 = 0 → Value.slice (some ⟨g5, 0, none⟩) (k + 1) c5 = .slice none 0 0) := fun h => by omega
          clear hb2 hx2 hB2 hO2 hr5 hr6 hg5 hb5 ho5 HO HN HB hw2 hX
          go_wp2_with (at_builtin; refine wpList_append_runF rfl _ _ 22 rfl _ _ _ _ rfl rfl HR6.out ?_)
          go_roundw
          case rel => exact ⟨k + 1, _, rfl, by go_num, by omega, HB5, HO5, HN5⟩
          case measure => simp [intOf]; omega
      · have hkn : n = k := by omega
        subst hkn
        obtain ⟨ra, rc, rfl, hit⟩ := own_items (w0 := w) HO.out HN.out
        have R := Lib.hid (HRC.out ra rc wr hit)
        clear hit HO HN HRC
        go_wp2_with fail
        refine R.out.mono ?_
        rintro e w1 ⟨rfl, hb1, hr1⟩
        obtain ⟨S, hS⟩ : ∃ S, wr.heap.size = S := ⟨_, rfl⟩
        rw [hS] at hr1 ⊢
        have HB1 := Lib.hid (HB.out.trans (hb1.mono HB.out.size))
        have HR1 := Lib.hid hr1
        clear hb1 hr1 R hS HB hlt
        go_wp2_with fail
        go_loopw [10] (fun vi wr => ∃ k : Nat, vi = .int .i64 k ∧ k ≤ n ∧ Hid (Below w.heap.size w wr) ∧ Hid (Row wr S n (fun i => wsh (hI (L0 i))))) (fun vi _ => n - (intOf vi).toNat)
        case atStart => exact ⟨0, rfl, by omega, HB1, HR1⟩
        case round =>
          clear HB1 HR1
          obtain ⟨k, rfl, hk2, HB, HR⟩ := hrel
          by_cases hlt : k < n
          · have hltz : (k : Int) < (n : Int) := by omega
            have OF := Lib.hid (of21_any a n cap L0 wr (by omega) (HA.out.below HB.out))
            unfold OfIs at OF
            have HL := Lib.hid (fun W => refHeld21_any (L0 k) W)
            have WL := Lib.hid (fun W => refWish21_any (hI (L0 k)) W)
            have CW := Lib.hid (fun W => Wish21_any (L0 k) W)
            have hrk : ∀ W, Row W S n (fun i => wsh (hI (L0 i))) → W.cell? ⟨S, k, none⟩ = some (.int .i64 (wsh (hI (L0 k)))) := fun W h => (h k hlt).1
            obtain ⟨x, hx⟩ : ∃ x, wsh (hI (L0 k)) = x := ⟨_, rfl⟩
            rw [hx] at WL CW hrk
            obtain ⟨t, ht⟩ : ∃ t, L0 k = t := ⟨_, rfl⟩
            rw [ht] at HL WL CW
            have HT := Lib.hid ht
            have HRK := Lib.hid hrk
            clear hx ht hrk
            go_wp2_with fail
            refine OF.out.mono ?_
            rintro e w5 ⟨rb, rc2, rfl, hb5, hit⟩
            obtain ⟨g, hra, _, hg1, hI⟩ := hit (by omega)
            subst hra
            have S7 := hI k hlt
            rw [Nat.zero_add, HT.out] at S7
            obtain ⟨q0, q1, q2, q3, q4, q5, q6⟩ := S7
            have HB5 := Lib.hid (HB.out.trans (hb5.mono HB.out.size))
            have HR5 := Lib.hid (HR.out.below hb5 (Row_lt HR.out (by omega)))
            clear hb5 hit hI
            go_wp2_with fail
            refine (HL.out _).mono ?_
            rintro e w6 ⟨rfl, hb6⟩
            have HB6 := Lib.hid (HB5.out.trans (hb6.mono HB5.out.size))
            have HR6 := Lib.hid (HR5.out.below hb6 (Row_lt HR5.out (by omega)))
            clear hb6 q0 q1 q2 q3 q4 q5 q6
            go_wp2_with fail
            refine (WL.out _).mono ?_
            rintro e w7 ⟨rfl, hb7⟩
            have HB7 := Lib.hid (HB6.out.trans (hb7.mono HB6.out.size))
            have HR7 := Lib.hid (HR6.out.below hb7 (Row_lt HR6.out (by omega)))
            clear hb7
            rcases HA.out.below HB7.out with h0 | ⟨b, off, ha, hbl, hI⟩
            · omega
            · subst ha
              have S7 := hI k hlt
              rw [HT.out] at S7
              obtain ⟨q0, q1, q2, q3, q4, q5, q6⟩ := S7
              clear hI
              go_wp2_with fail
              refine (CW.out _).mono ?_
              rintro e w8 ⟨rfl, hb8⟩
              have HB8 := Lib.hid (HB7.out.trans (hb8.mono HB7.out.size))
              have HR8 := Lib.hid (HR7.out.below hb8 (Row_lt HR7.out (by omega)))
              have c8 := HRK.out w8 HR8.out
              clear hb8 q0 q1 q2 q3 q4 q5 q6
              go_wp2_with fail
              go_roundw
              case rel => exact ⟨k + 1, by go_num, by omega, HB8, HR8⟩
              case measure => simp [intOf]; omega
          · have hkz : (n : Int) ≤ (k : Int) := by omega
            go_wp2_with fail
            refine (known21_any wr).mono ?_
            rintro e w2 ⟨rfl, hb2⟩
            have HB2 := Lib.hid (HB.out.trans (hb2.mono HB.out.size))
            clear hb2
            go_wp2_with fail
            go_ret
            exact ⟨rfl, HB2.out⟩
  · rw [decide_eq_false hn] at F
    clear hA
    go_enter Try.func4, Try.ntmps4
    go_wp2_with fail
    refine F.out.mono ?_
    rintro e w' ⟨rfl, rfl⟩
    go_wp2_with fail
    refine (known21_any w).mono ?_
    rintro e w2 ⟨rfl, hb2⟩
    have HB2 := Lib.hid hb2
    clear hb2
    go_wp2_with fail
    go_ret
    exact ⟨rfl, HB2.out⟩
end Go.Proofs.Ytlcncjfgalnfoaa
