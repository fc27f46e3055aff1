/- Joined texts: FixW6 FixW7. -/
import Derived.Test.YtipmgoejdkpknaaFixWa
import Derived.Test.YtipmgoejdkpknaaFixAll
namespace Go.Proofs.Ytipmgoejdkpknaa
open Go.RowKit FixM FixP

/-- the array from behind on -/
def bufA (t : List UInt8) : Array Value := (List.replicate (12 - t.length) (Value.int .u8 0) ++ t.map (fun c => Value.int .u8 c.toNat)).toArray
theorem bufA_at (t : List UInt8) (i : Nat) (h : i < 12 - t.length) : (bufA t)[i]? = some (.int .u8 0) := by
  unfold bufA; simp [List.getElem?_append, h]
theorem bufA_put (t : List UInt8) (c : UInt8) (h : t.length < 12) : (bufA t).setIfInBounds (11 - t.length) (.int .u8 c.toNat) = bufA (c :: t) := by
  unfold bufA
  simp only [List.setIfInBounds_toArray, List.length_cons, List.map_cons]
  congr 1
  obtain ⟨k, hk⟩ : ∃ k, 12 - t.length = k + 1 := ⟨11 - t.length, by omega⟩
  have e1 : 11 - t.length = k := by omega
  have e2 : 12 - (t.length + 1) = k := by omega
  rw [hk, e1, e2, List.replicate_succ', List.append_assoc, List.set_append_right _ _ (by simp)]
  simp

/-- the world in which 'Print' has made its variables: the array, from behind on, and where it begins -/
@[reducible] def PRW (w : World) (t : List UInt8) : World :=
  (w.alloc (.cells (bufA t) 69)).alloc (.cells #[.int .i64 (12 - (t.length : Int))] 3)

set_option maxRecDepth 100000 in
set_option maxHeartbeats 400000 in
theorem put_any (w : World) (t : List UInt8) (ci : Int) (c : UInt8) (hci : ci = c.toNat) (ht : t.length < 12) :
    Calls Try.prog 58 #[.int .u8 ci, .pointer (some ⟨w.heap.size + 1, 0, none⟩), .pointer (some ⟨w.heap.size, 0, none⟩)] (PRW w t) fun e w' => e = .returned (.tuple #[]) ∧ PRW w (c :: t) = w' := by
  subst hci
  have hat := bufA_at t (11 - t.length) (by omega)
  have hput := bufA_put t c ht
  have e1 : (12 - (t.length : Int) - 1) = 11 - (t.length : Int) := by omega
  have e2 : (11 - (t.length : Int)).toNat = 11 - t.length := by omega
  have g0 : (0 : Int) ≤ 11 - (t.length : Int) := by omega
  have g1 : (11 - (t.length : Int)) < 12 := by omega
  have HP := Lib.hid hput
  clear hput
  go_enter Try.func58, Try.ntmps58
  go_wp2_with fail
  go_end0
  refine ⟨rfl, ?_⟩
  rw [HP.out]
  have e3 : (12 - (((c :: t).length : Nat) : Int)) = 11 - (t.length : Int) := by simp; omega
  unfold PRW
  rw [e3]

theorem bufA_get (t : List UInt8) (j : Nat) (h : j < t.length) : (bufA t)[12 - t.length + j]? = some (.int .u8 (t[j].toNat : Int)) := by
  unfold bufA
  simp [h]

theorem slice_buf (W : World) (b : Nat) (x : Int) (n : Nat) (hx : x = 12 - (n : Int)) (h1 : 1 ≤ n) (h2 : n ≤ 12) :
    (Instr.sliceAt 69 (.pointer (some ⟨b, 0, none⟩)) (some (.int .i64 x)) none none).run Try.prog W = .ok (.slice (some ⟨b, 12 - n, none⟩) n n) W := by
  have hl : Try.prog.arrayLen 69 = 12 := by kernel_rfl
  have he : Try.prog.elem 69 = 5 := by kernel_rfl
  have hs : ∀ w, (sizeOf 5).run Try.prog w = .ok 1 w := fun _ => by kernel_rfl
  rw [run_sliceAt_array_l W _ _ (by kernel_rfl) .i64 x (by omega) (by rw [hl]; omega), hl, he, hs]
  have e : x.toNat = 12 - n := by omega
  simp only [Result.andThen, slicedAt, e]
  rw [if_neg (by omega)]
  have e2 : 12 - (12 - n) = n := by omega
  rw [e2]
  simp [Addr.add]
  omega

theorem text_buf (w : World) (t : List UInt8) (o n c : Nat) (ho : o = 12 - t.length) (hn : n = t.length) :
    (convert 43 9 (.slice (some ⟨w.heap.size, o, none⟩) n c)).run Try.prog (PRW w t) = .ok (.string ⟨t.toArray⟩) (PRW w t) := by
  subst hn ho
  refine run_convert_bytes_back (PRW w t) _ _ 5 ⟨w.heap.size, 12 - t.length, none⟩ c t Try.underlying43 Try.underlying5 Try.underlying9 ?_
  intro j hj
  have ha : (⟨w.heap.size, 12 - t.length, none⟩ : Addr).add j = ⟨w.heap.size, 12 - t.length + j, none⟩ := by simp [Addr.add]
  rw [ha]
  unfold PRW
  rw [World.cell?_alloc_past _ _ _ (by simp), World.cell?_alloc_at _ _ _ _ rfl]
  exact bufA_get t j hj

end Go.Proofs.Ytipmgoejdkpknaa

namespace Go.Proofs.Ytipmgoejdkpknaa
open Go.RowKit FixM FixP

set_option maxRecDepth 100000 in
set_option maxHeartbeats 1000000 in
theorem Print_neg (n : Int) (w : World) (hneg : H n < 0) :
    Calls Try.prog 31 #[.int .i64 n] w fun e w' => e = .returned (.string ⟨(prn (H n)).toArray⟩) ∧ Grown w w' ∧ Below w.heap.size w w' := by
  have hmf : ∀ (fn : Fn) (first cap : Array Value) (w : World), (Instr.makeFunc fn first cap).run Try.prog w = .ok (.func fn first cap) w := fun _ _ _ _ => rfl
  have hH := H_bd n
  obtain ⟨a, ha⟩ : ∃ a, a = - H n := ⟨_, rfl⟩
  have ha0 : 0 ≤ a := by omega
  have ha1 : a ≤ 1073741824 := by omega
  have HA := Lib.hid ha
  go_enter Try.func31, Try.ntmps31
  go_wp2_with fail
  refine (Hold_any n _).mono ?_
  rintro e w' ⟨rfl, rfl⟩
  clear ha
  go_wp2_with fail
  rw [← HA.out]
  go_loopw [3, 15] (fun v i wr => ∃ k : Nat, k ≤ 3 ∧ i = .int .i64 k ∧ v = .int .i64 (pr1s a k).1 ∧ wr = PRW w (pr1s a k).2) (fun _ i _ => 3 - (intOf i).toNat)
  case atStart => exact ⟨0, by omega, rfl, rfl, rfl⟩
  case round =>
    obtain ⟨k, hk, rfl, rfl, rfl⟩ := hrel
    have hbd := pr1s_bd ⟨ha0, ha1⟩ k
    have hlen := pr1s_len a k
    have hstep : pr1s a (k + 1) = pr1 (pr1s a k) := rfl
    obtain ⟨st, hst⟩ : ∃ st, st = pr1s a k := ⟨_, rfl⟩
    rw [← hst] at hbd hlen hstep ⊢
    obtain ⟨l, t⟩ := st
    have l0 : 0 ≤ l := hbd.1
    have l1 : l ≤ 1073741824 := hbd.2
    have tl : t.length ≤ k := hlen
    have HST := Lib.hid hst
    have HSTEP := Lib.hid hstep
    clear hbd hlen hst hstep
    by_cases h3 : k < 3
    · by_cases hl : l % 10 = 0
      · have bl : (l % 10 != 0) = false := by simp [hl]
        by_cases ht : t = []
        · have hp : pr1 (l, t) = (l / 10, t) := by unfold pr1; simp [hl, ht]
          have HP := Lib.hid hp
          have tl0 : (12 : Int) ≤ 12 - (t.length : Int) := by rw [ht]; simp
          have HT := Lib.hid ht
          clear hp hl ht
          go_wp2_with fail
          go_roundw
          case rel => exact ⟨k + 1, by omega, by go_num, by rw [HSTEP.out, HP.out], by rw [HSTEP.out, HP.out]⟩
          case measure => simp [intOf]; omega
        · have hp : pr1 (l, t) = (l / 10, dgc (l % 10) :: t) := by unfold pr1; simp [ht]
          have HP := Lib.hid hp
          have tl0 : 12 - (t.length : Int) < 12 := by have := List.length_pos_iff.2 ht; omega
          have hd0 : 0 ≤ l % 10 := by omega
          have hd9 : l % 10 ≤ 9 := by omega
          clear hp hl ht
          go_wp2_with fail
          refine (put_any w t _ (dgc (l % 10)) (dgc_nat hd0 hd9).symm (by omega)).mono ?_
          rintro e w' ⟨rfl, rfl⟩
          go_wp2_with fail
          go_roundw
          case rel => exact ⟨k + 1, by omega, by go_num, by rw [HSTEP.out, HP.out], by rw [HSTEP.out, HP.out]⟩
          case measure => simp [intOf]; omega
      · have bl : (l % 10 != 0) = true := by simp [hl]
        have hp : pr1 (l, t) = (l / 10, dgc (l % 10) :: t) := by unfold pr1; simp [hl]
        have HP := Lib.hid hp
        have hd0 : 0 ≤ l % 10 := by omega
        have hd9 : l % 10 ≤ 9 := by omega
        clear hp hl
        go_wp2_with fail
        refine (put_any w t _ (dgc (l % 10)) (dgc_nat hd0 hd9).symm (by omega)).mono ?_
        rintro e w' ⟨rfl, rfl⟩
        go_wp2_with fail
        go_roundw
        case rel => exact ⟨k + 1, by omega, by go_num, by rw [HSTEP.out, HP.out], by rw [HSTEP.out, HP.out]⟩
        case measure => simp [intOf]; omega
    · have hk3 : k = 3 := by omega
      have HK := Lib.hid hk3
      by_cases ht : t = []
      · have tl0 : (12 : Int) ≤ 12 - (t.length : Int) := by rw [ht]; simp
        have tl3 : t.length ≤ 3 := by omega
        have HT := Lib.hid ht
        clear hk3 ht
        go_wp2_with fail
        obtain ⟨tp, htp⟩ : ∃ x, x = t := ⟨_, rfl⟩
        rw [← htp]
        have tpl : tp.length ≤ 4 := by rw [htp]; omega
        have htpp : tp = prp t := by rw [htp]; unfold prp; rw [if_pos HT.out]
        have HTP := Lib.hid htpp
        clear htp htpp
        go_loopw [3, 37] (fun v i wr => ∃ j : Nat, j ≤ 7 ∧ i = .int .i64 j ∧ v = .int .i64 (pr2s (l, tp) j).1 ∧ wr = PRW w (pr2s (l, tp) j).2) (fun _ i _ => 7 - (intOf i).toNat)
        case atStart => exact ⟨0, by omega, rfl, rfl, rfl⟩
        case round =>
          obtain ⟨j, hj, rfl, rfl, rfl⟩ := hrel
          have hbd := pr2s_bd (st := (l, tp)) ⟨l0, l1⟩ j
          have hlen := pr2s_len (l, tp) j
          have hstep : pr2s (l, tp) (j + 1) = pr2 (j == 0) (pr2s (l, tp) j) := rfl
          obtain ⟨st, hst⟩ : ∃ st, st = pr2s (l, tp) j := ⟨_, rfl⟩
          rw [← hst] at hbd hlen hstep ⊢
          obtain ⟨l2, t2⟩ := st
          have m0 : 0 ≤ l2 := hbd.1
          have m1 : l2 ≤ 1073741824 := hbd.2
          have tl2 : t2.length ≤ 4 + j := by have h : t2.length ≤ tp.length + j := hlen; omega
          have HST2 := Lib.hid hst
          have HSTEP2 := Lib.hid hstep
          clear hbd hlen hst hstep
          by_cases h7 : j < 7
          · have hd0 : 0 ≤ l2 % 10 := by omega
            have hd9 : l2 % 10 ≤ 9 := by omega
            by_cases hl : 0 < l2
            · have hp : pr2 (j == 0) (l2, t2) = (l2 / 10, dgc (l2 % 10) :: t2) := by unfold pr2; simp [hl]
              have HP2 := Lib.hid hp
              clear hp
              go_wp2_with fail
              refine (put_any w t2 _ (dgc (l2 % 10)) (dgc_nat hd0 hd9).symm (by omega)).mono ?_
              rintro e w' ⟨rfl, rfl⟩
              go_wp2_with fail
              go_roundw
              case rel => exact ⟨j + 1, by omega, by go_num, by rw [HSTEP2.out, HP2.out], by rw [HSTEP2.out, HP2.out]⟩
              case measure => simp [intOf]; omega
            · by_cases hj0 : j = 0
              · have hp : pr2 (j == 0) (l2, t2) = (l2 / 10, dgc (l2 % 10) :: t2) := by unfold pr2; simp [hj0]
                have HP2 := Lib.hid hp
                have bj : ((j : Int) == 0) = true := by simp [hj0]
                clear hp hj0
                go_wp2_with fail
                refine (put_any w t2 _ (dgc (l2 % 10)) (dgc_nat hd0 hd9).symm (by omega)).mono ?_
                rintro e w' ⟨rfl, rfl⟩
                go_wp2_with fail
                go_roundw
                case rel => exact ⟨j + 1, by omega, by go_num, by rw [HSTEP2.out, HP2.out], by rw [HSTEP2.out, HP2.out]⟩
                case measure => simp [intOf]; omega
              · have hp : pr2 (j == 0) (l2, t2) = (l2 / 10, t2) := by unfold pr2; simp [hj0]; omega
                have HP2 := Lib.hid hp
                have bj : ((j : Int) == 0) = false := by simp; omega
                clear hp hj0
                go_wp2_with fail
                go_roundw
                case rel => exact ⟨j + 1, by omega, by go_num, by rw [HSTEP2.out, HP2.out], by rw [HSTEP2.out, HP2.out]⟩
                case measure => simp [intOf]; omega
          · have hj7 : j = 7 := by omega
            have hres : prt a = t2 := by
              have e3 := HST.out; have e4 := HST2.out
              have hk3 := HK.out
              rw [hk3] at e3; rw [hj7] at e4
              exact prt_eq e3 HTP.out e4
            have HRES := Lib.hid hres
            clear hj7 hres
            have hsl := slice_buf (PRW w (45 :: t2)) w.heap.size (12 - ((t2.length : Int) + 1)) (t2.length + 1) (by omega) (by omega) (by omega)
            have hcv := text_buf w (45 :: t2) (11 - t2.length) (t2.length + 1) (t2.length + 1) (by simp) (by simp)
            go_wp2_with fail
            refine (put_any w t2 45 45 rfl (by omega)).mono ?_
            rintro e w' ⟨rfl, rfl⟩
            go_wp2_with fail
            go_ret
            refine ⟨?_, ?_⟩
            · have e := HRES.out
              unfold prn
              rw [if_pos hneg, ← HA.out, e]
              rfl
            · exact ⟨((Grown.refl _).alloc _ _).alloc _ _, ((Below.refl _ _).alloc (by simp) _).alloc (by simp) _⟩
      · have tl0 : 12 - (t.length : Int) < 12 := by have := List.length_pos_iff.2 ht; omega
        have tl3 : t.length ≤ 3 := by omega
        have HT := Lib.hid ht
        clear hk3 ht
        go_wp2_with fail
        refine (put_any w t 46 46 rfl (by omega)).mono ?_
        rintro e w' ⟨rfl, rfl⟩
        go_wp2_with fail
        obtain ⟨tp, htp⟩ : ∃ x, x = (46 :: t : List UInt8) := ⟨_, rfl⟩
        rw [← htp]
        have tpl : tp.length ≤ 4 := by rw [htp]; simp; omega
        have htpp : tp = prp t := by rw [htp]; unfold prp; rw [if_neg HT.out]
        have HTP := Lib.hid htpp
        clear htp htpp
        go_loopw [3, 37] (fun v i wr => ∃ j : Nat, j ≤ 7 ∧ i = .int .i64 j ∧ v = .int .i64 (pr2s (l, tp) j).1 ∧ wr = PRW w (pr2s (l, tp) j).2) (fun _ i _ => 7 - (intOf i).toNat)
        case atStart => exact ⟨0, by omega, rfl, rfl, rfl⟩
        case round =>
          obtain ⟨j, hj, rfl, rfl, rfl⟩ := hrel
          have hbd := pr2s_bd (st := (l, tp)) ⟨l0, l1⟩ j
          have hlen := pr2s_len (l, tp) j
          have hstep : pr2s (l, tp) (j + 1) = pr2 (j == 0) (pr2s (l, tp) j) := rfl
          obtain ⟨st, hst⟩ : ∃ st, st = pr2s (l, tp) j := ⟨_, rfl⟩
          rw [← hst] at hbd hlen hstep ⊢
          obtain ⟨l2, t2⟩ := st
          have m0 : 0 ≤ l2 := hbd.1
          have m1 : l2 ≤ 1073741824 := hbd.2
          have tl2 : t2.length ≤ 4 + j := by have h : t2.length ≤ tp.length + j := hlen; omega
          have HST2 := Lib.hid hst
          have HSTEP2 := Lib.hid hstep
          clear hbd hlen hst hstep
          by_cases h7 : j < 7
          · have hd0 : 0 ≤ l2 % 10 := by omega
            have hd9 : l2 % 10 ≤ 9 := by omega
            by_cases hl : 0 < l2
            · have hp : pr2 (j == 0) (l2, t2) = (l2 / 10, dgc (l2 % 10) :: t2) := by unfold pr2; simp [hl]
              have HP2 := Lib.hid hp
              clear hp
              go_wp2_with fail
              refine (put_any w t2 _ (dgc (l2 % 10)) (dgc_nat hd0 hd9).symm (by omega)).mono ?_
              rintro e w' ⟨rfl, rfl⟩
              go_wp2_with fail
              go_roundw
              case rel => exact ⟨j + 1, by omega, by go_num, by rw [HSTEP2.out, HP2.out], by rw [HSTEP2.out, HP2.out]⟩
              case measure => simp [intOf]; omega
            · by_cases hj0 : j = 0
              · have hp : pr2 (j == 0) (l2, t2) = (l2 / 10, dgc (l2 % 10) :: t2) := by unfold pr2; simp [hj0]
                have HP2 := Lib.hid hp
                have bj : ((j : Int) == 0) = true := by simp [hj0]
                clear hp hj0
                go_wp2_with fail
                refine (put_any w t2 _ (dgc (l2 % 10)) (dgc_nat hd0 hd9).symm (by omega)).mono ?_
                rintro e w' ⟨rfl, rfl⟩
                go_wp2_with fail
                go_roundw
                case rel => exact ⟨j + 1, by omega, by go_num, by rw [HSTEP2.out, HP2.out], by rw [HSTEP2.out, HP2.out]⟩
                case measure => simp [intOf]; omega
              · have hp : pr2 (j == 0) (l2, t2) = (l2 / 10, t2) := by unfold pr2; simp [hj0]; omega
                have HP2 := Lib.hid hp
                have bj : ((j : Int) == 0) = false := by simp; omega
                clear hp hj0
                go_wp2_with fail
                go_roundw
                case rel => exact ⟨j + 1, by omega, by go_num, by rw [HSTEP2.out, HP2.out], by rw [HSTEP2.out, HP2.out]⟩
                case measure => simp [intOf]; omega
          · have hj7 : j = 7 := by omega
            have hres : prt a = t2 := by
              have e3 := HST.out; have e4 := HST2.out
              have hk3 := HK.out
              rw [hk3] at e3; rw [hj7] at e4
              exact prt_eq e3 HTP.out e4
            have HRES := Lib.hid hres
            clear hj7 hres
            have hsl := slice_buf (PRW w (45 :: t2)) w.heap.size (12 - ((t2.length : Int) + 1)) (t2.length + 1) (by omega) (by omega) (by omega)
            have hcv := text_buf w (45 :: t2) (11 - t2.length) (t2.length + 1) (t2.length + 1) (by simp) (by simp)
            go_wp2_with fail
            refine (put_any w t2 45 45 rfl (by omega)).mono ?_
            rintro e w' ⟨rfl, rfl⟩
            go_wp2_with fail
            go_ret
            refine ⟨?_, ?_⟩
            · have e := HRES.out
              unfold prn
              rw [if_pos hneg, ← HA.out, e]
              rfl
            · exact ⟨((Grown.refl _).alloc _ _).alloc _ _, ((Below.refl _ _).alloc (by simp) _).alloc (by simp) _⟩
set_option maxRecDepth 100000 in
set_option maxHeartbeats 1000000 in
theorem Print_pos (n : Int) (w : World) (hneg : ¬ H n < 0) :
    Calls Try.prog 31 #[.int .i64 n] w fun e w' => e = .returned (.string ⟨(prn (H n)).toArray⟩) ∧ Grown w w' ∧ Below w.heap.size w w' := by
  have hmf : ∀ (fn : Fn) (first cap : Array Value) (w : World), (Instr.makeFunc fn first cap).run Try.prog w = .ok (.func fn first cap) w := fun _ _ _ _ => rfl
  have hH := H_bd n
  obtain ⟨a, ha⟩ : ∃ a, a = H n := ⟨_, rfl⟩
  have ha0 : 0 ≤ a := by omega
  have ha1 : a ≤ 1073741824 := by omega
  have HA := Lib.hid ha
  go_enter Try.func31, Try.ntmps31
  go_wp2_with fail
  refine (Hold_any n _).mono ?_
  rintro e w' ⟨rfl, rfl⟩
  clear ha
  go_wp2_with fail
  rw [← HA.out]
  go_loopw [3, 15] (fun v i wr => ∃ k : Nat, k ≤ 3 ∧ i = .int .i64 k ∧ v = .int .i64 (pr1s a k).1 ∧ wr = PRW w (pr1s a k).2) (fun _ i _ => 3 - (intOf i).toNat)
  case atStart => exact ⟨0, by omega, rfl, rfl, rfl⟩
  case round =>
    obtain ⟨k, hk, rfl, rfl, rfl⟩ := hrel
    have hbd := pr1s_bd ⟨ha0, ha1⟩ k
    have hlen := pr1s_len a k
    have hstep : pr1s a (k + 1) = pr1 (pr1s a k) := rfl
    obtain ⟨st, hst⟩ : ∃ st, st = pr1s a k := ⟨_, rfl⟩
    rw [← hst] at hbd hlen hstep ⊢
    obtain ⟨l, t⟩ := st
    have l0 : 0 ≤ l := hbd.1
    have l1 : l ≤ 1073741824 := hbd.2
    have tl : t.length ≤ k := hlen
    have HST := Lib.hid hst
    have HSTEP := Lib.hid hstep
    clear hbd hlen hst hstep
    by_cases h3 : k < 3
    · by_cases hl : l % 10 = 0
      · have bl : (l % 10 != 0) = false := by simp [hl]
        by_cases ht : t = []
        · have hp : pr1 (l, t) = (l / 10, t) := by unfold pr1; simp [hl, ht]
          have HP := Lib.hid hp
          have tl0 : (12 : Int) ≤ 12 - (t.length : Int) := by rw [ht]; simp
          have HT := Lib.hid ht
          clear hp hl ht
          go_wp2_with fail
          go_roundw
          case rel => exact ⟨k + 1, by omega, by go_num, by rw [HSTEP.out, HP.out], by rw [HSTEP.out, HP.out]⟩
          case measure => simp [intOf]; omega
        · have hp : pr1 (l, t) = (l / 10, dgc (l % 10) :: t) := by unfold pr1; simp [ht]
          have HP := Lib.hid hp
          have tl0 : 12 - (t.length : Int) < 12 := by have := List.length_pos_iff.2 ht; omega
          have hd0 : 0 ≤ l % 10 := by omega
          have hd9 : l % 10 ≤ 9 := by omega
          clear hp hl ht
          go_wp2_with fail
          refine (put_any w t _ (dgc (l % 10)) (dgc_nat hd0 hd9).symm (by omega)).mono ?_
          rintro e w' ⟨rfl, rfl⟩
          go_wp2_with fail
          go_roundw
          case rel => exact ⟨k + 1, by omega, by go_num, by rw [HSTEP.out, HP.out], by rw [HSTEP.out, HP.out]⟩
          case measure => simp [intOf]; omega
      · have bl : (l % 10 != 0) = true := by simp [hl]
        have hp : pr1 (l, t) = (l / 10, dgc (l % 10) :: t) := by unfold pr1; simp [hl]
        have HP := Lib.hid hp
        have hd0 : 0 ≤ l % 10 := by omega
        have hd9 : l % 10 ≤ 9 := by omega
        clear hp hl
        go_wp2_with fail
        refine (put_any w t _ (dgc (l % 10)) (dgc_nat hd0 hd9).symm (by omega)).mono ?_
        rintro e w' ⟨rfl, rfl⟩
        go_wp2_with fail
        go_roundw
        case rel => exact ⟨k + 1, by omega, by go_num, by rw [HSTEP.out, HP.out], by rw [HSTEP.out, HP.out]⟩
        case measure => simp [intOf]; omega
    · have hk3 : k = 3 := by omega
      have HK := Lib.hid hk3
      by_cases ht : t = []
      · have tl0 : (12 : Int) ≤ 12 - (t.length : Int) := by rw [ht]; simp
        have tl3 : t.length ≤ 3 := by omega
        have HT := Lib.hid ht
        clear hk3 ht
        go_wp2_with fail
        obtain ⟨tp, htp⟩ : ∃ x, x = t := ⟨_, rfl⟩
        rw [← htp]
        have tpl : tp.length ≤ 4 := by rw [htp]; omega
        have htpp : tp = prp t := by rw [htp]; unfold prp; rw [if_pos HT.out]
        have HTP := Lib.hid htpp
        clear htp htpp
        go_loopw [3, 37] (fun v i wr => ∃ j : Nat, j ≤ 7 ∧ i = .int .i64 j ∧ v = .int .i64 (pr2s (l, tp) j).1 ∧ wr = PRW w (pr2s (l, tp) j).2) (fun _ i _ => 7 - (intOf i).toNat)
        case atStart => exact ⟨0, by omega, rfl, rfl, rfl⟩
        case round =>
          obtain ⟨j, hj, rfl, rfl, rfl⟩ := hrel
          have hbd := pr2s_bd (st := (l, tp)) ⟨l0, l1⟩ j
          have hlen := pr2s_len (l, tp) j
          have hstep : pr2s (l, tp) (j + 1) = pr2 (j == 0) (pr2s (l, tp) j) := rfl
          obtain ⟨st, hst⟩ : ∃ st, st = pr2s (l, tp) j := ⟨_, rfl⟩
          rw [← hst] at hbd hlen hstep ⊢
          obtain ⟨l2, t2⟩ := st
          have m0 : 0 ≤ l2 := hbd.1
          have m1 : l2 ≤ 1073741824 := hbd.2
          have tl2 : t2.length ≤ 4 + j := by have h : t2.length ≤ tp.length + j := hlen; omega
          have HST2 := Lib.hid hst
          have HSTEP2 := Lib.hid hstep
          clear hbd hlen hst hstep
          by_cases h7 : j < 7
          · have hd0 : 0 ≤ l2 % 10 := by omega
            have hd9 : l2 % 10 ≤ 9 := by omega
            by_cases hl : 0 < l2
            · have hp : pr2 (j == 0) (l2, t2) = (l2 / 10, dgc (l2 % 10) :: t2) := by unfold pr2; simp [hl]
              have HP2 := Lib.hid hp
              clear hp
              go_wp2_with fail
              refine (put_any w t2 _ (dgc (l2 % 10)) (dgc_nat hd0 hd9).symm (by omega)).mono ?_
              rintro e w' ⟨rfl, rfl⟩
              go_wp2_with fail
              go_roundw
              case rel => exact ⟨j + 1, by omega, by go_num, by rw [HSTEP2.out, HP2.out], by rw [HSTEP2.out, HP2.out]⟩
              case measure => simp [intOf]; omega
            · by_cases hj0 : j = 0
              · have hp : pr2 (j == 0) (l2, t2) = (l2 / 10, dgc (l2 % 10) :: t2) := by unfold pr2; simp [hj0]
                have HP2 := Lib.hid hp
                have bj : ((j : Int) == 0) = true := by simp [hj0]
                clear hp hj0
                go_wp2_with fail
                refine (put_any w t2 _ (dgc (l2 % 10)) (dgc_nat hd0 hd9).symm (by omega)).mono ?_
                rintro e w' ⟨rfl, rfl⟩
                go_wp2_with fail
                go_roundw
                case rel => exact ⟨j + 1, by omega, by go_num, by rw [HSTEP2.out, HP2.out], by rw [HSTEP2.out, HP2.out]⟩
                case measure => simp [intOf]; omega
              · have hp : pr2 (j == 0) (l2, t2) = (l2 / 10, t2) := by unfold pr2; simp [hj0]; omega
                have HP2 := Lib.hid hp
                have bj : ((j : Int) == 0) = false := by simp; omega
                clear hp hj0
                go_wp2_with fail
                go_roundw
                case rel => exact ⟨j + 1, by omega, by go_num, by rw [HSTEP2.out, HP2.out], by rw [HSTEP2.out, HP2.out]⟩
                case measure => simp [intOf]; omega
          · have hj7 : j = 7 := by omega
            have hres : prt a = t2 := by
              have e3 := HST.out; have e4 := HST2.out
              have hk3 := HK.out
              rw [hk3] at e3; rw [hj7] at e4
              exact prt_eq e3 HTP.out e4
            have HRES := Lib.hid hres
            have tl3' : 1 ≤ t2.length := by
              have e4 := HST2.out
              rw [hj7] at e4
              have := pr2s_pos (l, tp) 6
              rw [← e4] at this
              exact this
            clear hj7 hres
            have hsl := slice_buf (PRW w t2) w.heap.size (12 - (t2.length : Int)) t2.length (by omega) tl3' (by omega)
            have hcv := text_buf w t2 (12 - t2.length) t2.length t2.length rfl rfl
            clear tl3'
            go_wp2_with fail
            go_ret
            refine ⟨?_, ?_⟩
            · have e := HRES.out
              unfold prn
              rw [if_neg (show ¬ H n < 0 by have := HA.out; omega), ← HA.out, e]
              rfl
            · exact ⟨((Grown.refl _).alloc _ _).alloc _ _, ((Below.refl _ _).alloc (by simp) _).alloc (by simp) _⟩
      · have tl0 : 12 - (t.length : Int) < 12 := by have := List.length_pos_iff.2 ht; omega
        have tl3 : t.length ≤ 3 := by omega
        have HT := Lib.hid ht
        clear hk3 ht
        go_wp2_with fail
        refine (put_any w t 46 46 rfl (by omega)).mono ?_
        rintro e w' ⟨rfl, rfl⟩
        go_wp2_with fail
        obtain ⟨tp, htp⟩ : ∃ x, x = (46 :: t : List UInt8) := ⟨_, rfl⟩
        rw [← htp]
        have tpl : tp.length ≤ 4 := by rw [htp]; simp; omega
        have htpp : tp = prp t := by rw [htp]; unfold prp; rw [if_neg HT.out]
        have HTP := Lib.hid htpp
        clear htp htpp
        go_loopw [3, 37] (fun v i wr => ∃ j : Nat, j ≤ 7 ∧ i = .int .i64 j ∧ v = .int .i64 (pr2s (l, tp) j).1 ∧ wr = PRW w (pr2s (l, tp) j).2) (fun _ i _ => 7 - (intOf i).toNat)
        case atStart => exact ⟨0, by omega, rfl, rfl, rfl⟩
        case round =>
          obtain ⟨j, hj, rfl, rfl, rfl⟩ := hrel
          have hbd := pr2s_bd (st := (l, tp)) ⟨l0, l1⟩ j
          have hlen := pr2s_len (l, tp) j
          have hstep : pr2s (l, tp) (j + 1) = pr2 (j == 0) (pr2s (l, tp) j) := rfl
          obtain ⟨st, hst⟩ : ∃ st, st = pr2s (l, tp) j := ⟨_, rfl⟩
          rw [← hst] at hbd hlen hstep ⊢
          obtain ⟨l2, t2⟩ := st
          have m0 : 0 ≤ l2 := hbd.1
          have m1 : l2 ≤ 1073741824 := hbd.2
          have tl2 : t2.length ≤ 4 + j := by have h : t2.length ≤ tp.length + j := hlen; omega
          have HST2 := Lib.hid hst
          have HSTEP2 := Lib.hid hstep
          clear hbd hlen hst hstep
          by_cases h7 : j < 7
          · have hd0 : 0 ≤ l2 % 10 := by omega
            have hd9 : l2 % 10 ≤ 9 := by omega
            by_cases hl : 0 < l2
            · have hp : pr2 (j == 0) (l2, t2) = (l2 / 10, dgc (l2 % 10) :: t2) := by unfold pr2; simp [hl]
              have HP2 := Lib.hid hp
              clear hp
              go_wp2_with fail
              refine (put_any w t2 _ (dgc (l2 % 10)) (dgc_nat hd0 hd9).symm (by omega)).mono ?_
              rintro e w' ⟨rfl, rfl⟩
              go_wp2_with fail
              go_roundw
              case rel => exact ⟨j + 1, by omega, by go_num, by rw [HSTEP2.out, HP2.out], by rw [HSTEP2.out, HP2.out]⟩
              case measure => simp [intOf]; omega
            · by_cases hj0 : j = 0
              · have hp : pr2 (j == 0) (l2, t2) = (l2 / 10, dgc (l2 % 10) :: t2) := by unfold pr2; simp [hj0]
                have HP2 := Lib.hid hp
                have bj : ((j : Int) == 0) = true := by simp [hj0]
                clear hp hj0
                go_wp2_with fail
                refine (put_any w t2 _ (dgc (l2 % 10)) (dgc_nat hd0 hd9).symm (by omega)).mono ?_
                rintro e w' ⟨rfl, rfl⟩
                go_wp2_with fail
                go_roundw
                case rel => exact ⟨j + 1, by omega, by go_num, by rw [HSTEP2.out, HP2.out], by rw [HSTEP2.out, HP2.out]⟩
                case measure => simp [intOf]; omega
              · have hp : pr2 (j == 0) (l2, t2) = (l2 / 10, t2) := by unfold pr2; simp [hj0]; omega
                have HP2 := Lib.hid hp
                have bj : ((j : Int) == 0) = false := by simp; omega
                clear hp hj0
                go_wp2_with fail
                go_roundw
                case rel => exact ⟨j + 1, by omega, by go_num, by rw [HSTEP2.out, HP2.out], by rw [HSTEP2.out, HP2.out]⟩
                case measure => simp [intOf]; omega
          · have hj7 : j = 7 := by omega
            have hres : prt a = t2 := by
              have e3 := HST.out; have e4 := HST2.out
              have hk3 := HK.out
              rw [hk3] at e3; rw [hj7] at e4
              exact prt_eq e3 HTP.out e4
            have HRES := Lib.hid hres
            have tl3' : 1 ≤ t2.length := by
              have e4 := HST2.out
              rw [hj7] at e4
              have := pr2s_pos (l, tp) 6
              rw [← e4] at this
              exact this
            clear hj7 hres
            have hsl := slice_buf (PRW w t2) w.heap.size (12 - (t2.length : Int)) t2.length (by omega) tl3' (by omega)
            have hcv := text_buf w t2 (12 - t2.length) t2.length t2.length rfl rfl
            clear tl3'
            go_wp2_with fail
            go_ret
            refine ⟨?_, ?_⟩
            · have e := HRES.out
              unfold prn
              rw [if_neg (show ¬ H n < 0 by have := HA.out; omega), ← HA.out, e]
              rfl
            · exact ⟨((Grown.refl _).alloc _ _).alloc _ _, ((Below.refl _ _).alloc (by simp) _).alloc (by simp) _⟩
theorem Print_any (n : Int) (w : World) :
    Calls Try.prog 31 #[.int .i64 n] w fun e w' => e = .returned (.string ⟨(prn (H n)).toArray⟩) ∧ Grown w w' := by
  by_cases h : H n < 0
  · exact (Print_neg n w h).mono fun e w' h => ⟨h.1, h.2.1⟩
  · exact (Print_pos n w h).mono fun e w' h => ⟨h.1, h.2.1⟩
theorem Print_bel (n : Int) (w : World) :
    Calls Try.prog 31 #[.int .i64 n] w fun e w' => e = .returned (.string ⟨(prn (H n)).toArray⟩) ∧ Below w.heap.size w w' := by
  by_cases h : H n < 0
  · exact (Print_neg n w h).mono fun e w' h => ⟨h.1, h.2.2⟩
  · exact (Print_pos n w h).mono fun e w' h => ⟨h.1, h.2.2⟩
end Go.Proofs.Ytipmgoejdkpknaa
