/- Layer 15: the nearest one, by the reference. -/
import Derived.Test.YtjhhpilaaahicaaHolE
import Derived.Test.YtjhhpilaaahicaaTreW5
namespace Go.Proofs.Ytjhhpilaaahicaa
open Go.RowKit TreP FixM Go.Sort
set_option linter.unusedVariables false

def nameN (X : Nat → Ext) (m k : Nat) : List UInt8 := if k < m then (X k).name else []
def wdN (X : Nat → Ext) (m k : Nat) : Int := if k < m then (X k).wd else 0
def htN (X : Nat → Ext) (m k : Nat) : Int := if k < m then (X k).ht else 0
def refP (X : Nat → Ext) (m : Nat) (nm : List UInt8) (least : Int) (k : Nat) : Bool := decide (least ≤ kindN X m k) && (decide (kindN X m k ≤ 2) && (nm.isEmpty || (nameN X m k == nm)))
theorem refP_wide (X : Nat → Ext) (m : Nat) (k : Nat) : refP X m [] 1 k = wideB X m k := by
  unfold refP wideB
  generalize kindN X m k = z
  by_cases h1 : z = 1
  · subst h1; rfl
  · by_cases h2 : z = 2
    · subst h2; rfl
    · have : ¬ (1 ≤ z ∧ z ≤ 2) := by omega
      by_cases h3 : 1 ≤ z <;> by_cases h4 : z ≤ 2 <;> simp [h1, h2, h3, h4] <;> omega
theorem refP_whole (X : Nat → Ext) (m : Nat) (k : Nat) : refP X m [] 2 k = wholeB X m k := by
  unfold refP wholeB
  generalize kindN X m k = z
  by_cases h2 : z = 2
  · subst h2; rfl
  · by_cases h3 : 2 ≤ z <;> by_cases h4 : z ≤ 2 <;> simp [h2, h3, h4] <;> omega
theorem ups_desc (f : Nat → Int) : ∀ n i : Nat, i < n → (ups f i).Pairwise (fun a b => b < a) ∧ ∀ j ∈ ups f i, j < i
  | 0, i, h => absurd h (by omega)
  | n + 1, i, h => by
    rcases ups_cases f i with ⟨_, h2⟩ | ⟨p, hp, _, h2⟩
    · rw [h2]; exact ⟨List.Pairwise.nil, fun j hj => by cases hj⟩
    · obtain ⟨i1, i2⟩ := ups_desc f n p (by omega)
      rw [h2]
      refine ⟨List.Pairwise.cons i2 i1, fun j hj => ?_⟩
      rcases List.mem_cons.1 hj with rfl | hj
      · exact hp
      · have := i2 j hj; omega
theorem find_desc {P : Nat → Bool} {k : Nat} : ∀ {U : List Nat}, U.Pairwise (fun a b => b < a) → k ∈ U → P k = true → (∀ j ∈ U, k < j → P j = false) → U.find? P = some k
  | [], _, h, _, _ => by cases h
  | x :: U, hp, hk, hP, hj => by
    by_cases e : x = k
    · subst e; rw [List.find?_cons_of_pos hP]
    · have hk' : k ∈ U := by rcases List.mem_cons.1 hk with h | h; exact absurd h.symm e; exact h
      have hx := (List.pairwise_cons.1 hp).1 k hk'
      rw [List.find?_cons_of_neg (by rw [hj x (List.mem_cons_self) hx]; simp)]
      exact find_desc (List.pairwise_cons.1 hp).2 hk' hP (fun j h => hj j (List.mem_cons_of_mem _ h))

set_option maxRecDepth 100000 in
set_option maxHeartbeats 2000000 in
theorem refAt15_any (x : Option Addr) (m xc k : Nat) (X : Nat → Ext) (w : World) (hm : m ≤ 9223372036854775807) (h : Exts w x m X) : Calls Try.prog 58 #[.slice x m xc, .int .i64 (k : Int)] w fun e w' => e = .returned (.agg #[.int .i64 (kindN X m k), .string ⟨(nameN X m k).toArray⟩, .int .i64 (wdN X m k), .int .i64 (htN X m k)]) ∧ Below w.heap.size w w' := by
  by_cases hk : k < m
  · have D : ∀ ob, ∃ b off, x = some ⟨b, off, none⟩ ∧ (w.alloc ob).cell? ⟨b, off + k * 4, none⟩ = some (.int .i64 (X k).kind) ∧ (w.alloc ob).cell? ⟨b, off + k * 4 + 1, none⟩ = some (.string ⟨(X k).name.toArray⟩) ∧ (w.alloc ob).cell? ⟨b, off + k * 4 + 2, none⟩ = some (.int .i64 (X k).wd) ∧ (w.alloc ob).cell? ⟨b, off + k * 4 + 3, none⟩ = some (.int .i64 (X k).ht) := fun ob => (h.below (below_one7h w ob)).at_ hk
    obtain ⟨b, off, rfl, _⟩ := h.at_ hk
    have hz : (k : Int) < (m : Int) := by omega
    have D2 : ∀ ob, (w.alloc ob).cell? ⟨b, off + k * 4, none⟩ = some (.int .i64 (X k).kind) ∧ (w.alloc ob).cell? ⟨b, off + k * 4 + 1, none⟩ = some (.string ⟨(X k).name.toArray⟩) ∧ (w.alloc ob).cell? ⟨b, off + k * 4 + 2, none⟩ = some (.int .i64 (X k).wd) ∧ (w.alloc ob).cell? ⟨b, off + k * 4 + 3, none⟩ = some (.int .i64 (X k).ht) := fun ob => by
      obtain ⟨b', off', e, r⟩ := D ob
      injection e with e; injection e with e1 e2; subst e1; subst e2
      exact r
    unfold kindN nameN wdN htN
    rw [if_pos hk, if_pos hk, if_pos hk, if_pos hk]
    generalize X k = e at *
    obtain ⟨e1, e2, e3, e4⟩ := e
    simp only at D2 ⊢
    have d0 := fun ob => (D2 ob).1
    have d1 := fun ob => (D2 ob).2.1
    have d2 := fun ob => (D2 ob).2.2.1
    have d3 := fun ob => (D2 ob).2.2.2
    have hh := heap_alloc_new w (.cells #[.int .i64 e1, .string ⟨e2.toArray⟩, .int .i64 e3, .int .i64 e4] 44)
    have j0 := cell_of (k := 0) hh rfl
    have j1 := cell_of (k := 1) hh rfl
    have j2 := cell_of (k := 2) hh rfl
    have j3 := cell_of (k := 3) hh rfl
    have HB := Lib.hid (below_one7h w (.cells #[.int .i64 e1, .string ⟨e2.toArray⟩, .int .i64 e3, .int .i64 e4] 44))
    clear h D D2 hh
    go_enter Try.func58, Try.ntmps58
    go_wp2_with fail
    exact bodyPost_ret (v := .agg #[.int .i64 e1, .string ⟨e2.toArray⟩, .int .i64 e3, .int .i64 e4]) (by simp [results, Try.results58, go_sem, j0, j1, j2, j3]) rfl ⟨rfl, HB.out⟩
  · have hz : ¬ (k : Int) < (m : Int) := by omega
    unfold kindN nameN wdN htN
    rw [if_neg hk, if_neg hk, if_neg hk, if_neg hk]
    have hh := heap_alloc_new w (.cells #[.int .i64 0, .string ⟨#[]⟩, .int .i64 0, .int .i64 0] 44)
    have j0 := cell_of (k := 0) hh rfl
    have j1 := cell_of (k := 1) hh rfl
    have j2 := cell_of (k := 2) hh rfl
    have j3 := cell_of (k := 3) hh rfl
    have HB := Lib.hid (below_one7h w (.cells #[.int .i64 0, .string ⟨#[]⟩, .int .i64 0, .int .i64 0] 44))
    clear h hh
    go_enter Try.func58, Try.ntmps58
    go_wp2_with fail
    exact bodyPost_ret (v := .agg #[.int .i64 0, .string ⟨#[]⟩, .int .i64 0, .int .i64 0]) (by simp [results, Try.results58, go_sem, j0, j1, j2, j3]) rfl ⟨rfl, HB.out⟩

set_option maxRecDepth 100000 in
set_option maxHeartbeats 16000000 in
theorem refNear_in (a : Option Addr) (len cap : Nat) (f : Nat → Int) (i : Nat) (hi : i < len) (hl : len ≤ 100000) (x : Option Addr) (m xc : Nat) (X : Nat → Ext) (nm : List UInt8) (least : Int) (w : World) (hm : m ≤ 9223372036854775807) (hP : Pars w a len f) (hX : Exts w x m X) :
    Calls Try.prog 57 #[.slice a len cap, .slice x m xc, .int .i64 (i : Int), .string ⟨nm.toArray⟩, .int .i64 least] w fun e w' => e = .returned (.int .i64 (firstN (refP X m nm least) (ups f i))) ∧ Below w.heap.size w w' := by
  have HP := Lib.hid hP
  have HX := Lib.hid hX
  have hz : (i : Int) < (len : Int) := by omega
  have hz3 : ¬ len ≤ i := by omega
  have hz4 : ¬ (len : Int) ≤ (i : Int) := by omega
  have hz5 : ¬ (i : Int) < 0 := by omega
  have HD := Lib.hid (ups_desc f (i + 1) i (by omega))
  have CU : Hid (∀ k : Nat, ∀ W, Below w.heap.size w W → Calls Try.prog 102 #[.slice a len cap, .int .i64 (i : Int), .int .i64 (k : Int)] W fun e w' => e = .returned (.bool (undB f i k)) ∧ W = w') := Lib.hid fun k W hW => refUnder_any a len cap f i k W hi (hP.below hW)
  clear hP hX
  go_enter Try.func57, Try.ntmps57
  go_wp2_with fail
  go_loopw [11] (fun z wr => ∃ k : Nat, z = .int .i64 ((k : Int) - 1) ∧ k ≤ i ∧ Hid (∀ j ∈ ups f i, k ≤ j → refP X m nm least j = false) ∧ Hid (Below w.heap.size w wr)) (fun z _ => (intOf z + 1).toNat)
  case atStart =>
    exact ⟨i, by first | rfl | go_num, Nat.le_refl _, Lib.hid fun j hj h => by have := HD.out.2 j hj; omega, Lib.hid (Below.refl _ _)⟩
  case round =>
    obtain ⟨k, rfl, hk, HN, HB⟩ := hrel
    cases k with
    | zero =>
      have e0 : ((0 : Nat) : Int) - 1 = -1 := rfl
      rw [e0]
      go_wp2_with fail
      go_ret
      exact ⟨ret_int (firstN_none (List.find?_eq_none.2 fun j hj => by rw [HN.out j hj (Nat.zero_le _)]; simp)).symm, HB.out⟩
    | succ k =>
      have e0 : ((k + 1 : Nat) : Int) - 1 = (k : Int) := by omega
      rw [e0]
      have CA := Lib.hid (refAt15_any x m xc k X wr hm (HX.out.below HB.out))
      have CV := Lib.hid (CU.out k)
      have hpk : refP X m nm least k = (decide (least ≤ kindN X m k) && (decide (kindN X m k ≤ 2) && (nm.isEmpty || (nameN X m k == nm)))) := rfl
      have hub : undB f i k = decide (k ∈ ups f i) := rfl
      generalize kindN X m k = z0 at CA hpk
      generalize nameN X m k = y at CA hpk
      generalize wdN X m k = z2 at CA
      generalize htN X m k = z3 at CA
      have NEXT : Hid ((k ∈ ups f i → refP X m nm least k = false) → ∀ j ∈ ups f i, k ≤ j → refP X m nm least j = false) := Lib.hid fun h j hj hkj => by
        by_cases e : j = k
        · subst e; exact h hj
        · exact HN.out j hj (by omega)
      have DONE : Hid (k ∈ ups f i → refP X m nm least k = true → firstN (refP X m nm least) (ups f i) = (k : Int)) := Lib.hid fun h1 h2 => firstN_some (find_desc HD.out.1 h1 h2 fun j hj hlt => HN.out j hj (by omega))
      obtain ⟨ub, hube⟩ : ∃ b, undB f i k = b := ⟨_, rfl⟩
      rw [hube] at CV hub
      cases ub with
      | false =>
        have hnm := of_decide_eq_false hub.symm
        have HU := Lib.hid hnm
        clear hnm hub hpk hube
        go_wp2_with fail
        refine CA.out.mono ?_
        rintro e w3 ⟨rfl, hb3⟩
        have HB2 := Lib.hid (fun ob => (HB.out.trans (hb3.mono HB.out.size)).trans ((below_one7h w3 ob).mono (HB.out.trans (hb3.mono HB.out.size)).size))
        clear hb3
        go_wp2_with fail
        refine (CV.out _ (HB2.out _)).mono ?_
        rintro e w' ⟨rfl, rfl⟩
        go_wp2_with fail
        go_roundw
        case rel => exact ⟨k, by first | rfl | go_num, by omega, Lib.hid (NEXT.out (fun h => absurd h HU.out)), Lib.hid (HB2.out _)⟩
        case measure => (simp [intOf]) <;> omega
      | true =>
        have HU := Lib.hid hub
        clear hub hube
        by_cases h1 : least ≤ z0
        · by_cases h2 : z0 ≤ 2
          · cases nm with
            | nil =>
              have hp1 : refP X m [] least k = true := by rw [hpk]; simp [h1, h2]
              have HPK := Lib.hid hp1
              clear hp1 hpk
              go_wp2_with fail
              refine CA.out.mono ?_
              rintro e w3 ⟨rfl, hb3⟩
              have HB2 := Lib.hid (fun ob => (HB.out.trans (hb3.mono HB.out.size)).trans ((below_one7h w3 ob).mono (HB.out.trans (hb3.mono HB.out.size)).size))
              clear hb3
              go_wp2_with fail
              refine (CV.out _ (HB2.out _)).mono ?_
              rintro e w' ⟨rfl, rfl⟩
              go_wp2_with fail
              go_ret
              exact ⟨ret_int (DONE.out (of_decide_eq_true HU.out.symm) HPK.out).symm, HB2.out _⟩
            | cons c r =>
              have hne2 : ((c :: r : List UInt8) == []) = false := rfl
              obtain ⟨t, ht⟩ : ∃ t, (y == (c :: r)) = t := ⟨_, rfl⟩
              rw [ht] at hpk
              cases t with
              | true =>
                have hp1 : refP X m (c :: r) least k = true := by rw [hpk]; simp [h1, h2]
                have HPK := Lib.hid hp1
                clear hp1 hpk
                go_wp2_with fail
                refine CA.out.mono ?_
                rintro e w3 ⟨rfl, hb3⟩
                have HB2 := Lib.hid (fun ob => (HB.out.trans (hb3.mono HB.out.size)).trans ((below_one7h w3 ob).mono (HB.out.trans (hb3.mono HB.out.size)).size))
                clear hb3
                go_wp2_with fail
                refine (CV.out _ (HB2.out _)).mono ?_
                rintro e w' ⟨rfl, rfl⟩
                go_wp2_with fail
                go_ret
                exact ⟨ret_int (DONE.out (of_decide_eq_true HU.out.symm) HPK.out).symm, HB2.out _⟩
              | false =>
                have hp1 : refP X m (c :: r) least k = false := by rw [hpk]; simp
                have HPK := Lib.hid hp1
                clear hp1 hpk
                go_wp2_with fail
                refine CA.out.mono ?_
                rintro e w3 ⟨rfl, hb3⟩
                have HB2 := Lib.hid (fun ob => (HB.out.trans (hb3.mono HB.out.size)).trans ((below_one7h w3 ob).mono (HB.out.trans (hb3.mono HB.out.size)).size))
                clear hb3
                go_wp2_with fail
                refine (CV.out _ (HB2.out _)).mono ?_
                rintro e w' ⟨rfl, rfl⟩
                go_wp2_with fail
                go_roundw
                case rel => exact ⟨k, by first | rfl | go_num, by omega, Lib.hid (NEXT.out (fun _ => HPK.out)), Lib.hid (HB2.out _)⟩
                case measure => (simp [intOf]) <;> omega
          · have hp1 : refP X m nm least k = false := by rw [hpk]; simp [h2]
            have HPK := Lib.hid hp1
            clear hp1 hpk
            go_wp2_with fail
            refine CA.out.mono ?_
            rintro e w3 ⟨rfl, hb3⟩
            have HB2 := Lib.hid (fun ob => (HB.out.trans (hb3.mono HB.out.size)).trans ((below_one7h w3 ob).mono (HB.out.trans (hb3.mono HB.out.size)).size))
            clear hb3
            go_wp2_with fail
            refine (CV.out _ (HB2.out _)).mono ?_
            rintro e w' ⟨rfl, rfl⟩
            go_wp2_with fail
            go_roundw
            case rel => exact ⟨k, by first | rfl | go_num, by omega, Lib.hid (NEXT.out (fun _ => HPK.out)), Lib.hid (HB2.out _)⟩
            case measure => (simp [intOf]) <;> omega
        · have hp1 : refP X m nm least k = false := by rw [hpk]; simp [h1]
          have HPK := Lib.hid hp1
          clear hp1 hpk
          go_wp2_with fail
          refine CA.out.mono ?_
          rintro e w3 ⟨rfl, hb3⟩
          have HB2 := Lib.hid (fun ob => (HB.out.trans (hb3.mono HB.out.size)).trans ((below_one7h w3 ob).mono (HB.out.trans (hb3.mono HB.out.size)).size))
          clear hb3
          go_wp2_with fail
          refine (CV.out _ (HB2.out _)).mono ?_
          rintro e w' ⟨rfl, rfl⟩
          go_wp2_with fail
          go_roundw
          case rel => exact ⟨k, by first | rfl | go_num, by omega, Lib.hid (NEXT.out (fun _ => HPK.out)), Lib.hid (HB2.out _)⟩
          case measure => (simp [intOf]) <;> omega

set_option maxRecDepth 100000 in
set_option maxHeartbeats 2000000 in
theorem refNear_no (a : Option Addr) (len cap : Nat) (i : Int) (h : i < 0 ∨ (len : Int) ≤ i) (x : Option Addr) (m xc : Nat) (nm : List UInt8) (least : Int) (w : World) :
    Calls Try.prog 57 #[.slice a len cap, .slice x m xc, .int .i64 i, .string ⟨nm.toArray⟩, .int .i64 least] w fun e w' => e = .returned (.int .i64 (-1)) ∧ Below w.heap.size w w' := by
  have h' : i < 0 ∨ (¬ i < 0 ∧ (len : Int) ≤ i) := by omega
  clear h
  rcases h' with h | ⟨h, h2⟩
  all_goals
    go_enter Try.func57, Try.ntmps57
    go_wp2_with fail
    go_ret
    exact ⟨rfl, Below.refl _ _⟩

theorem refNear_any (a : Option Addr) (len cap : Nat) (f : Nat → Int) (i : Int) (U : List Nat) (hU : UpsIs f len i U) (hl : len ≤ 100000) (x : Option Addr) (m xc : Nat) (X : Nat → Ext) (nm : List UInt8) (least : Int) (w : World) (hm : m ≤ 9223372036854775807) (hP : Pars w a len f) (hX : Exts w x m X) :
    Calls Try.prog 57 #[.slice a len cap, .slice x m xc, .int .i64 i, .string ⟨nm.toArray⟩, .int .i64 least] w fun e w' => e = .returned (.int .i64 (firstN (refP X m nm least) U)) ∧ Below w.heap.size w w' := by
  rcases hU with ⟨k, rfl, hk, rfl⟩ | ⟨hi, rfl⟩
  · exact refNear_in a len cap f k hk hl x m xc X nm least w hm hP hX
  · exact refNear_no a len cap i hi x m xc nm least w
end Go.Proofs.Ytjhhpilaaahicaa
