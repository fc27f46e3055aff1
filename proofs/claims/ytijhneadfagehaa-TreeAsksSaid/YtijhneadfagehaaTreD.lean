/- Nodes, as the walks are told of them. -/
import Derived.Test.YtijhneadfagehaaTreW6
import Derived.Test.YtijhneadfagehaaWalkA
namespace Go.Proofs.Ytijhneadfagehaa
open Go.RowKit TreN TreP

/-- a node's cells, and what its lists hold -/
structure Nd where
  par : Int
  tag : ByteArray
  id : ByteArray
  ca : Option Addr
  cl : Nat
  cc : Nat
  aa : Option Addr
  al : Nat
  ac : Nat
  tx : ByteArray
  cs : Nat → ByteArray
  an : Nat → ByteArray
  av : Nat → ByteArray
def Nd.val (n : Nd) : Array Value := #[.int .i64 n.par, .string n.tag, .string n.id, .slice n.ca n.cl n.cc, .slice n.aa n.al n.ac, .string n.tx]

/-- a row of texts -/
def Strs (w : World) (a : Option Addr) (len : Nat) (c : Nat → ByteArray) : Prop := len = 0 ∨ ∃ b off, a = some ⟨b, off, none⟩ ∧ b < w.heap.size ∧ ∀ i, i < len → w.cell? ⟨b, off + i, none⟩ = some (.string (c i))
/-- a row of pairs of texts -/
def Atts (w : World) (a : Option Addr) (len : Nat) (c d : Nat → ByteArray) : Prop := len = 0 ∨ ∃ b off, a = some ⟨b, off, none⟩ ∧ b < w.heap.size ∧ ∀ i, i < len → w.cell? ⟨b, off + i * 2, none⟩ = some (.string (c i)) ∧ w.cell? ⟨b, off + i * 2 + 1, none⟩ = some (.string (d i))
structure NdIn (w : World) (n : Nd) : Prop where
  stag : n.tag.size ≤ maxLen
  sid : n.id.size ≤ maxLen
  stx : n.tx.size ≤ maxLen
  scl : n.cl ≤ maxLen
  sal : n.al ≤ maxLen
  scs : ∀ i, i < n.cl → (n.cs i).size ≤ maxLen
  san : ∀ i, i < n.al → (n.an i).size ≤ maxLen
  sav : ∀ i, i < n.al → (n.av i).size ≤ maxLen
  hc : Strs w n.ca n.cl n.cs
  ha : Atts w n.aa n.al n.an n.av
set_option maxRecDepth 100000 in
theorem Strs.below {w w' : World} {a : Option Addr} {len : Nat} {c : Nat → ByteArray} (h : Strs w a len c) (hb : Below w.heap.size w w') : Strs w' a len c := by
  rcases h with rfl | ⟨b, off, e, hbs, hc⟩
  · exact Or.inl rfl
  · exact Or.inr ⟨b, off, e, Nat.lt_of_lt_of_le hbs hb.size, fun i hi => by rw [hb.cell (p := ⟨b, off + i, none⟩) hbs]; exact hc i hi⟩
set_option maxRecDepth 100000 in
theorem Atts.below {w w' : World} {a : Option Addr} {len : Nat} {c d : Nat → ByteArray} (h : Atts w a len c d) (hb : Below w.heap.size w w') : Atts w' a len c d := by
  rcases h with rfl | ⟨b, off, e, hbs, hc⟩
  · exact Or.inl rfl
  · exact Or.inr ⟨b, off, e, Nat.lt_of_lt_of_le hbs hb.size, fun i hi => by rw [hb.cell (p := ⟨b, off + i * 2, none⟩) hbs, hb.cell (p := ⟨b, off + i * 2 + 1, none⟩) hbs]; exact hc i hi⟩
set_option maxRecDepth 100000 in
theorem NdIn.below {w w' : World} {n : Nd} (h : NdIn w n) (hb : Below w.heap.size w w') : NdIn w' n :=
  ⟨h.stag, h.sid, h.stx, h.scl, h.sal, h.scs, h.san, h.sav, h.hc.below hb, h.ha.below hb⟩

/-- is a text empty? -/
def emB (s : ByteArray) : Bool := s.toList.isEmpty

set_option maxRecDepth 100000 in
set_option maxHeartbeats 400000 in
theorem element_any (n : Nd) (w : World) : Calls Try.prog 23 #[.agg n.val] w fun e w' => e = .returned (.bool (!emB n.tag)) ∧ Below w.heap.size w w' := by
  unfold Nd.val emB
  go_enter Try.func23, Try.ntmps23
  go_wp2_with fail
  go_ret
  exact ⟨rfl, (Below.refl _ _).alloc (Nat.le_refl _) _⟩

/-- are the marks of an element right? -/
def mkB (n : Nd) : Bool := decide (n.cl ≤ 8) && (decide (n.al ≤ 8) && ((List.range n.cl).all (fun i => nameB (n.cs i)) && (List.range n.al).all (fun i => nameB (n.an i) && textB (n.av i))))
/-- is a node right? -/
def rightB (n : Nd) : Bool :=
  if emB n.tag = true then textB n.tx && (emB n.id && (decide (n.cl = 0) && decide (n.al = 0)))
  else nameB n.tag && ((emB n.id || nameB n.id) && (emB n.tx && mkB n))

set_option maxRecDepth 100000 in
theorem all_range {p : Nat → Bool} {n : Nat} (h : ∀ j, j < n → p j = true) : (List.range n).all p = true := by
  rw [List.all_eq_true]; intro x hx; exact h x (List.mem_range.1 hx)
set_option maxRecDepth 100000 in
theorem all_range_no {p : Nat → Bool} {n k : Nat} (hk : k < n) (h : p k = false) : (List.range n).all p = false := by
  rw [List.all_eq_false]; exact ⟨k, List.mem_range.2 hk, by rw [h]; decide⟩

set_option maxRecDepth 100000 in
set_option maxHeartbeats 2000000 in
theorem marked_any (n : Nd) (w : World) (hn : NdIn w n) : Calls Try.prog 32 #[.agg n.val] w fun e w' => e = .returned (.bool (mkB n)) ∧ Below w.heap.size w w' := by
  have HN := Lib.hid hn
  have hcl := hn.scl
  have hal := hn.sal
  unfold maxLen at hcl hal
  clear hn
  have hmk : mkB n = (decide (n.cl ≤ 8) && (decide (n.al ≤ 8) && ((List.range n.cl).all (fun i => nameB (n.cs i)) && (List.range n.al).all (fun i => nameB (n.an i) && textB (n.av i))))) := rfl
  have hval : n.val = #[.int .i64 n.par, .string n.tag, .string n.id, .slice n.ca n.cl n.cc, .slice n.aa n.al n.ac, .string n.tx] := rfl
  rw [hval]
  have HM := Lib.hid hmk
  clear hmk hval
  by_cases h8 : n.cl ≤ 8
  · by_cases h8' : n.al ≤ 8
    · have z1 : ¬ (8 : Int) < (n.cl : Int) := by omega
      have z2 : ¬ (8 : Int) < (n.al : Int) := by omega
      go_enter Try.func32, Try.ntmps32
      go_wp2_with fail
      have hb0 : Below w.heap.size w (w.alloc (.cells #[.int .i64 n.par, .string n.tag, .string n.id, .slice n.ca n.cl n.cc, .slice n.aa n.al n.ac, .string n.tx] 41)) := (Below.refl _ _).alloc (Nat.le_refl _) _
      have c4 : (w.alloc (.cells #[.int .i64 n.par, .string n.tag, .string n.id, .slice n.ca n.cl n.cc, .slice n.aa n.al n.ac, .string n.tx] 41)).cell? ⟨w.heap.size, 4, none⟩ = some (.slice n.aa n.al n.ac) := by
        rw [World.cell?_alloc_at _ _ _ _ rfl]; rfl
      generalize (w.alloc (.cells #[.int .i64 n.par, .string n.tag, .string n.id, .slice n.ca n.cl n.cc, .slice n.aa n.al n.ac, .string n.tx] 41)) = wb at hb0 c4 ⊢
      have HB0 := Lib.hid hb0
      have C4 := Lib.hid c4
      clear hb0 c4
      go_loop [20] (fun u => ∃ k : Nat, u = .int .i64 k ∧ k ≤ n.cl ∧ Hid (∀ j, j < k → nameB (n.cs j) = true)) (fun u => n.cl - (intOf u).toNat)
      case atStart => exact ⟨0, rfl, by omega, fun j hj => by omega⟩
      case round =>
        obtain ⟨k, rfl, hk, HI⟩ := hrel
        by_cases hlt : k < n.cl
        · have hltz : (k : Int) < (n.cl : Int) := by omega
          obtain ⟨b, off, hca, c0⟩ : ∃ b off, n.ca = some ⟨b, off, none⟩ ∧ wb.cell? ⟨b, off + k, none⟩ = some (.string (n.cs k)) := by
            rcases HN.out.hc with e | ⟨b, off, e, hbs, hc⟩
            · omega
            · exact ⟨b, off, e, by rw [HB0.out.cell (p := ⟨b, off + k, none⟩) hbs]; exact hc k hlt⟩
          have CN := Lib.hid (Name_any (n.cs k) (HN.out.scs k hlt) wb)
          have HCA := Lib.hid hca
          rw [hca]
          clear hca
          cases hv : nameB (n.cs k) with
          | true =>
            have HV := Lib.hid hv
            clear hv
            go_wp2_with fail
            refine CN.out.mono ?_
            rintro e w' ⟨rfl, rfl⟩
            rw [HV.out]
            go_wp2_with fail
            go_round
            case rel =>
              refine ⟨k + 1, by go_num, by omega, fun j hj => ?_⟩
              by_cases c : j = k
              · subst c; exact HV.out
              · exact HI.out j (by omega)
            case measure => simp [intOf]; omega
          | false =>
            have HV := Lib.hid hv
            clear hv
            go_wp2_with fail
            refine CN.out.mono ?_
            rintro e w' ⟨rfl, rfl⟩
            rw [HV.out]
            go_wp2_with fail
            go_ret
            have hf : mkB n = false := by rw [HM.out, all_range_no hlt HV.out]; simp
            exact ⟨ret_bool hf.symm, HB0.out⟩
        · have hall : (List.range n.cl).all (fun i => nameB (n.cs i)) = true := all_range (p := fun i => nameB (n.cs i)) fun j hj => HI.out j (by omega)
          have HALL := Lib.hid hall
          have c4 := C4.out
          clear hall HI
          go_wp2_with fail
          clear c4
          have HBr := HB0
          go_loopw [31] (fun u wr => ∃ k : Nat, u = .int .i64 k ∧ k ≤ n.al ∧ Hid (Below w.heap.size w wr) ∧ Hid (∀ j, j < k → (nameB (n.an j) && textB (n.av j)) = true)) (fun u _ => n.al - (intOf u).toNat)
          case atStart => exact ⟨0, rfl, by omega, HBr, fun j hj => by omega⟩
          case round =>
            clear HBr
            obtain ⟨k2, rfl, hk2, HBr, HI⟩ := hrel
            by_cases hlt2 : k2 < n.al
            · have hltz2 : (k2 : Int) < (n.al : Int) := by omega
              obtain ⟨b, off, haa, c0, c1⟩ : ∃ b off, n.aa = some ⟨b, off, none⟩ ∧ wr.cell? ⟨b, off + k2 * 2, none⟩ = some (.string (n.an k2)) ∧ wr.cell? ⟨b, off + k2 * 2 + 1, none⟩ = some (.string (n.av k2)) := by
                rcases HN.out.ha with e | ⟨b, off, e, hbs, hc⟩
                · omega
                · exact ⟨b, off, e, by rw [HBr.out.cell (p := ⟨b, off + k2 * 2, none⟩) hbs]; exact (hc k2 hlt2).1, by rw [HBr.out.cell (p := ⟨b, off + k2 * 2 + 1, none⟩) hbs]; exact (hc k2 hlt2).2⟩
              rw [haa]
              have CN := Lib.hid (fun W => Name_any (n.an k2) (HN.out.san k2 hlt2) W)
              have CT := Lib.hid (fun W => Text_any (n.av k2) (HN.out.sav k2 hlt2) W)
              clear haa
              have NB := Lib.hid (HBr.out.alloc (o := .cells #[.string (n.an k2), .string (n.av k2)] 48) HBr.out.size)
              cases hv : nameB (n.an k2) with
              | false =>
                have HV := Lib.hid hv
                clear hv
                go_wp2_with fail
                refine (CN.out _).mono ?_
                rintro e w' ⟨rfl, rfl⟩
                rw [HV.out]
                go_wp2_with fail
                go_ret
                have hf : mkB n = false := by rw [HM.out, all_range_no (p := fun i => nameB (n.an i) && textB (n.av i)) hlt2 (by show (nameB (n.an k2) && _) = false; rw [HV.out]; rfl)]; simp
                exact ⟨ret_bool hf.symm, NB.out⟩
              | true =>
                have HV := Lib.hid hv
                clear hv
                cases ht : textB (n.av k2) with
                | false =>
                  have HT := Lib.hid ht
                  clear ht
                  go_wp2_with fail
                  refine (CN.out _).mono ?_
                  rintro e w' ⟨rfl, rfl⟩
                  rw [HV.out]
                  go_wp2_with fail
                  refine (CT.out _).mono ?_
                  rintro e w' ⟨rfl, rfl⟩
                  rw [HT.out]
                  go_wp2_with fail
                  go_ret
                  have hf : mkB n = false := by rw [HM.out, all_range_no (p := fun i => nameB (n.an i) && textB (n.av i)) hlt2 (by show (nameB (n.an k2) && textB (n.av k2)) = false; rw [HT.out]; simp)]; simp
                  exact ⟨ret_bool hf.symm, NB.out⟩
                | true =>
                  have HT := Lib.hid ht
                  clear ht
                  go_wp2_with fail
                  refine (CN.out _).mono ?_
                  rintro e w' ⟨rfl, rfl⟩
                  rw [HV.out]
                  go_wp2_with fail
                  refine (CT.out _).mono ?_
                  rintro e w' ⟨rfl, rfl⟩
                  rw [HT.out]
                  go_wp2_with fail
                  go_roundw
                  case rel =>
                    refine ⟨k2 + 1, by go_num, by omega, NB, fun j hj => ?_⟩
                    by_cases c : j = k2
                    · subst c; rw [HV.out, HT.out]; rfl
                    · exact HI.out j (by omega)
                  case measure => simp [intOf]; omega
            · have hall2 : (List.range n.al).all (fun i => nameB (n.an i) && textB (n.av i)) = true := all_range (p := fun i => nameB (n.an i) && textB (n.av i)) fun j hj => HI.out j (by omega)
              have hf : mkB n = true := by rw [HM.out, HALL.out, hall2, decide_eq_true h8, decide_eq_true h8']; rfl
              have HF := Lib.hid hf
              clear hall2 hf
              go_wp2_with fail
              go_ret
              exact ⟨ret_bool HF.out.symm, HBr.out⟩
    · have z1 : ¬ (8 : Int) < (n.cl : Int) := by omega
      have z2 : (8 : Int) < (n.al : Int) := by omega
      have hf : mkB n = false := by rw [HM.out, decide_eq_false h8']; simp
      rw [hf]
      clear hf
      go_enter Try.func32, Try.ntmps32
      go_wp2_with fail
      go_ret
      exact ⟨rfl, (Below.refl _ _).alloc (Nat.le_refl _) _⟩
  · have z1 : (8 : Int) < (n.cl : Int) := by omega
    have hf : mkB n = false := by rw [HM.out, decide_eq_false h8]; simp
    rw [hf]
    clear hf
    go_enter Try.func32, Try.ntmps32
    go_wp2_with fail
    go_ret
    exact ⟨rfl, (Below.refl _ _).alloc (Nat.le_refl _) _⟩
end Go.Proofs.Ytijhneadfagehaa
