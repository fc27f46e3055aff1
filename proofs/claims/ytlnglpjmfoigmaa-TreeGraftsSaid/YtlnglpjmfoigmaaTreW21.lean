/- The walk of layer 4's reference: Graft. -/
import Derived.Test.YtlnglpjmfoigmaaTreU
namespace Go.Proofs.Ytlnglpjmfoigmaa
open Go.RowKit TreN TreP

set_option maxRecDepth 100000 in
theorem NdIn.withP {w : World} {n : Nd} (h : NdIn w n) (p : Int) : NdIn w (n.withP p) := ⟨h.stag, h.sid, h.stx, h.scl, h.sal, h.scs, h.san, h.sav, h.hc, h.ha⟩
set_option maxRecDepth 100000 in
theorem gR_in (w : World) (a a' : Option Addr) (L M : Nat → Nd) (l i E m : Nat) (hi : i < l) (hL : Nods w a l L) (hM : Nods w a' m M) : ∀ q, q < 3 → ∀ j, j < gn l i E m q → NdIn w (gR L M i E m q j) := by
  intro q _ j hj
  have nd : ∀ (a : Option Addr) (len : Nat) (X : Nat → Nd), Nods w a len X → ∀ k, k < len → NdIn w (X k) := fun a len X h k hk => by
    obtain ⟨_, _, _, _, hn⟩ := h.at_ hk
    exact hn
  unfold gR
  unfold gn at hj
  by_cases h0 : q = 0
  · rw [if_pos h0]
    rw [if_pos h0] at hj
    exact (nd _ _ _ hL j (by omega)).withP _
  · rw [if_neg h0]
    rw [if_neg h0] at hj
    by_cases h1 : q = 1
    · rw [if_pos h1]
      rw [if_pos h1] at hj
      exact (nd _ _ _ hM (j + 1) (by omega)).withP _
    · rw [if_neg h1]
      rw [if_neg h1] at hj
      exact (nd _ _ _ hL (j + E) (by omega)).withP _

/-- n cells of R are built -/
def Built (w wr : World) (v : Value) (R : Nat → Nd) (n : Nat) : Prop := wr.ownsRow w.heap.size 39 6 v n (ndcs R n) ∧ Below w.heap.size w wr

set_option maxRecDepth 100000 in
set_option maxHeartbeats 8000000 in
theorem refGraft_any (b off l lc i b' off' m mc E : Nat) (L M : Nat → Nd) (w : World) (hl : l ≤ 1000) (hm : m ≤ 1000) (hL : Nods w (some ⟨b, off, none⟩) l L) (hM : Nods w (some ⟨b', off', none⟩) m M) (h1 : checkS L l = 0) (h2 : checkS M m = 0)
    (hi : i < l) (hE : EndIs (parOf L) l i E) :
    Calls Try.prog 29 #[.slice (some ⟨b, off, none⟩) l lc, .int .i64 (i : Int), .slice (some ⟨b', off', none⟩) m mc] w fun e w' => ∃ g cap, e = .returned (.slice (some ⟨g, 0, none⟩) (GN l i E m) cap) ∧ NAt w' g 0 (GN l i E m) (GR L M l i E m) ∧ Below w.heap.size w w' := by
  obtain ⟨i0, hi0, hz0, hz1, hz2⟩ := info_parts info_node
  have HL := Lib.hid hL
  have HM := Lib.hid hM
  have K1 := Lib.hid h1
  have K2 := Lib.hid h2
  have HEI := Lib.hid hE
  have hE1 := hE.1
  have hE2 := hE.2.1
  have hm0 := (check_ok M m h2).1
  have CE := Lib.hid (refEnd_any (some ⟨b, off, none⟩) l lc (parOf L) i w (by omega) hi hL.pars)
  clear hL hM h1 h2 hE
  go_enter Try.func29, Try.ntmps29
  go_wp2_with fail
  refine CE.out.mono ?_
  rintro e w' ⟨E', rfl, hE', rfl⟩
  obtain rfl : E = E' := EndIs.uniq HEI.out hE'
  clear hE' CE
  go_wp2_with fail
  go_loopw [7, 9] (fun v vi wr => ∃ k : Nat, vi = .int .i64 k ∧ k ≤ i + 1 ∧ Hid (Built w wr v (GR L M l i E m) k)) (fun _ vi _ => i + 1 - (intOf vi).toNat)
  case atStart => exact ⟨0, rfl, by omega, Lib.hid ⟨World.ownsRow_nil w _ _ 6, Below.refl _ _⟩⟩
  case round =>
    obtain ⟨k, rfl, hk, HB⟩ := hrel
    by_cases hlt : k < i + 1
    · have hltz : (k : Int) ≤ (i : Int) := by omega
      have hkl : (k : Int) < (l : Int) := by omega
      obtain ⟨b9, off9, e9, ⟨c0, c1, c2, c3, c4, c5⟩, hin⟩ := (HL.out.below HB.out.2).at_ (show k < l by omega)
      injection e9 with e9
      injection e9 with e9 e10
      subst e9; subst e10
      have hown := HB.out.1
      have hle := HB.out.2.size
      have hpar := par_bd L l K1.out k (by omega)
      have hx : GR L M l i E m k = L k := by
        rw [GR_0 L M l i E m k hlt]
        unfold lS Nd.withP
        rw [if_pos (by omega)]
      have HX := Lib.hid hx
      clear hx hpar hin
      go_wp2_with (at_builtin; refine wpList_append_own _ rfl _ _ 24 rfl w.heap.size 39 i0 _ 6 104 und_nodes hi0 hz0 hz1 hz2 rfl (by decide) _ _ _ rfl (hown.alloc _) ⟨wr.heap.size, 0, none⟩ 1 1 (ndcs (fun _ => L k) 1) rfl (ndcs_length _ _) ?c1 (ndcs_one _ _) ?c3 ?c4 ?c5 ?_)
      case c1 =>
        intro j u hj
        rw [ndcs_single] at hj
        exact hj
      case c3 => unfold maxLen; omega
      case c4 => omega
      case c5 => omega
      intro v' w2 hown' hgrow _
      rw [ndcs_succ _ _ _ HX.out] at hown'
      have HB2 : Hid (Built w w2 v' (GR L M l i E m) (k + 1)) := Lib.hid ⟨hown', (HB.out.2.alloc hle _).trans (below_grown3 hgrow (fun q hq => (World.ownsRow.lt hown q hq).1) (by simp; omega))⟩
      clear hgrow hown'
      go_wp2_with fail
      go_roundw
      case rel => exact ⟨k + 1, by go_num, by omega, HB2⟩
      case measure => simp [intOf]; omega
    · have hltz : ¬ (k : Int) ≤ (i : Int) := by omega
      have e : k = i + 1 := by omega
      have e0 : k = i + 1 + (1 - 1) := by omega
      have HB0 := HB
      rw [e0] at HB0
      clear hlt hk e e0 HB
      go_wp2_with fail
      go_loopw [7, 10] (fun v vi wr => ∃ k : Nat, vi = .int .i64 k ∧ 1 ≤ k ∧ k ≤ m ∧ Hid (Built w wr v (GR L M l i E m) (i + 1 + (k - 1)))) (fun _ vi _ => m - (intOf vi).toNat)
      case atStart => exact ⟨1, rfl, by omega, by omega, HB0⟩
      case round =>
        obtain ⟨k, rfl, hk1, hk, HB⟩ := hrel
        by_cases hlt : k < m
        · have hltz : (k : Int) < (m : Int) := by omega
          obtain ⟨b9, off9, e9, ⟨c0, c1, c2, c3, c4, c5⟩, hin⟩ := (HM.out.below HB.out.2).at_ (show k < m by omega)
          injection e9 with e9
          injection e9 with e9 e10
          subst e9; subst e10
          have hown := HB.out.1
          have hle := HB.out.2.size
          have hpar := par_bd M m K2.out k (by omega)
          obtain ⟨hp1, _, hp2⟩ := hpar
          have hx := GR_1 L M l i E m k hk1 hlt
          have HX := Lib.hid hx
          clear hx hin
          go_wp2_with (at_builtin; refine wpList_append_own _ rfl _ _ 24 rfl w.heap.size 39 i0 _ 6 104 und_nodes hi0 hz0 hz1 hz2 rfl (by decide) _ _ _ rfl ((hown.alloc _).alloc _) ⟨wr.heap.size + 1, 0, none⟩ 1 1 (ndcs (fun _ => (M k).withP (mS i (M k).par)) 1) rfl (ndcs_length _ _) ?c1 (ndcs_one _ _) ?c3 ?c4 ?c5 ?_)
          case c1 =>
            intro j u hj
            rw [ndcs_single] at hj
            simp only [Nd.withP] at hj
            rw [show mS (i : Int) (M k).par = (M k).par + (i : Int) from Int.add_comm _ _] at hj
            exact hj
          case c3 => unfold maxLen; omega
          case c4 => omega
          case c5 => omega
          intro v' w2 hown' hgrow _
          rw [ndcs_succ _ _ _ HX.out] at hown'
          have HB2 : Hid (Built w w2 v' (GR L M l i E m) (i + 1 + (k - 1) + 1)) := Lib.hid ⟨hown', ((HB.out.2.alloc hle _).alloc (by simp; omega) _).trans (below_grown3 hgrow (fun q hq => (World.ownsRow.lt hown q hq).1) (by simp; omega))⟩
          clear hgrow hown'
          go_wp2_with fail
          go_roundw
          case rel => exact ⟨k + 1, by go_num, by omega, by omega, by rw [show i + 1 + (k + 1 - 1) = i + 1 + (k - 1) + 1 by omega]; exact HB2⟩
          case measure => simp [intOf]; omega
        · have hltz : ¬ (k : Int) < (m : Int) := by omega
          have e : k = m := by omega
          subst e
          have hmm : i + 1 + (k - 1) = i + 1 + (k - 1) + (E - E) := by omega
          have HB0 := HB
          rw [hmm] at HB0
          clear hltz hlt hk hmm HB
          go_wp2_with fail
          go_loopw [7, 12] (fun v vi wr => ∃ t : Nat, vi = .int .i64 t ∧ E ≤ t ∧ t ≤ l ∧ Hid (Built w wr v (GR L M l i E k) (i + 1 + (k - 1) + (t - E)))) (fun _ vi _ => l - (intOf vi).toNat)
          case atStart => exact ⟨E, rfl, by omega, by omega, HB0⟩
          case round =>
            obtain ⟨t, rfl, ht1, ht, HB⟩ := hrel
            by_cases hlt : t < l
            · have hltz : (t : Int) < (l : Int) := by omega
              obtain ⟨b9, off9, e9, ⟨c0, c1, c2, c3, c4, c5⟩, hin⟩ := (HL.out.below HB.out.2).at_ hlt
              injection e9 with e9
              injection e9 with e9 e10
              subst e9; subst e10
              have hown := HB.out.1
              have hle := HB.out.2.size
              have hpar := par_bd L l K1.out t hlt
              obtain ⟨hp1, _, hp2⟩ := hpar
              have hx := GR_2 L M l i E k t ht1
              have HX := Lib.hid hx
              clear hx hin
              by_cases hc : (E : Int) ≤ (L t).par
              · skip
                go_wp2_with (at_builtin; refine wpList_append_own _ rfl _ _ 24 rfl w.heap.size 39 i0 _ 6 104 und_nodes hi0 hz0 hz1 hz2 rfl (by decide) _ _ _ rfl ((hown.alloc _).alloc _) ⟨wr.heap.size + 1, 0, none⟩ 1 1 (ndcs (fun _ => (L t).withP (lS i E k (L t).par)) 1) rfl (ndcs_length _ _) ?c1 (ndcs_one _ _) ?c3 ?c4 ?c5 ?_)
                case c1 =>
                  intro j u hj
                  rw [ndcs_single] at hj
                  simp only [Nd.withP] at hj
                  rw [show lS i E k (L t).par = (L t).par - (E : Int) + (i : Int) + (k : Int) from by unfold lS; rw [if_neg (by omega)]] at hj
                  exact hj
                case c3 => unfold maxLen; omega
                case c4 => omega
                case c5 => omega
                intro v' w2 hown' hgrow _
                rw [ndcs_succ _ _ _ HX.out] at hown'
                have HB2 : Hid (Built w w2 v' (GR L M l i E k) (i + 1 + (k - 1) + (t - E) + 1)) := Lib.hid ⟨hown', ((HB.out.2.alloc hle _).alloc (by simp; omega) _).trans (below_grown3 hgrow (fun q hq => (World.ownsRow.lt hown q hq).1) (by simp; omega))⟩
                clear hgrow hown'
                go_wp2_with fail
                go_roundw
                case rel => exact ⟨t + 1, by go_num, by omega, by omega, by rw [show i + 1 + (k - 1) + (t + 1 - E) = i + 1 + (k - 1) + (t - E) + 1 by omega]; exact HB2⟩
                case measure => simp [intOf]; omega
              · skip
                go_wp2_with (at_builtin; refine wpList_append_own _ rfl _ _ 24 rfl w.heap.size 39 i0 _ 6 104 und_nodes hi0 hz0 hz1 hz2 rfl (by decide) _ _ _ rfl ((hown.alloc _).alloc _) ⟨wr.heap.size + 1, 0, none⟩ 1 1 (ndcs (fun _ => (L t).withP (lS i E k (L t).par)) 1) rfl (ndcs_length _ _) ?c1 (ndcs_one _ _) ?c3 ?c4 ?c5 ?_)
                case c1 =>
                  intro j u hj
                  rw [ndcs_single] at hj
                  simp only [Nd.withP] at hj
                  rw [show lS i E k (L t).par = (L t).par from by unfold lS; rw [if_pos (by omega)]] at hj
                  exact hj
                case c3 => unfold maxLen; omega
                case c4 => omega
                case c5 => omega
                intro v' w2 hown' hgrow _
                rw [ndcs_succ _ _ _ HX.out] at hown'
                have HB2 : Hid (Built w w2 v' (GR L M l i E k) (i + 1 + (k - 1) + (t - E) + 1)) := Lib.hid ⟨hown', ((HB.out.2.alloc hle _).alloc (by simp; omega) _).trans (below_grown3 hgrow (fun q hq => (World.ownsRow.lt hown q hq).1) (by simp; omega))⟩
                clear hgrow hown'
                go_wp2_with fail
                go_roundw
                case rel => exact ⟨t + 1, by go_num, by omega, by omega, by rw [show i + 1 + (k - 1) + (t + 1 - E) = i + 1 + (k - 1) + (t - E) + 1 by omega]; exact HB2⟩
                case measure => simp [intOf]; omega
            · have hltz : ¬ (t : Int) < (l : Int) := by omega
              have e : i + 1 + (k - 1) + (t - E) = GN l i E k := by rw [GN_eq]; omega
              have HB0 := HB
              rw [e] at HB0
              clear HB
              have hown := HB0.out.1
              have hpos : 0 < GN l i E k := by rw [GN_eq]; omega
              obtain ⟨g, cap, rfl, hg, hgl⟩ := hown.form hpos
              have hnat : NAt wr g 0 (GN l i E k) (GR L M l i E k) := NAt.of hgl (ndcs_back hown) (catp_in (gR L M i E k) (gn l i E k) (NdIn wr) 3 (gR_in wr _ _ L M l i E k hi (HL.out.below HB0.out.2) (HM.out.below HB0.out.2)))
              have HNA := Lib.hid hnat
              have HBL := Lib.hid HB0.out.2
              clear hown hnat HB0 e
              go_wp2_with fail
              go_ret
              exact ⟨g, ⟨cap, rfl⟩, HNA.out, HBL.out⟩
end Go.Proofs.Ytlnglpjmfoigmaa
