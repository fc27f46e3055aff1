/- The walks of layer 21: a line is resolved. -/
import Derived.Test.YtaegajlffiepoaaFlxW6
import Derived.ScopeJumps
import Derived.WalkMore
namespace Go.Proofs.Ytaegajlffiepoaa
open Go.RowKit FixM ShaD ShaM Go.Sort
set_option linter.unusedVariables false

/-- what stands at each jump -/
def Jmp (w : World) (a : Option Addr) (n cap : Nat) (room : Int) (L : Nat → It) (g : Bool) (first : Int) (P bl : Nat) (R : FSt) (rn : Nat) (x : Act) (wr : World) : Prop :=
  ∃ (r f : Nat) (s : FSt) (Bo : Nat) (iv ov : Value) (fF fW : Nat) (u2 u3 u4 u5 u8 u9 u10 u11 u12 u13 u14 u15 u16 u17 u18 u19 u20 u21 u22 u23 u24 u25 : Value),
    x = { tmps := #[.slice a n cap, .int .i64 room, u2, u3, u4, u5, .pointer (some ⟨P, 0, none⟩), .int .i64 (r : Int), u8, u9, u10, u11, u12, u13, u14, u15, u16, u17, u18, u19, u20, u21, u22, u23, u24, u25], defers := [] } ∧
    TellsI fF (facI g) ∧ TellsI fW (wgtI g) ∧ LnAt w wr P bl Bo n iv ov L s first fF fW ∧ FInv n (2147483648 * (2 * (n : Int) + 1)) 0 s ∧ s.loose.length ≤ f ∧ r + s.loose.length ≤ n ∧ (runF g L first f s).1 = R ∧ (runF g L first f s).2 + r = rn

theorem runF_nil (g : Bool) (L : Nat → It) (first : Int) (f : Nat) (s : FSt) (h : s.loose = []) : runF g L first f s = (s, 0) := by
  cases f with
  | zero => rfl
  | succ f => simp only [runF]; rw [if_pos h]
theorem runF_more (g : Bool) (L : Nat → It) (first : Int) (f : Nat) (s : FSt) (h : s.loose ≠ []) : runF g L first (f + 1) s = ((runF g L first f (roundF g L first s)).1, (runF g L first f (roundF g L first s)).2 + 1) := by
  simp only [runF]; rw [if_neg h]

set_option maxRecDepth 100000 in
set_option maxHeartbeats 4000000 in
theorem Resolve_any (a : Option Addr) (n cap : Nat) (L0 L : Nat → It) (room : Int) (w : World) (hn : n ≤ 62) (hA : ItA w a n L0) (hLe : ∀ i, L i = hI (L0 i)) :
    Calls Try.prog 11 #[.slice a n cap, .int .i64 room] w fun e w' => e = .returned (.tuple #[.slice (some ⟨w.heap.size, 0, none⟩) n n, .int .i64 ((resolveF L (H room) n).2 : Int)]) ∧ Below w.heap.size w w' ∧ Row w' w.heap.size n (resolveF L (H room) n).1.len := by
  have C := Lib.hid (lineOf_any a n cap L0 L room w hn hA hLe)
  have hL : ∀ i, HeldI (L i) := fun i => by rw [hLe i]; exact held_hI _
  have hF := H_bd room
  go_enter Try.func11, Try.ntmps11
  have HL := Lib.hid hL
  have r0 := hF.1
  have r1 := hF.2
  clear hL hF hA hLe
  go_wp2_with fail
  refine wp_scope_jumps 0 (Jmp w a n cap room L (growsF L (H room) n) (startF (growsF L (H room) n) L (H room) n n).free (w.heap.size + 1) w.heap.size (resolveF L (H room) n).1 (resolveF L (H room) n).2) (fun a' _ => n - (intOf (a'.tmps.getD 7 undef)).toNat) rfl ?_ ?_
  · go_wp2_with fail
    refine C.out.mono ?_
    rintro e w1 ⟨rfl, Bo, iv, ov, fF, fW, tF, tW, hLn⟩
    go_wp2_with fail
    go_step3
    -- the first arrival
    obtain ⟨s, hs, hLn2⟩ : ∃ s, s = startF (growsF L (H room) n) L (H room) n n ∧ LnAt w w1 (w.heap.size + 1) w.heap.size Bo n iv ov L s (startF (growsF L (H room) n) L (H room) n n).free fF fW := ⟨_, rfl, hLn⟩
    obtain ⟨wr, hwr⟩ : ∃ wr, w1 = wr := ⟨_, rfl⟩
    subst hwr
    clear hLn
    have hLn := hLn2
    clear hLn2
    have hI : FInv n (2147483648 * (2 * (n : Int) + 1)) 0 s := by
      have h := startF_inv (growsF L (H room) n) L (H room) n (fun i _ => HL.out i) r0 r1 n (Nat.le_refl _)
      rw [show (n : Int) - (n : Nat) = 0 by omega] at h
      rw [hs]; exact h
    have h2 : s.loose.length ≤ n := by rw [hs]; exact startF_le _ _ _ _ _
    have h3 : s.loose.length ≤ n := h2
    obtain ⟨f, hf⟩ : ∃ f, f = n := ⟨_, rfl⟩
    have h4 : (runF (growsF L (H room) n) L (startF (growsF L (H room) n) L (H room) n n).free f s).1 = (resolveF L (H room) n).1 := by rw [hf, hs]; rfl
    have h5 : (runF (growsF L (H room) n) L (startF (growsF L (H room) n) L (H room) n n).free f s).2 = (resolveF L (H room) n).2 := by rw [hf, hs]; rfl
    have hfn : s.loose.length ≤ f := by omega
    clear hs
    rw [← hf] at h2
    clear hf
    have hovf : ∃ oa oc, ov = .slice oa s.loose.length oc := by
      rcases hLn.loo.2 with ⟨h1, h2⟩ | ⟨gq, cq, _, h1, _⟩
      · exact ⟨none, 0, by rw [h1, h2]⟩
      · exact ⟨_, _, h1⟩
    obtain ⟨oa, oc, rfl⟩ := hovf
    have c2 : w1.cell? ⟨w.heap.size + 1, 2, none⟩ = some (.slice oa s.loose.length oc) := cell_ofF hLn.blk rfl
    have c1 : w1.cell? ⟨w.heap.size + 1, 1, none⟩ = some (.slice (some ⟨w.heap.size, 0, none⟩) n n) := cell_ofF hLn.blk rfl
    by_cases hnil : s.loose = []
    · have hR := runF_nil (growsF L (H room) n) L (startF (growsF L (H room) n) L (H room) n n).free f s hnil
      rw [hR] at h4 h5
      have hlen : s.loose.length = 0 := by rw [hnil]; rfl
      have b0 : ((s.loose.length : Int) == 0) = true := by simp [hlen]
      have HBE := Lib.hid hLn.bel
      have HRW := Lib.hid hLn.len
      have H4 := Lib.hid h4
      have H5 := Lib.hid h5
      clear hLn hR h4 h5 hlen hnil tF tW hI h2 h3 hfn
      go_wp2_with fail
      simp only [Exit.jump]
      go_ret2
      have e1 := H4.out
      have e2 := H5.out
      rw [← e1, ← e2]
      exact ⟨by simp, HBE.out, HRW.out⟩
    · have hpos : 0 < s.loose.length := by cases hs : s.loose with | nil => exact absurd hs hnil | cons x l => simp
      obtain ⟨f', rfl⟩ : ∃ f', f = f' + 1 := ⟨f - 1, by omega⟩
      have hR := runF_more (growsF L (H room) n) L (startF (growsF L (H room) n) L (H room) n n).free f' s hnil
      rw [hR] at h4 h5
      have hlt := roundF_lt (growsF L (H room) n) L (startF (growsF L (H room) n) L (H room) n n).free s hnil
      have hI2 := roundF_inv (growsF L (H room) n) L (startF (growsF L (H room) n) L (H room) n n).free s n _ (fun i _ => HL.out i) hI
      have RC := Lib.hid (round_any (growsF L (H room) n) _ hLn hn hpos (by omega) (fun i _ => HL.out i) tF tW hI (by omega))
      have b0 : ((s.loose.length : Int) == 0) = false := by simp; omega
      have H2 := Lib.hid h2
      have H3 := Lib.hid h3
      have h5' : (runF (growsF L (H room) n) L (startF (growsF L (H room) n) L (H room) n n).free f' (roundF (growsF L (H room) n) L (startF (growsF L (H room) n) L (H room) n n).free s)).2 + 1 = (resolveF L (H room) n).2 := h5
      have H4 := Lib.hid h4
      have H5 := Lib.hid h5'
      have HLT := Lib.hid hlt
      have HI2 := Lib.hid hI2
      have HTF := Lib.hid tF
      have HTW := Lib.hid tW
      clear hLn hR h2 h3 h4 h5 h5' hlt hI2 hI tF tW hpos hnil
      go_wp2_with fail
      refine RC.out.mono ?_
      rintro e w8 ⟨rfl, Bo8, ov8, hL8⟩
      have HL8 := Lib.hid hL8
      clear hL8 c1 c2
      go_wp2_with fail
      go_step3
      have h2 := H2.out
      have h3 := H3.out
      have hlt := HLT.out
      exact ⟨rfl, 1, f', _, Bo8, iv, ov8, fF, fW, _, _, _, _, _, _, _, _, _, _, _, _, _, _, _, _, _, _, _, _, _, _, rfl, HTF.out, HTW.out, HL8.out, HI2.out, by omega, by omega, H4.out, by have := H5.out; omega⟩
  · rintro a' wr ⟨r, f, s, Bo, iv, ov, fF, fW, u2, u3, u4, u5, u8, u9, u10, u11, u12, u13, u14, u15, u16, u17, u18, u19, u20, u21, u22, u23, u24, u25, rfl, tF, tW, hLn, hI, h2, h3, h4, h5⟩
    have hovf : ∃ oa oc, ov = .slice oa s.loose.length oc := by
      rcases hLn.loo.2 with ⟨h1, h2⟩ | ⟨gq, cq, _, h1, _⟩
      · exact ⟨none, 0, by rw [h1, h2]⟩
      · exact ⟨_, _, h1⟩
    obtain ⟨oa, oc, rfl⟩ := hovf
    have c2 : wr.cell? ⟨w.heap.size + 1, 2, none⟩ = some (.slice oa s.loose.length oc) := cell_ofF hLn.blk rfl
    have c1 : wr.cell? ⟨w.heap.size + 1, 1, none⟩ = some (.slice (some ⟨w.heap.size, 0, none⟩) n n) := cell_ofF hLn.blk rfl
    by_cases hnil : s.loose = []
    · have hR := runF_nil (growsF L (H room) n) L (startF (growsF L (H room) n) L (H room) n n).free f s hnil
      rw [hR] at h4 h5
      have hlen : s.loose.length = 0 := by rw [hnil]; rfl
      have b0 : ((s.loose.length : Int) == 0) = true := by simp [hlen]
      have HBE := Lib.hid hLn.bel
      have HRW := Lib.hid hLn.len
      have H4 := Lib.hid h4
      have H5 := Lib.hid h5
      clear hLn hR h4 h5 hlen hnil tF tW hI h2 h3
      go_wp2_with fail
      simp only [Exit.jump]
      go_ret2
      have e1 := H4.out
      have e2 := H5.out
      rw [← e1, ← e2]
      exact ⟨by simp, HBE.out, HRW.out⟩
    · have hpos : 0 < s.loose.length := by cases hs : s.loose with | nil => exact absurd hs hnil | cons x l => simp
      obtain ⟨f', rfl⟩ : ∃ f', f = f' + 1 := ⟨f - 1, by omega⟩
      have hR := runF_more (growsF L (H room) n) L (startF (growsF L (H room) n) L (H room) n n).free f' s hnil
      rw [hR] at h4 h5
      have hlt := roundF_lt (growsF L (H room) n) L (startF (growsF L (H room) n) L (H room) n n).free s hnil
      have hI2 := roundF_inv (growsF L (H room) n) L (startF (growsF L (H room) n) L (H room) n n).free s n _ (fun i _ => HL.out i) hI
      have RC := Lib.hid (round_any (growsF L (H room) n) _ hLn hn hpos (by omega) (fun i _ => HL.out i) tF tW hI (by omega))
      have b0 : ((s.loose.length : Int) == 0) = false := by simp; omega
      have rz : (r : Int) ≤ 62 := by omega
      have H2 := Lib.hid h2
      have H3 := Lib.hid h3
      have h5' : (runF (growsF L (H room) n) L (startF (growsF L (H room) n) L (H room) n n).free f' (roundF (growsF L (H room) n) L (startF (growsF L (H room) n) L (H room) n n).free s)).2 + 1 + r = (resolveF L (H room) n).2 := h5
      have H4 := Lib.hid h4
      have H5 := Lib.hid h5'
      have HLT := Lib.hid hlt
      have HI2 := Lib.hid hI2
      have HTF := Lib.hid tF
      have HTW := Lib.hid tW
      clear hLn hR h2 h3 h4 h5 h5' hlt hI2 hI tF tW hpos hnil
      go_wp2_with fail
      refine RC.out.mono ?_
      rintro e w8 ⟨rfl, Bo8, ov8, hL8⟩
      have HL8 := Lib.hid hL8
      clear hL8 c1 c2
      go_wp2_with fail
      go_step3
      have h2 := H2.out
      have h3 := H3.out
      have hlt := HLT.out
      refine ⟨rfl, ⟨r + 1, f', _, Bo8, iv, ov8, fF, fW, _, _, _, _, _, _, _, _, _, _, _, _, _, _, _, _, _, _, _, _, _, _, rfl, HTF.out, HTW.out, HL8.out, HI2.out, by omega, by omega, H4.out, by have := H5.out; omega⟩, ?_⟩
      simp [intOf]
      omega
end Go.Proofs.Ytaegajlffiepoaa
