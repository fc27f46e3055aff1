/- The walks of layer 21: a round, walked. -/
import Derived.Test.YtaegajlffiepoaaFlxW4
namespace Go.Proofs.Ytaegajlffiepoaa
open Go.RowKit FixM ShaD ShaM Go.Sort
set_option linter.unusedVariables false

theorem LnAt.placeAt {w0 w : World} {P bl Bo n g c m : Nat} {iv : Value} {L : Nat → It} {s : FSt} {first : Int} {fF fW : Nat} (h : LnAt w0 w P bl Bo n iv (.slice (some ⟨g, 0, none⟩) m c) L s first fF fW) (hm : s.loose.length = m) (k : Nat) (hk : k < m) :
    w.cell? ⟨g, k, none⟩ = some (.int .i64 ((s.loose.getD k 0 : Nat) : Int)) := by
  have ho := h.loo
  rw [hm] at ho
  rw [ho.cellAt k (by omega)]
  unfold inc21
  rw [List.getElem?_map, List.getElem?_eq_getElem (by omega)]
  simp [List.getD, show k < s.loose.length by omega]

set_option maxRecDepth 100000 in
set_option maxHeartbeats 4000000 in
theorem round_any {w0 w : World} {P bl Bo n : Nat} {iv ov : Value} {L : Nat → It} {s : FSt} {first : Int} {fF fW : Nat} (g : Bool) (C : Int) (h : LnAt w0 w P bl Bo n iv ov L s first fF fW) (hn : n ≤ 62) (hm0 : 0 < s.loose.length) (hm : s.loose.length ≤ n)
    (hL : ∀ i, i < n → HeldI (L i)) (hF : TellsI fF (facI g)) (hW : TellsI fW (wgtI g)) (hI : FInv n C 0 s) (hC : C ≤ 270582939648) :
    Calls Try.prog 23 #[.pointer (some ⟨P, 0, none⟩)] w fun e w' => e = .returned (.tuple #[]) ∧ ∃ Bo' ov', LnAt w0 w' P bl Bo' n iv ov' L (roundF g L first s) first fF fW := by
  obtain ⟨gb, c, hov, hgB, hgw, _⟩ := h.place hm0
  subst hov
  have hpl := hI.pl
  have hf0 := hI.lo
  have hf1 := hI.hi
  have hfr0 : -1099511627776 ≤ s.free := by omega
  have hfr1 : s.free ≤ 1099511627776 := by omega
  have hinv := fun k hk => roundTo_inv g L first s n C hL hI k hk
  have hrd : ∀ k, roundTo g L first s (k + 1) = _ := fun k => roundTo_succ g L first s k
  obtain ⟨f, hf⟩ : ∃ f, (fun j => trialF g L first s j) = f := ⟨_, rfl⟩
  have hf' : ∀ j, trialF g L first s j = f j := fun j => by rw [← hf]
  obtain ⟨sh, hsh⟩ : ∃ sh, sharesF g L first s = sh := ⟨_, rfl⟩
  have htry : ∀ j, f j = tryF L (s.loose.getD j 0) (sh j) := fun j => by rw [← hf' j, ← hsh]; rfl
  have hbr : breachF g L first s s.loose.length = fsum (fun j => (f j).2.2) s.loose.length := by unfold breachF; exact fsum_ext _ (fun i _ => by rw [hf'])
  simp only [hf', hbr] at hrd
  have D1 : ∀ W, Below w.heap.size w W → Calls Try.prog 40 #[.pointer (some ⟨P, 0, none⟩)] W fun e w' => e = .returned (.int .i64 (dealtF first s.free (fsumL (fun i => facI g (L i)) s.loose))) ∧ Below W.heap.size W w' := fun W hW2 =>
    dealt_any (facI g) (h.below hW2) (by omega) hm0 (by omega) hpl hF (fun i hi => (hL i hi).fac g) hfr0 hfr1
  have D2 : ∀ W, Below w.heap.size w W → Calls Try.prog 41 #[.pointer (some ⟨P, 0, none⟩)] W fun e w' => ∃ b, W.heap.size ≤ b ∧ e = .returned (.slice (some ⟨b, 0, none⟩) s.loose.length s.loose.length) ∧ Below W.heap.size W w' ∧ Row w' b s.loose.length (fun k => wgtI g (L (s.loose.getD k 0))) := fun W hW2 =>
    weights_any (wgtI g) (h.below hW2) (by omega) hm0 (by omega) hpl hW
  have D3 : ∀ b W, Row W b s.loose.length (fun k => wgtI g (L (s.loose.getD k 0))) → Calls Try.prog 39 #[.int .i64 (dealtF first s.free (fsumL (fun i => facI g (L i)) s.loose)), .slice (some ⟨b, 0, none⟩) s.loose.length s.loose.length] W fun e w' =>
      e = .returned (.slice (some ⟨W.heap.size, 0, none⟩) s.loose.length s.loose.length) ∧ Below W.heap.size W w' ∧ Row w' W.heap.size s.loose.length sh := fun b W hR => by
    have hl := len_rowF s.loose.length (fun k => wgtI g (L (s.loose.getD k 0)))
    have hD := Deal_told (dealtF first s.free (fsumL (fun i => facI g (L i)) s.loose)) (some ⟨b, 0, none⟩) s.loose.length ((List.range s.loose.length).map (fun k => wgtI g (L (s.loose.getD k 0)))) W (by rw [hl]; omega) (Lst_rowF hR)
    rw [hl, dealtF_H, ← map_getD (fun i => wgtI g (L i))] at hD
    have e : (fun j => shareS (dealtF first s.free (fsumL (fun i => facI g (L i)) s.loose)) (s.loose.map fun i => wgtI g (L i)) j) = sh := hsh
    rw [← e]
    exact hD
  have TR : ∀ k W, k < s.loose.length → Below w.heap.size w W → Calls Try.prog 42 #[.pointer (some ⟨P, 0, none⟩), .int .i64 ((s.loose.getD k 0 : Nat) : Int), .int .i64 (sh k)] W fun e w' => e = .returned (.agg #[.int .i64 ((f k).1 : Int), .int .i64 (f k).2.1, .int .i64 (f k).2.2]) ∧ Below W.heap.size W w' := fun k W hk hW2 => by
    have := try_any (h.below hW2) (s.loose.getD k 0) (sh k) (hpl k hk) (by omega) (hL _ (hpl k hk))
    rw [htry k]
    exact this
  have PL : ∀ k W, k < s.loose.length → Below w.heap.size w W → W.cell? ⟨gb, k, none⟩ = some (.int .i64 ((s.loose.getD k 0 : Nat) : Int)) := fun k W hk hW2 => (h.below hW2).placeAt rfl k hk
  have FB : ∀ k, k < s.loose.length → (f k).1 < n ∧ 0 ≤ (f k).2.1 ∧ (f k).2.1 ≤ 1073741824 ∧ -2147483648 ≤ (f k).2.2 ∧ (f k).2.2 ≤ 2147483648 := fun k hk => by
    have := tryF_bd (hL _ (hpl k hk)) (sh k)
    rw [htry k]
    exact ⟨hpl k hk, this⟩
  have hBK : ∀ W, Below w.heap.size w W → W.cell? ⟨P, 2, none⟩ = some (.slice (some ⟨gb, 0, none⟩) s.loose.length c) := fun W hb => cell_ofF (h.below hb).blk rfl
  have BB : ∀ i, i < n → -1073741824 ≤ (L i).b ∧ (L i).b ≤ 1073741824 := fun i hi => ⟨(hL i hi).b0, (hL i hi).b1⟩
  have r0 : roundTo g L first s 0 = ⟨s.len, [], s.free⟩ := rfl
  have hend : roundF g L first s = roundTo g L first s s.loose.length := rfl
  rw [hend]
  obtain ⟨ro, hro⟩ : ∃ ro, roundTo g L first s = ro := ⟨_, rfl⟩
  rw [hro] at hrd hinv r0 ⊢
  obtain ⟨m, hmm⟩ : ∃ m, s.loose.length = m := ⟨_, rfl⟩
  obtain ⟨d, hd⟩ : ∃ d, dealtF first s.free (fsumL (fun i => facI g (L i)) s.loose) = d := ⟨_, rfl⟩
  rw [hd] at D1 D3
  rw [hmm] at hm0 hm hrd hinv D2 D3 TR PL FB hBK ⊢
  obtain ⟨pl, hple⟩ : ∃ pl : Nat → Nat, (fun k => s.loose.getD k 0) = pl := ⟨_, rfl⟩
  have hpl2 : ∀ k, s.loose.getD k 0 = pl k := fun k => by rw [← hple]
  simp only [hpl2] at D2 D3 TR PL
  have hne := h.ne
  have hPw := blk_ltF h.blk
  have hlw : bl < w.heap.size := by have := h.lB; have := h.bB; omega
  have HH := Lib.hid h
  have DD1 := Lib.hid D1
  have DD2 := Lib.hid D2
  have DD3 := Lib.hid D3
  have TRR := Lib.hid TR
  have PLL := Lib.hid PL
  have FBB := Lib.hid FB
  have HBK := Lib.hid hBK
  have HBB := Lib.hid BB
  have HRD := Lib.hid hrd
  have HINV := Lib.hid hinv
  have HR0 := Lib.hid r0
  have HMM := Lib.hid hmm
  have c2 : w.cell? ⟨P, 2, none⟩ = some (.slice (some ⟨gb, 0, none⟩) m c) := hBK w (Below.refl _ _)
  have hmk := make_trials m (by omega)
  have hbm : Below w.heap.size w (mkT w m) := (Below.refl _ _).alloc (Nat.le_refl _) _
  have htm := TrR.start w m f
  have HTM := Lib.hid htm
  have HBM := Lib.hid hbm
  have HSM : Hid ((mkT w m).heap.size = w.heap.size + 1) := by unfold mkT Hid; simp
  clear h hL hF hW hI hpl hf0 hf1 hfr0 hfr1 hinv hrd hf hf' hsh htry hbr D1 D2 D3 TR PL FB hBK BB r0 hend hro hmm hd hple hpl2 htm hbm
  go_enter Try.func23, Try.ntmps23
  go_wp2_with fail
  generalize mkT w m = w1 at HTM HBM HSM ⊢
  refine (DD1.out w1 HBM.out).mono ?_
  rintro e w2 ⟨rfl, hb2⟩
  have HB2 := Lib.hid (HBM.out.trans (hb2.mono HBM.out.size))
  have HT2 := Lib.hid (HTM.out.blk (hb2.block _ (by have := HSM.out; omega)))
  have HS2 : Hid (w.heap.size < w2.heap.size) := by have h1 := HSM.out; have h2 := hb2.size; show _ < _; omega
  clear hb2 c2 hmk
  go_wp2_with fail
  refine (DD2.out w2 HB2.out).mono ?_
  rintro e w3 ⟨b3, hz3, rfl, hb3, hr3⟩
  have HB3 := Lib.hid (HB2.out.trans (hb3.mono HB2.out.size))
  have HT3 := Lib.hid (HT2.out.blk (hb3.block _ HS2.out))
  have HS3 : Hid (w.heap.size < w3.heap.size) := by have h1 := HS2.out; have h2 := hb3.size; show _ < _; omega
  have D := Lib.hid (DD3.out b3 w3 hr3)
  clear hb3 hr3 hz3
  go_wp2_with fail
  refine D.out.mono ?_
  rintro e w4 ⟨rfl, hb4, hr4⟩
  obtain ⟨B4, hB4⟩ : ∃ B4, w3.heap.size = B4 := ⟨_, rfl⟩
  rw [hB4] at hr4 ⊢
  have HB4 := Lib.hid (HB3.out.trans (hb4.mono HB3.out.size))
  have HT4 := Lib.hid (HT3.out.blk (hb4.block _ HS3.out))
  have hlt4 : B4 < w4.heap.size := Row_lt hr4 hm0
  have hSB : w.heap.size < B4 := by have := HS3.out; omega
  have HR4 := Lib.hid hr4
  clear hb4 hr4 hB4 D
  obtain ⟨S, hS⟩ : ∃ S, S = w.heap.size := ⟨_, rfl⟩
  rw [← hS] at HT4 hSB hPw hlw ⊢
  have HS := Lib.hid hS
  clear hS
  go_wp2_with fail
  go_loopw [3, 20] (fun va vi wr => ∃ k : Nat, vi = .int .i64 k ∧ k ≤ m ∧ va = .int .i64 (fsum (fun j => (f j).2.2) k) ∧ Hid (Below w.heap.size w wr) ∧ Hid (TrR wr S m k f) ∧ Hid (Row wr B4 m sh) ∧ Hid (B4 < wr.heap.size)) (fun _ vi _ => m - (intOf vi).toNat)
  case atStart => exact ⟨0, rfl, by omega, rfl, HB4, HT4, HR4, hlt4⟩
  case round =>
    clear HB4 HT4 HR4 hlt4 HB2 HB3 HT2 HT3 HS2 HS3 HTM HBM HSM
    obtain ⟨k, rfl, hk, rfl, HB, HT, HR, HZ⟩ := hrel
    have hsb := fsum_b2 (f := fun j => (f j).2.2) k (fun i hi => ⟨(FBB.out i (by omega)).2.2.2.1, (FBB.out i (by omega)).2.2.2.2⟩)
    have hnx : fsum (fun j => (f j).2.2) (k + 1) = fsum (fun j => (f j).2.2) k + (f k).2.2 := rfl
    obtain ⟨sk, hsk⟩ : ∃ x, fsum (fun j => (f j).2.2) k = x := ⟨_, rfl⟩
    rw [hsk] at hsb hnx ⊢
    have s0 : -137438953472 ≤ sk := by omega
    have s1 : sk ≤ 137438953472 := by omega
    by_cases hlt : k < m
    · have hltz : (k : Int) < (m : Int) := by omega
      have hfb := FBB.out k hlt
      have c2 := HBK.out wr HB.out
      have cp := PLL.out k wr hlt HB.out
      have cs := (HR.out k hlt).1
      have TC := Lib.hid (TRR.out k wr hlt HB.out)
      obtain ⟨x1, hx1⟩ : ∃ x, (f k).1 = x := ⟨_, rfl⟩
      obtain ⟨x2, hx2⟩ : ∃ x, (f k).2.1 = x := ⟨_, rfl⟩
      obtain ⟨x3, hx3⟩ : ∃ x, (f k).2.2 = x := ⟨_, rfl⟩
      rw [hx1, hx2, hx3] at TC
      rw [hx3] at hnx
      rw [hx1, hx2, hx3] at hfb
      obtain ⟨v, hv⟩ : ∃ v, sh k = v := ⟨_, rfl⟩
      rw [hv] at cs TC
      obtain ⟨pk, hpk⟩ : ∃ pk, pl k = pk := ⟨_, rfl⟩
      rw [hpk] at cp TC
      have x30 : -2147483648 ≤ x3 := hfb.2.2.2.1
      have x31 : x3 ≤ 2147483648 := hfb.2.2.2.2
      have NX := Lib.hid hnx
      have HX1 := Lib.hid hx1
      have HX2 := Lib.hid hx2
      have HX3 := Lib.hid hx3
      clear hsb hnx hsk hfb hx1 hx2 hx3 hv hpk
      go_wp2_with fail
      refine TC.out.mono ?_
      rintro e w9 ⟨rfl, hb9⟩
      have ht9 := HT.out.blk (hb9.block S (by have := HZ.out; omega))
      have hr9 := row_blk HR.out (hb9.block B4 HZ.out)
      obtain ⟨⟨a, b, cc, y0, y1, y2, _⟩, g0, g1, g2⟩ := ht9 k hlt
      have hput := ht9.put hlt
      rw [HX1.out, HX2.out, HX3.out] at hput
      have HPUT := Lib.hid hput
      have HB9 := Lib.hid (HB.out.trans (hb9.mono (by have := HB.out.size; omega)))
      have HR9 := Lib.hid hr9
      have HZ9 : Hid (B4 < w9.heap.size) := by have h1 := HZ.out; have h2 := hb9.size; show _ < _; omega
      clear hb9 ht9 hr9 hput c2 cp cs
      go_wp2_with fail
      go_roundw
      case rel =>
        refine ⟨k + 1, by go_num, by omega, by rw [NX.out], ?_, HPUT, ?_, ?_⟩
        · exact ((HB9.out.setCell (p := ⟨S, k * 3, none⟩) (by rw [← HS.out]; exact Nat.le_refl S) _).setCell (p := ⟨S, k * 3 + 1, none⟩) (by rw [← HS.out]; exact Nat.le_refl S) _).setCell (p := ⟨S, k * 3 + 2, none⟩) (by rw [← HS.out]; exact Nat.le_refl S) _
        · exact ((HR9.out.other (by omega) _).other (by omega) _).other (by omega) _
        · have h1 := HZ9.out
          show _ < _
          simp
          omega
      case measure => simp [intOf]; omega
    · have hkm : k = m := by omega
      have hskm : sk = fsum (fun j => (f j).2.2) m := by rw [← hsk, hkm]
      have htm : TrR wr S m m f := by rw [← hkm]; rw [← hkm] at HT; exact HT.out
      have hkz : (m : Int) ≤ (k : Int) := by omega
      obtain ⟨al, hal⟩ : ∃ al, fsum (fun j => (f j).2.2) m = al := ⟨_, rfl⟩
      rw [hal] at hskm HRD
      rw [hskm]
      have hLn := HH.out.below HB.out
      have q2 : wr.cell? ⟨P, 2, none⟩ = some (.slice (some ⟨gb, 0, none⟩) m c) := HBK.out wr HB.out
      have f2 : wr.frozen? ⟨P, 2, none⟩ = false := frz_ofF hLn.blk
      have hcl := hLn.clear
      have hso : wr.heap[S]? = (wr.setCell ⟨P, 2, none⟩ (.slice none 0 0)).heap[S]? := (heap_setCell_other _ _ _ _ (by show S ≠ P; omega)).symm
      have htm2 := htm.blk hso.symm
      have hSr : S < wr.heap.size := by have := HZ.out; omega
      obtain ⟨B5, hB5⟩ : ∃ B5, wr.heap.size = B5 := ⟨_, rfl⟩
      rw [hB5] at hcl hSr
      have HCL := Lib.hid hcl
      have HTM2 := Lib.hid htm2
      clear hskm hsk hal s0 s1 hsb hnx htm hLn hcl hso htm2 hB5 HT HR HZ hkm hk HB sk DD1 DD2 DD3 TRR PLL HBK HH
      go_upto_region 9 with fail
      clear q2 f2
      generalize wr.setCell ⟨P, 2, none⟩ (.slice none 0 0) = w5 at HCL HTM2 ⊢
      go_wp2_with fail
      have hkn := Lib.hid hlt
      clear hlt hkz
      go_loopw [51] (fun vi wr => ∃ (k : Nat) (ov' : Value), vi = .int .i64 k ∧ k ≤ m ∧ Hid (LnAt w0 wr P bl B5 n iv ov' L (ro k) first fF fW) ∧ Hid (TrR wr S m m f)) (fun vi _ => m - (intOf vi).toNat)
      case atStart => exact ⟨0, _, rfl, by omega, by rw [HR0.out]; exact HCL, HTM2⟩
      case round =>
        clear HCL HTM2
        obtain ⟨k2, ov', rfl, hk2, HL2, HT2⟩ := hrel
        by_cases hlt : k2 < m
        · have hltz : (k2 : Int) < (m : Int) := by omega
          obtain ⟨⟨a, b, cc, y0, y1, y2, ht⟩, _, _, _⟩ := HT2.out k2 hlt
          obtain ⟨rfl, rfl, rfl⟩ := ht hlt
          have hfb := FBB.out k2 hlt
          have hrd := HRD.out k2
          obtain ⟨x1, hx1⟩ : ∃ x, (f k2).1 = x := ⟨_, rfl⟩
          obtain ⟨x2, hx2⟩ : ∃ x, (f k2).2.1 = x := ⟨_, rfl⟩
          obtain ⟨x3, hx3⟩ : ∃ x, (f k2).2.2 = x := ⟨_, rfl⟩
          rw [hx1] at y0 hrd hfb
          rw [hx2] at y1 hrd hfb
          rw [hx3] at y2 hrd hfb
          have hin := HINV.out k2 hk2
          have hlo := hin.lo
          have hhi := hin.hi
          have fr0 : -1099511627776 ≤ (ro k2).free := by omega
          have fr1 : (ro k2).free ≤ 1099511627776 := by omega
          have hll : (ro k2).loose.length ≤ 200000 := by
            have := hin.lo; have := hin.hi; omega
          -- the box of the trial
          have hb6 := below_one21 wr (.cells #[.int .i64 (x1 : Int), .int .i64 x2, .int .i64 x3] 61)
          have hbx := heap_alloc_new wr (.cells #[.int .i64 (x1 : Int), .int .i64 x2, .int .i64 x3] 61)
          have hL6 := HL2.out.below hb6
          have hS6 : S < wr.heap.size := by have := HL2.out.bB; omega
          have hT6 := HT2.out.blk (hb6.block S hS6)
          generalize hw6 : wr.alloc (.cells #[.int .i64 (x1 : Int), .int .i64 x2, .int .i64 x3] 61) = w6 at hb6 hbx hL6 hT6
          have hs6 := hb6.size
          obtain ⟨X, hX⟩ : ∃ X, wr.heap.size = X := ⟨_, rfl⟩
          rw [hX] at hbx hS6 hs6
          have EN := Lib.hid (fun W => ends_any (x1 : Int) x2 x3 al W)
          obtain ⟨en, hen⟩ : ∃ en, endsF al x3 = en := ⟨_, rfl⟩
          rw [hen] at EN hrd
          have d0 : w6.cell? ⟨X, 0, none⟩ = some (.int .i64 (x1 : Int)) := cell_ofF hbx rfl
          have d1 : w6.cell? ⟨X, 1, none⟩ = some (.int .i64 x2) := cell_ofF hbx rfl
          have d2 : w6.cell? ⟨X, 2, none⟩ = some (.int .i64 x3) := cell_ofF hbx rfl
          have HBX := Lib.hid hbx
          have HL6 := Lib.hid hL6
          have HT6 := Lib.hid hT6
          have HRDK := Lib.hid hrd
          have HFB := Lib.hid hfb
          have HW6 := Lib.hid hw6
          clear hx1 hx2 hx3 hfb hrd hin hlo hhi hb6 hbx hL6 hT6 hen HL2 HT2
          have hlP := HL6.out.pB
          have hlB := HL6.out.lB
          have hPS : P ≠ S := by omega
          have hbS : bl ≠ S := by omega
          go_upto_region 12 with fail
          clear hw6 y0 y1 y2 hX
          cases en
          · -- it stays
            rw [show stepF (fun i => (L i).b) (ro k2) (x1, x2, false) = stay (ro k2) x1 from rfl] at HRDK
            go_wp2_with fail
            refine (EN.out w6).mono ?_
            rintro e w7 ⟨rfl, hb7⟩
            have hL7 := (HL6.out.below hb7).drew
            have hX7 : X < w6.heap.size := blk_ltF HBX.out
            have hbx7 : w7.drew.heap[X]? = some (.cells #[.int .i64 (x1 : Int), .int .i64 x2, .int .i64 x3] 61 (0, 0)) := (hb7.block X hX7).trans HBX.out
            have hT7 : TrR w7.drew S m m f := HT6.out.blk (hb7.block S (by omega))
            have e0 : w7.drew.cell? ⟨P, 2, none⟩ = some ov' := cell_ofF hL7.blk rfl
            have e1 : w7.drew.cell? ⟨X, 0, none⟩ = some (.int .i64 (x1 : Int)) := cell_ofF hbx7 rfl
            have lP := blk_ltF hL7.blk
            have e0a : ∀ ob, (w7.alloc ob).cell? ⟨P, 2, none⟩ = some ov' := fun ob => (cell_blk (((Below.refl w7.heap.size w7).alloc (Nat.le_refl _) ob).block P lP) 2).trans e0
            have e1a : ∀ ob, (w7.alloc ob).cell? ⟨X, 0, none⟩ = some (.int .i64 (x1 : Int)) := fun ob => (cell_blk (((Below.refl w7.heap.size w7).alloc (Nat.le_refl _) ob).block X (blk_ltF hbx7)) 0).trans e1
            have lX := blk_ltF hbx7
            obtain ⟨v5, w5', hr5, ho5, hg5⟩ := put21 B5 ov' (ro k2).loose x1 w7.drew hL7.bB hll hL7.loo
            obtain ⟨g5, c5, hv5, _, _⟩ := ho5.form (by simp)
            rw [show ((ro k2).loose ++ [x1]).length = (ro k2).loose.length + 1 by simp] at hv5
            subst hv5
            obtain ⟨hP5, hL5, hK5⟩ := hL7.stay x1 ho5 hg5
            have g0 : w5'.cell? ⟨P, 2, none⟩ = some ov' := (cell_blk hP5 2).trans e0
            have g1 : w5'.frozen? ⟨P, 2, none⟩ = false := (frz_blk hP5 2).trans (frz_ofF hL7.blk)
            have hT5 := hT7.blk (hK5.blk S hSr (by omega) (by omega))
            have HL5 := Lib.hid hL5
            have HT5 := Lib.hid hT5
            clear hb7 hL7 hX7 hbx7 hT7 ho5 hg5 hP5 hL5 hK5 hT5 d0 d1 d2
            go_upto_region 14 with fail
            go_region_law (refine step_append_runA rfl (.tmp 68) (.tmp 71) 25 rfl _ _ _ _ (by first | (simp [Act.eval]; done) | simp [Act.eval, Act.put]) (by first | (simp [Act.eval]; done) | simp [Act.eval, Act.put]) hr5 ?_)
            all_goals go_wp2_with fail
            all_goals go_roundw
            all_goals first
              | exact ⟨k2 + 1, _, by go_num, by omega, by rw [HRDK.out]; exact HL5, HT5⟩
              | (simp [intOf]; omega)
          · -- it is frozen
            rw [show stepF (fun i => (L i).b) (ro k2) (x1, x2, true) = frz (fun i => (L i).b) (ro k2) x1 x2 from rfl] at HRDK
            go_wp2_with fail
            refine (EN.out w6).mono ?_
            rintro e w7 ⟨rfl, hb7⟩
            have hL7 := HL6.out.below hb7
            have hX7 : X < w6.heap.size := blk_ltF HBX.out
            have hbx7 : w7.heap[X]? = some (.cells #[.int .i64 (x1 : Int), .int .i64 x2, .int .i64 x3] 61 (0, 0)) := (hb7.block X hX7).trans HBX.out
            have hT7 : TrR w7 S m m f := HT6.out.blk (hb7.block S (by omega))
            have e0 : w7.cell? ⟨X, 0, none⟩ = some (.int .i64 (x1 : Int)) := cell_ofF hbx7 rfl
            have e1 : w7.cell? ⟨X, 1, none⟩ = some (.int .i64 x2) := cell_ofF hbx7 rfl
            have hfb := HFB.out
            have hbb := HBB.out x1 hfb.1
            have FZ := Lib.hid (freeze_any hL7 x1 x2 hfb.1 (by omega) fr0 fr1 hbb.1 hbb.2 (by omega) (by omega))
            have HT7 := Lib.hid hT7
            clear hb7 hL7 hX7 hbx7 hT7 d0 d1 d2 hfb hbb
            go_wp2_with fail
            refine FZ.out.mono ?_
            rintro e w8 ⟨rfl, hL8, hK8⟩
            have hT8 := HT7.out.blk (hK8.blk S hSr (by omega) (by omega))
            rw [← HRDK.out] at hL8
            have HL8 := Lib.hid hL8
            have HT8 := Lib.hid hT8
            clear hL8 hK8 hT8 e0 e1
            go_wp2_with fail
            go_roundw
            case rel => exact ⟨k2 + 1, ov', by go_num, by omega, HL8, HT8⟩
            case measure => simp [intOf]; omega
        · have hkm : k2 = m := by omega
          have hkz2 : (m : Int) ≤ (k2 : Int) := by omega
          rw [hkm] at HL2
          have HL3 := Lib.hid HL2.out
          clear hkm
          go_wp2_with fail
          go_end0
          exact ⟨rfl, _, _, HL3.out⟩
end Go.Proofs.Ytaegajlffiepoaa
