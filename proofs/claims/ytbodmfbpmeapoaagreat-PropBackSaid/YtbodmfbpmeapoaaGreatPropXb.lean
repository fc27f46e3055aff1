/- Joined texts: PropX4 PropX5 PropX6. -/
import Derived.Test.YtbodmfbpmeapoaaGreatPropXa
namespace Go.Proofs.YtbodmfbpmeapoaaGreat
open Go.RowKit TreN LexP FixP SynP ValP PropP FixM
set_option linter.unusedVariables false

/-- who tells what stands on each side -/
def SdIs (w : World) (L : List Val) (e : Ending) (w' : World) : Prop :=
  ∃ b, e = .returned (.func (.func 48) #[] #[.pointer (some ⟨b, 0, none⟩)]) ∧ SdAt w' b L ∧ Below w.heap.size w w'
theorem hd_get {vs : List Val} (h : 0 < vs.length) : vs[0] = hdV vs := by
  cases vs with
  | nil => simp at h
  | cons v r => rfl

set_option maxRecDepth 100000 in
set_option maxHeartbeats 1000000 in
theorem sides_gen (name : List UInt8) (a : Option Addr) (vs : List Val) (n cap : Nat) (w : World) (hn : vs.length = n) (h0 : 0 < n) (hl : n ≤ 100000) (hT : Vs w a vs)
    (hg : genS (hdV vs) = true ∨ (name ≠ flowT ∧ name ≠ flexT ∧ name ≠ contT)) :
    Calls Tryz.prog 22 #[.string ⟨name.toArray⟩, .slice a n cap] w (SdIs w vs) := by
  obtain ⟨b, o, rfl, hb, d1, d2, d3, d4⟩ := hT.get (k := 0) (by omega)
  rw [hd_get (by omega)] at d1 d2 d3 d4
  obtain ⟨⟨vk, vn, vd, vx⟩, hv⟩ : ∃ v, hdV vs = v := ⟨_, rfl⟩
  rw [hv] at d1 d2 d3 d4 hg
  simp only [Nat.zero_mul, Nat.add_zero] at d1 d2 d3 d4
  have HSD : Hid (SdAt (w.alloc (.cells #[.slice (some ⟨b, o, none⟩) n cap] 49)) w.heap.size vs) := Lib.hid ⟨⟨_, cap, by rw [hn]; exact heap_alloc_new w _, hT.below (below_oneP w _)⟩⟩
  have HBB := Lib.hid (below_oneP w (.cells #[.slice (some ⟨b, o, none⟩) n cap] 49))
  obtain ⟨g, hgg⟩ : ∃ g, genS ⟨vk, vn, vd, vx⟩ = g := ⟨_, rfl⟩
  have GE := fun W => general_any vk vn vd vx W
  unfold genS at hgg
  unfold genS at hg
  rw [hgg] at GE hg
  have GH := Lib.hid GE
  have h0z : (0 : Int) < (n : Int) := by omega
  clear GE hgg hv hT hn
  cases g with
  | true =>
    clear hg
    go_enter Tryz.func22, Tryz.ntmps22
    go_wp2_with fail
    refine (GH.out _).mono ?_
    rintro e w1 ⟨rfl, hb1⟩
    have HB1 := Lib.hid (HBB.out.trans (hb1.mono HBB.out.size))
    have HS1 := Lib.hid (HSD.out.keep hb1)
    clear hb1
    go_wp2_with fail
    go_ret
    exact ⟨_, rfl, HS1.out, HB1.out⟩
  | false =>
    obtain ⟨n1, n2, n3⟩ := hg.resolve_left (by simp)
    have z1 : (name == [102, 108, 101, 120, 45, 102, 108, 111, 119]) = false := by rw [beq_eq_false_iff_ne]; exact n1
    have z2 : (name == [102, 108, 101, 120]) = false := by rw [beq_eq_false_iff_ne]; exact n2
    have z3 : (name == [99, 111, 110, 116, 97, 105, 110, 101, 114]) = false := by rw [beq_eq_false_iff_ne]; exact n3
    clear hg n1 n2 n3
    go_enter Tryz.func22, Tryz.ntmps22
    go_wp2_with fail
    refine (GH.out _).mono ?_
    rintro e w1 ⟨rfl, hb1⟩
    have HB1 := Lib.hid (HBB.out.trans (hb1.mono HBB.out.size))
    have HS1 := Lib.hid (HSD.out.keep hb1)
    clear hb1
    go_wp2_with fail
    go_ret
    exact ⟨_, rfl, HS1.out, HB1.out⟩

/-- what Parse answers -/
def PdIs (w : World) (r : Int × List Dec10) (e : Ending) (w' : World) : Prop :=
  (∃ a c, e = .returned (.tuple #[.slice a r.2.length c, .int .i64 r.1]) ∧ Ds w' a r.2) ∧ Below w.heap.size w w'
theorem pdIs_err {w w' : World} {k : Int} {r : Int × List Dec10} (hr : r = (k, [])) (hb : Below w.heap.size w w') : PdIs w r (.returned (.tuple #[.slice none 0 0, .int .i64 k])) w' := by
  subst hr; exact ⟨⟨none, 0, rfl, Or.inl rfl⟩, hb⟩
/-- what tell answers: the values, or none -/
def TlIs (w : World) (r : Option (List Val)) (e : Ending) (w' : World) : Prop :=
  (match r with | none => ∃ a n c m, m ≠ (0 : Int) ∧ e = .returned (.tuple #[.slice a n c, .int .i64 m]) | some vs => ∃ a c, e = .returned (.tuple #[.slice a vs.length c, .int .i64 0]) ∧ Vs w' a vs) ∧ Below w.heap.size w w'

set_option maxRecDepth 100000 in
set_option maxHeartbeats 1000000 in
theorem tell_any (name : List UInt8) (a : Option Addr) (l : List Tok) (cap : Nat) (imp : Bool) (w : World) (h1 : l.length ≤ cap) (h2 : cap ≤ maxLen) (hl : l.length ≤ 90000) (hT : Tks w a l) (hx : TxOk l) (hc : name ≠ contT) :
    Calls Tryz.prog 19 #[.agg #[.string ⟨name.toArray⟩, .slice a l.length cap, .bool imp]] w (TlIs w (parseV l)) := by
  have z3 : (name == [99, 111, 110, 116, 97, 105, 110, 101, 114]) = false := by rw [beq_eq_false_iff_ne]; exact hc
  obtain ⟨n, hn⟩ : ∃ n, l.length = n := ⟨_, rfl⟩
  have HBB := Lib.hid (below_oneP w (.cells #[.string ⟨name.toArray⟩, .slice a n cap, .bool imp] 28))
  have P := Parse9_any a l cap (w.alloc (.cells #[.string ⟨name.toArray⟩, .slice a n cap, .bool imp] 28)) h1 h2 hl (hT.below HBB.out) hx
  obtain ⟨R, hR⟩ : ∃ R, parseV l = R := ⟨_, rfl⟩
  rw [hR, hn] at P
  rw [hR, hn]
  have PH := Lib.hid P
  clear P hR hn hc h1 h2 hl hT hx
  go_enter Tryz.func19, Tryz.ntmps19
  go_wp2_with fail
  refine PH.out.mono ?_
  rintro e w1 ⟨h, hb1⟩
  have HB1 := Lib.hid (HBB.out.trans (hb1.mono HBB.out.size))
  clear hb1
  cases R with
  | none =>
    obtain rfl := h
    go_wp2_with fail
    go_ret2
    exact ⟨⟨none, 0, 0, 22, by decide, rfl⟩, HB1.out⟩
  | some vs =>
    obtain ⟨v, rfl, hv⟩ := h
    obtain ⟨a1, c1, rfl, hvs, _, _⟩ := hv.vs
    have HV := Lib.hid hvs
    obtain ⟨m, hm⟩ : ∃ m, vs.length = m := ⟨_, rfl⟩
    have HM := Lib.hid hm
    rw [hm]
    clear hv hvs hm
    go_wp2_with fail
    go_ret2
    refine ⟨⟨a1, c1, ?_, HV.out⟩, HB1.out⟩
    rw [HM.out]; rfl
end Go.Proofs.YtbodmfbpmeapoaaGreat

namespace Go.Proofs.YtbodmfbpmeapoaaGreat
open Go.RowKit TreN LexP FixP SynP ValP PropP FixM
set_option linter.unusedVariables false

theorem all_take {l : List Dec10} {k : Nat} (h : k < l.length) (h1 : (l.take k).all takesD = true) (h2 : takesD l[k] = true) : (l.take (k + 1)).all takesD = true := by
  rw [List.take_succ_eq_append_getElem h, List.all_append, h1]; simp [h2]
theorem not_all {l : List Dec10} {k : Nat} (h : k < l.length) (h2 : takesD l[k] = false) : l.all takesD = false := by
  rw [List.all_eq_false]; exact ⟨l[k], List.getElem_mem h, by rw [h2]; simp⟩

set_option maxRecDepth 100000 in
set_option maxHeartbeats 4000000 in
theorem Parse10_of (name : List UInt8) (a : Option Addr) (l : List Tok) (n cap : Nat) (imp : Bool) (w : World) (told : Option (List Val)) (hn : l.length = n)
    (TL : ∀ W, Below w.heap.size w W → Calls Tryz.prog 19 #[.agg #[.string ⟨name.toArray⟩, .slice a n cap, .bool imp]] W (TlIs W told))
    (SD : ∀ vs, told = some vs → fitP vs (stP name).2 = true → ∀ W a c, Vs W a vs → Calls Tryz.prog 22 #[.string ⟨name.toArray⟩, .slice a vs.length c] W (SdIs W (partsP name vs)))
    (hv : ∀ vs, told = some vs → vs.length ≤ 90000)
    (hp : ∀ vs, told = some vs → fitP vs (stP name).2 = true → 0 < (partsP name vs).length ∧ (partsP name vs).length ≤ 100000 ∧ ∀ v ∈ partsP name vs, v.name.length ≤ maxLen) :
    Calls Tryz.prog 8 #[.agg #[.string ⟨name.toArray⟩, .slice a n cap, .bool imp]] w (PdIs w (parseP name told imp)) := by
  have hBX : (w.alloc (.cells #[.string ⟨name.toArray⟩, .slice a n cap, .bool imp] 28)).heap[w.heap.size]? = some (.cells #[.string ⟨name.toArray⟩, .slice a n cap, .bool imp] 28 (0, 0)) := heap_alloc_new w _
  have HBB := Lib.hid (below_oneP w (.cells #[.string ⟨name.toArray⟩, .slice a n cap, .bool imp] 28))
  have ST := fun W => standsFor_any name W
  have hbd := stP_bd name
  obtain ⟨R, hR⟩ : ∃ R, parseP name told imp = R := ⟨_, rfl⟩
  rw [hR]
  unfold parseP at hR
  obtain ⟨first, hf⟩ : ∃ f, (stP name).1 = f := ⟨_, rfl⟩
  obtain ⟨count, hc⟩ : ∃ c, (stP name).2 = c := ⟨_, rfl⟩
  rw [hf, hc] at ST hR hbd
  rw [hc] at SD hp
  have SH := Lib.hid ST
  have HX := Lib.hid hBX
  obtain ⟨hc4, hf37⟩ := hbd
  have TLH := Lib.hid TL
  have SDH := Lib.hid SD
  have HVH := Lib.hid hv
  have HPH := Lib.hid hp
  clear ST TL SD hv hp hBX hn hf hc
  generalize hwb : w.alloc (.cells #[.string ⟨name.toArray⟩, .slice a n cap, .bool imp] 28) = wb at HX HBB
  have c0 : wb.cell? ⟨w.heap.size, 0, none⟩ = some (.string ⟨name.toArray⟩) := cell_of HX.out rfl
  have c1 : wb.cell? ⟨w.heap.size, 1, none⟩ = some (.slice a n cap) := cell_of HX.out rfl
  have c2 : wb.cell? ⟨w.heap.size, 2, none⟩ = some (.bool imp) := cell_of HX.out rfl
  go_enter Tryz.func8, Tryz.ntmps8
  go_wp2_with fail
  refine (SH.out _).mono ?_
  rintro e w1 ⟨rfl, hb1⟩
  have HB1 := Lib.hid hb1
  have hx1 := (hb1.block _ (blk_ltP HX.out)).trans HX.out
  have c0 : w1.cell? ⟨w.heap.size, 0, none⟩ = some (.string ⟨name.toArray⟩) := cell_of hx1 rfl
  have c1 : w1.cell? ⟨w.heap.size, 1, none⟩ = some (.slice a n cap) := cell_of hx1 rfl
  have c2 : w1.cell? ⟨w.heap.size, 2, none⟩ = some (.bool imp) := cell_of hx1 rfl
  clear hb1 hx1 hwb
  rcases Nat.eq_zero_or_pos count with h0 | h0
  · subst h0
    have HR : Hid (R = (23, [])) := Lib.hid (by rw [← hR, if_pos rfl])
    clear hR
    go_wp2_with fail
    go_ret2
    exact pdIs_err HR.out (HBB.out.trans (HB1.out.mono HBB.out.size))
  · rw [if_neg (by omega)] at hR
    have h0z : ((count : Int) == 0) = false := by rw [beq_eq_false_iff_ne]; omega
    have T := Lib.hid (TLH.out w1 (HBB.out.trans (HB1.out.mono HBB.out.size)))
    go_wp2_with fail
    refine T.out.mono ?_
    rintro e w2 ⟨h, hb2⟩
    have HB2 := Lib.hid (HB1.out.trans (hb2.mono HB1.out.size))
    have hx2 := (HB2.out.block _ (blk_ltP HX.out)).trans HX.out
    have c0 : w2.cell? ⟨w.heap.size, 0, none⟩ = some (.string ⟨name.toArray⟩) := cell_of hx2 rfl
    have c1 : w2.cell? ⟨w.heap.size, 1, none⟩ = some (.slice a n cap) := cell_of hx2 rfl
    have c2 : w2.cell? ⟨w.heap.size, 2, none⟩ = some (.bool imp) := cell_of hx2 rfl
    clear hb2 hx2
    cases told with
    | none =>
      obtain ⟨ta, tn, tc, m, hm, rfl⟩ := h
      have HR : Hid (R = (22, [])) := Lib.hid hR.symm
      have hmz : (m == 0) = false := by rw [beq_eq_false_iff_ne]; exact hm
      have hmz2 : (m != 0) = true := by rw [bne_iff_ne]; exact hm
      clear hR hm
      go_wp2_with fail
      go_ret2
      exact pdIs_err HR.out (HBB.out.trans (HB2.out.mono HBB.out.size))
    | some vs =>
      obtain ⟨ta, tc, rfl, hvs⟩ := h
      have hlv := HVH.out vs rfl
      have HV := Lib.hid hvs
      have F := fit_any ta vs vs.length tc count w2 rfl (by omega) hc4 hvs
      obtain ⟨ft, hft⟩ : ∃ b, fitP vs count = b := ⟨_, rfl⟩
      simp only [hft] at F hR
      obtain ⟨m, hm⟩ : ∃ m, vs.length = m := ⟨_, rfl⟩
      rw [hm] at F hlv ⊢
      have FH := Lib.hid F
      have HM := Lib.hid hm
      clear F hvs hm
      cases ft with
      | false =>
        have HR : Hid (R = (22, [])) := Lib.hid (by rw [← hR, if_neg (by simp)])
        clear hR hft
        go_wp2_with fail
        refine FH.out.mono ?_
        rintro e w3 ⟨rfl, hb3⟩
        have HB3 := Lib.hid (HB2.out.trans (hb3.mono HB2.out.size))
        clear hb3
        go_wp2_with fail
        go_ret2
        exact pdIs_err HR.out (HBB.out.trans (HB3.out.mono HBB.out.size))
      | true =>
        have SS := fun W c hW => SDH.out vs rfl hft W ta c hW
        obtain ⟨hp1, hp2, hp3⟩ := HPH.out vs rfl hft
        obtain ⟨L, hL⟩ : ∃ L, partsP name vs = L := ⟨_, rfl⟩
        rw [hL] at SS hp1 hp2 hp3 hR
        rw [HM.out] at SS
        simp only [true_and] at hR
        have SSH := Lib.hid SS
        have HP3 := Lib.hid hp3
        clear SS hL hft hp3
        go_wp2_with fail
        refine FH.out.mono ?_
        rintro e w3 ⟨rfl, hb3⟩
        have HB3 := Lib.hid (HB2.out.trans (hb3.mono HB2.out.size))
        have hx3 := (HB3.out.block _ (blk_ltP HX.out)).trans HX.out
        have c0 : w3.cell? ⟨w.heap.size, 0, none⟩ = some (.string ⟨name.toArray⟩) := cell_of hx3 rfl
        have c1 : w3.cell? ⟨w.heap.size, 1, none⟩ = some (.slice a n cap) := cell_of hx3 rfl
        have c2 : w3.cell? ⟨w.heap.size, 2, none⟩ = some (.bool imp) := cell_of hx3 rfl
        have S3 := Lib.hid (SSH.out w3 tc (HV.out.below hb3))
        clear hb3 hx3
        go_wp2_with fail
        refine S3.out.mono ?_
        rintro e w4 ⟨B, rfl, hsd, hb4⟩
        have HB4 := Lib.hid (HB3.out.trans (hb4.mono HB3.out.size))
        have D := Lib.hid (declare_any first count B L w4 hc4 hf37 hp1 hp2 hsd)
        clear hb4 hsd
        go_wp2_with fail
        refine D.out.mono ?_
        rintro e w5 ⟨⟨v, rfl, hown⟩, hb5⟩
        have HB5 := Lib.hid (HB4.out.trans (hb5.mono HB4.out.size))
        obtain ⟨g, cp, rfl, hg1, hg2⟩ := hown.form h0
        obtain ⟨ds, hds⟩ : ∃ ds, declP first L count = ds := ⟨_, rfl⟩
        have hdl : ds.length = count := by rw [← hds]; exact declP_len first L count
        have HDN : Hid (∀ d ∈ ds, d.val.name.length ≤ maxLen) := Lib.hid (by
          intro d hd
          rw [← hds] at hd
          unfold declP at hd
          obtain ⟨i, hi, rfl⟩ := List.mem_map.1 hd
          refine HP3.out _ ?_
          show sideP L i ∈ L
          unfold sideP
          rw [List.getD_eq_getElem?_getD, List.getElem?_eq_getElem (sIx_lt hp1 i), Option.getD_some]
          exact List.getElem_mem _)
        rw [hds] at hown hR
        have HO := Lib.hid hown
        have HDL := Lib.hid hdl
        have HRR := Lib.hid hR
        have hgw : wb.heap.size ≤ g := Nat.le_trans HB4.out.size hg1
        have hgx : w.heap.size ≤ g := Nat.le_trans HBB.out.size hgw
        have hg3 : w.heap.size < g := by have := blk_ltP HX.out; omega
        clear hb5 hown hds hdl hR
        go_wp2_with fail
        go_loopw [40] (fun v40 wr => ∃ k : Nat, v40 = .int .i64 (k : Int) ∧ k ≤ count ∧ Hid (Below wb.heap.size wb wr) ∧ Hid (wr.ownsRow w4.heap.size 25 6 (.slice (some ⟨g, 0, none⟩) count cp) count (dcs10 ((ds.take k).map (setI imp) ++ ds.drop k))) ∧ Hid ((ds.take k).all takesD = true) ∧ Hid (g < wr.heap.size)) (fun v40 _ => count - (intOf v40).toNat)
        case atStart => exact ⟨0, rfl, by omega, HB5, Lib.hid (by simpa using HO.out), Lib.hid rfl, Lib.hid hg2⟩
        case round =>
          obtain ⟨k, rfl, hk, HB, HOW, HA, HG⟩ := hrel
          have hx6 := (HB.out.block _ (blk_ltP HX.out)).trans HX.out
          have c2 : wr.cell? ⟨w.heap.size, 2, none⟩ = some (.bool imp) := cell_of hx6 rfl
          clear hx6
          by_cases hlt : k < count
          · have hltz : (k : Int) < (count : Int) := by omega
            have hkl : k < ds.length := by rw [HDL.out]; exact hlt
            have hlen : ((ds.take k).map (setI imp) ++ ds.drop k).length = count := by
              rw [List.length_append, List.length_map, List.length_take, List.length_drop]; have := HDL.out; omega
            have hget : ((ds.take k).map (setI imp) ++ ds.drop k)[k]'(by rw [hlen]; exact hlt) = ds[k] := by
              rw [List.getElem_append_right (by simp; omega)]
              simp [show min k ds.length = k by omega]
            obtain ⟨⟨dp, ⟨vk, vn, vd, vx⟩, di⟩, hd⟩ : ∃ d, ds[k] = d := ⟨_, rfl⟩
            have hcell := fun j (hj : j < 6) => (HOW.out.cellAt (k * 6 + j) (by omega)).trans (dcs10_get _ k j (by rw [hlen]; exact hlt) hj)
            rw [hget, hd] at hcell
            have d0 : wr.cell? ⟨g, k * 6, none⟩ = some (.int .i64 dp) := hcell 0 (by omega)
            have d1 : wr.cell? ⟨g, k * 6 + 1, none⟩ = some (.int .i64 vk) := hcell 1 (by omega)
            have d2 : wr.cell? ⟨g, k * 6 + 1 + 1, none⟩ = some (.int .i64 vn) := hcell 2 (by omega)
            have d3 : wr.cell? ⟨g, k * 6 + 1 + 2, none⟩ = some (.int .i64 vd) := hcell 3 (by omega)
            have d4 : wr.cell? ⟨g, k * 6 + 1 + 3, none⟩ = some (.string ⟨vx.toArray⟩) := hcell 4 (by omega)
            have TK := fun W => Takes10_any dp vk vn vd vx W (by have := HDN.out ds[k] (List.getElem_mem hkl); rw [hd] at this; exact this)
            obtain ⟨tk, htk⟩ : ∃ t, takesP dp ⟨vk, vn, vd, vx⟩ = t := ⟨_, rfl⟩
            rw [htk] at TK
            have TKH := Lib.hid TK
            have HD := Lib.hid hd
            have HTK := Lib.hid htk
            have HC5 : Hid ((dcs10 ((ds.take k).map (setI imp) ++ ds.drop k))[k * 6 + 5]? = some (.bool di)) := Lib.hid ((dcs10_get _ k 5 (by rw [hlen]; exact hlt) (by omega)).trans (by rw [hget, hd]; rfl))
            clear TK hd htk hcell hget hlen
            cases tk with
            | false =>
              go_upto_region 11 with (fail)
              go_region_with (go_at_call 11; refine (TKH.out _).mono ?_; rintro e w6 ⟨rfl, hb6⟩)
              all_goals
                have HB6 := Lib.hid ((below_drewN2 HB.out 1).trans (hb6.mono HB.out.size))
                have HRE : Hid (R = (22, [])) := Lib.hid (by
                  have h1 : ds.all takesD = false := not_all hkl (by rw [HD.out]; exact HTK.out)
                  rw [← HRR.out, h1, if_neg (by simp)])
                clear hb6
                go_wp2_with fail
                go_ret2
                exact pdIs_err HRE.out (HBB.out.trans (HB6.out.mono HBB.out.size))
            | true =>
              go_upto_region 11 with (fail)
              go_region_with (go_at_call 11; refine (TKH.out _).mono ?_; rintro e w6 ⟨rfl, hb6⟩)
              all_goals
                have HB6 := Lib.hid ((below_drewN2 HB.out 1).trans (hb6.mono HB.out.size))
                have hO6 := ownsRow_below (World.ownsRow.drew HOW.out) hb6
                have HG6 : Hid (g < w6.heap.size) := Lib.hid (Nat.lt_of_lt_of_le HG.out hb6.size)
                have hx7 := (HB6.out.block _ (blk_ltP HX.out)).trans HX.out
                have c2 : w6.cell? ⟨w.heap.size, 2, none⟩ = some (.bool imp) := cell_of hx7 rfl
                have f5 := hO6.frozenAt (k * 6 + 5)
                have e5 : w6.cell? ⟨g, k * 6 + 5, none⟩ = some (.bool di) := (hO6.cellAt (k * 6 + 5) (by omega)).trans HC5.out
                have hst := (hO6.stored (k * 6 + 5) (.bool imp)).1
                rw [dcs10_set imp ds k hkl] at hst
                have HST := Lib.hid hst
                have HB7 : Hid (Below wb.heap.size wb (w6.setCell ⟨g, k * 6 + 5, none⟩ (.bool imp))) := Lib.hid (HB6.out.setCell (p := ⟨g, k * 6 + 5, none⟩) hgw _)
                have HA7 : Hid ((ds.take (k + 1)).all takesD = true) := Lib.hid (all_take hkl HA.out (by rw [HD.out]; exact HTK.out))
                have HG7 : Hid (g < (w6.setCell ⟨g, k * 6 + 5, none⟩ (.bool imp)).heap.size) := Lib.hid (by have := HG6.out; simpa [World.setCell] using this)
                clear hb6 hO6 hx7 hst d0 d1 d2 d3 d4
                go_wp2_with fail
                go_roundw
                case rel => exact ⟨k + 1, by go_num, by omega, HB7, HST, HA7, HG7⟩
                case measure => simp [intOf]; omega
          · have hltz : ¬ (k : Int) < (count : Int) := by omega
            have hkc : k = count := by omega
            subst hkc
            have HRE : Hid (R = (0, ds.map (setI imp))) := Lib.hid (by
              have h1 := HA.out
              rw [List.take_of_length_le (by have := HDL.out; omega)] at h1
              rw [← HRR.out, if_pos h1])
            have HOE : Hid (wr.ownsRow w4.heap.size 25 6 (.slice (some ⟨g, 0, none⟩) k cp) k (dcs10 (ds.map (setI imp)))) := Lib.hid (by
              have h1 := HOW.out
              rw [List.take_of_length_le (by have := HDL.out; omega), List.drop_of_length_le (by have := HDL.out; omega), List.append_nil] at h1
              exact h1)
            go_wp2_with fail
            go_ret2
            refine ⟨⟨some ⟨g, 0, none⟩, cp, ?_, ?_⟩, HBB.out.trans (HB.out.mono HBB.out.size)⟩
            · rw [HRE.out, List.length_map, HDL.out]; rfl
            · rw [HRE.out]; exact ds_own (by rw [List.length_map, HDL.out]) HG.out HOE.out
end Go.Proofs.YtbodmfbpmeapoaaGreat

namespace Go.Proofs.YtbodmfbpmeapoaaGreat
open Go.RowKit TreN LexP FixP SynP ValP PropP FixM
set_option linter.unusedVariables false

theorem own_mono {w : World} {base base' size n : Nat} {e : TypeId} {v : Value} {xs : List Value} (h : w.ownsRow base e size v n xs) (hb : base' ≤ base) : w.ownsRow base' e size v n xs := by
  refine ⟨h.1, ?_⟩
  rcases h.2 with k | ⟨g, cap, cur, k1, k2, k3⟩
  · exact Or.inl k
  · exact Or.inr ⟨g, cap, cur, k1, Nat.le_trans hb k2, k3⟩
theorem vs_news {w : World} {b o : Nat} {l : List Val} (h : Vs w (some ⟨b, o, none⟩) l) : ∀ (j : Nat) (u : Value), (vcs l)[j]? = some u → w.cell? ((⟨b, o, none⟩ : Addr).add j) = some u := by
  intro j u hj
  by_cases hjn : j < l.length * 4
  · obtain ⟨p, hp⟩ : ∃ p, j / 4 = p := ⟨_, rfl⟩
    have hpl : p < l.length := by omega
    obtain ⟨k1, k2, k3, k4⟩ := vcs_get l p hpl
    obtain ⟨b1, o1, e1, _, t1, t2, t3, t4⟩ := h.get hpl
    injection e1 with e1; injection e1 with e1 e2; subst e1; subst e2
    rw [Addr.add_lit]
    rcases (by omega : j = p * 4 ∨ j = p * 4 + 1 ∨ j = p * 4 + 2 ∨ j = p * 4 + 3) with e | e | e | e
    · subst e; rw [k1] at hj; injection hj with hj; subst hj; exact t1
    · subst e; rw [k2] at hj; injection hj with hj; subst hj; exact t2
    · subst e; rw [k3] at hj; injection hj with hj; subst hj; exact t3
    · subst e; rw [k4] at hj; injection hj with hj; subst hj; exact t4
  · rw [List.getElem?_eq_none (by rw [vcs_length]; omega)] at hj
    cases hj

set_option maxRecDepth 100000 in
set_option maxHeartbeats 1000000 in
theorem cloneV_any (b o : Nat) (l : List Val) (n cap : Nat) (w : World) (hn : l.length = n) (h0 : 0 < n) (hl : n ≤ 100000) (hT : Vs w (some ⟨b, o, none⟩) l) :
    Calls Tryz.prog 72 #[.slice (some ⟨b, o, none⟩) n cap] w fun e w' => (∃ v, e = .returned v ∧ w'.ownsRow w.heap.size 23 4 v n (vcs l)) ∧ Below w.heap.size w w' := by
  have HV := Lib.hid (vs_news (hT.below (below_oneP w (.cells #[] 23))))
  have HC := Lib.hid (fun u (hu : u ∈ vcs l) => vcs_one l u hu)
  have HL : Hid ((vcs l).length = n * 4) := Lib.hid (by rw [vcs_length, hn])
  obtain ⟨i0, hi0, hz0, hz1, hz2⟩ := info_parts info_value
  clear hT hn
  go_enter Tryz.func72, Tryz.ntmps72
  have hq : ∀ W, (binOp .eql 49 (.slice (some ⟨b, o, none⟩) n cap) (.slice none 0 0)).run Tryz.prog W = .ok (.bool false) W := fun W => by rfl
  go_wp2_with (at_builtin; refine wpList_append_own _ rfl _ _ 49 rfl w.heap.size 23 i0 _ 4 40 und_values hi0 hz0 hz1 hz2 rfl (by decide) _ _ _ rfl (World.ownsRow_made w #[] 0 (Nat.le_refl _) (Nat.zero_le _) rfl) ⟨b, o, none⟩ n _ (vcs l) rfl HL.out HV.out HC.out ?c3 ?c4 ?c5 ?_)
  case c3 => unfold maxLen; omega
  case c4 => omega
  case c5 => simp
  intro v' w4 hown' hgrow _
  have HB : Hid (Below w.heap.size w w4) := Lib.hid ((below_oneP w _).grown hgrow (by simp) (fun q hq => by injection hq with hq; subst hq; simp))
  have HO := Lib.hid hown'
  clear hown' hgrow
  go_wp2_with fail
  go_ret
  exact ⟨⟨_, rfl, HO.out⟩, HB.out⟩

set_option maxRecDepth 100000 in
set_option maxHeartbeats 4000000 in
theorem flexible_one (v : Val) (a : Option Addr) (cap : Nat) (w : World) (hT : Vs w a [v]) (h1 : isB v [[110, 111, 110, 101]] = false) (h2 : takesP 26 v = false) (hs : v.name.length ≤ maxLen) :
    Calls Tryz.prog 46 #[.slice a 1 cap] w fun e w' => (∃ r, e = .returned r ∧ w'.ownsRow w.heap.size 23 4 r 3 (vcs [v, numV 1000, ⟨2, 0, 1, []⟩])) ∧ Below w.heap.size w w' := by
  obtain ⟨b, o, rfl, hb, d1, d2, d3, d4⟩ := hT.get (k := 0) (by simp)
  have hT0 := Lib.hid hT
  obtain ⟨vk, vn, vd, vx⟩ := v
  simp only [Nat.zero_mul, Nat.add_zero, List.getElem_cons_zero] at d1 d2 d3 d4
  have IS := fun W b hT hb => is_any vk vn vd vx b [[110, 111, 110, 101]] 1 1 W rfl (by omega) hT hb
  rw [h1] at IS
  have ISH := Lib.hid (IS (w.alloc (.cells (txcs [[110, 111, 110, 101]]) 9)) w.heap.size (TxAt.made w _) (by simp))
  have TK := fun W => Takes10_any 26 vk vn vd vx W hs
  rw [h2] at TK
  have TH := Lib.hid TK
  have PX := Lib.hid (fun W => px10_any 0 W)
  have NM := Lib.hid (fun W => number10_any 1000 W)
  have CL := Lib.hid (fun W hT => cloneV_any b o [(⟨vk, vn, vd, vx⟩ : Val)] 1 cap W rfl (by omega) (by omega) hT)
  obtain ⟨i0, hi0, hz0, hz1, hz2⟩ := info_parts info_value
  clear IS TK hT h1 h2
  go_enter Tryz.func46, Tryz.ntmps46
  go_wp2_with fail
  refine ISH.out.mono ?_
  rintro e w1 ⟨rfl, hb1⟩
  have HB1 := Lib.hid ((below_oneP w (.cells (txcs [[110, 111, 110, 101]]) 9)).trans (hb1.mono (by simp)))
  clear hb1 ISH
  go_wp2_with fail
  refine (PX.out _).mono ?_
  rintro e w2 ⟨rfl, hb2⟩
  have HB2 := Lib.hid (HB1.out.trans (hb2.mono HB1.out.size))
  have HB3 := Lib.hid (HB2.out.alloc HB2.out.size (.cells #[.int .i64 2, .int .i64 0, .int .i64 1, .string ⟨#[]⟩] 23))
  have hp : (w2.alloc (.cells #[.int .i64 2, .int .i64 0, .int .i64 1, .string ⟨#[]⟩] 23)).heap[w2.heap.size]? = some (.cells #[.int .i64 2, .int .i64 0, .int .i64 1, .string ⟨#[]⟩] 23 (0, 0)) := heap_alloc_new w2 _
  have HP3 := Lib.hid hp
  have e1 : (w2.alloc (.cells #[.int .i64 2, .int .i64 0, .int .i64 1, .string ⟨#[]⟩] 23)).cell? ⟨b, o, none⟩ = some (.int .i64 vk) := (HB3.out.cell (p := ⟨b, o, none⟩) hb).trans d1
  have e2 : (w2.alloc (.cells #[.int .i64 2, .int .i64 0, .int .i64 1, .string ⟨#[]⟩] 23)).cell? ⟨b, o + 1, none⟩ = some (.int .i64 vn) := (HB3.out.cell (p := ⟨b, o + 1, none⟩) hb).trans d2
  have e3 : (w2.alloc (.cells #[.int .i64 2, .int .i64 0, .int .i64 1, .string ⟨#[]⟩] 23)).cell? ⟨b, o + 2, none⟩ = some (.int .i64 vd) := (HB3.out.cell (p := ⟨b, o + 2, none⟩) hb).trans d3
  have e4 : (w2.alloc (.cells #[.int .i64 2, .int .i64 0, .int .i64 1, .string ⟨#[]⟩] 23)).cell? ⟨b, o + 3, none⟩ = some (.string ⟨vx.toArray⟩) := (HB3.out.cell (p := ⟨b, o + 3, none⟩) hb).trans d4
  obtain ⟨P, hPe⟩ : ∃ P, w2.heap.size = P := ⟨_, rfl⟩
  have hPw : w.heap.size ≤ P := by rw [← hPe]; exact HB2.out.size
  clear hb2 hp
  go_wp2_with fail
  refine (TH.out _).mono ?_
  rintro e w4 ⟨rfl, hb4⟩
  have HB4 := Lib.hid (HB3.out.trans (hb4.mono HB3.out.size))
  have HP4 := Lib.hid ((hb4.block _ (blk_ltP HP3.out)).trans HP3.out)
  have e1 : w4.cell? ⟨b, o, none⟩ = some (.int .i64 vk) := (HB4.out.cell (p := ⟨b, o, none⟩) hb).trans d1
  have e2 : w4.cell? ⟨b, o + 1, none⟩ = some (.int .i64 vn) := (HB4.out.cell (p := ⟨b, o + 1, none⟩) hb).trans d2
  have e3 : w4.cell? ⟨b, o + 2, none⟩ = some (.int .i64 vd) := (HB4.out.cell (p := ⟨b, o + 2, none⟩) hb).trans d3
  have e4 : w4.cell? ⟨b, o + 3, none⟩ = some (.string ⟨vx.toArray⟩) := (HB4.out.cell (p := ⟨b, o + 3, none⟩) hb).trans d4
  clear hb4
  go_wp2_with fail
  refine (TH.out _).mono ?_
  rintro e w5 ⟨rfl, hb5⟩
  have HB5 := Lib.hid (HB4.out.trans (hb5.mono HB4.out.size))
  have HP5 := Lib.hid ((hb5.block _ (blk_ltP HP4.out)).trans HP4.out)
  have C5 := Lib.hid (CL.out w5 (hT0.out.below HB5.out))
  clear hb5 e1 e2 e3 e4 d1 d2 d3 d4
  go_wp2_with fail
  refine C5.out.mono ?_
  rintro e w6 ⟨⟨r, rfl, hown⟩, hb6⟩
  have HB6 := Lib.hid (HB5.out.trans (hb6.mono HB5.out.size))
  have HP6 := Lib.hid ((hb6.block _ (blk_ltP HP5.out)).trans HP5.out)
  have HO6 := Lib.hid (own_mono hown (show P + 1 ≤ w5.heap.size by have := blk_ltP HP5.out; omega))
  obtain ⟨g, cp, rfl, _, _⟩ := hown.form (by omega)
  clear hb6 hown
  rw [hPe] at HP6
  have HPE := Lib.hid hPe
  clear hPe HP3 HP4 HP5 hi0
  go_wp2_with fail
  go_loopg [4] 3 (fun gk v4 wr => ∃ (k : Nat) (xs : List Val), xs.length = k ∧ 1 ≤ k ∧ k ≤ 2 ∧ gk = 4 - k ∧ wr.ownsRow (P + 1) 23 4 v4 k (vcs xs) ∧ Hid (Below w.heap.size w wr) ∧ Hid (padL [(⟨vk, vn, vd, vx⟩ : Val)] = padL xs) ∧ Hid (wr.heap[P]? = some (.cells #[.int .i64 2, .int .i64 0, .int .i64 1, .string ⟨#[]⟩] 23 (0, 0))))
  case atStart => exact ⟨1, [⟨vk, vn, vd, vx⟩], rfl, by omega, by omega, rfl, HO6.out, HB6, Lib.hid rfl, HP6⟩
  case round =>
    obtain ⟨k, xs, hk, hk1, hk2, hg, hown, HB, HPA, HPB⟩ := hrel
    obtain ⟨g2, cp2, rfl, _, _⟩ := hown.form (by omega)
    have HO := Lib.hid hown
    have HK := Lib.hid hk
    clear hown hk
    rcases (by omega : k = 1 ∨ k = 2) with rfl | rfl
    · go_wp2_with fail
      refine (NM.out _).mono ?_
      rintro e w7 ⟨rfl, hb7⟩
      have hO7 := ownsRow_below HO.out hb7
      have HB7 := Lib.hid (HB.out.trans (hb7.mono HB.out.size))
      have HPB7 := Lib.hid ((hb7.block _ (blk_ltP HPB.out)).trans HPB.out)
      have HPS : Hid (P < w7.heap.size) := Lib.hid (blk_ltP HPB7.out)
      clear hb7 HO
      obtain ⟨i0, hi0, hz0, hz1, hz2⟩ := info_parts info_value
      go_wp2_with (at_builtin; refine wpList_append_own _ rfl _ _ 49 rfl (P + 1) 23 i0 _ 4 40 und_values hi0 hz0 hz1 hz2 rfl (by decide) _ _ _ rfl (hO7.alloc _) ⟨w7.heap.size, 0, none⟩ 1 1 (vc (numV 1000)) rfl rfl ?c1 ?c2 ?c3 ?c4 ?c5 ?_)
      case c1 => exact value_news w7 (numV 1000) _ rfl
      case c2 => intro u hu; exact vcs_one [numV 1000] u (by simpa [vcs] using hu)
      case c3 => unfold maxLen; omega
      case c4 => omega
      case c5 => have := HPS.out; simp; omega
      intro v' w8 hown' hgrow _
      have HB8 : Hid (Below w.heap.size w w8) := Lib.hid ((HB7.out.alloc HB7.out.size _).grown hgrow (by have := HB7.out.size; simp; omega) (fun q hq => by have := (World.ownsRow.lt hO7 q hq).1; omega))
      have HO8 : Hid (w8.ownsRow (P + 1) 23 4 v' 2 (vcs (xs ++ [numV 1000]))) := Lib.hid (by rw [vcs_append]; simpa [vcs] using hown')
      have HPB8 : Hid (w8.heap[P]? = some (.cells #[.int .i64 2, .int .i64 0, .int .i64 1, .string ⟨#[]⟩] 23 (0, 0))) := Lib.hid (by
        have hps := HPS.out
        rw [hgrow.block _ (by simp; omega) (by intro e; have := (World.ownsRow.lt hO7 _ e.symm).1; omega), Below.heap_alloc _ _ _ hps]; exact HPB7.out)
      have HPA8 : Hid (padL [(⟨vk, vn, vd, vx⟩ : Val)] = padL (xs ++ [numV 1000])) := Lib.hid (by
        rw [HPA.out]; unfold padL; rw [HK.out, List.length_append, HK.out]; simp)
      clear hown' hgrow hO7 hi0
      go_wp2_with fail
      go_roundg 2
      case rel => exact ⟨2, xs ++ [numV 1000], by rw [List.length_append, HK.out]; rfl, by omega, by omega, rfl, HO8.out, HB8, HPA8, HPB8⟩
      case measure => omega
    · have c0 : wr.cell? ⟨P, 0, none⟩ = some (.int .i64 2) := cell_of HPB.out rfl
      have c1 : wr.cell? ⟨P, 1, none⟩ = some (.int .i64 0) := cell_of HPB.out rfl
      have c2 : wr.cell? ⟨P, 2, none⟩ = some (.int .i64 1) := cell_of HPB.out rfl
      have c3 : wr.cell? ⟨P, 3, none⟩ = some (.string ⟨#[]⟩) := cell_of HPB.out rfl
      have HPS : Hid (P < wr.heap.size) := Lib.hid (blk_ltP HPB.out)
      have hO7 := HO.out
      clear HO
      obtain ⟨i0, hi0, hz0, hz1, hz2⟩ := info_parts info_value
      go_wp2_with (at_builtin; refine wpList_append_own _ rfl _ _ 49 rfl (P + 1) 23 i0 _ 4 40 und_values hi0 hz0 hz1 hz2 rfl (by decide) _ _ _ rfl (hO7.alloc _) ⟨wr.heap.size, 0, none⟩ 1 1 (vc ⟨2, 0, 1, []⟩) rfl rfl ?d1 ?d2 ?d3 ?d4 ?d5 ?_)
      case d1 => exact value_news wr ⟨2, 0, 1, []⟩ _ rfl
      case d2 => intro u hu; exact vcs_one [⟨2, 0, 1, []⟩] u (by simpa [vcs] using hu)
      case d3 => unfold maxLen; omega
      case d4 => omega
      case d5 => have := HPS.out; simp; omega
      intro v' w8 hown' hgrow _
      have HB8 : Hid (Below w.heap.size w w8) := Lib.hid ((HB.out.alloc HB.out.size _).grown hgrow (by have := HB.out.size; simp; omega) (fun q hq => by have := (World.ownsRow.lt hO7 q hq).1; omega))
      have HO8 : Hid (w8.ownsRow w.heap.size 23 4 v' 3 (vcs [⟨vk, vn, vd, vx⟩, numV 1000, ⟨2, 0, 1, []⟩])) := Lib.hid (by
        have hx : xs = [⟨vk, vn, vd, vx⟩, numV 1000] := by
          have := HPA.out
          unfold padL at this
          rw [HK.out] at this
          simpa using this.symm
        rw [hx] at hown'
        exact own_mono hown' (by omega))
      clear hown' hgrow hO7 hi0
      go_wp2_with fail
      go_ret
      exact ⟨⟨_, rfl, HO8.out⟩, HB8.out⟩

set_option maxRecDepth 100000 in
set_option maxHeartbeats 1000000 in
theorem sides_flex (v : Val) (a : Option Addr) (cap : Nat) (w : World) (hT : Vs w a [v]) (h1 : isB v [[110, 111, 110, 101]] = false) (h2 : takesP 26 v = false) (h3 : genS v = false) (hs : v.name.length ≤ maxLen) :
    Calls Tryz.prog 22 #[.string ⟨flexT.toArray⟩, .slice a 1 cap] w (SdIs w [v, numV 1000, ⟨2, 0, 1, []⟩]) := by
  obtain ⟨b, o, rfl, hb, d1, d2, d3, d4⟩ := hT.get (k := 0) (by simp)
  have hT0 := Lib.hid hT
  have FX := Lib.hid (fun W hT => flexible_one v (some ⟨b, o, none⟩) cap W hT h1 h2 hs)
  obtain ⟨vk, vn, vd, vx⟩ := v
  simp only [Nat.zero_mul, Nat.add_zero, List.getElem_cons_zero] at d1 d2 d3 d4
  have HBB := Lib.hid (below_oneP w (.cells #[.slice (some ⟨b, o, none⟩) 1 cap] 49))
  have HX : Hid ((w.alloc (.cells #[.slice (some ⟨b, o, none⟩) 1 cap] 49)).heap[w.heap.size]? = some (.cells #[.slice (some ⟨b, o, none⟩) 1 cap] 49 (0, 0))) := Lib.hid (heap_alloc_new w _)
  have GE := fun W => general_any vk vn vd vx W
  unfold genS at h3
  rw [h3] at GE
  have GH := Lib.hid GE
  clear GE h1 h2 h3 hT hs
  unfold flexT
  go_enter Tryz.func22, Tryz.ntmps22
  go_wp2_with fail
  refine (GH.out _).mono ?_
  rintro e w1 ⟨rfl, hb1⟩
  have HB1 := Lib.hid (HBB.out.trans (hb1.mono HBB.out.size))
  have HX1 := Lib.hid ((hb1.block _ (blk_ltP HX.out)).trans HX.out)
  have c0 : w1.cell? ⟨w.heap.size, 0, none⟩ = some (.slice (some ⟨b, o, none⟩) 1 cap) := cell_of HX1.out rfl
  have F1 := Lib.hid (FX.out w1 (hT0.out.below HB1.out))
  clear hb1 d1 d2 d3 d4
  go_wp2_with fail
  refine F1.out.mono ?_
  rintro e w2 ⟨⟨r, rfl, hown⟩, hb2⟩
  have HB2 := Lib.hid (HB1.out.trans (hb2.mono HB1.out.size))
  have hx2 := (hb2.block _ (blk_ltP HX1.out)).trans HX1.out
  have c2 : w2.cell? ⟨w.heap.size, 0, none⟩ = some (.slice (some ⟨b, o, none⟩) 1 cap) := cell_of hx2 rfl
  have f2 : w2.frozen? ⟨w.heap.size, 0, none⟩ = false := unfrozen_of hx2
  obtain ⟨g, cp, rfl, hg1, hg2⟩ := hown.form (by omega)
  have hgne : w.heap.size < g := by have := blk_ltP HX1.out; omega
  have hown3 := ownsRow_setCell_other hown (a := ⟨w.heap.size, 0, none⟩) (by simp [Value.ownBlock]; omega) (.slice (some ⟨g, 0, none⟩) 3 cp)
  have hvl : Vls (w2.setCell ⟨w.heap.size, 0, none⟩ (.slice (some ⟨g, 0, none⟩) 3 cp)) (.slice (some ⟨g, 0, none⟩) 3 cp) [⟨vk, vn, vd, vx⟩, numV 1000, ⟨2, 0, 1, []⟩] := ⟨_, hown3⟩
  obtain ⟨a4, c4, hv4, hvs, _, _⟩ := hvl.vs
  injection hv4 with e1 _ e3
  subst e1; subst e3
  have HSD : Hid (SdAt (w2.setCell ⟨w.heap.size, 0, none⟩ (.slice (some ⟨g, 0, none⟩) 3 cp)) w.heap.size [⟨vk, vn, vd, vx⟩, numV 1000, ⟨2, 0, 1, []⟩]) := Lib.hid ⟨⟨_, cp, setCell_here _ hx2, hvs⟩⟩
  have HB3 : Hid (Below w.heap.size w (w2.setCell ⟨w.heap.size, 0, none⟩ (.slice (some ⟨g, 0, none⟩) 3 cp))) := Lib.hid (HB2.out.setCell (p := ⟨w.heap.size, 0, none⟩) (Nat.le_refl _) _)
  clear hb2 hx2 hown hown3 hvl hvs
  go_wp2_with fail
  go_ret
  exact ⟨_, rfl, HSD.out, HB3.out⟩
end Go.Proofs.YtbodmfbpmeapoaaGreat
