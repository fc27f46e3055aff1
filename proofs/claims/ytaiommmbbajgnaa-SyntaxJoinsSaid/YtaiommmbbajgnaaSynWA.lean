/- Layer 6: a rule that begins with an At. -/
import Derived.Test.YtaiommmbbajgnaaSynW9
namespace Go.Proofs.Ytaiommmbbajgnaa
open Go.RowKit TreN LexP FixP SynP
set_option linter.unusedVariables false

theorem RB.startT (w : World) (x0 : Value) (ab : Bool) : RB w w.heap.size x0 (.slice none 0 0) (.slice none 0 0) (.bool false) ab (((w.alloc z4).alloc (.cells #[x0, .slice none 0 0, .slice none 0 0, .bool false] 41)).alloc (.cells #[.bool ab] 4)) := by
  have h := (RB.start w ab)
  refine ⟨?_, ?_, ?_, (((Below.refl _ _).alloc (Nat.le_refl _) _).alloc (by simp) _).alloc (by simp; omega) _, rfl⟩
  · rw [Below.heap_alloc _ _ _ (by simp; omega), Below.heap_alloc _ _ _ (by simp)]; exact heap_alloc_new w _
  · rw [Below.heap_alloc _ _ _ (by simp)]
    have := heap_alloc_new (w.alloc z4) (.cells #[x0, .slice none 0 0, .slice none 0 0, .bool false] 41)
    rw [show (w.alloc z4).heap.size = w.heap.size + 1 by simp] at this
    exact this
  · have := heap_alloc_new ((w.alloc z4).alloc (.cells #[x0, .slice none 0 0, .slice none 0 0, .bool false] 41)) (.cells #[.bool ab] 4)
    rw [show ((w.alloc z4).alloc (.cells #[x0, .slice none 0 0, .slice none 0 0, .bool false] 41)).heap.size = w.heap.size + 2 by simp] at this
    exact this
set_option maxRecDepth 100000 in
set_option maxHeartbeats 4000000 in
theorem rule_at (b o n0 cap0 : Nat) (l0 : List Tok) (t : Tok) (l : List Tok) (w : World) (hl : l0 = t :: l) (hn00 : l0.length = n0) (h10 : n0 ≤ cap0) (h2 : cap0 ≤ maxLen) (hl90 : n0 ≤ 90000) (hT0 : Tks w (some ⟨b, o, none⟩) l0) (hk : t.kind = 3) :
    Calls Try.prog 27 #[.slice (some ⟨b, o, none⟩) n0 cap0] w fun e w' => RuIs (w.heap.size + 3) w (some ⟨b, o, none⟩) l0 (rulS l0) e w' := by
  have hmf : ∀ (fn : Fn) (first cap : Array Value) (w : World), (Instr.makeFunc fn first cap).run Try.prog w = .ok (.func fn first cap) w := fun _ _ _ _ => rfl
  have hru : rulS l0 = ((rulT t.text true l).1, (rulT t.text true l).2 + 1) := by rw [hl]; exact if_pos hk
  obtain ⟨tt, htt⟩ : ∃ x, t.text = x := ⟨_, rfl⟩
  rw [hru, htt]
  obtain ⟨R, hRR⟩ : ∃ x, rulT tt true l = x := ⟨_, rfl⟩
  rw [hRR]
  have HRR := Lib.hid hRR
  clear hru hRR
  have hn0 : (0 : Int) < (n0 : Int) := by rw [← hn00, hl]; simp
  have hn1 : 0 < n0 := by omega
  obtain ⟨_, _, e0, hb0, k0⟩ := (show Tks w (some ⟨b, o, none⟩) (t :: l) by rw [← hl]; exact hT0).get (i := 0) (by simp)
  injection e0 with e0; injection e0 with e1 e2; subst e1; subst e2
  have h0 : w.cell? ⟨b, o, none⟩ = some (.int .i64 3) := by rw [← hk]; simpa using k0.kind
  have h0t : w.cell? ⟨b, o + 1, none⟩ = some (.string ⟨tt.toArray⟩) := by rw [← htt]; simpa using k0.text
  have h03 : ∀ v, w.cell? ⟨b, o, none⟩ = some v → ∀ W', Below w.heap.size w W' → W'.cell? ⟨b, o, none⟩ = some v := fun v h W' hW => (hW.cell (World.block_lt_of_cell? _ _ h0)).trans h
  have h02 : ∀ o1 o2, ((w.alloc o1).alloc o2).cell? ⟨b, o, none⟩ = some (.int .i64 3) := fun o1 o2 => (((Below.refl _ _).alloc (Nat.le_refl _) o1).alloc (by simp) o2).cell (World.block_lt_of_cell? _ _ h0) |>.trans h0
  have h02t : ∀ o1 o2 o3, (((w.alloc o1).alloc o2).alloc o3).cell? ⟨b, o + 1, none⟩ = some (.string ⟨tt.toArray⟩) := fun o1 o2 o3 => ((((Below.refl _ _).alloc (Nat.le_refl _) o1).alloc (by simp) o2).alloc (by simp; omega) o3).cell (World.block_lt_of_cell? _ _ h0t) |>.trans h0t
  have hst := RB.start w true
  have hsu := RB.startT w (.string ⟨tt.toArray⟩) true
  obtain ⟨H, hH⟩ : ∃ H, w.heap.size = H := ⟨_, rfl⟩
  rw [hH] at hst hsu
  have HSU := Lib.hid hsu
  obtain ⟨a, p1, p2, p3, p5, p4⟩ := sl_from (some ⟨b, o, none⟩) l0 cap0 n0 1 hn00 1 rfl (by omega) h10 h2
  obtain ⟨n, hn1'⟩ : ∃ x, n0 - 1 = x := ⟨_, rfl⟩
  obtain ⟨cap, hcap'⟩ : ∃ x, cap0 - 1 = x := ⟨_, rfl⟩
  have hdr : l0.drop 1 = l := by rw [hl]; rfl
  simp only [hn1', hcap', hdr] at p1 p2 p3 p4 p5
  have hT : Tks w a l := p4 w hT0
  have HP4 := Lib.hid p4
  have hn := p2
  have h1 := p3
  have h2' := p5
  have hl9 : n ≤ 90000 := by omega
  have HDR : Hid (∀ k, l0.drop (k + 1) = l.drop k) := Lib.hid (fun k => by rw [hl]; rfl)
  have hTW : ∀ W', Below w.heap.size w W' → Tks W' a l := fun W' hW => hT.below hW
  have HTW := Lib.hid hTW
  have HST := Lib.hid hst
  have z0 : ((((w.alloc z4).alloc z4).alloc (.cells #[.bool true] 4))).cell? ⟨H + 1, 0, none⟩ = some (.string ⟨#[]⟩) := cell_of hst.rul rfl
  have z1 : ((((w.alloc z4).alloc z4).alloc (.cells #[.bool true] 4))).frozen? ⟨H + 1, 0, none⟩ = false := unfrozen_of hst.rul
  unfold z4 at z0 z1
  -- the contracts
  have hF := fun (W : World) (hR : RB w H (.string ⟨tt.toArray⟩) (.slice none 0 0) (.slice none 0 0) (.bool false) true W) => first_any 39 #[.pointer (some ⟨H + 2, 0, none⟩)] (stopB true) enters_rule1 a l cap W (fun t _ W' hW => rule1_any true (H + 2) t W' (cell_of (blk_keepR hW hR.box) rfl)) (by omega) (hTW W hR.bel)
  obtain ⟨e, he⟩ : ∃ e, fst (stopB true) l = e := ⟨_, rfl⟩
  have HE := Lib.hid he
  have heb := fst_bd (stopB true) l
  rw [he, hn] at heb
  simp only [he, hn] at hF
  have HF := Lib.hid hF
  obtain ⟨a2, s1, s2, s3, s4⟩ := sl_to a l cap n e hn (e : Int) rfl heb h1 h2'
  have hTr := fun (W : World) (hW : Below w.heap.size w W) => trimmed_any a2 (l.take e) cap W (by rw [s2]; exact s3) h2' (s4 W (hTW W hW))
  obtain ⟨hd, hhd⟩ : ∃ x, trm (l.take e) = x := ⟨_, rfl⟩
  have HHD := Lib.hid hhd
  have hhl := trm_len (l.take e)
  rw [hhd, s2] at hhl
  simp only [hhd, s2] at hTr
  have HTr := Lib.hid hTr
  have HCl := Lib.hid fun (W : World) (a : Option Addr) (c : Nat) (hT : Tks W a hd) => clone_toks a hd c W (by omega) hT
  obtain ⟨nh, hnh⟩ : ∃ x, hd.length = x := ⟨_, rfl⟩
  have HNH := Lib.hid hnh
  simp only [hnh] at HCl
  have hez : (e : Int) ≤ (n : Int) := by omega
  have hez2 : (e : Int) ≤ (cap : Int) := by omega
  have hn0c : (1 : Int) ≤ (n0 : Int) := by omega
  have hn0d : (1 : Int) ≤ (cap0 : Int) := by omega
  clear hst hsu hF hTr hhd hhl hnh s2 s4 he hT hTW k0 hk hb0 p2 p4 p3 hdr hl hT0
  go_enter Try.func27, Try.ntmps27
  go_wp2_with fail
  obtain ⟨W1, hW1⟩ : ∃ W1, ((w.alloc (.cells #[.string ⟨#[]⟩, .slice none 0 0, .slice none 0 0, .bool false] 41)).alloc (.cells #[.string ⟨tt.toArray⟩, .slice none 0 0, .slice none 0 0, .bool false] 41)).alloc (.cells #[.bool true] 4) = W1 := ⟨_, rfl⟩
  have hR1 : RB w H (.string ⟨tt.toArray⟩) (.slice none 0 0) (.slice none 0 0) (.bool false) true W1 := by rw [← hW1]; exact HSU.out
  have HR1 := Lib.hid hR1
  rw [hW1]
  clear hR1 hW1 h02 h02t h03 h0 h0t z0 z1 HST
  refine (HF.out W1 HR1.out).mono ?_
  rintro e' w2 ⟨rfl, hb2⟩
  have HR2 := Lib.hid (HR1.out.keep hb2)
  clear hb2 HR1 HF
  go_wp2_with fail
  refine (HTr.out w2 HR2.out.bel).mono ?_
  rintro e' w3 ⟨⟨a3, c3, hv, hc1, hc2, hT3⟩, rfl⟩
  rw [HNH.out] at hv hc1
  subst hv
  have X := Lib.hid (HCl.out w2 a3 c3 hT3)
  clear hT3 HTr
  go_wp2_with fail
  refine X.out.mono ?_
  rintro e' w4 ⟨⟨a4, c4, rfl, g1, g2, g3, g4⟩, hb4⟩
  have HR4 := Lib.hid (HR2.out.keep hb4)
  have G4 := Lib.hid (And.intro g1 (And.intro g2 (And.intro g3 g4)))
  have q1 : w4.cell? ⟨H + 1, 1, none⟩ = some (.slice none 0 0) := cell_of HR4.out.rul rfl
  have q2 : w4.frozen? ⟨H + 1, 1, none⟩ = false := unfrozen_of HR4.out.rul
  clear hb4 g1 g2 g3 g4 X
  obtain ⟨W5, hW5⟩ : ∃ W5, w4.setCell ⟨H + 1, 1, none⟩ (.slice a4 nh c4) = W5 := ⟨_, rfl⟩
  have HR5 : Hid (RB w H (.string ⟨tt.toArray⟩) (.slice a4 nh c4) (.slice none 0 0) (.bool false) true W5) := Lib.hid (by rw [← hW5]; exact HR4.out.set1 _)
  have HF5 : Hid (FrT (H + 3) W5 a4 c4 hd) := Lib.hid (by
    rw [← hW5]
    exact (FrT.made HNH.out G4.out.1 G4.out.2.1 G4.out.2.2.1 G4.out.2.2.2 HR2.out.size3).set (by omega) _)
  by_cases hen : e = n
  · subst hen
    go_wp2_with fail
    clear hW5 q1 q2 HR4
    have x0 : W5.cell? ⟨H + 1, 0, none⟩ = some (.string ⟨tt.toArray⟩) := cell_of HR5.out.rul rfl
    have x1 : W5.cell? ⟨H + 1, 1, none⟩ = some (.slice a4 nh c4) := cell_of HR5.out.rul rfl
    have x2 : W5.cell? ⟨H + 1, 2, none⟩ = some (.slice none 0 0) := cell_of HR5.out.rul rfl
    have x3 : W5.cell? ⟨H + 1, 3, none⟩ = some (.bool false) := cell_of HR5.out.rul rfl
    have y0 : W5.cell? ⟨H, 0, none⟩ = some (.string ⟨#[]⟩) := cell_of HR5.out.res rfl
    have y1 : W5.cell? ⟨H, 1, none⟩ = some (.slice none 0 0) := cell_of HR5.out.res rfl
    have y2 : W5.cell? ⟨H, 2, none⟩ = some (.slice none 0 0) := cell_of HR5.out.res rfl
    have y3 : W5.cell? ⟨H, 3, none⟩ = some (.bool false) := cell_of HR5.out.res rfl
    have yf : ∀ k, W5.frozen? ⟨H, k, none⟩ = false := fun k => unfrozen_of HR5.out.res
    obtain ⟨a5, u1, u2, u3, u5, u4⟩ := sl_from a l cap e e hn (e : Int) rfl (by omega) h1 h2'
    have r1 : ∀ (W : World) (ts : Array TypeId) (t : TypeId), (Builtin.min_ ts t #[.int .i64 ((e : Int) + 1), .int .i64 (e : Int)]).run Try.prog W = .ok (.int .i64 (e : Int)) W := fun W ts t => run_imin W ts t _ _ _ (if_pos (by omega))
    go_big_region
    go_wp2_with fail
    obtain ⟨f1, f2, f3⟩ := rule_fin HR5.out (.string ⟨tt.toArray⟩) (.slice a4 nh c4) (.slice none 0 0) (.bool false)
    refine bodyPost_ret_by (results_rule _ _ H _ _ _ _ _ rfl rfl f3) rfl ?_
    have hRv := HRR.out
    rw [rulT_end (by rw [HE.out, hn]), hn, HHD.out] at hRv
    rw [← hRv, hH]
    refine ⟨⟨a4, c4, none, 0, a5, cap - e, ?_, ?_, FrT.nil _ _, ?_, u5, ?_⟩, f1⟩
    · show _ = Ending.returned (.tuple #[.agg #[.string ⟨tt.toArray⟩, .slice a4 hd.length c4, .slice none 0 0, .bool false], .slice a5 (l0.drop (e + 1)).length (cap - e)])
      rw [HDR.out, HNH.out, u2, Nat.sub_self]
      rfl
    · exact f2 _ _ _ (HF5.out)
    · rw [HDR.out, u2]; exact u3
    · rw [HDR.out]; exact fun W h => u4 W (HP4.out W h)
  · have hlt : e < n := by omega
    have hltz : (e : Int) < (n : Int) := by omega
    have hlt2 : e < l.length := by omega
    obtain ⟨b1, o1, ee, _, kk⟩ := (HTW.out W5 HR5.out.bel).get hlt2
    subst ee
    by_cases hk17 : l[e].kind = 17
    · skip
      have hrt := rulT_open (att := tt) HE.out hlt2 hk17
      have hmb := mtc_open hlt2 hk17
      have HM := Lib.hid (fun W hW => Match_at (some ⟨b1, o1, none⟩) l n cap e W hn (by omega) hlt (HTW.out W hW))
      obtain ⟨m, hm⟩ : ∃ m, mtc l e = m := ⟨_, rfl⟩
      rw [hm] at hmb hrt
      simp only [hm] at HM
      rw [hn] at hmb
      obtain ⟨a6, v1, v2, v3, v5, v4⟩ := sl_mid (some ⟨b1, o1, none⟩) l cap n (e + 1) m hn ((e : Int) + 1) (m : Int) (by omega) rfl hmb.1 hmb.2 h1 h2'
      have HV4 := Lib.hid v4
      obtain ⟨bd, hbd⟩ : ∃ x, (l.take m).drop (e + 1) = x := ⟨_, rfl⟩
      rw [hbd] at hrt v2
      simp only [hbd] at HV4
      have HV2 := Lib.hid v2
      have HC2 := Lib.hid fun (W : World) (hT : Tks W a6 bd) => clone_toks a6 bd (cap - (e + 1)) W (by omega) hT
      simp only [v2] at HC2
      obtain ⟨M, hM⟩ : ∃ M, min (m + 1) n = M := ⟨_, rfl⟩
      rw [hn, hM] at hrt
      have hMn : M ≤ n := by omega
      obtain ⟨a5, u1, u2, u3, u5, u4⟩ := sl_from (some ⟨b1, o1, none⟩) l cap n M hn (M : Int) rfl hMn h1 h2'
      have HU := Lib.hid (And.intro u2 (And.intro u3 u4))
      have HRT := Lib.hid hrt
      have d0 : W5.cell? ⟨b1, o1 + e * 3, none⟩ = some (.int .i64 17) := by rw [← hk17]; exact kk.kind
      have hme : (e : Int) + 1 ≤ (m : Int) := by omega
      have hmn : (m : Int) ≤ (n : Int) := by omega
      have hmc : (m : Int) ≤ (cap : Int) := by omega
      have r1 : ∀ (W : World) (ts : Array TypeId) (t : TypeId), (Builtin.min_ ts t #[.int .i64 ((m : Int) + 1), .int .i64 (n : Int)]).run Try.prog W = .ok (.int .i64 (M : Int)) W := fun W ts t => run_imin W ts t _ _ _ (by split <;> omega)
      clear hrt v2 v4 u2 u3 u4 kk hk17 hm hbd hM
      go_wp2_with fail
      refine (HM.out W5 HR5.out.bel).mono ?_
      rintro e' w6 ⟨rfl, hb6⟩
      have HR6 := Lib.hid (HR5.out.keep hb6)
      have HF6 := Lib.hid (HF5.out.below hb6)
      clear hb6 HM hW5 q1 q2 d0
      go_wp2_with fail
      refine (HC2.out w6 (HV4.out w6 (HTW.out w6 HR6.out.bel))).mono ?_
      rintro e' w7 ⟨⟨a7, c7, rfl, g1, g2, g3, g4⟩, hb7⟩
      have HR7 := Lib.hid (HR6.out.keep hb7)
      have HF7 := Lib.hid (HF6.out.below hb7)
      have HG7 : Hid (FrT (H + 3) w7 a7 c7 bd) := Lib.hid (FrT.made HV2.out g1 g2 g3 g4 HR6.out.size3)
      obtain ⟨nb, hnb⟩ : ∃ x, m - (e + 1) = x := ⟨_, rfl⟩
      have HNB := Lib.hid hnb
      simp only [hnb]
      have q1 : w7.cell? ⟨H + 1, 2, none⟩ = some (.slice none 0 0) := cell_of HR7.out.rul rfl
      have q3 : w7.cell? ⟨H + 1, 3, none⟩ = some (.bool false) := cell_of HR7.out.rul rfl
      have q2 : ∀ k, w7.frozen? ⟨H + 1, k, none⟩ = false := fun k => unfrozen_of HR7.out.rul
      obtain ⟨W8, hW8⟩ : ∃ W8, (w7.setCell ⟨H + 1, 2, none⟩ (.slice a7 nb c7)).setCell ⟨H + 1, 3, none⟩ (.bool true) = W8 := ⟨_, rfl⟩
      have HR8 : Hid (RB w H (.string ⟨tt.toArray⟩) (.slice a4 nh c4) (.slice a7 nb c7) (.bool true) true W8) := Lib.hid (by rw [← hW8]; exact (HR7.out.set2 _).set3 _)
      have HF8 : Hid (FrT (H + 3) W8 a4 c4 hd) := Lib.hid (by rw [← hW8]; exact (HF7.out.set (by omega) _).set (by omega) _)
      have HG8 : Hid (FrT (H + 3) W8 a7 c7 bd) := Lib.hid (by rw [← hW8]; exact (HG7.out.set (by omega) _).set (by omega) _)
      clear hb7 g1 g2 g3 g4 HR6 HF6 HC2 HV4 hnb
      go_wp2_with fail
      have x0 : W8.cell? ⟨H + 1, 0, none⟩ = some (.string ⟨tt.toArray⟩) := cell_of HR8.out.rul rfl
      have x1 : W8.cell? ⟨H + 1, 1, none⟩ = some (.slice a4 nh c4) := cell_of HR8.out.rul rfl
      have x2 : W8.cell? ⟨H + 1, 2, none⟩ = some (.slice a7 nb c7) := cell_of HR8.out.rul rfl
      have x3 : W8.cell? ⟨H + 1, 3, none⟩ = some (.bool true) := cell_of HR8.out.rul rfl
      have y0 : W8.cell? ⟨H, 0, none⟩ = some (.string ⟨#[]⟩) := cell_of HR8.out.res rfl
      have y1 : W8.cell? ⟨H, 1, none⟩ = some (.slice none 0 0) := cell_of HR8.out.res rfl
      have y2 : W8.cell? ⟨H, 2, none⟩ = some (.slice none 0 0) := cell_of HR8.out.res rfl
      have y3 : W8.cell? ⟨H, 3, none⟩ = some (.bool false) := cell_of HR8.out.res rfl
      have yf : ∀ k, W8.frozen? ⟨H, k, none⟩ = false := fun k => unfrozen_of HR8.out.res
      clear hW8 q1 q2 q3
      go_big_region
      go_wp2_with fail
      obtain ⟨f1, f2, f3⟩ := rule_fin HR8.out (.string ⟨tt.toArray⟩) (.slice a4 nh c4) (.slice a7 nb c7) (.bool true)
      refine bodyPost_ret_by (results_rule _ _ H _ _ _ _ _ rfl rfl f3) rfl ?_
      have hRv := HRR.out
      rw [HRT.out, HHD.out] at hRv
      rw [← hRv, hH]
      refine ⟨⟨a4, c4, a7, c7, a5, cap - M, ?_, ?_, ?_, ?_, u5, ?_⟩, f1⟩
      · show _ = Ending.returned (.tuple #[.agg #[.string ⟨tt.toArray⟩, .slice a4 hd.length c4, .slice a7 bd.length c7, .bool true], .slice a5 (l0.drop (M + 1)).length (cap - M)])
        rw [HDR.out, HNH.out, HU.out.1, HV2.out, HNB.out]
        rfl
      · exact f2 _ _ _ (HF8.out)
      · exact f2 _ _ _ (HG8.out)
      · rw [HDR.out, HU.out.1]; exact HU.out.2.1
      · rw [HDR.out]; exact fun W h => HU.out.2.2 W (HP4.out W h)
    · have hrt := rulT_semi (att := tt) HE.out hlt2 hk17
      obtain ⟨kd, hkd⟩ : ∃ x, l[e].kind = x := ⟨_, rfl⟩
      have d0 : W5.cell? ⟨b1, o1 + e * 3, none⟩ = some (.int .i64 kd) := by rw [← hkd]; exact kk.kind
      rw [hkd] at hk17
      have hkz : (kd == 17) = false := by rw [beq_eq_false_iff_ne]; exact hk17
      obtain ⟨a5, u1, u2, u3, u5, u4⟩ := sl_from (some ⟨b1, o1, none⟩) l cap n (e + 1) hn ((e : Int) + 1) (by omega) (by omega) h1 h2'
      have HU := Lib.hid (And.intro u2 (And.intro u3 u4))
      have HRT := Lib.hid hrt
      have r1 : ∀ (W : World) (ts : Array TypeId) (t : TypeId), (Builtin.min_ ts t #[.int .i64 ((e : Int) + 1), .int .i64 (n : Int)]).run Try.prog W = .ok (.int .i64 ((e : Int) + 1)) W := fun W ts t => run_imin W ts t _ _ _ (by split <;> omega)
      clear hrt u2 u3 u4 kk hkd hk17
      go_wp2_with fail
      clear hW5 q1 q2 HR4
      have x0 : W5.cell? ⟨H + 1, 0, none⟩ = some (.string ⟨tt.toArray⟩) := cell_of HR5.out.rul rfl
      have x1 : W5.cell? ⟨H + 1, 1, none⟩ = some (.slice a4 nh c4) := cell_of HR5.out.rul rfl
      have x2 : W5.cell? ⟨H + 1, 2, none⟩ = some (.slice none 0 0) := cell_of HR5.out.rul rfl
      have x3 : W5.cell? ⟨H + 1, 3, none⟩ = some (.bool false) := cell_of HR5.out.rul rfl
      have y0 : W5.cell? ⟨H, 0, none⟩ = some (.string ⟨#[]⟩) := cell_of HR5.out.res rfl
      have y1 : W5.cell? ⟨H, 1, none⟩ = some (.slice none 0 0) := cell_of HR5.out.res rfl
      have y2 : W5.cell? ⟨H, 2, none⟩ = some (.slice none 0 0) := cell_of HR5.out.res rfl
      have y3 : W5.cell? ⟨H, 3, none⟩ = some (.bool false) := cell_of HR5.out.res rfl
      have yf : ∀ k, W5.frozen? ⟨H, k, none⟩ = false := fun k => unfrozen_of HR5.out.res
      go_big_region
      go_wp2_with fail
      obtain ⟨f1, f2, f3⟩ := rule_fin HR5.out (.string ⟨tt.toArray⟩) (.slice a4 nh c4) (.slice none 0 0) (.bool false)
      refine bodyPost_ret_by (results_rule _ _ H _ _ _ _ _ rfl rfl f3) rfl ?_
      have hRv := HRR.out
      rw [HRT.out, HHD.out] at hRv
      rw [← hRv, hH]
      refine ⟨⟨a4, c4, none, 0, a5, cap - (e + 1), ?_, ?_, FrT.nil _ _, ?_, u5, ?_⟩, f1⟩
      · show _ = Ending.returned (.tuple #[.agg #[.string ⟨tt.toArray⟩, .slice a4 hd.length c4, .slice none 0 0, .bool false], .slice a5 (l0.drop (e + 1 + 1)).length (cap - (e + 1))])
        rw [HDR.out, HNH.out, HU.out.1]
        rfl
      · exact f2 _ _ _ (HF5.out)
      · rw [HDR.out, HU.out.1]; exact HU.out.2.1
      · rw [HDR.out]; exact fun W h => HU.out.2.2 W (HP4.out W h)
theorem rule_any (a : Option Addr) (n cap : Nat) (l : List Tok) (w : World) (hn : l.length = n) (h0 : 0 < n) (h1 : n ≤ cap) (h2 : cap ≤ maxLen) (hl9 : n ≤ 90000) (hT : Tks w a l) :
    Calls Try.prog 27 #[.slice a n cap] w fun e w' => RuIs (w.heap.size + 3) w a l (rulS l) e w' := by
  cases l with
  | nil => simp at hn; omega
  | cons t r =>
    obtain ⟨b, o, e, _, _⟩ := hT.get (i := 0) (by simp)
    subst e
    by_cases hk : t.kind = 3
    · exact rule_at b o n cap (t :: r) t r w rfl hn h1 h2 hl9 hT hk
    · exact rule_no b o n cap (t :: r) t r w rfl hn h1 h2 hl9 hT hk
end Go.Proofs.Ytaiommmbbajgnaa
