/- Layer 6: the rules of a list: the walk. -/
import Derived.Test.YtaiommmbbajgnaaSynU3
namespace Go.Proofs.Ytaiommmbbajgnaa
open Go.RowKit TreN LexP FixP SynP
set_option linter.unusedVariables false

/-- what stands at the loop's head -/
structure RuAt (w0 : World) (n : Nat) (l : List Tok) (a1 : Option Addr) (m : List Tok) (k : Nat) (done : List Rul) (v : Value) (wr : World) : Prop where
  len : m.length = k
  tks : ∀ W, Below w0.heap.size w0 W → Tks W a1 m
  row : RuR w0 v done wr
  sum : ∃ q, bs q = m ∧ rusS l = done ++ rusS q
  bd : done.length + k ≤ n

theorem rul_one (x0 : ByteArray) (x1 x2 : Value) (x3 : Bool) (h1 : x1.oneCell' = true := by rfl) (h2 : x2.oneCell' = true := by rfl) : (Value.string x0).oneCell' = true ∧ x1.oneCell' = true ∧ x2.oneCell' = true ∧ (Value.bool x3).oneCell' = true := ⟨rfl, h1, h2, rfl⟩
theorem rul_stored {w0 wr w2 : World} {v : Value} {done : List Rul} (x : RawV) {P : Nat} {o : Obj} {z0 z1 z2 z3 : Value} (hP : wr.heap.size = P) (hrow : RuR w0 v done wr) (hb : Below (wr.alloc o).heap.size (wr.alloc o) w2) (hz : (wr.alloc o).heap[P]? = some (.cells #[z0, z1, z2, z3] 41 (0, 0)))
    (F1 : FrT ((wr.alloc o).heap.size + 3) w2 x.ah x.ch x.r.head) (F2 : FrT ((wr.alloc o).heap.size + 3) w2 x.ab x.cb x.r.body) (v0 v1 v2 v3 : Value) {W3 : World} (h3 : (((w2.setCell ⟨P, 0, none⟩ v0).setCell ⟨P, 1, none⟩ v1).setCell ⟨P, 2, none⟩ v2).setCell ⟨P, 3, none⟩ v3 = W3) :
    W3.heap[P]? = some (.cells #[v0, v1, v2, v3] 41 (0, 0)) ∧ Below wr.heap.size wr W3 ∧ RuR w0 v done W3 ∧ RIn W3 w0.heap.size v x := by
  subst h3
  have hb1 : Below wr.heap.size wr (wr.alloc o) := (Below.refl _ _).alloc (Nat.le_refl _) o
  have hb0 := hb1.trans (hb.mono hb1.size)
  have hs : (wr.alloc o).heap.size = P + 1 := by simp [hP]
  have hz2 := blk_keepR hb hz
  have hle : wr.heap.size ≤ P := by omega
  have hB := (((hb0.setCell (p := ⟨P, 0, none⟩) hle v0).setCell (p := ⟨P, 1, none⟩) hle v1).setCell (p := ⟨P, 2, none⟩) hle v2).setCell (p := ⟨P, 3, none⟩) hle v3
  have hlo := hrow.below.size
  have own := hrow.own_lt
  refine ⟨setCell_here (k := 3) v3 (setCell_here (k := 2) v2 (setCell_here (k := 1) v1 (setCell_here (k := 0) v0 hz2))), hB, hrow.keep hB, ?_, ?_⟩
  · exact PIn.fresh ((((F1.set (P := P) (k := 0) (by omega) v0).set (P := P) (k := 1) (by omega) v1).set (P := P) (k := 2) (by omega) v2).set (P := P) (k := 3) (by omega) v3) (by omega) (fun q hq => by have := own q hq; omega)
  · exact PIn.fresh ((((F2.set (P := P) (k := 0) (by omega) v0).set (P := P) (k := 1) (by omega) v1).set (P := P) (k := 2) (by omega) v2).set (P := P) (k := 3) (by omega) v3) (by omega) (fun q hq => by have := own q hq; omega)

set_option maxRecDepth 100000 in
set_option maxHeartbeats 4000000 in
theorem Rules_any (a : Option Addr) (n cap : Nat) (l : List Tok) (w : World) (hn : l.length = n) (h1 : n ≤ cap) (h2 : cap ≤ maxLen) (hl9 : n ≤ 90000) (hT : Tks w a l) :
    Calls Try.prog 17 #[.slice a n cap] w fun e w' => ∃ v, e = .returned v ∧ RuR w v (rusS l) w' := by
  have C := Lib.hid (behindSpaces_rel a l cap w (by omega) h2 hT)
  have hbn := bs_len l
  rw [hn] at C hbn
  have HR0 := Lib.hid (RuR.start w)
  have HT0 := Lib.hid (fun W (hW : Below w.heap.size w W) => hT.below hW)
  obtain ⟨bl, hbl⟩ : ∃ x, bs l = x := ⟨_, rfl⟩
  have HBL := Lib.hid hbl
  rw [hbl] at C hbn
  obtain ⟨nb, hnb⟩ : ∃ x, bl.length = x := ⟨_, rfl⟩
  have HNB := Lib.hid hnb
  rw [hnb] at C hbn
  clear hbl hnb hT hn
  go_enter Try.func17, Try.ntmps17
  go_wp2_with fail
  refine C.out.mono ?_
  rintro e w2 ⟨⟨a2, c2, rfl, g1, g2, g3⟩, rfl⟩
  have G3 := Lib.hid g3
  clear C g3
  go_wp2_with fail
  go_loopw [0, 3] (fun v0 v3 wr => ∃ (a1 : Option Addr) (m : List Tok) (k c1 : Nat) (done : List Rul), v0 = .slice a1 k c1 ∧ k ≤ c1 ∧ c1 ≤ maxLen ∧ k ≤ n ∧ Hid (RuAt w n l a1 m k done v3 wr)) (fun v0 _ _ => lenV v0)
  case atStart => exact ⟨a2, bl, nb, c2, [], rfl, g1, g2, hbn, Lib.hid ⟨HNB.out, fun W hW => G3.out W (HT0.out W hW), HR0.out, ⟨l, HBL.out, rfl⟩, by simpa using hbn⟩⟩
  case round =>
    obtain ⟨a1, m, k, c1, done, rfl, hk, hc, hkn, HM⟩ := hrel
    cases m with
    | nil =>
      have hk0 : k = 0 := HM.out.len.symm
      subst hk0
      go_wp2_with fail
      go_ret
      obtain ⟨q, hq1, hq2⟩ := HM.out.sum
      refine ⟨_, rfl, ?_⟩
      rw [hq2, rusS_nil hq1, List.append_nil]
      exact HM.out.row
    | cons t r =>
      obtain ⟨b1, o1, e1, hb1, k1⟩ := (HM.out.tks wr HM.out.row.below).first
      subst e1
      have hk0 : 0 < k := by rw [← HM.out.len]; simp
      have hkz : (0 : Int) < (k : Int) := by omega
      have hkd : decide (0 < k) = true := by simp; omega
      have hkn2 : ¬ k = 0 := by omega
      obtain ⟨kt, hkt⟩ : ∃ x, t.kind = x := ⟨_, rfl⟩
      have d1 : wr.cell? ⟨b1, o1, none⟩ = some (.int .i64 kt) := by rw [← hkt]; exact k1.kind
      have HKT := Lib.hid hkt
      have CR := fun (W : World) (hW : Below wr.heap.size wr W) => rule_any (some ⟨b1, o1, none⟩) k c1 (t :: r) W HM.out.len hk0 hk hc (by omega) (HM.out.tks W (HM.out.row.below.trans (hW.mono HM.out.row.below.size)))
      obtain ⟨R, hR⟩ : ∃ x, rulS (t :: r) = x := ⟨_, rfl⟩
      have HRU := Lib.hid hR
      have hpos := rulS_pos t r
      rw [hR] at hpos
      simp only [hR] at CR
      have HCR := Lib.hid CR
      obtain ⟨P, hP⟩ : ∃ P, wr.heap.size = P := ⟨_, rfl⟩
      have HP := Lib.hid hP
      have hba := Lib.hid ((Below.refl wr.heap.size wr).alloc (Nat.le_refl _) z4)
      have hz4 := Lib.hid (heap_alloc_new wr z4)
      unfold z4 at hba hz4
      have BS := fun (W : World) (a : Option Addr) (c : Nat) (h1 : ((t :: r).drop R.2).length ≤ c) (h2 : c ≤ maxLen) (hT : Tks W a ((t :: r).drop R.2)) => behindSpaces_rel a ((t :: r).drop R.2) c W h1 h2 hT
      obtain ⟨q, hq⟩ : ∃ x, (t :: r).drop R.2 = x := ⟨_, rfl⟩
      have hql : q.length ≤ k - 1 := by rw [← hq, List.length_drop, HM.out.len]; omega
      have HQ := Lib.hid hq
      rw [hq] at BS
      have hqb := bs_len q
      obtain ⟨bq, hbq⟩ : ∃ x, bs q = x := ⟨_, rfl⟩
      have HBQ := Lib.hid hbq
      simp only [hbq] at BS
      rw [hbq] at hqb
      obtain ⟨nq, hnq⟩ : ∃ x, q.length = x := ⟨_, rfl⟩
      have HNQ := Lib.hid hnq
      rw [hnq] at hql hqb
      simp only [hnq] at BS
      obtain ⟨nbq, hnbq⟩ : ∃ x, bq.length = x := ⟨_, rfl⟩
      have HNBQ := Lib.hid hnbq
      rw [hnbq] at hqb
      simp only [hnbq] at BS
      have HBS := Lib.hid BS
      obtain ⟨rr, rn⟩ := R
      obtain ⟨ra, rh, rb, rk⟩ := rr
      obtain ⟨nrh, hnrh⟩ : ∃ x, rh.length = x := ⟨_, rfl⟩
      obtain ⟨nrb, hnrb⟩ : ∃ x, rb.length = x := ⟨_, rfl⟩
      have HNH := Lib.hid hnrh
      have HNR := Lib.hid hnrb
      clear CR BS hP hR hpos hq hbq hnq hnbq hkt k1 hb1 hnrh hnrb
      by_cases hk3 : kt = 3
      · have hkk : (kt == 3) = true := by rw [beq_iff_eq]; exact hk3
        go_wp2_with fail
        refine (HCR.out _ hba.out).mono ?_
        rintro e2 w2 ⟨⟨ah, ch, ab, cb, a3, c3, rfl, F1, F2, h3, h4, T3⟩, hb2⟩
        rw [HQ.out, HNQ.out] at h3
        simp only [HQ.out, HNQ.out, HNH.out, HNR.out]
        have hz2 := blk_keepR hb2 hz4.out
        rw [HP.out] at hz2
        have y0 : w2.cell? ⟨P, 0, none⟩ = some (.string ⟨#[]⟩) := cell_of hz2 rfl
        have y1 : w2.cell? ⟨P, 1, none⟩ = some (.slice none 0 0) := cell_of hz2 rfl
        have y2 : w2.cell? ⟨P, 2, none⟩ = some (.slice none 0 0) := cell_of hz2 rfl
        have y3 : w2.cell? ⟨P, 3, none⟩ = some (.bool false) := cell_of hz2 rfl
        have yf : ∀ k, w2.frozen? ⟨P, k, none⟩ = false := fun k => unfrozen_of hz2
        obtain ⟨W3, hW3⟩ : ∃ W3, (((w2.setCell ⟨P, 0, none⟩ (.string ⟨ra.toArray⟩)).setCell ⟨P, 1, none⟩ (.slice ah nrh ch)).setCell ⟨P, 2, none⟩ (.slice ab nrb cb)).setCell ⟨P, 3, none⟩ (.bool rk) = W3 := ⟨_, rfl⟩
        have HX := Lib.hid (rul_stored ⟨⟨ra, rh, rb, rk⟩, ah, ch, ab, cb⟩ HP.out HM.out.row hb2 (by rw [← HP.out]; exact hz4.out) F1 F2 _ _ _ _ hW3)
        have HT3 := Lib.hid T3
        have hPz := HP.out
        have x0 : W3.cell? ⟨P, 0, none⟩ = some (.string ⟨ra.toArray⟩) := cell_of HX.out.1 rfl
        have x1 : W3.cell? ⟨P, 1, none⟩ = some (.slice ah nrh ch) := cell_of (by have := HX.out.1; exact this) rfl
        have x2 : W3.cell? ⟨P, 2, none⟩ = some (.slice ab nrb cb) := cell_of HX.out.1 rfl
        have x3 : W3.cell? ⟨P, 3, none⟩ = some (.bool rk) := cell_of HX.out.1 rfl
        obtain ⟨⟨ds, r1, r2, r3⟩, r4⟩ := HX.out.2.2.1
        have hdl : ds.length ≤ n := by have h1 := HM.out.bd; rw [← r1, List.length_map] at h1; omega
        obtain ⟨i0, hi0, hq0', hq1', hq2'⟩ := info_parts info_raw
        have hsz := r4.size
        have HDS := Lib.hid (And.intro r1 r3)
        clear F1 F2 T3 hz2 hb2 d1 r3 r1
        go_wp2_with (at_builtin; refine wpList_append_lies _ rfl _ _ 35 rfl w.heap.size 41 i0 _ 4 72 und_raws hi0 hq0' hq1' hq2' rfl (by decide) _ ds.length (rcs ds) rfl (r2.alloc _) ⟨W3.heap.size, 0, none⟩ 1 1 [.string ⟨ra.toArray⟩, .slice ah nrh ch, .slice ab nrb cb, .bool rk] rfl rfl ?c1 ?c2 (by decide) ?c3 ?c4 ?c5 _ rfl ?_)
        case c2 => exact rul_one _ _ _ _
        case c3 => unfold maxLen; omega
        case c4 => omega
        case c5 => omega
        intro g cp w5 hown5 hgrow hgn _
        have hpush : RuR w (.slice (some ⟨g, 0, none⟩) (ds.length + 1) cp) (done ++ [⟨ra, rh, rb, rk⟩]) w5 :=
          RuR.push (X := ⟨⟨ra, rh, rb, rk⟩, ah, ch, ab, cb⟩) HDS.out.1 r4 r2 HDS.out.2 HX.out.2.2.2 hgrow (by simp only [rcs, HNH.out, HNR.out]; exact hown5) (by simpa using hgn)
        have HPU := Lib.hid hpush
        clear hpush hown5 hgrow hgn r2
        go_wp2_with fail
        refine (HBS.out w5 a3 c3 h3 h4 (by have := HT3.out w5 (HM.out.tks w5 HPU.out.below); rw [HQ.out] at this; exact this)).mono ?_
        rintro e3 w6 ⟨⟨a7, c7, rfl, s1, s2, s3⟩, rfl⟩
        have HS3 := Lib.hid s3
        clear s3
        go_wp2_with fail
        go_roundw
        case rel =>
          refine ⟨a7, bq, nbq, c7, done ++ [⟨ra, rh, rb, rk⟩], by go_num, s1, s2, by omega, Lib.hid ⟨HNBQ.out, fun W hW => HS3.out W (by have := HT3.out W (HM.out.tks W hW); rw [HQ.out] at this; exact this), HPU.out, ⟨q, HBQ.out, ?_⟩, ?_⟩⟩
          · obtain ⟨q0, hq0, hs⟩ := HM.out.sum
            have hru := HRU.out
            have hat : isAt (t :: r) = true := by show decide (t.kind = 3) = true; rw [HKT.out]; exact decide_eq_true hk3
            rw [hs, rusS_cons hq0, ruls1, hat, Bool.true_or, if_pos rfl, hru, HQ.out, List.append_assoc]
          · have := HM.out.bd
            rw [List.length_append]
            simp only [List.length_cons, List.length_nil]
            omega
        case measure => simp [lenV]; omega
      · have hkk : (kt == 3) = false := by rw [beq_eq_false_iff_ne]; exact hk3
        cases rk
        · skip
          go_wp2_with fail
          refine (HCR.out _ hba.out).mono ?_
          rintro e2 w2 ⟨⟨ah, ch, ab, cb, a3, c3, rfl, F1, F2, h3, h4, T3⟩, hb2⟩
          rw [HQ.out, HNQ.out] at h3
          simp only [HQ.out, HNQ.out, HNH.out, HNR.out]
          have hz2 := blk_keepR hb2 hz4.out
          rw [HP.out] at hz2
          have y0 : w2.cell? ⟨P, 0, none⟩ = some (.string ⟨#[]⟩) := cell_of hz2 rfl
          have y1 : w2.cell? ⟨P, 1, none⟩ = some (.slice none 0 0) := cell_of hz2 rfl
          have y2 : w2.cell? ⟨P, 2, none⟩ = some (.slice none 0 0) := cell_of hz2 rfl
          have y3 : w2.cell? ⟨P, 3, none⟩ = some (.bool false) := cell_of hz2 rfl
          have yf : ∀ k, w2.frozen? ⟨P, k, none⟩ = false := fun k => unfrozen_of hz2
          obtain ⟨W3, hW3⟩ : ∃ W3, (((w2.setCell ⟨P, 0, none⟩ (.string ⟨ra.toArray⟩)).setCell ⟨P, 1, none⟩ (.slice ah nrh ch)).setCell ⟨P, 2, none⟩ (.slice ab nrb cb)).setCell ⟨P, 3, none⟩ (.bool false) = W3 := ⟨_, rfl⟩
          have HX := Lib.hid (rul_stored ⟨⟨ra, rh, rb, false⟩, ah, ch, ab, cb⟩ HP.out HM.out.row hb2 (by rw [← HP.out]; exact hz4.out) F1 F2 _ _ _ _ hW3)
          have HT3 := Lib.hid T3
          have hPz := HP.out
          have x0 : W3.cell? ⟨P, 0, none⟩ = some (.string ⟨ra.toArray⟩) := cell_of HX.out.1 rfl
          have x1 : W3.cell? ⟨P, 1, none⟩ = some (.slice ah nrh ch) := cell_of (by have := HX.out.1; exact this) rfl
          have x2 : W3.cell? ⟨P, 2, none⟩ = some (.slice ab nrb cb) := cell_of HX.out.1 rfl
          have x3 : W3.cell? ⟨P, 3, none⟩ = some (.bool false) := cell_of HX.out.1 rfl
          have hpush : RuR w u3 done W3 := HX.out.2.2.1
          clear F1 F2 T3 hz2 hb2 d1
          have HPU := Lib.hid hpush
          clear hpush
          go_wp2_with fail
          refine (HBS.out W3 a3 c3 h3 h4 (by have := HT3.out W3 (HM.out.tks W3 HPU.out.below); rw [HQ.out] at this; exact this)).mono ?_
          rintro e3 w6 ⟨⟨a7, c7, rfl, s1, s2, s3⟩, rfl⟩
          have HS3 := Lib.hid s3
          clear s3
          go_wp2_with fail
          go_roundw
          case rel =>
            refine ⟨a7, bq, nbq, c7, done, by go_num, s1, s2, by omega, Lib.hid ⟨HNBQ.out, fun W hW => HS3.out W (by have := HT3.out W (HM.out.tks W hW); rw [HQ.out] at this; exact this), HPU.out, ⟨q, HBQ.out, ?_⟩, ?_⟩⟩
            · obtain ⟨q0, hq0, hs⟩ := HM.out.sum
              have hru := HRU.out
              have hat : isAt (t :: r) = false := by show decide (t.kind = 3) = false; rw [HKT.out]; exact decide_eq_false hk3
              rw [hs, rusS_cons hq0, ruls1, hat, hru, HQ.out, if_neg (by simp), List.nil_append]
            · have := HM.out.bd
              omega
          case measure => simp [lenV]; omega
        · skip
          go_wp2_with fail
          refine (HCR.out _ hba.out).mono ?_
          rintro e2 w2 ⟨⟨ah, ch, ab, cb, a3, c3, rfl, F1, F2, h3, h4, T3⟩, hb2⟩
          rw [HQ.out, HNQ.out] at h3
          simp only [HQ.out, HNQ.out, HNH.out, HNR.out]
          have hz2 := blk_keepR hb2 hz4.out
          rw [HP.out] at hz2
          have y0 : w2.cell? ⟨P, 0, none⟩ = some (.string ⟨#[]⟩) := cell_of hz2 rfl
          have y1 : w2.cell? ⟨P, 1, none⟩ = some (.slice none 0 0) := cell_of hz2 rfl
          have y2 : w2.cell? ⟨P, 2, none⟩ = some (.slice none 0 0) := cell_of hz2 rfl
          have y3 : w2.cell? ⟨P, 3, none⟩ = some (.bool false) := cell_of hz2 rfl
          have yf : ∀ k, w2.frozen? ⟨P, k, none⟩ = false := fun k => unfrozen_of hz2
          obtain ⟨W3, hW3⟩ : ∃ W3, (((w2.setCell ⟨P, 0, none⟩ (.string ⟨ra.toArray⟩)).setCell ⟨P, 1, none⟩ (.slice ah nrh ch)).setCell ⟨P, 2, none⟩ (.slice ab nrb cb)).setCell ⟨P, 3, none⟩ (.bool true) = W3 := ⟨_, rfl⟩
          have HX := Lib.hid (rul_stored ⟨⟨ra, rh, rb, true⟩, ah, ch, ab, cb⟩ HP.out HM.out.row hb2 (by rw [← HP.out]; exact hz4.out) F1 F2 _ _ _ _ hW3)
          have HT3 := Lib.hid T3
          have hPz := HP.out
          have x0 : W3.cell? ⟨P, 0, none⟩ = some (.string ⟨ra.toArray⟩) := cell_of HX.out.1 rfl
          have x1 : W3.cell? ⟨P, 1, none⟩ = some (.slice ah nrh ch) := cell_of (by have := HX.out.1; exact this) rfl
          have x2 : W3.cell? ⟨P, 2, none⟩ = some (.slice ab nrb cb) := cell_of HX.out.1 rfl
          have x3 : W3.cell? ⟨P, 3, none⟩ = some (.bool true) := cell_of HX.out.1 rfl
          obtain ⟨⟨ds, r1, r2, r3⟩, r4⟩ := HX.out.2.2.1
          have hdl : ds.length ≤ n := by have h1 := HM.out.bd; rw [← r1, List.length_map] at h1; omega
          obtain ⟨i0, hi0, hq0', hq1', hq2'⟩ := info_parts info_raw
          have hsz := r4.size
          have HDS := Lib.hid (And.intro r1 r3)
          clear F1 F2 T3 hz2 hb2 d1 r3 r1
          go_wp2_with (at_builtin; refine wpList_append_lies _ rfl _ _ 35 rfl w.heap.size 41 i0 _ 4 72 und_raws hi0 hq0' hq1' hq2' rfl (by decide) _ ds.length (rcs ds) rfl (r2.alloc _) ⟨W3.heap.size, 0, none⟩ 1 1 [.string ⟨ra.toArray⟩, .slice ah nrh ch, .slice ab nrb cb, .bool true] rfl rfl ?dd1 ?dd2 (by decide) ?dd3 ?dd4 ?dd5 _ rfl ?_)
          case dd2 => exact rul_one _ _ _ _
          case dd3 => unfold maxLen; omega
          case dd4 => omega
          case dd5 => omega
          intro g cp w5 hown5 hgrow hgn _
          have hpush : RuR w (.slice (some ⟨g, 0, none⟩) (ds.length + 1) cp) (done ++ [⟨ra, rh, rb, true⟩]) w5 :=
            RuR.push (X := ⟨⟨ra, rh, rb, true⟩, ah, ch, ab, cb⟩) HDS.out.1 r4 r2 HDS.out.2 HX.out.2.2.2 hgrow (by simp only [rcs, HNH.out, HNR.out]; exact hown5) (by simpa using hgn)
          have HPU := Lib.hid hpush
          clear hpush hown5 hgrow hgn r2
          go_wp2_with fail
          refine (HBS.out w5 a3 c3 h3 h4 (by have := HT3.out w5 (HM.out.tks w5 HPU.out.below); rw [HQ.out] at this; exact this)).mono ?_
          rintro e3 w6 ⟨⟨a7, c7, rfl, s1, s2, s3⟩, rfl⟩
          have HS3 := Lib.hid s3
          clear s3
          go_wp2_with fail
          go_roundw
          case rel =>
            refine ⟨a7, bq, nbq, c7, done ++ [⟨ra, rh, rb, true⟩], by go_num, s1, s2, by omega, Lib.hid ⟨HNBQ.out, fun W hW => HS3.out W (by have := HT3.out W (HM.out.tks W hW); rw [HQ.out] at this; exact this), HPU.out, ⟨q, HBQ.out, ?_⟩, ?_⟩⟩
            · obtain ⟨q0, hq0, hs⟩ := HM.out.sum
              have hru := HRU.out
              rw [hs, rusS_cons hq0, ruls1, hru, HQ.out, if_pos (Bool.or_true _), List.append_assoc]
            · have := HM.out.bd
              rw [List.length_append]
              simp only [List.length_cons, List.length_nil]
              omega
          case measure => simp [lenV]; omega
end Go.Proofs.Ytaiommmbbajgnaa
