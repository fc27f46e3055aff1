/- The walks of layer 2: how the library's stable sort makes one of two sorted pieces. -/
import Derived.Test.YtaegajlffiepoaaShaW4
import Derived.Test.YtaegajlffiepoaaShaW5
import Derived.Test.YtaegajlffiepoaaShaM4
namespace Go.Proofs.Ytaegajlffiepoaa
open Go.RowKit Go.Sort ShaM

set_option maxHeartbeats 8000000 in
set_option maxRecDepth 100000 in
theorem symMerge_mid (w : World) (blk cap a m b g : Nat) (cb : Array Value) (cf : Int → Int → Int) (LT : Int → Int → Prop) (d0 d : Array Int) (m0 : Nat)
    (eg : ∀ args w, (callFunc g args).run Try.prog w = .ok (.enter g args) w) (hO : Ord LT) (hcf : ∀ x y, y < x → (cf x y < 0 ↔ LT x y)) (hc : CmpOK w blk d0.size g cb cf)
    (h0 : Holds (Value.int .i64) w blk 0 d0) (hs : d.size = d0.size) (ham : a + 1 < m) (hmb : m + 1 < b) (hb : b ≤ d.size) (hsz : d.size < 4611686018427387904)
    (hr : Rng d.size d) (h2 : Two LT a m b d)
    (ih : ∀ (a' m' b' : Nat) (d' : Array Int) (mm : Nat), b' - a' < b - a → a' < m' → m' < b' → b' ≤ d'.size → d'.size = d0.size → Rng d'.size d' → Two LT a' m' b' d' →
      Calls Try.prog 68 #[.slice (some ⟨blk, 0, none⟩) d0.size cap, .int .i64 a', .int .i64 m', .int .i64 b', .func (.func g) #[] cb] (RW w blk d' mm) fun e w' =>
        e = .returned (.tuple #[]) ∧ ∃ d'' m'', Mv a' b' d' d'' ∧ Srt LT a' b' d'' ∧ RW w blk d'' m'' = w') :
    Calls Try.prog 68 #[.slice (some ⟨blk, 0, none⟩) d0.size cap, .int .i64 a, .int .i64 m, .int .i64 b, .func (.func g) #[] cb] (RW w blk d m0) fun e w' =>
      e = .returned (.tuple #[]) ∧ ∃ d' m', Mv a b d d' ∧ Srt LT a b d' ∧ RW w blk d' m' = w' := by
  have H0 := Lib.hid h0
  have HS := Lib.hid hs
  have HO := Lib.hid hO
  have HCF := Lib.hid hcf
  have HC := Lib.hid hc
  have HR := Lib.hid hr
  have H2 := Lib.hid h2
  have IH := Lib.hid ih
  clear h0 hs hO hcf hc hr h2 ih
  obtain ⟨mid, hmid⟩ : ∃ mid, mid = (a + b) / 2 := ⟨_, rfl⟩
  obtain ⟨n, hn⟩ : ∃ n, n = mid + m := ⟨_, rfl⟩
  have q0 : ((m : Int) - (a : Int) == 1) = false := by simp; omega
  have q1 : ((b : Int) - (m : Int) == 1) = false := by simp; omega
  have q2 : ((a : Int) + (b : Int)) / 2 = (mid : Int) := by omega
  have q3 : (mid : Int) + (m : Int) = (n : Int) := by omega
  have k1 : a < mid := by omega
  have k2 : mid < b := by omega
  have hnb : b ≤ n ∨ m ≤ mid := by omega
  have HMID := Lib.hid hmid
  have HN := Lib.hid hn
  have kn : mid + m ≤ n := by omega
  have kn2 : n ≤ mid + m := by omega
  clear hmid hn
  by_cases hcase : mid < m
  · obtain ⟨lo, hlo⟩ : ∃ lo, lo = n - b := ⟨_, rfl⟩
    obtain ⟨hi, hhi⟩ : ∃ hi, hi = mid := ⟨_, rfl⟩
    have q4 : (n : Int) - (b : Int) = (lo : Int) := by omega
    have hlh : (mid < m ∧ lo = n - b ∧ hi = mid) ∨ (m ≤ mid ∧ lo = a ∧ hi = m) := Or.inl ⟨hcase, hlo, hhi⟩
    have j1 : a ≤ lo := by omega
    have j2 : hi ≤ m := by omega
    have j3 : lo ≤ hi := by omega
    have j4 : hi + m ≤ n := by omega
    have j5 : n ≤ lo + b := by omega
    have HLH := Lib.hid hlh
    have HHI1 := Lib.hid hhi
    clear hlh hlo hhi
    go_enter Try.func68, Try.ntmps68
    go_wp2_with fail
    go_loopw [20, 21] (fun vs vr wr => ∃ (s r mi : Nat), vs = .int .i64 s ∧ vr = .int .i64 r ∧ lo ≤ s ∧ s ≤ r ∧ r ≤ hi ∧ wr = RW w blk d mi ∧ Hid (∀ c, lo ≤ c → c < s → LT d[c]! d[n - 1 - c]!) ∧ Hid (∀ c, r ≤ c → c < hi → LT d[n - 1 - c]! d[c]!)) (fun vs vr _ => (intOf vr).toNat - (intOf vs).toNat)
    case atStart => exact ⟨lo, hi, m0, by first | rfl | rw [HLO1.out], by rw [HHI1.out], by omega, by omega, by omega, rfl, fun k x y => by omega, fun k x y => by omega⟩
    case round =>
      obtain ⟨s, r, mi, rfl, rfl, hs1, hsr, hs2r, rfl, HA, HB⟩ := hrel
      by_cases hlt : s < r
      · have hltz : (s : Int) < (r : Int) := by omega
        obtain ⟨c, hcc⟩ : ∃ c, c = (s + r) / 2 := ⟨_, rfl⟩
        obtain ⟨pc, hpc⟩ : ∃ pc, pc = n - 1 - c := ⟨_, rfl⟩
        have q6 : ((s : Int) + (r : Int)) / 2 = (c : Int) := by omega
        have q7 : (n : Int) - 1 - (c : Int) = (pc : Int) := by omega
        have hsc : s ≤ c := by omega
        have hcr : c < r := by omega
        have hca : a ≤ c := by omega
        have hcm : c < m := by omega
        have hpm : m ≤ pc := by omega
        have hpb : pc < b := by omega
        have hyx : d[c]! < d[pc]! := H2.out.less c pc hca hcm hpm hpb
        have hmono : ∀ k, lo ≤ k → k < hi → a ≤ k ∧ k < m ∧ m ≤ n - 1 - k ∧ n - 1 - k < b := fun k x1 x2 => by omega
        have HMO := Lib.hid hmono
        have HPC := Lib.hid hpc
        clear hcc hpc hmono
        have hrp := HR.out pc (by omega)
        have hrq := HR.out c (by omega)
        obtain ⟨x, hx⟩ : ∃ x, d[pc]! = x := ⟨_, rfl⟩
        obtain ⟨y, hy⟩ : ∃ x, d[c]! = x := ⟨_, rfl⟩
        rw [hx, hy] at hyx
        rw [hx] at hrp
        rw [hy] at hrq
        obtain ⟨cp, fp⟩ := RW_cells H0.out HS.out mi pc (by omega)
        obtain ⟨cq, fq⟩ := RW_cells H0.out HS.out mi c (by omega)
        rw [hx] at cp
        rw [hy] at cq
        have hc2 : ∀ q, Calls Try.prog g (#[.int .i64 x, .int .i64 y] ++ cb) ((RW w blk d mi).drewN q) fun e w' => e = .returned (.int .i64 (cf x y)) ∧ ∃ r, w' = ((RW w blk d mi).drewN q).drewN r := fun q => by
          rw [RW_drewN]; exact HC.out d (mi + q) x y HS.out hrq.1 hyx (by rw [← HS.out]; exact hrp.2)
        have hd0 : d0.size = d.size := HS.out.symm
        have hl1 : (pc : Int) < (d0.size : Int) := by rw [hd0]; omega
        have hl2 : (c : Int) < (d0.size : Int) := by rw [hd0]; omega
        have s1 : IntKind.i64.wrap (pc : Int) = (pc : Int) := IntWalk.i64_in _ (by omega)
        have s2 : IntKind.i64.wrap ((n : Int) - 1 - (c : Int)) = (pc : Int) := by rw [q7]; exact s1
        have HX := Lib.hid hx
        have HY := Lib.hid hy
        have HYX := Lib.hid hyx
        clear hd0 hx hy hyx hrp hrq fp fq
        generalize hwq : RW w blk d mi = wq at cp cq hc2 ⊢
        have HWQ := Lib.hid hwq
        clear hwq
        by_cases hlv : cf x y < 0
        · have hnew : ∀ k, c ≤ k → k < hi → LT d[n - 1 - k]! d[k]! := fun k x1 x2 => by
            have hly : LT d[pc]! d[c]! := by rw [HX.out, HY.out]; exact (HCF.out x y HYX.out).1 hlv
            obtain ⟨y1, y2, y3, y4⟩ := HMO.out k (by omega) x2
            by_cases e : k = c
            · rw [e, ← HPC.out]; exact hly
            · exact HO.out.trans _ _ _ (H2.out.right (n - 1 - k) pc y3 (by rw [HPC.out]; omega) hpb) (HO.out.trans _ _ _ hly (H2.out.left c k hca (by omega) y2))
          have HNW := Lib.hid hnew
          clear hnew
          go_wp2_with fail
          go_quiet (first | (go_at_fn g; refine Calls.quiet_of (hc2 _)))
          go_wp2_with fail
          go_roundw
          case rel => exact ⟨s, c, _, rfl, rfl, hs1, hsc, by omega, by rw [← HWQ.out, RW_drewN], HA, HNW⟩
          case measure => simp [intOf]; omega
        · have hnew : ∀ k, lo ≤ k → k < c + 1 → LT d[k]! d[n - 1 - k]! := fun k x1 x2 => by
            have hly : LT d[c]! d[pc]! := by
              rw [HX.out, HY.out]
              exact (HO.out.total x y (by have := HYX.out; omega)).resolve_left (fun l => hlv ((HCF.out x y HYX.out).2 l))
            obtain ⟨y1, y2, y3, y4⟩ := HMO.out k x1 (by omega)
            by_cases e : k = c
            · rw [e, ← HPC.out]; exact hly
            · exact HO.out.trans _ _ _ (H2.out.left k c y1 (by omega) hcm) (HO.out.trans _ _ _ hly (H2.out.right pc (n - 1 - k) hpm (by rw [HPC.out]; omega) y4))
          have HNW := Lib.hid hnew
          clear hnew
          have hbn : (!decide (cf x y < 0)) = true := by simp; omega
          go_wp2_with fail
          go_quiet (first | (go_at_fn g; refine Calls.quiet_of (hc2 _)))
          go_wp2_with fail
          go_roundw
          case rel => exact ⟨c + 1, r, _, by go_num, rfl, by omega, by omega, hs2r, by rw [← HWQ.out, RW_drewN], HNW, HB⟩
          case measure => simp [intOf]; omega
      · have hsr' : r = s := by omega
        subst hsr'
        obtain ⟨e, he⟩ : ∃ e, e = n - r := ⟨_, rfl⟩
        have q8 : (n : Int) - (r : Int) = (e : Int) := by omega
        have hz : ¬ (r : Int) < (r : Int) := by omega
        have hcut : ∀ (d1 : Array Int), (∀ p, d1[p]! = FR (fun x => d[x]!) r m e p) → Two LT a r mid d1 ∧ Two LT mid e b d1 ∧ (∀ i j, a ≤ i → i < mid → mid ≤ j → j < b → LT d1[i]! d1[j]!) := fun d1 hf => by
          have := cut_two HO.out H2.out (by omega) (by omega) HMID.out HN.out lo hi HLH.out hs1 hs2r HA.out HB.out (by rw [← he]; exact hf)
          rw [← he] at this
          exact this.2.2.2.2.2.2
        obtain ⟨h1, h2, h3, h4, h5, h6⟩ : a ≤ r ∧ r ≤ mid ∧ mid ≤ e ∧ e ≤ b ∧ r ≤ m ∧ m ≤ e := by omega
        have HCUT := Lib.hid hcut
        have HEE := Lib.hid he
        clear hcut he
        by_cases hrot : r < m ∧ m < e
        · obtain ⟨hr1, hr2⟩ := hrot
          have c := rotate_any w blk cap r m e g cb d0 d mi H0.out HS.out hr1 hr2 (by omega) hsz
          have C := Lib.hid c
          clear c
          go_wp2_with fail
          clear hz
          refine C.out.mono ?_
          rintro x w' ⟨rfl, d1, m1, hsz1, hf1, rfl⟩
          have HSZ1 := Lib.hid hsz1
          have HF1 := Lib.hid hf1
          clear hsz1 hf1
          obtain ⟨htl, htr, hcr⟩ := HCUT.out d1 HF1.out
          have HTL := Lib.hid htl
          have HTR := Lib.hid htr
          have HCR := Lib.hid hcr
          have HR1 := Lib.hid ((Mv.FR h5 h6 HSZ1.out HF1.out).rng (show e ≤ d.size by omega) HR.out)
          clear htl htr hcr
          by_cases ha2 : a < r ∧ r < mid
          · obtain ⟨ha21, ha22⟩ := ha2
            have c := IH.out a r mid d1 m1 (by omega) ha21 ha22 (by rw [HSZ1.out]; omega) (HSZ1.out.trans HS.out) (by rw [HSZ1.out]; exact HR1.out) HTL.out
            have C := Lib.hid c
            clear c
            go_wp2_with fail
            all_goals
              refine C.out.mono ?_
              rintro x w' ⟨rfl, d2, m2, hm2', hs2', rfl⟩
              have HM2 := Lib.hid hm2'
              have HS2 := Lib.hid hs2'
              have HSZ2 := Lib.hid (hm2'.size.trans HSZ1.out)
              have HR2 := Lib.hid (hm2'.rng (show mid ≤ d.size by omega) HR1.out)
              have HT2 := Lib.hid (HTR.out.keep h3 hm2' (Nat.le_refl _))
              clear hm2' hs2'
              by_cases hb2 : mid < e ∧ e < b
              · obtain ⟨hb21, hb22⟩ := hb2
                have c := IH.out mid e b d2 m2 (by omega) hb21 hb22 (by rw [HSZ2.out]; exact hb) (HSZ2.out.trans HS.out) (by rw [HSZ2.out]; exact HR2.out) HT2.out
                have C := Lib.hid c
                clear c
                go_wp2_with fail
                all_goals
                  refine C.out.mono ?_
                  rintro x w' ⟨rfl, d3, m3, hm3, hs3, rfl⟩
                  have HE3 := Lib.hid (sym_end h1 h5 h6 h4 (by omega) (by omega) HSZ1.out HF1.out HM2.out HS2.out hm3 hs3 HCR.out)
                  clear hm3 hs3
                  go_wp2_with fail
                  all_goals go_end0
                  all_goals first | exact ⟨rfl, d3, m3, HE3.out.1, HE3.out.2, rfl⟩ | exact ⟨rfl, d3, HE3.out.1, HE3.out.2, m3, rfl⟩
              · have hs3 : Srt LT mid b d2 := HT2.out.triv hb2 h3 h4
                have HE3 := Lib.hid (sym_end h1 h5 h6 h4 (by omega) (by omega) HSZ1.out HF1.out HM2.out HS2.out (Mv.refl mid b d2) hs3 HCR.out)
                clear hs3
                by_cases hbx : mid < e
                · have hby : b ≤ e := by omega
                  clear hb2
                  go_wp2_with fail
                  all_goals go_end0
                  all_goals first | exact ⟨rfl, d2, m2, HE3.out.1, HE3.out.2, rfl⟩ | exact ⟨rfl, d2, HE3.out.1, HE3.out.2, m2, rfl⟩
                · clear hb2
                  go_wp2_with fail
                  all_goals go_end0
                  all_goals first | exact ⟨rfl, d2, m2, HE3.out.1, HE3.out.2, rfl⟩ | exact ⟨rfl, d2, HE3.out.1, HE3.out.2, m2, rfl⟩
          · have hs2' : Srt LT a mid d1 := HTL.out.triv ha2 h1 h2
            have HR2 := Lib.hid HR1.out
            have HM2 := Lib.hid (Mv.refl a mid d1)
            have HS2 := Lib.hid hs2'
            have HT2 := Lib.hid HTR.out
            clear hs2'
            by_cases hax : a < r
            · have hay : mid ≤ r := by omega
              clear ha2
              by_cases hb2 : mid < e ∧ e < b
              · obtain ⟨hb21, hb22⟩ := hb2
                have c := IH.out mid e b d1 m1 (by omega) hb21 hb22 (by rw [HSZ1.out]; exact hb) (HSZ1.out.trans HS.out) (by rw [HSZ1.out]; exact HR2.out) HT2.out
                have C := Lib.hid c
                clear c
                go_wp2_with fail
                all_goals
                  refine C.out.mono ?_
                  rintro x w' ⟨rfl, d3, m3, hm3, hs3, rfl⟩
                  have HE3 := Lib.hid (sym_end h1 h5 h6 h4 (by omega) (by omega) HSZ1.out HF1.out HM2.out HS2.out hm3 hs3 HCR.out)
                  clear hm3 hs3
                  go_wp2_with fail
                  all_goals go_end0
                  all_goals first | exact ⟨rfl, d3, m3, HE3.out.1, HE3.out.2, rfl⟩ | exact ⟨rfl, d3, HE3.out.1, HE3.out.2, m3, rfl⟩
              · have hs3 : Srt LT mid b d1 := HT2.out.triv hb2 h3 h4
                have HE3 := Lib.hid (sym_end h1 h5 h6 h4 (by omega) (by omega) HSZ1.out HF1.out HM2.out HS2.out (Mv.refl mid b d1) hs3 HCR.out)
                clear hs3
                by_cases hbx : mid < e
                · have hby : b ≤ e := by omega
                  clear hb2
                  go_wp2_with fail
                  all_goals go_end0
                  all_goals first | exact ⟨rfl, d1, m1, HE3.out.1, HE3.out.2, rfl⟩ | exact ⟨rfl, d1, HE3.out.1, HE3.out.2, m1, rfl⟩
                · clear hb2
                  go_wp2_with fail
                  all_goals go_end0
                  all_goals first | exact ⟨rfl, d1, m1, HE3.out.1, HE3.out.2, rfl⟩ | exact ⟨rfl, d1, HE3.out.1, HE3.out.2, m1, rfl⟩
            · clear ha2
              by_cases hb2 : mid < e ∧ e < b
              · obtain ⟨hb21, hb22⟩ := hb2
                have c := IH.out mid e b d1 m1 (by omega) hb21 hb22 (by rw [HSZ1.out]; exact hb) (HSZ1.out.trans HS.out) (by rw [HSZ1.out]; exact HR2.out) HT2.out
                have C := Lib.hid c
                clear c
                go_wp2_with fail
                all_goals
                  refine C.out.mono ?_
                  rintro x w' ⟨rfl, d3, m3, hm3, hs3, rfl⟩
                  have HE3 := Lib.hid (sym_end h1 h5 h6 h4 (by omega) (by omega) HSZ1.out HF1.out HM2.out HS2.out hm3 hs3 HCR.out)
                  clear hm3 hs3
                  go_wp2_with fail
                  all_goals go_end0
                  all_goals first | exact ⟨rfl, d3, m3, HE3.out.1, HE3.out.2, rfl⟩ | exact ⟨rfl, d3, HE3.out.1, HE3.out.2, m3, rfl⟩
              · have hs3 : Srt LT mid b d1 := HT2.out.triv hb2 h3 h4
                have HE3 := Lib.hid (sym_end h1 h5 h6 h4 (by omega) (by omega) HSZ1.out HF1.out HM2.out HS2.out (Mv.refl mid b d1) hs3 HCR.out)
                clear hs3
                by_cases hbx : mid < e
                · have hby : b ≤ e := by omega
                  clear hb2
                  go_wp2_with fail
                  all_goals go_end0
                  all_goals first | exact ⟨rfl, d1, m1, HE3.out.1, HE3.out.2, rfl⟩ | exact ⟨rfl, d1, HE3.out.1, HE3.out.2, m1, rfl⟩
                · clear hb2
                  go_wp2_with fail
                  all_goals go_end0
                  all_goals first | exact ⟨rfl, d1, m1, HE3.out.1, HE3.out.2, rfl⟩ | exact ⟨rfl, d1, HE3.out.1, HE3.out.2, m1, rfl⟩
        · have HF1 := Lib.hid (FR_triv (fun x => d[x]!) r m e h5 h6 hrot)
          obtain ⟨htl, htr, hcr⟩ := HCUT.out d HF1.out
          have HTL := Lib.hid htl
          have HTR := Lib.hid htr
          have HCR := Lib.hid hcr
          have HR1 := Lib.hid ((Mv.FR h5 h6 rfl HF1.out).rng (show e ≤ d.size by omega) HR.out)
          clear htl htr hcr
          by_cases hrx : r < m
          · have hry : e ≤ m := by omega
            clear hrot
            by_cases ha2 : a < r ∧ r < mid
            · obtain ⟨ha21, ha22⟩ := ha2
              have c := IH.out a r mid d mi (by omega) ha21 ha22 (by rw [(Eq.refl d.size)]; omega) ((Eq.refl d.size).trans HS.out) (by rw [(Eq.refl d.size)]; exact HR1.out) HTL.out
              have C := Lib.hid c
              clear c
              go_wp2_with fail
              all_goals
                refine C.out.mono ?_
                rintro x w' ⟨rfl, d2, m2, hm2', hs2', rfl⟩
                have HM2 := Lib.hid hm2'
                have HS2 := Lib.hid hs2'
                have HSZ2 := Lib.hid (hm2'.size.trans (Eq.refl d.size))
                have HR2 := Lib.hid (hm2'.rng (show mid ≤ d.size by omega) HR1.out)
                have HT2 := Lib.hid (HTR.out.keep h3 hm2' (Nat.le_refl _))
                clear hm2' hs2'
                by_cases hb2 : mid < e ∧ e < b
                · obtain ⟨hb21, hb22⟩ := hb2
                  have c := IH.out mid e b d2 m2 (by omega) hb21 hb22 (by rw [HSZ2.out]; exact hb) (HSZ2.out.trans HS.out) (by rw [HSZ2.out]; exact HR2.out) HT2.out
                  have C := Lib.hid c
                  clear c
                  go_wp2_with fail
                  all_goals
                    refine C.out.mono ?_
                    rintro x w' ⟨rfl, d3, m3, hm3, hs3, rfl⟩
                    have HE3 := Lib.hid (sym_end h1 h5 h6 h4 (by omega) (by omega) (Eq.refl d.size) HF1.out HM2.out HS2.out hm3 hs3 HCR.out)
                    clear hm3 hs3
                    go_wp2_with fail
                    all_goals go_end0
                    all_goals first | exact ⟨rfl, d3, m3, HE3.out.1, HE3.out.2, rfl⟩ | exact ⟨rfl, d3, HE3.out.1, HE3.out.2, m3, rfl⟩
                · have hs3 : Srt LT mid b d2 := HT2.out.triv hb2 h3 h4
                  have HE3 := Lib.hid (sym_end h1 h5 h6 h4 (by omega) (by omega) (Eq.refl d.size) HF1.out HM2.out HS2.out (Mv.refl mid b d2) hs3 HCR.out)
                  clear hs3
                  by_cases hbx : mid < e
                  · have hby : b ≤ e := by omega
                    clear hb2
                    go_wp2_with fail
                    all_goals go_end0
                    all_goals first | exact ⟨rfl, d2, m2, HE3.out.1, HE3.out.2, rfl⟩ | exact ⟨rfl, d2, HE3.out.1, HE3.out.2, m2, rfl⟩
                  · clear hb2
                    go_wp2_with fail
                    all_goals go_end0
                    all_goals first | exact ⟨rfl, d2, m2, HE3.out.1, HE3.out.2, rfl⟩ | exact ⟨rfl, d2, HE3.out.1, HE3.out.2, m2, rfl⟩
            · have hs2' : Srt LT a mid d := HTL.out.triv ha2 h1 h2
              have HR2 := Lib.hid HR1.out
              have HM2 := Lib.hid (Mv.refl a mid d)
              have HS2 := Lib.hid hs2'
              have HT2 := Lib.hid HTR.out
              clear hs2'
              by_cases hax : a < r
              · have hay : mid ≤ r := by omega
                clear ha2
                by_cases hb2 : mid < e ∧ e < b
                · obtain ⟨hb21, hb22⟩ := hb2
                  have c := IH.out mid e b d mi (by omega) hb21 hb22 (by rw [(Eq.refl d.size)]; exact hb) ((Eq.refl d.size).trans HS.out) (by rw [(Eq.refl d.size)]; exact HR2.out) HT2.out
                  have C := Lib.hid c
                  clear c
                  go_wp2_with fail
                  all_goals
                    refine C.out.mono ?_
                    rintro x w' ⟨rfl, d3, m3, hm3, hs3, rfl⟩
                    have HE3 := Lib.hid (sym_end h1 h5 h6 h4 (by omega) (by omega) (Eq.refl d.size) HF1.out HM2.out HS2.out hm3 hs3 HCR.out)
                    clear hm3 hs3
                    go_wp2_with fail
                    all_goals go_end0
                    all_goals first | exact ⟨rfl, d3, m3, HE3.out.1, HE3.out.2, rfl⟩ | exact ⟨rfl, d3, HE3.out.1, HE3.out.2, m3, rfl⟩
                · have hs3 : Srt LT mid b d := HT2.out.triv hb2 h3 h4
                  have HE3 := Lib.hid (sym_end h1 h5 h6 h4 (by omega) (by omega) (Eq.refl d.size) HF1.out HM2.out HS2.out (Mv.refl mid b d) hs3 HCR.out)
                  clear hs3
                  by_cases hbx : mid < e
                  · have hby : b ≤ e := by omega
                    clear hb2
                    go_wp2_with fail
                    all_goals go_end0
                    all_goals first | exact ⟨rfl, d, mi, HE3.out.1, HE3.out.2, rfl⟩ | exact ⟨rfl, d, HE3.out.1, HE3.out.2, mi, rfl⟩
                  · clear hb2
                    go_wp2_with fail
                    all_goals go_end0
                    all_goals first | exact ⟨rfl, d, mi, HE3.out.1, HE3.out.2, rfl⟩ | exact ⟨rfl, d, HE3.out.1, HE3.out.2, mi, rfl⟩
              · clear ha2
                by_cases hb2 : mid < e ∧ e < b
                · obtain ⟨hb21, hb22⟩ := hb2
                  have c := IH.out mid e b d mi (by omega) hb21 hb22 (by rw [(Eq.refl d.size)]; exact hb) ((Eq.refl d.size).trans HS.out) (by rw [(Eq.refl d.size)]; exact HR2.out) HT2.out
                  have C := Lib.hid c
                  clear c
                  go_wp2_with fail
                  all_goals
                    refine C.out.mono ?_
                    rintro x w' ⟨rfl, d3, m3, hm3, hs3, rfl⟩
                    have HE3 := Lib.hid (sym_end h1 h5 h6 h4 (by omega) (by omega) (Eq.refl d.size) HF1.out HM2.out HS2.out hm3 hs3 HCR.out)
                    clear hm3 hs3
                    go_wp2_with fail
                    all_goals go_end0
                    all_goals first | exact ⟨rfl, d3, m3, HE3.out.1, HE3.out.2, rfl⟩ | exact ⟨rfl, d3, HE3.out.1, HE3.out.2, m3, rfl⟩
                · have hs3 : Srt LT mid b d := HT2.out.triv hb2 h3 h4
                  have HE3 := Lib.hid (sym_end h1 h5 h6 h4 (by omega) (by omega) (Eq.refl d.size) HF1.out HM2.out HS2.out (Mv.refl mid b d) hs3 HCR.out)
                  clear hs3
                  by_cases hbx : mid < e
                  · have hby : b ≤ e := by omega
                    clear hb2
                    go_wp2_with fail
                    all_goals go_end0
                    all_goals first | exact ⟨rfl, d, mi, HE3.out.1, HE3.out.2, rfl⟩ | exact ⟨rfl, d, HE3.out.1, HE3.out.2, mi, rfl⟩
                  · clear hb2
                    go_wp2_with fail
                    all_goals go_end0
                    all_goals first | exact ⟨rfl, d, mi, HE3.out.1, HE3.out.2, rfl⟩ | exact ⟨rfl, d, HE3.out.1, HE3.out.2, mi, rfl⟩
          · clear hrot
            by_cases ha2 : a < r ∧ r < mid
            · obtain ⟨ha21, ha22⟩ := ha2
              have c := IH.out a r mid d mi (by omega) ha21 ha22 (by rw [(Eq.refl d.size)]; omega) ((Eq.refl d.size).trans HS.out) (by rw [(Eq.refl d.size)]; exact HR1.out) HTL.out
              have C := Lib.hid c
              clear c
              go_wp2_with fail
              all_goals
                refine C.out.mono ?_
                rintro x w' ⟨rfl, d2, m2, hm2', hs2', rfl⟩
                have HM2 := Lib.hid hm2'
                have HS2 := Lib.hid hs2'
                have HSZ2 := Lib.hid (hm2'.size.trans (Eq.refl d.size))
                have HR2 := Lib.hid (hm2'.rng (show mid ≤ d.size by omega) HR1.out)
                have HT2 := Lib.hid (HTR.out.keep h3 hm2' (Nat.le_refl _))
                clear hm2' hs2'
                by_cases hb2 : mid < e ∧ e < b
                · obtain ⟨hb21, hb22⟩ := hb2
                  have c := IH.out mid e b d2 m2 (by omega) hb21 hb22 (by rw [HSZ2.out]; exact hb) (HSZ2.out.trans HS.out) (by rw [HSZ2.out]; exact HR2.out) HT2.out
                  have C := Lib.hid c
                  clear c
                  go_wp2_with fail
                  all_goals
                    refine C.out.mono ?_
                    rintro x w' ⟨rfl, d3, m3, hm3, hs3, rfl⟩
                    have HE3 := Lib.hid (sym_end h1 h5 h6 h4 (by omega) (by omega) (Eq.refl d.size) HF1.out HM2.out HS2.out hm3 hs3 HCR.out)
                    clear hm3 hs3
                    go_wp2_with fail
                    all_goals go_end0
                    all_goals first | exact ⟨rfl, d3, m3, HE3.out.1, HE3.out.2, rfl⟩ | exact ⟨rfl, d3, HE3.out.1, HE3.out.2, m3, rfl⟩
                · have hs3 : Srt LT mid b d2 := HT2.out.triv hb2 h3 h4
                  have HE3 := Lib.hid (sym_end h1 h5 h6 h4 (by omega) (by omega) (Eq.refl d.size) HF1.out HM2.out HS2.out (Mv.refl mid b d2) hs3 HCR.out)
                  clear hs3
                  by_cases hbx : mid < e
                  · have hby : b ≤ e := by omega
                    clear hb2
                    go_wp2_with fail
                    all_goals go_end0
                    all_goals first | exact ⟨rfl, d2, m2, HE3.out.1, HE3.out.2, rfl⟩ | exact ⟨rfl, d2, HE3.out.1, HE3.out.2, m2, rfl⟩
                  · clear hb2
                    go_wp2_with fail
                    all_goals go_end0
                    all_goals first | exact ⟨rfl, d2, m2, HE3.out.1, HE3.out.2, rfl⟩ | exact ⟨rfl, d2, HE3.out.1, HE3.out.2, m2, rfl⟩
            · have hs2' : Srt LT a mid d := HTL.out.triv ha2 h1 h2
              have HR2 := Lib.hid HR1.out
              have HM2 := Lib.hid (Mv.refl a mid d)
              have HS2 := Lib.hid hs2'
              have HT2 := Lib.hid HTR.out
              clear hs2'
              by_cases hax : a < r
              · have hay : mid ≤ r := by omega
                clear ha2
                by_cases hb2 : mid < e ∧ e < b
                · obtain ⟨hb21, hb22⟩ := hb2
                  have c := IH.out mid e b d mi (by omega) hb21 hb22 (by rw [(Eq.refl d.size)]; exact hb) ((Eq.refl d.size).trans HS.out) (by rw [(Eq.refl d.size)]; exact HR2.out) HT2.out
                  have C := Lib.hid c
                  clear c
                  go_wp2_with fail
                  all_goals
                    refine C.out.mono ?_
                    rintro x w' ⟨rfl, d3, m3, hm3, hs3, rfl⟩
                    have HE3 := Lib.hid (sym_end h1 h5 h6 h4 (by omega) (by omega) (Eq.refl d.size) HF1.out HM2.out HS2.out hm3 hs3 HCR.out)
                    clear hm3 hs3
                    go_wp2_with fail
                    all_goals go_end0
                    all_goals first | exact ⟨rfl, d3, m3, HE3.out.1, HE3.out.2, rfl⟩ | exact ⟨rfl, d3, HE3.out.1, HE3.out.2, m3, rfl⟩
                · have hs3 : Srt LT mid b d := HT2.out.triv hb2 h3 h4
                  have HE3 := Lib.hid (sym_end h1 h5 h6 h4 (by omega) (by omega) (Eq.refl d.size) HF1.out HM2.out HS2.out (Mv.refl mid b d) hs3 HCR.out)
                  clear hs3
                  by_cases hbx : mid < e
                  · have hby : b ≤ e := by omega
                    clear hb2
                    go_wp2_with fail
                    all_goals go_end0
                    all_goals first | exact ⟨rfl, d, mi, HE3.out.1, HE3.out.2, rfl⟩ | exact ⟨rfl, d, HE3.out.1, HE3.out.2, mi, rfl⟩
                  · clear hb2
                    go_wp2_with fail
                    all_goals go_end0
                    all_goals first | exact ⟨rfl, d, mi, HE3.out.1, HE3.out.2, rfl⟩ | exact ⟨rfl, d, HE3.out.1, HE3.out.2, mi, rfl⟩
              · clear ha2
                by_cases hb2 : mid < e ∧ e < b
                · obtain ⟨hb21, hb22⟩ := hb2
                  have c := IH.out mid e b d mi (by omega) hb21 hb22 (by rw [(Eq.refl d.size)]; exact hb) ((Eq.refl d.size).trans HS.out) (by rw [(Eq.refl d.size)]; exact HR2.out) HT2.out
                  have C := Lib.hid c
                  clear c
                  go_wp2_with fail
                  all_goals
                    refine C.out.mono ?_
                    rintro x w' ⟨rfl, d3, m3, hm3, hs3, rfl⟩
                    have HE3 := Lib.hid (sym_end h1 h5 h6 h4 (by omega) (by omega) (Eq.refl d.size) HF1.out HM2.out HS2.out hm3 hs3 HCR.out)
                    clear hm3 hs3
                    go_wp2_with fail
                    all_goals go_end0
                    all_goals first | exact ⟨rfl, d3, m3, HE3.out.1, HE3.out.2, rfl⟩ | exact ⟨rfl, d3, HE3.out.1, HE3.out.2, m3, rfl⟩
                · have hs3 : Srt LT mid b d := HT2.out.triv hb2 h3 h4
                  have HE3 := Lib.hid (sym_end h1 h5 h6 h4 (by omega) (by omega) (Eq.refl d.size) HF1.out HM2.out HS2.out (Mv.refl mid b d) hs3 HCR.out)
                  clear hs3
                  by_cases hbx : mid < e
                  · have hby : b ≤ e := by omega
                    clear hb2
                    go_wp2_with fail
                    all_goals go_end0
                    all_goals first | exact ⟨rfl, d, mi, HE3.out.1, HE3.out.2, rfl⟩ | exact ⟨rfl, d, HE3.out.1, HE3.out.2, mi, rfl⟩
                  · clear hb2
                    go_wp2_with fail
                    all_goals go_end0
                    all_goals first | exact ⟨rfl, d, mi, HE3.out.1, HE3.out.2, rfl⟩ | exact ⟨rfl, d, HE3.out.1, HE3.out.2, mi, rfl⟩
  · obtain ⟨lo, hlo⟩ : ∃ lo, lo = a := ⟨_, rfl⟩
    obtain ⟨hi, hhi⟩ : ∃ hi, hi = m := ⟨_, rfl⟩
    have hlh : (mid < m ∧ lo = n - b ∧ hi = mid) ∨ (m ≤ mid ∧ lo = a ∧ hi = m) := Or.inr ⟨by omega, hlo, hhi⟩
    have j1 : a ≤ lo := by omega
    have j2 : hi ≤ m := by omega
    have j3 : lo ≤ hi := by omega
    have j4 : hi + m ≤ n := by omega
    have j5 : n ≤ lo + b := by omega
    have HLH := Lib.hid hlh
    have HLO1 := Lib.hid hlo
    have HHI1 := Lib.hid hhi
    clear hlh hlo hhi
    go_enter Try.func68, Try.ntmps68
    go_wp2_with fail
    go_loopw [20, 21] (fun vs vr wr => ∃ (s r mi : Nat), vs = .int .i64 s ∧ vr = .int .i64 r ∧ lo ≤ s ∧ s ≤ r ∧ r ≤ hi ∧ wr = RW w blk d mi ∧ Hid (∀ c, lo ≤ c → c < s → LT d[c]! d[n - 1 - c]!) ∧ Hid (∀ c, r ≤ c → c < hi → LT d[n - 1 - c]! d[c]!)) (fun vs vr _ => (intOf vr).toNat - (intOf vs).toNat)
    case atStart => exact ⟨lo, hi, m0, by first | rfl | rw [HLO1.out], by rw [HHI1.out], by omega, by omega, by omega, rfl, fun k x y => by omega, fun k x y => by omega⟩
    case round =>
      obtain ⟨s, r, mi, rfl, rfl, hs1, hsr, hs2r, rfl, HA, HB⟩ := hrel
      by_cases hlt : s < r
      · have hltz : (s : Int) < (r : Int) := by omega
        obtain ⟨c, hcc⟩ : ∃ c, c = (s + r) / 2 := ⟨_, rfl⟩
        obtain ⟨pc, hpc⟩ : ∃ pc, pc = n - 1 - c := ⟨_, rfl⟩
        have q6 : ((s : Int) + (r : Int)) / 2 = (c : Int) := by omega
        have q7 : (n : Int) - 1 - (c : Int) = (pc : Int) := by omega
        have hsc : s ≤ c := by omega
        have hcr : c < r := by omega
        have hca : a ≤ c := by omega
        have hcm : c < m := by omega
        have hpm : m ≤ pc := by omega
        have hpb : pc < b := by omega
        have hyx : d[c]! < d[pc]! := H2.out.less c pc hca hcm hpm hpb
        have hmono : ∀ k, lo ≤ k → k < hi → a ≤ k ∧ k < m ∧ m ≤ n - 1 - k ∧ n - 1 - k < b := fun k x1 x2 => by omega
        have HMO := Lib.hid hmono
        have HPC := Lib.hid hpc
        clear hcc hpc hmono
        have hrp := HR.out pc (by omega)
        have hrq := HR.out c (by omega)
        obtain ⟨x, hx⟩ : ∃ x, d[pc]! = x := ⟨_, rfl⟩
        obtain ⟨y, hy⟩ : ∃ x, d[c]! = x := ⟨_, rfl⟩
        rw [hx, hy] at hyx
        rw [hx] at hrp
        rw [hy] at hrq
        obtain ⟨cp, fp⟩ := RW_cells H0.out HS.out mi pc (by omega)
        obtain ⟨cq, fq⟩ := RW_cells H0.out HS.out mi c (by omega)
        rw [hx] at cp
        rw [hy] at cq
        have hc2 : ∀ q, Calls Try.prog g (#[.int .i64 x, .int .i64 y] ++ cb) ((RW w blk d mi).drewN q) fun e w' => e = .returned (.int .i64 (cf x y)) ∧ ∃ r, w' = ((RW w blk d mi).drewN q).drewN r := fun q => by
          rw [RW_drewN]; exact HC.out d (mi + q) x y HS.out hrq.1 hyx (by rw [← HS.out]; exact hrp.2)
        have hd0 : d0.size = d.size := HS.out.symm
        have hl1 : (pc : Int) < (d0.size : Int) := by rw [hd0]; omega
        have hl2 : (c : Int) < (d0.size : Int) := by rw [hd0]; omega
        have s1 : IntKind.i64.wrap (pc : Int) = (pc : Int) := IntWalk.i64_in _ (by omega)
        have s2 : IntKind.i64.wrap ((n : Int) - 1 - (c : Int)) = (pc : Int) := by rw [q7]; exact s1
        have HX := Lib.hid hx
        have HY := Lib.hid hy
        have HYX := Lib.hid hyx
        clear hd0 hx hy hyx hrp hrq fp fq
        generalize hwq : RW w blk d mi = wq at cp cq hc2 ⊢
        have HWQ := Lib.hid hwq
        clear hwq
        by_cases hlv : cf x y < 0
        · have hnew : ∀ k, c ≤ k → k < hi → LT d[n - 1 - k]! d[k]! := fun k x1 x2 => by
            have hly : LT d[pc]! d[c]! := by rw [HX.out, HY.out]; exact (HCF.out x y HYX.out).1 hlv
            obtain ⟨y1, y2, y3, y4⟩ := HMO.out k (by omega) x2
            by_cases e : k = c
            · rw [e, ← HPC.out]; exact hly
            · exact HO.out.trans _ _ _ (H2.out.right (n - 1 - k) pc y3 (by rw [HPC.out]; omega) hpb) (HO.out.trans _ _ _ hly (H2.out.left c k hca (by omega) y2))
          have HNW := Lib.hid hnew
          clear hnew
          go_wp2_with fail
          go_quiet (first | (go_at_fn g; refine Calls.quiet_of (hc2 _)))
          go_wp2_with fail
          go_roundw
          case rel => exact ⟨s, c, _, rfl, rfl, hs1, hsc, by omega, by rw [← HWQ.out, RW_drewN], HA, HNW⟩
          case measure => simp [intOf]; omega
        · have hnew : ∀ k, lo ≤ k → k < c + 1 → LT d[k]! d[n - 1 - k]! := fun k x1 x2 => by
            have hly : LT d[c]! d[pc]! := by
              rw [HX.out, HY.out]
              exact (HO.out.total x y (by have := HYX.out; omega)).resolve_left (fun l => hlv ((HCF.out x y HYX.out).2 l))
            obtain ⟨y1, y2, y3, y4⟩ := HMO.out k x1 (by omega)
            by_cases e : k = c
            · rw [e, ← HPC.out]; exact hly
            · exact HO.out.trans _ _ _ (H2.out.left k c y1 (by omega) hcm) (HO.out.trans _ _ _ hly (H2.out.right pc (n - 1 - k) hpm (by rw [HPC.out]; omega) y4))
          have HNW := Lib.hid hnew
          clear hnew
          have hbn : (!decide (cf x y < 0)) = true := by simp; omega
          go_wp2_with fail
          go_quiet (first | (go_at_fn g; refine Calls.quiet_of (hc2 _)))
          go_wp2_with fail
          go_roundw
          case rel => exact ⟨c + 1, r, _, by go_num, rfl, by omega, by omega, hs2r, by rw [← HWQ.out, RW_drewN], HNW, HB⟩
          case measure => simp [intOf]; omega
      · have hsr' : r = s := by omega
        subst hsr'
        obtain ⟨e, he⟩ : ∃ e, e = n - r := ⟨_, rfl⟩
        have q8 : (n : Int) - (r : Int) = (e : Int) := by omega
        have hz : ¬ (r : Int) < (r : Int) := by omega
        have hcut : ∀ (d1 : Array Int), (∀ p, d1[p]! = FR (fun x => d[x]!) r m e p) → Two LT a r mid d1 ∧ Two LT mid e b d1 ∧ (∀ i j, a ≤ i → i < mid → mid ≤ j → j < b → LT d1[i]! d1[j]!) := fun d1 hf => by
          have := cut_two HO.out H2.out (by omega) (by omega) HMID.out HN.out lo hi HLH.out hs1 hs2r HA.out HB.out (by rw [← he]; exact hf)
          rw [← he] at this
          exact this.2.2.2.2.2.2
        obtain ⟨h1, h2, h3, h4, h5, h6⟩ : a ≤ r ∧ r ≤ mid ∧ mid ≤ e ∧ e ≤ b ∧ r ≤ m ∧ m ≤ e := by omega
        have HCUT := Lib.hid hcut
        have HEE := Lib.hid he
        clear hcut he
        by_cases hrot : r < m ∧ m < e
        · obtain ⟨hr1, hr2⟩ := hrot
          have c := rotate_any w blk cap r m e g cb d0 d mi H0.out HS.out hr1 hr2 (by omega) hsz
          have C := Lib.hid c
          clear c
          go_wp2_with fail
          clear hz
          refine C.out.mono ?_
          rintro x w' ⟨rfl, d1, m1, hsz1, hf1, rfl⟩
          have HSZ1 := Lib.hid hsz1
          have HF1 := Lib.hid hf1
          clear hsz1 hf1
          obtain ⟨htl, htr, hcr⟩ := HCUT.out d1 HF1.out
          have HTL := Lib.hid htl
          have HTR := Lib.hid htr
          have HCR := Lib.hid hcr
          have HR1 := Lib.hid ((Mv.FR h5 h6 HSZ1.out HF1.out).rng (show e ≤ d.size by omega) HR.out)
          clear htl htr hcr
          by_cases ha2 : a < r ∧ r < mid
          · obtain ⟨ha21, ha22⟩ := ha2
            have c := IH.out a r mid d1 m1 (by omega) ha21 ha22 (by rw [HSZ1.out]; omega) (HSZ1.out.trans HS.out) (by rw [HSZ1.out]; exact HR1.out) HTL.out
            have C := Lib.hid c
            clear c
            go_wp2_with fail
            all_goals
              refine C.out.mono ?_
              rintro x w' ⟨rfl, d2, m2, hm2', hs2', rfl⟩
              have HM2 := Lib.hid hm2'
              have HS2 := Lib.hid hs2'
              have HSZ2 := Lib.hid (hm2'.size.trans HSZ1.out)
              have HR2 := Lib.hid (hm2'.rng (show mid ≤ d.size by omega) HR1.out)
              have HT2 := Lib.hid (HTR.out.keep h3 hm2' (Nat.le_refl _))
              clear hm2' hs2'
              by_cases hb2 : mid < e ∧ e < b
              · obtain ⟨hb21, hb22⟩ := hb2
                have c := IH.out mid e b d2 m2 (by omega) hb21 hb22 (by rw [HSZ2.out]; exact hb) (HSZ2.out.trans HS.out) (by rw [HSZ2.out]; exact HR2.out) HT2.out
                have C := Lib.hid c
                clear c
                go_wp2_with fail
                all_goals
                  refine C.out.mono ?_
                  rintro x w' ⟨rfl, d3, m3, hm3, hs3, rfl⟩
                  have HE3 := Lib.hid (sym_end h1 h5 h6 h4 (by omega) (by omega) HSZ1.out HF1.out HM2.out HS2.out hm3 hs3 HCR.out)
                  clear hm3 hs3
                  go_wp2_with fail
                  all_goals go_end0
                  all_goals first | exact ⟨rfl, d3, m3, HE3.out.1, HE3.out.2, rfl⟩ | exact ⟨rfl, d3, HE3.out.1, HE3.out.2, m3, rfl⟩
              · have hs3 : Srt LT mid b d2 := HT2.out.triv hb2 h3 h4
                have HE3 := Lib.hid (sym_end h1 h5 h6 h4 (by omega) (by omega) HSZ1.out HF1.out HM2.out HS2.out (Mv.refl mid b d2) hs3 HCR.out)
                clear hs3
                by_cases hbx : mid < e
                · have hby : b ≤ e := by omega
                  clear hb2
                  go_wp2_with fail
                  all_goals go_end0
                  all_goals first | exact ⟨rfl, d2, m2, HE3.out.1, HE3.out.2, rfl⟩ | exact ⟨rfl, d2, HE3.out.1, HE3.out.2, m2, rfl⟩
                · clear hb2
                  go_wp2_with fail
                  all_goals go_end0
                  all_goals first | exact ⟨rfl, d2, m2, HE3.out.1, HE3.out.2, rfl⟩ | exact ⟨rfl, d2, HE3.out.1, HE3.out.2, m2, rfl⟩
          · have hs2' : Srt LT a mid d1 := HTL.out.triv ha2 h1 h2
            have HR2 := Lib.hid HR1.out
            have HM2 := Lib.hid (Mv.refl a mid d1)
            have HS2 := Lib.hid hs2'
            have HT2 := Lib.hid HTR.out
            clear hs2'
            by_cases hax : a < r
            · have hay : mid ≤ r := by omega
              clear ha2
              by_cases hb2 : mid < e ∧ e < b
              · obtain ⟨hb21, hb22⟩ := hb2
                have c := IH.out mid e b d1 m1 (by omega) hb21 hb22 (by rw [HSZ1.out]; exact hb) (HSZ1.out.trans HS.out) (by rw [HSZ1.out]; exact HR2.out) HT2.out
                have C := Lib.hid c
                clear c
                go_wp2_with fail
                all_goals
                  refine C.out.mono ?_
                  rintro x w' ⟨rfl, d3, m3, hm3, hs3, rfl⟩
                  have HE3 := Lib.hid (sym_end h1 h5 h6 h4 (by omega) (by omega) HSZ1.out HF1.out HM2.out HS2.out hm3 hs3 HCR.out)
                  clear hm3 hs3
                  go_wp2_with fail
                  all_goals go_end0
                  all_goals first | exact ⟨rfl, d3, m3, HE3.out.1, HE3.out.2, rfl⟩ | exact ⟨rfl, d3, HE3.out.1, HE3.out.2, m3, rfl⟩
              · have hs3 : Srt LT mid b d1 := HT2.out.triv hb2 h3 h4
                have HE3 := Lib.hid (sym_end h1 h5 h6 h4 (by omega) (by omega) HSZ1.out HF1.out HM2.out HS2.out (Mv.refl mid b d1) hs3 HCR.out)
                clear hs3
                by_cases hbx : mid < e
                · have hby : b ≤ e := by omega
                  clear hb2
                  go_wp2_with fail
                  all_goals go_end0
                  all_goals first | exact ⟨rfl, d1, m1, HE3.out.1, HE3.out.2, rfl⟩ | exact ⟨rfl, d1, HE3.out.1, HE3.out.2, m1, rfl⟩
                · clear hb2
                  go_wp2_with fail
                  all_goals go_end0
                  all_goals first | exact ⟨rfl, d1, m1, HE3.out.1, HE3.out.2, rfl⟩ | exact ⟨rfl, d1, HE3.out.1, HE3.out.2, m1, rfl⟩
            · clear ha2
              by_cases hb2 : mid < e ∧ e < b
              · obtain ⟨hb21, hb22⟩ := hb2
                have c := IH.out mid e b d1 m1 (by omega) hb21 hb22 (by rw [HSZ1.out]; exact hb) (HSZ1.out.trans HS.out) (by rw [HSZ1.out]; exact HR2.out) HT2.out
                have C := Lib.hid c
                clear c
                go_wp2_with fail
                all_goals
                  refine C.out.mono ?_
                  rintro x w' ⟨rfl, d3, m3, hm3, hs3, rfl⟩
                  have HE3 := Lib.hid (sym_end h1 h5 h6 h4 (by omega) (by omega) HSZ1.out HF1.out HM2.out HS2.out hm3 hs3 HCR.out)
                  clear hm3 hs3
                  go_wp2_with fail
                  all_goals go_end0
                  all_goals first | exact ⟨rfl, d3, m3, HE3.out.1, HE3.out.2, rfl⟩ | exact ⟨rfl, d3, HE3.out.1, HE3.out.2, m3, rfl⟩
              · have hs3 : Srt LT mid b d1 := HT2.out.triv hb2 h3 h4
                have HE3 := Lib.hid (sym_end h1 h5 h6 h4 (by omega) (by omega) HSZ1.out HF1.out HM2.out HS2.out (Mv.refl mid b d1) hs3 HCR.out)
                clear hs3
                by_cases hbx : mid < e
                · have hby : b ≤ e := by omega
                  clear hb2
                  go_wp2_with fail
                  all_goals go_end0
                  all_goals first | exact ⟨rfl, d1, m1, HE3.out.1, HE3.out.2, rfl⟩ | exact ⟨rfl, d1, HE3.out.1, HE3.out.2, m1, rfl⟩
                · clear hb2
                  go_wp2_with fail
                  all_goals go_end0
                  all_goals first | exact ⟨rfl, d1, m1, HE3.out.1, HE3.out.2, rfl⟩ | exact ⟨rfl, d1, HE3.out.1, HE3.out.2, m1, rfl⟩
        · have HF1 := Lib.hid (FR_triv (fun x => d[x]!) r m e h5 h6 hrot)
          obtain ⟨htl, htr, hcr⟩ := HCUT.out d HF1.out
          have HTL := Lib.hid htl
          have HTR := Lib.hid htr
          have HCR := Lib.hid hcr
          have HR1 := Lib.hid ((Mv.FR h5 h6 rfl HF1.out).rng (show e ≤ d.size by omega) HR.out)
          clear htl htr hcr
          by_cases hrx : r < m
          · have hry : e ≤ m := by omega
            clear hrot
            by_cases ha2 : a < r ∧ r < mid
            · obtain ⟨ha21, ha22⟩ := ha2
              have c := IH.out a r mid d mi (by omega) ha21 ha22 (by rw [(Eq.refl d.size)]; omega) ((Eq.refl d.size).trans HS.out) (by rw [(Eq.refl d.size)]; exact HR1.out) HTL.out
              have C := Lib.hid c
              clear c
              go_wp2_with fail
              all_goals
                refine C.out.mono ?_
                rintro x w' ⟨rfl, d2, m2, hm2', hs2', rfl⟩
                have HM2 := Lib.hid hm2'
                have HS2 := Lib.hid hs2'
                have HSZ2 := Lib.hid (hm2'.size.trans (Eq.refl d.size))
                have HR2 := Lib.hid (hm2'.rng (show mid ≤ d.size by omega) HR1.out)
                have HT2 := Lib.hid (HTR.out.keep h3 hm2' (Nat.le_refl _))
                clear hm2' hs2'
                by_cases hb2 : mid < e ∧ e < b
                · obtain ⟨hb21, hb22⟩ := hb2
                  have c := IH.out mid e b d2 m2 (by omega) hb21 hb22 (by rw [HSZ2.out]; exact hb) (HSZ2.out.trans HS.out) (by rw [HSZ2.out]; exact HR2.out) HT2.out
                  have C := Lib.hid c
                  clear c
                  go_wp2_with fail
                  all_goals
                    refine C.out.mono ?_
                    rintro x w' ⟨rfl, d3, m3, hm3, hs3, rfl⟩
                    have HE3 := Lib.hid (sym_end h1 h5 h6 h4 (by omega) (by omega) (Eq.refl d.size) HF1.out HM2.out HS2.out hm3 hs3 HCR.out)
                    clear hm3 hs3
                    go_wp2_with fail
                    all_goals go_end0
                    all_goals first | exact ⟨rfl, d3, m3, HE3.out.1, HE3.out.2, rfl⟩ | exact ⟨rfl, d3, HE3.out.1, HE3.out.2, m3, rfl⟩
                · have hs3 : Srt LT mid b d2 := HT2.out.triv hb2 h3 h4
                  have HE3 := Lib.hid (sym_end h1 h5 h6 h4 (by omega) (by omega) (Eq.refl d.size) HF1.out HM2.out HS2.out (Mv.refl mid b d2) hs3 HCR.out)
                  clear hs3
                  by_cases hbx : mid < e
                  · have hby : b ≤ e := by omega
                    clear hb2
                    go_wp2_with fail
                    all_goals go_end0
                    all_goals first | exact ⟨rfl, d2, m2, HE3.out.1, HE3.out.2, rfl⟩ | exact ⟨rfl, d2, HE3.out.1, HE3.out.2, m2, rfl⟩
                  · clear hb2
                    go_wp2_with fail
                    all_goals go_end0
                    all_goals first | exact ⟨rfl, d2, m2, HE3.out.1, HE3.out.2, rfl⟩ | exact ⟨rfl, d2, HE3.out.1, HE3.out.2, m2, rfl⟩
            · have hs2' : Srt LT a mid d := HTL.out.triv ha2 h1 h2
              have HR2 := Lib.hid HR1.out
              have HM2 := Lib.hid (Mv.refl a mid d)
              have HS2 := Lib.hid hs2'
              have HT2 := Lib.hid HTR.out
              clear hs2'
              by_cases hax : a < r
              · have hay : mid ≤ r := by omega
                clear ha2
                by_cases hb2 : mid < e ∧ e < b
                · obtain ⟨hb21, hb22⟩ := hb2
                  have c := IH.out mid e b d mi (by omega) hb21 hb22 (by rw [(Eq.refl d.size)]; exact hb) ((Eq.refl d.size).trans HS.out) (by rw [(Eq.refl d.size)]; exact HR2.out) HT2.out
                  have C := Lib.hid c
                  clear c
                  go_wp2_with fail
                  all_goals
                    refine C.out.mono ?_
                    rintro x w' ⟨rfl, d3, m3, hm3, hs3, rfl⟩
                    have HE3 := Lib.hid (sym_end h1 h5 h6 h4 (by omega) (by omega) (Eq.refl d.size) HF1.out HM2.out HS2.out hm3 hs3 HCR.out)
                    clear hm3 hs3
                    go_wp2_with fail
                    all_goals go_end0
                    all_goals first | exact ⟨rfl, d3, m3, HE3.out.1, HE3.out.2, rfl⟩ | exact ⟨rfl, d3, HE3.out.1, HE3.out.2, m3, rfl⟩
                · have hs3 : Srt LT mid b d := HT2.out.triv hb2 h3 h4
                  have HE3 := Lib.hid (sym_end h1 h5 h6 h4 (by omega) (by omega) (Eq.refl d.size) HF1.out HM2.out HS2.out (Mv.refl mid b d) hs3 HCR.out)
                  clear hs3
                  by_cases hbx : mid < e
                  · have hby : b ≤ e := by omega
                    clear hb2
                    go_wp2_with fail
                    all_goals go_end0
                    all_goals first | exact ⟨rfl, d, mi, HE3.out.1, HE3.out.2, rfl⟩ | exact ⟨rfl, d, HE3.out.1, HE3.out.2, mi, rfl⟩
                  · clear hb2
                    go_wp2_with fail
                    all_goals go_end0
                    all_goals first | exact ⟨rfl, d, mi, HE3.out.1, HE3.out.2, rfl⟩ | exact ⟨rfl, d, HE3.out.1, HE3.out.2, mi, rfl⟩
              · clear ha2
                by_cases hb2 : mid < e ∧ e < b
                · obtain ⟨hb21, hb22⟩ := hb2
                  have c := IH.out mid e b d mi (by omega) hb21 hb22 (by rw [(Eq.refl d.size)]; exact hb) ((Eq.refl d.size).trans HS.out) (by rw [(Eq.refl d.size)]; exact HR2.out) HT2.out
                  have C := Lib.hid c
                  clear c
                  go_wp2_with fail
                  all_goals
                    refine C.out.mono ?_
                    rintro x w' ⟨rfl, d3, m3, hm3, hs3, rfl⟩
                    have HE3 := Lib.hid (sym_end h1 h5 h6 h4 (by omega) (by omega) (Eq.refl d.size) HF1.out HM2.out HS2.out hm3 hs3 HCR.out)
                    clear hm3 hs3
                    go_wp2_with fail
                    all_goals go_end0
                    all_goals first | exact ⟨rfl, d3, m3, HE3.out.1, HE3.out.2, rfl⟩ | exact ⟨rfl, d3, HE3.out.1, HE3.out.2, m3, rfl⟩
                · have hs3 : Srt LT mid b d := HT2.out.triv hb2 h3 h4
                  have HE3 := Lib.hid (sym_end h1 h5 h6 h4 (by omega) (by omega) (Eq.refl d.size) HF1.out HM2.out HS2.out (Mv.refl mid b d) hs3 HCR.out)
                  clear hs3
                  by_cases hbx : mid < e
                  · have hby : b ≤ e := by omega
                    clear hb2
                    go_wp2_with fail
                    all_goals go_end0
                    all_goals first | exact ⟨rfl, d, mi, HE3.out.1, HE3.out.2, rfl⟩ | exact ⟨rfl, d, HE3.out.1, HE3.out.2, mi, rfl⟩
                  · clear hb2
                    go_wp2_with fail
                    all_goals go_end0
                    all_goals first | exact ⟨rfl, d, mi, HE3.out.1, HE3.out.2, rfl⟩ | exact ⟨rfl, d, HE3.out.1, HE3.out.2, mi, rfl⟩
          · clear hrot
            by_cases ha2 : a < r ∧ r < mid
            · obtain ⟨ha21, ha22⟩ := ha2
              have c := IH.out a r mid d mi (by omega) ha21 ha22 (by rw [(Eq.refl d.size)]; omega) ((Eq.refl d.size).trans HS.out) (by rw [(Eq.refl d.size)]; exact HR1.out) HTL.out
              have C := Lib.hid c
              clear c
              go_wp2_with fail
              all_goals
                refine C.out.mono ?_
                rintro x w' ⟨rfl, d2, m2, hm2', hs2', rfl⟩
                have HM2 := Lib.hid hm2'
                have HS2 := Lib.hid hs2'
                have HSZ2 := Lib.hid (hm2'.size.trans (Eq.refl d.size))
                have HR2 := Lib.hid (hm2'.rng (show mid ≤ d.size by omega) HR1.out)
                have HT2 := Lib.hid (HTR.out.keep h3 hm2' (Nat.le_refl _))
                clear hm2' hs2'
                by_cases hb2 : mid < e ∧ e < b
                · obtain ⟨hb21, hb22⟩ := hb2
                  have c := IH.out mid e b d2 m2 (by omega) hb21 hb22 (by rw [HSZ2.out]; exact hb) (HSZ2.out.trans HS.out) (by rw [HSZ2.out]; exact HR2.out) HT2.out
                  have C := Lib.hid c
                  clear c
                  go_wp2_with fail
                  all_goals
                    refine C.out.mono ?_
                    rintro x w' ⟨rfl, d3, m3, hm3, hs3, rfl⟩
                    have HE3 := Lib.hid (sym_end h1 h5 h6 h4 (by omega) (by omega) (Eq.refl d.size) HF1.out HM2.out HS2.out hm3 hs3 HCR.out)
                    clear hm3 hs3
                    go_wp2_with fail
                    all_goals go_end0
                    all_goals first | exact ⟨rfl, d3, m3, HE3.out.1, HE3.out.2, rfl⟩ | exact ⟨rfl, d3, HE3.out.1, HE3.out.2, m3, rfl⟩
                · have hs3 : Srt LT mid b d2 := HT2.out.triv hb2 h3 h4
                  have HE3 := Lib.hid (sym_end h1 h5 h6 h4 (by omega) (by omega) (Eq.refl d.size) HF1.out HM2.out HS2.out (Mv.refl mid b d2) hs3 HCR.out)
                  clear hs3
                  by_cases hbx : mid < e
                  · have hby : b ≤ e := by omega
                    clear hb2
                    go_wp2_with fail
                    all_goals go_end0
                    all_goals first | exact ⟨rfl, d2, m2, HE3.out.1, HE3.out.2, rfl⟩ | exact ⟨rfl, d2, HE3.out.1, HE3.out.2, m2, rfl⟩
                  · clear hb2
                    go_wp2_with fail
                    all_goals go_end0
                    all_goals first | exact ⟨rfl, d2, m2, HE3.out.1, HE3.out.2, rfl⟩ | exact ⟨rfl, d2, HE3.out.1, HE3.out.2, m2, rfl⟩
            · have hs2' : Srt LT a mid d := HTL.out.triv ha2 h1 h2
              have HR2 := Lib.hid HR1.out
              have HM2 := Lib.hid (Mv.refl a mid d)
              have HS2 := Lib.hid hs2'
              have HT2 := Lib.hid HTR.out
              clear hs2'
              by_cases hax : a < r
              · have hay : mid ≤ r := by omega
                clear ha2
                by_cases hb2 : mid < e ∧ e < b
                · obtain ⟨hb21, hb22⟩ := hb2
                  have c := IH.out mid e b d mi (by omega) hb21 hb22 (by rw [(Eq.refl d.size)]; exact hb) ((Eq.refl d.size).trans HS.out) (by rw [(Eq.refl d.size)]; exact HR2.out) HT2.out
                  have C := Lib.hid c
                  clear c
                  go_wp2_with fail
                  all_goals
                    refine C.out.mono ?_
                    rintro x w' ⟨rfl, d3, m3, hm3, hs3, rfl⟩
                    have HE3 := Lib.hid (sym_end h1 h5 h6 h4 (by omega) (by omega) (Eq.refl d.size) HF1.out HM2.out HS2.out hm3 hs3 HCR.out)
                    clear hm3 hs3
                    go_wp2_with fail
                    all_goals go_end0
                    all_goals first | exact ⟨rfl, d3, m3, HE3.out.1, HE3.out.2, rfl⟩ | exact ⟨rfl, d3, HE3.out.1, HE3.out.2, m3, rfl⟩
                · have hs3 : Srt LT mid b d := HT2.out.triv hb2 h3 h4
                  have HE3 := Lib.hid (sym_end h1 h5 h6 h4 (by omega) (by omega) (Eq.refl d.size) HF1.out HM2.out HS2.out (Mv.refl mid b d) hs3 HCR.out)
                  clear hs3
                  by_cases hbx : mid < e
                  · have hby : b ≤ e := by omega
                    clear hb2
                    go_wp2_with fail
                    all_goals go_end0
                    all_goals first | exact ⟨rfl, d, mi, HE3.out.1, HE3.out.2, rfl⟩ | exact ⟨rfl, d, HE3.out.1, HE3.out.2, mi, rfl⟩
                  · clear hb2
                    go_wp2_with fail
                    all_goals go_end0
                    all_goals first | exact ⟨rfl, d, mi, HE3.out.1, HE3.out.2, rfl⟩ | exact ⟨rfl, d, HE3.out.1, HE3.out.2, mi, rfl⟩
              · clear ha2
                by_cases hb2 : mid < e ∧ e < b
                · obtain ⟨hb21, hb22⟩ := hb2
                  have c := IH.out mid e b d mi (by omega) hb21 hb22 (by rw [(Eq.refl d.size)]; exact hb) ((Eq.refl d.size).trans HS.out) (by rw [(Eq.refl d.size)]; exact HR2.out) HT2.out
                  have C := Lib.hid c
                  clear c
                  go_wp2_with fail
                  all_goals
                    refine C.out.mono ?_
                    rintro x w' ⟨rfl, d3, m3, hm3, hs3, rfl⟩
                    have HE3 := Lib.hid (sym_end h1 h5 h6 h4 (by omega) (by omega) (Eq.refl d.size) HF1.out HM2.out HS2.out hm3 hs3 HCR.out)
                    clear hm3 hs3
                    go_wp2_with fail
                    all_goals go_end0
                    all_goals first | exact ⟨rfl, d3, m3, HE3.out.1, HE3.out.2, rfl⟩ | exact ⟨rfl, d3, HE3.out.1, HE3.out.2, m3, rfl⟩
                · have hs3 : Srt LT mid b d := HT2.out.triv hb2 h3 h4
                  have HE3 := Lib.hid (sym_end h1 h5 h6 h4 (by omega) (by omega) (Eq.refl d.size) HF1.out HM2.out HS2.out (Mv.refl mid b d) hs3 HCR.out)
                  clear hs3
                  by_cases hbx : mid < e
                  · have hby : b ≤ e := by omega
                    clear hb2
                    go_wp2_with fail
                    all_goals go_end0
                    all_goals first | exact ⟨rfl, d, mi, HE3.out.1, HE3.out.2, rfl⟩ | exact ⟨rfl, d, HE3.out.1, HE3.out.2, mi, rfl⟩
                  · clear hb2
                    go_wp2_with fail
                    all_goals go_end0
                    all_goals first | exact ⟨rfl, d, mi, HE3.out.1, HE3.out.2, rfl⟩ | exact ⟨rfl, d, HE3.out.1, HE3.out.2, mi, rfl⟩
end Go.Proofs.Ytaegajlffiepoaa
