/- The walks of layer 2: the library's stable sort of places that stand as they are numbered. -/
import Derived.Test.YtaegajlffiepoaaShaW7
namespace Go.Proofs.Ytaegajlffiepoaa
open Go.RowKit Go.Sort ShaM

set_option maxRecDepth 100000 in
set_option maxHeartbeats 2000000 in
theorem stable_any (w : World) (blk cap g : Nat) (cb : Array Value) (cf : Int → Int → Int) (LT : Int → Int → Prop) (d0 d : Array Int) (m0 : Nat)
    (eg : ∀ args w, (callFunc g args).run Try.prog w = .ok (.enter g args) w) (hO : Ord LT) (hcf : ∀ x y, y < x → (cf x y < 0 ↔ LT x y)) (hc : CmpOK w blk d0.size g cb cf)
    (h0 : Holds (Value.int .i64) w blk 0 d0) (hs : d.size = d0.size) (hsz : d0.size < 1152921504606846976) (hid : ∀ i, i < d.size → d[i]! = (i : Int)) (n : Nat) (hn : d0.size = n) :
    Calls Try.prog 66 #[.slice (some ⟨blk, 0, none⟩) d0.size cap, .int .i64 n, .func (.func g) #[] cb] (RW w blk d m0) fun e w' =>
      e = .returned (.tuple #[]) ∧ ∃ d' m', Mv 0 d.size d d' ∧ Srt LT 0 d.size d' ∧ RW w blk d' m' = w' := by
  have hr : Rng d.size d := fun k hk => by rw [hid k hk]; omega
  have cins := fun (ai bi : Int) (a b : Nat) (ea : ai = a) (eb : bi = b) (dk : Array Int) (mk : Nat) (h1 : a < b) (h2 : b ≤ d.size) (h3 : Mv 0 d.size d dk) (h4 : ∀ i, a ≤ i → i < d.size → dk[i]! = (i : Int)) =>
    insertion_any w blk cap a b g cb cf LT d0 dk mk eg hO hcf hc h0 (h3.size.trans hs) h1 (by rw [h3.size]; exact h2) (by rw [h3.size, hs]; omega) (by rw [h3.size]; exact h3.rng (Nat.le_refl _) hr)
      (fun i j x y z => by rw [h4 i x (by omega), h4 j (by omega) (by omega)]; omega)
  have cins2 : ∀ (ai bi : Int) (a b : Nat) (ea : ai = a) (eb : bi = b) (dk : Array Int) (mk : Nat) (h1 : a < b) (h2 : b ≤ d.size) (h3 : Mv 0 d.size d dk) (h4 : ∀ i, a ≤ i → i < d.size → dk[i]! = (i : Int)),
      Calls Try.prog 67 #[.slice (some ⟨blk, 0, none⟩) d0.size cap, .int .i64 ai, .int .i64 bi, .func (.func g) #[] cb] (RW w blk dk mk) fun e w' =>
      e = .returned (.tuple #[]) ∧ ∃ d' m', Mv a b dk d' ∧ Srt LT a b d' ∧ RW w blk d' m' = w' := fun ai bi a b ea eb dk mk h1 h2 h3 h4 => by
    have := cins ai bi a b ea eb dk mk h1 h2 h3 h4
    subst ea eb
    exact this
  have csym : ∀ (ai mi bi : Int) (a m b : Nat) (ea : ai = a) (em : mi = m) (eb : bi = b) (dk : Array Int) (mk : Nat) (h1 : a < m) (h2 : m < b) (h3 : b ≤ d.size) (h4 : Mv 0 d.size d dk) (h5 : Two LT a m b dk),
      Calls Try.prog 68 #[.slice (some ⟨blk, 0, none⟩) d0.size cap, .int .i64 ai, .int .i64 mi, .int .i64 bi, .func (.func g) #[] cb] (RW w blk dk mk) fun e w' =>
      e = .returned (.tuple #[]) ∧ ∃ d' m', Mv a b dk d' ∧ Srt LT a b d' ∧ RW w blk d' m' = w' := fun ai mi bi a m b ea em eb dk mk h1 h2 h3 h4 h5 =>
    symMerge_at w blk cap g cb cf LT d0 eg hO hcf hc h0 (by omega) ai mi bi a m b ea em eb dk mk h1 h2 (by rw [h4.size]; exact h3) (h4.size.trans hs) (by rw [h4.size]; exact h4.rng (Nat.le_refl _) hr) h5
  have CI := Lib.hid cins2
  have CS := Lib.hid csym
  have HS := Lib.hid hs
  have HID := Lib.hid hid
  have hdn : d.size = n := hs.trans hn
  rw [hdn] at hr
  have hnb : n < 1152921504606846976 := by omega
  have HN := Lib.hid hn
  have HDN := Lib.hid hdn
  clear cins cins2 csym hs hid hr hsz hn hdn hO hcf hc h0
  go_enter Try.func66, Try.ntmps66
  go_wp2_with fail
  go_loopw [7, 8] (fun va vb wr => ∃ (a mi : Nat) (dk : Array Int), va = .int .i64 a ∧ vb = .int .i64 ((a : Int) + 20) ∧ a ≤ n ∧ wr = RW w blk dk mi ∧ Hid (20 ∣ a) ∧ Hid (Mv 0 n d dk) ∧ Hid (Ahead LT 20 a dk) ∧ Hid (∀ i, a ≤ i → i < n → dk[i]! = (i : Int))) (fun va _ _ => n - (intOf va).toNat)
  case atStart => exact ⟨0, m0, d, rfl, rfl, by omega, rfl, Nat.dvd_zero _, Mv.refl _ _ _, Ahead.none _ _ _, fun i _ h => HID.out i (by rw [HDN.out]; exact h)⟩
  case round =>
    obtain ⟨a, mi, dk, rfl, rfl, han, rfl, HDV, HM, HAH, HI⟩ := hrel
    by_cases hlt : a + 20 ≤ n
    · have hltz : (a : Int) + 20 ≤ (n : Int) := by omega
      have c := CI.out a ((a : Int) + 20) a (a + 20) rfl (by omega) dk mi (by omega) (by rw [HDN.out]; exact hlt) (by rw [HDN.out]; exact HM.out) (by rw [HDN.out]; exact HI.out)
      have C := Lib.hid c
      clear c
      go_wp2_with fail
      refine C.out.mono ?_
      rintro x w' ⟨rfl, d1, m1, hm1, hs1, rfl⟩
      have hb1 : Blk LT a (a + 20) d1 := first_blk (fun i x y => HI.out i x (by omega)) hm1 hs1
      have G1 := Lib.hid (HAH.out.next HDV.out hm1 hb1)
      have G2 := Lib.hid (HM.out.trans (hm1.mono (Nat.zero_le _) hlt))
      have G3 : Hid (∀ i, a + 20 ≤ i → i < n → d1[i]! = (i : Int)) := fun i x y => by rw [hm1.out i (Or.inr x)]; exact HI.out i (by omega) y
      have G4 : Hid (20 ∣ a + 20) := Nat.dvd_add HDV.out (Nat.dvd_refl _)
      clear hm1 hs1 hb1
      go_wp2_with fail
      go_roundw
      case rel => exact ⟨a + 20, m1, d1, by go_num, congrArg (Value.int .i64) (by omega), hlt, rfl, G4, G2, G1, G3⟩
      case measure => simp [intOf]; omega
    · have hltz : ¬ (a : Int) + 20 ≤ (n : Int) := by omega
      have hins : Calls Try.prog 67 #[.slice (some ⟨blk, 0, none⟩) d0.size cap, .int .i64 a, .int .i64 n, .func (.func g) #[] cb] (RW w blk dk mi) fun e w' =>
          e = .returned (.tuple #[]) ∧ ∃ d' m', All LT 20 n d' ∧ Mv 0 n d d' ∧ RW w blk d' m' = w' := by
        by_cases hz : a < n
        · refine (CI.out a n a n rfl rfl dk mi hz (by rw [HDN.out]; exact Nat.le_refl _) (by rw [HDN.out]; exact HM.out) (by rw [HDN.out]; exact HI.out)).mono ?_
          rintro x w' ⟨rfl, d1, m1, hm1, hs1, rfl⟩
          exact ⟨rfl, d1, m1, HAH.out.all HDV.out (by omega) hm1 (fun _ => first_blk (fun i x y => HI.out i x y) hm1 hs1) han, HM.out.trans (hm1.mono (Nat.zero_le _) (Nat.le_refl _)), rfl⟩
        · have e : n = a := by omega
          subst e
          refine (insertion_none (RW w blk dk mi) blk d0.size cap n g cb (by omega)).mono ?_
          rintro x w' ⟨rfl, rfl⟩
          exact ⟨rfl, dk, mi, HAH.out.all HDV.out (by omega) (Mv.refl _ _ _) (fun h => absurd h (by omega)) (Nat.le_refl _), HM.out, rfl⟩
      have C := Lib.hid hins
      clear hins
      go_wp2_with fail
      refine C.out.mono ?_
      rintro x w' ⟨rfl, d1, m1, hall, hm1, rfl⟩
      have G1 := Lib.hid hall
      have G2 := Lib.hid hm1
      clear hall hm1
      go_wp2_with fail
      go_loopw [6] (fun vB wr => ∃ (B mi : Nat) (dk : Array Int), vB = .int .i64 B ∧ 20 ≤ B ∧ B ≤ 2 * n + 20 ∧ wr = RW w blk dk mi ∧ Hid (Mv 0 n d dk) ∧ Hid (All LT B n dk)) (fun vB _ => n - (intOf vB).toNat)
      case atStart => exact ⟨20, m1, d1, rfl, by omega, by omega, rfl, G2, G1⟩
      case round =>
        clear HDV HM HAH HI G1 G2 hlt hltz
        obtain ⟨B, mB, dB, rfl, hB1, hB2, rfl, HM, HALL⟩ := hrel
        by_cases hltB : B < n
        · have hltz : (B : Int) < (n : Int) := by omega
          go_wp2_with fail
          obtain ⟨wo, hwo⟩ : ∃ wo : World, wo = RW w blk dB mB := ⟨_, rfl⟩
          clear hwo
          go_loopw [7, 8] (fun va vb wr => ∃ (a mi : Nat) (dk : Array Int), va = .int .i64 a ∧ vb = .int .i64 ((a : Int) + 2 * (B : Int)) ∧ a ≤ n ∧ wr = RW w blk dk mi ∧ Hid (2 * B ∣ a) ∧ Hid (Mv 0 n d dk) ∧ Hid (Ahead LT (2 * B) a dk) ∧ Hid (From LT B a n dk)) (fun va _ _ => n - (intOf va).toNat)
          case atStart => exact ⟨0, mB, dB, rfl, congrArg (Value.int .i64) (by omega), by omega, rfl, Nat.dvd_zero _, HM, Ahead.none _ _ _, HALL.out.from⟩
          case round =>
            clear HM HALL
            obtain ⟨a, mi, dk, rfl, rfl, han, rfl, HDV, HM, HAH, HFR⟩ := hrel
            by_cases hlt : a + 2 * B ≤ n
            · have hltz2 : (a : Int) + 2 * (B : Int) ≤ (n : Int) := by omega
              have hBa : B ∣ a := Nat.dvd_trans (Nat.dvd_mul_left B 2) HDV.out
              have hb1 : Blk LT a (a + B) dk := by
                have := HFR.out a hBa (Nat.le_refl _) (by omega)
                rwa [show min (a + B) n = a + B by omega] at this
              have hb2 : Blk LT (a + B) (a + 2 * B) dk := by
                have := HFR.out (a + B) (Nat.dvd_add hBa (Nat.dvd_refl _)) (by omega) (by omega)
                rwa [show min (a + B + B) n = a + 2 * B by omega] at this
              have c := CS.out a ((a : Int) + (B : Int)) ((a : Int) + 2 * (B : Int)) a (a + B) (a + 2 * B) rfl (by omega) (by omega) dk mi (by omega) (by omega) (by rw [HDN.out]; exact hlt) (by rw [HDN.out]; exact HM.out) (hb1.two hb2)
              have C := Lib.hid c
              have B1 := Lib.hid hb1
              have B2 := Lib.hid hb2
              clear c hb1 hb2 hBa
              go_wp2_with fail
              refine C.out.mono ?_
              rintro x w' ⟨rfl, d2, m2, hm2, hs2, rfl⟩
              have hb3 := B1.out.merged B2.out (by omega) (by omega) hm2 hs2
              have G1 := Lib.hid (HAH.out.next HDV.out hm2 hb3)
              have G2 := Lib.hid (HM.out.trans (hm2.mono (Nat.zero_le _) hlt))
              have G3 := Lib.hid (HFR.out.next (show a ≤ a + 2 * B by omega) hm2)
              have G4 : Hid (2 * B ∣ a + 2 * B) := Nat.dvd_add HDV.out (Nat.dvd_refl _)
              clear hm2 hs2 hb3
              go_wp2_with fail
              go_roundw
              case rel => exact ⟨a + 2 * B, m2, d2, congrArg (Value.int .i64) (by omega), congrArg (Value.int .i64) (by omega), hlt, rfl, G4, G2, G1, G3⟩
              case measure => simp [intOf]; omega
            · have hltz2 : ¬ (a : Int) + 2 * (B : Int) ≤ (n : Int) := by omega
              have hBa : B ∣ a := Nat.dvd_trans (Nat.dvd_mul_left B 2) HDV.out
              by_cases hmn : a + B < n
              · have hmz : (a : Int) + (B : Int) < (n : Int) := by omega
                have hb1 : Blk LT a (a + B) dk := by
                  have := HFR.out a hBa (Nat.le_refl _) (by omega)
                  rwa [show min (a + B) n = a + B by omega] at this
                have hb2 : Blk LT (a + B) n dk := by
                  have := HFR.out (a + B) (Nat.dvd_add hBa (Nat.dvd_refl _)) (by omega) (by omega)
                  rwa [show min (a + B + B) n = n by omega] at this
                have c := CS.out a ((a : Int) + (B : Int)) n a (a + B) n rfl (by omega) rfl dk mi (by omega) hmn (by rw [HDN.out]; exact Nat.le_refl _) (by rw [HDN.out]; exact HM.out) (hb1.two hb2)
                have C := Lib.hid c
                have B1 := Lib.hid hb1
                have B2 := Lib.hid hb2
                clear c hb1 hb2 hBa
                go_wp2_with fail
                refine C.out.mono ?_
                rintro x w' ⟨rfl, d2, m2, hm2, hs2, rfl⟩
                have hb3 := B1.out.merged B2.out (by omega) (by omega) hm2 hs2
                have G1 := Lib.hid (HAH.out.all HDV.out (by omega) hm2 (fun _ => hb3) han)
                have G2 := Lib.hid (HM.out.trans (hm2.mono (Nat.zero_le _) (Nat.le_refl _)))
                clear hm2 hs2 hb3
                go_wp2_with fail
                go_roundw
                case rel => exact ⟨2 * B, m2, d2, congrArg (Value.int .i64) (by omega), by omega, by omega, rfl, G2, G1⟩
                case measure => simp [intOf]; omega
              · have hmz : ¬ (a : Int) + (B : Int) < (n : Int) := by omega
                have hall : All LT (2 * B) n dk := HAH.out.all HDV.out (by omega) (Mv.refl _ _ _) (fun hz => by
                  have := HFR.out a hBa (Nat.le_refl _) hz
                  rwa [show min (a + B) n = n by omega] at this) han
                have G1 := Lib.hid hall
                clear hall hBa
                go_wp2_with fail
                go_roundw
                case rel => exact ⟨2 * B, mi, dk, congrArg (Value.int .i64) (by omega), by omega, by omega, rfl, HM, G1⟩
                case measure => simp [intOf]; omega
        · have hltz : ¬ (B : Int) < (n : Int) := by omega
          have hfin := HALL.out.whole (show n ≤ B by omega)
          have HF := Lib.hid hfin
          clear hfin
          go_wp2_with fail
          go_end0
          rw [HDN.out]
          first | exact ⟨rfl, dB, mB, HM.out, HF.out, rfl⟩ | exact ⟨rfl, dB, HM.out, HF.out, mB, rfl⟩

set_option maxRecDepth 100000 in
set_option maxHeartbeats 400000 in
theorem sortStable_any (w : World) (blk cap g : Nat) (cb : Array Value) (cf : Int → Int → Int) (LT : Int → Int → Prop) (d0 d : Array Int) (m0 : Nat)
    (eg : ∀ args w, (callFunc g args).run Try.prog w = .ok (.enter g args) w) (hO : Ord LT) (hcf : ∀ x y, y < x → (cf x y < 0 ↔ LT x y)) (hc : CmpOK w blk d0.size g cb cf)
    (h0 : Holds (Value.int .i64) w blk 0 d0) (hs : d.size = d0.size) (hsz : d0.size < 1152921504606846976) (hid : ∀ i, i < d.size → d[i]! = (i : Int)) :
    Calls Try.prog 65 #[.slice (some ⟨blk, 0, none⟩) d0.size cap, .func (.func g) #[] cb] (RW w blk d m0) fun e w' =>
      e = .returned (.tuple #[]) ∧ ∃ d' m', Mv 0 d.size d d' ∧ Srt LT 0 d.size d' ∧ RW w blk d' m' = w' := by
  have C := Lib.hid (stable_any w blk cap g cb cf LT d0 d m0 eg hO hcf hc h0 hs hsz hid d0.size rfl)
  clear eg hO hcf hc h0 hs hid
  go_enter Try.func65, Try.ntmps65
  go_wp2_with fail
  refine C.out.mono ?_
  rintro x w' ⟨rfl, d', m', h1, h2, rfl⟩
  have H1 := Lib.hid h1
  have H2 := Lib.hid h2
  clear h1 h2
  go_wp2_with fail
  go_end0
  first | exact ⟨rfl, d', m', H1.out, H2.out, rfl⟩ | exact ⟨rfl, d', H1.out, H2.out, m', rfl⟩
end Go.Proofs.Ytaegajlffiepoaa
