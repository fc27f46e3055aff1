/- The walk of layer 1's texts: 'Parse'. -/
import Derived.Test.YtipmgoejdkpknaaFixWa
namespace Go.Proofs.Ytipmgoejdkpknaa
open Go.RowKit FixM FixP

set_option maxRecDepth 100000 in
set_option maxHeartbeats 1000000 in
theorem Parse_any (s : ByteArray) (w : World) (hs : s.size ≤ 9223372036854775807) :
    Calls Try.prog 67 #[.string s] w fun e w' => e = .returned (.tuple #[.int .i64 (parse s.data.toList).1, .int .i64 (parse s.data.toList).2]) ∧ ∃ st, PW w st = w' := by
  have hmf : ∀ (fn : Fn) (first cap : Array Value) (w : World), (Instr.makeFunc fn first cap).run Try.prog w = .ok (.func fn first cap) w := fun _ _ _ _ => rfl
  have hst := beg_le s.data.toList
  have hpt := pt_le s.data.toList
  have hll := len_list s
  have hp1 : beg s.data.toList ≤ s.size := by omega
  have hp2 : pt s.data.toList ≤ s.size := by omega
  have HL := Lib.hid hll
  clear hll hst hpt
  go_enter Try.func67, Try.ntmps67
  go_wp2_with fail
  refine (sign_any s _).mono ?_
  rintro e w' ⟨rfl, rfl⟩
  go_wp2_with fail
  refine (digits_any (PW w) PI st1 78 _ enters_f39 (takes1 w) s _ (0, 0) hs hp1 ⟨by decide, by decide, by decide, by decide⟩).mono ?_
  rintro e w' ⟨rfl, rfl, hi⟩
  obtain ⟨n1, hA⟩ : ∃ n, tell st1 (0, 0) (ds s.data.toList (beg s.data.toList)) = (n, 0) := ⟨(tell st1 (0, 0) (ds s.data.toList (beg s.data.toList))).1, Prod.ext rfl (tell_st1_snd _ _)⟩
  rw [hA] at hi ⊢
  obtain ⟨p, hP⟩ : ∃ p, p = beg s.data.toList + nd s.data.toList (beg s.data.toList) := ⟨_, rfl⟩
  rw [← hP]
  have hp2' : p ≤ s.size := by rw [hP]; exact hp2
  obtain ⟨b0, hB⟩ : ∃ b, b = beg s.data.toList := ⟨_, rfl⟩
  rw [← hB]
  have hb0 : b0 ≤ p := by omega
  have HA : Hid (stA s.data.toList = (n1, 0)) := hA
  have HP : Hid (pt s.data.toList = p) := hP.symm
  have HB : Hid (beg s.data.toList = b0) := hB.symm
  clear hA hP hB hp1 hp2
  have hn1 : 0 ≤ n1 := hi.1
  have hn2 : n1 ≤ 1073741824 := hi.2.1
  have HI := Lib.hid hi
  clear hi
  by_cases hlt : p < s.size
  · by_cases h46 : s[p].toNat = 46
    · have b46 : ((s[p].toNat : Int) == 46) = true := by simp [h46]
      have H46 := Lib.hid h46
      clear h46
      go_wp2_with fail
      refine (digits_at (PW w) PI st2 81 _ enters_f42 (takes2 w) s _ (p + 1) (by omega) (n1, 0) hs (by omega) HI.out).mono ?_
      obtain ⟨sB, hB⟩ : ∃ st, st = tell st2 (n1, 0) (ds s.data.toList (p + 1)) := ⟨_, rfl⟩
      rw [← hB]
      rintro e w' ⟨rfl, rfl, hi⟩
      obtain ⟨m, hM⟩ : ∃ m, m = nd s.data.toList (p + 1) := ⟨_, rfl⟩
      rw [← hM]
      have hml : p + 1 + m ≤ s.size := by have := nd_le (l := s.data.toList) (a := p + 1) (by rw [HL.out]; omega); rw [← hM, HL.out] at this; exact this
      have hpl : pt s.data.toList < s.data.toList.length := by rw [HP.out, HL.out]; exact hlt
      have hpc : (s.data.toList[pt s.data.toList]).toNat = 46 := by simp only [HP.out]; exact H46.out
      have hSB : stB s.data.toList = sB := by unfold stB; rw [HA.out, HP.out, hB]
      have hMB : nd s.data.toList (pt s.data.toList + 1) = m := by rw [HP.out, hM]
      obtain ⟨n2, b2⟩ := sB
      have g1 : 0 ≤ n2 := hi.1
      have g2 : n2 ≤ 1073741824 := hi.2.1
      have g3 : 0 ≤ b2 := hi.2.2.1
      have g4 : b2 ≤ 3 := hi.2.2.2
      clear hi hB hM
      by_cases hb2 : b2 = 0
      · have hpar : parse s.data.toList = (0, 10) := parse_dot_bad hpl hpc (Or.inl (by rw [hSB]; exact hb2))
        have HPAR := Lib.hid hpar
        subst hb2
        clear hpar hpl hpc hSB hMB
        have hgt : ¬ ((p : Int) + 1 + (m : Int) ≤ (p : Int)) := by omega
        by_cases hpb : p = b0
        · subst hpb
          go_wp2_with fail
          go_ret2
          rw [HPAR.out]
          (first | exact ⟨rfl, _, rfl⟩ | exact ⟨rfl, _, _, rfl⟩)
        · have bpb : ((p : Int) == (b0 : Int)) = false := by simp; omega
          go_wp2_with fail
          go_ret2
          rw [HPAR.out]
          (first | exact ⟨rfl, _, rfl⟩ | exact ⟨rfl, _, _, rfl⟩)
      · have bb2 : (b2 == 0) = false := by simp; omega
        by_cases hend : p + 1 + m < s.size
        · have hpar : parse s.data.toList = (0, 10) := parse_dot_bad hpl hpc (Or.inr (by rw [hMB, HP.out, HL.out]; exact hend))
          have HPAR := Lib.hid hpar
          clear hpar hpl hpc hSB hMB hb2
          go_wp2_with fail
          go_ret2
          rw [HPAR.out]
          (first | exact ⟨rfl, _, rfl⟩ | exact ⟨rfl, _, _, rfl⟩)
        · have hpar := parse_dot hpl hpc (by rw [hSB, hMB, HP.out, HL.out]; rintro (h | h); exact hb2 h; exact hend h)
          rw [hSB] at hpar
          have HPAR := Lib.hid hpar
          clear hpar hpl hpc hSB hMB hb2
          go_wp2_with fail
          go_loopw [55] (fun i wr => ∃ k : Nat, i = .int .i64 k ∧ (k : Int) ≤ 3 - b2 ∧ wr = PW w (zer n2 k, b2)) (fun i _ => 3 - (intOf i).toNat)
          case atStart => exact ⟨0, rfl, by simp; try omega, rfl⟩
          case round =>
            obtain ⟨k, rfl, hk, rfl⟩ := hrel
            have hz := zer_bd (n := n2) ⟨by omega, by omega⟩ k
            have hz1 := hz.1
            have hz2 := hz.2
            clear hz
            by_cases hkl : (k : Int) < 3 - b2
            · go_wp2_with fail
              refine (take1 w (zer n2 k) b2 0 hz1 hz2 (by omega) (by omega)).mono ?_
              rintro e w' ⟨rfl, rfl⟩
              go_wp2_with fail
              go_roundw
              case rel => exact ⟨k + 1, by go_num, by omega, by simp [zer]⟩
              case measure => simp [intOf]; omega
            · have hs0 : 0 < s.size := by omega
              have hk3 : (k : Int) = 3 - b2 := by omega
              have HK := Lib.hid hk3
              clear hk3
              by_cases h45 : s[0].toNat = 45
              · have b45 : ((s[0].toNat : Int) == 45) = true := by simp [h45]
                have hsg := sgnd_eq s hs0 (zer n2 k)
                rw [if_pos h45] at hsg
                have HSG := Lib.hid hsg
                clear h45 hsg
                go_wp2_with fail
                go_ret2
                have e1 := HSG.out
                have e2 := HPAR.out
                have ek : k = (3 - b2).toNat := by have := HK.out; omega
                subst ek
                rw [e2, e1]
                (first | exact ⟨rfl, _, rfl⟩ | exact ⟨rfl, _, _, rfl⟩)
              · have b45 : ((s[0].toNat : Int) == 45) = false := by simp; omega
                have hsg := sgnd_eq s hs0 (zer n2 k)
                rw [if_neg h45] at hsg
                have HSG := Lib.hid hsg
                clear h45 hsg
                go_wp2_with fail
                go_ret2
                have e1 := HSG.out
                have e2 := HPAR.out
                have ek : k = (3 - b2).toNat := by have := HK.out; omega
                subst ek
                rw [e2, e1]
                (first | exact ⟨rfl, _, rfl⟩ | exact ⟨rfl, _, _, rfl⟩)
    · have b46 : ((s[p].toNat : Int) == 46) = false := by simp; omega
      have hpar : parse s.data.toList = (0, 10) := parse_bad (by rw [HP.out, HL.out]; exact hlt) (by simp only [HP.out]; exact h46)
      have HPAR := Lib.hid hpar
      clear h46 hpar
      by_cases hpb : p = b0
      · subst hpb
        go_wp2_with fail
        go_ret2
        rw [HPAR.out]
        (first | exact ⟨rfl, _, rfl⟩ | exact ⟨rfl, _, _, rfl⟩)
      · have bpb : ((p : Int) == (b0 : Int)) = false := by simp; omega
        go_wp2_with fail
        go_ret2
        rw [HPAR.out]
        (first | exact ⟨rfl, _, rfl⟩ | exact ⟨rfl, _, _, rfl⟩)
  · by_cases hpb : p = b0
    · have hpar : parse s.data.toList = (0, 10) := parse_end_bad (by rw [HP.out, HL.out]; exact hlt) (by rw [HP.out, HB.out]; exact hpb)
      have HPAR := Lib.hid hpar
      clear hpar
      subst hpb
      go_wp2_with fail
      go_ret2
      rw [HPAR.out]
      (first | exact ⟨rfl, _, rfl⟩ | exact ⟨rfl, _, _, rfl⟩)
    · have bpb : ((p : Int) == (b0 : Int)) = false := by simp; omega
      have hpar := parse_end (l := s.data.toList) (by rw [HP.out, HL.out]; exact hlt) (by rw [HP.out, HB.out]; exact hpb)
      rw [HA.out] at hpar
      have HPAR := Lib.hid hpar
      clear hpar
      go_wp2_with fail
      go_loopw [55] (fun i wr => ∃ k : Nat, i = .int .i64 k ∧ (k : Int) ≤ 3 ∧ wr = PW w (zer n1 k, 0)) (fun i _ => 3 - (intOf i).toNat)
      case atStart => exact ⟨0, rfl, by simp; try omega, rfl⟩
      case round =>
        obtain ⟨k, rfl, hk, rfl⟩ := hrel
        have hz := zer_bd (n := n1) ⟨by omega, by omega⟩ k
        have hz1 := hz.1
        have hz2 := hz.2
        clear hz
        by_cases hkl : (k : Int) < 3
        · go_wp2_with fail
          refine (take1 w (zer n1 k) 0 0 hz1 hz2 (by omega) (by omega)).mono ?_
          rintro e w' ⟨rfl, rfl⟩
          go_wp2_with fail
          go_roundw
          case rel => exact ⟨k + 1, by go_num, by omega, by simp [zer]⟩
          case measure => simp [intOf]; omega
        · have hs0 : 0 < s.size := by omega
          have hk3 : (k : Int) = 3 := by omega
          have HK := Lib.hid hk3
          clear hk3
          by_cases h45 : s[0].toNat = 45
          · have b45 : ((s[0].toNat : Int) == 45) = true := by simp [h45]
            have hsg := sgnd_eq s hs0 (zer n1 k)
            rw [if_pos h45] at hsg
            have HSG := Lib.hid hsg
            clear h45 hsg
            go_wp2_with fail
            go_ret2
            have e1 := HSG.out
            have e2 := HPAR.out
            have ek : k = 3 := by have := HK.out; omega
            subst ek
            rw [e2, e1]
            (first | exact ⟨rfl, _, rfl⟩ | exact ⟨rfl, _, _, rfl⟩)
          · have b45 : ((s[0].toNat : Int) == 45) = false := by simp; omega
            have hsg := sgnd_eq s hs0 (zer n1 k)
            rw [if_neg h45] at hsg
            have HSG := Lib.hid hsg
            clear h45 hsg
            go_wp2_with fail
            go_ret2
            have e1 := HSG.out
            have e2 := HPAR.out
            have ek : k = 3 := by have := HK.out; omega
            subst ek
            rw [e2, e1]
            (first | exact ⟨rfl, _, rfl⟩ | exact ⟨rfl, _, _, rfl⟩)
end Go.Proofs.Ytipmgoejdkpknaa
