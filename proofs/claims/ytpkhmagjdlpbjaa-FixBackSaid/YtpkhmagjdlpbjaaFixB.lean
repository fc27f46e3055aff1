/- Plain lists for layer 1's texts: what is printed is read as it was. Nothing of the program is imported. -/
import Derived.Test.YtpkhmagjdlpbjaaFixR
namespace Go.Proofs.Ytpkhmagjdlpbjaa.FixP
open FixM

theorem isD_dgc {x : Int} (h0 : 0 ≤ x) (h9 : x ≤ 9) : isD (dgc x) = true := by
  rw [isD_iff]; have := dgc_nat h0 h9; omega
theorem dv_dgc {x : Int} (h0 : 0 ≤ x) (h9 : x ≤ 9) : dv (dgc x) = x := by
  unfold dv; have := dgc_nat h0 h9; omega
theorem tell_append {σ : Type} (step : σ → Int → σ) (st : σ) (l m : List UInt8) : tell step st (l ++ m) = tell step (tell step st l) m := by
  unfold tell; rw [List.foldl_append]
theorem whl_isD : ∀ (k : Nat) (x : Int), 0 ≤ x → ∀ c ∈ whl k x, isD c = true
  | 0, _, _, c, h => by simp [whl] at h
  | k + 1, x, h0, c, h => by
    unfold whl at h
    split at h
    · simp at h; subst h; exact isD_dgc h0 (by omega)
    · rcases List.mem_append.1 h with h | h
      · exact whl_isD k (x / 10) (by omega) c h
      · simp at h; subst h; exact isD_dgc (by omega) (by omega)
theorem whl_ne (k : Nat) (x : Int) : whl (k + 1) x ≠ [] := by unfold whl; split <;> simp
theorem tell_whl (b : Int) : ∀ (k : Nat) (x : Int), 0 ≤ x → x < 10 ^ (k + 1) → x ≤ 1073741824 → tell st1 (0, b) (whl (k + 1) x) = (x, b)
  | 0, x, h0, h1, h2 => by
    have h10 : x < 10 := by simpa using h1
    rw [whl_digit h10]
    show (H (0 * 10 + dv (dgc x)), b) = _
    rw [dv_dgc h0 (by omega), H_id (by omega) (by omega)]
    simp
  | k + 1, x, h0, h1, h2 => by
    by_cases h10 : x < 10
    · rw [whl_digit h10]
      show (H (0 * 10 + dv (dgc x)), b) = _
      rw [dv_dgc h0 (by omega), H_id (by omega) (by omega)]
      simp
    · have h3 : x / 10 < 10 ^ (k + 1) := by rw [Int.pow_succ] at h1; omega
      have hw : whl (k + 2) x = whl (k + 1) (x / 10) ++ [dgc (x % 10)] := by
        show (if x < 10 then _ else _) = _
        rw [if_neg h10]
      rw [hw, tell_append, tell_whl b k (x / 10) (by omega) h3 (by omega)]
      show (H (x / 10 * 10 + dv (dgc (x % 10))), b) = _
      rw [dv_dgc (by omega) (by omega)]
      have e : x / 10 * 10 + x % 10 = x := by omega
      rw [e, H_id (by omega) h2]

theorem ds_front (sg D R : List UInt8) (hD : ∀ c ∈ D, isD c = true) (hR : R = [] ∨ ∃ c r, R = c :: r ∧ isD c = false) : ds (sg ++ (D ++ R)) sg.length = D := by
  unfold ds
  rw [List.drop_left]
  rw [List.takeWhile_append_of_pos hD]
  rcases hR with rfl | ⟨c, r, rfl, hc⟩
  · simp
  · rw [List.takeWhile_cons, if_neg (by rw [hc]; simp)]; simp
theorem beg_front (sg D R : List UInt8) (hs : sg = [] ∨ sg = [45]) (hD : ∀ c ∈ D, isD c = true) (hne : D ≠ []) : beg (sg ++ (D ++ R)) = sg.length := by
  rcases hs with rfl | rfl
  · cases D with
    | nil => exact absurd rfl hne
    | cons c D =>
      have := (isD_iff c).1 (hD c List.mem_cons_self)
      show (if c.toNat = 43 ∨ c.toNat = 45 then 1 else 0) = 0
      rw [if_neg (by omega)]
  · rfl

theorem parse_whole (sg D : List UInt8) (hs : sg = [] ∨ sg = [45]) (hD : ∀ c ∈ D, isD c = true) (hne : D ≠ []) :
    parse (sg ++ D) = (sgnd (sg ++ D) (zer (tell st1 (0, 0) D).1 3), 0) := by
  have hb := beg_front sg D [] hs hD hne
  have hd := ds_front sg D [] hD (Or.inl rfl)
  rw [List.append_nil] at hb hd
  have hn : nd (sg ++ D) sg.length = D.length := by unfold nd; rw [hd]
  have hp : pt (sg ++ D) = (sg ++ D).length := by unfold pt; rw [hb, hn, List.length_append]
  have hl : D.length ≠ 0 := by simpa using hne
  rw [parse_end (by omega) (by rw [hp, hb, List.length_append]; omega)]
  unfold stA
  rw [hb, hd]

theorem parse_frac (sg D F : List UInt8) (hs : sg = [] ∨ sg = [45]) (hD : ∀ c ∈ D, isD c = true) (hne : D ≠ []) (hF : ∀ c ∈ F, isD c = true) (n b : Int)
    (hB : tell st2 (tell st1 (0, 0) D) F = (n, b)) (hb0 : b ≠ 0) :
    parse (sg ++ (D ++ 46 :: F)) = (sgnd (sg ++ (D ++ 46 :: F)) (zer n (3 - b).toNat), 0) := by
  have h46 : isD 46 = false := by decide
  have hbg := beg_front sg D (46 :: F) hs hD hne
  have hd := ds_front sg D (46 :: F) hD (Or.inr ⟨46, F, rfl, h46⟩)
  have hn : nd (sg ++ (D ++ 46 :: F)) sg.length = D.length := by unfold nd; rw [hd]
  have hp : pt (sg ++ (D ++ 46 :: F)) = (sg ++ D).length := by unfold pt; rw [hbg, hn, List.length_append]
  have hl : (sg ++ (D ++ 46 :: F)).length = (sg ++ D).length + 1 + F.length := by simp; omega
  have hds2 : ds (sg ++ (D ++ 46 :: F)) ((sg ++ D).length + 1) = F := by
    have e1 : sg ++ (D ++ 46 :: F) = (sg ++ D ++ [46]) ++ (F ++ []) := by simp
    have e2 : (sg ++ D).length + 1 = (sg ++ D ++ [46]).length := by simp; omega
    rw [e1, e2]
    exact ds_front _ F [] hF (Or.inl rfl)
  have hst : stB (sg ++ (D ++ 46 :: F)) = (n, b) := by unfold stB stA; rw [hp, hbg, hd, hds2, hB]
  have hlt : pt (sg ++ (D ++ 46 :: F)) < (sg ++ (D ++ 46 :: F)).length := by rw [hp, hl]; omega
  have hnd : nd (sg ++ (D ++ 46 :: F)) (pt (sg ++ (D ++ 46 :: F)) + 1) = F.length := by rw [hp]; unfold nd; rw [hds2]
  have hc : ((sg ++ (D ++ 46 :: F))[pt (sg ++ (D ++ 46 :: F))]).toNat = 46 := by
    have : (sg ++ (D ++ 46 :: F))[pt (sg ++ (D ++ 46 :: F))]? = some 46 := by
      rw [hp, ← List.append_assoc, List.getElem?_append_right (Nat.le_refl _)]
      simp
    rw [List.getElem?_eq_getElem hlt] at this
    rw [Option.some.inj this]; rfl
  rw [parse_dot hlt hc (by rw [hst, hnd, hp, hl]; rintro (h | h); exact hb0 h; omega), hst]

/-- a number that is not below 0, behind a sign or none -/
theorem parse_prt (sg : List UInt8) (hs : sg = [] ∨ sg = [45]) (a : Int) (h0 : 0 ≤ a) (h1 : a ≤ 1073741824) : parse (sg ++ prt a) = (sgnd (sg ++ prt a) a, 0) := by
  have hW := tell_whl 0 6 (a / 1000) (by omega) (by show a / 1000 < 10000000; omega) (by omega)
  have hD := whl_isD 7 (a / 1000) (by omega)
  have hne := whl_ne 6 (a / 1000)
  have hr := prt_eq_ref a h0 h1
  by_cases hz : a % 1000 = 0
  · rw [if_pos hz] at hr
    rw [hr, parse_whole sg _ hs hD hne, hW]
    have : zer (a / 1000) 3 = a := by
      show H (H (H (a / 1000 * 10) * 10) * 10) = a
      rw [H_id (x := a / 1000 * 10) (by omega) (by omega), H_id (x := a / 1000 * 10 * 10) (by omega) (by omega), H_id (by omega) (by omega)]
      omega
    simp only []
    rw [this]
  · rw [if_neg hz] at hr
    have g2 : 0 ≤ a % 1000 / 100 ∧ a % 1000 / 100 ≤ 9 := by omega
    have g1 : 0 ≤ a % 1000 % 100 / 10 ∧ a % 1000 % 100 / 10 ≤ 9 := by omega
    have g0 : 0 ≤ a % 1000 % 100 % 10 / 1 ∧ a % 1000 % 100 % 10 / 1 ≤ 9 := by omega
    have s1 : st2 (a / 1000, 0) (dv (dgc (a % 1000 / 100))) = (a / 1000 * 10 + a % 1000 / 100, 1) := by
      unfold st2; simp only []; rw [if_pos (by omega), dv_dgc g2.1 g2.2, H_id (by omega) (by omega)]; rfl
    have s2 : st2 (a / 1000 * 10 + a % 1000 / 100, 1) (dv (dgc (a % 1000 % 100 / 10))) = ((a / 1000 * 10 + a % 1000 / 100) * 10 + a % 1000 % 100 / 10, 2) := by
      unfold st2; simp only []; rw [if_pos (by omega), dv_dgc g1.1 g1.2, H_id (by omega) (by omega)]; rfl
    have s3 : st2 ((a / 1000 * 10 + a % 1000 / 100) * 10 + a % 1000 % 100 / 10, 2) (dv (dgc (a % 1000 % 100 % 10 / 1))) = (a, 3) := by
      unfold st2; simp only []; rw [if_pos (by omega), dv_dgc g0.1 g0.2]
      have e : ((a / 1000 * 10 + a % 1000 / 100) * 10 + a % 1000 % 100 / 10) * 10 + a % 1000 % 100 % 10 / 1 = a := by omega
      rw [e, H_id (by omega) h1]; rfl
    by_cases hz1 : a % 1000 % 100 = 0
    · have hf : prt a = whl 7 (a / 1000) ++ 46 :: [dgc (a % 1000 / 100)] := by
        rw [hr]; unfold frr; rw [if_pos hz1]; simp [frs, frp, frk]
      have hB : tell st2 (tell st1 (0, 0) (whl 7 (a / 1000))) [dgc (a % 1000 / 100)] = (a / 1000 * 10 + a % 1000 / 100, 1) := by
        rw [hW]; exact s1
      rw [hf, parse_frac sg _ _ hs hD hne (by intro c hc; simp at hc; subst hc; exact isD_dgc g2.1 g2.2) _ _ hB (by omega)]
      have : zer (a / 1000 * 10 + a % 1000 / 100) (3 - 1 : Int).toNat = a := by
        show H (H ((a / 1000 * 10 + a % 1000 / 100) * 10) * 10) = a
        rw [H_id (x := (a / 1000 * 10 + a % 1000 / 100) * 10) (by omega) (by omega), H_id (by omega) (by omega)]
        omega
      rw [this]
    · by_cases hz2 : a % 1000 % 100 % 10 = 0
      · have hf : prt a = whl 7 (a / 1000) ++ 46 :: [dgc (a % 1000 / 100), dgc (a % 1000 % 100 / 10)] := by
          rw [hr]; unfold frr; rw [if_neg hz1, if_pos hz2]; simp [frs, frp, frk]
        have hB : tell st2 (tell st1 (0, 0) (whl 7 (a / 1000))) [dgc (a % 1000 / 100), dgc (a % 1000 % 100 / 10)] = ((a / 1000 * 10 + a % 1000 / 100) * 10 + a % 1000 % 100 / 10, 2) := by
          rw [hW, ← s2, ← s1]; rfl
        rw [hf, parse_frac sg _ _ hs hD hne (by intro c hc; simp only [List.mem_cons, List.not_mem_nil, or_false] at hc; rcases hc with rfl | rfl; exact isD_dgc g2.1 g2.2; exact isD_dgc g1.1 g1.2) _ _ hB (by omega)]
        have : zer ((a / 1000 * 10 + a % 1000 / 100) * 10 + a % 1000 % 100 / 10) (3 - 2 : Int).toNat = a := by
          show H (((a / 1000 * 10 + a % 1000 / 100) * 10 + a % 1000 % 100 / 10) * 10) = a
          rw [H_id (by omega) (by omega)]
          omega
        rw [this]
      · have hf : prt a = whl 7 (a / 1000) ++ 46 :: [dgc (a % 1000 / 100), dgc (a % 1000 % 100 / 10), dgc (a % 1000 % 100 % 10 / 1)] := by
          rw [hr]; unfold frr; rw [if_neg hz1, if_neg hz2]; simp [frs, frp, frk]
        have hB : tell st2 (tell st1 (0, 0) (whl 7 (a / 1000))) [dgc (a % 1000 / 100), dgc (a % 1000 % 100 / 10), dgc (a % 1000 % 100 % 10 / 1)] = (a, 3) := by
          rw [hW, ← s3, ← s2, ← s1]; rfl
        rw [hf, parse_frac sg _ _ hs hD hne (by intro c hc; simp only [List.mem_cons, List.not_mem_nil, or_false] at hc; rcases hc with rfl | rfl | rfl; exact isD_dgc g2.1 g2.2; exact isD_dgc g1.1 g1.2; exact isD_dgc g0.1 g0.2) _ _ hB (by omega)]
        rfl

/-- WHAT IS PRINTED IS READ AS IT WAS -/
theorem parse_prn (v : Int) (h1 : -1073741824 ≤ v) (h2 : v ≤ 1073741824) : parse (prn v) = (v, 0) := by
  unfold prn
  by_cases h : v < 0
  · rw [if_pos h]
    have := parse_prt [45] (Or.inr rfl) (-v) (by omega) (by omega)
    have e : [45] ++ prt (-v) = 45 :: prt (-v) := rfl
    rw [e] at this
    rw [this]
    have hs : sgnd (45 :: prt (-v)) (-v) = -(-v) := rfl
    rw [hs, Int.neg_neg]
  · rw [if_neg h]
    have := parse_prt [] (Or.inl rfl) v (by omega) (by omega)
    rw [List.nil_append] at this
    rw [this]
    have hs : sgnd (prt v) v = v := by
      have hr := prt_eq_ref v (by omega) h2
      have hne := whl_ne 6 (v / 1000)
      have hD := whl_isD 7 (v / 1000) (by omega)
      obtain ⟨c, r, hcr⟩ : ∃ c r, whl 7 (v / 1000) = c :: r := by
        cases hw : whl 7 (v / 1000) with
        | nil => exact absurd hw hne
        | cons c r => exact ⟨c, r, rfl⟩
      have hc := (isD_iff c).1 (hD c (by rw [hcr]; exact List.mem_cons_self))
      obtain ⟨r', hr'⟩ : ∃ r', prt v = c :: r' := by
        rw [hr, hcr]
        split
        · exact ⟨r, rfl⟩
        · unfold frr
          split
          · exact ⟨_, rfl⟩
          · split
            · exact ⟨_, rfl⟩
            · exact ⟨_, rfl⟩
      rw [hr']
      show (if c.toNat = 45 then -v else v) = v
      rw [if_neg (by omega)]
    rw [hs]
end Go.Proofs.Ytpkhmagjdlpbjaa.FixP
