/- Layer 6's reference: Trim, Loud, Broken, Top. -/
import Derived.Test.YtoaenlbbochjhaaSynR1
import Derived.Test.YtoaenlbbochjhaaSynUa
namespace Go.Proofs.Ytoaenlbbochjhaa
open Go.RowKit TreN LexP FixP SynP
set_option linter.unusedVariables false

theorem isSp_t {t : Tok} (h : t.kind = 20) : isSp t = true := by unfold isSp; rw [decide_eq_true h]
theorem isSp_f {t : Tok} (h : ¬ t.kind = 20) : isSp t = false := by unfold isSp; rw [decide_eq_false h]
theorem bs_sp {t : Tok} {r : List Tok} (h : t.kind = 20) : bs (t :: r) = bs r := by
  show (t :: r).dropWhile isSp = r.dropWhile isSp
  rw [List.dropWhile_cons, if_pos (isSp_t h)]
theorem bs_no {t : Tok} {r : List Tok} (h : ¬ t.kind = 20) : bs (t :: r) = t :: r := by
  show (t :: r).dropWhile isSp = t :: r
  rw [List.dropWhile_cons, if_neg (by rw [isSp_f h]; simp)]
theorem trm_sp {t : Tok} {r : List Tok} (h : t.kind = 20) : trm (t :: r) = trm r := by unfold trm; rw [bs_sp h]
theorem es_sp {m : List Tok} {u : Tok} (h : u.kind = 20) : es (m ++ [u]) = es m := by rw [es_snoc, if_pos (isSp_t h)]
theorem es_no {m : List Tok} {u : Tok} (h : ¬ u.kind = 20) : es (m ++ [u]) = m ++ [u] := by rw [es_snoc, if_neg (by rw [isSp_f h]; simp)]
theorem trm_last {t u : Tok} {m : List Tok} (h : ¬ t.kind = 20) (h2 : u.kind = 20) : trm (t :: m ++ [u]) = trm (t :: m) := by
  unfold trm
  rw [List.cons_append, bs_no h, bs_no h, ← List.cons_append, es_sp h2]
theorem trm_keep {t u : Tok} {r m : List Tok} (h : ¬ t.kind = 20) (h2 : ¬ u.kind = 20) (e : t :: r = m ++ [u]) : trm (t :: r) = t :: r := by
  unfold trm
  rw [bs_no h, e, es_no h2]

/-- what a call answers: a piece of its list, whatever the world -/
def SlPc (a : Option Addr) (l m : List Tok) (e : Ending) : Prop := ∃ a2 c2, e = .returned (.slice a2 m.length c2) ∧ m.length ≤ c2 ∧ c2 ≤ maxLen ∧ ∀ W : World, Tks W a l → Tks W a2 m

set_option maxRecDepth 100000 in
set_option maxHeartbeats 2000000 in
theorem refTrim_nat : ∀ (d : Nat) (a : Option Addr) (l : List Tok) (n cap : Nat) (w : World), l.length = n → n ≤ d → n ≤ cap → cap ≤ maxLen → Tks w a l →
    Calls Try.prog 43 #[.slice a n cap] w fun e w' => SlPc a l (trm l) e ∧ w' = w := by
  intro d
  induction d with
  | zero =>
    intro a l n cap w hn hd h1 h2 hT
    have h0 : n = 0 := by omega
    subst h0
    have hl : l = [] := List.eq_nil_of_length_eq_zero hn
    subst hl
    have HF := Lib.hid h2
    clear h1 h2 hT hn hd
    go_enter Try.func43, Try.ntmps43
    go_wp2_with fail
    go_ret
    exact ⟨⟨a, cap, rfl, Nat.zero_le _, HF.out, fun W hW => hW⟩, rfl⟩
  | succ d ih =>
    intro a l n cap w hn hd h1 h2 hT
    have IH := Lib.hid ih
    clear ih
    cases l with
    | nil =>
      have h0 : n = 0 := hn.symm
      subst h0
      have HF := Lib.hid h2
      clear h1 h2 hT hn hd
      go_enter Try.func43, Try.ntmps43
      go_wp2_with fail
      go_ret
      exact ⟨⟨a, cap, rfl, Nat.zero_le _, HF.out, fun W hW => hW⟩, rfl⟩
    | cons t r =>
      have hT0 := hT
      rcases hT with h | ⟨b1, o1, rfl, hb1, ht1⟩
      · cases h
      have hnp : 0 < n := by rw [← hn]; simp
      have d1 : w.cell? ⟨b1, o1, none⟩ = some (.int .i64 t.kind) := by
        have := (ht1 0 (by simp)).kind
        rwa [Nat.zero_mul, Nat.add_zero] at this
      have hkz : (0 : Int) < (n : Int) := by omega
      have hkd : decide (0 < n) = true := by simp; omega
      have hkn : ¬ n = 0 := by omega
      have hM := Lib.hid h2
      unfold maxLen at h2
      by_cases hsp : t.kind = 20
      · have hsz : (t.kind == 20) = true := by rw [beq_iff_eq]; exact hsp
        obtain ⟨a2, s1, s2, s3, s4, s5⟩ := sl_from (some ⟨b1, o1, none⟩) (t :: r) cap n 1 hn 1 rfl (by omega) h1 hM.out
        have HS5 := Lib.hid s5
        have C := Lib.hid (IH.out a2 r (n - 1) (cap - 1) w (by simpa using s2) (by omega) s3 s4 (s5 w hT0))
        rw [trm_sp hsp]
        clear hn hd hT0 ht1 s2 s5 hsp
        go_enter Try.func43, Try.ntmps43
        go_wp2_with fail
        refine C.out.mono ?_
        rintro e w1 ⟨⟨a3, c3, rfl, g1, g2, g3⟩, rfl⟩
        have HG := Lib.hid g3
        clear g3
        go_wp2_with fail
        go_ret
        exact ⟨⟨a3, c3, rfl, g1, g2, fun W hW => HG.out W (HS5.out W hW)⟩, rfl⟩
      · have hsz : (t.kind == 20) = false := by rw [beq_eq_false_iff_ne]; exact hsp
        obtain ⟨j, u, hj, huj, hlast, hdl⟩ := last_split (l := t :: r) (by simp)
        have hjl : j < (t :: r).length := by omega
        have hue : (t :: r)[j] = u := by rw [List.getElem?_eq_getElem hjl] at huj; exact Option.some.inj huj
        have hmt : t :: r = (t :: r).take j ++ [u] := by
          have h1 : (t :: r).take (j + 1) = (t :: r).take j ++ [(t :: r)[j]] := List.take_succ_eq_append_getElem hjl
          rw [List.take_of_length_le (by omega), hue] at h1
          exact h1
        have d2 : w.cell? ⟨b1, o1 + j * 3, none⟩ = some (.int .i64 u.kind) := by
          have := (ht1 j hjl).kind
          rwa [hue] at this
        have hjn : n = j + 1 := by omega
        have hw : IntKind.i64.wrap ((n : Int) - 1) = (j : Int) := by
          have e : (n : Int) - 1 = (j : Int) := by omega
          rw [e]; exact IntWalk.i64_in _ (by omega)
        have hjz : (j : Int) < (n : Int) := by omega
        have hjk2 : j < n := by omega
        have hj0 : (0 : Int) ≤ (j : Int) := by omega
        have hjc : (j : Int) ≤ (cap : Int) := by omega
        by_cases hup : u.kind = 20
        · have huz : (u.kind == 20) = true := by rw [beq_iff_eq]; exact hup
          obtain ⟨a2, s1, s2, s3, s5⟩ := sl_to (some ⟨b1, o1, none⟩) (t :: r) cap n j hn (j : Int) rfl (by omega) h1 hM.out
          have HS5 := Lib.hid s5
          have C := Lib.hid (IH.out a2 ((t :: r).take j) j cap w s2 (by omega) s3 hM.out (s5 w hT0))
          have htr : trm (t :: r) = trm ((t :: r).take j) := by
            cases j with
            | zero => simp at hmt; rw [hmt.1] at hsp; exact absurd hup hsp
            | succ j =>
              rw [List.take_succ_cons] at hmt ⊢
              have := trm_last (m := r.take j) hsp hup
              rw [← hmt] at this
              exact this
          rw [htr]
          clear hn hd hT0 ht1 s2 s5 hsp hup hmt hue huj hlast hdl hjl hj htr hjn
          generalize t.kind = tk at *
          generalize u.kind = uk at *
          go_enter Try.func43, Try.ntmps43
          go_wp2_with fail
          refine C.out.mono ?_
          rintro e w1 ⟨⟨a3, c3, rfl, g1, g2, g3⟩, rfl⟩
          have HG := Lib.hid g3
          clear g3
          go_wp2_with fail
          go_ret
          exact ⟨⟨a3, c3, rfl, g1, g2, fun W hW => HG.out W (HS5.out W hW)⟩, rfl⟩
        · have huz : (u.kind == 20) = false := by rw [beq_eq_false_iff_ne]; exact hup
          have htr : trm (t :: r) = t :: r := trm_keep hsp hup hmt
          rw [htr]
          have HF := Lib.hid hn
          clear hn hd hT0 ht1 hsp hup hmt hue huj hlast hdl hjl hj htr hjn
          generalize t.kind = tk at *
          generalize u.kind = uk at *
          go_enter Try.func43, Try.ntmps43
          go_wp2_with fail
          go_ret
          exact ⟨⟨_, cap, by rw [HF.out]; rfl, by rw [HF.out]; exact h1, hM.out, fun W hW => hW⟩, rfl⟩
theorem refTrim_any (a : Option Addr) (l : List Tok) (cap : Nat) (w : World) (h1 : l.length ≤ cap) (h2 : cap ≤ maxLen) (hT : Tks w a l) :
    Calls Try.prog 43 #[.slice a l.length cap] w fun e w' => SlPc a l (trm l) e ∧ w' = w := refTrim_nat l.length a l l.length cap w rfl (Nat.le_refl _) h1 h2 hT

end Go.Proofs.Ytoaenlbbochjhaa
