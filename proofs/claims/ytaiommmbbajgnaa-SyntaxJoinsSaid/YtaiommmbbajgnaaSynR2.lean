/- Layer 6's reference: Trim, Loud, Broken, Top. -/
import Derived.Test.YtaiommmbbajgnaaSynR1
import Derived.Test.YtaiommmbbajgnaaSynW5
namespace Go.Proofs.Ytaiommmbbajgnaa
open Go.RowKit TreN LexP FixP SynP
set_option linter.unusedVariables false

theorem isSp_t {t : Tok} (h : t.kind = 20) : isSp t = true := by unfold isSp; rw [decide_eq_true h]
theorem isSp_f {t : Tok} (h : ¬ t.kind = 20) : isSp t = false := by unfold isSp; rw [decide_eq_false h]
theorem bs_sp {t : Tok} {r : List Tok} (h : t.kind = 20) : bs (t :: r) = bs r := by
  show (t :: r).dropWhile isSp = r.dropWhile isSp
  rw [List.dropWhile_cons, if_pos (isSp_t h)]
theorem bs_no {t : Tok} {r : List Tok} (h : ¬ t.kind = 20) : bs (t :: r) = t :: r := by
  show (t :: r).dropWhile isSp = t :: r
  rw [List.dropWhile_cons, if_neg (by rw [isSp_f h]; simp)]
theorem trm_sp {t : Tok} {r : List Tok} (h : t.kind = 20) : trm (t :: r) = trm r := by unfold trm; rw [bs_sp h]
theorem es_sp {m : List Tok} {u : Tok} (h : u.kind = 20) : es (m ++ [u]) = es m := by rw [es_snoc, if_pos (isSp_t h)]
theorem es_no {m : List Tok} {u : Tok} (h : ¬ u.kind = 20) : es (m ++ [u]) = m ++ [u] := by rw [es_snoc, if_neg (by rw [isSp_f h]; simp)]
theorem trm_last {t u : Tok} {m : List Tok} (h : ¬ t.kind = 20) (h2 : u.kind = 20) : trm (t :: m ++ [u]) = trm (t :: m) := by
  unfold trm
  rw [List.cons_append, bs_no h, bs_no h, ← List.cons_append, es_sp h2]
theorem trm_keep {t u : Tok} {r m : List Tok} (h : ¬ t.kind = 20) (h2 : ¬ u.kind = 20) (e : t :: r = m ++ [u]) : trm (t :: r) = t :: r := by
  unfold trm
  rw [bs_no h, e, es_no h2]

/-- what a call answers: a piece of its list, whatever the world -/
def SlPc (a : Option Addr) (l m : List Tok) (e : Ending) : Prop := ∃ a2 c2, e = .returned (.slice a2 m.length c2) ∧ m.length ≤ c2 ∧ c2 ≤ maxLen ∧ ∀ W : World, Tks W a l → Tks W a2 m

set_option maxRecDepth 100000 in
set_option maxHeartbeats 2000000 in
theorem refTrim_nat : ∀ (d : Nat) (a : Option Addr) (l : List Tok) (n cap : Nat) (w : World), l.length = n → n ≤ d → n ≤ cap → cap ≤ maxLen → Tks w a l →
    Calls Try.prog 36 #[.slice a n cap] w fun e w' => SlPc a l (trm l) e ∧ w' = w := by
  intro d
  induction d with
  | zero =>
    intro a l n cap w hn hd h1 h2 hT
    have h0 : n = 0 := by omega
    subst h0
    have hl : l = [] := List.eq_nil_of_length_eq_zero hn
    subst hl
    have HF := Lib.hid h2
    clear h1 h2 hT hn hd
    go_enter Try.func36, Try.ntmps36
    go_wp2_with fail
    go_ret
    exact ⟨⟨a, cap, rfl, Nat.zero_le _, HF.out, fun W hW => hW⟩, rfl⟩
  | succ d ih =>
    intro a l n cap w hn hd h1 h2 hT
    have IH := Lib.hid ih
    clear ih
    cases l with
    | nil =>
      have h0 : n = 0 := hn.symm
      subst h0
      have HF := Lib.hid h2
      clear h1 h2 hT hn hd
      go_enter Try.func36, Try.ntmps36
      go_wp2_with fail
      go_ret
      exact ⟨⟨a, cap, rfl, Nat.zero_le _, HF.out, fun W hW => hW⟩, rfl⟩
    | cons t r =>
      have hT0 := hT
      rcases hT with h | ⟨b1, o1, rfl, hb1, ht1⟩
      · cases h
      have hnp : 0 < n := by rw [← hn]; simp
      have d1 : w.cell? ⟨b1, o1, none⟩ = some (.int .i64 t.kind) := by
        have := (ht1 0 (by simp)).kind
        rwa [Nat.zero_mul, Nat.add_zero] at this
      have hkz : (0 : Int) < (n : Int) := by omega
      have hkd : decide (0 < n) = true := by simp; omega
      have hkn : ¬ n = 0 := by omega
      have hM := Lib.hid h2
      unfold maxLen at h2
      by_cases hsp : t.kind = 20
      · have hsz : (t.kind == 20) = true := by rw [beq_iff_eq]; exact hsp
        obtain ⟨a2, s1, s2, s3, s4, s5⟩ := sl_from (some ⟨b1, o1, none⟩) (t :: r) cap n 1 hn 1 rfl (by omega) h1 hM.out
        have HS5 := Lib.hid s5
        have C := Lib.hid (IH.out a2 r (n - 1) (cap - 1) w (by simpa using s2) (by omega) s3 s4 (s5 w hT0))
        rw [trm_sp hsp]
        clear hn hd hT0 ht1 s2 s5 hsp
        go_enter Try.func36, Try.ntmps36
        go_wp2_with fail
        refine C.out.mono ?_
        rintro e w1 ⟨⟨a3, c3, rfl, g1, g2, g3⟩, rfl⟩
        have HG := Lib.hid g3
        clear g3
        go_wp2_with fail
        go_ret
        exact ⟨⟨a3, c3, rfl, g1, g2, fun W hW => HG.out W (HS5.out W hW)⟩, rfl⟩
      · have hsz : (t.kind == 20) = false := by rw [beq_eq_false_iff_ne]; exact hsp
        obtain ⟨j, u, hj, huj, hlast, hdl⟩ := last_split (l := t :: r) (by simp)
        have hjl : j < (t :: r).length := by omega
        have hue : (t :: r)[j] = u := by rw [List.getElem?_eq_getElem hjl] at huj; exact Option.some.inj huj
        have hmt : t :: r = (t :: r).take j ++ [u] := by
          have h1 : (t :: r).take (j + 1) = (t :: r).take j ++ [(t :: r)[j]] := List.take_succ_eq_append_getElem hjl
          rw [List.take_of_length_le (by omega), hue] at h1
          exact h1
        have d2 : w.cell? ⟨b1, o1 + j * 3, none⟩ = some (.int .i64 u.kind) := by
          have := (ht1 j hjl).kind
          rwa [hue] at this
        have hjn : n = j + 1 := by omega
        have hw : IntKind.i64.wrap ((n : Int) - 1) = (j : Int) := by
          have e : (n : Int) - 1 = (j : Int) := by omega
          rw [e]; exact IntWalk.i64_in _ (by omega)
        have hjz : (j : Int) < (n : Int) := by omega
        have hjk2 : j < n := by omega
        have hj0 : (0 : Int) ≤ (j : Int) := by omega
        have hjc : (j : Int) ≤ (cap : Int) := by omega
        by_cases hup : u.kind = 20
        · have huz : (u.kind == 20) = true := by rw [beq_iff_eq]; exact hup
          obtain ⟨a2, s1, s2, s3, s5⟩ := sl_to (some ⟨b1, o1, none⟩) (t :: r) cap n j hn (j : Int) rfl (by omega) h1 hM.out
          have HS5 := Lib.hid s5
          have C := Lib.hid (IH.out a2 ((t :: r).take j) j cap w s2 (by omega) s3 hM.out (s5 w hT0))
          have htr : trm (t :: r) = trm ((t :: r).take j) := by
            cases j with
            | zero => simp at hmt; rw [hmt.1] at hsp; exact absurd hup hsp
            | succ j =>
              rw [List.take_succ_cons] at hmt ⊢
              have := trm_last (m := r.take j) hsp hup
              rw [← hmt] at this
              exact this
          rw [htr]
          clear hn hd hT0 ht1 s2 s5 hsp hup hmt hue huj hlast hdl hjl hj htr hjn
          generalize t.kind = tk at *
          generalize u.kind = uk at *
          go_enter Try.func36, Try.ntmps36
          go_wp2_with fail
          refine C.out.mono ?_
          rintro e w1 ⟨⟨a3, c3, rfl, g1, g2, g3⟩, rfl⟩
          have HG := Lib.hid g3
          clear g3
          go_wp2_with fail
          go_ret
          exact ⟨⟨a3, c3, rfl, g1, g2, fun W hW => HG.out W (HS5.out W hW)⟩, rfl⟩
        · have huz : (u.kind == 20) = false := by rw [beq_eq_false_iff_ne]; exact hup
          have htr : trm (t :: r) = t :: r := trm_keep hsp hup hmt
          rw [htr]
          have HF := Lib.hid hn
          clear hn hd hT0 ht1 hsp hup hmt hue huj hlast hdl hjl hj htr hjn
          generalize t.kind = tk at *
          generalize u.kind = uk at *
          go_enter Try.func36, Try.ntmps36
          go_wp2_with fail
          go_ret
          exact ⟨⟨_, cap, by rw [HF.out]; rfl, by rw [HF.out]; exact h1, hM.out, fun W hW => hW⟩, rfl⟩
theorem refTrim_any (a : Option Addr) (l : List Tok) (cap : Nat) (w : World) (h1 : l.length ≤ cap) (h2 : cap ≤ maxLen) (hT : Tks w a l) :
    Calls Try.prog 36 #[.slice a l.length cap] w fun e w' => SlPc a l (trm l) e ∧ w' = w := refTrim_nat l.length a l l.length cap w rfl (Nat.le_refl _) h1 h2 hT

set_option maxRecDepth 100000 in
set_option maxHeartbeats 1000000 in
theorem refLoud_any (t : Tok) (w : World) : Calls Try.prog 37 #[t.val] w fun e w' => e = .returned (.bool (excl t)) ∧ Below w.heap.size w w' := by
  obtain ⟨k, x, n⟩ := t
  have hx : excl ⟨k, x, n⟩ = (decide (k = 19) && decide (x = [33])) := rfl
  rw [hx]
  have hsx : ((⟨x.toArray⟩ : ByteArray).toList == (⟨#[33]⟩ : ByteArray).toList) = decide (x = [33]) := str_beq x [33]
  obtain ⟨sx, hsx2⟩ : ∃ b, decide (x = [33]) = b := ⟨_, rfl⟩
  rw [hsx2]
  have HSX : Hid ((x == [33]) = sx) := Lib.hid (by rw [← hsx2]; exact Bool.eq_iff_iff.2 (by simp))
  clear hsx
  unfold LexP.Tok.val
  have hb : Below w.heap.size w (w.alloc (.cells #[.int .i64 k, .string ⟨x.toArray⟩, .int .i64 n] 29)) := (Below.refl _ _).alloc (Nat.le_refl _) _
  have HB := Lib.hid hb
  clear hb hx hsx2
  by_cases hk : k = 19
  · subst hk
    rw [decide_eq_true rfl, Bool.true_and]
    go_enter Try.func37, Try.ntmps37
    go_wp2_with fail
    go_ret
    exact ⟨ret_bool HSX.out, HB.out⟩
  · have hkz : (k == 19) = false := by rw [beq_eq_false_iff_ne]; exact hk
    rw [decide_eq_false hk, Bool.false_and]
    go_enter Try.func37, Try.ntmps37
    go_wp2_with fail
    go_ret
    exact ⟨rfl, HB.out⟩

set_option maxRecDepth 100000 in
set_option maxHeartbeats 2000000 in
theorem refBroken_any (a : Option Addr) (l : List Tok) (cap : Nat) (w : World) (hl : l.length ≤ 90000) (hT : Tks w a l) :
    Calls Try.prog 38 #[.slice a l.length cap] w fun e w' => e = .returned (.bool (spoS l)) ∧ Below w.heap.size w w' := by
  have hsp : spoS l = (l.any bad6 || decide (fst excl l < l.length)) := rfl
  obtain ⟨R, hR⟩ : ∃ b, spoS l = b := ⟨_, rfl⟩
  rw [hR]
  rw [hR] at hsp
  have HSP := Lib.hid hsp
  have HT := Lib.hid hT
  have HM := Lib.hid fun (k : Nat) (hk : k < l.length) W (hW : Below w.heap.size w W) => refMatch_nat a l l.length cap rfl (by omega) (l.length - k) k W hk (Nat.le_refl _) (hT.below hW)
  obtain ⟨n, hn⟩ : ∃ n, l.length = n := ⟨_, rfl⟩
  have HN := Lib.hid hn
  rw [hn] at hl ⊢
  clear hT hsp hR hn
  go_enter Try.func38, Try.ntmps38
  go_wp2_with fail
  go_loopw [3] (fun vi wr => ∃ k : Nat, vi = .int .i64 (k : Int) ∧ k ≤ n ∧ wr = w ∧ Hid (∀ j (hj : j < l.length), j < k → bad6 l[j] = false)) (fun vi _ => n - (intOf vi).toNat)
  case atStart => exact ⟨0, rfl, by omega, rfl, fun j hj h => by omega⟩
  case round =>
    obtain ⟨k, rfl, hk, rfl, HJ⟩ := hrel
    by_cases hlt : k < n
    · have hltz : (k : Int) < (n : Int) := by omega
      have hkl : k < l.length := by have := HN.out; omega
      obtain ⟨b1, o1, rfl, g1, k1⟩ := HT.out.get hkl
      obtain ⟨t, ht⟩ : ∃ t, l[k] = t := ⟨_, rfl⟩
      rw [ht] at k1
      have d1 : wr.cell? ⟨b1, o1 + k * 3, none⟩ = some (.int .i64 t.kind) := k1.kind
      have HTT := Lib.hid ht
      obtain ⟨tk, htk⟩ : ∃ x, t.kind = x := ⟨_, rfl⟩
      have HTK := Lib.hid htk
      rw [htk] at d1
      clear k1 ht htk
      by_cases hb : tk = 6
      · have hbz : (tk == 6) = true := by rw [beq_iff_eq]; exact hb
        have HF : Hid (R = true) := Lib.hid (by
          have h1 : l.any bad6 = true := List.any_eq_true.2 ⟨t, by rw [← HTT.out]; exact List.getElem_mem hkl, by unfold bad6; rw [HTK.out, decide_eq_true hb]⟩
          have := HSP.out; rw [h1] at this; simpa using this)
        clear hb
        go_wp2_with fail
        go_ret
        exact ⟨by rw [HF.out]; rfl, Below.refl _ _⟩
      · have hbz : (tk == 6) = false := by rw [beq_eq_false_iff_ne]; exact hb
        have HJ2 : Hid (∀ j (hj : j < l.length), j < k + 1 → bad6 l[j] = false) := Lib.hid (fun j hj h => by
          by_cases c : j = k
          · subst c; rw [HTT.out]; unfold bad6; rw [HTK.out, decide_eq_false hb]
          · exact HJ.out j hj (by omega))
        clear hb
        go_wp2_with fail
        go_roundw
        case rel => exact ⟨k + 1, by go_num, by omega, trivial, HJ2⟩
        case measure => simp [intOf]; omega
    · have hltz : ¬ (k : Int) < (n : Int) := by omega
      have hkn : k = n := by omega
      have HA : Hid (R = decide (fst excl l < n)) := Lib.hid (by
        have h1 : l.any bad6 = false := by
          rw [List.any_eq_false]
          intro t ht
          obtain ⟨j, hj, rfl⟩ := List.getElem_of_mem ht
          rw [HJ.out j hj (by have := HN.out; omega)]; simp
        have h2 := HSP.out
        rw [h1, Bool.false_or, HN.out] at h2
        exact h2)
      clear HJ
      go_wp2_with fail
      go_loopw [4] (fun vi w2 => ∃ k : Nat, vi = .int .i64 (k : Int) ∧ k ≤ n + 1 ∧ Hid (Below wr.heap.size wr w2) ∧ Hid (FsAt excl l k)) (fun vi _ => n + 1 - (intOf vi).toNat)
      case atStart => exact ⟨0, rfl, by omega, Lib.hid (Below.refl _ _), Lib.hid (FsAt.start excl l)⟩
      case round =>
        obtain ⟨k, rfl, hk, HB, HA2⟩ := hrel
        by_cases hlt : k < n
        · have hltz : (k : Int) < (n : Int) := by omega
          have hkl : k < l.length := by have := HN.out; omega
          obtain ⟨b1, o1, rfl, g1, k1⟩ := HT.out.get hkl
          obtain ⟨t, ht⟩ : ∃ t, l[k] = t := ⟨_, rfl⟩
          rw [ht] at k1
          have k2 := k1.below HB.out g1
          have C := fun W => refLoud_any t W
          have CC := Lib.hid C
          unfold LexP.Tok.val at CC
          have d1 := k2.kind
          have d2 := k2.text
          have d3 := k2.n
          have HTT := Lib.hid ht
          have hbd := mtc_bd hkl
          have hln := HN.out
          clear k1 k2 C ht
          cases hpt : excl t with
          | true =>
            rw [hpt] at CC
            have HR : Hid (fst excl l = k) := Lib.hid (HA2.out.hit hkl (by rw [HTT.out]; exact hpt))
            clear hpt
            go_wp2_with fail
            refine (CC.out _).mono ?_
            rintro e w2 ⟨rfl, hb⟩
            have HB2 := Lib.hid (HB.out.trans (hb.mono HB.out.size))
            clear hb CC
            go_wp2_with fail
            go_ret
            refine ⟨?_, HB2.out⟩
            rw [HA.out, HR.out, decide_eq_true hlt]; rfl
          | false =>
            rw [hpt] at CC
            have HR : Hid (FsAt excl l (mtc l k + 1)) := Lib.hid (HA2.out.step hkl (by rw [HTT.out]; exact hpt))
            obtain ⟨m, hm⟩ : ∃ m, mtc l k = m := ⟨_, rfl⟩
            have MM := Lib.hid (HM.out k hkl)
            rw [hm, hln] at MM
            rw [hm] at hbd HR
            have hw : IntKind.i64.wrap ((m : Int) + 1) = ((m + 1 : Nat) : Int) := by
              have e : (m : Int) + 1 = ((m + 1 : Nat) : Int) := by omega
              rw [e]; exact IntWalk.i64_in _ (by omega)
            clear hpt hm
            go_wp2_with fail
            refine (CC.out _).mono ?_
            rintro e w2 ⟨rfl, hb⟩
            have HB2 := Lib.hid (HB.out.trans (hb.mono HB.out.size))
            clear hb CC
            go_wp2_with fail
            refine (MM.out _ HB2.out).mono ?_
            rintro e w3 ⟨rfl, q, rfl⟩
            have HB3 := Lib.hid (below_drewN2 HB2.out q)
            clear MM
            go_wp2_with fail
            go_roundw
            case rel => exact ⟨m + 1, by go_num, by omega, HB3, HR⟩
            case measure => simp [intOf]; omega
        · have hltz : ¬ (k : Int) < (n : Int) := by omega
          have HR : Hid (fst excl l = n) := Lib.hid (by rw [HA2.out.over (by have := HN.out; omega), HN.out])
          go_wp2_with fail
          go_ret
          refine ⟨?_, HB.out⟩
          rw [HA.out, HR.out, decide_eq_false (by omega)]; rfl
end Go.Proofs.Ytaiommmbbajgnaa
