/- Joined texts: SynWB SynWC SynWE. -/
import Derived.Test.YtfbfndknhabmhaaGreatSynW9
import Derived.Test.YtfbfndknhabmhaaGreatSynW6
import Derived.Test.YtfbfndknhabmhaaGreatSynU1
namespace Go.Proofs.YtfbfndknhabmhaaGreat
open Go.RowKit TreN LexP FixP SynP
set_option linter.unusedVariables false

/-- a rule in memory -/
structure RawV where
  r : Rul
  ah : Option Addr
  ch : Nat
  ab : Option Addr
  cb : Nat
def RawV.cells (x : RawV) : List Value := [.string ⟨x.r.att.toArray⟩, .slice x.ah x.r.head.length x.ch, .slice x.ab x.r.body.length x.cb, .bool x.r.block]
def rcs : List RawV → List Value
  | [] => []
  | x :: r => .string ⟨x.r.att.toArray⟩ :: .slice x.ah x.r.head.length x.ch :: .slice x.ab x.r.body.length x.cb :: .bool x.r.block :: rcs r
theorem rcs_length : ∀ l, (rcs l).length = l.length * 4
  | [] => rfl
  | x :: l => by simp only [rcs, List.length_cons, rcs_length l]; omega
theorem rcs_append : ∀ l m, rcs (l ++ m) = rcs l ++ rcs m
  | [], m => rfl
  | x :: l, m => by simp only [List.cons_append, rcs, rcs_append l m]
theorem rcs_one : ∀ (l : List RawV) (v : Value), v ∈ rcs l → v.oneCell' = true
  | [], v, h => by cases h
  | x :: l, v, h => by
    simp only [rcs, List.mem_cons] at h
    rcases h with rfl | rfl | rfl | rfl | h
    · rfl
    · rfl
    · rfl
    · rfl
    · exact rcs_one l v h
/-- a list that lies apart from the row -/
def PIn (w : World) (lo : Nat) (v : Value) (a : Option Addr) (c : Nat) (l : List Tok) : Prop := l.length ≤ c ∧ c ≤ maxLen ∧ (l = [] ∨ ∃ b o, a = some ⟨b, o, none⟩ ∧ lo ≤ b ∧ v.ownBlock ≠ some b ∧ b < w.heap.size ∧ TksAt w b o l)
theorem PIn.tks {w : World} {lo : Nat} {v : Value} {a : Option Addr} {c : Nat} {l : List Tok} (h : PIn w lo v a c l) : Tks w a l := by
  rcases h.2.2 with h | ⟨b, o, h1, _, _, h4, h5⟩
  · exact Or.inl h
  · exact Or.inr ⟨b, o, h1, h4, h5⟩
theorem PIn.below {w w' : World} {lo : Nat} {v : Value} {a : Option Addr} {c : Nat} {l : List Tok} (h : PIn w lo v a c l) (hb : Below w.heap.size w w') : PIn w' lo v a c l := by
  obtain ⟨c1, c2, h⟩ := h
  refine ⟨c1, c2, ?_⟩
  rcases h with h | ⟨b, o, h1, h2, h3, h4, h5⟩
  · exact Or.inl h
  · exact Or.inr ⟨b, o, h1, h2, h3, Nat.lt_of_lt_of_le h4 hb.size, h5.below hb h4⟩
theorem PIn.fresh {w : World} {lo B : Nat} {v : Value} {a : Option Addr} {c : Nat} {l : List Tok} (h : FrT lo w a c l) (hB : B ≤ lo) (hv : ∀ q, v.ownBlock = some q → q < lo) : PIn w B v a c l := by
  obtain ⟨c1, c2, h⟩ := h
  refine ⟨c1, c2, ?_⟩
  rcases h with h | ⟨b, o, h1, h2, h4, h5⟩
  · exact Or.inl h
  · exact Or.inr ⟨b, o, h1, by omega, fun e => by have := hv b e; omega, h4, h5⟩
theorem PIn.moved {w w' : World} {lo g : Nat} {v v2 : Value} {a : Option Addr} {c : Nat} {l : List Tok} (h : PIn w lo v a c l) (hg : w.grownBy w' v.ownBlock) (hv : v2.ownBlock = some g) (hgn : v.ownBlock = some g ∨ w.heap.size ≤ g) : PIn w' lo v2 a c l := by
  obtain ⟨c1, c2, h⟩ := h
  refine ⟨c1, c2, ?_⟩
  rcases h with h | ⟨b, o, h1, h2, h3, h4, h5⟩
  · exact Or.inl h
  · have hne : g ≠ b := by
      rcases hgn with q | q
      · intro e; subst e; exact h3 q
      · omega
    have hcell : ∀ j, w'.cell? ⟨b, j, none⟩ = w.cell? ⟨b, j, none⟩ := fun j => by
      simp only [World.cell?]
      rw [hg.block b h4 (fun e => h3 e.symm)]
    refine Or.inr ⟨b, o, h1, h2, by rw [hv]; intro e; injection e with e; exact hne e, Nat.lt_of_lt_of_le h4 hg.size, fun i hi => ?_⟩
    have h6 := h5 i hi
    exact ⟨(hcell _).trans h6.kind, (hcell _).trans h6.text, (hcell _).trans h6.n⟩
def RIn (w : World) (lo : Nat) (v : Value) (x : RawV) : Prop := PIn w lo v x.ah x.ch x.r.head ∧ PIn w lo v x.ab x.cb x.r.body
end Go.Proofs.YtfbfndknhabmhaaGreat

namespace Go.Proofs.YtfbfndknhabmhaaGreat
open Go.RowKit TreN LexP FixP SynP
set_option linter.unusedVariables false

theorem rulT_pos {att : List UInt8} {ab : Bool} {l : List Tok} (h : 0 < l.length) : 1 ≤ (rulT att ab l).2 := by
  have hb := fst_bd (stopB ab) l
  by_cases he : fst (stopB ab) l = l.length
  · rw [rulT_end he]; exact h
  · have hlt : fst (stopB ab) l < l.length := by omega
    by_cases hk : (l[fst (stopB ab) l]).kind = 17
    · rw [rulT_open rfl hlt hk]; show 1 ≤ min _ _; omega
    · rw [rulT_semi rfl hlt hk]; show 1 ≤ _ + 1; omega
theorem rulS_pos (t : Tok) (r : List Tok) : 1 ≤ (rulS (t :: r)).2 := by
  by_cases hk : t.kind = 3
  · have : rulS (t :: r) = ((rulT t.text true r).1, (rulT t.text true r).2 + 1) := if_pos hk
    rw [this]; show 1 ≤ _ + 1; omega
  · have : rulS (t :: r) = rulT [] false (t :: r) := if_neg hk
    rw [this]; exact rulT_pos (by simp)
/-- one rule of a list that begins with no blank -/
def ruls1 (t : Tok) (r : List Tok) : List Rul := if isAt (t :: r) || (rulS (t :: r)).1.block then [(rulS (t :: r)).1] else []
theorem rusF_nil {f : Nat} {l : List Tok} (h : bs l = []) : rusF f l = [] := by
  cases f with
  | zero => rfl
  | succ f => unfold rusF; rw [h]
theorem rusF_cons {f : Nat} {l : List Tok} {t : Tok} {r : List Tok} (h : bs l = t :: r) : rusF (f + 1) l = ruls1 t r ++ rusF f ((t :: r).drop (rulS (t :: r)).2) := by
  rw [rusF, h]; rfl
theorem rusF_same : ∀ (f : Nat) (l : List Tok), l.length ≤ f → ∀ g, l.length ≤ g → rusF f l = rusF g l
  | 0, l, hl, g, hg => by
    have : l = [] := List.eq_nil_of_length_eq_zero (by omega)
    subst this
    rw [rusF_nil rfl, rusF_nil rfl]
  | f + 1, l, hl, g, hg => by
    cases hb : bs l with
    | nil => rw [rusF_nil hb, rusF_nil hb]
    | cons t r =>
      have h1 := bs_len l
      rw [hb] at h1
      have h2 := rulS_pos t r
      have h3 : ((t :: r).drop (rulS (t :: r)).2).length ≤ l.length - 1 := by rw [List.length_drop]; omega
      have h4 : 1 ≤ l.length := by simp at h1; omega
      obtain ⟨g', rfl⟩ : ∃ g', g = g' + 1 := ⟨g - 1, by omega⟩
      rw [rusF_cons hb, rusF_cons hb, rusF_same f _ (by omega) g' (by omega)]
def rusS (l : List Tok) : List Rul := rusF l.length l
theorem rusS_nil {l : List Tok} (h : bs l = []) : rusS l = [] := rusF_nil h
theorem rusS_cons {l : List Tok} {t : Tok} {r : List Tok} (h : bs l = t :: r) : rusS l = ruls1 t r ++ rusS ((t :: r).drop (rulS (t :: r)).2) := by
  have h1 := bs_len l
  rw [h] at h1
  have h2 := rulS_pos t r
  have h3 : ((t :: r).drop (rulS (t :: r)).2).length ≤ l.length - 1 := by rw [List.length_drop]; omega
  have h4 : 1 ≤ l.length := by simp at h1; omega
  obtain ⟨g, hg⟩ : ∃ g, l.length = g + 1 := ⟨l.length - 1, by omega⟩
  unfold rusS
  rw [hg, rusF_cons h, rusF_same g _ (by omega) _ (Nat.le_refl _)]

end Go.Proofs.YtfbfndknhabmhaaGreat

namespace Go.Proofs.YtfbfndknhabmhaaGreat
open Go.RowKit TreN LexP FixP SynP
set_option linter.unusedVariables false

set_option maxRecDepth 100000 in
set_option maxHeartbeats 1000000 in
theorem behindSpaces_rel (a : Option Addr) (l : List Tok) (cap : Nat) (w : World) (h1 : l.length ≤ cap) (h2 : cap ≤ maxLen) (hT : Tks w a l) :
    Calls Tryz.prog 97 #[.slice a l.length cap] w fun e w' => (∃ a2 cap2, e = .returned (.slice a2 (bs l).length cap2) ∧ (bs l).length ≤ cap2 ∧ cap2 ≤ maxLen ∧ ∀ W, Tks W a l → Tks W a2 (bs l)) ∧ w = w' := by
  have hd : ∀ k, (l.take k).length = k → (∀ t ∈ l.take k, isSp t = true) → bs l = bs (l.drop k) := fun k _ h => by
    have e : l = l.take k ++ l.drop k := (List.take_append_drop k l).symm
    unfold bs
    conv => lhs; rw [e]
    rw [List.dropWhile_append_of_pos h]
  obtain ⟨n, hn⟩ : ∃ n, l.length = n := ⟨_, rfl⟩
  have HT := Lib.hid hT
  have HN := Lib.hid hn
  rw [hn] at h1 ⊢
  obtain ⟨bl, hbl⟩ : ∃ b, bs l = b := ⟨_, rfl⟩
  have HBL := Lib.hid hbl
  rw [hbl]
  have H2 := Lib.hid h2
  unfold maxLen at h2
  clear hT hd hn hbl
  go_enter Tryz.func97, Tryz.ntmps97
  go_wp2_with fail
  go_loopw [0] (fun v wr => ∃ (a1 : Option Addr) (m : List Tok) (k c1 : Nat), v = .slice a1 k c1 ∧ k ≤ c1 ∧ c1 ≤ cap ∧ wr = w ∧ Hid (m.length = k ∧ (Tks w a1 m ∧ ∀ W, Tks W a l → Tks W a1 m) ∧ bs m = bl)) (fun v _ => lenV v)
  case atStart => exact ⟨a, l, n, cap, rfl, h1, Nat.le_refl _, rfl, HN.out, ⟨HT.out, fun W h => h⟩, HBL.out⟩
  case round =>
    obtain ⟨a1, m, k, c1, rfl, hk, hc, rfl, HM⟩ := hrel
    obtain ⟨hm1, ⟨hm2, hm4⟩, hm3⟩ := HM.out
    have HM4 := Lib.hid hm4
    clear hm4
    cases m with
    | nil =>
      have hk0 : k = 0 := hm1.symm
      subst hk0
      have hbl0 : bl = [] := hm3.symm
      subst hbl0
      have HT2 := HM4
      have hcm : c1 ≤ maxLen := by unfold maxLen; omega
      have HCM := Lib.hid hcm
      clear hm1 hm2 hm3 hcm
      go_wp2_with fail
      go_ret
      exact ⟨⟨a1, c1, rfl, by simp, HCM.out, HT2.out⟩, rfl⟩
    | cons t r =>
      have hk0 : 0 < k := by rw [← hm1]; simp
      have hkz : (0 : Int) < (k : Int) := by omega
      have hkd : decide (0 < k) = true := by simp; omega
      have hkn : ¬ k = 0 := by omega
      rcases hm2 with h | ⟨b1, o1, rfl, hb1, ht1⟩
      · cases h
      have d1 : wr.cell? ⟨b1, o1, none⟩ = some (.int .i64 t.kind) := by
        have := (ht1 0 (by simp)).kind
        rwa [Nat.zero_mul, Nat.add_zero] at this
      by_cases hsp : t.kind = 20
      · have hsz : (t.kind == 20) = true := by rw [beq_iff_eq]; exact hsp
        have hbr : bs r = bl := by
          rw [← hm3]
          show r.dropWhile isSp = (t :: r).dropWhile isSp
          rw [List.dropWhile_cons, if_pos (by unfold isSp; rw [decide_eq_true hsp])]
        obtain ⟨a2, s1, s2, s3, s4, s5⟩ := sl_from (some ⟨b1, o1, none⟩) (t :: r) c1 k 1 hm1 1 rfl (by omega) hk (by unfold maxLen; omega)
        have hM : Hid (r.length = k - 1 ∧ (Tks wr a2 r ∧ ∀ W, Tks W a l → Tks W a2 r) ∧ bs r = bl) := Lib.hid ⟨by simpa using s2, ⟨s5 _ (Or.inr ⟨b1, o1, rfl, hb1, ht1⟩), fun W h => s5 W (HM4.out W h)⟩, hbr⟩
        clear hm1 hm3 ht1 s2 s5 s4 hbr hsp
        go_wp2_with fail
        go_roundw
        case rel => exact ⟨a2, r, k - 1, c1 - 1, by go_num, s3, by omega, trivial, hM⟩
        case measure => simp [lenV]; omega
      · have hsz : (t.kind == 20) = false := by rw [beq_eq_false_iff_ne]; exact hsp
        have hbr : bl = t :: r := by
          rw [← hm3]
          show (t :: r).dropWhile isSp = _
          rw [List.dropWhile_cons, if_neg (by unfold isSp; rw [decide_eq_false hsp]; simp)]
        have HBR := Lib.hid hbr
        have HL : Hid (bl.length = k) := Lib.hid (by rw [hbr]; exact hm1)
        have HT2 : Hid (∀ W, Tks W a l → Tks W (some ⟨b1, o1, none⟩) bl) := Lib.hid (by rw [hbr]; exact HM4.out)
        have hcm : c1 ≤ maxLen := by unfold maxLen; omega
        have HCM := Lib.hid hcm
        clear hm1 hm3 ht1 hbr hsp hcm
        go_wp2_with fail
        go_ret
        exact ⟨⟨_, c1, by rw [HL.out]; rfl, by rw [HL.out]; exact hk, HCM.out, HT2.out⟩, rfl⟩
end Go.Proofs.YtfbfndknhabmhaaGreat
