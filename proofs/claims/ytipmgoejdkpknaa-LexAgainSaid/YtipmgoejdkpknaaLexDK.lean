/- Joined texts: LexD1 LexD2 LexK. -/
import Derived.Test.YtipmgoejdkpknaaLexC4
import Derived.Test.YtipmgoejdkpknaaLexE
import Derived.Test.YtipmgoejdkpknaaLexPs
import Derived.Test.YtipmgoejdkpknaaShelfBK
import Derived.Lib.BufferKept
import Derived.Test.YtipmgoejdkpknaaLexW10
namespace Go.Proofs.Ytipmgoejdkpknaa
open Go.RowKit TreN LexP FixP
set_option linter.unusedVariables false

/-- what is asked of tokens that are to be printed -/
def Fits (l : List Tok) : Prop := ∀ t ∈ l, t.text.length ≤ 30000 ∧ (tx t).length ≤ 20000

set_option maxRecDepth 100000 in
set_option maxHeartbeats 2000000 in
theorem Print_bad (a : Option Addr) (l : List Tok) (cap : Nat) (w : World) (h : Has0 w) (hT : Tks w a l) (hl : l.length ≤ 100000) (hf : Fits l) (hr : ∃ t ∈ l, right t = false) :
    Calls Try.prog 12 #[.slice a l.length cap] w fun e w' => e = .returned (.tuple #[.string ⟨#[]⟩, .int .i64 11]) ∧ Below w.heap.size w w' := by
  have HT := Lib.hid hT
  have HF := Lib.hid hf
  have HH := Lib.hid h
  have HR := Lib.hid hr
  obtain ⟨n, hn⟩ : ∃ n, l.length = n := ⟨_, rfl⟩
  have HN := Lib.hid hn
  rw [hn] at hl ⊢
  clear hT hf h hr hn
  go_enter Try.func12, Try.ntmps12
  go_wp2_with fail
  go_loopw [11] (fun vi wr => ∃ k : Nat, vi = .int .i64 k ∧ k ≤ n ∧ Hid (Below w.heap.size w wr) ∧ Hid (∀ j (hj : j < l.length), j < k → right l[j] = true)) (fun vi _ => n - (intOf vi).toNat)
  case atStart => exact ⟨0, rfl, by omega, Lib.hid (Below.refl _ _), Lib.hid (fun j hj h => by omega)⟩
  case round =>
    obtain ⟨k, rfl, hk, HB, HJ⟩ := hrel
    by_cases hlt : k < n
    · have hltz : (k : Int) < (n : Int) := by omega
      have hkl : k < l.length := by have := HN.out; omega
      obtain ⟨b1, o1, rfl, g1, k1⟩ := HT.out.get hkl
      obtain ⟨t, ht⟩ : ∃ t, l[k] = t := ⟨_, rfl⟩
      rw [ht] at k1
      have k2 := k1.below HB.out g1
      obtain ⟨hf1, hf2⟩ := HF.out t (by rw [← ht]; exact List.getElem_mem hkl)
      have C : ∀ W : World, Below w.heap.size w W → Calls Try.prog 9 #[t.val] W fun e w' => e = .returned (.bool (right t)) ∧ Below W.heap.size W w' := fun W hW => Right_any t W (HH.out.below hW) hf1 (by omega)
      have CC := Lib.hid C
      unfold LexP.Tok.val at CC
      have d1 : wr.cell? ⟨b1, o1 + k * 3, none⟩ = some (.int .i64 t.kind) := k2.kind
      have d2 : wr.cell? ⟨b1, o1 + k * 3 + 1, none⟩ = some (.string ⟨t.text.toArray⟩) := k2.text
      have d3 : wr.cell? ⟨b1, o1 + k * 3 + 2, none⟩ = some (.int .i64 t.n) := k2.n
      have HTT := Lib.hid ht
      clear k1 k2 C hf1 hf2 ht
      go_wp2_with fail
      refine (CC.out _ ?_).mono ?_
      · exact HB.out.alloc HB.out.size _
      rintro e w2 ⟨rfl, hb⟩
      have hb2 : Below w.heap.size w w2 := (HB.out.alloc HB.out.size _).trans (hb.mono (by have := HB.out.size; simp; omega))
      have HB2 := Lib.hid hb2
      clear hb hb2 CC
      by_cases hrt : right t = true
      · rw [hrt]
        have HRT := Lib.hid hrt
        clear hrt
        go_wp2_with fail
        go_roundw
        case rel =>
          refine ⟨k + 1, by go_num, by omega, HB2, Lib.hid fun j hj h => ?_⟩
          by_cases c : j = k
          · subst c; rw [HTT.out]; exact HRT.out
          · exact HJ.out j hj (by omega)
        case measure => simp [intOf]; omega
      · have hrf : right t = false := by simpa using hrt
        rw [hrf]
        clear hrt hrf
        go_wp2_with fail
        go_ret2
        exact ⟨rfl, HB2.out⟩
    · exfalso
      obtain ⟨t, h1, h2⟩ := HR.out
      obtain ⟨j, hj, e⟩ := List.getElem_of_mem h1
      have := HJ.out j hj (by have := HN.out; omega)
      rw [e, h2] at this
      cases this
end Go.Proofs.Ytipmgoejdkpknaa

namespace Go.Proofs.Ytipmgoejdkpknaa
open Go.RowKit TreN LexP FixP
set_option linter.unusedVariables false

abbrev BldF (B b : Nat) (x : List UInt8) (w : World) : Prop := Lib.IsBuilderF 45 5 B b (Lib.byteCells x) w
theorem bldAt_below {T e : TypeId} {B b : Nat} {p : Value} {bs : List Value} {w w' : World} (h : Lib.BuilderAtF T e B b p bs w) (hb : Below w.heap.size w w') : Lib.BuilderAtF T e B b p bs w' := by
  have hlt := h.lt
  obtain ⟨hB, v, h1, hown, hne⟩ := h
  exact ⟨hB, v, (hb.block b hlt).trans h1, hown.kept (row := none) ⟨hb.os, hb.tape, hb.output, hb.size, fun k hk _ => hb.block k hk⟩ (by cases hv : v.ownBlock <;> simp), hne⟩
theorem bld_below {T e : TypeId} {B b : Nat} {bs : List Value} {w w' : World} (h : Lib.IsBuilderF T e B b bs w) (hb : Below w.heap.size w w') : Lib.IsBuilderF T e B b bs w' :=
  h.elim (fun x => .inl (bldAt_below x hb)) (fun x => .inr (bldAt_below x hb))
theorem bld_lt {T e : TypeId} {B b : Nat} {bs : List Value} {w : World} (h : Lib.IsBuilderF T e B b bs w) : b < w.heap.size := h.elim (fun x => x.lt) (fun x => x.lt)

theorem bld_new (w : World) : BldF w.heap.size w.heap.size [] (w.alloc (.cells #[.pointer none, .slice none 0 0] 45)) :=
  Lib.IsBuilderF.of (Or.inl ⟨Nat.le_refl _, _, heap_alloc_new w _, World.ownsRow_nil _ _ _ _, by simp [Value.ownBlock]⟩)
theorem prT_one (l : List Tok) (h : 0 < l.length) : prT l (0 + 1) = tx l[0] := by
  cases l with
  | nil => simp at h
  | cons a l => rfl
theorem Tks.below' {w w' : World} {b o : Nat} {l : List Tok} (h : Tks w (some ⟨b, o, none⟩) l) (hb : Below w.heap.size w w') (i : Nat) (hi : i < l.length) : TkAt w' b (o + i * 3) l[i] := by
  obtain ⟨b2, o2, e, h1, h2⟩ := h.get hi
  injection e with e
  injection e with e1 e2
  subst e1; subst e2
  exact h2.below hb h1
/-- what a write leaves -/
structure Kept (P : Nat) (w w' : World) : Prop where
  below : Below P w w'
  others : Lib.OthersKept 5 (some P) w w'
  size : w.heap.size ≤ w'.heap.size
theorem Kept.box {P b : Nat} {w w' : World} {x : Array Value} (h : Kept P w w') (hb : P < b) (hx : w.heap[b]? = some (.cells x 23 (0, 0))) : w'.heap[b]? = some (.cells x 23 (0, 0)) :=
  h.others b _ hx (by intro e; injection e with e; omega) (by intro c fz e; injection e with _ e _; exact absurd e (by decide))
theorem bld_write (P : Nat) (x y : List UInt8) (w : World) (h : BldF P P x w) (hlen : x.length + y.length ≤ 100000) :
    Calls Try.prog 22 #[.pointer (some ⟨P, 0, none⟩), .string ⟨y.toArray⟩] w fun e w' => (∃ v, e = .returned v) ∧ BldF P P (x ++ y) w' ∧ Kept P w w' := by
  have hlt := bld_lt h
  refine (Try.bld_WriteString_k P P (Lib.byteCells x) ⟨y.toArray⟩ w h (by rw [Lib.byteCells_length]; show x.length + y.toArray.size ≤ _; simp; omega) (Nat.le_of_lt hlt)).mono ?_
  rintro e w' ⟨rfl, h1, h2, h3⟩
  refine ⟨⟨_, rfl⟩, Or.inr ?_, h2, h3, h2.size⟩
  rw [Lib.byteCells_append]
  exact h1

set_option maxRecDepth 100000 in
set_option maxHeartbeats 2000000 in
theorem Print_ok (a : Option Addr) (l : List Tok) (cap : Nat) (w : World) (h : Has0 w) (hT : Tks w a l) (hl : l.length ≤ 100000) (hf : Fits l) (hr : ∀ t ∈ l, right t = true) (hp : ∀ j, j ≤ l.length → (prT l j).length ≤ 32768) :
    Calls Try.prog 12 #[.slice a l.length cap] w fun e w' => e = .returned (.tuple #[.string ⟨(printL l).toArray⟩, .int .i64 0]) ∧ Below w.heap.size w w' := by
  have HT := Lib.hid hT
  have HF := Lib.hid hf
  have HH := Lib.hid h
  have HR := Lib.hid hr
  have HP := Lib.hid hp
  obtain ⟨n, hn⟩ : ∃ n, l.length = n := ⟨_, rfl⟩
  have HN := Lib.hid hn
  rw [hn] at hl ⊢
  clear hT hf h hr hn hp
  go_enter Try.func12, Try.ntmps12
  go_wp2_with fail
  go_loopw [11] (fun vi wr => ∃ k : Nat, vi = .int .i64 k ∧ k ≤ n ∧ Hid (Below w.heap.size w wr)) (fun vi _ => n - (intOf vi).toNat)
  case atStart => exact ⟨0, rfl, by omega, Lib.hid (Below.refl _ _)⟩
  case round =>
    obtain ⟨k, rfl, hk, HB⟩ := hrel
    by_cases hlt : k < n
    · have hltz : (k : Int) < (n : Int) := by omega
      have hkl : k < l.length := by have := HN.out; omega
      obtain ⟨b1, o1, rfl, g1, k1⟩ := HT.out.get hkl
      obtain ⟨t, ht⟩ : ∃ t, l[k] = t := ⟨_, rfl⟩
      rw [ht] at k1
      have k2 := k1.below HB.out g1
      have hmem : t ∈ l := by rw [← ht]; exact List.getElem_mem hkl
      obtain ⟨hf1, hf2⟩ := HF.out t hmem
      have hrt := HR.out t hmem
      have C : ∀ W : World, Below w.heap.size w W → Calls Try.prog 9 #[t.val] W fun e w' => e = .returned (.bool true) ∧ Below W.heap.size W w' := fun W hW => by
        have := Right_any t W (HH.out.below hW) hf1 (by omega)
        rw [show decide (cut (tx t) = [t]) = true from hrt] at this
        exact this
      have CC := Lib.hid C
      unfold LexP.Tok.val at CC
      have d1 : wr.cell? ⟨b1, o1 + k * 3, none⟩ = some (.int .i64 t.kind) := k2.kind
      have d2 : wr.cell? ⟨b1, o1 + k * 3 + 1, none⟩ = some (.string ⟨t.text.toArray⟩) := k2.text
      have d3 : wr.cell? ⟨b1, o1 + k * 3 + 2, none⟩ = some (.int .i64 t.n) := k2.n
      clear k1 k2 C hf1 hf2 ht hmem hrt
      go_wp2_with fail
      refine (CC.out _ ?_).mono ?_
      · exact HB.out.alloc HB.out.size _
      rintro e w2 ⟨rfl, hb⟩
      have hb2 : Below w.heap.size w w2 := (HB.out.alloc HB.out.size _).trans (hb.mono (by have := HB.out.size; simp; omega))
      have HB2 := Lib.hid hb2
      clear hb hb2 CC
      go_wp2_with fail
      go_roundw
      case rel => exact ⟨k + 1, by go_num, by omega, HB2⟩
      case measure => simp [intOf]; omega
    · have hke : n = k := by omega
      subst hke
      clear hlt hk
      go_wp2_with fail
      obtain ⟨P, hP⟩ : ∃ P, wr.heap.size = P := ⟨_, rfl⟩
      have hbn := bld_new wr
      have hbb : Below w.heap.size w (wr.alloc (.cells #[.pointer none, .slice none 0 0] 45)) := HB.out.alloc HB.out.size _
      have hPw : w.heap.size ≤ P := by rw [← hP]; exact HB.out.size
      rw [hP] at hbn ⊢
      generalize wr.alloc (.cells #[.pointer none, .slice none 0 0] 45) = w2 at hbn hbb ⊢
      have HBN := Lib.hid hbn
      have HBB := Lib.hid hbb
      clear hbn hbb hP HB
      go_loopw [21] (fun vi wq => ∃ k : Nat, vi = .int .i64 k ∧ k ≤ n ∧ Hid (Below w.heap.size w wq) ∧ Hid (BldF P P (prT l k) wq)) (fun vi _ => n - (intOf vi).toNat)
      case atStart => exact ⟨0, rfl, by omega, HBB, HBN⟩
      case round =>
        obtain ⟨k, rfl, hk, HB3, HS3⟩ := hrel
        by_cases hlt : k < n
        · have hltz : (k : Int) < (n : Int) := by omega
          have hkl : k < l.length := by have := HN.out; omega
          obtain ⟨b1, o1, rfl, g1, k1⟩ := HT.out.get hkl
          obtain ⟨t, ht⟩ : ∃ t, l[k] = t := ⟨_, rfl⟩
          rw [ht] at k1
          have k2 := k1.below HB3.out g1
          have hmem : t ∈ l := by rw [← ht]; exact List.getElem_mem hkl
          obtain ⟨hf1, hf2⟩ := HF.out t hmem
          obtain ⟨tk, tt, tn⟩ := t
          have htx : ∀ W : World, Calls Try.prog 19 #[(⟨tk, tt, tn⟩ : Tok).val] W fun e w' => e = .returned (.string ⟨(tx ⟨tk, tt, tn⟩).toArray⟩) ∧ Below W.heap.size W w' := fun W => text_any _ W (by omega)
          have TX := Lib.hid htx
          unfold LexP.Tok.val at TX
          have d1 : wr.cell? ⟨b1, o1 + k * 3, none⟩ = some (.int .i64 tk) := k2.kind
          have d2 : wr.cell? ⟨b1, o1 + k * 3 + 1, none⟩ = some (.string ⟨tt.toArray⟩) := k2.text
          have d3 : wr.cell? ⟨b1, o1 + k * 3 + 2, none⟩ = some (.int .i64 tn) := k2.n
          have HTT := Lib.hid ht
          clear k1 k2 htx hmem ht
          by_cases hk0 : k = 0
          · subst hk0
            have hnx : prT l (0 + 1) = prT l 0 ++ ([] ++ tx ⟨tk, tt, tn⟩) := by rw [prT_one l hkl, HTT.out]; rfl
            have HNX5 := Lib.hid hnx
            have hlen5 : (prT l 0 ++ []).length + (tx ⟨tk, tt, tn⟩).length ≤ 100000 := by have := HP.out 0 (by omega); simp; omega
            have HLEN5 := Lib.hid hlen5
            rw [Nat.zero_mul, Nat.add_zero] at d1 d2 d3
            clear hnx hlen5 hf1 hf2
            go_wp2_with fail
            have hbx := heap_alloc_new wr (.cells #[.int .i64 tk, .string ⟨tt.toArray⟩, .int .i64 tn] 23)
            have hb3 := (Below.refl wr.heap.size wr).alloc (Nat.le_refl _) (.cells #[.int .i64 tk, .string ⟨tt.toArray⟩, .int .i64 tn] 23)
            have hPB := bld_lt HS3.out
            obtain ⟨Bx, hBx⟩ : ∃ Bx, wr.heap.size = Bx := ⟨_, rfl⟩
            generalize hw3 : wr.alloc (.cells #[.int .i64 tk, .string ⟨tt.toArray⟩, .int .i64 tn] 23) = w3 at hbx hb3 ⊢
            have HB4 := Lib.hid (HB3.out.trans (hb3.mono HB3.out.size))
            have HS4 := Lib.hid (bld_below HS3.out hb3)
            rw [hBx] at hbx hPB ⊢
            have HX4 := Lib.hid hbx
            clear d1 d2 d3 hw3 hbx hb3
            go_quiet (fail)
            have HB5 := Lib.hid (below_drewN2 HB4.out nq)
            have HS5 : Hid (BldF P P (prT l 0 ++ []) (w3.drewN nq)) := Lib.hid (by rw [List.append_nil]; exact bld_below HS4.out (below_drewN2 (Below.refl _ _) nq))
            have HX5 : Hid ((w3.drewN nq).heap[Bx]? = some (.cells #[.int .i64 tk, .string ⟨tt.toArray⟩, .int .i64 tn] 23 (0, 0))) := Lib.hid HX4.out
            generalize w3.drewN nq = w5 at HB5 HS5 HX5 ⊢
            have c0 : w5.cell? ⟨Bx, 0, none⟩ = some (.int .i64 tk) := cell_of HX5.out rfl
            have c1 : w5.cell? ⟨Bx, 1, none⟩ = some (.string ⟨tt.toArray⟩) := cell_of HX5.out rfl
            have c2 : w5.cell? ⟨Bx, 2, none⟩ = some (.int .i64 tn) := cell_of HX5.out rfl
            go_wp2_with fail
            refine (TX.out _).mono ?_
            rintro e w6 ⟨rfl, hb6⟩
            have HB6 := Lib.hid (HB5.out.trans (hb6.mono HB5.out.size))
            have HS6 := Lib.hid (bld_below HS5.out hb6)
            clear hb6 c0 c1 c2
            go_wp2_with fail
            refine (bld_write P _ _ _ HS6.out ?_).mono ?_
            · exact HLEN5.out
            rintro e w7 ⟨⟨v7, rfl⟩, hs7, hk7⟩
            have hb7 : Below w.heap.size w w7 := HB6.out.trans (hk7.below.mono (by omega))
            have hs8 : BldF P P (prT l (0 + 1)) w7 := by rw [HNX5.out]; rw [List.append_assoc] at hs7; exact hs7
            have hlen := Try.Builder_Len_f P P _ w7 hs8
            rw [Lib.byteCells_length] at hlen
            have hpk := HP.out (0 + 1) (by have := HN.out; omega)
            obtain ⟨z, hz⟩ : ∃ z, (prT l (0 + 1)).length = z := ⟨_, rfl⟩
            rw [hz] at hlen hpk
            have hzz : ¬ (32768 : Int) < (z : Int) := by omega
            have HL := Lib.hid hlen
            have HS8 := Lib.hid hs8
            have HB7 := Lib.hid hb7
            clear hs7 hk7 hb7 hs8 hlen hz
            go_wp2_with fail
            refine HL.out.mono ?_
            rintro e w8 ⟨rfl, rfl⟩
            go_wp2_with fail
            go_roundw
            case rel => exact ⟨1, by go_num, by omega, HB7, HS8⟩
            case measure => simp [intOf]; omega
          · obtain ⟨j, hkj⟩ : ∃ j, k = j + 1 := ⟨k - 1, by omega⟩
            have hjl : j < l.length := by omega
            obtain ⟨u, hu⟩ : ∃ u, l[j] = u := ⟨_, rfl⟩
            have hnx : prT l (k + 1) = prT l k ++ (sepL u ⟨tk, tt, tn⟩ ++ tx ⟨tk, tt, tn⟩) := by
              have := prT_next l j (by omega)
              subst hkj
              rw [this, hu, HTT.out]
            have hmem : u ∈ l := by rw [← hu]; exact List.getElem_mem hjl
            obtain ⟨hg1, hg2⟩ := HF.out u hmem
            have j2 : TkAt wr b1 (o1 + j * 3) u := by
              have := (HT.out.below' HB3.out j hjl)
              rw [hu] at this
              exact this
            have htc : ∀ W : World, Below w.heap.size w W → Calls Try.prog 21 #[u.val, (⟨tk, tt, tn⟩ : Tok).val] W fun e w' => e = .returned (.bool (decide (cut (tx u ++ tx ⟨tk, tt, tn⟩) = [u, ⟨tk, tt, tn⟩]))) ∧ Below W.heap.size W w' := fun W hW => touch_any u _ W (HH.out.below hW) hg1 hf1 (by omega)
            have hlen5 : (prT l k).length + 4 + (tx ⟨tk, tt, tn⟩).length ≤ 100000 := by have := HP.out k (by omega); omega
            have hsl := len_sepL u ⟨tk, tt, tn⟩
            obtain ⟨tf, htf⟩ : ∃ tf, decide (cut (tx u ++ tx ⟨tk, tt, tn⟩) = [u, ⟨tk, tt, tn⟩]) = tf := ⟨_, rfl⟩
            have hsep : sepL u ⟨tk, tt, tn⟩ = if tf = true then [] else [47, 42, 42, 47] := by
              unfold sepL
              rw [← htf]
              simp only [decide_eq_true_eq]
            rw [htf] at htc
            obtain ⟨sp, hsp⟩ : ∃ sp, sepL u ⟨tk, tt, tn⟩ = sp := ⟨_, rfl⟩
            rw [hsp] at hnx hsl hsep
            obtain ⟨jk, jt, jn⟩ := u
            have TC := Lib.hid htc
            unfold LexP.Tok.val at TC
            have e0 : wr.cell? ⟨b1, o1 + j * 3, none⟩ = some (.int .i64 jk) := j2.kind
            have e1 : wr.cell? ⟨b1, o1 + j * 3 + 1, none⟩ = some (.string ⟨jt.toArray⟩) := j2.text
            have e2 : wr.cell? ⟨b1, o1 + j * 3 + 2, none⟩ = some (.int .i64 jn) := j2.n
            have HNX5 := Lib.hid hnx
            have HLEN := Lib.hid hlen5
            have HSL := Lib.hid hsl
            have HSEP := Lib.hid hsep
            have hk0z : (0 : Int) < (k : Int) := by omega
            have hkd : decide (0 < k) = true := by simp; omega
            have hjn : j < n := by omega
            have hjz : (j : Int) < (n : Int) := by omega
            have hw : IntKind.i64.wrap ((k : Int) - 1) = (j : Int) := by
              have : (k : Int) - 1 = (j : Int) := by omega
              rw [this]
              exact IntWalk.i64_in _ (by omega)
            clear hnx hlen5 hsl hsep htc j2 hmem hg1 hg2 hf1 hf2 htf hsp hu hjl
            have HKJ := Lib.hid hkj
            clear hkj hk0
            go_wp2_with fail
            have hbx := heap_alloc_new wr (.cells #[.int .i64 tk, .string ⟨tt.toArray⟩, .int .i64 tn] 23)
            have hb3 := (Below.refl wr.heap.size wr).alloc (Nat.le_refl _) (.cells #[.int .i64 tk, .string ⟨tt.toArray⟩, .int .i64 tn] 23)
            have hPB := bld_lt HS3.out
            obtain ⟨Bx, hBx⟩ : ∃ Bx, wr.heap.size = Bx := ⟨_, rfl⟩
            generalize hw3 : wr.alloc (.cells #[.int .i64 tk, .string ⟨tt.toArray⟩, .int .i64 tn] 23) = w3 at hbx hb3 ⊢
            have HB4 := Lib.hid (HB3.out.trans (hb3.mono HB3.out.size))
            have HS4 := Lib.hid (bld_below HS3.out hb3)
            rw [hBx] at hbx hPB ⊢
            have HX4 := Lib.hid hbx
            have e0 := cell_keep hb3 e0
            have e1 := cell_keep hb3 e1
            have e2 := cell_keep hb3 e2
            have e3 : w3.cell? ⟨Bx, 0, none⟩ = some (.int .i64 tk) := cell_of hbx rfl
            have e4 : w3.cell? ⟨Bx, 1, none⟩ = some (.string ⟨tt.toArray⟩) := cell_of hbx rfl
            have e5 : w3.cell? ⟨Bx, 2, none⟩ = some (.int .i64 tn) := cell_of hbx rfl
            have hb4 := HB4.out
            clear d1 d2 d3 hw3 hbx hb3
            go_region_held3 (fun w' => Below w.heap.size w w' ∧ w'.cell? ⟨b1, o1 + j * 3, none⟩ = some (.int .i64 jk) ∧ w'.cell? ⟨b1, o1 + j * 3 + 1, none⟩ = some (.string ⟨jt.toArray⟩) ∧ w'.cell? ⟨b1, o1 + j * 3 + 2, none⟩ = some (.int .i64 jn) ∧ w'.cell? ⟨Bx, 0, none⟩ = some (.int .i64 tk) ∧ w'.cell? ⟨Bx, 1, none⟩ = some (.string ⟨tt.toArray⟩) ∧ w'.cell? ⟨Bx, 2, none⟩ = some (.int .i64 tn))
              ((refine ⟨?_, ?_, ?_, ?_, ?_, ?_, ?_⟩ <;> first
                | assumption
                | exact Below.drew (by assumption)
                | exact cell_drew_of (by assumption)))
              ((first
                | (go_at_call 21; (try go_split_ands); refine (TC.out _ (by assumption)).mono ?_; rintro e w4 ⟨rfl, hb⟩; have e0 := cell_keep (p := ⟨b1, o1 + j * 3, none⟩) (v := .int .i64 jk) hb (by assumption); have e1 := cell_keep (p := ⟨b1, o1 + j * 3 + 1, none⟩) (v := .string ⟨jt.toArray⟩) hb (by assumption); have e2 := cell_keep (p := ⟨b1, o1 + j * 3 + 2, none⟩) (v := .int .i64 jn) hb (by assumption); have e3 := cell_keep (p := ⟨Bx, 0, none⟩) (v := .int .i64 tk) hb (by assumption); have e4 := cell_keep (p := ⟨Bx, 1, none⟩) (v := .string ⟨tt.toArray⟩) hb (by assumption); have e5 := cell_keep (p := ⟨Bx, 2, none⟩) (v := .int .i64 tn) hb (by assumption); have e6 : Below w.heap.size w w4 := Below.trans (by assumption) (hb.mono (Below.size (by assumption))); have HF4 := Lib.hid hb; have HB4b := Lib.hid e6; clear hb)))
            have HS4b : Hid (BldF P P (prT l k) w4) := Lib.hid (bld_below (w := w3.drew) HS4.out HF4.out)
            have HX4b : Hid (w4.heap[Bx]? = some (.cells #[.int .i64 tk, .string ⟨tt.toArray⟩, .int .i64 tn] 23 (0, 0))) := Lib.hid (blk_keep (W := w3.drew) HF4.out HX4.out)
            clear HX4 HS4
            cases tf
            · have hsp4 : sp = [47, 42, 42, 47] := HSEP.out
              go_wp2_with fail
              refine (bld_write P (prT l k) [47, 42, 42, 47] w4 HS4b.out (by have := HLEN.out; simp; omega)).mono ?_
              rintro e w5 ⟨⟨v5, rfl⟩, hs5, hk5⟩
              have HB5 := Lib.hid (HB4b.out.trans (hk5.below.mono hPw))
              have HS5 : Hid (BldF P P (prT l k ++ sp) w5) := Lib.hid (by rw [hsp4]; exact hs5)
              have HX5 := Lib.hid (hk5.box hPB HX4b.out)
              have HLEN5 : Hid ((prT l k ++ sp).length + (tx ⟨tk, tt, tn⟩).length ≤ 100000) := Lib.hid (by have := HLEN.out; have := HSL.out; rw [List.length_append]; omega)
              clear hs5 hk5 hsp4 HX4b HS4b
              have c0 : w5.cell? ⟨Bx, 0, none⟩ = some (.int .i64 tk) := cell_of HX5.out rfl
              have c1 : w5.cell? ⟨Bx, 1, none⟩ = some (.string ⟨tt.toArray⟩) := cell_of HX5.out rfl
              have c2 : w5.cell? ⟨Bx, 2, none⟩ = some (.int .i64 tn) := cell_of HX5.out rfl
              go_wp2_with fail
              refine (TX.out _).mono ?_
              rintro e w6 ⟨rfl, hb6⟩
              have HB6 := Lib.hid (HB5.out.trans (hb6.mono HB5.out.size))
              have HS6 := Lib.hid (bld_below HS5.out hb6)
              clear hb6 c0 c1 c2
              go_wp2_with fail
              refine (bld_write P _ _ _ HS6.out ?_).mono ?_
              · exact HLEN5.out
              rintro e w7 ⟨⟨v7, rfl⟩, hs7, hk7⟩
              have hb7 : Below w.heap.size w w7 := HB6.out.trans (hk7.below.mono (by omega))
              have hs8 : BldF P P (prT l (k + 1)) w7 := by rw [HNX5.out]; rw [List.append_assoc] at hs7; exact hs7
              have hlen := Try.Builder_Len_f P P _ w7 hs8
              rw [Lib.byteCells_length] at hlen
              have hpk := HP.out (k + 1) (by have := HN.out; omega)
              obtain ⟨z, hz⟩ : ∃ z, (prT l (k + 1)).length = z := ⟨_, rfl⟩
              rw [hz] at hlen hpk
              have hzz : ¬ (32768 : Int) < (z : Int) := by omega
              have HL := Lib.hid hlen
              have HS8 := Lib.hid hs8
              have HB7 := Lib.hid hb7
              clear hs7 hk7 hb7 hs8 hlen hz
              go_wp2_with fail
              refine HL.out.mono ?_
              rintro e w8 ⟨rfl, rfl⟩
              go_wp2_with fail
              go_roundw
              case rel => exact ⟨k + 1, by go_num, by omega, HB7, HS8⟩
              case measure => simp [intOf]; omega
            · have hsp4 : sp = [] := HSEP.out
              have HB5 := HB4b
              have HS5 : Hid (BldF P P (prT l k ++ sp) w4) := Lib.hid (by rw [hsp4, List.append_nil]; exact HS4b.out)
              have HX5 := HX4b
              have HLEN5 : Hid ((prT l k ++ sp).length + (tx ⟨tk, tt, tn⟩).length ≤ 100000) := Lib.hid (by have := HLEN.out; have := HSL.out; rw [List.length_append]; omega)
              clear hsp4 HX4b HS4b HB4b
              obtain ⟨w5, hw5⟩ : ∃ w5, w4 = w5 := ⟨_, rfl⟩
              rw [hw5] at HB5 HS5 HX5 ⊢
              have c0 : w5.cell? ⟨Bx, 0, none⟩ = some (.int .i64 tk) := cell_of HX5.out rfl
              have c1 : w5.cell? ⟨Bx, 1, none⟩ = some (.string ⟨tt.toArray⟩) := cell_of HX5.out rfl
              have c2 : w5.cell? ⟨Bx, 2, none⟩ = some (.int .i64 tn) := cell_of HX5.out rfl
              go_wp2_with fail
              refine (TX.out _).mono ?_
              rintro e w6 ⟨rfl, hb6⟩
              have HB6 := Lib.hid (HB5.out.trans (hb6.mono HB5.out.size))
              have HS6 := Lib.hid (bld_below HS5.out hb6)
              clear hb6 c0 c1 c2
              go_wp2_with fail
              refine (bld_write P _ _ _ HS6.out ?_).mono ?_
              · exact HLEN5.out
              rintro e w7 ⟨⟨v7, rfl⟩, hs7, hk7⟩
              have hb7 : Below w.heap.size w w7 := HB6.out.trans (hk7.below.mono (by omega))
              have hs8 : BldF P P (prT l (k + 1)) w7 := by rw [HNX5.out]; rw [List.append_assoc] at hs7; exact hs7
              have hlen := Try.Builder_Len_f P P _ w7 hs8
              rw [Lib.byteCells_length] at hlen
              have hpk := HP.out (k + 1) (by have := HN.out; omega)
              obtain ⟨z, hz⟩ : ∃ z, (prT l (k + 1)).length = z := ⟨_, rfl⟩
              rw [hz] at hlen hpk
              have hzz : ¬ (32768 : Int) < (z : Int) := by omega
              have HL := Lib.hid hlen
              have HS8 := Lib.hid hs8
              have HB7 := Lib.hid hb7
              clear hs7 hk7 hb7 hs8 hlen hz
              go_wp2_with fail
              refine HL.out.mono ?_
              rintro e w8 ⟨rfl, rfl⟩
              go_wp2_with fail
              go_roundw
              case rel => exact ⟨k + 1, by go_num, by omega, HB7, HS8⟩
              case measure => simp [intOf]; omega
        · have hke : n = k := by omega
          subst hke
          have hst := Try.Builder_String_any_f P P (prT l n) wr HS3.out (Nat.le_of_lt (bld_lt HS3.out))
          have hall : prT l n = printL l := by rw [← HN.out]; exact prT_all l
          rw [hall] at hst
          have HST := Lib.hid hst
          clear hst hall
          go_wp2_with fail
          refine HST.out.mono ?_
          rintro e w9 ⟨rfl, _, hb9⟩
          have HB9 := Lib.hid (HB3.out.trans (hb9.mono hPw))
          clear hb9
          go_wp2_with fail
          go_ret2
          exact ⟨rfl, HB9.out⟩
end Go.Proofs.Ytipmgoejdkpknaa

namespace Go.Proofs.Ytipmgoejdkpknaa
open Go.RowKit TreN LexP FixP
set_option linter.unusedVariables false

def five : List Tok := [⟨1, [97], 0⟩, ⟨10, [], 0⟩, ⟨9, [112, 120], 1500⟩, ⟨20, [], 0⟩, ⟨7, [], -5000⟩]
def two : List Tok := [⟨7, [], 1000⟩, ⟨9, [112, 120], 2000⟩]
theorem cut_five : cut [97, 58, 49, 46, 53, 112, 120, 32, 45, 53] = five := by decide +kernel
theorem print_two : printL two = [49, 47, 42, 42, 47, 50, 112, 120] := by decide +kernel
theorem right_two : ∀ t ∈ two, right t = true := by decide +kernel
theorem fits_two : Fits two := by unfold Fits; decide +kernel
theorem prT_two : ∀ j, j ≤ two.length → (prT two j).length ≤ 32768 := by
  intro j hj
  have hj : j ≤ 2 := hj
  rcases (by omega : j = 0 ∨ j = 1 ∨ j = 2) with rfl | rfl | rfl <;> decide +kernel

theorem lex_five (w : World) (h : Has0 w) : Calls Try.prog 14 #[.string ⟨#[97, 58, 49, 46, 53, 112, 120, 32, 45, 53]⟩] w fun e w' => ∃ b o cap, e = .returned (.tuple #[.slice (some ⟨b, o, none⟩) 5 cap, .int .i64 0]) ∧ b < w'.heap.size ∧ TksAt w' b o five ∧ Below w.heap.size w w' := by
  have := Lex_any ⟨#[97, 58, 49, 46, 53, 112, 120, 32, 45, 53]⟩ w h (by decide)
  rw [show (⟨#[97, 58, 49, 46, 53, 112, 120, 32, 45, 53]⟩ : ByteArray).data.toList = [97, 58, 49, 46, 53, 112, 120, 32, 45, 53] from rfl, cut_five] at this
  refine this.mono ?_
  rintro e w' ⟨a, cap, rfl, hT, hb⟩
  rcases hT with hT | ⟨b, o, rfl, h1, h2⟩
  · cases hT
  · exact ⟨b, o, cap, rfl, h1, h2, hb⟩
theorem print_two_any (w : World) (h : Has0 w) (b : Nat) (hx : w.heap[b]? = some (.cells #[.int .i64 7, .string ⟨#[]⟩, .int .i64 1000, .int .i64 9, .string ⟨#[112, 120]⟩, .int .i64 2000] 23 (0, 0))) :
    Calls Try.prog 12 #[.slice (some ⟨b, 0, none⟩) 2 2] w fun e w' => e = .returned (.tuple #[.string ⟨#[49, 47, 42, 42, 47, 50, 112, 120]⟩, .int .i64 0]) ∧ Below w.heap.size w w' := by
  have := Print_ok (some ⟨b, 0, none⟩) two 2 w h (tkB_two (k := 7) (n := 1000) (k' := 9) (n' := 2000) (x := []) (x' := [112, 120]) hx) (by decide) fits_two right_two prT_two
  rw [print_two] at this
  exact this

set_option maxRecDepth 100000 in
set_option maxHeartbeats 2000000 in
theorem known5_any (w : World) (h : Has0 w) : Calls Try.prog 8 #[] w fun e w' => e = .returned (.bool true) ∧ Below w.heap.size w w' := by
  have C := Lib.hid (lex_five w h)
  have D := Lib.hid print_two_any
  have HH := Lib.hid h
  have hi := info_token
  have hun := und_tokens
  clear h
  go_enter Try.func8, Try.ntmps8
  go_wp2_with fail
  refine (C.out).mono ?_
  rintro e w1 ⟨b1, o1, cap1, rfl, hb1, hT, hbl⟩
  have HT := Lib.hid hT
  have HB := Lib.hid hbl
  have HL := Lib.hid hb1
  clear hT hbl hb1
  go_wp2_with fail
  refine (D.out _ (HH.out.below (HB.out.alloc HB.out.size _)) _ (heap_alloc_new _ _)).mono ?_
  rintro e w2 ⟨rfl, hb2⟩
  have hb3 : Below w1.heap.size w1 w2 := ((Below.refl _ _).alloc (Nat.le_refl _) _).trans (hb2.mono (by simp))
  have HB2 := Lib.hid (HB.out.trans (hb3.mono HB.out.size))
  have t2 := (HT.out 2 (by decide)).below hb3 HL.out
  have t4 := (HT.out 4 (by decide)).below hb3 HL.out
  have e0 : w2.cell? ⟨b1, o1 + 6, none⟩ = some (.int .i64 9) := t2.kind
  have e1 : w2.cell? ⟨b1, o1 + 7, none⟩ = some (.string ⟨#[112, 120]⟩) := t2.text
  have e2 : w2.cell? ⟨b1, o1 + 8, none⟩ = some (.int .i64 1500) := t2.n
  have e3 : w2.cell? ⟨b1, o1 + 14, none⟩ = some (.int .i64 (-5000)) := t4.n
  clear hb2 hb3 t2 t4
  go_wp2_with fail
  go_ret
  exact ⟨rfl, HB2.out⟩
end Go.Proofs.Ytipmgoejdkpknaa
