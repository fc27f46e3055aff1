/- The walks of layer 5's reference: Right. -/
import Derived.Test.YtipmgoejdkpknaaLexC4
import Derived.Test.YtipmgoejdkpknaaLexR6
import Derived.Test.YtipmgoejdkpknaaLexE
namespace Go.Proofs.Ytipmgoejdkpknaa
open Go.RowKit TreN LexP FixP
set_option linter.unusedVariables false

theorem below_drewN (w : World) (q : Nat) : Below w.heap.size w (w.drewN q) := ⟨rfl, rfl, rfl, Nat.le_refl _, fun _ _ => rfl⟩

theorem refSame_one (W : World) (s : List Tok) (a : Option Addr) (cap b : Nat) (k n : Int) (x : List UInt8) (hl : s.length ≤ 100000) (hT : Tks W a s) (hx : W.heap[b]? = some (.cells #[.int .i64 k, .string ⟨x.toArray⟩, .int .i64 n] 23 (0, 0))) :
    Calls Try.prog 16 #[.slice a s.length cap, .slice (some ⟨b, 0, none⟩) 1 1] W fun e w' => e = .returned (.bool (decide (s = [⟨k, x, n⟩]))) ∧ Below W.heap.size W w' := by
  refine (refSame_any a (some ⟨b, 0, none⟩) cap 1 s [⟨k, x, n⟩] W hl hT (tkB_one hx)).mono ?_
  rintro e w' ⟨rfl, q, rfl⟩
  exact ⟨rfl, below_drewN _ _⟩

theorem tx_noH {k : Int} {x : List UInt8} {n : Int} (h : hasTx k = false) : tx ⟨k, x, n⟩ = [] := by
  rcases kinds k with rfl | rfl | rfl | rfl | rfl | rfl | rfl | rfl | rfl | rfl | rfl | rfl | rfl | rfl | rfl | rfl | rfl | rfl | rfl | h2
  iterate 19 (· exact absurd h (by decide))
  · exact tx_none k x n h2

set_option maxRecDepth 100000 in
set_option maxHeartbeats 4000000 in
theorem refRight_any (t : Tok) (w : World) (hx : t.text.length ≤ 30000) (htx : (tx t).length ≤ 40000) : Calls Try.prog 10 #[t.val] w fun e w' => e = .returned (.bool (decide (cut (tx t) = [t]))) ∧ Below w.heap.size w w' := by
  have C := (fun W => refTxt_any t W (by omega))
  have hcl := (cut_texts _ (tx t) (Nat.le_refl _)).1
  have hcut : ∀ W : World, Calls Try.prog 17 #[.string ⟨(tx t).toArray⟩] W (ToldList W (cut (tx t))) := fun W => by
    have := refCut_any ⟨(tx t).toArray⟩ W (by show (tx t).toArray.size ≤ 40000; simp; omega)
    rw [size_tx] at this
    exact this
  obtain ⟨k, x, n⟩ := t
  have hno : hasTx k = false → decide (cut (tx ⟨k, x, n⟩) = [⟨k, x, n⟩]) = false := fun h => by rw [tx_noH h, cut_nil]; simp
  unfold LexP.Tok.val at C ⊢
  generalize tx ⟨k, x, n⟩ = z at *
  generalize cut z = cz at *
  have D := Lib.hid (fun (W : World) (a : Option Addr) (cap b : Nat) => refSame_one W cz a cap b k n x (by omega))
  have HC := Lib.hid hcut
  obtain ⟨tf, htf⟩ : ∃ tf, decide (cz = [⟨k, x, n⟩]) = tf := ⟨_, rfl⟩
  rw [htf] at D hno ⊢
  clear hcut hx hcl htx htf
  have hi := info_token
  have hun := und_tokens
  obtain ⟨hk, hhk⟩ : ∃ hk, hasTx k = hk := ⟨_, rfl⟩
  change ∀ W : World, Calls _ _ _ W fun e w' => e = .returned (.tuple #[.string ⟨z.toArray⟩, .bool (hasTx k)]) ∧ _ at C
  rw [hhk] at C hno
  clear hhk
  replace C := Lib.hid C
  go_enter Try.func10, Try.ntmps10
  go_wp2_with fail
  refine (C.out _).mono ?_
  rintro e w1 ⟨rfl, hb⟩
  obtain ⟨Bx, hBx⟩ : ∃ Bx, w.heap.size = Bx := ⟨_, rfl⟩
  have hx1 : w1.heap[Bx]? = some (.cells #[.int .i64 k, .string ⟨x.toArray⟩, .int .i64 n] 23 (0, 0)) := by rw [← hBx]; exact blk_keep hb (heap_alloc_new w _)
  have hbw1 : Below w.heap.size w w1 := ((Below.refl _ _).alloc (Nat.le_refl _) _).trans (hb.mono (by simp))
  have c0 : w1.cell? ⟨Bx, 0, none⟩ = some (.int .i64 k) := cell_of hx1 rfl
  have c1 : w1.cell? ⟨Bx, 1, none⟩ = some (.string ⟨x.toArray⟩) := cell_of hx1 rfl
  have c2 : w1.cell? ⟨Bx, 2, none⟩ = some (.int .i64 n) := cell_of hx1 rfl
  rw [hBx]
  have HB1 := Lib.hid hbw1
  clear hb hx1
  cases hk
  · have htf := hno rfl
    subst htf
    clear hno
    go_wp2_with fail
    go_quiet (fail)
    go_wp2_with fail
    go_ret
    exact ⟨rfl, HB1.out.trans ((below_drewN _ _).mono HB1.out.size)⟩
  · clear hno
    go_wp2_with fail
    go_region_held3 (fun w' => Below w.heap.size w w' ∧ w'.cell? ⟨Bx, 0, none⟩ = some (.int .i64 k) ∧ w'.cell? ⟨Bx, 1, none⟩ = some (.string ⟨x.toArray⟩) ∧ w'.cell? ⟨Bx, 2, none⟩ = some (.int .i64 n))
      ((refine ⟨?_, ?_, ?_, ?_⟩ <;> first
        | assumption
        | exact Below.drew (by assumption)
        | exact Below.alloc (by assumption) (Below.size (by assumption)) _
        | exact Below.drew (Below.alloc HB1.out (Below.size HB1.out) _)
        | exact cell_drew_of (by assumption)
        | exact cell_keep ((Below.refl _ _).alloc (Nat.le_refl _) _) (by assumption)
        | exact cell_drew_of (cell_keep ((Below.refl _ _).alloc (Nat.le_refl _) _) (by assumption))))
      ((first
        | (go_at_call 17; refine (HC.out _).mono ?_; rintro e w2 ⟨a, cap, rfl, hT, hb⟩; (try go_split_ands); have d0 := cell_keep (p := ⟨Bx, 0, none⟩) (v := .int .i64 k) hb (by assumption); have d1 := cell_keep (p := ⟨Bx, 1, none⟩) (v := .string ⟨x.toArray⟩) hb (by assumption); have d2 := cell_keep (p := ⟨Bx, 2, none⟩) (v := .int .i64 n) hb (by assumption); have d6 : Below w.heap.size w w2 := Below.trans (by assumption) (hb.mono (Below.size (by assumption))); have HT := Lib.hid hT; (first | have HZ := Lib.hid (blk_keep hb (heap_alloc_new _ _)) | skip); clear hb hT)
        | (go_at_call 16; refine (D.out _ _ _ _ ?_ ?_).mono ?_; (first | exact HT.out | exact HT.out.below ((Below.refl _ _).alloc (Nat.le_refl _) _)); (first | exact HZ.out | exact heap_alloc_new _ _); rintro e w2 ⟨rfl, hb⟩; (try go_split_ands); have d0 := cell_keep (p := ⟨Bx, 0, none⟩) (v := .int .i64 k) hb (by assumption); have d1 := cell_keep (p := ⟨Bx, 1, none⟩) (v := .string ⟨x.toArray⟩) hb (by assumption); have d2 := cell_keep (p := ⟨Bx, 2, none⟩) (v := .int .i64 n) hb (by assumption); have d6 : Below w.heap.size w w2 := Below.trans (by assumption) (hb.mono (Below.size (by assumption))); have HF := Lib.hid d6; clear hb)))
    all_goals
      go_wp2_with fail
      go_ret
      exact ⟨rfl, HF.out⟩
end Go.Proofs.Ytipmgoejdkpknaa
