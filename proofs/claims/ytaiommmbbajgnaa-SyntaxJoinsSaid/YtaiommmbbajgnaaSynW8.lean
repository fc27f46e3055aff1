/- Layer 6: Decls. -/
import Derived.Test.YtaiommmbbajgnaaSynW7
namespace Go.Proofs.Ytaiommmbbajgnaa
open Go.RowKit TreN LexP FixP SynP
set_option linter.unusedVariables false

theorem enters_read : ∀ args w, (callFunc 23 args).run Try.prog w = .ok (.enter 23 args) w := enters_of Try.func23 (by kernel_rfl) rfl
/-- a list of declarations that was answered -/
def Dcs (w : World) (v : Value) (l : List Dec) : Prop := ∃ ds, ds.map DecV.d = l ∧ ∃ base, w.ownsRow base 43 3 v ds.length (dcs ds) ∧ ∀ x ∈ ds, x.d.value.length ≤ x.cap ∧ x.cap ≤ maxLen ∧ Tks w x.a x.d.value
theorem fm_len (f : List Tok → Option Dec) : ∀ l : List (List Tok), (l.filterMap f).length ≤ l.length := fun l => List.length_filterMap_le f l
theorem read_cb (w0 : World) :
    PieceCb 23 #[.pointer (some ⟨w0.heap.size, 0, none⟩)] #[] w0 (w0.heap.size + 1) (fun done w => RdR w0 w0.heap.size (done.filterMap decS) w) where
  enters := enters_read
  call := by
    intro done piece a cap W hR h1 h2 hl hT hg hdn
    refine (read_any w0 w0.heap.size _ a piece cap W hR hg h1 h2 hl (Nat.le_trans (fm_len decS done) hdn) hT).mono ?_
    rintro e w' ⟨rfl, h3, h4⟩
    refine ⟨rfl, ?_, h4⟩
    rw [List.filterMap_append]
    have e : [piece].filterMap decS = (decS piece).toList := by
      cases h : decS piece with
      | none => simp [h]
      | some d => simp [h]
    rw [e]
    exact h3
  keep := fun done W W' h hb => h.keep hb
  below := fun done W h => h.below

theorem semi_kind : kindB 11 = semi := rfl
set_option maxRecDepth 100000 in
set_option maxHeartbeats 1000000 in
theorem Decls_any (a : Option Addr) (l : List Tok) (cap : Nat) (w : World) (h1 : l.length ≤ cap) (h2 : cap ≤ maxLen) (hl : l.length ≤ 90000) (hT : Tks w a l) :
    Calls Try.prog 14 #[.slice a l.length cap] w fun e w' => (∃ v, e = .returned v ∧ Dcs w' v (declsS l)) ∧ Below w.heap.size w w' := by
  have hmf : ∀ (fn : Fn) (first cap : Array Value) (w : World), (Instr.makeFunc fn first cap).run Try.prog w = .ok (.func fn first cap) w := fun _ _ _ _ => rfl
  have hr0 : RdR w w.heap.size [] (w.alloc (.cells #[.slice none 0 0] 47)) := by
    refine ⟨⟨.slice none 0 0, [], rfl, heap_alloc_new w _, World.ownsRow_nil _ _ _ _, fun x hx => by cases hx⟩, (Below.refl _ _).alloc (Nat.le_refl _) _, Nat.le_refl _, by simp⟩
  have C := Lib.hid (cut_pieces 23 #[.pointer (some ⟨w.heap.size, 0, none⟩)] #[] w (fun done W => RdR w w.heap.size (done.filterMap decS) W) (w.heap.size + 1) (read_cb w) a l cap 11 (w.alloc (.cells #[.slice none 0 0] 47)) (by simp) hr0 h1 h2 hl (fun W' hW => hT.below hW))
  obtain ⟨n, hn⟩ : ∃ n, l.length = n := ⟨_, rfl⟩
  rw [hn] at C ⊢
  clear hr0 h1 h2 hl hT hn
  go_enter Try.func14, Try.ntmps14
  go_wp2_with fail
  refine C.out.mono ?_
  rintro e w1 ⟨rfl, hR⟩
  obtain ⟨⟨v, ds, r1, r2, r3, r4⟩, r5, _, _⟩ := hR
  have c0 : w1.cell? ⟨w.heap.size, 0, none⟩ = some v := cell_of r2 rfl
  have HF : Hid (Dcs w1 v (declsS l) ∧ Below w.heap.size w w1) := Lib.hid ⟨⟨ds, r1, _, r3, fun x hx => ⟨(r4 x hx).1, (r4 x hx).2.1, (r4 x hx).tks⟩⟩, r5⟩
  obtain ⟨av, nv, cv, hv⟩ : ∃ av nv cv, v = .slice av nv cv := by
    rcases r3.2 with ⟨h, _⟩ | ⟨g, cp, cur, h, _⟩
    · exact ⟨_, _, _, h⟩
    · exact ⟨_, _, _, h⟩
  clear r1 r2 r3 r4 r5 C
  subst hv
  go_wp2_with fail
  go_ret
  exact ⟨⟨_, rfl, HF.out.1⟩, HF.out.2⟩
end Go.Proofs.Ytaiommmbbajgnaa
