/- The walk of layer 5's Lex. -/
import Derived.Test.YtipmgoejdkpknaaLexW9
namespace Go.Proofs.Ytipmgoejdkpknaa
open Go.RowKit TreN LexP FixP

/-- the variable of the library's that a search reads -/
def Has0 (w : World) : Prop := ∃ m : Int, w.cell? ⟨0, 0, none⟩ = some (.int .i64 m)
theorem Has0.below {w w' : World} (h : Has0 w) (hb : Below w.heap.size w w') : Has0 w' := by
  obtain ⟨m, hm⟩ := h
  exact ⟨m, (hb.cell (p := ⟨0, 0, none⟩) (World.block_lt_of_cell? w _ hm)).trans hm⟩

/-- a list of tokens that a call answers -/
def ToldTks (w : World) (l : List Tok) (er : Int) (e : Ending) (w' : World) : Prop := ∃ a cap, e = .returned (.tuple #[.slice a l.length cap, .int .i64 er]) ∧ Tks w' a l ∧ Below w.heap.size w w'

theorem lex_cb (w : World) (h : Has0 w) (toks : List Tok) (hl : toks.length ≤ 40000) (ht : ∀ t ∈ toks, t.text.length ≤ 40000) :
    CutCb 26 #[.pointer (some ⟨w.heap.size, 0, none⟩)] (w.heap.size + 1) (LexR w w.heap.size (w.heap.size + 1)) (fun l t => l ++ [t]) (fun _ _ => true) toks where
  enters := enters_take
  call := by
    intro st t w1 x y z hR hT hf
    obtain ⟨l, hf⟩ := hf
    rw [if_pos rfl, runT_all] at hf
    have h1 : t ∈ toks := by rw [← hf]; simp
    have h2 : st.length ≤ toks.length := by rw [← hf]; simp
    exact take_any w _ _ st t w1 x y z hR hT (by omega) (ht t h1)
  setT := fun st w1 k v hR => hR.setT k v
  below := fun st w1 w2 hR hb => hR.keep hb
  max := fun st w1 hR => h.below hR.below

set_option maxRecDepth 100000 in
set_option maxHeartbeats 1000000 in
theorem Lex_any (s : ByteArray) (w : World) (h : Has0 w) (hs : s.size ≤ 32768) :
    Calls Try.prog 14 #[.string s] w (ToldTks w (cut s.data.toList) 0) := by
  have hmf : ∀ (fn : Fn) (first cap : Array Value) (w : World), (Instr.makeFunc fn first cap).run Try.prog w = .ok (.func fn first cap) w := fun _ _ _ _ => rfl
  have hct := cut_texts _ s.data.toList (Nat.le_refl _)
  rw [len_data] at hct
  have hcb := lex_cb w h (cut s.data.toList) (by omega) (fun t ht => by have := hct.2 t ht; omega)
  have h0 : LexR w w.heap.size (w.heap.size + 1) [] ((w.alloc (.cells #[.slice none 0 0] 26)).alloc (.cells #[.int .i64 0, .string ⟨#[]⟩, .int .i64 0] 23)) := by
    refine ⟨⟨_, ?_, World.ownsRow_nil _ _ _ _⟩, ((Below.refl _ _).alloc (Nat.le_refl _) _).alloc (by simp) _, by simp, Nat.le_refl _, by omega⟩
    rw [Below.heap_alloc _ _ _ (by simp)]
    exact heap_alloc_new w _
  have C := cut_any s (fun l t => l ++ [t]) (fun _ _ => true) [] 26 #[.pointer (some ⟨w.heap.size, 0, none⟩)] (LexR w w.heap.size (w.heap.size + 1)) (w.alloc (.cells #[.slice none 0 0] 26)) (by
    have e : (w.alloc (.cells #[.slice none 0 0] 26)).heap.size = w.heap.size + 1 := by simp
    rw [e, runT_all, List.nil_append]
    exact hcb) (by omega) h0
  rw [runT_all, List.nil_append] at C
  have HC := Lib.hid C
  have hz : ¬ (32768 : Int) < (s.size : Int) := by omega
  clear C h0 hcb hct h
  go_enter Try.func14, Try.ntmps14
  go_wp2_with fail
  refine (HC.out).mono ?_
  rintro e w1 ⟨rfl, hR⟩
  obtain ⟨⟨v, h1, h2⟩, h3, _, _, _⟩ := hR
  have c0 : w1.cell? ⟨w.heap.size, 0, none⟩ = some v := cell_of h1 rfl
  obtain ⟨a, cap, hv, hT⟩ := Tks_own h2
  subst hv
  have HT := Lib.hid hT
  have H3 := Lib.hid h3
  clear h1 h2 h3 hT
  go_wp2_with fail
  go_ret2
  exact ⟨a, cap, rfl, HT.out, H3.out⟩
end Go.Proofs.Ytipmgoejdkpknaa
