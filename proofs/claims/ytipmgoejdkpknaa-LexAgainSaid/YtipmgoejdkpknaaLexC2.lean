/- The walks of layer 5: isCut, whole. -/
import Derived.Test.YtipmgoejdkpknaaLexC1
import Derived.Test.YtipmgoejdkpknaaLexW10
namespace Go.Proofs.Ytipmgoejdkpknaa
open Go.RowKit TreN LexP FixP

theorem runT_is : ∀ (ts l : List Tok), ((runT isStp isCont (true, l) ts).1 && decide ((runT isStp isCont (true, l) ts).2 = [])) = decide (ts = l) := by
  intro ts
  induction ts with
  | nil =>
    intro l
    simp only [runT, Bool.true_and]
    exact decide_eq_decide.2 ⟨fun h => h.symm, fun h => h.symm⟩
  | cons t ts ih =>
    intro l
    cases l with
    | nil => simp [runT, isCont, isStp]
    | cons u l =>
      by_cases htu : t = u
      · subst htu
        have e1 : isCont (true, t :: l) t = true := by simp [isCont]
        have e2 : isStp (true, t :: l) t = (true, l) := by simp [isStp]
        simp only [runT, e1, e2, if_true]
        rw [ih l]
        exact decide_eq_decide.2 ⟨fun h => by rw [h], fun h => (List.cons.inj h).2⟩
      · have hut : ¬ u = t := fun h => htu h.symm
        have e1 : isCont (true, u :: l) t = false := by simp [isCont, hut]
        have e2 : isStp (true, u :: l) t = (false, u :: l) := by simp [isStp, hut]
        simp only [runT, e1, e2]
        simp [htu]

theorem runT_is2 (ts l : List Tok) (h : l.length ≤ 30000) : (runT isStp isCont (true, l) ts).2.length ≤ 30000 := by
  induction ts generalizing l with
  | nil => exact h
  | cons t ts ih =>
    cases l with
    | nil => simp [runT, isCont, isStp]
    | cons u l =>
      by_cases htu : t = u
      · subst htu
        have e1 : isCont (true, t :: l) t = true := by simp [isCont]
        have e2 : isStp (true, t :: l) t = (true, l) := by simp [isStp]
        simp only [runT, e1, e2, if_true]
        exact ih l (by simp at h; omega)
      · have hut : ¬ u = t := fun h => htu h.symm
        have e1 : isCont (true, u :: l) t = false := by simp [isCont, hut]
        have e2 : isStp (true, u :: l) t = (false, u :: l) := by simp [isStp, hut]
        simp only [runT, e1, e2]
        exact h

theorem enters_is : ∀ args w, (callFunc 29 args).run Try.prog w = .ok (.enter 29 args) w := enters_of Try.func29 (by kernel_rfl) rfl

theorem is_cb (w : World) (h : Has0 w) (fin : Bool × List Tok) :
    CutCb 29 #[.pointer (some ⟨w.heap.size, 0, none⟩), .pointer (some ⟨w.heap.size + 1, 0, none⟩)] (w.heap.size + 2) (fun st W => IsR w w.heap.size (w.heap.size + 2) st W ∧ st.2.length ≤ 30000) isStp isCont fin where
  enters := enters_is
  call := by
    rintro ⟨b, l⟩ t w1 x y z ⟨hR, hl⟩ hT _
    cases l with
    | nil =>
      refine (isTake_none w _ _ b t w1 x y z hR hT).mono ?_
      rintro e w2 ⟨rfl, h1, h2⟩
      refine ⟨by simp [isCont], ⟨?_, ?_⟩, h2⟩
      · have : isStp (b, []) t = (false, []) := by simp [isStp]
        rw [this]; exact h1
      · simp [isStp]
    | cons u l =>
      have hl' : l.length ≤ 30000 := by simp at hl; omega
      by_cases htu : t = u
      · refine (isTake_hit w _ _ b t u l w1 x y z hR hT hl' htu).mono ?_
        rintro e w2 ⟨rfl, h1, h2⟩
        have : isStp (b, u :: l) t = (true, l) := by simp [isStp, htu]
        refine ⟨by simp [isCont, htu], ⟨?_, ?_⟩, h2⟩
        · rw [this]; exact h1
        · rw [this]; exact hl'
      · refine (isTake_miss w _ _ b t u l w1 x y z hR hT hl' htu).mono ?_
        rintro e w2 ⟨rfl, h1, h2⟩
        have hut : ¬ u = t := fun h => htu h.symm
        have : isStp (b, u :: l) t = (false, u :: l) := by simp [isStp, hut]
        refine ⟨by simp [isCont, hut], ⟨?_, ?_⟩, h2⟩
        · rw [this]; exact h1
        · rw [this]; exact hl
  setT := fun st w1 k v hR => ⟨hR.1.setT k v, hR.2⟩
  below := fun st w1 w2 hR hb => ⟨hR.1.keep hb, hR.2⟩
  max := fun st w1 hR => h.below hR.1.below

set_option maxRecDepth 100000 in
set_option maxHeartbeats 1000000 in
theorem isCut_any (s : ByteArray) (a : Option Addr) (l : List Tok) (cap : Nat) (w : World) (h : Has0 w) (hs : s.size ≤ 40000) (hl : l.length ≤ 30000) (hc : l.length ≤ cap) (hk : TkB w.heap.size w a l) :
    Calls Try.prog 18 #[.string s, .slice a l.length cap] w fun e w' => e = .returned (.bool (decide (cut s.data.toList = l))) ∧ Below w.heap.size w w' := by
  have hmf : ∀ (fn : Fn) (first cap : Array Value) (w : World), (Instr.makeFunc fn first cap).run Try.prog w = .ok (.func fn first cap) w := fun _ _ _ _ => rfl
  obtain ⟨w2, hw2⟩ : ∃ w2, (w.alloc (.cells #[.slice a l.length cap] 26)).alloc (.cells #[.bool true] 4) = w2 := ⟨_, rfl⟩
  have hsz : w2.heap.size = w.heap.size + 2 := by rw [← hw2]; simp
  have hb2 : Below w.heap.size w w2 := by rw [← hw2]; exact ((Below.refl _ _).alloc (Nat.le_refl _) _).alloc (by simp) _
  have h0 : IsR w w.heap.size (w.heap.size + 2) (true, l) (w2.alloc (.cells #[.int .i64 0, .string ⟨#[]⟩, .int .i64 0] 23)) := by
    refine ⟨⟨a, cap, ?_, hk.below (hb2.alloc (by omega) _), hc⟩, ?_, hb2.alloc (by omega) _, by simp; omega, Nat.le_refl _, by omega⟩
    · rw [Below.heap_alloc _ _ _ (by omega), ← hw2, Below.heap_alloc _ _ _ (by simp)]
      exact heap_alloc_new w _
    · rw [Below.heap_alloc _ _ _ (by omega), ← hw2]
      have := heap_alloc_new (w.alloc (.cells #[.slice a l.length cap] 26)) (.cells #[.bool true] 4)
      simpa using this
  have C := cut_any s isStp isCont (true, l) 29 #[.pointer (some ⟨w.heap.size, 0, none⟩), .pointer (some ⟨w.heap.size + 1, 0, none⟩)] (fun st W => IsR w w.heap.size (w.heap.size + 2) st W ∧ st.2.length ≤ 30000) w2 (by
    rw [hsz]
    exact is_cb w h _) hs ⟨h0, hl⟩
  have hr1 := runT_is (cut s.data.toList) l
  obtain ⟨⟨rb, rl⟩, hr⟩ : ∃ r, runT isStp isCont (true, l) (cut s.data.toList) = r := ⟨_, rfl⟩
  rw [hr] at C hr1
  rw [← hr1]
  obtain ⟨m0, hm0⟩ : ∃ m0, l.length = m0 := ⟨_, rfl⟩
  rw [hm0] at hw2 ⊢
  have HC := Lib.hid C
  have HW := Lib.hid hw2
  clear C h0 h hb2 hr1 hr hk hc hl hs hm0 hsz hw2
  go_enter Try.func18, Try.ntmps18
  go_wp2_with fail
  rw [HW.out]
  refine (HC.out).mono ?_
  rintro e w1 ⟨rfl, hR, hR2⟩
  obtain ⟨⟨a1, cap1, h1, _, hcc⟩, h2, h3, _, _, _⟩ := hR
  have hR2 : rl.length ≤ 30000 := hR2
  obtain ⟨m, hm⟩ : ∃ m, rl.length = m := ⟨_, rfl⟩
  have hm' : decide (rl = []) = ((m : Int) == 0) := by
    rw [← hm]
    cases rl with
    | nil => rfl
    | cons x y =>
      have : ((((x :: y).length : Nat) : Int) == 0) = false := by rw [beq_eq_false_iff_ne]; simp; omega
      rw [this]; simp
  change w1.heap[_]? = some (Obj.cells #[.slice a1 rl.length cap1] _ _) at h1
  rw [hm] at h1 hR2
  change w1.heap[_]? = some (Obj.cells #[.bool rb] _ _) at h2
  have HD := Lib.hid hm'
  have c0 : w1.cell? ⟨w.heap.size, 0, none⟩ = some (.slice a1 m cap1) := cell_of h1 rfl
  have c1 : w1.cell? ⟨w.heap.size + 1, 0, none⟩ = some (.bool rb) := cell_of h2 rfl
  have H3 := Lib.hid h3
  clear h1 h2 h3 hm hm' hcc
  cases rb
  · go_wp2_with fail
    go_ret
    exact ⟨rfl, H3.out⟩
  · go_wp2_with fail
    go_ret
    exact ⟨by show _ = Ending.returned (.bool (true && decide (rl = []))); rw [Bool.true_and, HD.out]; rfl, H3.out⟩
end Go.Proofs.Ytipmgoejdkpknaa
