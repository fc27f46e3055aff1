/- Layer 19, the laws: with neither end open nothing comes out. -/
import Derived.Test.YtajmmnmagbnigaaStrK
import Derived.Test.YtajmmnmagbnigaaStrQ
namespace Go.Proofs.Ytajmmnmagbnigaa
open Go.RowKit FixM StrP Go.Sort
set_option linter.unusedVariables false

theorem put_zero (w : World) (n : Nat) (s : Sk) (xs : List Int) (e : Ending) (w' : World) (h : PutIs w n s xs e w') : ∃ x m c, e = .returned (stv (.slice x m c) s) ∧ m = n ∧ w'.ownsRow w.heap.size 3 1 (.slice x m c) n (inc xs) ∧ Below w.heap.size w w' := by
  obtain ⟨nv, rfl, ho, hb⟩ := h
  rcases ho.2 with ⟨h1, h2⟩ | ⟨g, cap, cur, h1, h2⟩
  · subst h1; exact ⟨_, _, _, rfl, h2.symm, ho, hb⟩
  · subst h1; exact ⟨_, _, _, rfl, rfl, ho, hb⟩
set_option maxRecDepth 100000 in
set_option maxHeartbeats 4000000 in
theorem StrutClosed_walk (a : Option Addr) (l : List Pt) (n cap : Nat) (w : World) (hn : l.length = n) (hm : n ≤ 9223372036854775807) (hL : Pts19 w a l) :
    Calls Try.prog 5 #[.slice a n cap] w fun e w' => e = .returned (.bool true) ∧ Below w.heap.size w w' := by
  have HK := Lib.hid (fun w => known19_any w)
  by_cases h60 : 60 < n
  · have hz : (60 : Int) < (n : Int) := by omega
    clear hL hn
    go_enter Try.func5, Try.ntmps5
    go_wp2_with fail
    refine (HK.out _).mono ?_
    rintro e w1 ⟨rfl, hb⟩
    have HB := Lib.hid hb
    clear hb
    go_wp2_with fail
    go_ret
    exact ⟨rfl, HB.out⟩
  · have hz : (n : Int) ≤ 60 := by omega
    have hP := Put19_any a l n cap false false w hn (by omega) hL
    obtain ⟨hS, hH⟩ := run_shut l
    obtain ⟨q, hq⟩ : ∃ q, fin (run (sk0 false false) l) = q := ⟨_, rfl⟩
    rw [hq] at hP hS hH
    have HP := Lib.hid hP
    obtain ⟨e1, e2, e3, e4, e5, _, _⟩ := hS
    clear hL hn hP hq h60
    go_enter Try.func5, Try.ntmps5
    go_wp2_with fail
    refine HP.out.mono ?_
    rintro e w1 hpi
    obtain ⟨x, m, c, rfl, _, _, hb⟩ := put_zero _ _ _ _ _ _ hpi
    unfold stv
    have HB := Lib.hid hb
    rw [e1, e2, e3, e4, e5]
    obtain ⟨hh, hhh⟩ : ∃ y, q.hh = y := ⟨_, rfl⟩
    rw [hhh] at hH ⊢
    have hq1 : ∀ W : World, (binOp .eql 23 (.agg #[.int .i64 0, .int .i64 0]) (.agg #[.int .i64 0, .int .i64 0])).run Try.prog W = .ok (.bool true) W := fun W => by rw [sr_eql]; rfl
    clear hb hpi e1 e2 e3 e4 e5 hhh HP
    go_wp2_with fail
    refine (HK.out _).mono ?_
    rintro e w2 ⟨rfl, hb2⟩
    have HB2 := Lib.hid hb2
    clear hb2
    go_wp2_with fail
    go_ret
    refine ⟨rfl, ?_⟩
    have h1 := HB.out
    have h2 := HB2.out
    exact (h1.trans ((((Below.refl _ _).alloc (Nat.le_refl _) _).alloc (by simp) _).mono h1.size)).trans (h2.mono (by have := h1.size; simp; omega))
end Go.Proofs.Ytajmmnmagbnigaa
