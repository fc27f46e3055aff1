/- Layer 19, the laws: what lies between two parts. -/
import Derived.Test.YtajmmnmagbnigaaStrL1
namespace Go.Proofs.Ytajmmnmagbnigaa
open Go.RowKit FixM StrP Go.Sort
set_option linter.unusedVariables false

set_option maxRecDepth 100000 in
set_option maxHeartbeats 1000000 in
theorem refAdd19_any (a b : Int) (w : World) : Calls Try.prog 16 #[.int .i64 a, .int .i64 b] w fun e w' => e = .returned (.int .i64 (H (H a + H b))) ∧ w = w' := by
  have ha := H_bd a
  have hb := H_bd b
  go_enter Try.func16, Try.ntmps16
  go_wp2_with (go_at_call 17; refine (refHold_any _ _).mono ?_; rintro e w' ⟨rfl, rfl⟩)
  go_ret
  exact ⟨rfl, rfl⟩
theorem Pts19.at_ {W : World} {a : Option Addr} {l : List Pt} (h : Pts19 W a l) {k : Nat} (hk : k < l.length) : ∃ b off, a = some ⟨b, off, none⟩ ∧ b < W.heap.size ∧ ∀ j (h : j < l.length), PtAt W b (off + j * 6) l[j] := by
  rcases h with h | h
  · rw [h] at hk; simp at hk
  · exact h

set_option maxRecDepth 100000 in
set_option maxHeartbeats 4000000 in
theorem StrutBetween_walk (a : Option Addr) (l : List Pt) (n cap : Nat) (i : Int) (top bottom : Bool) (w : World) (hn : l.length = n) (hm : n ≤ 9223372036854775807) (hL : Pts19 w a l) :
    Calls Try.prog 4 #[.slice a n cap, .int .i64 i, .bool top, .bool bottom] w fun e w' => e = .returned (.bool true) ∧ Below w.heap.size w w' := by
  have HK := Lib.hid (fun w => known19_any w)
  have HL := Lib.hid hL
  have HN := Lib.hid hn
  clear hL hn
  by_cases h40 : 40 < n
  · have hz : (40 : Int) < (n : Int) := by omega
    go_enter Try.func4, Try.ntmps4
    go_wp2_with fail
    refine (HK.out _).mono ?_
    rintro e w1 ⟨rfl, hb⟩
    have HB := Lib.hid hb
    clear hb
    go_wp2_with fail
    go_ret
    exact ⟨rfl, HB.out⟩
  have hz : (n : Int) ≤ 40 := by omega
  by_cases hi0 : i < 0
  · go_enter Try.func4, Try.ntmps4
    go_wp2_with fail
    refine (HK.out _).mono ?_
    rintro e w1 ⟨rfl, hb⟩
    have HB := Lib.hid hb
    clear hb
    go_wp2_with fail
    go_ret
    exact ⟨rfl, HB.out⟩
  by_cases hi1 : (n : Int) - 1 ≤ i
  · have hi2 : 0 ≤ i := by omega
    go_enter Try.func4, Try.ntmps4
    go_wp2_with fail
    refine (HK.out _).mono ?_
    rintro e w1 ⟨rfl, hb⟩
    have HB := Lib.hid hb
    clear hb
    go_wp2_with fail
    go_ret
    exact ⟨rfl, HB.out⟩
  obtain ⟨k, rfl⟩ : ∃ k : Nat, i = (k : Int) := ⟨i.toNat, by omega⟩
  have hk : k + 1 < n := by omega
  have hkl : k < l.length := by rw [HN.out]; omega
  have hkl1 : k + 1 < l.length := by rw [HN.out]; omega
  obtain ⟨b, off, rfl, hb, hc⟩ := HL.out.at_ hkl
  have hc0 := hc k hkl
  have hc1 := hc (k + 1) hkl1
  obtain ⟨p, hp⟩ : ∃ p, l[k] = p := ⟨_, rfl⟩
  obtain ⟨q, hq⟩ : ∃ q, l[k + 1] = q := ⟨_, rfl⟩
  rw [hp] at hc0
  rw [hq] at hc1
  obtain ⟨p0, p1, p2, p3, p4, p5⟩ := hc0
  obtain ⟨q0, q1, q2, q3, q4, q5⟩ := hc1
  have HPQ := Lib.hid (And.intro hp hq)
  have hkz : (k : Int) < (n : Int) := by omega
  have hkz1 : (k : Int) + 1 < (n : Int) := by omega
  have hkz2 : (k : Int) < (n : Int) - 1 := by omega
  clear hc hp hq hi0 hi1
  cases ht : p.thr
  · rw [ht] at p5
    have HT := Lib.hid ht
    clear ht
    cases hu : q.thr
    · rw [hu] at q5
      have HU := Lib.hid hu
      clear hu
      have hP := Put19_any (some ⟨b, off, none⟩) l n cap top bottom w HN.out (by omega) HL.out
      obtain ⟨s, hs⟩ : ∃ s, fin (run (sk0 top bottom) l) = s := ⟨_, rfl⟩
      rw [hs] at hP
      have HP := Lib.hid hP
      have g0 := ats_get l (sk0 top bottom) k hkl
      have g1 := ats_get l (sk0 top bottom) (k + 1) hkl1
      rw [HPQ.out.1] at g0
      rw [HPQ.out.2] at g1
      have htk : l.take (k + 1) = l.take k ++ [p] := by rw [← HPQ.out.1]; simp
      rw [htk, run_snoc, between _ _ _ HT.out] at g1
      obtain ⟨A, hA⟩ : ∃ A, atP (run (sk0 top bottom) (l.take k)) p = A := ⟨_, rfl⟩
      rw [hA] at g0 g1
      have HG := Lib.hid (And.intro g0 g1)
      clear hP hs g0 g1 htk hA
      have CJ0 := fun w => Join19_any p.bu p.bd q.tu q.td w
      obtain ⟨ju, hju⟩ : ∃ x, jU p.bu q.tu = x := ⟨_, rfl⟩
      obtain ⟨jd, hjd⟩ : ∃ x, jD p.bd q.td = x := ⟨_, rfl⟩
      rw [hju, hjd] at CJ0 HG
      have CW0 := fun w => Worth19_any ju jd w
      obtain ⟨wo, hwo⟩ : ∃ x, wT ju jd = x := ⟨_, rfl⟩
      rw [hwo] at CW0 HG
      have CA0 := fun w => refAdd19_any A p.h w
      obtain ⟨en, hen⟩ : ∃ x, H (H A + H p.h) = x := ⟨_, rfl⟩
      rw [hen] at CA0 HG
      have CB0 := fun w => refAdd19_any en wo w
      obtain ⟨an, han⟩ : ∃ x, H (H en + H wo) = x := ⟨_, rfl⟩
      rw [han] at CB0 HG
      have CJ := Lib.hid CJ0
      have CW := Lib.hid CW0
      have CA := Lib.hid CA0
      have CB := Lib.hid CB0
      clear CJ0 CW0 CA0 CB0 hju hjd hwo hen han
      go_enter Try.func4, Try.ntmps4
      go_wp2_with fail
      refine HP.out.mono ?_
      rintro e w1 hpi
      obtain ⟨nv, rfl, ho, hb1⟩ := hpi
      obtain ⟨g, c, rfl, _, _⟩ := ho.form (by omega)
      unfold stv
      have hA1 : w1.cell? ⟨g, k, none⟩ = some (.int .i64 A) := by
        rw [ho.cellAt k (by omega)]
        unfold inc
        rw [List.getElem?_map, HG.out.1]; rfl
      have hA2 : w1.cell? ⟨g, k + 1, none⟩ = some (.int .i64 an) := by
        rw [ho.cellAt (k + 1) (by omega)]
        unfold inc
        rw [List.getElem?_map, HG.out.2]; rfl
      have hb2 : Below w1.heap.size w1 (w1.alloc (.cells #[.slice (some ⟨g, 0, none⟩) n c, .int .i64 s.hu, .int .i64 s.hd, .int .i64 s.fu, .int .i64 s.fd, .int .i64 s.hh, .bool s.th] 40)) := (Below.refl _ _).alloc (Nat.le_refl _) _
      have hgl : g < w1.heap.size := World.block_lt_of_cell? w1 _ hA1
      have hbl : b < w1.heap.size := Nat.lt_of_lt_of_le hb hb1.size
      have hx := heap_alloc_new w1 (.cells #[.slice (some ⟨g, 0, none⟩) n c, .int .i64 s.hu, .int .i64 s.hd, .int .i64 s.fu, .int .i64 s.fd, .int .i64 s.hh, .bool s.th] 40)
      generalize hW : w1.alloc (.cells #[.slice (some ⟨g, 0, none⟩) n c, .int .i64 s.hu, .int .i64 s.hd, .int .i64 s.fu, .int .i64 s.fd, .int .i64 s.hh, .bool s.th] 40) = W at *
      have hbw : Below w.heap.size w W := hb1.trans (hb2.mono hb1.size)
      have HBW := Lib.hid hbw
      have hA1 := (hb2.cell (p := ⟨g, k, none⟩) hgl).trans hA1
      have hA2 := (hb2.cell (p := ⟨g, k + 1, none⟩) hgl).trans hA2
      have p2 := (hbw.cell (p := ⟨b, _, none⟩) hb).trans p2
      have p3 := (hbw.cell (p := ⟨b, _, none⟩) hb).trans p3
      have p4 := (hbw.cell (p := ⟨b, _, none⟩) hb).trans p4
      have q0 := (hbw.cell (p := ⟨b, _, none⟩) hb).trans q0
      have q1 := (hbw.cell (p := ⟨b, _, none⟩) hb).trans q1
      have x0 : W.cell? ⟨w1.heap.size, 0, none⟩ = some (.slice (some ⟨g, 0, none⟩) n c) := cell_ofS hx rfl
      have hw1 : w1.heap.size < W.heap.size := blk_ltS hx
      have hn2 : IntKind.i64.wrap ((k : Int) + 1) = (k : Int) + 1 := IntWalk.i64_in _ (by omega)
      have hnn : ((n : Int) != (n : Int)) = false := by simp
      have hkn : ((k : Int) + 1).toNat = k + 1 := by omega
      have hk0 : (0 : Int) ≤ (k : Int) + 1 := by omega
      clear ho hb1 hb2 hbw hx hgl hbl HG
      have HQ := Lib.hid (And.intro hA2 (And.intro p2 (And.intro p3 (And.intro q0 (And.intro q1 x0)))))
      go_wp2_with fail
      have rx0 := cell_regrown x0
      have rhA1 := cell_regrown hA1
      have rp4 := cell_regrown p4
      have cA : ∀ d os, Calls Try.prog 16 #[.int .i64 A, .int .i64 p.h] (grow (redrawn W d) os) fun e w'' => e = .returned (.int .i64 en) ∧ ∃ p : Regrown, w'' = grow (redrawn W p.d) p.os := fun d os => Calls.regrown_of ((CA.out _).mono fun e w' h => ⟨h.1, by rw [← h.2]; exact Below.refl _ _⟩)
      clear hA1 hA2 p2 p3 p4 q0 q1 x0 p0 p1 p5 q2 q3 q4 q5
      refine wp_region_quiet_below (by kernel_rfl) (by kernel_rfl) ?_
      repeat (quiet_step (first | exact cA _ _))
      refine wpQuiet_nil ?_
      intro _ hw'
      obtain ⟨⟨dq, osq⟩, hw''⟩ := hw'
      subst hw''
      have hbX := below_regrown W dq osq
      obtain ⟨hA2, p2, p3, q0, q1, x0⟩ := HQ.out
      generalize grow (redrawn W dq) osq = X at *
      have hblw := Nat.lt_of_lt_of_le hb HBW.out.size
      have hglw : g < W.heap.size := World.block_lt_of_cell? W _ hA2
      have hA2 := (hbX.cell (p := ⟨g, _, none⟩) hglw).trans hA2
      have p2 := (hbX.cell (p := ⟨b, _, none⟩) hblw).trans p2
      have p3 := (hbX.cell (p := ⟨b, _, none⟩) hblw).trans p3
      have q0 := (hbX.cell (p := ⟨b, _, none⟩) hblw).trans q0
      have q1 := (hbX.cell (p := ⟨b, _, none⟩) hblw).trans q1
      have x0 := (hbX.cell (p := ⟨w1.heap.size, _, none⟩) hw1).trans x0
      have HBX := Lib.hid (HBW.out.trans (hbX.mono HBW.out.size))
      clear rx0 rhA1 rp4 cA hbX hblw hglw HBW
      go_wp2_with fail
      have rx0 := cell_regrown x0
      have rhA2 := cell_regrown hA2
      have rp2 := cell_regrown p2
      have rp3 := cell_regrown p3
      have rq0 := cell_regrown q0
      have rq1 := cell_regrown q1
      have cJ : ∀ d os, Calls Try.prog 8 #[.agg #[.int .i64 p.bu, .int .i64 p.bd], .agg #[.int .i64 q.tu, .int .i64 q.td]] (grow (redrawn X d) os) fun e w'' => e = .returned (.agg #[.int .i64 ju, .int .i64 jd]) ∧ ∃ p : Regrown, w'' = grow (redrawn X p.d) p.os := fun d os => Calls.regrown_of (CJ.out _)
      have cW : ∀ d os, Calls Try.prog 10 #[.agg #[.int .i64 ju, .int .i64 jd]] (grow (redrawn X d) os) fun e w'' => e = .returned (.int .i64 wo) ∧ ∃ p : Regrown, w'' = grow (redrawn X p.d) p.os := fun d os => Calls.regrown_of (CW.out _)
      have cB : ∀ d os, Calls Try.prog 16 #[.int .i64 en, .int .i64 wo] (grow (redrawn X d) os) fun e w'' => e = .returned (.int .i64 an) ∧ ∃ p : Regrown, w'' = grow (redrawn X p.d) p.os := fun d os => Calls.regrown_of ((CB.out _).mono fun e w' h => ⟨h.1, by rw [← h.2]; exact Below.refl _ _⟩)
      have cK : ∀ d os, Calls Try.prog 14 #[] (grow (redrawn X d) os) fun e w'' => e = .returned (.bool true) ∧ ∃ p : Regrown, w'' = grow (redrawn X p.d) p.os := fun d os => Calls.regrown_of (HK.out _)
      clear hA2 p2 p3 q0 q1 x0
      refine wp_region_quiet_below (by kernel_rfl) (by kernel_rfl) ?_
      repeat (quiet_step (first | exact cJ _ _ | exact cW _ _ | exact cB _ _ | exact cK _ _))
      refine wpQuiet_nil ?_
      intro _ hw'
      obtain ⟨⟨dq2, osq2⟩, hw''⟩ := hw'
      subst hw''
      go_wp2_with fail
      go_ret
      exact ⟨rfl, HBX.out.trans ((below_regrown X dq2 osq2).mono HBX.out.size)⟩
    · rw [hu] at q5
      have HU := Lib.hid hu
      clear hu
      go_enter Try.func4, Try.ntmps4
      go_wp2_with fail
      refine (HK.out _).mono ?_
      rintro e w1 ⟨rfl, hb⟩
      have HB := Lib.hid hb
      clear hb
      go_wp2_with fail
      go_ret
      exact ⟨rfl, HB.out⟩
  · rw [ht] at p5
    have HT := Lib.hid ht
    clear ht
    go_enter Try.func4, Try.ntmps4
    go_wp2_with fail
    refine (HK.out _).mono ?_
    rintro e w1 ⟨rfl, hb⟩
    have HB := Lib.hid hb
    clear hb
    go_wp2_with fail
    go_ret
    exact ⟨rfl, HB.out⟩
end Go.Proofs.Ytajmmnmagbnigaa
