/- The walk of layer 4's moved. -/
import Derived.Test.YtlnglpjmfoigmaaTreM
import Derived.Test.YtlnglpjmfoigmaaTreC
namespace Go.Proofs.Ytlnglpjmfoigmaa
open Go.RowKit TreN TreP

/-- a box of one node, before its node is in -/
def box0 (w : World) : World := w.alloc (.cells #[.int .i64 0, .string ⟨#[]⟩, .string ⟨#[]⟩, .slice none 0 0, .slice none 0 0, .string ⟨#[]⟩] 39)

set_option maxRecDepth 100000 in
set_option maxHeartbeats 4000000 in
theorem moved_any (q : Nat) (caps : Array Value) (f : Int → Int) (eq : ∀ args w, (callFunc q args).run Try.prog w = .ok (.enter q args) w) (a : Option Addr) (len cap : Nat) (L : Nat → Nd) (w : World)
    (hf : ∀ k, k < len → ∀ W, Below w.heap.size w W → Calls Try.prog q (#[.int .i64 (L k).par] ++ caps) W fun e W' => e = .returned (.int .i64 (f (L k).par)) ∧ W = W')
    (hl : len ≤ 10000) (hN : Nods w a len L) (h8 : ∀ i, i < len → (L i).cl ≤ 8 ∧ (L i).al ≤ 8) :
    Calls Try.prog 55 #[.slice a len cap, .func (.func q) #[] caps] w fun e w' => e = .returned (.slice (some ⟨w.heap.size, 0, none⟩) len len) ∧ ∃ B, Mov w w' w.heap.size len len L f B := by
  have hmk := make_nodes len hl
  have HN := Lib.hid hN
  have HF := Lib.hid hf
  have H8 := Lib.hid h8
  have HM := Lib.hid (Mov.start w len L f L)
  clear hN hf h8
  go_enter Try.func55, Try.ntmps55
  go_wp2_with fail
  go_loopw [13] (fun vi wr => ∃ (k : Nat) (B : Nat → Nd), vi = .int .i64 k ∧ k ≤ len ∧ Hid (Mov w wr w.heap.size len k L f B)) (fun vi _ => len - (intOf vi).toNat)
  case atStart => exact ⟨0, L, rfl, by omega, HM⟩
  case round =>
    obtain ⟨k, B, rfl, hk, HM⟩ := hrel
    by_cases hlt : k < len
    · have hltz : (k : Int) < (len : Int) := by omega
      have h1 := HN.out.below HM.out.bel
      have h1' := h1.at_ hlt
      obtain ⟨b, off, rfl, ⟨c0, c1, c2, c3, c4, c5⟩, hin⟩ := h1'
      have hS : ∀ j, j < 6 → ∃ v, (box0 wr).cell? ⟨wr.heap.size, 0 + j, none⟩ = some v := by
        intro j hj
        have hb := heap_alloc_new wr (.cells #[.int .i64 0, .string ⟨#[]⟩, .string ⟨#[]⟩, .slice none 0 0, .slice none 0 0, .string ⟨#[]⟩] 39)
        rcases j with _ | _ | _ | _ | _ | _ | j
        · exact ⟨_, cell_of hb rfl⟩
        · exact ⟨_, cell_of hb rfl⟩
        · exact ⟨_, cell_of hb rfl⟩
        · exact ⟨_, cell_of hb rfl⟩
        · exact ⟨_, cell_of hb rfl⟩
        · exact ⟨_, cell_of hb rfl⟩
        · omega
      obtain ⟨x1, x2, x3, x4, x5, x6, v0, v1, v2, v3, v4, v5, s0, s1, s2, s3, s4, s5, h6⟩ := six_store (box0 wr) wr.heap.size 0 (.int .i64 (L k).par) (.string (L k).tag) (.string (L k).id) (.slice (L k).ca (L k).cl (L k).cc) (.slice (L k).aa (L k).al (L k).ac) (.string (L k).tx) hS
        (fun j _ => unfrozen_of (heap_alloc_new wr (.cells #[.int .i64 0, .string ⟨#[]⟩, .string ⟨#[]⟩, .slice none 0 0, .slice none 0 0, .string ⟨#[]⟩] 39)))
      have y0 := h6.h0
      have y1 := h6.h1
      have y2 := h6.h2
      have y3 := h6.h3
      have y4 := h6.h4
      have y5 := h6.h5
      simp only [Nat.zero_add] at s1 s2 s3 s4 s5 y1 y2 y3 y4 y5
      obtain ⟨p0, q0, r0⟩ := s0
      obtain ⟨p1, q1, r1⟩ := s1
      obtain ⟨p2, q2, r2⟩ := s2
      obtain ⟨p3, q3, r3⟩ := s3
      obtain ⟨p4, q4, r4⟩ := s4
      obtain ⟨p5, q5, r5⟩ := s5
      have hbx : wr.alloc (.cells #[.int .i64 0, .string ⟨#[]⟩, .string ⟨#[]⟩, .slice none 0 0, .slice none 0 0, .string ⟨#[]⟩] 39) = box0 wr := rfl
      have hbel : Below wr.heap.size wr x6 := h6.below _ _ (Nat.le_refl _) ((Below.refl _ _).alloc (Nat.le_refl _) _)
      have hsz : x6.heap.size = wr.heap.size + 1 := by rw [h6.size]; simp [box0]
      have HBX := Lib.hid hbel
      have HSZ := Lib.hid hsz
      have hclone := clone_any (L k) x6 (hin.below hbel) (H8.out k hlt).1 (H8.out k hlt).2
      rw [Nd.val_eq] at hclone
      have HC := Lib.hid hclone
      clear hS h6 h1 hin hbel hsz hclone
      generalize box0 wr = wb at p0 q0 r0 hbx
      go_wp2_with fail
      clear c0 c1 c2 c3 c4 c5 y1 y2 y3 y4 y5 p0 q0 r0 p1 q1 r1 p2 q2 r2 p3 q3 r3 p4 q4 r4 p5 q5 r5 hbx
      refine HC.out.mono ?_
      rintro e w2 ⟨D, rfl, hEq, hpar, hD, hU1, hU2, hB2⟩
      rw [Nd.val_eq]
      have hlt2 := HM.out.lt
      have z0 : w2.cell? ⟨wr.heap.size, 0, none⟩ = some (.int .i64 (L k).par) := (hB2.cell (p := ⟨wr.heap.size, 0, none⟩) (by have := HSZ.out; show wr.heap.size < x6.heap.size; omega)).trans y0
      have hM2 := (HM.out.grow HBX.out).grow hB2
      have hup1 : Up (w.heap.size + 1) D.ca D.cl := hU1.mono (by have := HSZ.out; omega)
      have hup2 : Up (w.heap.size + 1) D.aa D.al := hU2.mono (by have := HSZ.out; omega)
      obtain ⟨x1', x2', x3', x4', x5', x6', v0', v1', v2', v3', v4', v5', s0, s1, s2, s3, s4, s5, h6⟩ := six_store w2 w.heap.size (k * 6) (.int .i64 D.par) (.string D.tag) (.string D.id) (.slice D.ca D.cl D.cc) (.slice D.aa D.al D.ac) (.string D.tx)
        (fun j hj => hM2.there _ (by omega)) (fun j hj => hM2.froz _ (by omega))
      obtain ⟨p0, q0, r0⟩ := s0
      obtain ⟨p1, q1, r1⟩ := s1
      obtain ⟨p2, q2, r2⟩ := s2
      obtain ⟨p3, q3, r3⟩ := s3
      obtain ⟨p4, q4, r4⟩ := s4
      obtain ⟨p5, q5, r5⟩ := s5
      have z0' : x6'.cell? ⟨wr.heap.size, 0, none⟩ = some (.int .i64 (L k).par) := (h6.other _ _ (Or.inl (by omega))).trans z0
      have hbw : Below w.heap.size w x6' := h6.below _ _ (Nat.le_refl _) hM2.bel
      have CF := Lib.hid (HF.out k hlt x6' hbw)
      have t0 := h6.h0
      have tf : x6'.frozen? ⟨w.heap.size, k * 6, none⟩ = false := (h6.froz _).trans (hM2.froz _ (by omega))
      have hMs := hM2.step (x := x6'.setCell ⟨w.heap.size, k * 6, none⟩ (.int .i64 (f (L k).par))) hlt { D with par := f (L k).par } (h6.reset _) ⟨hD.stag, hD.sid, hD.stx, hD.scl, hD.sal, hD.scs, hD.san, hD.sav, hD.hc, hD.ha⟩ hup1 hup2 ⟨hEq.tag, hEq.id, hEq.tx, hEq.cl, hEq.al, hEq.cs, hEq.an, hEq.av⟩ rfl
      have HMS := Lib.hid hMs
      clear hMs h6 hbw hup1 hup2 hM2 z0 hEq hpar hD hU1 hU2 hB2 y0 HC hlt2
      go_wp2_with fail
      refine CF.out.mono ?_
      rintro e w3 ⟨rfl, rfl⟩
      go_wp2_with fail
      go_roundw
      case rel => exact ⟨k + 1, _, by go_num, by omega, HMS⟩
      case measure => simp [intOf]; omega
    · go_wp2_with fail
      go_ret
      have e : k = len := by omega
      subst e
      exact ⟨rfl, B, HM.out⟩
end Go.Proofs.Ytlnglpjmfoigmaa
