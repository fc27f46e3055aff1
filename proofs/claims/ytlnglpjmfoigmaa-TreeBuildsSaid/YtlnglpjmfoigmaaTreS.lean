/- The calls inside Graft's great region. -/
import Derived.Test.YtlnglpjmfoigmaaTreR
import Derived.Deep.RegionWith
namespace Go.Proofs.Ytlnglpjmfoigmaa
open Go.RowKit TreN TreP

set_option maxRecDepth 100000 in
theorem slice_suf (b off len cap k : Nat) (hk : k ≤ len) (hc : len ≤ cap) : ∃ a2, (∀ W : World, (Instr.slice 24 (.slice (some ⟨b, off, none⟩) len cap) (some (.int .i64 (k : Int))) none none).run Try.prog W = .ok (.slice a2 (len - k) (cap - k)) W) ∧
    (∀ W : World, (Instr.sliceAt 24 (.slice (some ⟨b, off, none⟩) len cap) (some (.int .i64 (k : Int))) none none).run Try.prog W = .ok (.slice a2 (len - k) (cap - k)) W) ∧
    (∀ s, sliced (some ⟨b, off, none⟩) (k : Int).toNat len cap 6 = s → s = .slice a2 (len - k) (cap - k)) ∧
    ∀ (W : World) (L : Nat → Nd), Nods W (some ⟨b, off, none⟩) len L → Nods W a2 (len - k) (fun j => L (j + k)) := by
  obtain ⟨i, hi, hz0, hz1, hz2⟩ := info_parts info_node
  have he : Try.prog.elem 24 = 39 := by kernel_rfl
  have hu : Try.prog.underlying 24 = some (.slice (Try.prog.elem 24)) := by rw [he]; exact und_nodes
  have hs : ∀ W : World, (sizeOf (Try.prog.elem 24)).run Try.prog W = .ok 6 W := fun W => by rw [he]; simp [sizeOf, typeInfo, hi, hz1]
  have h1 : ∀ W : World, (Instr.slice 24 (.slice (some ⟨b, off, none⟩) len cap) (some (.int .i64 (k : Int))) none none).run Try.prog W = .ok (sliced (some ⟨b, off, none⟩) k len cap 6) W := fun W => by
    rw [run_slice_l W 24 _ _ _ hu .i64 (k : Int) (by omega) (by omega), hs]
    rfl
  obtain ⟨a2, ha⟩ : ∃ a2, sliced (some ⟨b, off, none⟩) k len cap 6 = .slice a2 (len - k) (cap - k) := ⟨_, rfl⟩
  refine ⟨a2, fun W => by rw [h1, ha], fun W => ?_, fun s h => ?_, fun W L hN => ?_⟩
  · rw [run_sliceAt_slice W 24 _ _ _ _ hu, h1, ha]
  · rw [← h, ← ha]; rfl
  · by_cases h0 : len = k
    · exact Or.inl (by omega)
    · have : sliced (some ⟨b, off, none⟩) k len cap 6 = .slice (some ⟨b, off + k * 6, none⟩) (len - k) (cap - k) := by
        unfold sliced
        have hck : ¬ cap = k := by omega
        simp [hck, Addr.add_lit]
      rw [this] at ha
      injection ha with ha
      rw [← ha]
      exact hN.suf k (by omega)

set_option maxRecDepth 100000 in
theorem slice_pre (b off len cap i : Nat) (hk : i + 1 ≤ cap) : (∀ W : World, (Instr.slice 24 (.slice (some ⟨b, off, none⟩) len cap) none (some (.int .i64 ((i : Int) + 1))) none).run Try.prog W = .ok (.slice (some ⟨b, off, none⟩) (i + 1) cap) W) ∧
    (∀ W : World, (Instr.sliceAt 24 (.slice (some ⟨b, off, none⟩) len cap) none (some (.int .i64 ((i : Int) + 1))) none).run Try.prog W = .ok (.slice (some ⟨b, off, none⟩) (i + 1) cap) W) := by
  obtain ⟨i0, hi, hz0, hz1, hz2⟩ := info_parts info_node
  have he : Try.prog.elem 24 = 39 := by kernel_rfl
  have hu : Try.prog.underlying 24 = some (.slice (Try.prog.elem 24)) := by rw [he]; exact und_nodes
  have hs : ∀ W : World, (sizeOf (Try.prog.elem 24)).run Try.prog W = .ok 6 W := fun W => by rw [he]; simp [sizeOf, typeInfo, hi, hz1]
  have h1 : ∀ W : World, (Instr.slice 24 (.slice (some ⟨b, off, none⟩) len cap) none (some (.int .i64 ((i : Int) + 1))) none).run Try.prog W = .ok (.slice (some ⟨b, off, none⟩) (i + 1) cap) W := fun W => by
    rw [run_slice_h W 24 _ _ _ hu .i64 ((i : Int) + 1) (by omega) (by omega), hs]
    have e : ((i : Int) + 1).toNat = i + 1 := by omega
    simp [sliced, e, Result.andThen, Addr.add_lit]
  exact ⟨h1, fun W => by rw [run_sliceAt_slice W 24 _ _ _ _ hu, h1]⟩

/-- a copy of a part lies in block g -/
def PartAt (W : World) (g n : Nat) (C : Nat → Nd) : Prop := ∃ B, NAt W g 0 n B ∧ EqL C B n
set_option maxRecDepth 100000 in
theorem PartAt.below {W W' : World} {g n : Nat} {C : Nat → Nd} (h : PartAt W g n C) (hb : Below W.heap.size W W') : PartAt W' g n C := by
  obtain ⟨B, h1, h2⟩ := h
  exact ⟨B, h1.below hb, h2⟩

set_option maxRecDepth 100000 in
/-- moved, as Graft calls it -/
theorem moved_part (q : Nat) (caps : Array Value) (f : Int → Int) (eq : ∀ args w, (callFunc q args).run Try.prog w = .ok (.enter q args) w) (a : Option Addr) (len cap : Nat) (L C : Nat → Nd) (w : World)
    (hf : ∀ k, k < len → ∀ W, Below w.heap.size w W → Calls Try.prog q (#[.int .i64 (L k).par] ++ caps) W fun e W' => e = .returned (.int .i64 (f (L k).par)) ∧ W = W')
    (hl : len ≤ 10000) (hN : Nods w a len L) (h8 : ∀ i, i < len → (L i).cl ≤ 8 ∧ (L i).al ≤ 8) (hC : ∀ i, i < len → C i = (L i).withP (f (L i).par)) :
    Calls Try.prog 55 #[.slice a len cap, .func (.func q) #[] caps] w fun e w' => ∃ g, e = .returned (.slice (some ⟨g, 0, none⟩) len len) ∧ PartAt w' g len C ∧ Below w.heap.size w w' := by
  refine (moved_any q caps f eq a len cap L w hf hl hN h8).mono ?_
  rintro e w' ⟨rfl, B, hB⟩
  refine ⟨w.heap.size, rfl, ⟨B, hB.nat, fun i hi => ?_⟩, hB.bel⟩
  obtain ⟨_, _, _, _, h5, h6⟩ := hB.done i hi
  rw [hC i hi]
  exact ⟨h5.withP _, h6⟩

set_option maxRecDepth 100000 in
/-- Concat, as Graft calls it -/
theorem concat_parts (g1 g2 g3 n1 n2 n3 : Nat) (C1 C2 C3 : Nat → Nd) (w : World) (hn1 : 0 < n1 ∧ n1 ≤ 1100) (hn2 : n2 ≤ 1100) (hn3 : n3 ≤ 1100) (h1 : PartAt w g1 n1 C1) (h2 : PartAt w g2 n2 C2) (h3 : PartAt w g3 n3 C3) (C : Nat → Nat → Nd) (n : Nat → Nat)
    (hC0 : C 0 = C1) (hC1 : C 1 = C2) (hC2 : C 2 = C3) (e0 : n 0 = n1) (e1 : n 1 = n2) (e2 : n 2 = n3) :
    Calls Try.prog 54 #[.slice (some ⟨w.heap.size, 0, none⟩) 3 3] (w.alloc (.cells #[.slice (some ⟨g1, 0, none⟩) n1 n1, .slice (some ⟨g2, 0, none⟩) n2 n2, .slice (some ⟨g3, 0, none⟩) n3 n3] 24)) fun e w' =>
      ∃ b cap, e = .returned (.slice (some ⟨b, 0, none⟩) (sumN n 3) cap) ∧ (∃ B, NAt w' b 0 (sumN n 3) B ∧ EqL (catp C n 3) B (sumN n 3)) ∧ Below w.heap.size w w' := by
  obtain ⟨B1, k1, q1⟩ := h1
  obtain ⟨B2, k2, q2⟩ := h2
  obtain ⟨B3, k3, q3⟩ := h3
  have hbel : Below w.heap.size w (w.alloc (.cells #[.slice (some ⟨g1, 0, none⟩) n1 n1, .slice (some ⟨g2, 0, none⟩) n2 n2, .slice (some ⟨g3, 0, none⟩) n3 n3] 24)) := (Below.refl _ _).alloc (Nat.le_refl _) _
  have hnew := heap_alloc_new w (.cells #[.slice (some ⟨g1, 0, none⟩) n1 n1, .slice (some ⟨g2, 0, none⟩) n2 n2, .slice (some ⟨g3, 0, none⟩) n3 n3] 24)
  subst hC0 hC1 hC2 e0 e1 e2
  refine (Concat_any w.heap.size (fun t => if t = 0 then g1 else if t = 1 then g2 else g3) n (fun t => if t = 0 then B1 else if t = 1 then B2 else B3) _ (by simp) (fun t ht => ?_) (fun t ht => ?_) (fun t ht => ?_) hn1.1).mono ?_
  · rcases t with _ | _ | _ | t
    · exact cell_of hnew rfl
    · exact cell_of hnew rfl
    · exact cell_of hnew rfl
    · omega
  · rcases t with _ | _ | _ | t
    · exact k1.below hbel
    · exact k2.below hbel
    · exact k3.below hbel
    · omega
  · rcases t with _ | _ | _ | t
    · exact hn1.2
    · exact hn2
    · exact hn3
    · omega
  · rintro e w' ⟨b, cap, rfl, hN, hb⟩
    refine ⟨b, cap, rfl, ⟨_, hN, EqL_catp _ _ _ 3 fun t ht => ?_⟩, hbel.trans (hb.mono hbel.size)⟩
    rcases t with _ | _ | _ | t
    · exact q1
    · exact q2
    · exact q3
    · omega
end Go.Proofs.Ytlnglpjmfoigmaa
