/- Joined texts: Mem Scope. -/
import Derived.Test.YthfabalnioggcaaProg
import Derived.WalkKit
import Derived.Lib.Hide
import Derived.ScopeJumps
namespace Go.Proofs.Ythfabalnioggcaa
open Go.RowKit

set_option maxRecDepth 100000 in
theorem setCell_here {w : World} {b k : Nat} {cur : Array Value} {t : TypeId} {fz : Nat × Nat} (v : Value) (h : w.heap[b]? = some (.cells cur t fz)) : (w.setCell ⟨b, k, none⟩ v).heap[b]? = some (.cells (cur.setIfInBounds k v) t fz) := by
  simp [World.setCell, Array.getElem?_modify, h]
set_option maxRecDepth 100000 in
theorem setCell_there {w : World} {b k b' : Nat} (v : Value) (h : b' ≠ b) : (w.setCell ⟨b, k, none⟩ v).heap[b']? = w.heap[b']? := by
  have h' : ¬ b = b' := fun e => h e.symm
  simp [World.setCell, Array.getElem?_modify, h']
set_option maxRecDepth 100000 in
theorem cell_of {w : World} {b k : Nat} {cur : Array Value} {t : TypeId} {v : Value} (h : w.heap[b]? = some (.cells cur t (0, 0))) (hv : cur[k]? = some v) : w.cell? ⟨b, k, none⟩ = some v := by
  simp [World.cell?, h, hv]
set_option maxRecDepth 100000 in
theorem unfrozen_of {w : World} {b k : Nat} {cur : Array Value} {t : TypeId} (h : w.heap[b]? = some (.cells cur t (0, 0))) : w.frozen? ⟨b, k, none⟩ = false := by
  simp [World.frozen?, h]
set_option maxRecDepth 100000 in
theorem setCell_size (w : World) (p : Addr) (v : Value) : (w.setCell p v).heap.size = w.heap.size := by simp [World.setCell]

/-- x is w, but block b holds three other cells -/
structure Three (w x : World) (b : Nat) (T : TypeId) (n0 n1 n2 : Value) : Prop where
  here : x.heap[b]? = some (.cells #[n0, n1, n2] T (0, 0))
  there : ∀ k, k ≠ b → x.heap[k]? = w.heap[k]?
  size : x.heap.size = w.heap.size
  below : ∀ (lo : Nat) (a : World), lo ≤ b → Below lo a w → Below lo a x

theorem three_store (w : World) (b : Nat) (T : TypeId) (v0 v1 v2 n0 n1 n2 : Value) (h : w.heap[b]? = some (.cells #[v0, v1, v2] T (0, 0))) :
    ∃ x1 x2 x3, (w.cell? ⟨b, 0, none⟩ = some v0 ∧ w.frozen? ⟨b, 0, none⟩ = false ∧ w.setCell ⟨b, 0, none⟩ n0 = x1) ∧
      (x1.cell? ⟨b, 1, none⟩ = some v1 ∧ x1.frozen? ⟨b, 1, none⟩ = false ∧ x1.setCell ⟨b, 1, none⟩ n1 = x2) ∧
      (x2.cell? ⟨b, 2, none⟩ = some v2 ∧ x2.frozen? ⟨b, 2, none⟩ = false ∧ x2.setCell ⟨b, 2, none⟩ n2 = x3) ∧ Three w x3 b T n0 n1 n2 := by
  have h1 := setCell_here (k := 0) n0 h
  have h2 := setCell_here (k := 1) n1 h1
  have h3 := setCell_here (k := 2) n2 h2
  refine ⟨_, _, _, ⟨cell_of h rfl, unfrozen_of h, rfl⟩, ⟨cell_of h1 rfl, unfrozen_of h1, rfl⟩, ⟨cell_of h2 rfl, unfrozen_of h2, rfl⟩, h3, fun k hk => ?_, ?_, fun lo a hlo hb => ?_⟩
  · rw [setCell_there _ hk, setCell_there _ hk, setCell_there _ hk]
  · simp only [setCell_size]
  · exact ((hb.setCell (p := ⟨b, 0, none⟩) hlo n0).setCell (p := ⟨b, 1, none⟩) hlo n1).setCell (p := ⟨b, 2, none⟩) hlo n2
end Go.Proofs.Ythfabalnioggcaa

namespace Go.Proofs.Ythfabalnioggcaa

/-- As Q; by a goto to label l: J l. -/
def jumps (J : Nat → Act → World → Prop) (Q : Exit → Act → World → Prop) : Exit → Act → World → Prop
  | .goto l, a, w => J l a w
  | e, a, w => Q e a w

theorem wp_scope_labels {P : Program} {a : Act} {w : World} {Q : Exit → Act → World → Prop} {c : Code} (J : Nat → Act → World → Prop) (μ : Nat → Act → World → Nat)
    (first : c.wp P (jumps J Q) a w)
    (pass : ∀ l a w, J l a w → ∃ X, findLabel c l = some (.seq .skip X) ∧ X.wp P (jumps (fun l' a' w' => J l' a' w' ∧ μ l' a' w' < μ l a w) Q) a w) : (Code.scope c).wp P Q a w := by
  intro b k cs
  have hg : ∀ l rest, findLabel c l = some rest → gotoIn l (.inScope c :: k) = some (.code rest :: .inScope c :: k) := fun l rest h => by simp [gotoIn, h]
  have key : ∀ n l rest a w, μ l a w = n → J l a w → findLabel c l = some rest → ∃ e a' w', Q e a' w' ∧ Arrives P (lone (b.at a (.code rest :: .inScope c :: k)) cs w) b k cs e a' w' := by
    intro n
    induction n using Nat.strongRecOn with
    | _ n ih =>
      intro l rest a w hn hJ hr
      obtain ⟨X, hr', hX⟩ := pass l a w hJ
      rw [hr] at hr'
      injection hr' with hr'
      subst hr'
      have hp : (Code.seq .skip X).wp P (jumps (fun l' a' w' => J l' a' w' ∧ μ l' a' w' < μ l a w) Q) a w := wp_seq (wp_skip hX)
      obtain ⟨e, a₁, w₁, hq, harr⟩ := hp b (.inScope c :: k) cs
      cases e with
      | normal => exact ⟨.normal, a₁, w₁, hq, Steps.trans harr (.one step_inScope)⟩
      | exit id => exact ⟨.exit id, a₁, w₁, hq, fun k' hk => harr k' (by simp [exitTo, hk])⟩
      | goto l' =>
        obtain ⟨hJ', hlt⟩ := hq
        obtain ⟨r2, h2, _⟩ := pass l' a₁ w₁ hJ'
        obtain ⟨e₂, a₂, w₂, hq₂, harr₂⟩ := ih _ (by omega) l' _ a₁ w₁ rfl hJ' h2
        exact ⟨e₂, a₂, w₂, hq₂, .of_steps (harr _ (hg _ _ h2)) harr₂⟩
      | ret => exact ⟨_, a₁, w₁, hq, harr⟩
      | panic ch => exact ⟨_, a₁, w₁, hq, harr⟩
      | outgrown => exact ⟨_, a₁, w₁, hq, harr⟩
  obtain ⟨e, a₁, w₁, hq, harr⟩ := first b (.inScope c :: k) cs
  cases e with
  | normal => exact ⟨.normal, a₁, w₁, hq, .head step_scope (Steps.trans harr (.one step_inScope))⟩
  | exit id => exact ⟨.exit id, a₁, w₁, hq, fun k' hk => .head step_scope (harr k' (by simp [exitTo, hk]))⟩
  | goto l' =>
    obtain ⟨r2, h2, _⟩ := pass l' a₁ w₁ hq
    obtain ⟨e₂, a₂, w₂, hq₂, harr₂⟩ := key _ l' _ a₁ w₁ rfl hq h2
    exact ⟨e₂, a₂, w₂, hq₂, .of_steps (.head step_scope (harr _ (hg _ _ h2))) harr₂⟩
  | ret => exact ⟨_, a₁, w₁, hq, .of_steps (.one step_scope) harr⟩
  | panic ch => exact ⟨_, a₁, w₁, hq, .of_steps (.one step_scope) harr⟩
  | outgrown => exact ⟨_, a₁, w₁, hq, .of_steps (.one step_scope) harr⟩
end Go.Proofs.Ythfabalnioggcaa
