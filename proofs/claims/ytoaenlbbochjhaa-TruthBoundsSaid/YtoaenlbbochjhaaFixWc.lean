/- Joined texts: FixW11 FixW12 FixW13. -/
import Derived.Test.YtoaenlbbochjhaaFixWa
import Derived.Test.YtoaenlbbochjhaaFixAll
import Derived.Deep.RegionWith
import Derived.Deep.LoopGhost
namespace Go.Proofs.Ytoaenlbbochjhaa
open Go.RowKit FixM FixP

theorem bcell {W w1 : World} (hb : Below W.heap.size W w1) : (∀ b o, b < W.heap.size → w1.cell? ⟨b, o, none⟩ = W.cell? ⟨b, o, none⟩) ∧ (∀ b o, b < W.heap.size → w1.frozen? ⟨b, o, none⟩ = W.frozen? ⟨b, o, none⟩) :=
  ⟨fun b o h => hb.cell (p := ⟨b, o, none⟩) h, fun b o h => hb.frozen (p := ⟨b, o, none⟩) h⟩

/-- nothing that was there has turned; what is new is free to write -/
def BG (w w' : World) : Prop := Below w.heap.size w w' ∧ Grown w w'
theorem BG.refl (w : World) : BG w w := ⟨Below.refl _ _, Grown.refl _⟩
theorem BG.trans {a b c : World} (h1 : BG a b) (h2 : BG b c) : BG a c :=
  ⟨h1.1.trans (h2.1.mono h1.1.size), World.keptBut_trans h1.2.1 h2.2.1, fun x => (h2.2.2.1 x).trans (h1.2.2.1 x), Nat.le_trans h1.2.2.2 h2.2.2.2⟩
theorem BG.alloc {a b : World} (h : BG a b) (c : Array Value) (t : TypeId) : BG a (b.alloc (.cells c t)) := ⟨h.1.alloc h.1.size _, h.2.alloc _ _⟩
theorem BG.drew {a b : World} (h : BG a b) : BG a b.drew := ⟨h.1.drew, h.2.drew⟩

end Go.Proofs.Ytoaenlbbochjhaa

namespace Go.Proofs.Ytoaenlbbochjhaa
open Go.RowKit FixM FixP

theorem add_txt (W : World) (x y : List UInt8) (hx : x.length ≤ 1000) (hy : y.length ≤ 1000) : (Op.stringOp .add ⟨x.toArray⟩ ⟨y.toArray⟩).run Try.prog W = .ok (.string ⟨(x ++ y).toArray⟩) W :=
  run_string_add_lists W x y (by omega) (by omega)

end Go.Proofs.Ytoaenlbbochjhaa

namespace Go.Proofs.Ytoaenlbbochjhaa
open Go.RowKit FixM FixP

end Go.Proofs.Ytoaenlbbochjhaa
