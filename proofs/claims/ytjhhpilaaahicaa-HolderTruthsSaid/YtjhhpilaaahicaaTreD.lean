/- Nodes, as the walks are told of them. -/
import Derived.Test.YtjhhpilaaahicaaTreW6
import Derived.Test.YtjhhpilaaahicaaWalkA
namespace Go.Proofs.Ytjhhpilaaahicaa
open Go.RowKit TreN TreP

/-- a node's cells, and what its lists hold -/
structure Nd where
  par : Int
  tag : ByteArray
  id : ByteArray
  ca : Option Addr
  cl : Nat
  cc : Nat
  aa : Option Addr
  al : Nat
  ac : Nat
  tx : ByteArray
  cs : Nat → ByteArray
  an : Nat → ByteArray
  av : Nat → ByteArray
def Nd.val (n : Nd) : Array Value := #[.int .i64 n.par, .string n.tag, .string n.id, .slice n.ca n.cl n.cc, .slice n.aa n.al n.ac, .string n.tx]

/-- a row of texts -/
def Strs (w : World) (a : Option Addr) (len : Nat) (c : Nat → ByteArray) : Prop := len = 0 ∨ ∃ b off, a = some ⟨b, off, none⟩ ∧ b < w.heap.size ∧ ∀ i, i < len → w.cell? ⟨b, off + i, none⟩ = some (.string (c i))
/-- a row of pairs of texts -/
def Atts (w : World) (a : Option Addr) (len : Nat) (c d : Nat → ByteArray) : Prop := len = 0 ∨ ∃ b off, a = some ⟨b, off, none⟩ ∧ b < w.heap.size ∧ ∀ i, i < len → w.cell? ⟨b, off + i * 2, none⟩ = some (.string (c i)) ∧ w.cell? ⟨b, off + i * 2 + 1, none⟩ = some (.string (d i))
structure NdIn (w : World) (n : Nd) : Prop where
  stag : n.tag.size ≤ maxLen
  sid : n.id.size ≤ maxLen
  stx : n.tx.size ≤ maxLen
  scl : n.cl ≤ maxLen
  sal : n.al ≤ maxLen
  scs : ∀ i, i < n.cl → (n.cs i).size ≤ maxLen
  san : ∀ i, i < n.al → (n.an i).size ≤ maxLen
  sav : ∀ i, i < n.al → (n.av i).size ≤ maxLen
  hc : Strs w n.ca n.cl n.cs
  ha : Atts w n.aa n.al n.an n.av
set_option maxRecDepth 100000 in
theorem Strs.below {w w' : World} {a : Option Addr} {len : Nat} {c : Nat → ByteArray} (h : Strs w a len c) (hb : Below w.heap.size w w') : Strs w' a len c := by
  rcases h with rfl | ⟨b, off, e, hbs, hc⟩
  · exact Or.inl rfl
  · exact Or.inr ⟨b, off, e, Nat.lt_of_lt_of_le hbs hb.size, fun i hi => by rw [hb.cell (p := ⟨b, off + i, none⟩) hbs]; exact hc i hi⟩
set_option maxRecDepth 100000 in
theorem Atts.below {w w' : World} {a : Option Addr} {len : Nat} {c d : Nat → ByteArray} (h : Atts w a len c d) (hb : Below w.heap.size w w') : Atts w' a len c d := by
  rcases h with rfl | ⟨b, off, e, hbs, hc⟩
  · exact Or.inl rfl
  · exact Or.inr ⟨b, off, e, Nat.lt_of_lt_of_le hbs hb.size, fun i hi => by rw [hb.cell (p := ⟨b, off + i * 2, none⟩) hbs, hb.cell (p := ⟨b, off + i * 2 + 1, none⟩) hbs]; exact hc i hi⟩
set_option maxRecDepth 100000 in
theorem NdIn.below {w w' : World} {n : Nd} (h : NdIn w n) (hb : Below w.heap.size w w') : NdIn w' n :=
  ⟨h.stag, h.sid, h.stx, h.scl, h.sal, h.scs, h.san, h.sav, h.hc.below hb, h.ha.below hb⟩

/-- is a text empty? -/
def emB (s : ByteArray) : Bool := s.toList.isEmpty

/-- are the marks of an element right? -/
def mkB (n : Nd) : Bool := decide (n.cl ≤ 8) && (decide (n.al ≤ 8) && ((List.range n.cl).all (fun i => nameB (n.cs i)) && (List.range n.al).all (fun i => nameB (n.an i) && textB (n.av i))))
/-- is a node right? -/
def rightB (n : Nd) : Bool :=
  if emB n.tag = true then textB n.tx && (emB n.id && (decide (n.cl = 0) && decide (n.al = 0)))
  else nameB n.tag && ((emB n.id || nameB n.id) && (emB n.tx && mkB n))

set_option maxRecDepth 100000 in
theorem all_range {p : Nat → Bool} {n : Nat} (h : ∀ j, j < n → p j = true) : (List.range n).all p = true := by
  rw [List.all_eq_true]; intro x hx; exact h x (List.mem_range.1 hx)
set_option maxRecDepth 100000 in
theorem all_range_no {p : Nat → Bool} {n k : Nat} (hk : k < n) (h : p k = false) : (List.range n).all p = false := by
  rw [List.all_eq_false]; exact ⟨k, List.mem_range.2 hk, by rw [h]; decide⟩

end Go.Proofs.Ytjhhpilaaahicaa
