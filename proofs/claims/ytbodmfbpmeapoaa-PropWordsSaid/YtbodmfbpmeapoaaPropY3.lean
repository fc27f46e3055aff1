/- Layer 10: a word that all take, as a shorthand. -/
import Derived.Test.YtbodmfbpmeapoaaPropYa
import Derived.Test.YtbodmfbpmeapoaaValTk
import Derived.Test.YtbodmfbpmeapoaaLexE
namespace Go.Proofs.Ytbodmfbpmeapoaa.PropP
open FixM FixP TreN LexP SynP ValP
set_option linter.unusedVariables false

theorem parted_one {v : Val} (h : rightV v = true) {t : Tok} (ht : tokV v = [t]) (hk : t.kind ≠ 20) : partedV (tokV v) = some [v] := by
  have hr := read_tok h (z := []) rfl
  rw [List.append_nil, ht] at hr
  have hb : bs [t] = [t] := bs_no hk
  unfold partedV
  rw [ht]
  show ptd 2 [t] = _
  unfold ptd
  rw [hb, hr]
  rfl
end Go.Proofs.Ytbodmfbpmeapoaa.PropP

namespace Go.Proofs.Ytbodmfbpmeapoaa
open Go.RowKit TreN LexP FixP SynP ValP PropP FixM
set_option linter.unusedVariables false

theorem word_right {n : Int} (h1 : 28 ≤ n) (h2 : n ≤ 30) : rightV ⟨1, n, 0, []⟩ = true ∧ genB ⟨1, n, 0, []⟩ = true ∧ tokV ⟨1, n, 0, []⟩ = [⟨1, txtP wordsL n, 0⟩] := by
  have hr : rightV ⟨1, n, 0, []⟩ = true := by
    rw [rv1, decide_eq_true ⟨rfl, rfl⟩, decide_eq_true (by omega)]; rfl
  refine ⟨hr, ?_, ?_⟩
  · unfold genB; exact decide_eq_true ⟨rfl, h1⟩
  · unfold tokV; rw [if_pos hr]; rfl
def gensD (p : Int) (c : Nat) (n : Int) (imp : Bool) : List Dec10 := (List.range c).map fun (i : Nat) => (⟨p + (i : Int), ⟨1, n, 0, []⟩, imp⟩ : Dec10)
theorem gensD_len (p : Int) (c : Nat) (n : Int) (imp : Bool) : (gensD p c n imp).length = c := by unfold gensD; simp
theorem gensD_get (p : Int) (c : Nat) (n : Int) (imp : Bool) (k : Nat) (h : k < (gensD p c n imp).length) : (gensD p c n imp)[k] = ⟨p + (k : Int), ⟨1, n, 0, []⟩, imp⟩ := by
  simp only [gensD, List.getElem_map, List.getElem_range]
/-- a word that all take, as a shorthand -/
theorem Parse_word (name : List UInt8) (p c : Nat) (hs : stP name = (p, c)) (h1 : 1 ≤ p) (h2 : p + c ≤ 38) (h3 : 0 < c) (n : Int) (k1 : 28 ≤ n) (k2 : n ≤ 30) (imp : Bool) (W : World) (a : Option Addr) (cp : Nat) (g1 : 1 ≤ cp) (g2 : cp ≤ maxLen) (hT : Tks W a (tokV ⟨1, n, 0, []⟩)) :
    Calls Try.prog 20 #[.agg #[.string ⟨name.toArray⟩, .slice a 1 cp, .bool imp]] W (PdIs W (0, gensD p c n imp)) := by
  obtain ⟨r1, r2, r3⟩ := word_right k1 k2
  have hlen : (tokV ⟨1, n, 0, []⟩).length = 1 := by rw [r3]; rfl
  have hx : TxOk (tokV ⟨1, n, 0, []⟩) := fun t ht => by
    have := (tok_texts (rv_of r1)).2 t ht
    unfold maxLen; omega
  have e := parseP_gen hs h1 h2 h3 ⟨1, n, 0, []⟩ r1 r2 imp
  by_cases hc : name = contT
  · subst hc
    have hp := parted_one r1 r3 (by show (1 : Int) ≠ 20; decide)
    have := ParseC_gen a (tokV ⟨1, n, 0, []⟩) 1 cp imp W hlen g1 g2 (by omega) hT hx (fun vs h => by rw [hp] at h; injection h with h; subst h; show genS ⟨1, n, 0, []⟩ = true; rw [gen_genS r1]; exact r2)
    rw [hp, e] at this
    exact this
  · have hp := parse_one r1
    have := Parse10_plain name a (tokV ⟨1, n, 0, []⟩) 1 cp imp W hlen g1 g2 (by omega) hT hx hc (fun vs h _ => by rw [hp] at h; injection h with h; subst h; left; show genS ⟨1, n, 0, []⟩ = true; rw [gen_genS r1]; exact r2)
    rw [hp, e] at this
    exact this
end Go.Proofs.Ytbodmfbpmeapoaa
