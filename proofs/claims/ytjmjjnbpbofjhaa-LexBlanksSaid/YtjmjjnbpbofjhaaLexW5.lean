/- The walks of layer 5: strings, numbers and signs as tokens. -/
import Derived.Test.YtjmjjnbpbofjhaaLexW4
import Derived.Test.YtjmjjnbpbofjhaaFixW5
namespace Go.Proofs.Ytjmjjnbpbofjhaa
open Go.RowKit TreN LexP FixP

/-- a token's value -/
def LexP.Tok.val (t : Tok) : Value := .agg #[.int .i64 t.kind, .string ⟨t.text.toArray⟩, .int .i64 t.n]
def str (l : List UInt8) : ByteArray := ⟨l.toArray⟩
theorem str_eqL (s : ByteArray) (l : List UInt8) (h : s.data.toList = l) : s = ⟨l.toArray⟩ := ba_ext (by rw [h])
theorem ext_tw (s : ByteArray) (a : Nat) (p : UInt8 → Bool) (E : Nat) (hE : a + ((s.data.toList.drop a).takeWhile p).length = E) : s.extract a E = ⟨((s.data.toList.drop a).takeWhile p).toArray⟩ := by
  refine str_eqL _ _ ?_
  rw [ext_list]
  have : E - a = ((s.data.toList.drop a).takeWhile p).length := by omega
  rw [this]
  have h : s.data.toList.drop a = (s.data.toList.drop a).takeWhile p ++ (s.data.toList.drop a).dropWhile p := List.takeWhile_append_dropWhile.symm
  have h2 : ((s.data.toList.drop a).takeWhile p ++ (s.data.toList.drop a).dropWhile p).take ((s.data.toList.drop a).takeWhile p).length = (s.data.toList.drop a).takeWhile p := List.take_left
  rw [← h] at h2
  exact h2

set_option maxRecDepth 100000 in
set_option maxHeartbeats 1000000 in
theorem inQ_any (b : Nat) (q c : UInt8) (w : World) (h : w.cell? ⟨b, 0, none⟩ = some (.int .u8 (q.toNat : Int))) :
    Calls Try.prog 109 #[.int .u8 (c.toNat : Int), .pointer (some ⟨b, 0, none⟩)] w fun e w' => e = .returned (.bool (inQ q c)) ∧ w = w' := by
  obtain ⟨v, hv⟩ : ∃ v, inQ q c = v := ⟨_, rfl⟩
  rw [hv]
  have HV := Lib.hid hv
  clear hv
  by_cases h1 : c = q
  · have g1 : ((c.toNat : Int) != (q.toNat : Int)) = false := by rw [h1]; simp
    have H1 := Lib.hid h1
    clear h1
    go_enter Try.func109, Try.ntmps109
    go_wp2_with fail
    go_ret
    refine ⟨ret_bool ?_, rfl⟩
    rw [← HV.out, H1.out]; unfold inQ; simp
  · have g1 : ((c.toNat : Int) != (q.toNat : Int)) = true := by
      rw [bne_iff_ne]
      intro x
      exact h1 (UInt8.toNat_inj.1 (by omega))
    have H1 := Lib.hid h1
    clear h1
    by_cases h2 : c = 10
    · have g2 : ((c.toNat : Int) != 10) = false := by rw [h2]; rfl
      have H2 := Lib.hid h2
      clear h2
      go_enter Try.func109, Try.ntmps109
      go_wp2_with fail
      go_ret
      refine ⟨ret_bool ?_, rfl⟩
      rw [← HV.out, H2.out]; unfold inQ; simp
    · have g2 : ((c.toNat : Int) != 10) = true := by
        rw [bne_iff_ne]
        intro x
        exact h2 (UInt8.toNat_inj.1 (by show c.toNat = 10; omega))
      have H2 := Lib.hid h2
      clear h2
      go_enter Try.func109, Try.ntmps109
      go_wp2_with fail
      go_ret
      refine ⟨ret_bool ?_, rfl⟩
      rw [← HV.out]; unfold inQ
      have e1 := H1.out; have e2 := H2.out
      simp [e1, e2]

theorem pass_quote (s : ByteArray) (ai : Int) (a : Nat) (he : ai = a) (hs : s.size ≤ 9223372036854775807) (ha : a ≤ s.size) (b : Nat) (q : UInt8) (E : Nat) (hE : a + ((s.data.toList.drop a).takeWhile (inQ q)).length = E) (w : World)
    (h : w.cell? ⟨b, 0, none⟩ = some (.int .u8 (q.toNat : Int))) :
    Calls Try.prog 85 #[.string s, .int .i64 ai, .func (.func 109) #[] #[.pointer (some ⟨b, 0, none⟩)]] w fun e w' => e = .returned (.int .i64 (E : Int)) ∧ w = w' := by
  subst he; subst hE
  refine (pass_any 109 #[.pointer (some ⟨b, 0, none⟩)] (inQ q) (fun w' => w = w') enters_quote (fun c w1 hw => ?_) s a hs ha w rfl).mono fun e w' h => h
  subst hw
  exact inQ_any b q c w h
end Go.Proofs.Ytjmjjnbpbofjhaa
