/- The walks of layer 2: how the library's stable sort makes one of two sorted pieces, all of them; a short piece of none. -/
import Derived.Test.YtaegajlffiepoaaShaW6
import Derived.Test.YtaegajlffiepoaaShaM5
namespace Go.Proofs.Ytaegajlffiepoaa
open Go.RowKit Go.Sort ShaM

theorem symMerge_any (w : World) (blk cap g : Nat) (cb : Array Value) (cf : Int → Int → Int) (LT : Int → Int → Prop) (d0 : Array Int)
    (eg : ∀ args w, (callFunc g args).run Try.prog w = .ok (.enter g args) w) (hO : Ord LT) (hcf : ∀ x y, y < x → (cf x y < 0 ↔ LT x y)) (hc : CmpOK w blk d0.size g cb cf)
    (h0 : Holds (Value.int .i64) w blk 0 d0) (hsz : d0.size < 4611686018427387904) : ∀ (len a m b : Nat) (d : Array Int) (mm : Nat), b - a ≤ len → a < m → m < b → b ≤ d.size → d.size = d0.size → Rng d.size d → Two LT a m b d →
      Calls Try.prog 68 #[.slice (some ⟨blk, 0, none⟩) d0.size cap, .int .i64 a, .int .i64 m, .int .i64 b, .func (.func g) #[] cb] (RW w blk d mm) fun e w' =>
        e = .returned (.tuple #[]) ∧ ∃ d' m', Mv a b d d' ∧ Srt LT a b d' ∧ RW w blk d' m' = w'
  | 0, a, m, b, d, mm, hl, ham, hmb, _, _, _, _ => by omega
  | len + 1, a, m, b, d, mm, hl, ham, hmb, hb, hs, hr, h2 => by
    have hszd : d.size < 4611686018427387904 := by rw [hs]; exact hsz
    by_cases c1 : m = a + 1
    · subst c1
      have := symMerge_up w blk cap a b g cb cf LT d0 d mm eg hO hcf hc h0 hs hmb hb hszd hr h2
      have e : ((a + 1 : Nat) : Int) = (a : Int) + 1 := by omega
      rw [e]; exact this
    · by_cases c2 : b = m + 1
      · subst c2
        have := symMerge_down w blk cap a m g cb cf LT d0 d mm eg hO hcf hc h0 hs (by omega) hb hszd hr h2
        have e : ((m + 1 : Nat) : Int) = (m : Int) + 1 := by omega
        rw [e]; exact this
      · exact symMerge_mid w blk cap a m b g cb cf LT d0 d mm eg hO hcf hc h0 hs (by omega) (by omega) hb hszd hr h2
          (fun a' m' b' d' m2 hlt x1 x2 x3 x4 x5 x6 => symMerge_any w blk cap g cb cf LT d0 eg hO hcf hc h0 hsz len a' m' b' d' m2 (by omega) x1 x2 x3 x4 x5 x6)

theorem symMerge_at (w : World) (blk cap g : Nat) (cb : Array Value) (cf : Int → Int → Int) (LT : Int → Int → Prop) (d0 : Array Int)
    (eg : ∀ args w, (callFunc g args).run Try.prog w = .ok (.enter g args) w) (hO : Ord LT) (hcf : ∀ x y, y < x → (cf x y < 0 ↔ LT x y)) (hc : CmpOK w blk d0.size g cb cf)
    (h0 : Holds (Value.int .i64) w blk 0 d0) (hsz : d0.size < 4611686018427387904) (ai mi bi : Int) (a m b : Nat) (ea : ai = a) (em : mi = m) (eb : bi = b) (d : Array Int) (mm : Nat) (ham : a < m) (hmb : m < b) (hb : b ≤ d.size) (hs : d.size = d0.size) (hr : Rng d.size d) (h2 : Two LT a m b d) :
      Calls Try.prog 68 #[.slice (some ⟨blk, 0, none⟩) d0.size cap, .int .i64 ai, .int .i64 mi, .int .i64 bi, .func (.func g) #[] cb] (RW w blk d mm) fun e w' =>
        e = .returned (.tuple #[]) ∧ ∃ d' m', Mv a b d d' ∧ Srt LT a b d' ∧ RW w blk d' m' = w' := by
  subst ea em eb
  exact symMerge_any w blk cap g cb cf LT d0 eg hO hcf hc h0 hsz (b - a) a m b d mm (Nat.le_refl _) ham hmb hb hs hr h2

set_option maxRecDepth 100000 in
set_option maxHeartbeats 400000 in
theorem insertion_none (w : World) (blk len cap a g : Nat) (cb : Array Value) (ha : a < 4611686018427387904) :
    Calls Try.prog 67 #[.slice (some ⟨blk, 0, none⟩) len cap, .int .i64 a, .int .i64 a, .func (.func g) #[] cb] w fun e w' => e = .returned (.tuple #[]) ∧ w = w' := by
  go_enter Try.func67, Try.ntmps67
  go_wp2_with fail
  go_loopw [8] (fun vi wr => vi = .int .i64 ((a : Int) + 1) ∧ wr = w) (fun _ _ => 0)
  case atStart => exact ⟨rfl, rfl⟩
  case round =>
    obtain ⟨rfl, rfl⟩ := hrel
    have hz : ¬ (a : Int) + 1 < (a : Int) := by omega
    go_wp2_with fail
    go_end0
    exact ⟨rfl, rfl⟩
end Go.Proofs.Ytaegajlffiepoaa
