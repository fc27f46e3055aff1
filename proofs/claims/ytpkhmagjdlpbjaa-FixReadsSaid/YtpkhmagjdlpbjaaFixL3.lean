/- The laws of layer 1: what is read. -/
import Derived.Test.YtpkhmagjdlpbjaaFixW8
import Derived.Test.YtpkhmagjdlpbjaaFixW10
import Derived.Test.YtpkhmagjdlpbjaaFixE
namespace Go.Proofs.Ytpkhmagjdlpbjaa
open Go.RowKit FixM FixP

theorem rparse_eq (l : List UInt8) : rparse l = parse l := by rw [parse_eq]; rfl

set_option maxHeartbeats 400000 in
theorem FixReads_walk (s : ByteArray) (w : World) (hs : s.size ≤ 9223372036854775807) : Calls Try.prog 6 #[.string s] w fun e w' => e = .returned (.bool true) ∧ Grown w w' := by
  have hp : ∀ w, Calls Try.prog 26 #[.string s] w fun e w' => e = .returned (.tuple #[.int .i64 (parse s.data.toList).1, .int .i64 (parse s.data.toList).2]) ∧ w = w' := fun w => by
    have := refParse_any s w hs
    rwa [rparse_eq] at this
  have HP := Lib.hid hp
  clear hp
  go_enter Try.func6, Try.ntmps6
  go_wp2_with fail
  refine (Parse_any s _ hs).mono ?_
  rintro e w1 ⟨rfl, st, rfl⟩
  go_wp2_with fail
  refine (HP.out _).mono ?_
  rintro e w1 ⟨rfl, rfl⟩
  go_wp2_with fail
  refine (known_any _).mono ?_
  rintro e w2 ⟨rfl, hg⟩
  go_wp2_with fail
  go_ret
  exact ⟨rfl, grown_trans (grown_PW w st) hg⟩
end Go.Proofs.Ytpkhmagjdlpbjaa
