/- The small functions of layer 22: how many stand there, what stands ahead, what the spaces weigh. -/
import Derived.Test.YtapfmancgidpfaaFixPt
import Derived.OpenShut
namespace Go.Proofs.Ytapfmancgidpfaa
open Go.RowKit FixM

def CN (n : Int) : Int := max 0 (min n 1024)
def JW (way : Int) : Int := if way ≤ 0 then 0 else way - 1
def AH (free way : Int) : Int := if way = 1 then free else if way = 2 then PT free 1 2 else 0
def EN (way : Int) : Int := if way = 4 ∨ way = 5 then 1 else 0
def IW (way : Int) : Int := if way = 4 then 2 else if way = 5 ∨ way = 3 then 1 else 0

set_option maxRecDepth 100000 in
set_option maxHeartbeats 400000 in
theorem count22_any (n : Int) (w : World) :
    Calls Try.prog 20 #[.int .i64 n] w fun e w' => e = .returned (.int .i64 (CN n)) ∧ w = w' := by
  go_enter Try.func20, Try.ntmps20
  go_wp2_with fail
  all_goals go_ret
  all_goals (refine ⟨ret_intF ?_, rfl⟩; unfold CN; omega)

set_option maxRecDepth 100000 in
set_option maxHeartbeats 400000 in
theorem justified_any (way : Int) (w : World) (hw : (Lit.int .i64 way).wf = true) :
    Calls Try.prog 30 #[.int .i64 way] w fun e w' => e = .returned (.int .i64 (JW way)) ∧ w = w' := by
  have hb := bounds_i64 hw
  go_enter Try.func30, Try.ntmps30
  go_wp2_with fail
  all_goals go_ret
  all_goals (refine ⟨ret_intF ?_, rfl⟩; unfold JW; simp_all <;> (first | omega | (split <;> omega)))

set_option maxRecDepth 100000 in
set_option maxHeartbeats 400000 in
theorem ahead_any (free way : Int) (w : World) :
    Calls Try.prog 24 #[.int .i64 free, .int .i64 way] w fun e w' => e = .returned (.int .i64 (AH free way)) ∧ w = w' := by
  go_enter Try.func24, Try.ntmps24
  go_wp2_with (go_at_call 35; refine (Part_any _ _ _ _).mono ?_; rintro e w' ⟨rfl, rfl⟩)
  all_goals go_ret
  all_goals (refine ⟨ret_intF ?_, rfl⟩; unfold AH; simp_all)

set_option maxRecDepth 100000 in
set_option maxHeartbeats 400000 in
theorem spread_any (way : Int) (w : World) :
    Calls Try.prog 21 #[.int .i64 way] w fun e w' => e = .returned (.tuple #[.int .i64 (EN way), .int .i64 (IW way)]) ∧ w = w' := by
  go_enter Try.func21, Try.ntmps21
  go_wp2_with fail
  all_goals go_ret2
  all_goals (refine ⟨?_, rfl⟩; unfold EN IW; simp_all)

set_option maxRecDepth 100000 in
set_option maxHeartbeats 400000 in
theorem refMany_any (n : Int) (w : World) :
    Calls Try.prog 25 #[.int .i64 n] w fun e w' => e = .returned (.int .i64 (CN n)) ∧ w = w' := by
  go_enter Try.func25, Try.ntmps25
  go_wp2_with fail
  all_goals go_ret
  all_goals (refine ⟨ret_intF ?_, rfl⟩; unfold CN; omega)

set_option maxRecDepth 100000 in
set_option maxHeartbeats 400000 in
theorem Offset_any (way room size : Int) (w : World) (hw : (Lit.int .i64 way).wf = true) :
    Calls Try.prog 13 #[.int .i64 way, .int .i64 room, .int .i64 size] w fun e w' => e = .returned (.int .i64 (AH (H (H room - H size)) (JW way))) ∧ w = w' := by
  go_enter Try.func13, Try.ntmps13
  go_wp2_with (first
    | (go_at_call 29; refine (Sub_any _ _ _).mono ?_; rintro e w' ⟨rfl, rfl⟩)
    | (go_at_call 30; refine (justified_any _ _ hw).mono ?_; rintro e w' ⟨rfl, rfl⟩)
    | (go_at_call 24; refine (ahead_any _ _ _).mono ?_; rintro e w' ⟨rfl, rfl⟩))
  go_ret
  exact ⟨rfl, rfl⟩

/-- half of it -/
def HF (x : Int) : Int := FL x 2

set_option maxRecDepth 100000 in
set_option maxHeartbeats 400000 in
theorem refOffset_any (way room size : Int) (w : World) :
    Calls Try.prog 14 #[.int .i64 way, .int .i64 room, .int .i64 size] w fun e w' => e = .returned (.int .i64 (if way = 2 then H (H room - H size) else if way = 3 then FL (H (H room - H size)) 2 else 0)) ∧ w = w' := by
  have ha := H_bd room
  have hb := H_bd size
  have hc := H_bd (H room - H size)
  go_enter Try.func14, Try.ntmps14
  go_wp2_with (first
    | (go_at_call 18; refine (refHold_any _ _).mono ?_; rintro e w' ⟨rfl, rfl⟩)
    | (go_at_call 26; refine (Floor_pos _ _ _ (by omega) (by omega) (by omega) (by omega)).mono ?_; rintro e w' ⟨rfl, rfl⟩))
  all_goals go_ret
  all_goals (refine ⟨ret_intF ?_, rfl⟩; simp_all)
end Go.Proofs.Ytapfmancgidpfaa
