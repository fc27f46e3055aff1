/- Layer 17: whole styles in memory: a maker is built, stored, and its style is read. -/
import Derived.Test.YtlngipglhlhhbaaStlW7
import Derived.Deep.MidRow
import Derived.Laws.Rows
namespace Go.Proofs.Ytlngipglhlhhbaa
open Go.RowKit TreN LexP FixP SynP ValP PropP FixM
set_option linter.unusedVariables false

theorem there_of_block {W : World} {b : Nat} {C : Array Value} {t : TypeId} (hb : W.heap[b]? = some (.cells C t (0, 0))) : W.there b 0 C.size := fun j hj => by
  rw [Nat.zero_add]
  have h : W.cell? ⟨b, j, none⟩ = some C[j] := cell_of hb (by simp [hj])
  exact ⟨by rw [h]; rfl, unfrozen_of hb⟩
theorem range_of_block {W : World} {b : Nat} {As : List Value} {t : TypeId} (hb : W.heap[b]? = some (.cells As.toArray t (0, 0))) : W.rangeAt b 0 As := fun j v hv => by
  rw [Nat.zero_add]
  exact cell_of hb (by simpa using hv)
theorem size17 : (Try.prog.info? 27).map (·.size) = some 55 := by kernel_rfl
theorem size17m : (Try.prog.info? 42).map (·.size) = some 57 := by kernel_rfl
theorem len_succ17 {As : List Value} {n : Nat} (h : As.length = n + 1) : ∃ a B, As = a :: B ∧ B.length = n := by
  cases As with
  | nil => simp at h
  | cons a B => exact ⟨a, B, rfl, by simpa using h⟩
set_option maxRecDepth 100000 in
theorem run_build_mk (As : List Value) (hl : As.length = 55) (x y : Int) (w : World) :
    (Instr.build 42 #[(0, .agg As.toArray), (1, .int .i64 x), (2, .int .i64 y)]).run Try.prog w = .ok (.agg (As ++ [Value.int .i64 x, Value.int .i64 y]).toArray) w := by
  obtain ⟨a0, As, rfl, h0⟩ := len_succ17 hl
  obtain ⟨a1, As, rfl, h1⟩ := len_succ17 h0
  obtain ⟨a2, As, rfl, h2⟩ := len_succ17 h1
  obtain ⟨a3, As, rfl, h3⟩ := len_succ17 h2
  obtain ⟨a4, As, rfl, h4⟩ := len_succ17 h3
  obtain ⟨a5, As, rfl, h5⟩ := len_succ17 h4
  obtain ⟨a6, As, rfl, h6⟩ := len_succ17 h5
  obtain ⟨a7, As, rfl, h7⟩ := len_succ17 h6
  obtain ⟨a8, As, rfl, h8⟩ := len_succ17 h7
  obtain ⟨a9, As, rfl, h9⟩ := len_succ17 h8
  obtain ⟨a10, As, rfl, h10⟩ := len_succ17 h9
  obtain ⟨a11, As, rfl, h11⟩ := len_succ17 h10
  obtain ⟨a12, As, rfl, h12⟩ := len_succ17 h11
  obtain ⟨a13, As, rfl, h13⟩ := len_succ17 h12
  obtain ⟨a14, As, rfl, h14⟩ := len_succ17 h13
  obtain ⟨a15, As, rfl, h15⟩ := len_succ17 h14
  obtain ⟨a16, As, rfl, h16⟩ := len_succ17 h15
  obtain ⟨a17, As, rfl, h17⟩ := len_succ17 h16
  obtain ⟨a18, As, rfl, h18⟩ := len_succ17 h17
  obtain ⟨a19, As, rfl, h19⟩ := len_succ17 h18
  obtain ⟨a20, As, rfl, h20⟩ := len_succ17 h19
  obtain ⟨a21, As, rfl, h21⟩ := len_succ17 h20
  obtain ⟨a22, As, rfl, h22⟩ := len_succ17 h21
  obtain ⟨a23, As, rfl, h23⟩ := len_succ17 h22
  obtain ⟨a24, As, rfl, h24⟩ := len_succ17 h23
  obtain ⟨a25, As, rfl, h25⟩ := len_succ17 h24
  obtain ⟨a26, As, rfl, h26⟩ := len_succ17 h25
  obtain ⟨a27, As, rfl, h27⟩ := len_succ17 h26
  obtain ⟨a28, As, rfl, h28⟩ := len_succ17 h27
  obtain ⟨a29, As, rfl, h29⟩ := len_succ17 h28
  obtain ⟨a30, As, rfl, h30⟩ := len_succ17 h29
  obtain ⟨a31, As, rfl, h31⟩ := len_succ17 h30
  obtain ⟨a32, As, rfl, h32⟩ := len_succ17 h31
  obtain ⟨a33, As, rfl, h33⟩ := len_succ17 h32
  obtain ⟨a34, As, rfl, h34⟩ := len_succ17 h33
  obtain ⟨a35, As, rfl, h35⟩ := len_succ17 h34
  obtain ⟨a36, As, rfl, h36⟩ := len_succ17 h35
  obtain ⟨a37, As, rfl, h37⟩ := len_succ17 h36
  obtain ⟨a38, As, rfl, h38⟩ := len_succ17 h37
  obtain ⟨a39, As, rfl, h39⟩ := len_succ17 h38
  obtain ⟨a40, As, rfl, h40⟩ := len_succ17 h39
  obtain ⟨a41, As, rfl, h41⟩ := len_succ17 h40
  obtain ⟨a42, As, rfl, h42⟩ := len_succ17 h41
  obtain ⟨a43, As, rfl, h43⟩ := len_succ17 h42
  obtain ⟨a44, As, rfl, h44⟩ := len_succ17 h43
  obtain ⟨a45, As, rfl, h45⟩ := len_succ17 h44
  obtain ⟨a46, As, rfl, h46⟩ := len_succ17 h45
  obtain ⟨a47, As, rfl, h47⟩ := len_succ17 h46
  obtain ⟨a48, As, rfl, h48⟩ := len_succ17 h47
  obtain ⟨a49, As, rfl, h49⟩ := len_succ17 h48
  obtain ⟨a50, As, rfl, h50⟩ := len_succ17 h49
  obtain ⟨a51, As, rfl, h51⟩ := len_succ17 h50
  obtain ⟨a52, As, rfl, h52⟩ := len_succ17 h51
  obtain ⟨a53, As, rfl, h53⟩ := len_succ17 h52
  obtain ⟨a54, As, rfl, h54⟩ := len_succ17 h53
  obtain rfl := List.eq_nil_of_length_eq_zero h54
  kernel_rfl
theorem wpList_build_mk {ops : Array Oper} {rest : List Oper} {op : Oper} {a : Act} {w : World} {Q : Exit → Act → World → Prop} (hgd : op.guard = none) (x0 x1 x2 : Operand) (ho : op.op = .build 42 #[(0, x0), (1, x1), (2, x2)])
    (As : List Value) (hl : As.length = 55) (x y : Int) (h0 : a.eval x0 = .agg As.toArray) (h1 : a.eval x1 = .int .i64 x) (h2 : a.eval x2 = .int .i64 y)
    (h : wpList Try.prog ops Q rest (a.put op.dst (.agg (As ++ [Value.int .i64 x, Value.int .i64 y]).toArray)) w) : wpList Try.prog ops Q (op :: rest) a w :=
  wpList_plain hgd fun K hK => by
    unfold Oper.wp execOp
    have e : (#[(0, x0), (1, x1), (2, x2)] : Array (Nat × Operand)).map (fun (i, x) => (i, a.eval x)) = #[(0, .agg As.toArray), (1, .int .i64 x), (2, .int .i64 y)] := by simp [h0, h1, h2]
    simp only [ho, e, Sem.run_bind, run_build_mk As hl x y w, Result.andThen_ok, Sem.run_pure]
    exact hK _ _ h
theorem results_style {fn : Func} {p : Tmp} (h : fn.results = #[.cell p 27]) (tmps : Array Value) (w : World) (b : Nat) (As : List Value) (hl : As.length = 55) (hp : tmps.getD p undef = .pointer (some ⟨b, 0, none⟩)) (hr : w.rangeAt b 0 As) :
    (results fn tmps).run Try.prog w = .ok (.agg As.toArray) w := by
  have hv := run_loadVar_mid (P := Try.prog) w b 0 27 As _ hr Try.underlying27 rfl (by rw [size17, hl])
  have hp' : tmps[p]?.getD undef = .pointer (some ⟨b, 0, none⟩) := by simpa using hp
  simp [results, h, hp', asAddr, hv]
end Go.Proofs.Ytlngipglhlhhbaa
