/- Layer 10: container's values; declarations held against one another; what a shorthand stands for. -/
import Derived.Test.YtghnbfppfbenmaaPropY1
import Derived.Test.YtghnbfppfbenmaaPropZ
namespace Go.Proofs.Ytghnbfppfbenmaa.PropP
open FixM FixP TreN LexP SynP ValP
set_option linter.unusedVariables false

theorem sIx_one : ∀ i, sIx 1 i = 0
  | 0 => rfl
  | 1 => rfl
  | i + 2 => by show (if i + 2 < 1 then i + 2 else sIx 1 i) = 0; rw [if_neg (by omega)]; exact sIx_one i
theorem gen_genS {v : Val} (h : rightV v = true) : genS v = genB v := gen_is h
theorem parseP_gen {name : List UInt8} {p c : Nat} (hs : stP name = (p, c)) (h1 : 1 ≤ p) (h2 : p + c ≤ 38) (h3 : 0 < c) (v : Val) (hr : rightV v = true) (hg : genB v = true) (imp : Bool) :
    parseP name (some [v]) imp = (0, (List.range c).map fun (i : Nat) => (⟨(p : Int) + (i : Int), v, imp⟩ : Dec10)) := by
  unfold parseP
  rw [hs]
  have hf : fitP [v] c = true := rfl
  have hgs : genS (hdV [v]) = true := by show genS v = true; rw [gen_genS hr]; exact hg
  have hp : partsP name [v] = [v] := parts_plain (Or.inl hgs)
  have h0 : ¬ c = 0 := by omega
  have hsd : ∀ i, sideP [v] i = v := fun i => by unfold sideP; show [v].getD (sIx 1 i) zeroV = v; rw [sIx_one]; rfl
  have hd : declP p [v] c = (List.range c).map fun (i : Nat) => (⟨(p : Int) + (i : Int), v, false⟩ : Dec10) := by
    unfold declP
    simp only [hsd]
  have ht : (declP p [v] c).all takesD = true := by
    rw [hd, List.all_eq_true]
    intro d hd2
    obtain ⟨i, hi, rfl⟩ := List.mem_map.1 hd2
    rw [List.mem_range] at hi
    show takesP ((p : Int) + (i : Int)) v = true
    unfold takesP
    rw [hr, hg, decide_eq_true (by omega)]
    rfl
  simp only [h0, if_false, hf, hp, ht, and_self, if_true]
  rw [hd, List.map_map]
  rfl
end Go.Proofs.Ytghnbfppfbenmaa.PropP

namespace Go.Proofs.Ytghnbfppfbenmaa
open Go.RowKit TreN LexP FixP SynP ValP PropP FixM
set_option linter.unusedVariables false

set_option maxRecDepth 100000 in
set_option maxHeartbeats 1000000 in
theorem tellC_any (a : Option Addr) (l : List Tok) (n cap : Nat) (imp : Bool) (w : World) (hn : l.length = n) (h1 : n ≤ cap) (h2 : cap ≤ maxLen) (hl : n ≤ 90000) (hT : Tks w a l) (hx : TxOk l) :
    Calls Try.prog 42 #[.agg #[.string ⟨contT.toArray⟩, .slice a n cap, .bool imp]] w (TlIs w (partedV l)) := by
  have HBB := Lib.hid (below_oneP w (.cells #[.string ⟨contT.toArray⟩, .slice a n cap, .bool imp] 45))
  have P := tellParted_any a l n cap (w.alloc (.cells #[.string ⟨contT.toArray⟩, .slice a n cap, .bool imp] 45)) hn h1 h2 hl (hT.below HBB.out) hx
  obtain ⟨R, hR⟩ : ∃ R, partedV l = R := ⟨_, rfl⟩
  rw [hR] at P
  rw [hR]
  have PH := Lib.hid P
  clear P hR hn h1 h2 hl hT hx
  unfold contT at *
  go_enter Try.func42, Try.ntmps42
  go_wp2_with fail
  refine PH.out.mono ?_
  rintro e w1 ⟨h, hb1⟩
  have HB1 := Lib.hid (HBB.out.trans (hb1.mono HBB.out.size))
  clear hb1
  cases R with
  | none =>
    obtain rfl := h
    go_wp2_with fail
    go_ret2
    exact ⟨⟨none, 0, 0, 22, by decide, rfl⟩, HB1.out⟩
  | some vs =>
    obtain ⟨v, rfl, hv⟩ := h
    obtain ⟨a1, c1, rfl, hvs, _, _⟩ := hv.vs
    have HV := Lib.hid hvs
    obtain ⟨m, hm⟩ : ∃ m, vs.length = m := ⟨_, rfl⟩
    have HM := Lib.hid hm
    rw [hm]
    clear hv hvs hm
    go_wp2_with fail
    go_ret2
    refine ⟨⟨a1, c1, ?_, HV.out⟩, HB1.out⟩
    rw [HM.out]; rfl

/-- container, its first value one of those that all take -/
theorem ParseC_gen (a : Option Addr) (l : List Tok) (n cap : Nat) (imp : Bool) (w : World) (hn : l.length = n) (h1 : n ≤ cap) (h2 : cap ≤ maxLen) (hl : n ≤ 90000) (hT : Tks w a l) (hx : TxOk l)
    (hg : ∀ vs, partedV l = some vs → genS (hdV vs) = true) :
    Calls Try.prog 20 #[.agg #[.string ⟨contT.toArray⟩, .slice a n cap, .bool imp]] w (PdIs w (parseP contT (partedV l) imp)) := by
  refine Parse10_of contT a l n cap imp w (partedV l) hn (fun W hW => tellC_any a l n cap imp W hn h1 h2 hl (hT.below hW) hx) (fun vs h hf W a2 c hV => ?_) (fun vs h => ?_) (fun vs h hf => ?_)
  · obtain ⟨k1, k2, k3⟩ := ptd_right _ _ _ h
    rw [parts_plain (Or.inl (hg vs h))]
    exact sides_gen contT a2 vs vs.length c W rfl (List.length_pos_iff.2 k1) (by omega) hV (Or.inl (hg vs h))
  · obtain ⟨k1, k2, k3⟩ := ptd_right _ _ _ h
    omega
  · obtain ⟨k1, k2, k3⟩ := ptd_right _ _ _ h
    rw [parts_plain (Or.inl (hg vs h))]
    exact ⟨List.length_pos_iff.2 k1, by omega, fun v hv => right_name (k3 v hv)⟩

theorem val_selfIn (f : Nat) (k n d : Int) (x : List UInt8) (w : World) : (Op.equalIn (f + 2) 26 (.agg #[.int .i64 k, .int .i64 n, .int .i64 d, .string ⟨x.toArray⟩]) (.agg #[.int .i64 k, .int .i64 n, .int .i64 d, .string ⟨x.toArray⟩])).run Try.prog w = .ok true w := by
  rw [run_equalIn_agg w (f + 1) 26 _ _ (by kernel_rfl) (by kernel_rfl)]
  have hf : Try.prog.fieldsOf 26 = (match Try.prog.underlying 26 with | some (.struct fs) => fs | _ => #[]) := rfl
  rw [hf, Try.underlying26]
  have p1 : ∀ (k n d : Int) (x : List UInt8) (w : World), (part 3 #[.int .i64 k, .int .i64 n, .int .i64 d, .string ⟨x.toArray⟩] 0).run Try.prog w = .ok (.int .i64 k) w := fun _ _ _ _ w => by kernel_rfl
  have p2 : ∀ (k n d : Int) (x : List UInt8) (w : World), (part 3 #[.int .i64 k, .int .i64 n, .int .i64 d, .string ⟨x.toArray⟩] 1).run Try.prog w = .ok (.int .i64 n) w := fun _ _ _ _ w => by kernel_rfl
  have p3 : ∀ (k n d : Int) (x : List UInt8) (w : World), (part 3 #[.int .i64 k, .int .i64 n, .int .i64 d, .string ⟨x.toArray⟩] 2).run Try.prog w = .ok (.int .i64 d) w := fun _ _ _ _ w => by kernel_rfl
  have p4 : ∀ (k n d : Int) (x : List UInt8) (w : World), (part 9 #[.int .i64 k, .int .i64 n, .int .i64 d, .string ⟨x.toArray⟩] 3).run Try.prog w = .ok (.string ⟨x.toArray⟩) w := fun _ _ _ _ w => by kernel_rfl
  simp only [Op.eqFields, Sem.run_ite, Sem.run_bind, p1, p2, p3, p4, Result.andThen_ok, run_equalIn_int w f 3 .i64 .i64 k k Try.underlying3, run_equalIn_int w f 3 .i64 .i64 n n Try.underlying3, run_equalIn_int w f 3 .i64 .i64 d d Try.underlying3, run_equalIn_string w f 9 ⟨x.toArray⟩ ⟨x.toArray⟩ Try.underlying9, str_beq]
  simp
theorem decl_selfIn (p k n d : Int) (x : List UInt8) (b : Bool) (w : World) : (Op.equalIn 10000 52 (.agg #[.int .i64 p, .int .i64 k, .int .i64 n, .int .i64 d, .string ⟨x.toArray⟩, .bool b]) (.agg #[.int .i64 p, .int .i64 k, .int .i64 n, .int .i64 d, .string ⟨x.toArray⟩, .bool b])).run Try.prog w = .ok true w := by
  rw [run_equalIn_agg w 9999 52 _ _ (by kernel_rfl) (by kernel_rfl)]
  have hf : Try.prog.fieldsOf 52 = (match Try.prog.underlying 52 with | some (.struct fs) => fs | _ => #[]) := rfl
  rw [hf, Try.underlying52]
  have p1 : ∀ (w : World), (part 3 #[.int .i64 p, .int .i64 k, .int .i64 n, .int .i64 d, .string ⟨x.toArray⟩, .bool b] 0).run Try.prog w = .ok (.int .i64 p) w := fun w => by kernel_rfl
  have p2 : ∀ (w : World), (part 26 #[.int .i64 p, .int .i64 k, .int .i64 n, .int .i64 d, .string ⟨x.toArray⟩, .bool b] 1).run Try.prog w = .ok (.agg #[.int .i64 k, .int .i64 n, .int .i64 d, .string ⟨x.toArray⟩]) w := fun w => by kernel_rfl
  have p3 : ∀ (w : World), (part 4 #[.int .i64 p, .int .i64 k, .int .i64 n, .int .i64 d, .string ⟨x.toArray⟩, .bool b] 5).run Try.prog w = .ok (.bool b) w := fun w => by kernel_rfl
  simp only [Op.eqFields, Sem.run_ite, Sem.run_bind, p1, p2, p3, Result.andThen_ok, run_equalIn_int w 9998 3 .i64 .i64 p p Try.underlying3, val_selfIn 9997 k n d x w, run_equalIn_bool w 9998 4 b b Try.underlying4]
  simp
theorem decl_neq (p k n d : Int) (x : List UInt8) (b : Bool) (w : World) : (binOp .neq 52 (.agg #[.int .i64 p, .int .i64 k, .int .i64 n, .int .i64 d, .string ⟨x.toArray⟩, .bool b]) (.agg #[.int .i64 p, .int .i64 k, .int .i64 n, .int .i64 d, .string ⟨x.toArray⟩, .bool b])).run Try.prog w = .ok (.bool false) w := by
  rw [run_neq_struct, decl_selfIn]; rfl
theorem decl_eql (p k n d : Int) (x : List UInt8) (b : Bool) (w : World) : (binOp .eql 52 (.agg #[.int .i64 p, .int .i64 k, .int .i64 n, .int .i64 d, .string ⟨x.toArray⟩, .bool b]) (.agg #[.int .i64 p, .int .i64 k, .int .i64 n, .int .i64 d, .string ⟨x.toArray⟩, .bool b])).run Try.prog w = .ok (.bool true) w := by
  rw [run_eql_struct, decl_selfIn]; rfl

set_option maxRecDepth 100000 in
set_option maxHeartbeats 2000000 in
theorem refSame10_eq (a1 a2 : Option Addr) (c1 c2 : Nat) (L : List Dec10) (n : Nat) (w : World) (hn : L.length = n) (hl : n ≤ 100000) (H1 : Ds w a1 L) (H2 : Ds w a2 L) :
    Calls Try.prog 22 #[.slice a1 n c1, .slice a2 n c2] w fun e w' => e = .returned (.bool true) ∧ ∃ q, w' = w.drewN q := by
  have HD1 := Lib.hid H1
  have HD2 := Lib.hid H2
  have HN := Lib.hid hn
  clear H1 H2 hn
  go_enter Try.func22, Try.ntmps22
  go_wp2_with fail
  go_loopw [5] (fun vi wr => ∃ k q : Nat, vi = .int .i64 (k : Int) ∧ k ≤ n ∧ wr = w.drewN q) (fun vi _ => n - (intOf vi).toNat)
  case atStart => exact ⟨0, 0, rfl, by omega, rfl⟩
  case round =>
    obtain ⟨k, q, rfl, hk, rfl⟩ := hrel
    by_cases hlt : k < n
    · have hltz : (k : Int) < (n : Int) := by omega
      have hkl : k < L.length := by have := HN.out; omega
      obtain ⟨b1, rfl, _, d1, d2, d3, d4, d5, d6⟩ := HD1.out.get hkl
      obtain ⟨b2, rfl, _, e1, e2, e3, e4, e5, e6⟩ := HD2.out.get hkl
      generalize L[k] = v at *
      obtain ⟨dp, ⟨vk, vn, vd, vx⟩, di⟩ := v
      have EQ := fun W => decl_neq dp vk vn vd vx di W
      have hkn0 : (0 : Int) ≤ (k : Int) := by omega
      have D1 : (w.drewN q).cell? ⟨b1, k * 6, none⟩ = some (.int .i64 dp) := d1
      have D2 : (w.drewN q).cell? ⟨b1, k * 6 + 1, none⟩ = some (.int .i64 vk) := d2
      have D3 : (w.drewN q).cell? ⟨b1, k * 6 + 2, none⟩ = some (.int .i64 vn) := d3
      have D4 : (w.drewN q).cell? ⟨b1, k * 6 + 3, none⟩ = some (.int .i64 vd) := d4
      have D5 : (w.drewN q).cell? ⟨b1, k * 6 + 4, none⟩ = some (.string ⟨vx.toArray⟩) := d5
      have D6 : (w.drewN q).cell? ⟨b1, k * 6 + 5, none⟩ = some (.bool di) := d6
      have E1 : (w.drewN q).cell? ⟨b2, k * 6, none⟩ = some (.int .i64 dp) := e1
      have E2 : (w.drewN q).cell? ⟨b2, k * 6 + 1, none⟩ = some (.int .i64 vk) := e2
      have E3 : (w.drewN q).cell? ⟨b2, k * 6 + 2, none⟩ = some (.int .i64 vn) := e3
      have E4 : (w.drewN q).cell? ⟨b2, k * 6 + 3, none⟩ = some (.int .i64 vd) := e4
      have E5 : (w.drewN q).cell? ⟨b2, k * 6 + 4, none⟩ = some (.string ⟨vx.toArray⟩) := e5
      have E6 : (w.drewN q).cell? ⟨b2, k * 6 + 5, none⟩ = some (.bool di) := e6
      generalize hwq : w.drewN q = wq at *
      have HW := Lib.hid hwq
      clear d1 d2 d3 d4 d5 d6 e1 e2 e3 e4 e5 e6 hwq
      go_wp2_with fail
      go_quiet (fail)
      go_wp2_with fail
      go_roundw
      case rel => exact ⟨k + 1, q + nq, by go_num, by omega, by rw [← HW.out, World.drewN_drewN]⟩
      case measure => simp [intOf]; omega
    · have hltz : ¬ (k : Int) < (n : Int) := by omega
      go_wp2_with fail
      go_ret
      exact ⟨rfl, q, rfl⟩
set_option maxRecDepth 100000 in
theorem Parts10_0 (w : World) : Calls Try.prog 23 #[.string ⟨#[109, 97, 114, 103, 105, 110]⟩] w fun e w' => e = .returned (.tuple #[.int .i64 9, .int .i64 4]) ∧ w' = w := by
  go_enter Try.func23, Try.ntmps23
  go_wp2_with fail
  go_ret2
  exact ⟨rfl, rfl⟩
set_option maxRecDepth 100000 in
theorem Parts10_1 (w : World) : Calls Try.prog 23 #[.string ⟨#[112, 97, 100, 100, 105, 110, 103]⟩] w fun e w' => e = .returned (.tuple #[.int .i64 13, .int .i64 4]) ∧ w' = w := by
  go_enter Try.func23, Try.ntmps23
  go_wp2_with fail
  go_ret2
  exact ⟨rfl, rfl⟩
set_option maxRecDepth 100000 in
theorem Parts10_2 (w : World) : Calls Try.prog 23 #[.string ⟨#[98, 111, 114, 100, 101, 114, 45, 119, 105, 100, 116, 104]⟩] w fun e w' => e = .returned (.tuple #[.int .i64 17, .int .i64 4]) ∧ w' = w := by
  go_enter Try.func23, Try.ntmps23
  go_wp2_with fail
  go_ret2
  exact ⟨rfl, rfl⟩
set_option maxRecDepth 100000 in
theorem Parts10_3 (w : World) : Calls Try.prog 23 #[.string ⟨#[103, 97, 112]⟩] w fun e w' => e = .returned (.tuple #[.int .i64 32, .int .i64 2]) ∧ w' = w := by
  go_enter Try.func23, Try.ntmps23
  go_wp2_with fail
  go_ret2
  exact ⟨rfl, rfl⟩
set_option maxRecDepth 100000 in
theorem Parts10_4 (w : World) : Calls Try.prog 23 #[.string ⟨#[102, 108, 101, 120, 45, 102, 108, 111, 119]⟩] w fun e w' => e = .returned (.tuple #[.int .i64 22, .int .i64 2]) ∧ w' = w := by
  go_enter Try.func23, Try.ntmps23
  go_wp2_with fail
  go_ret2
  exact ⟨rfl, rfl⟩
set_option maxRecDepth 100000 in
theorem Parts10_5 (w : World) : Calls Try.prog 23 #[.string ⟨#[102, 108, 101, 120]⟩] w fun e w' => e = .returned (.tuple #[.int .i64 24, .int .i64 3]) ∧ w' = w := by
  go_enter Try.func23, Try.ntmps23
  go_wp2_with fail
  go_ret2
  exact ⟨rfl, rfl⟩
set_option maxRecDepth 100000 in
theorem Parts10_6 (w : World) : Calls Try.prog 23 #[.string ⟨#[99, 111, 110, 116, 97, 105, 110, 101, 114]⟩] w fun e w' => e = .returned (.tuple #[.int .i64 34, .int .i64 2]) ∧ w' = w := by
  go_enter Try.func23, Try.ntmps23
  go_wp2_with fail
  go_ret2
  exact ⟨rfl, rfl⟩
end Go.Proofs.Ytghnbfppfbenmaa
