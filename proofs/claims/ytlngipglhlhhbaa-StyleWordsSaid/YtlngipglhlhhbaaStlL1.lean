/- Layer 17: StyleNothing. (Written by gen_stll1.py.) -/
import Derived.Test.YtlngipglhlhhbaaStlO
namespace Go.Proofs.Ytlngipglhlhhbaa
open Go.RowKit TreN LexP FixP SynP ValP PropP FixM
set_option linter.unusedVariables false

theorem tyL_one (z : Nat → Int) (b : Bool) (nm : ByteArray) : ∀ v, v ∈ tyL z b nm → v.oneCell' = true := by
  intro v hv
  unfold tyL at hv
  simp only [List.mem_cons, List.not_mem_nil, or_false] at hv
  repeat' (rcases hv with rfl | hv; · rfl)
theorem range_below17 {W W' : World} {b B : Nat} {L : List Value} (h : W.rangeAt b 0 L) (hb : Below B W W') (hB : b < B) : W'.rangeAt b 0 L := fun j v hv => by
  have h2 := h j v hv
  rw [Nat.zero_add] at h2 ⊢
  rw [hb.cell (p := ⟨b, j, none⟩) hB]
  exact h2
theorem range_set17 {W : World} {b : Nat} {L : List Value} (h : W.rangeAt b 0 L) (j : Nat) (u : Value) : (W.setCell ⟨b, j, none⟩ u).rangeAt b 0 (L.set j u) := fun i v hv => by
  rw [Nat.zero_add]
  by_cases e : j = i
  · subst e
    have hj : j < L.length := by have := (List.getElem?_eq_some_iff.1 hv).1; simpa using this
    rw [List.getElem?_set_self hj] at hv
    have hc := h j L[j] (List.getElem?_eq_getElem hj)
    rw [Nat.zero_add] at hc
    rw [World.cell?_setCell_same (h := hc)]
    exact hv
  · rw [List.getElem?_set_ne e] at hv
    have hc := h i v hv
    rw [Nat.zero_add] at hc
    rw [World.cell?_setCell_other (h := by intro q; injection q; omega)]
    exact hc
theorem range_other17 {W : World} {b b2 : Nat} {L : List Value} (h : W.rangeAt b 0 L) (hb : b2 ≠ b) (o : Nat) (u : Value) : (W.setCell ⟨b2, o, none⟩ u).rangeAt b 0 L := fun i v hv => by
  have hc := h i v hv
  rw [Nat.zero_add] at hc ⊢
  rw [World.cell?_setCell_other (h := by intro q; injection q; omega)]
  exact hc
def zN (z : Nat → Int) (i : Nat) : Int := if i = 53 then z 53 else if i = 54 then z 54 else ([0, 0, 0, 0, 0, 0, 0, 0, 0, 0, 6, 0, 6, 0, 1, 0, 1, 0, 1, 0, 1, 0, 1, 0, 1, 0, 1, 0, 1, 0, 0, 0, 0, 0, 0, 0, 0, 0, 0, 1000, 0, 0, 0, 0, 0, 0, 0, 1, 0, 1, 0, 0, 0, 0, 0] : List Int).getD i 0
theorem zN_wf (z : Nat → Int) (hz : ∀ i, WfI (z i)) (i : Nat) : WfI (zN z i) := by
  unfold zN
  split
  · exact hz 53
  · split
    · exact hz 54
    · refine WfI.getD (fun x hx => ?_) i
      have : x = 0 ∨ x = 1 ∨ x = 6 ∨ x = 1000 := by
        simp only [List.mem_cons, List.not_mem_nil, or_false] at hx
        omega
      rcases this with rfl | rfl | rfl | rfl <;> (unfold WfI; decide)
set_option maxRecDepth 100000 in
theorem nothing_is (z : Nat → Int) (b : Bool) (nm : ByteArray) (x y : Int) : cells17 (tyL z b nm) (hasS []) (z 53) x y = tyL (zN z) false ⟨#[]⟩ := by kernel_rfl
set_option maxRecDepth 100000 in
theorem want_is (z : Nat → Int) : (sL.set 53 (.int .i64 (z 53))).set 54 (.int .i64 (z 54)) = tyL (zN z) false ⟨#[]⟩ := by kernel_rfl

theorem guard17 (x y : Operand) (A B : Array Value) (W : World) : (eqGuard .eql 27 x y (.agg A) (.agg B)).run Try.prog W = .ok () W := run_eqGuard_agg W .eql 27 x y A B (by kernel_rfl)
set_option maxRecDepth 100000 in
set_option maxHeartbeats 4000000 in
theorem StyleNothing_walk (z : Nat → Int) (bb : Bool) (nm : ByteArray) (x y : Int) (w : World) (hz : ∀ i, WfI (z i)) :
    Calls Try.prog 3 #[.agg (tyL z bb nm).toArray, .int .i64 x, .int .i64 y] w fun e w' => e = .returned (.bool true) ∧ Below w.heap.size w w' := by
  have hnot := nothing_is z bb nm x y
  have hwan := want_is z
  have heq := fun W => eql17 (zN z) false ⟨#[]⟩ (zN_wf z hz) (Nat.zero_le _) W
  obtain ⟨Ws, hWs⟩ : ∃ Ws, tyL (zN z) false ⟨#[]⟩ = Ws := ⟨_, rfl⟩
  have hwl : Ws.length = 55 := by rw [← hWs]; rfl
  rw [hWs] at hnot hwan heq
  have hone := tyL_one z bb nm
  have hgu := fun (x y : Operand) (A B : Array Value) (W : World) => guard17 x y A B W
  have h53 : (tyL z bb nm).getD 53 undef = .int .i64 (z 53) := rfl
  have h53' : (tyL z bb nm)[53]? = some (.int .i64 (z 53)) := rfl
  have h54' : (tyL z bb nm)[54]? = some (.int .i64 (z 54)) := rfl
  have hal : (tyL z bb nm).length = 55 := rfl
  generalize tyL z bb nm = As at *
  obtain ⟨f, hf⟩ : ∃ f, z 53 = f := ⟨_, rfl⟩
  obtain ⟨l, hl⟩ : ∃ l, z 54 = l := ⟨_, rfl⟩
  rw [hf] at hnot hwan h53 h53'
  rw [hl] at hwan h54'
  have CC := Lib.hid (fun W => (by have := compute17_any none 0 0 [] As f x y W hal hone h53 ⟨rfl, Or.inl rfl, fun v hv => by cases hv⟩; rw [hnot] at this; exact this : Calls Try.prog 9 #[.slice none 0 0, .agg As.toArray, .int .i64 x, .int .i64 y] W fun e w' => e = .returned (.agg Ws.toArray) ∧ Below W.heap.size W w'))
  have ST := Lib.hid (fun W => start17_any W)
  have hsl : sL.length = 55 := rfl
  have hs1 := sL_one
  have hs53 : ∃ u, sL[53]? = some u := ⟨_, rfl⟩
  have hs54 : ∃ u, sL[54]? = some u := ⟨_, rfl⟩
  generalize sL = Ss at *
  have hr0 := range_of_block (heap_alloc_new w (.cells As.toArray 27))
  have hb0 := below_one7h w (.cells As.toArray 27)
  have hz0 : w.heap.size < (w.alloc (.cells As.toArray 27)).heap.size := by simp
  clear hnot hWs hz hone h53
  go_enter Try.func3, Try.ntmps3
  go_upto_region 1 with fail
  generalize w.alloc (.cells As.toArray 27) = W0 at *
  obtain ⟨bp, hbp⟩ : ∃ bp, w.heap.size = bp := ⟨_, rfl⟩
  rw [hbp] at hr0 hb0 hz0 ⊢
  have HR0 := Lib.hid hr0
  have HB0 := Lib.hid hb0
  have HZ0 := Lib.hid hz0
  clear hr0 hb0 hz0
  go_wp2_with fail
  refine (ST.out _).mono ?_
  rintro e w1 ⟨rfl, hb1⟩
  have HB1 := Lib.hid (HB0.out.trans (hb1.mono (by have := HB0.out.size; have := HZ0.out; omega)))
  have HR1 := Lib.hid (range_below17 HR0.out hb1 HZ0.out)
  have HZ1 := Lib.hid (Nat.lt_of_lt_of_le HZ0.out hb1.size)
  clear hb1 HB0 HR0 HZ0 ST
  dsimp only
  rename_i K' hK'
  refine hK' _ _ ?_
  clear hK'
  go_step
  go_step
  rename_i K' hK'
  refine hK' _ _ ?_
  clear hK'
  have hts : (w1.alloc (.cells #[Value.int .i64 0, Value.bool false, Value.int .i64 0, Value.int .i64 0, Value.int .i64 0, Value.int .i64 0, Value.int .i64 0, Value.int .i64 0, Value.int .i64 0, Value.int .i64 0, Value.int .i64 0, Value.int .i64 0, Value.int .i64 0, Value.int .i64 0, Value.int .i64 0, Value.int .i64 0, Value.int .i64 0, Value.int .i64 0, Value.int .i64 0, Value.int .i64 0, Value.int .i64 0, Value.int .i64 0, Value.int .i64 0, Value.int .i64 0, Value.int .i64 0, Value.int .i64 0, Value.int .i64 0, Value.int .i64 0, Value.int .i64 0, Value.int .i64 0, Value.int .i64 0, Value.int .i64 0, Value.int .i64 0, Value.int .i64 0, Value.int .i64 0, Value.int .i64 0, Value.int .i64 0, Value.int .i64 0, Value.int .i64 0, Value.int .i64 0, Value.int .i64 0, Value.int .i64 0, Value.int .i64 0, Value.int .i64 0, Value.int .i64 0, Value.int .i64 0, Value.int .i64 0, Value.int .i64 0, Value.int .i64 0, Value.int .i64 0, Value.int .i64 0, Value.int .i64 0, Value.string ⟨#[]⟩, Value.int .i64 0, Value.int .i64 0] 27)).there w1.heap.size 0 55 := there_of_block (heap_alloc_new w1 (.cells #[Value.int .i64 0, Value.bool false, Value.int .i64 0, Value.int .i64 0, Value.int .i64 0, Value.int .i64 0, Value.int .i64 0, Value.int .i64 0, Value.int .i64 0, Value.int .i64 0, Value.int .i64 0, Value.int .i64 0, Value.int .i64 0, Value.int .i64 0, Value.int .i64 0, Value.int .i64 0, Value.int .i64 0, Value.int .i64 0, Value.int .i64 0, Value.int .i64 0, Value.int .i64 0, Value.int .i64 0, Value.int .i64 0, Value.int .i64 0, Value.int .i64 0, Value.int .i64 0, Value.int .i64 0, Value.int .i64 0, Value.int .i64 0, Value.int .i64 0, Value.int .i64 0, Value.int .i64 0, Value.int .i64 0, Value.int .i64 0, Value.int .i64 0, Value.int .i64 0, Value.int .i64 0, Value.int .i64 0, Value.int .i64 0, Value.int .i64 0, Value.int .i64 0, Value.int .i64 0, Value.int .i64 0, Value.int .i64 0, Value.int .i64 0, Value.int .i64 0, Value.int .i64 0, Value.int .i64 0, Value.int .i64 0, Value.int .i64 0, Value.int .i64 0, Value.int .i64 0, Value.string ⟨#[]⟩, Value.int .i64 0, Value.int .i64 0] 27))
  have hcs : Ss.toArray.size = 55 := by simpa using hsl
  refine wpList_store_mid rfl 27 _ _ rfl w1.heap.size 0 Ss.toArray rfl rfl (by rw [hcs]; exact hts) (by rw [hcs]; exact size17) (all_oneCell_toArray hs1) ?_
  have hz2 := HZ1.out
  have hrr := World.rangeAt_setCells_same (w1.alloc (.cells #[Value.int .i64 0, Value.bool false, Value.int .i64 0, Value.int .i64 0, Value.int .i64 0, Value.int .i64 0, Value.int .i64 0, Value.int .i64 0, Value.int .i64 0, Value.int .i64 0, Value.int .i64 0, Value.int .i64 0, Value.int .i64 0, Value.int .i64 0, Value.int .i64 0, Value.int .i64 0, Value.int .i64 0, Value.int .i64 0, Value.int .i64 0, Value.int .i64 0, Value.int .i64 0, Value.int .i64 0, Value.int .i64 0, Value.int .i64 0, Value.int .i64 0, Value.int .i64 0, Value.int .i64 0, Value.int .i64 0, Value.int .i64 0, Value.int .i64 0, Value.int .i64 0, Value.int .i64 0, Value.int .i64 0, Value.int .i64 0, Value.int .i64 0, Value.int .i64 0, Value.int .i64 0, Value.int .i64 0, Value.int .i64 0, Value.int .i64 0, Value.int .i64 0, Value.int .i64 0, Value.int .i64 0, Value.int .i64 0, Value.int .i64 0, Value.int .i64 0, Value.int .i64 0, Value.int .i64 0, Value.int .i64 0, Value.int .i64 0, Value.int .i64 0, Value.int .i64 0, Value.string ⟨#[]⟩, Value.int .i64 0, Value.int .i64 0] 27)) w1.heap.size 0 Ss (by rw [hsl]; exact hts)
  have hth := World.there_setCells hts w1.heap.size 0 Ss
  have hba := (Below.refl w1.heap.size w1).alloc (Nat.le_refl _) (.cells #[Value.int .i64 0, Value.bool false, Value.int .i64 0, Value.int .i64 0, Value.int .i64 0, Value.int .i64 0, Value.int .i64 0, Value.int .i64 0, Value.int .i64 0, Value.int .i64 0, Value.int .i64 0, Value.int .i64 0, Value.int .i64 0, Value.int .i64 0, Value.int .i64 0, Value.int .i64 0, Value.int .i64 0, Value.int .i64 0, Value.int .i64 0, Value.int .i64 0, Value.int .i64 0, Value.int .i64 0, Value.int .i64 0, Value.int .i64 0, Value.int .i64 0, Value.int .i64 0, Value.int .i64 0, Value.int .i64 0, Value.int .i64 0, Value.int .i64 0, Value.int .i64 0, Value.int .i64 0, Value.int .i64 0, Value.int .i64 0, Value.int .i64 0, Value.int .i64 0, Value.int .i64 0, Value.int .i64 0, Value.int .i64 0, Value.int .i64 0, Value.int .i64 0, Value.int .i64 0, Value.int .i64 0, Value.int .i64 0, Value.int .i64 0, Value.int .i64 0, Value.int .i64 0, Value.int .i64 0, Value.int .i64 0, Value.int .i64 0, Value.int .i64 0, Value.int .i64 0, Value.string ⟨#[]⟩, Value.int .i64 0, Value.int .i64 0] 27)
  have hbf := below_setCells hba w1.heap.size (Nat.le_refl _) Ss 0
  have hrp := range_below17 HR1.out hbf HZ1.out
  have hbw := HB1.out.trans (hbf.mono (Nat.le_of_lt HZ1.out))
  have e55 : Ss.toArray.toList = Ss := rfl
  rw [e55]
  generalize (w1.alloc (.cells #[Value.int .i64 0, Value.bool false, Value.int .i64 0, Value.int .i64 0, Value.int .i64 0, Value.int .i64 0, Value.int .i64 0, Value.int .i64 0, Value.int .i64 0, Value.int .i64 0, Value.int .i64 0, Value.int .i64 0, Value.int .i64 0, Value.int .i64 0, Value.int .i64 0, Value.int .i64 0, Value.int .i64 0, Value.int .i64 0, Value.int .i64 0, Value.int .i64 0, Value.int .i64 0, Value.int .i64 0, Value.int .i64 0, Value.int .i64 0, Value.int .i64 0, Value.int .i64 0, Value.int .i64 0, Value.int .i64 0, Value.int .i64 0, Value.int .i64 0, Value.int .i64 0, Value.int .i64 0, Value.int .i64 0, Value.int .i64 0, Value.int .i64 0, Value.int .i64 0, Value.int .i64 0, Value.int .i64 0, Value.int .i64 0, Value.int .i64 0, Value.int .i64 0, Value.int .i64 0, Value.int .i64 0, Value.int .i64 0, Value.int .i64 0, Value.int .i64 0, Value.int .i64 0, Value.int .i64 0, Value.int .i64 0, Value.int .i64 0, Value.int .i64 0, Value.int .i64 0, Value.string ⟨#[]⟩, Value.int .i64 0, Value.int .i64 0] 27)).setCells w1.heap.size 0 Ss = W3 at *
  obtain ⟨bw, hbwe⟩ : ∃ bw, w1.heap.size = bw := ⟨_, rfl⟩
  rw [hbwe] at hrr hth hz2 ⊢
  clear e55 hts hcs hba hbf HB1 HR1 HZ1
  have p53 := hrp 53 _ h53'
  have p54 := hrp 54 _ h54'
  rw [Nat.zero_add] at p53 p54
  obtain ⟨u53, hu53⟩ := hs53
  obtain ⟨u54, hu54⟩ := hs54
  have q53 := hrr 53 _ hu53
  have q54 := hrr 54 _ hu54
  have g53 := (hth 53 (by decide)).2
  have g54 := (hth 54 (by decide)).2
  rw [Nat.zero_add] at q53 q54 g53 g54
  have hrw : ((W3.drew.setCell ⟨bw, 53, none⟩ (.int .i64 f)).setCell ⟨bw, 54, none⟩ (.int .i64 l)).rangeAt bw 0 Ws := by
    rw [← hwan]
    exact range_set17 (range_set17 (W := W3.drew) hrr 53 _) 54 _
  have hrq : ((W3.drew.setCell ⟨bw, 53, none⟩ (.int .i64 f)).setCell ⟨bw, 54, none⟩ (.int .i64 l)).rangeAt bp 0 As := range_other17 (range_other17 (W := W3.drew) hrp (by omega) 53 _) (by omega) 54 _
  have hbq : Below bp w ((W3.drew.setCell ⟨bw, 53, none⟩ (.int .i64 f)).setCell ⟨bw, 54, none⟩ (.int .i64 l)) := (hbw.drew.setCell (p := ⟨bw, 53, none⟩) (Nat.le_of_lt hz2) _).setCell (p := ⟨bw, 54, none⟩) (Nat.le_of_lt hz2) _
  have hneb : bw ≠ bp := by omega
  have hrw' : (((W3.setCell ⟨bw, 53, none⟩ (.int .i64 f)).setCell ⟨bw, 54, none⟩ (.int .i64 l)).drew).rangeAt bw 0 Ws := hrw
  have hrq' : (((W3.setCell ⟨bw, 53, none⟩ (.int .i64 f)).setCell ⟨bw, 54, none⟩ (.int .i64 l)).drew).rangeAt bp 0 As := hrq
  have hbq' : Below bp w (((W3.setCell ⟨bw, 53, none⟩ (.int .i64 f)).setCell ⟨bw, 54, none⟩ (.int .i64 l)).drew) := hbq
  have hlq' : bp < (((W3.setCell ⟨bw, 53, none⟩ (.int .i64 f)).setCell ⟨bw, 54, none⟩ (.int .i64 l)).drew).heap.size ∧ bw < (((W3.setCell ⟨bw, 53, none⟩ (.int .i64 f)).setCell ⟨bw, 54, none⟩ (.int .i64 l)).drew).heap.size := ⟨World.block_lt_of_cell? (((W3.setCell ⟨bw, 53, none⟩ (.int .i64 f)).setCell ⟨bw, 54, none⟩ (.int .i64 l)).drew) _ (hrq' 53 _ h53'), World.block_lt_of_cell? (((W3.setCell ⟨bw, 53, none⟩ (.int .i64 f)).setCell ⟨bw, 54, none⟩ (.int .i64 l)).drew) ⟨bw, 0 + 0, none⟩ (hrw' 0 Ws[0] (List.getElem?_eq_getElem (by omega)))⟩
  obtain ⟨W5, hW5⟩ : ∃ W5, (((W3.setCell ⟨bw, 53, none⟩ (.int .i64 f)).setCell ⟨bw, 54, none⟩ (.int .i64 l)).drew) = W5 := ⟨_, rfl⟩
  rw [hW5] at hrw' hrq' hbq' hlq'
  have r1 : W5.drew.rangeAt bp 0 As := hrq'
  have r2 : W5.drew.rangeAt bw 0 Ws := hrw'
  have HBQ : Hid (Below bp w W5.drew) := hbq'.drew
  have n1 : bp < W5.drew.heap.size := hlq'.1
  have n2 : bw < W5.drew.heap.size := hlq'.2
  clear hrr hth hrp hbw hrw hrq hbq hu53 hu54 hrw' hrq' hbq' hlq' hwan
  go_step
  go_upto_region 2 with fail
  go_region_with fail
  all_goals
    go_upto_region 3 with fail
    refine wp_region_held_drew (S := fun w' => w'.rangeAt bp 0 As ∧ w'.rangeAt bw 0 Ws) (by kernel_rfl) ⟨r1, r2⟩ (fun hH => ?_)
    refine wpAnyH_take (i := 0) (v := .agg As.toArray) rfl (by kernel_rfl) (by kernel_rfl) (by kernel_rfl) (fun _ _ _ h => h) (yieldsIf_load_mid (by rfl) _ _ rfl bp 0 rfl As _ (fun w h => h.1) Try.underlying27 rfl (by rw [size17, hal])) hH ?_
    simp only [Act.put]
    refine wpAnyH_take (i := 1) (v := .int .i64 x) rfl (by kernel_rfl) (by kernel_rfl) (by kernel_rfl) (fun _ _ _ h => h) (Or.inl ⟨by rfl, fun w _ => rfl⟩) hH ?_
    simp only [Act.put]
    refine wpAnyH_take (i := 2) (v := .int .i64 y) rfl (by kernel_rfl) (by kernel_rfl) (by kernel_rfl) (fun _ _ _ h => h) (Or.inl ⟨by rfl, fun w _ => rfl⟩) hH ?_
    simp only [Act.put]
    refine wpAnyH_take (i := 4) (v := .agg Ws.toArray) rfl (by kernel_rfl) (by kernel_rfl) (by kernel_rfl) (fun _ _ _ h => h) (yieldsIf_load_mid (by rfl) _ _ rfl bw 0 rfl Ws _ (fun w h => h.2) Try.underlying27 rfl (by rw [size17, hwl])) hH ?_
    simp only [Act.put]
    refine wpAnyH_ready (rs := [3]) (by kernel_rfl) (by simp) ?_
    refine AllReadyH.cons rfl (fun K hK => ?_) AllReadyH.nil
    go_simp
    refine (CC.out _).mono ?_
    rintro e w6 ⟨rfl, hb6⟩
    have r3 := range_below17 r1 hb6 n1
    have r4 := range_below17 r2 hb6 n2
    have HB6 := Lib.hid (HBQ.out.trans (hb6.mono (Nat.le_of_lt n1)))
    have n3 := Nat.lt_of_lt_of_le n1 hb6.size
    have n4 := Nat.lt_of_lt_of_le n2 hb6.size
    clear hb6
    dsimp only
    refine hK.out _ _ ⟨r3, r4⟩ (fun hH2 => ?_)
    clear hK K
    refine wpAnyH_ready (rs := [5]) (by kernel_rfl) (by simp) ?_
    refine AllReadyH.cons rfl (fun K hK => ?_) AllReadyH.nil
    go_simp
    refine hK.out _ _ ⟨r3, r4⟩ (fun hI5 => ?_)
    clear hK K
    refine wpAnyH_ready (rs := [6]) (by kernel_rfl) (by simp) ?_
    refine AllReadyH.cons rfl (fun K hK => ?_) AllReadyH.nil
    go_simp
    refine hK.out _ _ ⟨r3, r4⟩ (fun hI6 => ?_)
    clear hK K
    refine wpAnyH_ready (rs := [7]) (by kernel_rfl) (by simp) ?_
    refine AllReadyH.cons rfl (fun K hK => ?_) AllReadyH.nil
    go_simp
    refine (known17_any _).mono ?_
    rintro e w7 ⟨rfl, hb7⟩
    have r5 := range_below17 r3 hb7 n3
    have r6 := range_below17 r4 hb7 n4
    have HB7 := Lib.hid (HB6.out.trans (hb7.mono (Nat.le_of_lt n3)))
    clear hb7
    dsimp only
    refine hK.out _ _ ⟨r5, r6⟩ (fun hH3 => ?_)
    clear hK K
    refine wpAnyH_ready (rs := [8]) (by kernel_rfl) (by simp) ?_
    refine AllReadyH.cons rfl (fun K hK => ?_) AllReadyH.nil
    go_simp
    refine hK.out _ _ ⟨r5, r6⟩ (fun hI8 => ?_)
    clear hK K
    refine wpAnyH_ready (rs := [9]) (by kernel_rfl) (by simp) ?_
    refine AllReadyH.cons rfl (fun K hK => ?_) AllReadyH.nil
    go_simp
    refine hK.out _ _ ⟨r5, r6⟩ (fun hI9 => ?_)
    clear hK K
    refine wpAnyH_done (by kernel_rfl) ?_ _
    go_wp2_with fail
    go_ret
    exact ⟨rfl, hbp ▸ HB7.out⟩
end Go.Proofs.Ytlngipglhlhhbaa
