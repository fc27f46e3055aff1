/- Plain numbers for layer 2: how many places go ahead; the shares, told outright. Nothing of the program is imported. -/
import Derived.Test.YtaegajlffiepoaaShaD2
import Derived.Test.YtaegajlffiepoaaShaM2
namespace Go.Proofs.Ytaegajlffiepoaa.ShaD
open FixM ShaM

/-- how many places go ahead of one -/
def rk (r : Nat → Int) (n i : Nat) : Nat := ((List.range n).filter (fun x => decide (r i < r x ∨ (r x = r i ∧ x < i)))).length

theorem onto {n : Nat} {d : Array Int} (hr : Rng n d) (hinj : ∀ i j, i < j → j < n → d[i]! ≠ d[j]!) (x : Nat) (hx : x < n) : ∃ k, k < n ∧ d[k]! = (x : Int) := by
  have hinj' : ∀ i j, i < n → j < n → d[i]! = d[j]! → i = j := fun i j h1 h2 e => by
    by_cases c : i < j
    · exact absurd e (hinj i j c h2)
    · by_cases c2 : j < i
      · exact absurd e.symm (hinj j i c2 h1)
      · omega
  have hnd : ((List.range n).map (fun k => (d[k]!).toNat)).Nodup := by
    rw [List.nodup_iff_pairwise_ne, List.pairwise_map]
    refine List.Pairwise.imp_of_mem ?_ List.nodup_range
    intro a b ha hb hne e
    have h1 := hr a (List.mem_range.1 ha)
    have h2 := hr b (List.mem_range.1 hb)
    exact hne (hinj' a b (List.mem_range.1 ha) (List.mem_range.1 hb) (by omega))
  by_cases hm : x ∈ (List.range n).map (fun k => (d[k]!).toNat)
  · obtain ⟨k, k1, k2⟩ := List.mem_map.1 hm
    have := hr k (List.mem_range.1 k1)
    exact ⟨k, List.mem_range.1 k1, by omega⟩
  · have hnd2 : (x :: (List.range n).map (fun k => (d[k]!).toNat)).Nodup := List.nodup_cons.2 ⟨hm, hnd⟩
    have hsub : (x :: (List.range n).map (fun k => (d[k]!).toNat)) ⊆ List.range n := by
      intro y hy
      rcases List.mem_cons.1 hy with rfl | hy
      · exact List.mem_range.2 hx
      · obtain ⟨k, k1, k2⟩ := List.mem_map.1 hy
        have := hr k (List.mem_range.1 k1)
        exact List.mem_range.2 (by omega)
    have := List.Nodup.length_le_of_subset hnd2 hsub
    simp at this
    omega

theorem rk_eq {n : Nat} {d : Array Int} (r : Nat → Int) (hr : Rng n d) (hinj : ∀ i j, i < j → j < n → d[i]! ≠ d[j]!) (hs : Srt (LTo (fun x => r x.toNat)) 0 n d) (i j : Nat) (hj : j < n) (hd : d[j]! = (i : Int)) : rk r n i = j := by
  have hinj' : ∀ i j, i < n → j < n → d[i]! = d[j]! → i = j := fun i j h1 h2 e => by
    by_cases c : i < j
    · exact absurd e (hinj i j c h2)
    · by_cases c2 : j < i
      · exact absurd e.symm (hinj j i c2 h1)
      · omega
  have hO := LTo_ord (fun x => r x.toNat)
  have hnd1 : ((List.range n).filter (fun x => decide (r i < r x ∨ (r x = r i ∧ x < i)))).Nodup := List.nodup_range.filter _
  have hnd2 : ((List.range j).map (fun k => (d[k]!).toNat)).Nodup := by
    rw [List.nodup_iff_pairwise_ne, List.pairwise_map]
    refine List.Pairwise.imp_of_mem ?_ List.nodup_range
    intro a b ha hb hne e
    have ha' := List.mem_range.1 ha
    have hb' := List.mem_range.1 hb
    have h1 := hr a (by omega)
    have h2 := hr b (by omega)
    exact hne (hinj' a b (by omega) (by omega) (by omega))
  have hmem : ∀ x, x ∈ (List.range n).filter (fun x => decide (r i < r x ∨ (r x = r i ∧ x < i))) ↔ x ∈ (List.range j).map (fun k => (d[k]!).toNat) := by
    intro x
    rw [List.mem_filter, List.mem_range, List.mem_map]
    constructor
    · rintro ⟨hx, hlt⟩
      have hlt' := of_decide_eq_true hlt
      obtain ⟨k, k1, k2⟩ := onto hr hinj x hx
      have hL : LTo (fun x => r x.toNat) d[k]! d[j]! := by
        rw [k2, hd]
        unfold LTo
        simp only [Int.toNat_natCast]
        omega
      have hkj : k < j := by
        by_cases c : k < j
        · exact c
        · by_cases c2 : k = j
          · rw [c2] at hL; exact absurd hL (hO.asymm _ _ hL)
          · exact absurd (hs j k (Nat.zero_le _) (by omega) k1) (hO.asymm _ _ hL)
      exact ⟨k, List.mem_range.2 hkj, by rw [k2]; simp⟩
    · rintro ⟨k, k1, k2⟩
      have hk := List.mem_range.1 k1
      have hrk := hr k (by omega)
      have hL := hs k j (Nat.zero_le _) hk hj
      have hx : d[k]! = (x : Int) := by omega
      rw [hx, hd] at hL
      unfold LTo at hL
      simp only [Int.toNat_natCast] at hL
      exact ⟨by omega, decide_eq_true (by omega)⟩
  have hp := (List.perm_ext_iff_of_nodup hnd1 hnd2).2 hmem
  have hl := hp.length_eq
  rw [List.length_map, List.length_range] at hl
  exact hl

theorem pk_rk {n : Nat} {d : Array Int} (r : Nat → Int) (hr : Rng n d) (hinj : ∀ i j, i < j → j < n → d[i]! ≠ d[j]!) (hs : Srt (LTo (fun x => r x.toNat)) 0 n d) (L i : Nat) (hi : i < n) :
    pk d L i = if rk r n i < L then 1 else 0 := by
  obtain ⟨j, j1, j2⟩ := onto hr hinj i hi
  have e := rk_eq r hr hinj hs i j j1 j2
  rw [e]
  by_cases c : j < L
  · rw [if_pos c, (pk_iff d L i).2 ⟨j, c, j2⟩]
  · rw [if_neg c]
    have hn : ¬ pk d L i = 1 := fun h => by
      obtain ⟨k, k1, k2⟩ := (pk_iff d L i).1 h
      by_cases ck : k < n
      · have := rk_eq r hr hinj hs i k ck k2
        omega
      · omega
    have := pk_bd d L i
    omega

/-- the share of a place, of a total that is not below 0 -/
def share0 (t : Int) (ws : List Int) (i : Nat) : Int :=
  if wsum ws = 0 then 0 else qs t (wsum ws) ws i + if rk (rs t (wsum ws) ws) ws.length i < (t - qsum t (wsum ws) ws ws.length).toNat then 1 else 0
/-- the share of a place -/
def shareS (t : Int) (ws : List Int) (i : Nat) : Int := if t < 0 then -(share0 (-t) ws i) else share0 t ws i
end Go.Proofs.Ytaegajlffiepoaa.ShaD
