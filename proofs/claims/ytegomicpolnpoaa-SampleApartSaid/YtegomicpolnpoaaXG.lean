/- A block cut in two: its bytes, interleaved, with noise and without. -/
import Derived.Test.YtegomicpolnpoaaXF
import Derived.Test.YtegomicpolnpoaaTE
namespace Go.Proofs.Ytegomicpolnpoaa
open Go.RowKit Go.Deep Go.Shelf

theorem part_smp0 {m : List (List Int)} {n : Nat} {x : Nat × Nat} (h1 : x.1 < m.length) (h2 : x.2 < n) : smpAt (partM m 0 n) x = smpAt m x := by
  unfold smpAt
  rw [partM_at h1]
  simp [List.getD, List.getElem?_take, h2]
theorem part_smp1 {m : List (List Int)} {n : Nat} {x : Nat × Nat} (h1 : x.1 < m.length) (h2 : x.2 < cols m - n) : smpAt (partM m n (cols m)) x = smpAt m (x.1, n + x.2) := by
  unfold smpAt
  rw [partM_at h1]
  simp [List.getD, List.getElem?_take, h2]
theorem spots_cut {m : List (List Int)} {n : Nat} (hn : n ≤ cols m) : spTo m.length (cols m) = spTo m.length n ++ (spTo m.length (cols m - n)).map fun x => (x.1, n + x.2) := by
  rw [← spTo_moved, Nat.add_sub_cancel' hn]
section
variable {m : List (List Int)} (hv : validB m = true) {n : Nat} (hn : n ≤ cols m)
include hv hn
theorem part_cols0 : cols (partM m 0 n) = n := by
  obtain ⟨hr1, hr8, hc4, hc⟩ := validB_parts hv
  unfold cols
  rw [partM_at (by omega)]
  have := hc 0 (by omega)
  simp only [List.length_take, List.length_drop]
  omega
theorem part_cols1 : cols (partM m n (cols m)) = cols m - n := by
  obtain ⟨hr1, hr8, hc4, hc⟩ := validB_parts hv
  have := hc 0 (by omega)
  show ((partM m n (cols m)).getD 0 []).length = cols m - n
  rw [partM_at (by omega)]
  simp only [List.length_take, List.length_drop]
  omega
theorem part_valid0 : validB (partM m 0 n) = true := by
  obtain ⟨hr1, hr8, hc4, hc⟩ := validB_parts hv
  have hok := validB_smp hv
  unfold validB
  rw [part_cols0 hv hn, partM_len, Bool.and_eq_true, Bool.and_eq_true]
  refine ⟨⟨by simp [chB]; omega, by simp [frB]; omega⟩, all_yes_of (d := []) fun q hq => ?_⟩
  rw [partM_len] at hq
  have hl : ((partM m 0 n).getD q []).length = n := by rw [partM_at hq]; have := hc q hq; simp only [List.length_take, List.length_drop]; omega
  unfold rowOk within
  rw [Bool.and_eq_true]
  refine ⟨decide_eq_true hl, all_yes_of (d := 0) fun k hk => ?_⟩
  rw [hl] at hk
  have e := part_smp0 (x := (q, k)) hq hk
  have h := hok q k hq (by omega)
  unfold smpAt at e
  simp only at e
  rw [e]
  unfold okS at h
  simp only [inB, Bool.and_eq_true, decide_eq_true_eq]
  omega
theorem part_valid1 : validB (partM m n (cols m)) = true := by
  obtain ⟨hr1, hr8, hc4, hc⟩ := validB_parts hv
  have hok := validB_smp hv
  unfold validB
  rw [part_cols1 hv hn, partM_len, Bool.and_eq_true, Bool.and_eq_true]
  refine ⟨⟨by simp [chB]; omega, by simp [frB]; omega⟩, all_yes_of (d := []) fun q hq => ?_⟩
  rw [partM_len] at hq
  have hl : ((partM m n (cols m)).getD q []).length = cols m - n := by rw [partM_at hq]; have := hc q hq; simp only [List.length_take, List.length_drop]; omega
  unfold rowOk within
  rw [Bool.and_eq_true]
  refine ⟨decide_eq_true hl, all_yes_of (d := 0) fun k hk => ?_⟩
  rw [hl] at hk
  have e := part_smp1 (x := (q, k)) hq hk
  have h := hok q (n + k) hq (by omega)
  unfold smpAt at e
  simp only at e
  rw [e]
  unfold okS at h
  simp only [inB, Bool.and_eq_true, decide_eq_true_eq]
  omega

theorem bytes_cut (e : Nat) : bytesOf e false m = bytesOf e false (partM m 0 n) ++ bytesOf e false (partM m n (cols m)) := by
  obtain ⟨hr1, hr8, hc4, hc⟩ := validB_parts hv
  have a0 := (validB_parts (part_valid0 hv hn)).2.2.2
  have a1 := (validB_parts (part_valid1 hv hn)).2.2.2
  rw [bytesOf_L hc, bytesOf_L a0, bytesOf_L a1]
  rw [part_cols0 hv hn, part_cols1 hv hn, partM_len, partM_len]
  rw [laidL_list e m.length _ (by omega), laidL_list e m.length _ (by omega), laidL_list e m.length _ (by omega), spots_cut hn, List.map_append, strL_append, List.map_map]
  congr 2
  · exact List.map_congr_left fun x hx => by
      obtain ⟨h1, h2⟩ := mem_spTo.1 hx
      rw [part_smp0 h1 h2]
  · exact List.map_congr_left fun x hx => by
      obtain ⟨h1, h2⟩ := mem_spTo.1 hx
      simp only [Function.comp]
      rw [part_smp1 h1 h2]
theorem dith_cut (e : Nat) (sh : Bool) (s : Int × List Int) :
    dBytes e sh false m s = dBytes e sh false (partM m 0 n) s ++ dBytes e sh false (partM m n (cols m)) (dEnd e sh (partM m 0 n) s) ∧ dEnd e sh m s = dEnd e sh (partM m n (cols m)) (dEnd e sh (partM m 0 n) s) := by
  obtain ⟨hr1, hr8, hc4, hc⟩ := validB_parts hv
  have b0 := laidL_made (lv := dLv e) (nx := dNx e sh) e m.length (cols m) (dLV e sh m s) (by omega) (dLV_at e sh m s)
  have b1 := laidL_made (lv := dLv e) (nx := dNx e sh) e m.length n (dLV e sh (partM m 0 n) s) (m := partM m 0 n) (s := s) (by omega) (by
    have := dLV_at e sh (partM m 0 n) s
    rwa [part_cols0 hv hn, partM_len] at this)
  have b2 := laidL_made (lv := dLv e) (nx := dNx e sh) e m.length (cols m - n) (dLV e sh (partM m n (cols m)) (dEnd e sh (partM m 0 n) s)) (m := partM m n (cols m)) (s := dEnd e sh (partM m 0 n) s) (by omega) (by
    have := dLV_at e sh (partM m n (cols m)) (dEnd e sh (partM m 0 n) s)
    rwa [part_cols1 hv hn, partM_len] at this)
  have m0 := lvTo_moved (lv := dLv e) (nx := dNx e sh) (m := m) (y := partM m 0 n) id (spTo m.length n) s (fun x hx => by
    obtain ⟨h1, h2⟩ := mem_spTo.1 hx
    exact ⟨rfl, (part_smp0 h1 h2).symm⟩)
  rw [List.map_id] at m0
  have m1 := fun t => lvTo_moved (lv := dLv e) (nx := dNx e sh) (m := m) (y := partM m n (cols m)) (fun x => (x.1, n + x.2)) (spTo m.length (cols m - n)) t (fun x hx => by
    obtain ⟨h1, h2⟩ := mem_spTo.1 hx
    exact ⟨rfl, (part_smp1 h1 h2).symm⟩)
  have e0 : dEnd e sh (partM m 0 n) s = stTo (dNx e sh) m s (spTo m.length n) := by
    unfold dEnd
    rw [part_cols0 hv hn, partM_len, m0.2]
  refine ⟨?_, ?_⟩
  · unfold dBytes
    rw [part_cols0 hv hn, part_cols1 hv hn, partM_len, partM_len, b0, b1, b2, spots_cut hn, lvTo_two, List.map_append, strL_append, m0.1, (m1 _).1, e0]
  · have h3 : ∀ t, dEnd e sh (partM m n (cols m)) t = stTo (dNx e sh) (partM m n (cols m)) t (spTo m.length (cols m - n)) := fun t => by
      unfold dEnd; rw [part_cols1 hv hn, partM_len]
    rw [h3, e0, ← (m1 _).2, ← stTo_two, ← spots_cut hn]
    rfl
end
end Go.Proofs.Ytegomicpolnpoaa
