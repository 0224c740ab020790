/- Interleaved bytes: those of a block's beginning, then those of its rest. -/
import Derived.Test.YtegomicpolnpoaaXC
import Derived.Test.YtegomicpolnpoaaTE
namespace Go.Proofs.Ytegomicpolnpoaa
open Go.RowKit Go.Deep Go.Shelf

/-- The bytes of levels one behind the other. -/
def strL (e : Nat) : List Int → ByteArray
  | [] => ByteArray.empty
  | n :: l => lvS e n ++ strL e l
theorem strL_append (e : Nat) : ∀ a b : List Int, strL e (a ++ b) = strL e a ++ strL e b
  | [], b => by simp [strL]
  | n :: a, b => by simp only [List.cons_append, strL]; rw [strL_append e a b, ByteArray.append_assoc]

theorem lvTo_two {σ : Type} {lv : σ → Nat → Int → Int} {nx : σ → Nat → Int → σ} {m : List (List Int)} (l2 : List (Nat × Nat)) : ∀ (l1 : List (Nat × Nat)) (s : σ), lvTo lv nx m s (l1 ++ l2) = lvTo lv nx m s l1 ++ lvTo lv nx m (stTo nx m s l1) l2
  | [], s => by simp [lvTo, stTo]
  | x :: l1, s => by
    simp only [List.cons_append, lvTo]
    rw [lvTo_two l2 l1]
    simp [stTo]
theorem stTo_two {σ : Type} {nx : σ → Nat → Int → σ} {m : List (List Int)} (s : σ) (l1 l2 : List (Nat × Nat)) : stTo nx m s (l1 ++ l2) = stTo nx m (stTo nx m s l1) l2 := by simp [stTo]
/-- The same samples at spots moved. -/
theorem lvTo_moved {σ : Type} {lv : σ → Nat → Int → Int} {nx : σ → Nat → Int → σ} {m y : List (List Int)} (g : Nat × Nat → Nat × Nat) : ∀ (l : List (Nat × Nat)) (s : σ), (∀ x ∈ l, (g x).1 = x.1 ∧ smpAt m (g x) = smpAt y x) →
    (lvTo lv nx m s (l.map g)).map Prod.snd = (lvTo lv nx y s l).map Prod.snd ∧ stTo nx m s (l.map g) = stTo nx y s l
  | [], s, _ => ⟨rfl, rfl⟩
  | x :: l, s, h => by
    obtain ⟨h1, h2⟩ := h x (by simp)
    have hr := lvTo_moved (lv := lv) (nx := nx) g l (nx s x.1 (smpAt y x)) (fun z hz => h z (by simp [hz]))
    simp only [List.map_cons, lvTo, h1, h2]
    refine ⟨by rw [hr.1], ?_⟩
    have := hr.2
    simpa [stTo, h1, h2] using this

theorem rowS_moved (r n f : Nat) : rowS (n + f) r = (rowS f r).map fun x => (x.1, n + x.2) := by
  unfold rowS; rw [List.map_map]; rfl
theorem spTo_moved (r n : Nat) : ∀ k, spTo r (n + k) = spTo r n ++ (spTo r k).map fun x => (x.1, n + x.2)
  | 0 => by simp [spTo]
  | k + 1 => by
    rw [← Nat.add_assoc, spTo_succ, spTo_moved r n k, spTo_succ r k, List.map_append, List.append_assoc, rowS_moved]

theorem laidL_plus (e r c : Nat) (LV : Nat × Nat → Int) (hr : 0 < r) (f : Nat) : ∀ k, k ≤ r → laidL e false r c LV (f * r + k) = laidL e false r c LV (f * r) ++ strL e ((rowS f k).map LV)
  | 0, _ => by simp [rowS, strL]
  | k + 1, h => by
    rw [← Nat.add_assoc, laidL, laidL_plus e r c LV hr f k (by omega), rowS_succ, List.map_append, strL_append]
    have : spotAt false r c (f * r + k) = (k, f) := by
      unfold spotAt
      simp only [Bool.false_eq_true, if_false]
      rw [Nat.mul_add_mod_of_lt (by omega), divE (by omega)]
    rw [this]
    simp [strL, ByteArray.append_assoc]
theorem laidL_list (e r : Nat) (LV : Nat × Nat → Int) (hr : 0 < r) (c : Nat) : ∀ f, laidL e false r c LV (f * r) = strL e ((spTo r f).map LV)
  | 0 => by simp [laidL, spTo, strL]
  | f + 1 => by
    rw [Nat.add_mul, Nat.one_mul, laidL_plus e r c LV hr f r (Nat.le_refl _), laidL_list e r LV hr c f, spTo_succ, List.map_append, strL_append]
/-- Interleaved, the bytes are those of the levels as they were made. -/
theorem laidL_made {σ : Type} {lv : σ → Nat → Int → Int} {nx : σ → Nat → Int → σ} {m : List (List Int)} {s : σ} (e r c : Nat) (LV : Nat × Nat → Int) (hr : 0 < r) (h : ∀ y ∈ lvTo lv nx m s (spTo r c), y.2 = LV y.1) :
    laidL e false r c LV (c * r) = strL e ((lvTo lv nx m s (spTo r c)).map Prod.snd) := by
  rw [laidL_list e r LV hr c c]
  congr 1
  conv => lhs; rw [← lvTo_fst (lv := lv) (nx := nx) (m := m) (spTo r c) s]
  rw [List.map_map]
  exact List.map_congr_left fun y hy => (h y hy).symm
end Go.Proofs.Ytegomicpolnpoaa
namespace Go.Proofs.Ytegomicpolnpoaa
open Go.RowKit Go.Deep Go.Shelf

theorem part_smp0 {m : List (List Int)} {n : Nat} {x : Nat × Nat} (h1 : x.1 < m.length) (h2 : x.2 < n) : smpAt (partM m 0 n) x = smpAt m x := by
  unfold smpAt
  rw [partM_at h1]
  simp [List.getD, List.getElem?_take, h2]
theorem part_smp1 {m : List (List Int)} {n : Nat} {x : Nat × Nat} (h1 : x.1 < m.length) (h2 : x.2 < cols m - n) : smpAt (partM m n (cols m)) x = smpAt m (x.1, n + x.2) := by
  unfold smpAt
  rw [partM_at h1]
  simp [List.getD, List.getElem?_take, h2]
theorem spots_cut {m : List (List Int)} {n : Nat} (hn : n ≤ cols m) : spTo m.length (cols m) = spTo m.length n ++ (spTo m.length (cols m - n)).map fun x => (x.1, n + x.2) := by
  rw [← spTo_moved, Nat.add_sub_cancel' hn]
section
variable {m : List (List Int)} (hv : validB m = true) {n : Nat} (hn : n ≤ cols m)
include hv hn
theorem part_cols0 : cols (partM m 0 n) = n := by
  obtain ⟨hr1, hr8, hc4, hc⟩ := validB_parts hv
  unfold cols
  rw [partM_at (by omega)]
  have := hc 0 (by omega)
  simp only [List.length_take, List.length_drop]
  omega
theorem part_cols1 : cols (partM m n (cols m)) = cols m - n := by
  obtain ⟨hr1, hr8, hc4, hc⟩ := validB_parts hv
  have := hc 0 (by omega)
  show ((partM m n (cols m)).getD 0 []).length = cols m - n
  rw [partM_at (by omega)]
  simp only [List.length_take, List.length_drop]
  omega
theorem part_valid0 : validB (partM m 0 n) = true := by
  obtain ⟨hr1, hr8, hc4, hc⟩ := validB_parts hv
  have hok := validB_smp hv
  unfold validB
  rw [part_cols0 hv hn, partM_len, Bool.and_eq_true, Bool.and_eq_true]
  refine ⟨⟨by simp [chB]; omega, by simp [frB]; omega⟩, all_yes_of (d := []) fun q hq => ?_⟩
  rw [partM_len] at hq
  have hl : ((partM m 0 n).getD q []).length = n := by rw [partM_at hq]; have := hc q hq; simp only [List.length_take, List.length_drop]; omega
  unfold rowOk within
  rw [Bool.and_eq_true]
  refine ⟨decide_eq_true hl, all_yes_of (d := 0) fun k hk => ?_⟩
  rw [hl] at hk
  have e := part_smp0 (x := (q, k)) hq hk
  have h := hok q k hq (by omega)
  unfold smpAt at e
  simp only at e
  rw [e]
  unfold okS at h
  simp only [inB, Bool.and_eq_true, decide_eq_true_eq]
  omega
theorem part_valid1 : validB (partM m n (cols m)) = true := by
  obtain ⟨hr1, hr8, hc4, hc⟩ := validB_parts hv
  have hok := validB_smp hv
  unfold validB
  rw [part_cols1 hv hn, partM_len, Bool.and_eq_true, Bool.and_eq_true]
  refine ⟨⟨by simp [chB]; omega, by simp [frB]; omega⟩, all_yes_of (d := []) fun q hq => ?_⟩
  rw [partM_len] at hq
  have hl : ((partM m n (cols m)).getD q []).length = cols m - n := by rw [partM_at hq]; have := hc q hq; simp only [List.length_take, List.length_drop]; omega
  unfold rowOk within
  rw [Bool.and_eq_true]
  refine ⟨decide_eq_true hl, all_yes_of (d := 0) fun k hk => ?_⟩
  rw [hl] at hk
  have e := part_smp1 (x := (q, k)) hq hk
  have h := hok q (n + k) hq (by omega)
  unfold smpAt at e
  simp only at e
  rw [e]
  unfold okS at h
  simp only [inB, Bool.and_eq_true, decide_eq_true_eq]
  omega

theorem bytes_cut (e : Nat) : bytesOf e false m = bytesOf e false (partM m 0 n) ++ bytesOf e false (partM m n (cols m)) := by
  obtain ⟨hr1, hr8, hc4, hc⟩ := validB_parts hv
  have a0 := (validB_parts (part_valid0 hv hn)).2.2.2
  have a1 := (validB_parts (part_valid1 hv hn)).2.2.2
  rw [bytesOf_L hc, bytesOf_L a0, bytesOf_L a1]
  rw [part_cols0 hv hn, part_cols1 hv hn, partM_len, partM_len]
  rw [laidL_list e m.length _ (by omega), laidL_list e m.length _ (by omega), laidL_list e m.length _ (by omega), spots_cut hn, List.map_append, strL_append, List.map_map]
  congr 2
  · exact List.map_congr_left fun x hx => by
      obtain ⟨h1, h2⟩ := mem_spTo.1 hx
      rw [part_smp0 h1 h2]
  · exact List.map_congr_left fun x hx => by
      obtain ⟨h1, h2⟩ := mem_spTo.1 hx
      simp only [Function.comp]
      rw [part_smp1 h1 h2]
theorem dith_cut (e : Nat) (sh : Bool) (s : Int × List Int) :
    dBytes e sh false m s = dBytes e sh false (partM m 0 n) s ++ dBytes e sh false (partM m n (cols m)) (dEnd e sh (partM m 0 n) s) ∧ dEnd e sh m s = dEnd e sh (partM m n (cols m)) (dEnd e sh (partM m 0 n) s) := by
  obtain ⟨hr1, hr8, hc4, hc⟩ := validB_parts hv
  have b0 := laidL_made (lv := dLv e) (nx := dNx e sh) e m.length (cols m) (dLV e sh m s) (by omega) (dLV_at e sh m s)
  have b1 := laidL_made (lv := dLv e) (nx := dNx e sh) e m.length n (dLV e sh (partM m 0 n) s) (m := partM m 0 n) (s := s) (by omega) (by
    have := dLV_at e sh (partM m 0 n) s
    rwa [part_cols0 hv hn, partM_len] at this)
  have b2 := laidL_made (lv := dLv e) (nx := dNx e sh) e m.length (cols m - n) (dLV e sh (partM m n (cols m)) (dEnd e sh (partM m 0 n) s)) (m := partM m n (cols m)) (s := dEnd e sh (partM m 0 n) s) (by omega) (by
    have := dLV_at e sh (partM m n (cols m)) (dEnd e sh (partM m 0 n) s)
    rwa [part_cols1 hv hn, partM_len] at this)
  have m0 := lvTo_moved (lv := dLv e) (nx := dNx e sh) (m := m) (y := partM m 0 n) id (spTo m.length n) s (fun x hx => by
    obtain ⟨h1, h2⟩ := mem_spTo.1 hx
    exact ⟨rfl, (part_smp0 h1 h2).symm⟩)
  rw [List.map_id] at m0
  have m1 := fun t => lvTo_moved (lv := dLv e) (nx := dNx e sh) (m := m) (y := partM m n (cols m)) (fun x => (x.1, n + x.2)) (spTo m.length (cols m - n)) t (fun x hx => by
    obtain ⟨h1, h2⟩ := mem_spTo.1 hx
    exact ⟨rfl, (part_smp1 h1 h2).symm⟩)
  have e0 : dEnd e sh (partM m 0 n) s = stTo (dNx e sh) m s (spTo m.length n) := by
    unfold dEnd
    rw [part_cols0 hv hn, partM_len, m0.2]
  refine ⟨?_, ?_⟩
  · unfold dBytes
    rw [part_cols0 hv hn, part_cols1 hv hn, partM_len, partM_len, b0, b1, b2, spots_cut hn, lvTo_two, List.map_append, strL_append, m0.1, (m1 _).1, e0]
  · have h3 : ∀ t, dEnd e sh (partM m n (cols m)) t = stTo (dNx e sh) (partM m n (cols m)) t (spTo m.length (cols m - n)) := fun t => by
      unfold dEnd; rw [part_cols1 hv hn, partM_len]
    rw [h3, e0, ← (m1 _).2, ← stTo_two, ← spots_cut hn]
    rfl
end
end Go.Proofs.Ytegomicpolnpoaa
