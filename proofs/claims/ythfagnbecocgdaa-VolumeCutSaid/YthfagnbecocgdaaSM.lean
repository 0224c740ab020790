/- A volume's arithmetic: One leaves a block as it is; a block cut in two; muted. -/
import Derived.Test.YthfagnbecocgdaaSL
import Derived.Test.YthfagnbecocgdaaTE
import Derived.Test.YthfagnbecocgdaaTH
namespace Go.Proofs.Ythfagnbecocgdaa
open Go.RowKit Go.Shelf Go.Deep

theorem times_oneC {s : Int} (h : s.natAbs ≤ 8388607) : times s 65536 = s := by
  unfold times
  have h2 : rnd (s * 65536) 65536 = s := by
    unfold rnd
    split <;> omega
  rw [h2]
  unfold bnd
  omega
theorem one1_ok : one1.Ok := ⟨⟨by decide, by decide, by decide, by decide⟩, by decide⟩
theorem chAt_rep {n i : Nat} (h : i < n) : chAt (List.replicate n one1) i = one1 := by simp [chAt, List.getD, h]
theorem rampG_one (i : Nat) : rampG 0 65536 0 0 i = 65536 := by rw [rampG_steady]; unfold grownI; rw [if_pos (by omega)]
theorem rampG_mute (i : Nat) : rampG 65536 0 0 0 i = 0 := by unfold rampG grownI; rw [if_pos (by omega)]
theorem scaled_ext {r : List Int} {G : Nat → Int} {s : List Int} (hl : s.length = r.length) (h : ∀ i, i < r.length → s.getD i 0 = times (r.getD i 0) (G i)) : scaledR r G = s := by
  apply List.ext_getElem?
  intro i
  by_cases hi : i < r.length
  · have h1 := h i hi
    have h2 := scaledR_at (G := G) hi
    rw [List.getD_eq_getElem?_getD, List.getElem?_eq_getElem (by rw [scaledR_len]; exact hi)] at h2
    rw [List.getD_eq_getElem?_getD, List.getElem?_eq_getElem (by omega : i < s.length)] at h1
    rw [List.getElem?_eq_getElem (by rw [scaledR_len]; exact hi), List.getElem?_eq_getElem (by omega : i < s.length)]
    simp only [Option.getD_some] at h1 h2
    rw [h1, h2]
  · rw [List.getElem?_eq_none (by rw [scaledR_len]; omega), List.getElem?_eq_none (by omega)]
theorem push_one {n : Nat} {b : List (List Int)} (hv : validB b = true) (hn : b.length = n) : pushM (List.replicate n one1) b = b := by
  apply mat_eq_of (by rw [pushM_len])
  intro j hj
  rw [pushM_len] at hj
  rw [pushM_at hj, chAt_rep (by omega)]
  refine scaled_ext rfl fun i hi => ?_
  show _ = times _ (rampG 0 65536 0 0 i)
  rw [rampG_one, times_oneC (cell_abs hv j i)]
theorem gone_one {n : Nat} {k : Int} (hk : 0 ≤ k) : (List.replicate n one1).map (goC k) = List.replicate n one1 := by
  rw [List.map_replicate, show goC k one1 = one1 by unfold goC one1; simp; omega]
theorem rampG_later {f t n a : Int} (ha : 0 ≤ a ∧ a ≤ n) (k i : Nat) : rampG f t n (a + min (k : Int) (n - a)) i = rampG f t n a (k + i) := by
  unfold rampG
  congr 1
  omega
theorem scaled_cut {r : List Int} {G : Nat → Int} {k : Nat} (hk : k ≤ r.length) : scaledR r G = scaledR (r.take k) G ++ scaledR (r.drop k) (fun i => G (k + i)) := by
  have l1 : (r.take k).length = k := by rw [List.length_take]; omega
  have l2 : (r.drop k).length = r.length - k := List.length_drop
  refine scaled_ext (by rw [List.length_append, scaledR_len, scaledR_len, l1, l2]; omega) fun i hi => ?_
  rw [List.getD_eq_getElem?_getD]
  by_cases h : i < k
  · rw [List.getElem?_append_left (by rw [scaledR_len, l1]; exact h), ← List.getD_eq_getElem?_getD, scaledR_at (by rw [l1]; exact h)]
    simp [List.getD, List.getElem?_take, h]
  · rw [List.getElem?_append_right (by rw [scaledR_len, l1]; omega), scaledR_len, l1, ← List.getD_eq_getElem?_getD, scaledR_at (by rw [l2]; omega), show k + (i - k) = i by omega]
    simp [List.getD, List.getElem?_drop, show k + (i - k) = i by omega]
theorem part_valid {b : List (List Int)} (hv : validB b = true) {f t : Nat} (hft : f ≤ t) (ht : t ≤ cols b) : validB (partM b f t) = true ∧ cols (partM b f t) = t - f := by
  obtain ⟨h1, h8, hc, hrow⟩ := validB_parts hv
  have hrl : ∀ j, j < b.length → ((partM b f t).getD j []).length = t - f := fun j hj => by
    rw [partM_at hj, List.length_take, List.length_drop, hrow j hj]; omega
  have hcol : cols (partM b f t) = t - f := hrl 0 (by omega)
  refine ⟨?_, hcol⟩
  unfold validB
  rw [Bool.and_eq_true, Bool.and_eq_true]
  refine ⟨⟨by rw [partM_len]; simp [chB]; omega, by rw [hcol]; simp [frB]; omega⟩, ?_⟩
  refine all_yes_of' (d := []) fun j hj => ?_
  rw [partM_len] at hj
  unfold rowOk
  rw [Bool.and_eq_true]
  refine ⟨by rw [hrl j hj, hcol]; simp, ?_⟩
  show List.all _ (inB 8388607) = true
  refine all_yes_of' (d := 0) fun i hi => ?_
  rw [hrl j hj] at hi
  rw [partM_at hj]
  have hx : (((b.getD j []).drop f).take (t - f)).getD i 0 = (b.getD j []).getD (f + i) 0 := by simp [List.getD, List.getElem?_take, hi]
  rw [hx]
  have := cell_abs hv j (f + i)
  simp [inB]
  simp only [List.getD_eq_getElem?_getD] at this
  omega
theorem push_cut {cs : List Ch} {b : List (List Int)} (hv : validB b = true) (hl : cs.length = b.length) (hok : ∀ i, i < cs.length → (chAt cs i).Ok) {k : Nat} (hk : k ≤ cols b) :
    pushM cs b = behindM (pushM cs (partM b 0 k)) (pushM (cs.map (goC k)) (partM b k (cols b))) := by
  obtain ⟨h1, h8, hc, hrow⟩ := validB_parts hv
  apply mat_eq_of (by rw [pushM_len, behindM_len, pushM_len, partM_len])
  intro j hj
  rw [pushM_len] at hj
  have hjl : (b.getD j []).length = cols b := hrow j hj
  rw [pushM_at hj, behindM_at (by rw [pushM_len, partM_len]; exact hj), pushM_at (by rw [partM_len]; exact hj), pushM_at (by rw [partM_len]; exact hj), partM_at hj, partM_at hj, chAt_map (by omega)]
  rw [scaled_cut (k := k) (by omega), List.drop_zero, Nat.sub_zero]
  congr 1
  rw [List.take_of_length_le (by rw [List.length_drop]; omega)]
  congr 1
  funext i
  exact (rampG_later (hok j (by omega)).ramp.ha k i).symm
end Go.Proofs.Ythfagnbecocgdaa
