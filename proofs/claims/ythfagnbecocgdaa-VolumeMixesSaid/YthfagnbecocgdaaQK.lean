/- A list of blocks turned round; one block alone; Frames. -/
import Derived.Test.YthfagnbecocgdaaQD
import Derived.Test.YthfagnbecocgdaaQJ
import Derived.Test.YthfagnbecocgdaaRN
namespace Go.Proofs.Ythfagnbecocgdaa
open Go.RowKit Go.Shelf Go.Deep

def SF (f : Nat → Int) : Nat → Int
  | 0 => 0
  | k + 1 => SF f k + f k
theorem SF_shift (f : Nat → Int) (n : Nat) : SF f (n + 1) = f 0 + SF (fun k => f (k + 1)) n := by
  induction n with
  | zero => simp [SF]
  | succ n ih =>
    rw [show SF f (n + 1 + 1) = SF f (n + 1) + f (n + 1) from rfl, ih]
    simp only [SF]
    omega
theorem SF_congr {f g : Nat → Int} {n : Nat} (h : ∀ k, k < n → f k = g k) : SF f n = SF g n := by
  induction n with
  | zero => rfl
  | succ n ih => simp only [SF]; rw [ih fun k hk => h k (by omega), h n (by omega)]
theorem SF_rev (f : Nat → Int) (n : Nat) : SF (fun k => f (n - 1 - k)) n = SF f n := by
  induction n with
  | zero => rfl
  | succ n ih =>
    rw [SF_shift]
    simp only [Nat.add_sub_cancel, Nat.sub_zero]
    rw [SF_congr (g := fun k => f (n - 1 - k)) fun k _ => by rw [show n - (k + 1) = n - 1 - k by omega], ih]
    simp only [SF]
    omega
theorem sumL_SF (l : List Int) (k : Nat) : sumL l k = SF (fun j => l.getD j 0) k := by
  induction k with
  | zero => rfl
  | succ k ih => simp only [sumL, SF]; rw [ih]
theorem getD_rev {α : Type} {l : List α} {d : α} {j : Nat} (h : j < l.length) : l.reverse.getD j d = l.getD (l.length - 1 - j) d := by
  rw [List.getD_eq_getElem?_getD, List.getD_eq_getElem?_getD, List.getElem?_reverse h]
theorem mixV_rev (l : List (List (List Int))) (c i : Nat) : mixV l.reverse c i = mixV l c i := by
  unfold mixV
  rw [sumL_SF, sumL_SF, List.length_reverse, ← SF_rev (fun j => (placeL l c i).getD j 0)]
  rw [SF_congr fun k hk => ?_]
  rw [placeL_at (by rw [List.length_reverse]; exact hk), getD_rev hk, placeL_at (by omega)]
theorem alike_rev {l : List (List (List Int))} (h : alike l = true) : alike l.reverse = true := by
  unfold alike
  refine all_yes_of' (d := []) fun j hj => ?_
  rw [List.length_reverse] at hj
  obtain ⟨a1, a2⟩ := alike_at h (k := l.length - 1 - j) (by omega)
  obtain ⟨b1, b2⟩ := alike_at h (k := l.length - 1 - 0) (by omega)
  unfold likeB
  rw [getD_rev hj, getD_rev (show 0 < l.length by omega), a1, a2, b1, b2]
  simp
theorem mixK_rev (l : List (List (List Int))) : mixK l.reverse = mixK l := by
  have h1 : allV l.reverse = allV l := by simp [allV]
  have h2 : alike l.reverse = alike l := by
    cases h : alike l with
    | true => exact alike_rev h
    | false =>
      cases h3 : alike l.reverse with
      | false => rfl
      | true =>
        have := alike_rev h3
        rw [List.reverse_reverse, h] at this
        cases this
  unfold mixK
  rw [h1, h2, List.length_reverse]
theorem mixK_zero {l : List (List (List Int))} (h : mixK l = 0) : alike l = true ∧ 0 < l.length := by
  unfold mixK at h
  split at h
  · omega
  · split at h
    · omega
    · split at h
      · omega
      · rename_i h1 _
        exact ⟨by simpa using h1, by omega⟩
theorem mixR_rev (l : List (List (List Int))) : mixR l.reverse = mixR l := by
  unfold mixR
  rw [mixK_rev]
  by_cases h : mixK l = 0
  · rw [if_pos h, if_pos h]
    obtain ⟨hA, h0⟩ := mixK_zero h
    unfold mixM
    rw [getD_rev h0]
    obtain ⟨b1, b2⟩ := alike_at hA (k := l.length - 1 - 0) (by omega)
    rw [b1, b2, show mixV l.reverse = mixV l from funext fun c => funext fun i => mixV_rev l c i]
  · rw [if_neg h, if_neg h]
theorem tab_whole {y : List (List Int)} (h : validB y = true) : tabM y.length (cols y) (cellM y) = y := by
  obtain ⟨_, _, _, hrow⟩ := validB_parts h
  apply mat_eq_of (by rw [tabM_len])
  intro j hj
  rw [tabM_len] at hj
  rw [tabM_row _ hj]
  apply List.ext_getElem?
  intro i
  have hl := hrow j hj
  by_cases hi : i < cols y
  · have h2 : i < (y.getD j []).length := by rw [hl]; exact hi
    simp only [List.getElem?_map, List.getElem?_range hi, Option.map_some, cellM]
    rw [show (y.getD j [])[i]? = some ((y.getD j []).getD i 0) by rw [List.getD_eq_getElem?_getD (l := y.getD j []), List.getElem?_eq_getElem h2]; rfl]
  · rw [List.getElem?_eq_none (by rw [List.length_map, List.length_range]; omega), List.getElem?_eq_none (by rw [hl]; omega)]
theorem mix_alone {y : List (List Int)} (h : validB y = true) : mixK [y] = 0 ∧ mixR [y] = y := by
  have hk : mixK [y] = 0 := by
    unfold mixK
    rw [if_neg (by simp [allV, h]), if_neg (by simp [alike, likeB]), if_neg (by simp), if_neg (by simp)]
  refine ⟨hk, ?_⟩
  unfold mixR
  rw [if_pos hk]
  unfold mixM
  simp only [List.getD_cons_zero]
  rw [show mixV [y] = cellM y from funext fun c => funext fun i => ?_]
  exact tab_whole h
  have := cell_abs h c i
  unfold mixV
  rw [show sumL (placeL [y] c i) [y].length = cellM y c i by simp [sumL, placeL]]
  unfold bnd cellM
  omega

set_option maxRecDepth 100000 in
theorem frames_any (m : List (List Int)) (v : Value) (w : World) (hM : MatIn w m v) : Calls Try.prog 38 #[v] w fun e w' => (∃ n : Nat, e = .returned (.int .i64 n)) ∧ w = w' := by
  by_cases h0 : m.length = 0
  · obtain ⟨a, ca, rfl, _, _, _⟩ := hM
    have z1 : ((m.length : Int) == 0) = true := by simp; exact List.eq_nil_of_length_eq_zero h0
    have z2 : (m.length : Int) = 0 := by omega
    clear h0
    go_enter Try.func38, Try.ntmps38
    go_wp2_with fail
    go_ret
    exact ⟨⟨0, rfl⟩, rfl⟩
  · obtain ⟨a, ca, rfl, hin, _, _⟩ := hM
    obtain ⟨bb, ob, u, rfl, hcu, hu⟩ := hin 0 (by omega)
    obtain ⟨au, cu, rfl, _, _, _⟩ := hu
    have i1 : (0 : Int) < (m.length : Int) := by omega
    have i2 : 0 < m.length := by omega
    have z2 : ¬ (m.length : Int) = 0 := by omega
    simp only [Nat.add_zero] at hcu
    generalize (m.getD 0 []).length = C at *
    clear hin h0
    go_enter Try.func38, Try.ntmps38
    go_wp2_with fail
    go_ret
    exact ⟨⟨C, rfl⟩, rfl⟩
theorem blks_owns {W : World} {B n : Nat} {v : Value} {vals : List Value} {L : List (List (List Int))} (h : W.ownsRow B 34 1 v n vals) (hL : L.length = n) (hv : vals.length = n) (hn : n ≤ 17592186044416) (hM : ∀ k, k < n → MatIn W (L.getD k []) (vals.getD k undef)) : BlksIn W L v := by
  have hol := h
  rcases hol.2 with ⟨rfl, h0⟩ | ⟨g, cap, cur, rfl, hb, hgg, hnc, hcm, _, _⟩
  · exact ⟨none, 0, by rw [hL, h0], (fun i hi => by omega), by omega, by omega⟩
  · refine ⟨some ⟨g, 0, none⟩, cap, by rw [hL], fun i hi => ⟨g, 0, vals.getD i undef, rfl, ?_, hM i (by omega)⟩, by omega, by omega⟩
    have h1 := hol.cells (g := g) rfl i (vals.getD i undef) (by simp [List.getD, show i < vals.length by omega])
    rw [add_at] at h1
    exact h1
end Go.Proofs.Ythfagnbecocgdaa
