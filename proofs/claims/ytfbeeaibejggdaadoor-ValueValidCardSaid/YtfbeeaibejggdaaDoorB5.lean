import Derived.Test.YtfbeeaibejggdaaDoorB4
import Derived.Test.YtfbeeaibejggdaaDoorShelf
namespace Go.Proofs.YtfbeeaibejggdaaDoor
open Go.RowKit Go.Sort

theorem below_ahead {B : Nat} {a w : World} (h : Below B a w) (n : Nat) : Below B a (Sort.ahead w n) := ⟨h.os, h.tape, h.output, h.size, h.block⟩
theorem below_grow {B : Nat} {a w : World} (h : Below B a w) (hB : B ≤ w.heap.size) (os : Array Obj) : Below B a (grow w os) :=
  ⟨h.os, h.tape, h.output, by rw [size_grow]; have := h.size; omega, fun k hk => (heap_grow_old w os (by omega)).trans (h.block k hk)⟩
theorem below_putRow {α : Type} [Inhabited α] {B : Nat} {a w : World} (h : Below B a w) (enc : α → Value) {blk : Nat} (hb : B ≤ blk) (off : Nat) (d : Array α) : Below B a (putRow enc w blk off d) :=
  ⟨h.os, h.tape, h.output, by rw [size_putRow]; exact h.size, fun k hk => by
    rw [← h.block k hk]
    show (w.heap.modify blk _)[k]? = _
    rw [Array.getElem?_modify, if_neg (by omega)]⟩

/-! ### Sorted numbers without neighbours alike are all different. -/
def sorted (zs : List Int) : List Int := zs.mergeSort fun x y => decide (x ≤ y)
theorem sorted_pw (zs : List Int) : (sorted zs).Pairwise (· ≤ ·) := by
  have := List.pairwise_mergeSort (le := fun x y : Int => decide (x ≤ y)) (by intro a b c; simp; omega) (by intro a b; simp; omega) zs
  simpa [sorted] using this
theorem sorted_perm (zs : List Int) : (sorted zs).Perm zs := List.mergeSort_perm _ _
theorem sorted_len (zs : List Int) : (sorted zs).length = zs.length := (sorted_perm zs).length_eq

theorem compact_len_iff (zs : List Int) : (Lib.compact zs).length = zs.length ↔ ∀ j, j < zs.length → Lib.keeps zs.toArray j = true := by
  constructor
  · intro h j hj
    unfold Lib.compact Lib.compactUpTo at h
    rw [List.length_map] at h
    have h2 : ((List.range zs.length).filter (Lib.keeps zs.toArray)).length = (List.range zs.length).length := by rw [h, List.length_range]
    exact (List.length_filter_eq_length_iff.1 h2) j (List.mem_range.2 hj)
  · intro h; rw [Lib.compact_all zs h]

theorem nodup_iff (zs : List Int) (hs : zs.Pairwise (· ≤ ·)) : (∀ j, j < zs.length → Lib.keeps zs.toArray j = true) ↔ zs.Nodup := by
  have hget : ∀ j, j < zs.length → zs.toArray[j]! = zs.getD j 0 := fun j hj => by
    rw [getElem!_pos _ j (by simpa using hj)]; simp [hj]
  constructor
  · intro h
    rw [List.nodup_iff_pairwise_ne, List.pairwise_iff_getElem]
    intro i j hi hj hij heq
    have hk := h (i + 1) (by omega)
    unfold Lib.keeps at hk
    rw [decide_eq_true_iff, hget _ (by omega), Nat.add_sub_cancel, hget i hi] at hk
    have h1 : zs[i] ≤ zs[i + 1] := List.pairwise_iff_getElem.1 hs i (i + 1) hi (by omega) (by omega)
    have h2 : zs[i + 1] ≤ zs[j] := by
      by_cases e : i + 1 = j
      · subst e; exact Int.le_refl _
      · exact List.pairwise_iff_getElem.1 hs (i + 1) j (by omega) hj (by omega)
    rcases hk with hk | hk
    · omega
    · simp [hi, show i + 1 < zs.length by omega] at hk; omega
  · intro h j hj
    unfold Lib.keeps
    rw [decide_eq_true_iff]
    by_cases e : j = 0
    · exact .inl e
    · right
      rw [hget j hj, hget (j - 1) (by omega)]
      rw [List.nodup_iff_pairwise_ne, List.pairwise_iff_getElem] at h
      have := h (j - 1) j (by omega) hj (by omega)
      simp [hj, show j - 1 < zs.length by omega]
      exact fun h => this h.symm

theorem compact_sorted (zs : List Int) : (((Lib.compact (sorted zs)).length : Int) == (zs.length : Int)) = decide zs.Nodup := by
  have h1 := compact_len_iff (sorted zs)
  rw [nodup_iff _ (sorted_pw zs), (sorted_perm zs).nodup_iff, sorted_len] at h1
  by_cases h : zs.Nodup
  · rw [h1.2 h]; simp [h]
  · have : (Lib.compact (sorted zs)).length ≠ zs.length := fun e => h (h1.1 e)
    simp only [h, decide_false]
    rw [beq_eq_false_iff_ne]; omega

set_option maxHeartbeats 1000000 in
theorem allDifferent_any (b off c : Nat) (zs : List Int) (w : World) (hz0 : 0 < zs.length) (hz1 : zs.length ≤ 1000000) (hc : ∀ j, j < zs.length → w.cell? ⟨b, off + j, none⟩ = some (.int .i64 (zs.getD j 0))) :
    Calls Tryd.prog 108 #[.slice (some ⟨b, off, none⟩) zs.length c] w fun e w' => e = .returned (.bool (decide zs.Nodup)) ∧ Below w.heap.size w w' := by
  have hz1' : (zs.length : Int) ≤ 1000000 := by omega
  have hcl := Tryd.slices_Clone_int b off zs.length c zs w (Nat.le_refl _) (by omega) hc
  have hcl2 : Calls Tryd.prog 86 #[.slice (some ⟨b, off, none⟩) zs.length c] w fun e w' => ∃ g cap, e = .returned (.slice (some ⟨g, 0, none⟩) zs.length cap) ∧ (w.heap.size ≤ g ∧ g < w'.heap.size ∧ zs.length ≤ cap ∧ Holds (Value.int .i64) w' g 0 zs.toArray) ∧ Below w.heap.size w w' := by
    refine hcl.mono fun e w' => ?_
    rintro ⟨v', rfl, hown, _, hb⟩
    obtain ⟨g, cap, rfl, h1, _⟩ := own_shape hown hz0
    refine ⟨g, cap, rfl, ⟨(hown.lt g rfl).1, (hown.lt g rfl).2, h1, ?_⟩, hb⟩
    intro j hj
    have hj' : j < zs.length := by simpa using hj
    rw [Nat.zero_add]
    refine ⟨?_, hown.frozenAt j⟩
    rw [hown.cellAt j (by omega)]
    rw [List.take_length]
    simp [hj', getElem!_pos]
  have key := compact_sorted zs
  have Hkey := Lib.hid key
  clear key hcl
  go_enter Tryd.func108, Tryd.ntmps108
  go_wp2_with (go_at_call 86; refine hcl2.mono ?_; rintro e w1 ⟨g, cap, rfl, hH, hb1⟩)
  obtain ⟨h1, h2, h3, h4⟩ := hH
  have hsort : Calls Tryd.prog 114 #[.slice (some ⟨g, 0, none⟩) zs.length cap] w1 fun e w' => e = .returned (.tuple #[]) ∧ (g < w'.heap.size ∧ Holds (Value.int .i64) w' g 0 (sorted zs).toArray) ∧ Below w.heap.size w w' := by
    refine (Tryd.slices_Sort_int g 0 cap zs w1 h4 h2 (by omega)).mono fun e w' => ?_
    rintro ⟨rfl, n, os, rfl⟩
    have hs : (sorted zs).toArray.size = zs.toArray.size := by simp [sorted_len]
    have hp : Holds (Value.int .i64) (putRow (Value.int .i64) (Sort.ahead w1 n) g 0 (sorted zs).toArray) g 0 (sorted zs).toArray := holds_putRow _ _ _ _ _ _ (holds_ahead _ _ n _ _ _ h4) hs
    refine ⟨rfl, ⟨by rw [size_grow, size_putRow]; show g < w1.heap.size + _; omega, holds_grow _ _ _ _ _ _ (by rw [size_putRow]; exact h2) hp⟩, ?_⟩
    exact below_grow (below_putRow (below_ahead hb1 n) _ h1 _ _) (by rw [size_putRow]; show _ ≤ w1.heap.size; exact hb1.size) _
  go_wp2_with (go_at_call 114; refine hsort.mono ?_; rintro e w2 ⟨rfl, hH2, hb2⟩)
  obtain ⟨h5, h6⟩ := hH2
  have hcomp : Calls Tryd.prog 115 #[.slice (some ⟨g, 0, none⟩) zs.length cap] w2 fun e w' => e = .returned (.slice (some ⟨g, 0, none⟩) (Lib.compact (sorted zs)).length cap) ∧ Below w.heap.size w w' := by
    have := Tryd.slices_Compact_int g 0 cap (sorted zs) w2 h6 (by rw [sorted_len]; omega) (by rw [sorted_len]; exact h3)
    rw [sorted_len] at this
    refine this.mono fun e w' => ?_
    rintro ⟨rfl, q, rfl⟩
    exact ⟨rfl, below_putRow (below_ahead hb2 q) _ h1 _ _⟩
  go_wp2_with (go_at_call 115; refine hcomp.mono ?_; rintro e w3 ⟨rfl, hb3⟩)
  go_ret
  exact ⟨ret_bool Hkey.out, hb3⟩
end Go.Proofs.YtfbeeaibejggdaaDoor
