/- What a deal is, by the document's own way: kinds, counts, limits. -/
import Derived.Test.YtinlcgcnjlifkaaSS
namespace Go.Proofs.Ytinlcgcnjlifkaa
open Go.RowKit Go.Shelf Go.Deep

/-- The least number from s on, n of them looked at, that is both's bit; -1 if none is. -/
def kdF (a b : Int) : Nat → Nat → Int
  | _, 0 => -1
  | s, n + 1 => if bitB a s && bitB b s then (s : Int) else kdF a b (s + 1) n
theorem kdF_bd (a b : Int) : ∀ (n s : Nat), kdF a b s n = -1 ∨ ((s : Int) ≤ kdF a b s n ∧ kdF a b s n < s + n)
  | 0, s => .inl rfl
  | n + 1, s => by
    unfold kdF
    split
    · right; omega
    · rcases kdF_bd a b n (s + 1) with h | h
      · left; exact h
      · right; omega
theorem kdF_find (a b : Int) : ∀ (n s : Nat), s + n ≤ 8 → (List.map (fun k : Nat => (k : Int)) (List.filter (bitB a) (List.range' s n))).find? (fun x => decide (0 ≤ x) && (kindsTo b 8).contains x) = if kdF a b s n < 0 then none else some (kdF a b s n)
  | 0, s, _ => rfl
  | n + 1, s, h => by
    have ih := kdF_find a b n (s + 1) (by omega)
    have hb := kinds_has b s (by omega)
    rw [List.range'_succ]
    unfold kdF
    cases h1 : bitB a s with
    | true =>
      rw [List.filter_cons_of_pos h1, List.map_cons, List.find?_cons, hb]
      cases h2 : bitB b s with
      | true => simp
      | false => simp only [Bool.and_false, Bool.false_eq_true, if_false]; exact ih
    | false =>
      rw [List.filter_cons_of_neg (by simp [h1])]
      simp only [Bool.false_and, Bool.false_eq_true, if_false]
      exact ih
theorem kindT_eq (a b : Wish) : kindT a b = if kdF a.kinds b.kinds 0 8 < 0 then none else some (kdF a.kinds b.kinds 0 8) := by
  have := kdF_find a.kinds b.kinds 8 0 (by decide)
  rw [← List.range_eq_range'] at this
  exact this
theorem cntTo_get (a : Int) {m q : Nat} (h : q < m) : (cntTo a m).getD q 0 = a + (q : Int) := by simp [cntTo, List.getD, h]
theorem cntTo_has (a : Int) (m : Nat) (x : Int) : (cntTo a m).contains x = decide (a ≤ x ∧ x < a + m) := by
  rw [Bool.eq_iff_iff, List.contains_iff_mem, decide_eq_true_eq]
  constructor
  · exact cntTo_mem
  · intro h
    exact List.mem_map.2 ⟨(x - a).toNat, List.mem_range.2 (by omega), by omega⟩
theorem cntB_eq {a b : Wish} (p : Int) (ha : a.ok = true) (hb : b.ok = true) : cntB a b p = if max (max a.least b.least) p ≤ min a.most b.most then some (max (max a.least b.least) p) else none := by
  have ga := (Wish.ok_t ha).1
  have gb := (Wish.ok_t hb).1
  unfold cntB lcT
  split
  · rename_i h
    refine find_take _ (max (max a.least b.least) p - a.least).toNat _ (fun q hq => ?_) (by rw [cntTo_len]; omega) ?_ ?_
    · rw [cntTo_get _ (by omega), cntTo_has]
      simp only [Bool.and_eq_false_iff, decide_eq_false_iff_not]
      omega
    · rw [cntTo_get _ (by omega)]; omega
    · rw [cntTo_has]
      simp only [Bool.and_eq_true, decide_eq_true_eq]
      omega
  · rename_i h
    refine find_none _ (fun q hq => ?_)
    rw [cntTo_len] at hq
    rw [cntTo_get _ hq, cntTo_has]
    simp only [Bool.and_eq_false_iff, decide_eq_false_iff_not]
    omega
theorem cntV_eq {a b : Wish} (p : Int) (ha : a.ok = true) (hb : b.ok = true) (h : max a.least b.least ≤ min a.most b.most) : cntV a b p = min (min a.most b.most) (max (max a.least b.least) p) := by
  unfold cntV
  rw [cntB_eq p ha hb]
  split
  · rename_i y hy
    split at hy
    · cases hy; omega
    · cases hy
  · rename_i hy
    split at hy
    · cases hy
    · omega
theorem cntOk_eq {a b : Wish} (p : Int) (ha : a.ok = true) (hb : b.ok = true) : cntOk a b p = decide (max a.least b.least ≤ min a.most b.most) := by
  unfold cntOk
  rw [cntB_eq p ha hb]
  split
  · rename_i y hy
    split at hy
    · symm; rw [decide_eq_true_eq]; omega
    · cases hy
  · rfl
abbrev Dl.okB (x : Dl) : Bool := dealB x.c x.b x.z x.s x.a x.k
theorem deal_ok {a b : Wish} {p : Int} (ha : a.ok = true) (hb : b.ok = true) (h2 : okJ a b p 2 = true) (h3 : okJ a b p 3 = true) : (dlJ a b p 6).okB = (okJ a b p 4 && okJ a b p 5) := by
  have ga := Wish.ok_t ha
  have gb := Wish.ok_t hb
  have gc := cntV_bd ha hb h3
  have gu := up_bd (n := max a.size b.size) (k := a.stride) (by omega) (by omega)
  have gk : 0 ≤ (kindT a b).getD 0 ∧ (kindT a b).getD 0 ≤ 7 := by
    rw [kindT_eq]
    have := kdF_bd a.kinds b.kinds 8 0
    split
    · simp
    · simp only [Option.getD_some]; omega
  have hm : twoB (max a.align b.align) = true := by
    have t1 := ga.2.2.2.2.2.2.1
    have t2 := gb.2.2.2.2.2.2.1
    rcases Int.le_total a.align b.align with h | h
    · rw [Int.max_eq_right h]; exact t2
    · rw [Int.max_eq_left h]; exact t1
  show dealB (cntV a b p) a.blocks (up (max a.size b.size) a.stride) a.stride (max a.align b.align) ((kindT a b).getD 0) = _
  have e1 : inB (cntV a b p) 1 64 = true := by simp only [inB, Bool.and_eq_true, decide_eq_true_eq]; omega
  have e2 : inB a.blocks 1 8 = true := by simp only [inB, Bool.and_eq_true, decide_eq_true_eq]; omega
  have e3 : inB a.stride 1 256 = true := by simp only [inB, Bool.and_eq_true, decide_eq_true_eq]; omega
  have e4 : inB (max a.align b.align) 1 256 = true := by simp only [inB, Bool.and_eq_true, decide_eq_true_eq]; omega
  have e5 : inB ((kindT a b).getD 0) 0 7 = true := by simp only [inB, Bool.and_eq_true, decide_eq_true_eq]; omega
  have e6 : inB (up (max a.size b.size) a.stride) 1 65536 = decide (up (max a.size b.size) a.stride ≤ 65536) := by
    unfold inB
    rw [show decide (1 ≤ up (max a.size b.size) a.stride) = true by rw [decide_eq_true_eq]; omega, Bool.true_and]
  have e7 : up (max a.size b.size) a.stride % a.stride = 0 := Int.emod_eq_zero_of_dvd gu.2.2
  unfold dealB shapeB
  rw [e1, e2, e3, e4, e5, e6, hm, e7]
  simp only [Bool.true_and, Bool.and_true, decide_true]
  rfl
end Go.Proofs.Ytinlcgcnjlifkaa
