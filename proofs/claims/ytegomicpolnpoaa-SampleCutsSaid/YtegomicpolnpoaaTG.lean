/- Same: blocks compared, whatever they are. -/
import Derived.Test.YtegomicpolnpoaaTA
namespace Go.Proofs.Ytegomicpolnpoaa
open Go.RowKit Go.Shelf Go.Deep

set_option maxHeartbeats 1000000 in
set_option maxRecDepth 100000 in
theorem equal_any (xs ys : List Int) (va vb : Value) (w : World) (ha : RowIn w xs va) (hb : RowIn w ys vb) :
    Calls Try.prog 101 #[va, vb] w fun e w' => e = .returned (.bool (decide (xs = ys))) ∧ Below w.heap.size w w' := by
  obtain ⟨a, ca, rfl, hin, hal, _⟩ := ha
  obtain ⟨b, cb, rfl, hinb, hbl, _⟩ := hb
  by_cases hl : xs.length = ys.length
  · have HL := Lib.hid hl
    rw [← hl]
    clear hl hbl
    go_enter Try.func101, Try.ntmps101
    go_wp2_with fail
    go_loopw [13] (fun i wr => ∃ k : Nat, i = .int .i64 k ∧ k ≤ xs.length ∧ (∀ j, j < k → xs.getD j 0 = ys.getD j 0) ∧ Below w.heap.size w wr) (fun i _ => xs.length - (intOf i).toNat)
    case atStart => exact ⟨0, rfl, Nat.zero_le _, fun _ h => absurd h (Nat.not_lt_zero _), Below.refl _ _⟩
    case round =>
      obtain ⟨k, rfl, hk, hok, hbl⟩ := hrel
      have Hok := Lib.hid hok
      clear hok
      by_cases hlt : k < xs.length
      · obtain ⟨ba, off, rfl, hc, _⟩ := (hin.mono (Same.of_below hbl)) k hlt
        obtain ⟨bb, off', rfl, hc', _⟩ := (hinb.mono (Same.of_below hbl)) k (by have := HL.out; omega)
        obtain ⟨p, hp⟩ : ∃ p, xs.getD k 0 = p := ⟨_, rfl⟩
        obtain ⟨q, hq⟩ : ∃ q, ys.getD k 0 = q := ⟨_, rfl⟩
        rw [hp] at hc
        rw [hq] at hc'
        have Hpq := Lib.hid (And.intro hp hq)
        clear hp hq
        have w4 : (k : Int) < (xs.length : Int) := by omega
        by_cases e : p = q
        · have e' : (p != q) = false := by simp [e]
          have E := Lib.hid e
          clear e
          go_wp2_with fail
          go_quiet (fail)
          go_wp2_with fail
          go_roundw
          case rel =>
            refine ⟨k + 1, by go_num, by omega, fun j hj => ?_, below_drewN hbl _⟩
            by_cases ej : j = k
            · subst ej; rw [Hpq.out.1, Hpq.out.2]; exact E.out
            · exact Hok.out j (by omega)
          case measure => simp [intOf]; omega
        · have e' : (p != q) = true := by simp [e]
          have E := Lib.hid e
          clear e
          go_wp2_with fail
          go_quiet (fail)
          go_wp2_with fail
          go_ret
          refine ⟨ret_bool ?_, below_drewN hbl _⟩
          have : ¬ xs = ys := fun h => E.out (by rw [← Hpq.out.1, ← Hpq.out.2, h])
          simp [this]
      · have w4 : ¬ (k : Int) < (xs.length : Int) := by omega
        go_wp2_with fail
        go_ret
        refine ⟨ret_bool ?_, hbl⟩
        simp [list_eq_of HL.out fun j hj => Hok.out j (by omega)]
  · have hne : ((xs.length : Int) != (ys.length : Int)) = true := by simp; omega
    have HL := Lib.hid hl
    clear hl
    go_enter Try.func101, Try.ntmps101
    go_wp2_with fail
    go_ret
    refine ⟨ret_bool ?_, Below.refl _ _⟩
    have : ¬ xs = ys := fun h => HL.out (by rw [h])
    simp [this]

set_option maxHeartbeats 1000000 in
set_option maxRecDepth 100000 in
theorem equalFunc_any (xs ys : List (List Int)) (va vb : Value) (w : World) (ha : MatIn w xs va) (hb : MatIn w ys vb) :
    Calls Try.prog 100 #[va, vb, .func (.func 101) #[] #[]] w fun e w' => e = .returned (.bool (decide (xs = ys))) ∧ Below w.heap.size w w' := by
  obtain ⟨a, ca, rfl, hin, hal, _⟩ := ha
  obtain ⟨b, cb, rfl, hinb, hbl, _⟩ := hb
  have hcf := fun (w : World) => enters_of Try.func101 (by kernel_rfl) rfl #[] w
  by_cases hl : xs.length = ys.length
  · have HL := Lib.hid hl
    rw [← hl]
    clear hl hbl
    go_enter Try.func100, Try.ntmps100
    go_wp2_with fail
    go_loopw [17] (fun i wr => ∃ k : Nat, i = .int .i64 k ∧ k ≤ xs.length ∧ (∀ j, j < k → xs.getD j [] = ys.getD j []) ∧ Below w.heap.size w wr) (fun i _ => xs.length - (intOf i).toNat)
    case atStart => exact ⟨0, rfl, Nat.zero_le _, fun _ h => absurd h (Nat.not_lt_zero _), Below.refl _ _⟩
    case round =>
      obtain ⟨k, rfl, hk, hok, hbl⟩ := hrel
      have Hok := Lib.hid hok
      clear hok
      by_cases hlt : k < xs.length
      · obtain ⟨ba, off, u, rfl, hc, hu⟩ := (hin.mono (Same.of_below hbl)) k hlt
        obtain ⟨bb, off', v, rfl, hc', hv⟩ := (hinb.mono (Same.of_below hbl)) k (by have := HL.out; omega)
        have hcall := equal_any _ _ _ _ _ hu hv
        obtain ⟨p, hp⟩ : ∃ p, xs.getD k [] = p := ⟨_, rfl⟩
        obtain ⟨q, hq⟩ : ∃ q, ys.getD k [] = q := ⟨_, rfl⟩
        rw [hp, hq] at hcall
        have Hpq := Lib.hid (And.intro hp hq)
        clear hp hq hu hv
        have HBL := Lib.hid hbl
        have w4 : (k : Int) < (xs.length : Int) := by omega
        by_cases e : p = q
        · rw [show decide (p = q) = true by simp [e]] at hcall
          have E := Lib.hid e
          clear e hbl
          go_wp2_with (go_at_call 101; (with_reducible refine hcall.mono ?_); rintro e w1 ⟨rfl, hb1⟩; have HB1 := Lib.hid hb1; clear hb1)
          go_roundw
          case rel =>
            refine ⟨k + 1, by go_num, by omega, fun j hj => ?_, Below.then HBL.out (Nat.le_refl _) HB1.out⟩
            by_cases ej : j = k
            · subst ej; rw [Hpq.out.1, Hpq.out.2]; exact E.out
            · exact Hok.out j (by omega)
          case measure => simp [intOf]; omega
        · rw [show decide (p = q) = false by simp [e]] at hcall
          have E := Lib.hid e
          clear e hbl
          go_wp2_with (go_at_call 101; (with_reducible refine hcall.mono ?_); rintro e w1 ⟨rfl, hb1⟩; have HB1 := Lib.hid hb1; clear hb1)
          go_ret
          refine ⟨ret_bool ?_, Below.then HBL.out (Nat.le_refl _) HB1.out⟩
          have : ¬ xs = ys := fun h => E.out (by rw [← Hpq.out.1, ← Hpq.out.2, h])
          simp [this]
      · have w4 : ¬ (k : Int) < (xs.length : Int) := by omega
        go_wp2_with fail
        go_ret
        refine ⟨ret_bool ?_, hbl⟩
        simp [mat_eq_of HL.out fun j hj => Hok.out j (by omega)]
  · have hne : ((xs.length : Int) != (ys.length : Int)) = true := by simp; omega
    have HL := Lib.hid hl
    clear hl
    go_enter Try.func100, Try.ntmps100
    go_wp2_with fail
    go_ret
    refine ⟨ret_bool ?_, Below.refl _ _⟩
    have : ¬ xs = ys := fun h => HL.out (by rw [h])
    simp [this]
theorem same_any (xs ys : List (List Int)) (va vb : Value) (w : World) (ha : MatIn w xs va) (hb : MatIn w ys vb) :
    Calls Try.prog 47 #[va, vb] w fun e w' => e = .returned (.bool (decide (xs = ys))) ∧ Below w.heap.size w w' := by
  have hcall := equalFunc_any xs ys va vb w ha hb
  generalize decide (xs = ys) = sb at *
  clear ha hb
  go_enter Try.func47, Try.ntmps47
  go_wp2_with (go_at_call 100; (with_reducible refine hcall.mono ?_); rintro e w1 ⟨rfl, hb1⟩)
  go_ret
  exact ⟨rfl, hb1⟩
end Go.Proofs.Ytegomicpolnpoaa
