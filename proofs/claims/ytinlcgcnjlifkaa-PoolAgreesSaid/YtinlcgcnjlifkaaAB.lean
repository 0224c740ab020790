/- Matrices and blocks compared. -/
import Derived.Test.YtinlcgcnjlifkaaAA
namespace Go.Proofs.Ytinlcgcnjlifkaa
open Go.RowKit

theorem not_t {b : Bool} (h : (!b) = true) : b = false := by cases b <;> simp_all
theorem not_f {b : Bool} (h : (!b) = false) : b = true := by cases b <;> simp_all

set_option maxHeartbeats 1000000 in
set_option maxRecDepth 100000 in
/-- Two lists of rows are compared. -/
theorem sameMatrix_any (xs ys : List (List Int)) (va vb : Value) (w : World) (ha : MatIn w xs va) (hb : MatIn w ys vb) :
    Calls Try.prog 12 #[va, vb] w fun e w' => e = .returned (.bool (decide (xs = ys))) ∧ Below w.heap.size w w' := by
  obtain ⟨a, ca, rfl, hin, hal, _⟩ := ha
  obtain ⟨b, cb, rfl, hinb, hbl, _⟩ := hb
  by_cases hl : xs.length = ys.length
  · have HL := Lib.hid hl
    rw [← hl]
    clear hl hbl
    go_enter Try.func12, Try.ntmps12
    go_wp2_with fail
    go_loopw [5] (fun i wr => ∃ k : Nat, i = .int .i64 k ∧ k ≤ xs.length ∧ (∀ j, j < k → xs.getD j [] = ys.getD j []) ∧ Below w.heap.size w wr) (fun i _ => xs.length - (intOf i).toNat)
    case atStart => exact ⟨0, rfl, Nat.zero_le _, fun _ h => absurd h (Nat.not_lt_zero _), Below.refl _ _⟩
    case round =>
      obtain ⟨k, rfl, hk, hok, hbl⟩ := hrel
      have Hok := Lib.hid hok
      clear hok
      by_cases hlt : k < xs.length
      · obtain ⟨ba, off, u, rfl, hc, hu⟩ := (hin.mono (Same.of_below hbl)) k hlt
        obtain ⟨bb, off', v, rfl, hc', hv⟩ := (hinb.mono (Same.of_below hbl)) k (by have := HL.out; omega)
        have hcall := sameRow_any _ _ _ _ _ (hu.mono (Same.of_below (Below.refl _ wr).drew)) (hv.mono (Same.of_below (Below.refl _ wr).drew))
        obtain ⟨p, hp⟩ : ∃ p, xs.getD k [] = p := ⟨_, rfl⟩
        obtain ⟨q, hq⟩ : ∃ q, ys.getD k [] = q := ⟨_, rfl⟩
        rw [hp, hq] at hcall
        have Hpq := Lib.hid (And.intro hp hq)
        clear hp hq hu hv
        obtain ⟨sb, hsb⟩ : ∃ sb, decide (p = q) = sb := ⟨_, rfl⟩
        rw [hsb] at hcall
        have Hsb := Lib.hid hsb
        clear hsb
        have w4 : (k : Int) < (xs.length : Int) := by omega
        have hw2 := hbl.drew
        go_upto_region 10 with fail
        go_still_tail 8, (by kernel_rfl)
        change wpList _ _ _ _ _ wr.drew
        generalize wr.drew = w2 at *
        clear hbl hc hc'
        go_wp2_with (go_at_call 36; refine hcall.mono ?_; rintro e w1 ⟨rfl, hb1⟩)
        · rename ((!sb) = true) => e1
          go_ret
          refine ⟨ret_bool ?_, hw2.trans (hb1.mono hw2.size)⟩
          have hsf := not_t e1
          have h3 : ¬ p = q := by have := Hsb.out; rw [hsf] at this; simpa using this
          have : ¬ xs = ys := fun h => h3 (by rw [← Hpq.out.1, ← Hpq.out.2, h])
          simp [this]
        · rename ((!sb) = false) => e1
          go_roundw
          case rel =>
            refine ⟨k + 1, by go_num, by omega, fun j hj => ?_, hw2.trans (hb1.mono hw2.size)⟩
            by_cases ej : j = k
            · subst ej
              have h3 := Hsb.out
              rw [not_f e1] at h3
              rw [Hpq.out.1, Hpq.out.2]; simpa using h3
            · exact Hok.out j (by omega)
          case measure => simp [intOf]; omega
      · have w4 : ¬ (k : Int) < (xs.length : Int) := by omega
        go_wp2_with fail
        go_ret
        refine ⟨ret_bool ?_, hbl⟩
        simp [mat_eq_of HL.out fun j hj => Hok.out j (by omega)]
  · have hne : ((xs.length : Int) != (ys.length : Int)) = true := by simp; omega
    have HL := Lib.hid hl
    clear hl
    go_enter Try.func12, Try.ntmps12
    go_wp2_with fail
    go_ret
    refine ⟨ret_bool ?_, Below.refl _ _⟩
    have : ¬ xs = ys := fun h => HL.out (by rw [h])
    simp [this]

end Go.Proofs.Ytinlcgcnjlifkaa
