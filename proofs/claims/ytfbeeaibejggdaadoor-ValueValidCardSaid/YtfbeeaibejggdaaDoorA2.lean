import Derived.Test.YtfbeeaibejggdaaDoorA1
import Derived.Deep.QuietTactic
import Derived.BigQuiet
import Derived.IntWalk
namespace Go.Proofs.YtfbeeaibejggdaaDoor
open Go.RowKit

theorem ret_bool {a b : Bool} (h : a = b) : Ending.returned (.bool a) = .returned (.bool b) := by rw [h]

def okKey (l : List Int) (high : Int) (strict : Bool) (j : Nat) : Bool :=
  decide (0 ≤ l.getD j 0) && decide (l.getD j 0 ≤ high) && (j == 0 || (decide (l.getD (j - 1) 0 ≤ l.getD j 0) && !(strict && decide (l.getD (j - 1) 0 = l.getD j 0))))
def keysB (l : List Int) (high : Int) (strict : Bool) : Bool := (List.range l.length).all (okKey l high strict)

theorem all_yes {n : Nat} {f : Nat → Bool} (h : ∀ j, j < n → f j = true) : (List.range n).all f = true := by
  simp only [List.all_eq_true, List.mem_range]; exact h
theorem all_no {n j : Nat} {f : Nat → Bool} (hj : j < n) (h : f j = false) : (List.range n).all f = false := by
  simp only [List.all_eq_false, List.mem_range]; exact ⟨j, hj, by simp [h]⟩
theorem okKey_lt {l : List Int} {high x : Int} {strict : Bool} {j : Nat} (hx : Hid (l.getD j 0 = x)) (h : x < 0) : okKey l high strict j = false := by unfold okKey; rw [hx.out]; simp; omega
theorem okKey_gt {l : List Int} {high x : Int} {strict : Bool} {j : Nat} (hx : Hid (l.getD j 0 = x)) (h : high < x) : okKey l high strict j = false := by unfold okKey; rw [hx.out]; simp; omega
theorem okKey_zero {l : List Int} {high x : Int} {strict : Bool} (hx : Hid (l.getD 0 0 = x)) (h1 : 0 ≤ x) (h2 : x ≤ high) : okKey l high strict 0 = true := by unfold okKey; rw [hx.out]; simp; omega
theorem okKey_next {l : List Int} {high x y : Int} {strict : Bool} {j : Nat} (hx : Hid (l.getD j 0 = x)) (hy : Hid (l.getD (j - 1) 0 = y)) (h1 : 0 ≤ x) (h2 : x ≤ high) (h3 : y ≤ x) (h4 : ¬ (strict = true ∧ y = x)) : okKey l high strict j = true := by
  unfold okKey; rw [hx.out, hy.out]; simp; cases strict <;> simp_all <;> omega
theorem okKey_falls {l : List Int} {high x y : Int} {strict : Bool} {j : Nat} (hx : Hid (l.getD j 0 = x)) (hy : Hid (l.getD (j - 1) 0 = y)) (h : j ≠ 0) (h3 : x < y) : okKey l high strict j = false := by
  unfold okKey; rw [hx.out, hy.out]; simp; omega
theorem okKey_same {l : List Int} {high x y : Int} {strict : Bool} {j : Nat} (hx : Hid (l.getD j 0 = x)) (hy : Hid (l.getD (j - 1) 0 = y)) (h : j ≠ 0) (hs : strict = true) (h3 : y = x) : okKey l high strict j = false := by
  unfold okKey; rw [hx.out, hy.out]; simp [hs, h3]; omega
theorem ok_snoc {f : Nat → Bool} {k : Nat} (h : Hid (∀ j, j < k → f j = true)) (hk : f k = true) : ∀ j, j < k + 1 → f j = true := fun j hj => by
  by_cases e : j = k
  · rw [e]; exact hk
  · exact h.out j (by omega)

set_option maxHeartbeats 1000000 in
theorem keys_any (l : List Int) (a : Option Addr) (c : Nat) (high : Int) (strict : Bool) (w : World) (hl : l.length ≤ 17592186044416) (hk : KeysIn w a l) :
    Calls Tryd.prog 96 #[.slice a l.length c, .int .i64 high, .bool strict] w fun e w' => e = .returned (.bool (keysB l high strict)) ∧ Below w.heap.size w w' := by
  go_enter Tryd.func96, Tryd.ntmps96
  go_wp2_with fail
  go_loopw [7] (fun i wr => ∃ (k : Nat), i = .int .i64 k ∧ k ≤ l.length ∧ (∀ j, j < k → okKey l high strict j = true) ∧ Below w.heap.size w wr) (fun i _ => l.length - (intOf i).toNat)
  case atStart => exact ⟨0, rfl, Nat.zero_le _, fun _ h => absurd h (Nat.not_lt_zero _), Below.refl _ _⟩
  case round =>
    obtain ⟨k, rfl, hkl, hok, hb⟩ := hrel
    have Hok := Lib.hid hok
    clear hok
    by_cases hlt : k < l.length
    · obtain ⟨b, off, rfl, hc, _⟩ := (hk.mono (Same.of_below hb)) k hlt
      obtain ⟨x, hx⟩ : ∃ x, l.getD k 0 = x := ⟨_, rfl⟩
      rw [hx] at hc
      have Hx := Lib.hid hx
      clear hx
      by_cases h1 : x < 0
      · go_wp2_with fail
        go_ret
        exact ⟨ret_bool (all_no hlt (okKey_lt Hx h1)).symm, hb⟩
      by_cases h2 : high < x
      · go_wp2_with fail
        go_ret
        exact ⟨ret_bool (all_no hlt (okKey_gt Hx h2)).symm, hb⟩
      by_cases h3 : k = 0
      · subst h3
        simp only [Nat.add_zero] at hc
        go_wp2_with fail
        go_quiet (fail)
        go_wp2_with fail
        go_roundw
        case rel => exact ⟨0 + 1, rfl, by omega, ok_snoc Hok (okKey_zero Hx h1 h2), below_drewN hb _⟩
        case measure => simp [intOf]; omega
      · obtain ⟨b', off', hbo, hc', _⟩ := (hk.mono (Same.of_below hb)) (k - 1) (by omega)
        cases hbo
        obtain ⟨y, hy⟩ : ∃ y, l.getD (k - 1) 0 = y := ⟨_, rfl⟩
        rw [hy] at hc'
        have Hy := Lib.hid hy
        clear hy
        have w1 : IntKind.i64.wrap ((k : Int) - 1) = (k : Int) - 1 := IntWalk.i64_in _ (by omega)
        have w2 : 0 ≤ (k : Int) - 1 := by omega
        have w3 : ((k : Int) - 1).toNat = k - 1 := by omega
        have w4 : (k : Int) - 1 < (l.length : Int) := by omega
        have w5 : decide (0 < k) = true := by simp; omega
        by_cases h4 : x < y
        · go_wp2_with fail
          go_quiet (fail)
          go_wp2_with fail
          go_ret
          exact ⟨ret_bool (all_no hlt (okKey_falls Hx Hy h3 h4)).symm, below_drewN hb _⟩
        have h4' : decide (x < y) = false := by simp; omega
        have h4n : y ≤ x := by omega
        clear h4
        cases strict with
        | false =>
          go_wp2_with fail
          go_quiet (fail)
          go_wp2_with fail
          go_roundw
          case rel => exact ⟨k + 1, by go_num, by omega, ok_snoc Hok (okKey_next Hx Hy h1 h2 h4n (by simp)), below_drewN hb _⟩
          case measure => simp [intOf]; omega
        | true =>
          by_cases h5 : y = x
          · have h5' : (y == x) = true := by simp [h5]
            have H5 := Lib.hid h5
            clear h5
            go_wp2_with fail
            go_quiet (fail)
            go_wp2_with fail
            go_ret
            exact ⟨ret_bool (all_no hlt (okKey_same Hx Hy h3 rfl H5.out)).symm, below_drewN hb _⟩
          · have h5' : (y == x) = false := by simp [h5]
            have H5 := Lib.hid h5
            clear h5
            go_wp2_with fail
            go_quiet (fail)
            go_wp2_with fail
            go_roundw
            case rel => exact ⟨k + 1, by go_num, by omega, ok_snoc Hok (okKey_next Hx Hy h1 h2 h4n (fun h => H5.out h.2)), below_drewN hb _⟩
            case measure => simp [intOf]; omega
    · go_wp2_with fail
      go_ret
      exact ⟨ret_bool (all_yes fun j hj => Hok.out j (by omega)).symm, hb⟩
end Go.Proofs.YtfbeeaibejggdaaDoor
