/- Valid matrices and blocks: the program's. -/
import Derived.Test.YtegomicpolnpoaaCA
namespace Go.Proofs.Ytegomicpolnpoaa
open Go.RowKit

def inB (k n : Int) : Bool := decide (-k ≤ n) && decide (n ≤ k)
def within (k : Int) (l : List Int) : Bool := l.all (inB k)
def cols (m : List (List Int)) : Nat := (m.getD 0 []).length
def rowOk (k : Int) (c : Nat) (l : List Int) : Bool := decide (l.length = c) && within k l
def validM (m : List (List Int)) : Bool := chB m.length && chB (cols m) && m.all (rowOk 655360 (cols m))
def validB (b : List (List Int)) : Bool := chB b.length && frB (cols b) && b.all (rowOk 8388607 (cols b))

theorem all_no_at {α : Type} {f : α → Bool} {l : List α} {d : α} {k : Nat} (hk : k < l.length) (h : f (l.getD k d) = false) : l.all f = false := by
  rw [List.all_eq_false]
  refine ⟨l[k], List.getElem_mem hk, ?_⟩
  have : l.getD k d = l[k] := by simp [List.getD, hk]
  rw [this] at h; simp [h]
theorem all_yes_of {α : Type} {f : α → Bool} {l : List α} {d : α} (h : ∀ j, j < l.length → f (l.getD j d) = true) : l.all f = true := by
  rw [List.all_eq_true]
  intro x hx
  obtain ⟨i, hi, rfl⟩ := List.getElem_of_mem hx
  have := h i hi
  simpa [List.getD, hi] using this
theorem all_at {α : Type} {f : α → Bool} {l : List α} {d : α} (h : l.all f = true) {k : Nat} (hk : k < l.length) : f (l.getD k d) = true := by
  rw [List.all_eq_true] at h
  have := h _ (List.getElem_mem hk)
  simpa [List.getD, hk] using this

set_option maxHeartbeats 1000000 in
theorem allWithin_any (l : List Int) (v : Value) (k : Int) (w : World) (hv : RowIn w l v) (h0 : 0 ≤ k) (h1 : k ≤ 8388607) :
    Calls Try.prog 108 #[v, .int .i64 k] w fun e w' => e = .returned (.bool (within k l)) ∧ w = w' := by
  obtain ⟨a, ca, rfl, hin, hal, _⟩ := hv
  go_enter Try.func108, Try.ntmps108
  go_wp2_with fail
  go_loop [9] (fun i => ∃ j : Nat, i = .int .i64 j ∧ j ≤ l.length ∧ (∀ q, q < j → inB k (l.getD q 0) = true)) (fun i => l.length - (intOf i).toNat)
  case atStart => exact ⟨0, rfl, Nat.zero_le _, fun _ h => absurd h (Nat.not_lt_zero _)⟩
  case round =>
    obtain ⟨j, rfl, hj, hok⟩ := hrel
    have Hok := Lib.hid hok
    clear hok
    by_cases hlt : j < l.length
    · obtain ⟨ba, off, rfl, hc, _⟩ := hin j hlt
      obtain ⟨p, hp⟩ : ∃ p, l.getD j 0 = p := ⟨_, rfl⟩
      rw [hp] at hc
      have Hp := Lib.hid hp
      clear hp
      have w4 : (j : Int) < (l.length : Int) := by omega
      by_cases g1 : p < -k
      · go_wp2_with fail
        go_ret
        refine ⟨ret_bool ?_, rfl⟩
        exact (all_no_at (d := 0) hlt (by rw [Hp.out]; simp [inB]; omega)).symm
      · by_cases g2 : k < p
        · go_wp2_with fail
          go_ret
          refine ⟨ret_bool ?_, rfl⟩
          exact (all_no_at (d := 0) hlt (by rw [Hp.out]; simp [inB]; omega)).symm
        · go_wp2_with fail
          go_round
          case rel =>
            refine ⟨j + 1, by go_num, by omega, fun q hq => ?_⟩
            by_cases ej : q = j
            · subst ej; rw [Hp.out]; simp [inB]; omega
            · exact Hok.out q (by omega)
          case measure => simp [intOf]; omega
    · have w4 : ¬ (j : Int) < (l.length : Int) := by omega
      go_wp2_with fail
      go_ret
      refine ⟨ret_bool ?_, rfl⟩
      exact (all_yes_of (d := 0) fun q hq => Hok.out q (by omega)).symm
end Go.Proofs.Ytegomicpolnpoaa
