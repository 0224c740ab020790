/- The program's matrix of zeros. -/
import Derived.Test.YtegomicpolnpoaaAA
import Derived.Deep.OwnRows
import Derived.Deep.LoopGhost
namespace Go.Proofs.Ytegomicpolnpoaa
open Go.RowKit Go.Deep

theorem Try.info3 : (Try.prog.info? 3).map (fun i => (i.zero, i.size, i.bytes)) = some (some (.int .i64 0), 1, 8) := by kernel_rfl
theorem Try.info34 : (Try.prog.info? 34).map (fun i => (i.zero, i.size, i.bytes)) = some (some (.slice none 0 0), 1, 24) := by kernel_rfl

/-- The outer row's content, when k of the inner rows are made. -/
def topZ (N c k : Nat) : Nat → Value := fun j => if j < k then .slice (some ⟨N + 1 + j, 0, none⟩) c c else .slice none 0 0

/-- What holds at the loop's head, k rows made. -/
structure Zr (w wr : World) (r c k : Nat) : Prop where
  below : Below w.heap.size w wr
  size : wr.heap.size = w.heap.size + 1 + k
  top : wr.rowIs w.heap.size 34 r (topZ w.heap.size c k)
  done : ∀ j, j < k → wr.rowIs (w.heap.size + 1 + j) 3 c (fun _ => .int .i64 0)

theorem Zr.start (w : World) (r c : Nat) : Zr w (w.alloc (.cells (madeCells #[.slice none 0 0] r) 34)) r c 0 :=
  ⟨(Below.refl _ _).alloc (Nat.le_refl _) _, by simp, (World.rowIs_made w _ r 34).congr (fun j _ => by simp [topZ]), fun j hj => absurd hj (Nat.not_lt_zero _)⟩

theorem Zr.step {w wr : World} {r c k : Nat} (h : Zr w wr r c k) :
    Zr w ((wr.alloc (.cells (madeCells #[.int .i64 0] c) 3)).setCell ⟨w.heap.size, k, none⟩ (.slice (some ⟨wr.heap.size, 0, none⟩) c c)) r c (k + 1) := by
  have hnew := World.rowIs_made wr (.int .i64 0) c 3
  rw [h.size] at hnew ⊢
  refine ⟨(h.below.alloc (by rw [h.size]; omega) _).setCell (Nat.le_refl _) _, by simp [h.size]; omega, ((h.top.alloc _).set k _).congr (fun j _ => ?_), fun j hj => ?_⟩
  · simp only [topZ]
    by_cases e : j = k
    · subst e; simp
    · rw [if_neg e]
      by_cases hlt : j < k
      · rw [if_pos hlt, if_pos (by omega)]
      · rw [if_neg hlt, if_neg (by omega)]
  · by_cases e : j = k
    · subst e
      exact hnew.setOther (by show w.heap.size + 1 + j ≠ w.heap.size; omega) _
    · exact ((h.done j (by omega)).alloc _).setOther (by show w.heap.size + 1 + j ≠ w.heap.size; omega) _

/-- A matrix of zeros. -/
def zeroM (r c : Nat) : List (List Int) := List.replicate r (List.replicate c 0)

theorem rowIn_zero {w : World} {b c cap : Nat} (h : w.rowIs b 3 c (fun _ => .int .i64 0)) (hc : c ≤ 4096) (hcap : c ≤ cap) : RowIn w (List.replicate c 0) (.slice (some ⟨b, 0, none⟩) c cap) := by
  refine ⟨some ⟨b, 0, none⟩, cap, by simp, fun i hi => ⟨b, 0, rfl, ?_, ?_⟩, by simp; omega, by simpa using hcap⟩
  · simp at hi
    rw [Nat.zero_add, h.cell hi]
    simp [List.getD, List.getElem?_replicate, hi]
  · simp at hi
    simp [List.getD, List.getElem?_replicate, hi, I64]

theorem Zr.mat {w wr : World} {r c : Nat} (h : Zr w wr r c r) (hr : r ≤ 8) (hc : c ≤ 4096) : MatIn wr (zeroM r c) (.slice (some ⟨w.heap.size, 0, none⟩) r r) := by
  refine ⟨some ⟨w.heap.size, 0, none⟩, r, by simp [zeroM], fun i hi => ?_, by simp [zeroM]; omega, by simp [zeroM]⟩
  simp [zeroM] at hi
  refine ⟨w.heap.size, 0, .slice (some ⟨w.heap.size + 1 + i, 0, none⟩) c c, rfl, ?_, ?_⟩
  · rw [Nat.zero_add, h.top.cell hi]
    simp [topZ, hi]
  · rw [show (zeroM r c).getD i [] = List.replicate c 0 by simp [zeroM, List.getD, List.getElem?_replicate, hi]]
    exact rowIn_zero (h.done i hi) hc (Nat.le_refl _)

def MatGiven (w : World) (m : List (List Int)) (e : Ending) (w' : World) : Prop := ∃ u, e = .returned u ∧ MatIn w' m u ∧ Below w.heap.size w w'

set_option maxHeartbeats 1000000 in
set_option maxRecDepth 100000 in
theorem zeros_any (r c : Nat) (hr : r ≤ 8) (hc : c ≤ 4096) (w : World) : Calls Try.prog 115 #[.int .i64 r, .int .i64 c] w (MatGiven w (zeroM r c)) := by
  have hmk24 := run_make_row' (P := Try.prog) 29 34 (.slice none 0 0) 24 Try.underlying29 Try.info34 rfl .i64 .i64 r (by omega) (by omega)
  go_enter Try.func115, Try.ntmps115
  go_wp2_with fail
  clear hmk24
  go_loopw [11] (fun i wr => ∃ k : Nat, i = .int .i64 k ∧ k ≤ r ∧ Zr w wr r c k) (fun i _ => r - (intOf i).toNat)
  case atStart => exact ⟨0, rfl, Nat.zero_le _, Zr.start w r c⟩
  case round =>
    obtain ⟨k, rfl, hk, hz⟩ := hrel
    by_cases hlt : k < r
    · have w4 : (k : Int) < (r : Int) := by omega
      have hmk22 := run_make_row' (P := Try.prog) 34 3 (.int .i64 0) 8 Try.underlying34 Try.info3 rfl .i64 .i64 c (by omega) (by omega)
      have hst1 : ∀ o, (wr.alloc o).cell? ⟨w.heap.size, k, none⟩ = some (topZ w.heap.size c k k) := fun o => (hz.top.alloc o).cell hlt
      have hst2 : ∀ o, (wr.alloc o).frozen? ⟨w.heap.size, k, none⟩ = false := fun o => (hz.top.alloc o).frozen k
      have HZ := Lib.hid hz
      clear hz
      go_wp2_with fail
      go_roundw
      case rel => exact ⟨k + 1, by go_num, by omega, HZ.out.step⟩
      case measure => simp [intOf]; omega
    · have w4 : ¬ (k : Int) < (r : Int) := by omega
      obtain rfl : k = r := by omega
      go_wp2_with fail
      go_ret
      exact ⟨_, rfl, hz.mat hr hc, hz.below⟩
end Go.Proofs.Ytegomicpolnpoaa
