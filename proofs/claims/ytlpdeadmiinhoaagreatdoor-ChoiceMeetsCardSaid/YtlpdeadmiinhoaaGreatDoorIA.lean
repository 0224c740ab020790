/- Small parts of Met of the document's answers: listed, list, greatest, wished. -/
import Derived.Test.YtlpdeadmiinhoaaGreatDoorHM
namespace Go.Proofs.YtlpdeadmiinhoaaGreatDoor
open Go.RowKit

set_option maxRecDepth 100000 in
set_option maxHeartbeats 1000000 in
theorem listed_any (c : Ch) (v : Value) (w : World) (hc : ChIn w c v) :
    Calls Tryz.prog 95 #[v] w fun e w' => e = .returned (.bool c.isList) ∧ Below w.heap.size w w' := by
  obtain ⟨a, cap, rfl, _, _, _, _, _⟩ := hc
  unfold Ch.isList
  obtain ⟨k, hk⟩ : ∃ k, c.kind = k := ⟨_, rfl⟩
  rw [hk]
  clear hk
  by_cases h1 : k = 1
  · subst h1
    go_enter Tryz.func95, Tryz.ntmps95
    go_wp2_with fail
    go_ret
    exact ⟨rfl, (Below.refl _ _).alloc (Nat.le_refl _) _⟩
  · by_cases h2 : k = 2
    · subst h2
      go_enter Tryz.func95, Tryz.ntmps95
      go_wp2_with fail
      go_ret
      exact ⟨rfl, (Below.refl _ _).alloc (Nat.le_refl _) _⟩
    · have e1 : (k == 1) = false := by simpa using h1
      have e2 : (k == 2) = false := by simpa using h2
      have e3 : decide (k = 1) = false := by simpa using h1
      have e4 : decide (k = 2) = false := by simpa using h2
      rw [e3, e4]
      go_enter Tryz.func95, Tryz.ntmps95
      go_wp2_with fail
      go_ret
      exact ⟨rfl, (Below.refl _ _).alloc (Nat.le_refl _) _⟩

set_option maxRecDepth 100000 in
set_option maxHeartbeats 1000000 in
theorem list97_any (l : List Int) (a : Option Addr) (c : Nat) (w : World) (hl : l.length ≤ 1000) :
    Calls Tryz.prog 97 #[.slice a l.length c] w fun e w' => e = .returned (.agg #[.int .i64 (ofList l).kind, .int .i64 0, .slice a l.length c]) ∧ Below w.heap.size w w' := by
  unfold ofList
  obtain ⟨n, hn⟩ : ∃ n, l.length = n := ⟨_, rfl⟩
  rw [hn] at hl ⊢
  clear hn
  by_cases h1 : n = 1
  · subst h1
    go_enter Tryz.func97, Tryz.ntmps97
    go_wp2_with fail
    refine bodyPost_ret (v := .agg #[.int .i64 1, .int .i64 0, .slice a 1 c]) (by simp [results, Tryz.results97, go_sem]) rfl ⟨rfl, ?_⟩
    exact (Below.refl _ _).alloc (Nat.le_refl _) _
  · have e1 : ((n : Int) == 1) = false := by simp; omega
    have e2 : (if n = 1 then (1 : Int) else 2) = 2 := by rw [if_neg h1]
    simp only [e2]
    clear h1 e2
    go_enter Tryz.func97, Tryz.ntmps97
    go_wp2_with fail
    refine bodyPost_ret (v := .agg #[.int .i64 2, .int .i64 0, .slice a n c]) (by simp [results, Tryz.results97, go_sem]) rfl ⟨rfl, ?_⟩
    exact (Below.refl _ _).alloc (Nat.le_refl _) _
end Go.Proofs.YtlpdeadmiinhoaaGreatDoor
