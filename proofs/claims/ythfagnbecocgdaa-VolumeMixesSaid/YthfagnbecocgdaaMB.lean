/- An argument that reads as a list of blocks is one. -/
import Derived.Test.YthfagnbecocgdaaMA
import Derived.Test.YthfagnbecocgdaaRG
namespace Go.Proofs.Ythfagnbecocgdaa
open Go.RowKit Go.ChangeShapes Go.WideShapes Go.Deep

section
variable {H : Type} {enc : TypeId × Value → H} {w : World}

set_option maxRecDepth 20000 in
theorem blks_of {t : TypeId} {fuel : Nat} {v : Value} {x : DataW H × List MemPlace} (ht : Try.prog.underlying t = some (.slice 34)) (h : DataW.trod enc Try.prog w 0 (fun _ => true) true fuel t [v] = some x) (hs : (x.1.weights Try.prog t).all (· ≤ reachBytes) = true) :
    ∃ l, BlksIn w l v := by
  have hb30 : Try.prog.bytesOf 34 = 24 := by kernel_rfl
  rcases open_slice1 ht (by kernel_rfl) h with ⟨hv, _⟩ | ⟨a, len, cap, m, n, V, D, Pl, hv, _, hl, hm, hmm, hx, hV⟩
  · simp only [List.cons.injEq, and_true] at hv
    subst hv
    exact ⟨[], none, 0, rfl, (fun i hi => by simp at hi), by simp, Nat.le_refl _⟩
  · simp only [List.cons.injEq, and_true] at hv
    subst hv
    simp only [if_true] at hmm
    subst hmm
    rw [hx] at hs
    obtain ⟨hw1, hw2⟩ := wts_slice ht hs
    rw [hb30] at hw1
    simp only [List.length_map, List.length_range] at hw1
    unfold reachBytes at hw1
    have each : ∀ i, i < len → ∃ M, MatIn w M (V i) := fun i hi => by
      have hmem : D i ∈ (List.range len).map D := List.mem_map.2 ⟨i, List.mem_range.2 hi, rfl⟩
      exact mat_of Try.underlying34 (hV i (by omega)).2 (wts_mem hmem hw2)
    obtain ⟨M, hM⟩ := choose_lt (α := List (List Int)) each
    have ha' : 0 < len → a = ⟨a.block, a.off, none⟩ := fun h0 => by
      have h1 := World.cell?_spot (hV 0 (by omega)).1
      obtain ⟨b, o, s⟩ := a
      simpa [Addr.add] using h1
    refine ⟨(List.range len).map M, some a, m, by simp, fun i hi => ?_, by simp; omega, by simpa using hl⟩
    simp only [List.length_map, List.length_range] at hi
    have h1 := (hV i (by omega)).1
    have e := ha' (by omega)
    rw [e, add_plain] at h1
    refine ⟨a.block, a.off, V i, by rw [← e], h1, ?_⟩
    rw [show ((List.range len).map M).getD i [] = M i by simp [List.getD, hi]]
    exact hM i hi
set_option maxRecDepth 20000 in
theorem blks_arg {t : TypeId} {base : Nat} {r : Reach} {v : Value} {d : DataW H} {p : List MemPlace} (ht : Try.prog.underlying t = some (.slice 34)) (hv : Value.okWide Try.prog w r base t v) (h : DataW.Trod enc Try.prog w 0 (fun _ => true) true t v d p)
    (hs : (d.weights Try.prog t).all (· ≤ reachBytes) = true) : ∃ l, BlksIn w l v := by
  obtain ⟨a, l, c, rfl⟩ := okWide_slice ht hv
  obtain ⟨fuel, hf⟩ := h
  exact blks_of ht hf hs
end
end Go.Proofs.Ythfagnbecocgdaa
