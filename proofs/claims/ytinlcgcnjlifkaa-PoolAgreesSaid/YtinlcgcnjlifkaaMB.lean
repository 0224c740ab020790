/- Structs of numbers as arguments: a wish, a deal. -/
import Derived.Test.YtinlcgcnjlifkaaSO
import Derived.Lib.SmallJoins
import Derived.WalkKit
import Derived.ProofKit
import Derived.OpenShut
namespace Go.Proofs.Ytinlcgcnjlifkaa
open Go.ChangeShapes Go.WideShapes Go.ChangeAt Go.RowKit Go.Shelf Go.Deep

section
variable {H : Type} {enc : TypeId × Value → H} {w : World} {base : Nat} {spare : Nat → Bool} {held : Bool}
theorem agg_ints {r : Reach} {b0 : Nat} {t : TypeId} {fs : Array Field} {v : Value} {d : DataW H} {p : List MemPlace} (hs : Try.prog.underlying t = some (.struct fs)) (hone : oneCellFields Try.prog fs = true) (hC : Try.prog.cellsOf t = fs.size) (hint : ∀ (i : Nat) (f : Field), fs[i]? = some f → f.type = 3)
    (hv : Value.okWide Try.prog w r b0 t v) (h : DataW.Trod enc Try.prog w base spare held t v d p) : ∃ cs : Array Value, v = .agg cs ∧ cs.size = fs.size ∧ ∀ i, i < cs.size → ∃ n, cs[i]? = some (.int .i64 n) := by
  obtain ⟨cs, rfl, hsz⟩ := okWide_struct hs hv
  obtain ⟨fuel, hf⟩ := h
  obtain ⟨xs, n, _, _, _, hlen, hff⟩ := DataW.trod_struct hs hf
  refine ⟨cs, rfl, hsz.trans hC, fun i hi => ?_⟩
  have hi2 : i < fs.size := by rw [← hC, ← hsz]; exact hi
  have hfi : fs[i]? = some fs[i] := Array.getElem?_eq_getElem hi2
  have h1 := hff i fs[i] hfi
  obtain ⟨h2, h3⟩ := hone_of hone i fs[i] hfi
  rw [h2, h3, hint i _ hfi] at h1
  have hxl : i < xs.length := by omega
  obtain ⟨m, hm, _, _⟩ := DataW.trod_int (x := xs[i]) Try.underlying3 (by simpa [hxl] using h1)
  refine ⟨m, ?_⟩
  have h4 : ((cs.toList.drop i).take 1)[0]? = some (.int .i64 m) := by
    have := congrArg (·[0]?) hm
    simpa [Value.cells] using this
  simpa [List.getElem?_take, List.getElem?_drop] using h4
theorem array6 {α : Type} {cs : Array α} (h : cs.size = 6) : ∃ c0 c1 c2 c3 c4 c5, cs = #[c0, c1, c2, c3, c4, c5] := by
  obtain ⟨l⟩ := cs
  match l, h with
  | [c0, c1, c2, c3, c4, c5], _ => exact ⟨c0, c1, c2, c3, c4, c5, rfl⟩
theorem array7 {α : Type} {cs : Array α} (h : cs.size = 7) : ∃ c0 c1 c2 c3 c4 c5 c6, cs = #[c0, c1, c2, c3, c4, c5, c6] := by
  obtain ⟨l⟩ := cs
  match l, h with
  | [c0, c1, c2, c3, c4, c5, c6], _ => exact ⟨c0, c1, c2, c3, c4, c5, c6, rfl⟩
theorem wish_arg {r : Reach} {b0 : Nat} {v : Value} {d : DataW H} {p : List MemPlace} (hv : Value.okWide Try.prog w r b0 23 v) (h : DataW.Trod enc Try.prog w base spare held 23 v d p) : ∃ x : Wish, v = x.v := by
  obtain ⟨cs, rfl, hsz, hc⟩ := agg_ints Try.underlying23 (by kernel_rfl) (by kernel_rfl) (fun i f hf => by
    have hi := (Array.getElem?_eq_some_iff.1 hf).1
    rcases i with _ | _ | _ | _ | _ | _ | _ | i
    all_goals first | (simp at hf; rw [← hf]) | (simp at hi; omega)) hv h
  obtain ⟨c0, c1, c2, c3, c4, c5, c6, rfl⟩ := array7 hsz
  obtain ⟨n0, h0⟩ := hc 0 (by simp)
  obtain ⟨n1, h1⟩ := hc 1 (by simp)
  obtain ⟨n2, h2⟩ := hc 2 (by simp)
  obtain ⟨n3, h3⟩ := hc 3 (by simp)
  obtain ⟨n4, h4⟩ := hc 4 (by simp)
  obtain ⟨n5, h5⟩ := hc 5 (by simp)
  obtain ⟨n6, h6⟩ := hc 6 (by simp)
  simp at h0 h1 h2 h3 h4 h5 h6
  exact ⟨⟨n0, n1, n2, n3, n4, n5, n6⟩, by rw [h0, h1, h2, h3, h4, h5, h6]⟩
theorem deal_arg {r : Reach} {b0 : Nat} {v : Value} {d : DataW H} {p : List MemPlace} (hv : Value.okWide Try.prog w r b0 25 v) (h : DataW.Trod enc Try.prog w base spare held 25 v d p) : ∃ x : Dl, v = x.v := by
  obtain ⟨cs, rfl, hsz, hc⟩ := agg_ints Try.underlying25 (by kernel_rfl) (by kernel_rfl) (fun i f hf => by
    have hi := (Array.getElem?_eq_some_iff.1 hf).1
    rcases i with _ | _ | _ | _ | _ | _ | i
    all_goals first | (simp at hf; rw [← hf]) | (simp at hi; omega)) hv h
  obtain ⟨c0, c1, c2, c3, c4, c5, rfl⟩ := array6 hsz
  obtain ⟨n0, h0⟩ := hc 0 (by simp)
  obtain ⟨n1, h1⟩ := hc 1 (by simp)
  obtain ⟨n2, h2⟩ := hc 2 (by simp)
  obtain ⟨n3, h3⟩ := hc 3 (by simp)
  obtain ⟨n4, h4⟩ := hc 4 (by simp)
  obtain ⟨n5, h5⟩ := hc 5 (by simp)
  simp at h0 h1 h2 h3 h4 h5
  exact ⟨⟨n0, n1, n2, n3, n4, n5⟩, by rw [h0, h1, h2, h3, h4, h5]⟩
end
end Go.Proofs.Ytinlcgcnjlifkaa
