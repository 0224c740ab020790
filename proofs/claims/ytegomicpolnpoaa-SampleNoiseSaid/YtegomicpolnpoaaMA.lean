/- An argument that reads as a list of rows is one. -/
import Derived.Test.YtegomicpolnpoaaAA
import Derived.Test.YtegomicpolnpoaaChecked
import Derived.KernelRfl
import Derived.Deep.Slices
import Derived.Deep.Matrix
import Derived.ChangeSame
import Derived.SizedLaws
namespace Go.Proofs.Ytegomicpolnpoaa
open Go.RowKit Go.ChangeShapes Go.WideShapes Go.Deep

section
variable {H : Type} {enc : TypeId × Value → H} {w : World}

theorem wts_slice {t e : TypeId} {a b : List (DataW H)} (ht : Try.prog.underlying t = some (.slice e)) (h : ((DataW.slice a b).weights Try.prog t).all (· ≤ reachBytes) = true) :
    (a.length + b.length) * Try.prog.bytesOf e ≤ reachBytes ∧ (DataW.weightsAll Try.prog e a).all (· ≤ reachBytes) = true := by
  unfold DataW.weights at h
  rw [ht] at h
  simp only [List.all_cons, List.all_append, Bool.and_eq_true, decide_eq_true_eq] at h
  exact ⟨h.1, h.2.1⟩
theorem wts_mem {e : TypeId} : ∀ {l : List (DataW H)} {d : DataW H}, d ∈ l → (DataW.weightsAll Try.prog e l).all (· ≤ reachBytes) = true → (d.weights Try.prog e).all (· ≤ reachBytes) = true
  | [], d, h, _ => by cases h
  | x :: r, d, hm, h => by
    rw [DataW.weightsAll, List.all_append, Bool.and_eq_true] at h
    rcases List.mem_cons.1 hm with rfl | hm
    · exact h.1
    · exact wts_mem hm h.2
theorem int_wf {n : Int} (h : (Lit.int .i64 n).wf = true) : I64 n := by
  simp [Lit.wf, IntKind.min, IntKind.max, IntKind.bits, IntKind.signed] at h
  unfold I64
  omega
theorem spot_none {a : Addr} {v : Value} (h : w.cell? a = some v) : a = ⟨a.block, a.off, none⟩ := by
  have := World.cell?_spot h
  obtain ⟨b, o, s⟩ := a
  simp at this ⊢; exact this
theorem add_plain (b o i : Nat) : (⟨b, o, none⟩ : Addr).add i = ⟨b, o + i, none⟩ := by unfold Addr.add; split <;> simp_all

theorem mat_of {t : TypeId} {fuel : Nat} {v : Value} {x : DataW H × List MemPlace} (ht : Try.prog.underlying t = some (.slice 34)) (h : DataW.trod enc Try.prog w 0 (fun _ => true) true fuel t [v] = some x) (hs : (x.1.weights Try.prog t).all (· ≤ reachBytes) = true) :
    ∃ m, MatIn w m v := by
  have hb22 : Try.prog.bytesOf 34 = 24 := by kernel_rfl
  have hb3 : Try.prog.bytesOf 3 = 8 := by kernel_rfl
  rcases open_int_rows ht Try.underlying34 Try.underlying3 (by kernel_rfl) (by kernel_rfl) h with ⟨hv, _⟩ | ⟨a, len, cap, A, L, C, Z, hv, _, hl, hm, hx, hrows⟩
  · simp only [List.cons.injEq, and_true] at hv
    subst hv
    exact ⟨[], none, 0, rfl, (fun i hi => by simp at hi), by simp, Nat.le_refl _⟩
  · simp only [List.cons.injEq, and_true] at hv
    subst hv
    rw [hx] at hs
    obtain ⟨hw1, hw2⟩ := wts_slice ht hs
    rw [hb22] at hw1
    simp only [List.length_map, List.length_range] at hw1
    unfold reachBytes at hw1
    refine ⟨(List.range len).map fun r => (Z r).take (L r), some a, cap, by simp, fun i hi => ?_, by simp; omega, by simpa using hl⟩
    simp only [List.length_map, List.length_range] at hi
    obtain ⟨r1, r2, r3, r4, r5, r6, r7⟩ := hrows i (by omega)
    have ha' : a = ⟨a.block, a.off, none⟩ := by
      have h0 := World.cell?_spot (hrows 0 (by omega)).1
      obtain ⟨b, o, s⟩ := a
      simpa [Addr.add] using h0
    rw [ha', add_plain] at r1
    refine ⟨a.block, a.off, .slice (A i) (L i) (C i), by rw [← ha'], r1, ?_⟩
    rw [show ((List.range len).map fun r => (Z r).take (L r)).getD i [] = (Z i).take (L i) by simp [List.getD, hi]]
    have hlen : ((Z i).take (L i)).length = L i := by rw [List.length_take]; omega
    have hmem : intRow (H := H) .i64 (A i) (L i) (Z i) ∈ (List.range len).map fun r => intRow (H := H) .i64 (A r) (L r) (Z r) := List.mem_map.2 ⟨i, List.mem_range.2 hi, rfl⟩
    have hwi := wts_mem hmem hw2
    have hL : L i ≤ 17592186044416 := by
      cases hA : A i with
      | none => have := r6 hA; omega
      | some a' =>
        rw [hA] at hwi
        have h1 := (wts_slice Try.underlying34 hwi).1
        rw [hb3] at h1
        simp only [lits, List.length_map, List.length_take, List.length_drop] at h1
        unfold reachBytes at h1
        omega
    refine ⟨A i, C i, by rw [hlen], fun f hf => ?_, by omega, by omega⟩
    rw [hlen] at hf
    cases hA : A i with
    | none => have := r6 hA; omega
    | some a' =>
      obtain ⟨_, h8⟩ := r7 a' hA
      have hc := h8 f (by omega)
      have hb' : a' = ⟨a'.block, a'.off, none⟩ := by
        have h0 := World.cell?_spot (h8 0 (by omega))
        obtain ⟨b, o, s⟩ := a'
        simpa [Addr.add] using h0
      rw [hb', add_plain] at hc
      have hg : ((Z i).take (L i)).getD f 0 = (Z i).getD f 0 := by simp [List.getD, List.getElem?_take, hf]
      rw [hg]
      refine ⟨a'.block, a'.off, by rw [← hb'], hc, int_wf (r5 _ ?_)⟩
      rw [show (Z i).getD f 0 = (Z i)[f] by simp [List.getD, show f < (Z i).length by omega]]
      exact List.getElem_mem _

set_option maxRecDepth 20000 in
theorem mat_arg {t : TypeId} {base : Nat} {r : Reach} {v : Value} {d : DataW H} {p : List MemPlace} (ht : Try.prog.underlying t = some (.slice 34)) (hv : Value.okWide Try.prog w r base t v) (h : DataW.Trod enc Try.prog w 0 (fun _ => true) true t v d p)
    (hs : (d.weights Try.prog t).all (· ≤ reachBytes) = true) : ∃ m, MatIn w m v := by
  obtain ⟨a, l, c, rfl⟩ := okWide_slice ht hv
  obtain ⟨fuel, hf⟩ := h
  exact mat_of ht hf hs
end
end Go.Proofs.Ytegomicpolnpoaa
