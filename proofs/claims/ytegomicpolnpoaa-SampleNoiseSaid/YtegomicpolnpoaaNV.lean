/- A region that draws its order, by an invariant over which operations have been taken: one proof an operation, not one an order. -/
import Derived.Test.YtegomicpolnpoaaNI
namespace Go.Proofs.Ytegomicpolnpoaa
open Go

section
variable {F : Fence} {n : Nat} {P : Program} {ops : Array Oper} {Q : Exit → Act → World → Prop} {md : Region.Mode}

/-- Each operation waits for such alone as stand ahead of it. -/
def earlierB (md : Region.Mode) (ops : Array Oper) : Bool := (List.range ops.size).all fun j => match ops[j]? with | some o => o.after.all fun e => !Region.binds md e || decide (e.on < j) | none => true
theorem all_listed (he : earlierB md ops = true) {L : Array Bool} (hs : L.size = ops.size) (h : Region.ready md ops L = []) : ∀ k j, j ≤ k → j < ops.size → L.getD j false = true := by
  intro k
  induction k using Nat.strongRecOn with
  | ind k ih =>
    intro j hj hlt
    obtain ⟨o, ho⟩ : ∃ o, ops[j]? = some o := ⟨ops[j], by simp [hlt]⟩
    by_cases hl : L.getD j false = true
    · exact hl
    · exfalso
      have hf : L.getD j true = false := by
        have h1 : j < L.size := by omega
        simp only [Array.getD_eq_getD_getElem?] at hl ⊢
        rw [Array.getElem?_eq_getElem h1] at hl ⊢
        simpa using hl
      have hm : j ∈ Region.ready md ops L := by
        refine mem_ready.2 ⟨hf, o, ho, fun e hemem hb => ?_⟩
        have h1 := List.all_eq_true.1 he j (List.mem_range.2 hlt)
        rw [ho] at h1
        have h2 := Array.all_eq_true'.1 h1 e hemem
        rw [hb] at h2
        have h3 : e.on < j := by simpa using h2
        exact ih e.on (by omega) e.on (Nat.le_refl _) (by omega)
      rw [h] at hm
      cases hm

def unlisted (L : Array Bool) : Nat := L.toList.count false
theorem count_set : ∀ (l : List Bool) (i : Nat), l[i]? = some false → (l.set i true).count false + 1 = l.count false
  | [], i, h => by simp at h
  | b :: l, 0, h => by
    obtain rfl : b = false := by simpa using h
    simp
  | b :: l, i + 1, h => by
    have := count_set l i (by simpa using h)
    simp only [List.set_cons_succ, List.count_cons]
    omega
theorem getD_false {L : Array Bool} {i : Nat} (h : L.getD i true = false) : L.toList[i]? = some false := by
  rcases Nat.lt_or_ge i L.size with h' | h'
  · simp only [Array.getD_eq_getD_getElem?] at h
    rw [Array.getElem?_eq_getElem h'] at h
    simp at h
    simp [h', h]
  · simp [Array.getElem?_eq_none h'] at h
theorem unlisted_set {L : Array Bool} {i : Nat} (h : L.getD i true = false) : unlisted (L.setIfInBounds i true) + 1 = unlisted L := by
  unfold unlisted
  rw [Array.toList_setIfInBounds]
  exact count_set _ _ (getD_false h)

theorem anyIn_inv (R : Array Bool → Act → World → Prop)
    (hstep : ∀ L a w i o, L.size = ops.size → Closed md ops L → L.getD i true = false → R L a w → ops[i]? = some o → (∀ e ∈ o.after, Region.binds md e = true → L.getD e.on false = true) → wpOpIn F n P ops Q i (fun a' w' => R (L.setIfInBounds i true) a' w') a w)
    (hend : ∀ L a w, L.size = ops.size → Region.ready md ops L = [] → R L a w → Q .normal a w) :
    ∀ fuel L a w, L.size = ops.size → Closed md ops L → unlisted L ≤ fuel → R L a w → wpAnyIn F n P md ops Q fuel L a w := by
  intro fuel
  induction fuel with
  | zero =>
    intro L a w hs hcl hu hR
    have h0 : Region.ready md ops L = [] := by
      refine List.eq_nil_iff_forall_not_mem.2 fun i hi => ?_
      have := unlisted_set (mem_ready.1 hi).1
      omega
    exact ⟨h0, hend L a w hs h0 hR⟩
  | succ fuel ih =>
    intro L a w hs hcl hu hR
    refine ⟨fun h0 => hend L a w hs h0 hR, fun i hi => ?_⟩
    obtain ⟨hf, o, ho, hall⟩ := mem_ready.1 hi
    have h1 := unlisted_set hf
    exact wpOpIn_mono (fun a' w' h' => ih _ a' w' (by simpa using hs) (hcl.set hi) (by omega) h') (hstep L a w i o hs hcl hf hR ho hall)

theorem region_inv (R : Array Bool → Act → World → Prop) {id : Nat} {a : Act} {w : World} (hm : P.follows .mixedOrders = true) (he : earlierB .any ops = true) (h0 : R (Array.replicate ops.size false) a w.drew)
    (hstep : ∀ L a w i o, L.size = ops.size → Closed .any ops L → L.getD i true = false → R L a w → ops[i]? = some o → (∀ e ∈ o.after, Region.binds .any e = true → L.getD e.on false = true) → wpOpIn F n P ops Q i (fun a' w' => R (L.setIfInBounds i true) a' w') a w)
    (hend : ∀ L a w, (∀ j, j < ops.size → L.getD j false = true) → R L a w → Q .normal a w) : (Code.region id ops true).wpIn F n P Q a w :=
  wpIn_region_any hm (anyIn_inv R hstep (fun L a w hs h hR => hend L a w (fun j hj => all_listed he hs h j j (Nat.le_refl _) hj) hR) ops.size _ a _ (by simp) (fun j oj hj hl => by simp [Array.getD_eq_getD_getElem?, Array.getElem?_replicate] at hl; split at hl <;> cases hl)
    (by unfold unlisted; exact Nat.le_trans List.count_le_length (by simp)) h0)

/-- What was listed before. -/
theorem was_listed {L : Array Bool} {i j : Nat} (h : (L.setIfInBounds i true).getD j false = true) (hn : i ≠ j) : L.getD j false = true := by rwa [getD_set_ne false hn] at h
end
end Go.Proofs.Ytegomicpolnpoaa
