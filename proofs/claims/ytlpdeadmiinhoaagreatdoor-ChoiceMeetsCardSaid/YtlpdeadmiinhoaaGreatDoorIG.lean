/- What two ranges have in common, in plain numbers. -/
import Derived.Test.YtlpdeadmiinhoaaGreatDoorIE
import Derived.Test.YtlpdeadmiinhoaaGreatDoorIF
namespace Go.Proofs.YtlpdeadmiinhoaaGreatDoor
open Go.RowKit

theorem range_none {a b : Sp} (oa : a.Ok) (ob : b.Ok) (h : firstC a b = none) (m : Int) : (a.has m && b.has m) = false := by
  have := firstC_none oa ob h m
  cases h1 : a.has m <;> cases h2 : b.has m <;> first | rfl | exact absurd ⟨h1, h2⟩ this
theorem range_some {a b : Sp} (oa : a.Ok) (ob : b.Ok) {f : Int} (h : firstC a b = some f) :
    (max a.lo b.lo ≤ f ∧ f ≤ min a.top b.top ∧ f < max a.lo b.lo + lcmI a.st b.st ∧ 0 ≤ f ∧ min a.top b.top ≤ 1000000000) ∧ (a.has f = true ∧ b.has f = true) ∧ (∀ m, m < f → (a.has m && b.has m) = false) ∧
    ((min a.top b.top - f) / lcmI a.st b.st + 1 = (outS a b f).count ∧ f + ((min a.top b.top - f) / lcmI a.st b.st) * lcmI a.st b.st = (outS a b f).hi ∧ (outS a b f).lo = f ∧ (outS a b f).st = lcmI a.st b.st) := by
  obtain ⟨h1, h2⟩ := firstC_some oa ob h
  obtain ⟨h3, h4⟩ := first_ge oa ob h
  have h5 := first_lt oa ob h
  have t1 := top_spec a oa
  have t2 := top_spec b ob
  have ha := t1.2.2.2 f h1.1
  have hb := t2.2.2.2 f h1.2
  obtain ⟨a1, a2, a3, _⟩ := oa
  refine ⟨⟨h4, by omega, h5, h3, by omega⟩, h1, fun m hm => ?_, ?_, ?_, rfl, rfl⟩
  · cases e1 : a.has m <;> cases e2 : b.has m <;> first | rfl | (exfalso; have := h2 m ⟨e1, e2⟩; omega)
  · exact countR_eq ⟨a1, a2, a3, by assumption⟩ ob h
  · have e := last_of_count ⟨a1, a2, a3, by assumption⟩ ob h
    unfold countR at e
    rw [Int.add_sub_cancel] at e
    exact e
theorem range_met {x y : Ch} (lx : x.isList = false) (ly : y.isList = false) {f : Int} (h : firstC x.sp y.sp = some f) : metC x y = some ((manyOrFew x y (outS x.sp y.sp f)).wished x.dflt y.dflt) := by
  unfold metC bareMet
  rw [if_neg (by rw [lx]; simp), if_neg (by rw [ly]; simp), h]
  rfl
theorem range_met_none {x y : Ch} (lx : x.isList = false) (ly : y.isList = false) (h : firstC x.sp y.sp = none) : metC x y = none := by
  unfold metC bareMet
  rw [if_neg (by rw [lx]; simp), if_neg (by rw [ly]; simp), h]
  rfl
theorem wished_hasOk {C : Ch} {x y : Int} (h : validC (C.wished x y) = true) : HasOk C ∧ 1 ≤ C.list.length := by
  have h1 : HasOk (C.wished x y) := hasOk_valid h
  refine ⟨h1, ?_⟩
  obtain ⟨_, _, h2⟩ := valid_cases h
  have e : (C.wished x y).list = C.list := rfl
  rw [e] at h2
  omega
/-- The first numbers from f on, by steps of L. -/
def upL (f L : Int) (k : Nat) : List Int := (List.range k).map fun i : Nat => f + (i : Int) * L
theorem upL_snoc (f L : Int) (k : Nat) : upL f L (k + 1) = upL f L k ++ [f + (k : Int) * L] := by unfold upL; rw [List.range_succ, List.map_append]; rfl
theorem upL_len (f L : Int) (k : Nat) : (upL f L k).length = k := by unfold upL; simp
theorem many_few_eq {x y : Ch} {s : Sp} {f L Q : Int} (h1 : s.lo = f) (h2 : s.st = L) (h3 : Q + 1 = s.count) (hq : 0 ≤ Q) (h : ¬ (L ≤ 1000 ∧ 20 < Q + 1)) : manyOrFew x y s = ofList (upL f L (min 20 (Q + 1).toNat)) := by
  unfold manyOrFew
  rw [h2, ← h3, if_neg h]
  unfold Sp.firsts upL
  rw [h1, h2, ← h3]
theorem many_range_eq {x y : Ch} {s : Sp} {f L Q : Int} (h1 : s.lo = f) (h2 : s.st = L) (h3 : Q + 1 = s.count) (h4 : f + Q * L = s.hi) (h : L ≤ 1000 ∧ 20 < Q + 1) (hk : x.kind = 3 ∧ y.kind = 3) : manyOrFew x y s = ⟨3, 0, [f, f + Q * L]⟩ := by
  unfold manyOrFew
  rw [h2, ← h3, if_pos h, if_pos hk, h1, h4]
theorem many_step_eq {x y : Ch} {s : Sp} {f L Q : Int} (h1 : s.lo = f) (h2 : s.st = L) (h3 : Q + 1 = s.count) (h4 : f + Q * L = s.hi) (h : L ≤ 1000 ∧ 20 < Q + 1) (hk : ¬ (x.kind = 3 ∧ y.kind = 3)) : manyOrFew x y s = ⟨4, 0, [f, f + Q * L, L]⟩ := by
  unfold manyOrFew
  rw [h2, ← h3, if_pos h, if_neg hk, h1, h4]
theorem row_ints {n : Nat} {w : World} {g : Nat} {l : List Int} (hg : w.heap[g]? = some (.cells (l.map (Value.int .i64)).toArray 3 (0, 0))) (hB : n ≤ g) (hl : l.length ≤ 100) (hI : ∀ n ∈ l, I64 n) : NewIn n w (some ⟨g, 0, none⟩) l :=
  (Row.newin (row_made (B := n) hg hB hl rfl) hI (Nat.le_refl _)).1
end Go.Proofs.YtlpdeadmiinhoaaGreatDoor
