/- Interleaved bytes: those of a block's beginning, then those of its rest. -/
import Derived.Test.YtegomicpolnpoaaXC
namespace Go.Proofs.Ytegomicpolnpoaa
open Go.RowKit Go.Deep Go.Shelf

/-- The bytes of levels one behind the other. -/
def strL (e : Nat) : List Int → ByteArray
  | [] => ByteArray.empty
  | n :: l => lvS e n ++ strL e l
theorem strL_append (e : Nat) : ∀ a b : List Int, strL e (a ++ b) = strL e a ++ strL e b
  | [], b => by simp [strL]
  | n :: a, b => by simp only [List.cons_append, strL]; rw [strL_append e a b, ByteArray.append_assoc]

theorem lvTo_two {σ : Type} {lv : σ → Nat → Int → Int} {nx : σ → Nat → Int → σ} {m : List (List Int)} (l2 : List (Nat × Nat)) : ∀ (l1 : List (Nat × Nat)) (s : σ), lvTo lv nx m s (l1 ++ l2) = lvTo lv nx m s l1 ++ lvTo lv nx m (stTo nx m s l1) l2
  | [], s => by simp [lvTo, stTo]
  | x :: l1, s => by
    simp only [List.cons_append, lvTo]
    rw [lvTo_two l2 l1]
    simp [stTo]
theorem stTo_two {σ : Type} {nx : σ → Nat → Int → σ} {m : List (List Int)} (s : σ) (l1 l2 : List (Nat × Nat)) : stTo nx m s (l1 ++ l2) = stTo nx m (stTo nx m s l1) l2 := by simp [stTo]
/-- The same samples at spots moved. -/
theorem lvTo_moved {σ : Type} {lv : σ → Nat → Int → Int} {nx : σ → Nat → Int → σ} {m y : List (List Int)} (g : Nat × Nat → Nat × Nat) : ∀ (l : List (Nat × Nat)) (s : σ), (∀ x ∈ l, (g x).1 = x.1 ∧ smpAt m (g x) = smpAt y x) →
    (lvTo lv nx m s (l.map g)).map Prod.snd = (lvTo lv nx y s l).map Prod.snd ∧ stTo nx m s (l.map g) = stTo nx y s l
  | [], s, _ => ⟨rfl, rfl⟩
  | x :: l, s, h => by
    obtain ⟨h1, h2⟩ := h x (by simp)
    have hr := lvTo_moved (lv := lv) (nx := nx) g l (nx s x.1 (smpAt y x)) (fun z hz => h z (by simp [hz]))
    simp only [List.map_cons, lvTo, h1, h2]
    refine ⟨by rw [hr.1], ?_⟩
    have := hr.2
    simpa [stTo, h1, h2] using this

theorem rowS_moved (r n f : Nat) : rowS (n + f) r = (rowS f r).map fun x => (x.1, n + x.2) := by
  unfold rowS; rw [List.map_map]; rfl
theorem spTo_moved (r n : Nat) : ∀ k, spTo r (n + k) = spTo r n ++ (spTo r k).map fun x => (x.1, n + x.2)
  | 0 => by simp [spTo]
  | k + 1 => by
    rw [← Nat.add_assoc, spTo_succ, spTo_moved r n k, spTo_succ r k, List.map_append, List.append_assoc, rowS_moved]

theorem laidL_plus (e r c : Nat) (LV : Nat × Nat → Int) (hr : 0 < r) (f : Nat) : ∀ k, k ≤ r → laidL e false r c LV (f * r + k) = laidL e false r c LV (f * r) ++ strL e ((rowS f k).map LV)
  | 0, _ => by simp [rowS, strL]
  | k + 1, h => by
    rw [← Nat.add_assoc, laidL, laidL_plus e r c LV hr f k (by omega), rowS_succ, List.map_append, strL_append]
    have : spotAt false r c (f * r + k) = (k, f) := by
      unfold spotAt
      simp only [Bool.false_eq_true, if_false]
      rw [Nat.mul_add_mod_of_lt (by omega), divE (by omega)]
    rw [this]
    simp [strL, ByteArray.append_assoc]
theorem laidL_list (e r : Nat) (LV : Nat × Nat → Int) (hr : 0 < r) (c : Nat) : ∀ f, laidL e false r c LV (f * r) = strL e ((spTo r f).map LV)
  | 0 => by simp [laidL, spTo, strL]
  | f + 1 => by
    rw [Nat.add_mul, Nat.one_mul, laidL_plus e r c LV hr f r (Nat.le_refl _), laidL_list e r LV hr c f, spTo_succ, List.map_append, strL_append]
/-- Interleaved, the bytes are those of the levels as they were made. -/
theorem laidL_made {σ : Type} {lv : σ → Nat → Int → Int} {nx : σ → Nat → Int → σ} {m : List (List Int)} {s : σ} (e r c : Nat) (LV : Nat × Nat → Int) (hr : 0 < r) (h : ∀ y ∈ lvTo lv nx m s (spTo r c), y.2 = LV y.1) :
    laidL e false r c LV (c * r) = strL e ((lvTo lv nx m s (spTo r c)).map Prod.snd) := by
  rw [laidL_list e r LV hr c c]
  congr 1
  conv => lhs; rw [← lvTo_fst (lv := lv) (nx := nx) (m := m) (spTo r c) s]
  rw [List.map_map]
  exact List.map_congr_left fun y hy => (h y hy).symm
end Go.Proofs.Ytegomicpolnpoaa
