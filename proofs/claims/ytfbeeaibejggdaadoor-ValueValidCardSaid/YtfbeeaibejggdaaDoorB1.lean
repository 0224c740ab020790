import Derived.Test.YtfbeeaibejggdaaDoorB0
namespace Go.Proofs.YtfbeeaibejggdaaDoor
open Go.RowKit

/-- The table has: which fields a kind has. -/
def hasRow : Nat → Bool × Bool × Bool × Bool
  | 2 => (true, false, false, false) | 3 => (true, false, false, false)
  | 4 => (false, true, false, false) | 5 => (false, true, false, false)
  | 6 => (false, false, false, true) | 7 => (false, false, false, true)
  | 8 => (true, false, true, true) | 9 => (true, false, false, true) | 10 => (false, false, true, true)
  | _ => (false, false, false, false)
def HasLaid (w : World) : Prop := ∀ k, k ≤ 10 → w.cell? ⟨0, k * 4, none⟩ = some (.bool (hasRow k).1) ∧ w.cell? ⟨0, k * 4 + 1, none⟩ = some (.bool (hasRow k).2.1) ∧ w.cell? ⟨0, k * 4 + 2, none⟩ = some (.bool (hasRow k).2.2.1) ∧ w.cell? ⟨0, k * 4 + 3, none⟩ = some (.bool (hasRow k).2.2.2)
theorem HasLaid.mono {w w' : World} (h : HasLaid w) (hs : Same w w') : HasLaid w' := fun k hk => by
  obtain ⟨a, b, c, d⟩ := h k hk
  exact ⟨hs.cell a, hs.cell b, hs.cell c, hs.cell d⟩

theorem kindThere_any (k : Int) (w : World) : Calls Tryd.prog 72 #[.int .i64 k] w fun e w' => e = .returned (.bool (decide (1 ≤ k) && decide (k ≤ 10))) ∧ w = w' := by
  by_cases h1 : 1 ≤ k <;> by_cases h2 : k ≤ 10 <;>
  · go_enter Tryd.func72, Tryd.ntmps72
    go_wp2_with fail
    go_ret
    exact ⟨ret_bool (by simp [*] <;> omega), rfl⟩

theorem objectNumber_any (k : Int) (w : World) : Calls Tryd.prog 106 #[.int .i64 k] w fun e w' => e = .returned (.bool (decide (0 ≤ k) && decide (k ≤ 2147483647))) ∧ w = w' := by
  by_cases h1 : 0 ≤ k <;> by_cases h2 : k ≤ 2147483647 <;>
  · go_enter Tryd.func106, Tryd.ntmps106
    go_wp2_with fail
    go_ret
    exact ⟨ret_bool (by simp [*] <;> omega), rfl⟩

set_option maxHeartbeats 1000000 in
theorem hasMore_any (t : T) (v : Value) (w : World) (hr : Rep w t v) (k : Nat) (hk : t.kind = k) (hk1 : k ≤ 10) (fn fs fk fkids : Bool)
    (c0 : w.cell? ⟨0, k * 4, none⟩ = some (.bool fn)) (c1 : w.cell? ⟨0, k * 4 + 1, none⟩ = some (.bool fs)) (c2 : w.cell? ⟨0, k * 4 + 2, none⟩ = some (.bool fk)) (c3 : w.cell? ⟨0, k * 4 + 3, none⟩ = some (.bool fkids)) :
    Calls Tryd.prog 90 #[v] w fun e w' => e = .returned (.bool (!bareB t fn fs fk fkids)) ∧ Below w.heap.size w w' := by
  obtain ⟨kd, n, s, keys, kids⟩ := t
  obtain ⟨ka, va, kc, vc, rfl, _, _, _, _, _, _, _⟩ := rep_mk hr
  simp only [T.kind] at hk
  subst hk
  have hz := cell_lt c0
  have hS := same_alloc w (.cells #[.int .i64 k, .int .i64 n, .string s, .slice ka keys.length kc, .slice va kids.length vc] 25)
  have d0 := hS.cell c0
  have d1 := hS.cell c1
  have d2 := hS.cell c2
  have d3 := hS.cell c3
  clear c0 c1 c2 c3 hS
  go_enter Tryd.func90, Tryd.ntmps90
  go_wp2_with fail
  all_goals
    go_ret
    refine ⟨ret_bool ?_, (((Below.refl _ _).alloc (Nat.le_refl _) _).alloc (by simp) _)⟩
    simp only [bareB, T.n, T.s, T.keys, T.kids]
    clear hr d0 d1 d2 d3
    have a0 : (((keys.length : Nat) : Int) == 0) = !decide (0 < keys.length) := by cases keys.length <;> simp; omega
    have b0 : (((kids.length : Nat) : Int) == 0) = !decide (0 < kids.length) := by cases kids.length <;> simp; omega
    rw [a0, b0]
    clear a0 b0
    simp_all
end Go.Proofs.YtfbeeaibejggdaaDoor
