/- Join: the program's, as a whole; what is light. -/
import Derived.Test.YtegomicpolnpoaaTK
namespace Go.Proofs.Ytegomicpolnpoaa
open Go.RowKit Go.Shelf Go.Deep

set_option maxRecDepth 100000 in
theorem join_any (l : List (List (List Int))) (v : Value) (w : World) (hL : BlksIn w l v) : Calls Try.prog 45 #[v] w (MatAns w (joinR l) (joinK l)) := by
  have hmf := makes
  obtain ⟨a, ca, rfl, _, _, _⟩ := id hL
  obtain ⟨X, hX⟩ : ∃ X, Obj.cells #[Value.slice a l.length ca] 47 = X := ⟨_, rfl⟩
  have hbel : Below w.heap.size w (w.alloc X) := (Below.refl _ w).alloc (Nat.le_refl _) _
  have c0 : ∀ Z, ((w.alloc X).alloc Z).cell? ⟨w.heap.size, 0, none⟩ = some (.slice a l.length ca) := fun Z => by
    refine (Same.alloc _ Z).cell ?_; rw [← hX]; simp [go_sem]
  have hL2 : ∀ Z, BlksIn ((w.alloc X).alloc Z) l (.slice a l.length ca) := fun Z => (hL.mono (Same.alloc _ _)).mono (Same.alloc _ Z)
  by_cases hK : joinK l = 0
  · have hf := fitted77_ok 97 #[at0 w.heap.size] (w.alloc X) (fun u w => MatIn w (joinR l) u) (fun u w1 w2 hs hu => hu.mono hs) (enters_of Try.func97 (by kernel_rfl) rfl _) (join1_yes l _ _ _ (hL2 _) (c0 _) hK)
    subst hX
    rw [hK]
    have HBL := Lib.hid hbel
    clear hbel c0 hL2 hL hK
    go_enter Try.func45, Try.ntmps45
    go_wp2_with (go_at_call 77; (with_reducible refine hf.mono ?_); rintro e w1 ⟨u, rfl, hu, hb1⟩; have HU := Lib.hid hu; clear hu)
    go_ret2
    exact ⟨_, rfl, HU.out, HBL.out.trans (hb1.mono HBL.out.size)⟩
  · have hf := fitted77_no 97 #[at0 w.heap.size] (joinK l) (w.alloc X) (enters_of Try.func97 (by kernel_rfl) rfl _) (join1_no l _ _ _ (hL2 _) (c0 _) hK)
    subst hX
    rw [joinR_no hK]
    have HBL := Lib.hid hbel
    clear hbel c0 hL2 hL hK
    go_enter Try.func45, Try.ntmps45
    go_wp2_with (go_at_call 77; (with_reducible refine hf.mono ?_); rintro e w1 ⟨rfl, hb1⟩)
    go_ret2
    exact ⟨_, rfl, mat_nil _, HBL.out.trans (hb1.mono HBL.out.size)⟩

set_option maxHeartbeats 4000000 in
set_option maxRecDepth 100000 in
theorem lights_any (l : List (List (List Int))) (v : Value) (w : World) (hL : BlksIn w l v) : Calls Try.prog 35 #[v] w (SomeB w) := by
  obtain ⟨a, ca, rfl, _, hal, _⟩ := id hL
  have HX := Lib.hid hL
  clear hL
  go_enter Try.func35, Try.ntmps35
  go_wp2_with fail
  go_loop [3, 4] (fun n i => ∃ (k : Nat) (x : Int), i = .int .i64 k ∧ k ≤ l.length ∧ n = .int .i64 x) (fun _ i => l.length - (intOf i).toNat)
  case atStart => exact ⟨0, 0, rfl, Nat.zero_le _, rfl⟩
  case round =>
    obtain ⟨k, x, rfl, hk, rfl⟩ := hrel
    by_cases hlt : k < l.length ∧ k < 30
    · obtain ⟨hl1, hl2⟩ := hlt
      have w4 : (k : Int) < (l.length : Int) := by omega
      have q1 : decide (k < l.length) = true := by simp only [decide_eq_true_eq]; omega
      have q2 : decide ((k : Int) < 30) = true := by simp only [decide_eq_true_eq]; omega
      obtain ⟨bb, ob, u, rfl, hcj, hu⟩ := blks_at HX.out hl1
      have h19 := light_any _ u w hu
      have HU := Lib.hid hu
      obtain ⟨au, cu, rfl, _, hbl, _⟩ := hu
      generalize l.getD k [] = p at *
      go_wp2_with (go_at_call 19; (with_reducible refine h19.mono ?_); rintro e w1 ⟨sb, rfl, rfl⟩; cases sb)
      · go_ret
        exact ⟨_, rfl, rfl⟩
      · go_loop [3, 5] (fun n i => ∃ (j : Nat) (y : Int), i = .int .i64 j ∧ j ≤ p.length ∧ n = .int .i64 y) (fun _ i => p.length - (intOf i).toNat)
        case atStart => exact ⟨0, x, rfl, Nat.zero_le _, rfl⟩
        case round =>
          obtain ⟨j, y, rfl, hj, rfl⟩ := hrel
          by_cases hlt2 : j < p.length
          · have w5 : (j : Int) < (p.length : Int) := by omega
            obtain ⟨_, _, e2, hin2, _, _⟩ := HU.out
            simp only [Value.slice.injEq, true_and] at e2
            obtain ⟨rfl, rfl⟩ := e2
            obtain ⟨b2, o2, u2, rfl, hc2, hu2⟩ := hin2 j hlt2
            obtain ⟨a3, c3, rfl, _, _, _⟩ := hu2
            generalize (p.getD j []).length = n3 at *
            clear hin2
            go_wp2_with fail
            go_round
            case rel => exact ⟨j + 1, _, by go_num, by omega, rfl⟩
            case measure => simp [intOf]; omega
          · have w5 : ¬ (j : Int) < (p.length : Int) := by omega
            go_wp2_with fail
            go_round
            case rel => exact ⟨k + 1, y, by go_num, by omega, rfl⟩
            case measure => simp [intOf]; omega
    · have hq : (decide (k < l.length) = true ∧ decide ((k : Int) < 30) = false) ∨ decide (k < l.length) = false := by
        by_cases h : k < l.length
        · exact .inl ⟨by simp only [decide_eq_true_eq]; exact h, by simp only [decide_eq_false_iff_not]; omega⟩
        · exact .inr (by simp only [decide_eq_false_iff_not]; exact h)
      have e30 : ∃ sb, decide ((l.length : Int) ≤ 30) = sb := ⟨_, rfl⟩
      obtain ⟨sb, hsb⟩ := e30
      rcases hq with ⟨q1, q2⟩ | q1
      all_goals
        cases sb
        all_goals
          go_wp2_with fail
          go_ret
          exact ⟨_, rfl, rfl⟩
end Go.Proofs.Ytegomicpolnpoaa
