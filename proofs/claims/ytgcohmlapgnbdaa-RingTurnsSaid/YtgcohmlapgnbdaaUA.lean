/- Turns: lists of passes in memory; mustBeTurns; the functions by kinds. -/
import Derived.Test.YtgcohmlapgnbdaaSA
import Derived.Laws.OwnMore
namespace Go.Proofs.Ytgcohmlapgnbdaa
open Go.RowKit Go.Shelf Go.Deep

structure Pass where
  who : Int
  kind : Int
  n : Int
def Pass.zero : Pass := ⟨0, 0, 0⟩
def pAt (l : List Pass) (i : Nat) : Pass := l.getD i Pass.zero
def PassIn (w : World) (l : List Pass) (v : Value) : Prop := ∃ a cap, v = .slice a l.length cap ∧ (∀ i, i < l.length → ∃ b off, a = some ⟨b, off, none⟩ ∧ w.cell? ⟨b, off + i * 3, none⟩ = some (.int .i64 (pAt l i).who) ∧ w.cell? ⟨b, off + i * 3 + 1, none⟩ = some (.int .i64 (pAt l i).kind) ∧ w.cell? ⟨b, off + i * 3 + 2, none⟩ = some (.int .i64 (pAt l i).n)) ∧ l.length ≤ 17592186044416 ∧ l.length ≤ cap
theorem PassIn.mono {w w' : World} (h : Same w w') {l : List Pass} {v : Value} (hc : PassIn w l v) : PassIn w' l v := by
  obtain ⟨a, cap, h1, h2, h3, h4⟩ := hc
  exact ⟨a, cap, h1, fun i hi => by obtain ⟨b, off, e, c0, c1, c2⟩ := h2 i hi; exact ⟨b, off, e, h.cell c0, h.cell c1, h.cell c2⟩, h3, h4⟩
def passB (p : Pass) : Bool := (decide (0 ≤ p.who) && decide (p.who < 2)) && ((decide (0 ≤ p.kind) && decide (p.kind < 4)) && (decide (p.kind ≠ 1) || decide (0 ≤ p.n)))
def passesB (l : List Pass) : Bool := l.all passB
theorem passB_t {p : Pass} (h : passB p = true) : (0 ≤ p.who ∧ p.who < 2) ∧ (0 ≤ p.kind ∧ p.kind < 4) ∧ (p.kind = 1 → 0 ≤ p.n) := by
  simp [passB] at h
  refine ⟨h.1, h.2.1, fun e => ?_⟩
  rcases h.2.2 with h3 | h3
  · exact absurd e h3
  · exact h3
def TurnsEnd (l : List Pass) (w : World) (e : Ending) (w' : World) : Prop := ((passesB l = true ∧ e = .returned (.tuple #[])) ∨ (passesB l = false ∧ e = .panicked (misfit 7))) ∧ Below w.heap.size w w'
set_option maxHeartbeats 2000000 in
set_option maxRecDepth 100000 in
theorem mustTurns_any (l : List Pass) (v : Value) (w : World) (hv : PassIn w l v) : Calls Try.prog 79 #[v] w (TurnsEnd l w) := by
  have HV := Lib.hid hv
  obtain ⟨a, ca, rfl, _, hal, _⟩ := hv
  have HY := Lib.hid (must_yes 7)
  have HN := Lib.hid (must_no 7)
  go_enter Try.func79, Try.ntmps79
  go_wp2_with fail
  go_loopw [6] (fun i wr => ∃ j : Nat, i = .int .i64 j ∧ j ≤ l.length ∧ (∀ k, k < j → passB (pAt l k) = true) ∧ Below w.heap.size w wr) (fun i _ => l.length - (intOf i).toNat)
  case atStart => exact ⟨0, rfl, Nat.zero_le _, fun k hk => absurd hk (Nat.not_lt_zero _), Below.refl _ _⟩
  case round =>
    obtain ⟨j, rfl, hj, hok, hb⟩ := hrel
    have HOK := Lib.hid hok
    have HB := Lib.hid hb
    clear hok hb
    by_cases hlt : j < l.length
    · have w4 : (j : Int) < (l.length : Int) := by omega
      obtain ⟨a2, c2, e2, hin, _, _⟩ := HV.out.mono (Same.of_below HB.out)
      simp only [Value.slice.injEq, true_and] at e2
      obtain ⟨rfl, rfl⟩ := e2
      obtain ⟨b, off, rfl, c0, c1, c2⟩ := hin j hlt
      obtain ⟨p, hp⟩ : ∃ p, pAt l j = p := ⟨_, rfl⟩
      rw [hp] at c0 c1 c2
      have HP := Lib.hid hp
      have HBN := Lib.hid (HB.out.alloc HB.out.size (.cells #[.int .i64 p.who, .int .i64 p.kind, .int .i64 p.n] 118))
      obtain ⟨who, kind, n⟩ := p
      dsimp only at c0 c1 c2 HBN
      clear hin hp
      have hfail : ∀ (x : World), Below w.heap.size w x → passB ⟨who, kind, n⟩ = false → TurnsEnd l w (.panicked (misfit 7)) x := fun x hx hf => ⟨.inr ⟨all_no_at' (f := passB) (d := Pass.zero) hlt (by rw [show l.getD j Pass.zero = pAt l j from rfl, HP.out]; exact hf), rfl⟩, hx⟩
      have HF := Lib.hid hfail
      clear hfail
      by_cases h1 : 0 ≤ who
      · by_cases h2 : who < 2
        · by_cases h3 : 0 ≤ kind
          · by_cases h4 : kind < 4
            · by_cases h5 : kind = 1
              · by_cases h6 : 0 ≤ n
                · have HPB : Hid (passB ⟨who, kind, n⟩ = true) := Lib.hid (by simp [passB, h1, h2, h3, h4, h6])
                  subst h5
                  go_wp2_with (go_at_call 38; (with_reducible refine (HY.out _).mono ?_); rintro e w1 ⟨rfl, rfl⟩)
                  go_roundw
                  case rel =>
                    refine ⟨j + 1, by go_num, by omega, fun k hk => ?_, HBN.out⟩
                    by_cases e : k = j
                    · subst e; rw [HP.out]; exact HPB.out
                    · exact HOK.out k (by omega)
                  case measure => simp [intOf]; omega
                · have HPB : Hid (passB ⟨who, kind, n⟩ = false) := Lib.hid (by simp [passB, h5]; intro _ _; omega)
                  have h7 : decide (0 ≤ n) = false := decide_eq_false h6
                  subst h5
                  go_wp2_with (first | (go_at_call 38; (with_reducible refine (HY.out _).mono ?_); rintro e w1 ⟨rfl, rfl⟩) | (go_at_call 38; (with_reducible refine (HN.out _).mono ?_); rintro e w1 ⟨rfl, rfl⟩))
                  exact ⟨rfl, HF.out _ HBN.out HPB.out⟩
              · have HPB : Hid (passB ⟨who, kind, n⟩ = true) := Lib.hid (by simp [passB, h1, h2, h3, h4, h5])
                have h7 : (kind != 1) = true := by simpa using h5
                go_wp2_with (go_at_call 38; (with_reducible refine (HY.out _).mono ?_); rintro e w1 ⟨rfl, rfl⟩)
                go_roundw
                case rel =>
                  refine ⟨j + 1, by go_num, by omega, fun k hk => ?_, HBN.out⟩
                  by_cases e : k = j
                  · subst e; rw [HP.out]; exact HPB.out
                  · exact HOK.out k (by omega)
                case measure => simp [intOf]; omega
            · have HPB : Hid (passB ⟨who, kind, n⟩ = false) := Lib.hid (by simp [passB]; intro _ _ _ _; omega)
              have h7 : decide (kind < 4) = false := decide_eq_false h4
              go_wp2_with (first | (go_at_call 38; (with_reducible refine (HY.out _).mono ?_); rintro e w1 ⟨rfl, rfl⟩) | (go_at_call 38; (with_reducible refine (HN.out _).mono ?_); rintro e w1 ⟨rfl, rfl⟩))
              exact ⟨rfl, HF.out _ HBN.out HPB.out⟩
          · have HPB : Hid (passB ⟨who, kind, n⟩ = false) := Lib.hid (by simp [passB]; intro _ _ _; omega)
            go_wp2_with (first | (go_at_call 38; (with_reducible refine (HY.out _).mono ?_); rintro e w1 ⟨rfl, rfl⟩) | (go_at_call 38; (with_reducible refine (HN.out _).mono ?_); rintro e w1 ⟨rfl, rfl⟩))
            exact ⟨rfl, HF.out _ HBN.out HPB.out⟩
        · have HPB : Hid (passB ⟨who, kind, n⟩ = false) := Lib.hid (by simp [passB]; intro _; omega)
          have h7 : decide (who < 2) = false := decide_eq_false h2
          go_wp2_with (go_at_call 38; (with_reducible refine (HN.out _).mono ?_); rintro e w1 ⟨rfl, rfl⟩)
          exact ⟨rfl, HF.out _ HBN.out HPB.out⟩
      · have HPB : Hid (passB ⟨who, kind, n⟩ = false) := Lib.hid (by simp [passB]; intro _; omega)
        go_wp2_with (go_at_call 38; (with_reducible refine (HN.out _).mono ?_); rintro e w1 ⟨rfl, rfl⟩)
        exact ⟨rfl, HF.out _ HBN.out HPB.out⟩
    · have w4 : ¬ (j : Int) < (l.length : Int) := by omega
      go_wp2_with fail
      go_end0
      exact ⟨.inl ⟨all_yes_of' (f := passB) (d := Pass.zero) fun k hk => HOK.out k (by omega), rfl⟩, HB.out⟩
/-- The functions by kinds. -/
def fnAt : Nat → Value
  | k => .func (.func (106 + k)) #[] #[]
def allFns : Array Value := #[fnAt 0, fnAt 1, fnAt 2, fnAt 3, fnAt 4, fnAt 5, fnAt 6, fnAt 7]
theorem Try.underlying115 : Try.prog.underlying 115 = some (.array 2 114) := by kernel_rfl
theorem Try.size115 : (Try.prog.info? 115).map (·.size) = some 8 := by kernel_rfl
set_option maxRecDepth 100000 in
theorem turns_any (w : World) : Calls Try.prog 80 #[] w fun e w' => e = .returned (.agg allFns) ∧ w' = w.alloc (.cells allFns 115) := by
  go_enter Try.func80, Try.ntmps80
  go_wp2_with fail
  refine bodyPost_ret (results_cell_row (P := Try.prog) rfl _ _ w.heap.size 115 allFns (0, 0) _ rfl (blk_alloc_new _ _) Try.underlying115 rfl Try.size115) rfl ?_
  exact ⟨rfl, rfl⟩
end Go.Proofs.Ytgcohmlapgnbdaa
