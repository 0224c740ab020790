/- Gains and times that fit: must's lists, on both sides. -/
import Derived.Test.YthfagnbecocgdaaFB
import Derived.RangeFuncCalls
import Derived.Shelf.Abstract
import Derived.Test.YthfagnbecocgdaaNB
namespace Go.Proofs.Ythfagnbecocgdaa
open Go.RowKit Go.Shelf Go.Deep

/-- The cell of a boxed variable. -/
abbrev at0 (B : Nat) : Value := .pointer (some ⟨B, 0, none⟩)
/-- What a builder gives: a number. -/
abbrev isV (v : Value) : Value → World → Prop := fun u _ => u = v
theorem makes (fn : Fn) (first cap : Array Value) (w : World) : (Instr.makeFunc fn first cap).run Try.prog w = .ok (.func fn first cap) w := rfl
def IntAns (w : World) (a k : Int) (e : Ending) (w' : World) : Prop := e = .returned (.tuple #[.int .i64 a, .int .i64 k]) ∧ Below w.heap.size w w'

def gainB (g : Int) : Bool := decide (0 ≤ g) && decide (g ≤ 655360)
theorem gainB_t {g : Int} (h : gainB g = true) : 0 ≤ g ∧ g ≤ 655360 := by simpa [gainB] using h
theorem gainB_f {g : Int} (h : gainB g = false) : g < 0 ∨ 655360 < g := by simp [gainB] at h; omega
def timeB (n : Int) : Bool := decide (0 ≤ n) && decide (n ≤ 1000000000)
theorem timeB_t {g : Int} (h : timeB g = true) : 0 ≤ g ∧ g ≤ 1000000000 := by simpa [timeB] using h
theorem timeB_f {g : Int} (h : timeB g = false) : g < 0 ∨ 1000000000 < g := by simp [timeB] at h; omega
theorem all_no_at' {α : Type} {f : α → Bool} {l : List α} {d : α} {k : Nat} (hk : k < l.length) (h : f (l.getD k d) = false) : l.all f = false := by
  cases hc : l.all f with
  | false => rfl
  | true =>
    rw [List.all_eq_true] at hc
    have := hc (l.getD k d) (by rw [List.getD_eq_getElem?_getD, List.getElem?_eq_getElem hk]; exact List.getElem_mem _)
    rw [this] at h; cases h
theorem all_yes_of' {α : Type} {f : α → Bool} {l : List α} {d : α} (h : ∀ j, j < l.length → f (l.getD j d) = true) : l.all f = true := by
  rw [List.all_eq_true]
  intro x hx
  obtain ⟨i, hi, rfl⟩ := List.getElem_of_mem hx
  have := h i hi
  simpa [List.getD, hi] using this
theorem all_at' {α : Type} {f : α → Bool} {l : List α} {d : α} (h : l.all f = true) {k : Nat} (hk : k < l.length) : f (l.getD k d) = true := by
  rw [List.all_eq_true] at h
  exact h _ (by rw [List.getD_eq_getElem?_getD, List.getElem?_eq_getElem hk]; exact List.getElem_mem _)

def allG (l : List Int) : Bool := l.all gainB
set_option maxHeartbeats 1000000 in
set_option maxRecDepth 100000 in
theorem gains_any (l : List Int) (v : Value) (w : World) (hv : RowIn w l v) : Calls Try.prog 61 #[v] w fun e w' => ((allG l = true ∧ e = .returned (.tuple #[])) ∨ (allG l = false ∧ e = .panicked (misfit 7))) ∧ w = w' := by
  obtain ⟨a, ca, rfl, hin, hal, _⟩ := hv
  have hy := must_yes 7 w
  have hn := must_no 7 w
  go_enter Try.func61, Try.ntmps61
  go_wp2_with fail
  go_loop [6] (fun i => ∃ j : Nat, i = .int .i64 j ∧ j ≤ l.length ∧ ∀ k, k < j → gainB (l.getD k 0) = true) (fun i => l.length - (intOf i).toNat)
  case atStart => exact ⟨0, rfl, Nat.zero_le _, fun k hk => absurd hk (Nat.not_lt_zero _)⟩
  case round =>
    obtain ⟨j, rfl, hj, hok⟩ := hrel
    have HOK := Lib.hid hok
    clear hok
    by_cases hlt : j < l.length
    · have w4 : (j : Int) < (l.length : Int) := by omega
      obtain ⟨ba, off, rfl, hc, _⟩ := hin j hlt
      obtain ⟨g, hg⟩ : ∃ g, l.getD j 0 = g := ⟨_, rfl⟩
      rw [hg] at hc
      have HG := Lib.hid hg
      clear hg
      by_cases h1 : 0 ≤ g
      · by_cases h2 : g ≤ 655360
        · have hgb : gainB g = true := by simp [gainB, h1, h2]
          have HGB := Lib.hid hgb
          clear hgb
          go_wp2_with (go_at_call 50; (with_reducible refine hy.mono ?_); rintro e w1 ⟨rfl, rfl⟩)
          go_round
          case rel =>
            refine ⟨j + 1, by go_num, by omega, fun k hk => ?_⟩
            by_cases e : k = j
            · subst e; rw [HG.out]; exact HGB.out
            · exact HOK.out k (by omega)
          case measure => simp [intOf]; omega
        · have hgb : gainB g = false := by simp [gainB, h2]
          have HGB := Lib.hid hgb
          clear hgb
          go_wp2_with (go_at_call 50; (with_reducible refine hn.mono ?_); rintro e w1 ⟨rfl, rfl⟩)
          exact ⟨rfl, .inr ⟨all_no_at' hlt (by rw [HG.out]; exact HGB.out), rfl⟩, rfl⟩
      · have hgb : gainB g = false := by simp [gainB, h1]
        have HGB := Lib.hid hgb
        clear hgb
        go_wp2_with (go_at_call 50; (with_reducible refine hn.mono ?_); rintro e w1 ⟨rfl, rfl⟩)
        exact ⟨rfl, .inr ⟨all_no_at' hlt (by rw [HG.out]; exact HGB.out), rfl⟩, rfl⟩
    · have w4 : ¬ (j : Int) < (l.length : Int) := by omega
      obtain rfl : j = l.length := by omega
      go_wp2_with fail
      go_end0
      exact ⟨.inl ⟨all_yes_of' HOK.out, rfl⟩, rfl⟩
theorem gains_yes {l : List Int} (h : allG l = true) (v : Value) (w : World) (hv : RowIn w l v) : Calls Try.prog 61 #[v] w fun e w' => e = .returned (.tuple #[]) ∧ w = w' :=
  (gains_any l v w hv).mono fun e w' ⟨h1, h2⟩ => ⟨h1.elim (fun p => p.2) (fun p => by have := p.1; rw [h] at this; cases this), h2⟩
theorem gains_no {l : List Int} (h : allG l = false) (v : Value) (w : World) (hv : RowIn w l v) : Calls Try.prog 61 #[v] w fun e w' => e = .panicked (misfit 7) ∧ w = w' :=
  (gains_any l v w hv).mono fun e w' ⟨h1, h2⟩ => ⟨h1.elim (fun p => by have := p.1; rw [h] at this; cases this) (fun p => p.2), h2⟩

theorem time_yes {n : Int} (h : timeB n = true) (w : World) : Calls Try.prog 62 #[.int .i64 n] w fun e w' => e = .returned (.tuple #[]) ∧ w = w' := by
  have hm := must_yes 7 w
  obtain ⟨h1, h2⟩ := timeB_t h
  clear h
  go_enter Try.func62, Try.ntmps62
  go_wp2_with (go_at_call 50; (with_reducible refine hm.mono ?_); rintro e w1 ⟨rfl, rfl⟩)
  go_end0
  exact ⟨rfl, rfl⟩
theorem time_no {n : Int} (h : timeB n = false) (w : World) : Calls Try.prog 62 #[.int .i64 n] w fun e w' => e = .panicked (misfit 7) ∧ w = w' := by
  have hm := must_no 7 w
  have h1 := timeB_f h
  clear h
  by_cases h2 : 0 ≤ n
  · have h3 : ¬ n ≤ 1000000000 := by omega
    clear h1
    go_enter Try.func62, Try.ntmps62
    go_wp2_with (go_at_call 50; (with_reducible refine hm.mono ?_); rintro e w1 ⟨rfl, rfl⟩)
    exact ⟨rfl, rfl, rfl⟩
  · clear h1
    go_enter Try.func62, Try.ntmps62
    go_wp2_with (go_at_call 50; (with_reducible refine hm.mono ?_); rintro e w1 ⟨rfl, rfl⟩)
    exact ⟨rfl, rfl, rfl⟩
theorem gain_any (g : Int) (w : World) : Calls Try.prog 75 #[.int .i64 g] w fun e w' => e = .returned (.bool (gainB g)) ∧ w = w' := by
  unfold gainB
  by_cases h1 : 0 ≤ g
  · by_cases h2 : g ≤ 655360
    · rw [show (decide (0 ≤ g) && decide (g ≤ 655360)) = true by simp [h1, h2]]
      go_enter Try.func75, Try.ntmps75
      go_wp2_with fail
      go_ret
      exact ⟨rfl, rfl⟩
    · rw [show (decide (0 ≤ g) && decide (g ≤ 655360)) = false by simp [h2]]
      go_enter Try.func75, Try.ntmps75
      go_wp2_with fail
      go_ret
      exact ⟨rfl, rfl⟩
  · rw [show (decide (0 ≤ g) && decide (g ≤ 655360)) = false by simp [h1]]
    go_enter Try.func75, Try.ntmps75
    go_wp2_with fail
    go_ret
    exact ⟨rfl, rfl⟩
end Go.Proofs.Ythfagnbecocgdaa
