/- Numbers that are counters and sizes; Filled and Room on both sides. -/
import Derived.Test.YtgcohmlapgnbdaaFB
import Derived.RangeFuncCalls
import Derived.Shelf.Abstract
import Derived.Test.YtgcohmlapgnbdaaNB
namespace Go.Proofs.Ytgcohmlapgnbdaa
open Go.RowKit Go.Shelf Go.Deep

/-- The cell of a boxed variable. -/
abbrev at0 (B : Nat) : Value := .pointer (some ⟨B, 0, none⟩)
theorem makes (fn : Fn) (first cap : Array Value) (w : World) : (Instr.makeFunc fn first cap).run Try.prog w = .ok (.func fn first cap) w := rfl
def IntAns (w : World) (a k : Int) (e : Ending) (w' : World) : Prop := e = .returned (.tuple #[.int .i64 a, .int .i64 k]) ∧ Below w.heap.size w w'

def ctrB (n : Int) : Bool := decide (0 ≤ n) && decide (n ≤ 65535)
theorem ctrB_t {g : Int} (h : ctrB g = true) : 0 ≤ g ∧ g ≤ 65535 := by simpa [ctrB] using h
def pow2 : List Int := [1, 2, 4, 8, 16, 32, 64, 128, 256, 512, 1024]
def sizB (n : Int) : Bool := pow2.contains n
theorem sizB_t {n : Int} (h : sizB n = true) : 1 ≤ n ∧ n ≤ 1024 := by
  have : n ∈ pow2 := by simpa [sizB] using h
  simp [pow2] at this; omega
theorem sizB_bits : ∀ n : Nat, n < 1024 → decide (bits BinOp.and IntKind.i64 ((n : Int) + 1) (n : Int) = 0) = sizB ((n : Int) + 1) := by
  have h : ∀ n : Fin 1024, decide (bits BinOp.and IntKind.i64 ((n.1 : Int) + 1) (n.1 : Int) = 0) = sizB ((n.1 : Int) + 1) := by decide +kernel
  exact fun n hn => h ⟨n, hn⟩
theorem sizB_and {n : Int} (h1 : 1 ≤ n) (h2 : n ≤ 1024) : decide (bits BinOp.and IntKind.i64 n (n - 1) = 0) = sizB n := by
  have := sizB_bits (n - 1).toNat (by omega)
  rwa [show (((n - 1).toNat : Nat) : Int) = n - 1 by omega, show n - 1 + 1 = n by omega] at this
def aheadI (a b : Int) : Int := (a - b) % 65536

theorem mustCtr_yes {n : Int} (h : ctrB n = true) (w : World) : Calls Try.prog 39 #[.int .i64 n] w fun e w' => e = .returned (.tuple #[]) ∧ w = w' := by
  obtain ⟨h1, h2⟩ := ctrB_t h
  have hy := must_yes 7 w
  clear h
  go_enter Try.func39, Try.ntmps39
  go_wp2_with (go_at_call 38; (with_reducible refine hy.mono ?_); rintro e w1 ⟨rfl, rfl⟩)
  go_end0
  exact ⟨rfl, rfl⟩
theorem mustCtr_no {n : Int} (h : ctrB n = false) (w : World) : Calls Try.prog 39 #[.int .i64 n] w fun e w' => e = .panicked (misfit 7) ∧ w = w' := by
  have hn := must_no 7 w
  by_cases h1 : 0 ≤ n
  · have h2 : ¬ n ≤ 65535 := by simp [ctrB] at h; omega
    clear h
    go_enter Try.func39, Try.ntmps39
    go_wp2_with (go_at_call 38; (with_reducible refine hn.mono ?_); rintro e w1 ⟨rfl, rfl⟩)
    exact ⟨rfl, rfl, rfl⟩
  · clear h
    go_enter Try.func39, Try.ntmps39
    go_wp2_with (go_at_call 38; (with_reducible refine hn.mono ?_); rintro e w1 ⟨rfl, rfl⟩)
    exact ⟨rfl, rfl, rfl⟩
theorem mustSiz_yes {n : Int} (h : sizB n = true) (w : World) : Calls Try.prog 37 #[.int .i64 n] w fun e w' => e = .returned (.tuple #[]) ∧ w = w' := by
  obtain ⟨h1, h2⟩ := sizB_t h
  have hb := sizB_and h1 h2
  rw [h] at hb
  have hb2 : bits BinOp.and IntKind.i64 n (n - 1) = 0 := of_decide_eq_true hb
  have hy := must_yes 7 w
  clear h hb
  go_enter Try.func37, Try.ntmps37
  go_wp2_with (go_at_call 38; (with_reducible refine hy.mono ?_); rintro e w1 ⟨rfl, rfl⟩)
  go_end0
  exact ⟨rfl, rfl⟩
theorem mustSiz_no {n : Int} (h : sizB n = false) (w : World) : Calls Try.prog 37 #[.int .i64 n] w fun e w' => e = .panicked (misfit 7) ∧ w = w' := by
  have hn := must_no 7 w
  by_cases h1 : 1 ≤ n
  · by_cases h2 : n ≤ 1024
    · have hb := sizB_and h1 h2
      rw [h] at hb
      have hb2 : ¬ bits BinOp.and IntKind.i64 n (n - 1) = 0 := of_decide_eq_false hb
      have hb3 : (bits BinOp.and IntKind.i64 n (n - 1) == 0) = false := by simpa using hb2
      clear h hb
      go_enter Try.func37, Try.ntmps37
      go_wp2_with (go_at_call 38; (with_reducible refine hn.mono ?_); rintro e w1 ⟨rfl, rfl⟩)
      exact ⟨rfl, rfl, rfl⟩
    · clear h
      go_enter Try.func37, Try.ntmps37
      go_wp2_with (go_at_call 38; (with_reducible refine hn.mono ?_); rintro e w1 ⟨rfl, rfl⟩)
      exact ⟨rfl, rfl, rfl⟩
  · clear h
    go_enter Try.func37, Try.ntmps37
    go_wp2_with (go_at_call 38; (with_reducible refine hn.mono ?_); rintro e w1 ⟨rfl, rfl⟩)
    exact ⟨rfl, rfl, rfl⟩
theorem ahead_any (a b : Int) (w : World) : Calls Try.prog 75 #[.int .u16 a, .int .u16 b] w fun e w' => e = .returned (.int .i64 (aheadI a b)) ∧ w = w' := by
  go_enter Try.func75, Try.ntmps75
  go_wp2_with fail
  go_ret
  refine ⟨ret_int ?_, rfl⟩
  unfold aheadI
  rw [show IntKind.u16.wrap (a - b) = (a - b) % 65536 by simp [IntKind.wrap, IntKind.bits, IntKind.signed]]
  unfold wrap64
  omega
theorem counter_any (n : Int) (w : World) : Calls Try.prog 41 #[.int .i64 n] w fun e w' => e = .returned (.bool (ctrB n)) ∧ w = w' := by
  by_cases h1 : 0 ≤ n
  · by_cases h2 : n < 65536
    · rw [show ctrB n = true by simp [ctrB]; omega]
      go_enter Try.func41, Try.ntmps41
      go_wp2_with fail
      go_ret
      exact ⟨rfl, rfl⟩
    · rw [show ctrB n = false by simp [ctrB]; omega]
      go_enter Try.func41, Try.ntmps41
      go_wp2_with fail
      go_ret
      exact ⟨rfl, rfl⟩
  · rw [show ctrB n = false by simp [ctrB, h1]]
    go_enter Try.func41, Try.ntmps41
    go_wp2_with fail
    go_ret
    exact ⟨rfl, rfl⟩
/-- The document's size: a loop over the powers. -/
theorem size_any (n : Int) (w : World) : Calls Try.prog 40 #[.int .i64 n] w fun e w' => e = .returned (.bool (sizB n)) ∧ w = w' := by
  go_enter Try.func40, Try.ntmps40
  go_wp2_with fail
  go_loop [3] (fun i => ∃ j : Nat, i = .int .i64 (2 ^ j : Nat) ∧ j ≤ 11 ∧ ∀ k, k < j → n ≠ (2 ^ k : Nat)) (fun i => 2048 - (intOf i).toNat)
  case atStart => exact ⟨0, rfl, Nat.zero_le _, fun k hk => absurd hk (Nat.not_lt_zero _)⟩
  case round =>
    obtain ⟨j, rfl, hj, hok⟩ := hrel
    have HOK := Lib.hid hok
    clear hok
    by_cases hlt : j < 11
    · have hp : ((2 ^ j : Nat) : Int) ≤ 1024 ∧ 1 ≤ ((2 ^ j : Nat) : Int) ∧ sizB ((2 ^ j : Nat) : Int) = true ∧ ((2 ^ (j + 1) : Nat) : Int) = 2 * ((2 ^ j : Nat) : Int) := by
        have : j = 0 ∨ j = 1 ∨ j = 2 ∨ j = 3 ∨ j = 4 ∨ j = 5 ∨ j = 6 ∨ j = 7 ∨ j = 8 ∨ j = 9 ∨ j = 10 := by omega
        rcases this with rfl | rfl | rfl | rfl | rfl | rfl | rfl | rfl | rfl | rfl | rfl <;> decide
      obtain ⟨p1, p2, p3, p4⟩ := hp
      have HNX := Lib.hid p4
      obtain ⟨p, hpp⟩ : ∃ p, 2 ^ j = p := ⟨_, rfl⟩
      have HP := Lib.hid hpp
      rw [hpp] at p1 p2 p3 ⊢
      clear p4 hpp
      by_cases hn : (p : Int) = n
      · have hn2 : (↑p == n) = true := by simpa using hn
        have p3' : sizB n = true := by rw [← hn]; exact p3
        have P3 := Lib.hid p3'
        clear p3' p3
        go_wp2_with fail
        go_ret
        exact ⟨ret_bool P3.out.symm, rfl⟩
      · have hn2 : ((p : Int) == n) = false := by simpa using hn
        go_wp2_with fail
        go_round
        case rel =>
          refine ⟨j + 1, ?_, by omega, fun k hk => ?_⟩
          · rw [HNX.out, HP.out]
          · by_cases e : k = j
            · subst e; rw [HP.out]; exact fun h => hn h.symm
            · exact HOK.out k (by omega)
        case measure => simp [intOf]; omega
    · obtain rfl : j = 11 := by omega
      have hs : sizB n = false := by
        cases h : sizB n with
        | false => rfl
        | true =>
          have hm : n ∈ pow2 := by simpa [sizB] using h
          have := fun k hk => HOK.out k hk
          simp [pow2] at hm
          rcases hm with rfl | rfl | rfl | rfl | rfl | rfl | rfl | rfl | rfl | rfl | rfl
          · exact absurd rfl (this 0 (by decide))
          · exact absurd rfl (this 1 (by decide))
          · exact absurd rfl (this 2 (by decide))
          · exact absurd rfl (this 3 (by decide))
          · exact absurd rfl (this 4 (by decide))
          · exact absurd rfl (this 5 (by decide))
          · exact absurd rfl (this 6 (by decide))
          · exact absurd rfl (this 7 (by decide))
          · exact absurd rfl (this 8 (by decide))
          · exact absurd rfl (this 9 (by decide))
          · exact absurd rfl (this 10 (by decide))
      have HS := Lib.hid hs
      clear hs
      have w4 : ¬ ((2 ^ 11 : Nat) : Int) ≤ 1024 := by decide
      go_wp2_with fail
      go_ret
      exact ⟨ret_bool HS.out.symm, rfl⟩

theorem ahead_bd (a b : Int) : 0 ≤ aheadI a b ∧ aheadI a b < 65536 := by unfold aheadI; omega
theorem conv16 {n : Int} (h : ctrB n = true) : IntKind.u16.wrap n = n := by
  obtain ⟨h1, h2⟩ := ctrB_t h
  rw [show IntKind.u16.wrap n = n % 65536 by simp [IntKind.wrap, IntKind.bits, IntKind.signed]]
  omega
theorem int_keeps {w : World} {z : Value} {Q : Value → Int → World → Prop} {e : Ending} (h : Out z Q e (w.alloc (.cells #[.int .i64 0] 26))) {w1 : World} (hw : w1 = w.alloc (.cells #[.int .i64 0] 26)) : Keeps w.heap.size (w.alloc (.cells #[.int .i64 0] 26)) w1 ∧ Out z Q e w1 := by
  subst hw; exact ⟨⟨rfl, by simp⟩, h⟩

/-- A closure's ending: its value, or the panic of what does not fit. -/
def endOf (u : Value) (k : Int) : Ending := if k = 0 then .returned u else .panicked (misfit k)
theorem endOf_yes (u : Value) : endOf u 0 = .returned u := rfl
theorem endOf_no (u : Value) {k : Int} (h : k ≠ 0) : endOf u k = .panicked (misfit k) := if_neg h
theorem out_of {z : Value} {Q : Value → Int → World → Prop} {u : Value} {k : Int} {w : World} (h0 : k = 0 → Q u 0 w) (h1 : k ≠ 0 → Q z k w) : Out z Q (endOf u k) w := by
  by_cases h : k = 0
  · subst h; exact .inl ⟨u, rfl, h0 rfl⟩
  · exact .inr ⟨k, endOf_no u h, h1 h⟩
/-- Filled: the error, the answer. -/
def filK (a b : Int) : Int := if ctrB a && ctrB b then 0 else 7
def filR (a b : Int) : Int := if ctrB a && ctrB b then aheadI a b else 0
set_option maxRecDepth 100000 in
theorem filled1_any (a b : Int) (A B : Nat) (w : World) (ka : w.cell? ⟨A, 0, none⟩ = some (.int .i64 a)) (kb : w.cell? ⟨B, 0, none⟩ = some (.int .i64 b)) :
    Calls Try.prog 74 #[at0 A, at0 B] w fun e w' => e = endOf (.int .i64 (filR a b)) (filK a b) ∧ w' = w := by
  have hah := ahead_any a b w
  cases ha : ctrB a with
  | false =>
    have h := mustCtr_no ha w
    rw [show filK a b = 7 by simp [filK, ha], show filR a b = 0 by simp [filR, ha]]
    clear ha
    go_enter Try.func74, Try.ntmps74
    go_wp2_with (go_at_call 39; (with_reducible refine h.mono ?_); rintro e w1 ⟨rfl, rfl⟩)
    exact ⟨rfl, rfl, rfl⟩
  | true =>
    have h := mustCtr_yes ha w
    have ea := conv16 ha
    cases hb : ctrB b with
    | false =>
      have h2 := mustCtr_no hb w
      rw [show filK a b = 7 by simp [filK, hb], show filR a b = 0 by simp [filR, hb]]
      clear ha hb
      go_enter Try.func74, Try.ntmps74
      go_wp2_with (first | (go_at_call 39; (with_reducible refine h.mono ?_); rintro e w1 ⟨rfl, rfl⟩) | (go_at_call 39; (with_reducible refine h2.mono ?_); rintro e w1 ⟨rfl, rfl⟩))
      exact ⟨rfl, rfl, rfl⟩
    | true =>
      have h2 := mustCtr_yes hb w
      have eb := conv16 hb
      rw [show filK a b = 0 by simp [filK, ha, hb], show filR a b = aheadI a b by simp [filR, ha, hb]]
      clear ha hb
      go_enter Try.func74, Try.ntmps74
      go_wp2_with (first | (go_at_call 39; (with_reducible refine h.mono ?_); rintro e w1 ⟨rfl, rfl⟩) | (go_at_call 39; (with_reducible refine h2.mono ?_); rintro e w1 ⟨rfl, rfl⟩) | (go_at_call 75; (try rw [ea, eb]); (with_reducible refine hah.mono ?_); rintro e w1 ⟨rfl, rfl⟩))
      go_ret
      exact ⟨rfl, rfl⟩
end Go.Proofs.Ytgcohmlapgnbdaa
