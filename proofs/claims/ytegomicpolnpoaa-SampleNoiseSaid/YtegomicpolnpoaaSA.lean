/- Encodings, their bits, levels and samples: plain; the coders. -/
import Derived.Test.YtegomicpolnpoaaAA
namespace Go.Proofs.Ytegomicpolnpoaa
open Go.RowKit

theorem Below.then {B : Nat} {w w1 w2 : World} (h : Below B w w1) (hB : B ≤ w.heap.size) (h2 : Below w1.heap.size w1 w2) : Below B w w2 := h.trans (h2.mono (Nat.le_trans hB h.size))

def encB (e : Int) : Bool := decide (1 ≤ e) && decide (e ≤ 8)
theorem encB_t {n : Int} (h : encB n = true) : 1 ≤ n ∧ n ≤ 8 := by simpa [encB] using h
theorem encB_f {n : Int} (h : encB n = false) : n < 1 ∨ 8 < n := by simp [encB] at h; omega
def bitsN (e : Nat) : Nat := 8 * ((e + 1) / 2)
def topN (b : Nat) : Int := match b with | 8 => 127 | 16 => 32767 | 24 => 8388607 | _ => 2147483647
def rnd (a n : Int) : Int := if a < 0 then -((-a + n / 2) / n) else (a + n / 2) / n
def bnd (n k : Int) : Int := min (max n (-k)) k
def lvl (b : Nat) (s : Int) : Int := match b with | 8 => bnd (rnd s 65536) 127 | 16 => bnd (rnd s 256) 32767 | 24 => bnd s 8388607 | _ => bnd (s * 256) 2147483647
def smp (b : Nat) (l : Int) : Int := match b with | 8 => bnd (l * 65536) 8388607 | 16 => bnd (l * 256) 8388607 | 24 => bnd l 8388607 | _ => bnd (rnd l 256) 8388607
theorem rnd_neg (a n : Int) : rnd (-a) n = -rnd a n ∨ a = 0 := by
  unfold rnd
  by_cases h : a < 0
  · left; rw [if_neg (by omega), if_pos h]; omega
  · by_cases h0 : a = 0
    · exact .inr h0
    · left; rw [if_pos (by omega), if_neg h]; simp

/-- The coders' types and values. -/
def cdT (e : Nat) : TypeId := match e with | 2 => 120 | 4 | 6 | 8 => 121 | _ => 118
def cdX (e : Nat) : Value := match e with | 1 => .int .i64 1 | 2 => .agg #[] | 3 => .int .i64 2 | 4 => .int .i64 2 | 5 => .int .i64 3 | 6 => .int .i64 3 | _ => .int .i64 4
def cdv (e : Nat) : Value := .iface (cdT e) (cdX e)

/-- What is one of eight numbers. -/
theorem eight {e : Int} (h1 : 1 ≤ e) (h8 : e ≤ 8) {p : Int → Prop} (a1 : p 1) (a2 : p 2) (a3 : p 3) (a4 : p 4) (a5 : p 5) (a6 : p 6) (a7 : p 7) (a8 : p 8) : p e := by
  have : e = 1 ∨ e = 2 ∨ e = 3 ∨ e = 4 ∨ e = 5 ∨ e = 6 ∨ e = 7 ∨ e = 8 := by omega
  rcases this with rfl | rfl | rfl | rfl | rfl | rfl | rfl | rfl <;> assumption
theorem eightN {e : Nat} (h1 : 1 ≤ e) (h8 : e ≤ 8) {p : Nat → Prop} (a1 : p 1) (a2 : p 2) (a3 : p 3) (a4 : p 4) (a5 : p 5) (a6 : p 6) (a7 : p 7) (a8 : p 8) : p e := by
  have : e = 1 ∨ e = 2 ∨ e = 3 ∨ e = 4 ∨ e = 5 ∨ e = 6 ∨ e = 7 ∨ e = 8 := by omega
  rcases this with rfl | rfl | rfl | rfl | rfl | rfl | rfl | rfl <;> assumption

/-- The panic of what does not fit. -/
def misfit (k : Int) : List PanicEntry := [{ v := .iface 116 (.agg #[.int .i64 k]), recovered := false }]
def LeavesX (k : Int) (w : World) (e : Ending) (w' : World) : Prop := e = .panicked (misfit k) ∧ Below w.heap.size w w'

theorem must_yes (k : Int) (w : World) : Calls Try.prog 53 #[.bool true, .int .i64 k] w fun e w' => e = .returned (.tuple #[]) ∧ w = w' := by
  go_enter Try.func53, Try.ntmps53
  go_wp2_with fail
  go_end0
  exact ⟨rfl, rfl⟩
theorem must_no (k : Int) (w : World) : Calls Try.prog 53 #[.bool false, .int .i64 k] w fun e w' => e = .panicked (misfit k) ∧ w = w' := by
  go_enter Try.func53, Try.ntmps53
  go_wp2_with fail
  exact ⟨rfl, rfl, rfl⟩

set_option maxRecDepth 100000 in
theorem coder_1 (w : World) : Calls Try.prog 51 #[.int .i64 1] w fun e w' => e = .returned (cdv 1) ∧ w = w' := by
  go_enter Try.func51, Try.ntmps51
  go_wp2_with fail
  go_ret
  exact ⟨rfl, rfl⟩
set_option maxRecDepth 100000 in
theorem coder_2 (w : World) : Calls Try.prog 51 #[.int .i64 2] w fun e w' => e = .returned (cdv 2) ∧ w = w' := by
  go_enter Try.func51, Try.ntmps51
  go_wp2_with fail
  go_ret
  exact ⟨rfl, rfl⟩
set_option maxRecDepth 100000 in
theorem coder_3 (w : World) : Calls Try.prog 51 #[.int .i64 3] w fun e w' => e = .returned (cdv 3) ∧ w = w' := by
  go_enter Try.func51, Try.ntmps51
  go_wp2_with fail
  go_ret
  exact ⟨rfl, rfl⟩
set_option maxRecDepth 100000 in
theorem coder_4 (w : World) : Calls Try.prog 51 #[.int .i64 4] w fun e w' => e = .returned (cdv 4) ∧ w = w' := by
  go_enter Try.func51, Try.ntmps51
  go_wp2_with fail
  go_ret
  exact ⟨rfl, rfl⟩
set_option maxRecDepth 100000 in
theorem coder_5 (w : World) : Calls Try.prog 51 #[.int .i64 5] w fun e w' => e = .returned (cdv 5) ∧ w = w' := by
  go_enter Try.func51, Try.ntmps51
  go_wp2_with fail
  go_ret
  exact ⟨rfl, rfl⟩
set_option maxRecDepth 100000 in
theorem coder_6 (w : World) : Calls Try.prog 51 #[.int .i64 6] w fun e w' => e = .returned (cdv 6) ∧ w = w' := by
  go_enter Try.func51, Try.ntmps51
  go_wp2_with fail
  go_ret
  exact ⟨rfl, rfl⟩
set_option maxRecDepth 100000 in
theorem coder_7 (w : World) : Calls Try.prog 51 #[.int .i64 7] w fun e w' => e = .returned (cdv 7) ∧ w = w' := by
  go_enter Try.func51, Try.ntmps51
  go_wp2_with fail
  go_ret
  exact ⟨rfl, rfl⟩
set_option maxRecDepth 100000 in
theorem coder_8 (w : World) : Calls Try.prog 51 #[.int .i64 8] w fun e w' => e = .returned (cdv 8) ∧ w = w' := by
  go_enter Try.func51, Try.ntmps51
  go_wp2_with fail
  go_ret
  exact ⟨rfl, rfl⟩
set_option maxRecDepth 100000 in
theorem coder_no {n : Int} (h : encB n = false) (w : World) : Calls Try.prog 51 #[.int .i64 n] w fun e w' => e = .panicked (misfit 7) ∧ w = w' := by
  have h' := encB_f h
  have g1 : (n == 1) = false := by rw [beq_eq_false_iff_ne]; omega
  have g2 : (n == 2) = false := by rw [beq_eq_false_iff_ne]; omega
  have g3 : (n == 3) = false := by rw [beq_eq_false_iff_ne]; omega
  have g4 : (n == 4) = false := by rw [beq_eq_false_iff_ne]; omega
  have g5 : (n == 5) = false := by rw [beq_eq_false_iff_ne]; omega
  have g6 : (n == 6) = false := by rw [beq_eq_false_iff_ne]; omega
  have g7 : (n == 7) = false := by rw [beq_eq_false_iff_ne]; omega
  have g8 : (n == 8) = false := by rw [beq_eq_false_iff_ne]; omega
  clear h h'
  go_enter Try.func51, Try.ntmps51
  go_wp2_with fail
  exact ⟨rfl, rfl, rfl⟩

theorem coder_any {e : Nat} (h1 : 1 ≤ e) (h8 : e ≤ 8) (w : World) : Calls Try.prog 51 #[.int .i64 e] w fun x w' => x = .returned (cdv e) ∧ w = w' :=
  eightN h1 h8 (p := fun e => Calls Try.prog 51 #[.int .i64 e] w fun x w' => x = .returned (cdv e) ∧ w = w') (coder_1 w) (coder_2 w) (coder_3 w) (coder_4 w) (coder_5 w) (coder_6 w) (coder_7 w) (coder_8 w)

/-- A coder whose levels have b bits. -/
def IsCd (b : Nat) (T : TypeId) (x : Value) : Prop := ∃ m : FuncId, (∀ w, (method 249 T x "continuo/sample.bits").run Try.prog w = .ok (m, x) w) ∧ (∀ w, (callFunc m #[x]).run Try.prog w = .ok (.enter m #[x]) w) ∧
  ∀ w, Calls Try.prog m #[x] w fun e w' => e = .returned (.int .i64 b) ∧ Below w.heap.size w w'
theorem lesser_bits (k : Int) (h1 : 1 ≤ k) (h4 : k ≤ 4) (w : World) : Calls Try.prog 137 #[.int .i64 k] w fun e w' => e = .returned (.int .i64 (8 * k)) ∧ Below w.heap.size w w' := by
  go_enter Try.func137, Try.ntmps137
  go_wp2_with fail
  go_ret
  exact ⟨rfl, Below.refl _ _⟩
theorem greater_bits (k : Int) (h1 : 1 ≤ k) (h4 : k ≤ 4) (w : World) : Calls Try.prog 144 #[.int .i64 k] w fun e w' => e = .returned (.int .i64 (8 * k)) ∧ Below w.heap.size w w' := by
  go_enter Try.func144, Try.ntmps144
  go_wp2_with fail
  go_ret
  exact ⟨rfl, Below.refl _ _⟩
theorem raised_bits (w : World) : Calls Try.prog 141 #[.agg #[]] w fun e w' => e = .returned (.int .i64 8) ∧ Below w.heap.size w w' := by
  go_enter Try.func141, Try.ntmps141
  go_wp2_with fail
  go_ret
  exact ⟨rfl, (Below.refl _ w).alloc (Nat.le_refl _) _⟩
theorem isCd {e : Nat} (h1 : 1 ≤ e) (h8 : e ≤ 8) : IsCd (bitsN e) (cdT e) (cdX e) :=
  eightN h1 h8 (p := fun e => IsCd (bitsN e) (cdT e) (cdX e))
    ⟨137, fun _ => by kernel_rfl, fun _ => by kernel_rfl, lesser_bits 1 (by decide) (by decide)⟩
    ⟨141, fun _ => by kernel_rfl, fun _ => by kernel_rfl, raised_bits⟩
    ⟨137, fun _ => by kernel_rfl, fun _ => by kernel_rfl, lesser_bits 2 (by decide) (by decide)⟩
    ⟨144, fun _ => by kernel_rfl, fun _ => by kernel_rfl, greater_bits 2 (by decide) (by decide)⟩
    ⟨137, fun _ => by kernel_rfl, fun _ => by kernel_rfl, lesser_bits 3 (by decide) (by decide)⟩
    ⟨144, fun _ => by kernel_rfl, fun _ => by kernel_rfl, greater_bits 3 (by decide) (by decide)⟩
    ⟨137, fun _ => by kernel_rfl, fun _ => by kernel_rfl, lesser_bits 4 (by decide) (by decide)⟩
    ⟨144, fun _ => by kernel_rfl, fun _ => by kernel_rfl, greater_bits 4 (by decide) (by decide)⟩

theorem bounded_any (n k : Int) (w : World) (h0 : 0 ≤ k) (hk : k ≤ 2147483647) : Calls Try.prog 82 #[.int .i64 n, .int .i64 k] w fun e w' => e = .returned (.int .i64 (bnd n k)) ∧ w = w' := by
  unfold bnd
  go_enter Try.func82, Try.ntmps82
  go_wp2_with fail
  all_goals
    go_ret
    exact ⟨ret_int (by omega), rfl⟩
theorem within_any (n k : Int) (w : World) (h0 : 0 ≤ k) (hk : k ≤ 2147483647) : Calls Try.prog 54 #[.int .i64 n, .int .i64 k] w fun e w' => e = .returned (.bool (decide (-k ≤ n) && decide (n ≤ k))) ∧ w = w' := by
  by_cases h1 : -k ≤ n
  · by_cases h2 : n ≤ k
    · rw [show (decide (-k ≤ n) && decide (n ≤ k)) = true by simp [h1, h2]]
      go_enter Try.func54, Try.ntmps54
      go_wp2_with fail
      go_ret
      exact ⟨rfl, rfl⟩
    · rw [show (decide (-k ≤ n) && decide (n ≤ k)) = false by simp [h2]]
      go_enter Try.func54, Try.ntmps54
      go_wp2_with fail
      go_ret
      exact ⟨rfl, rfl⟩
  · rw [show (decide (-k ≤ n) && decide (n ≤ k)) = false by simp [h1]]
    go_enter Try.func54, Try.ntmps54
    go_wp2_with fail
    go_ret
    exact ⟨rfl, rfl⟩
theorem rounded_pos (a n : Int) (w : World) (h : 0 ≤ a) (hb : a ≤ 4611686018427387904) (hn : 1 ≤ n) (hn2 : n ≤ 16777216) : Calls Try.prog 75 #[.int .i64 a, .int .i64 n] w fun e w' => e = .returned (.int .i64 (rnd a n)) ∧ w = w' := by
  have e : rnd a n = (a + n / 2) / n := by unfold rnd; rw [if_neg (by omega)]
  rw [e]
  have h0 : ¬ n = 0 := by omega
  have h1 : 0 ≤ n / 2 := by omega
  have h2 : n / 2 ≤ 8388608 := by omega
  clear e
  go_enter Try.func75, Try.ntmps75
  go_wp2_with fail
  go_ret
  exact ⟨rfl, rfl⟩
theorem rnd_bd {a n : Int} (hn : 1 ≤ n) (h : 0 ≤ a) : 0 ≤ rnd a n ∧ rnd a n ≤ a + n := by
  unfold rnd
  rw [if_neg (by omega)]
  have h1 : 0 ≤ a + n / 2 := by omega
  exact ⟨Int.ediv_nonneg h1 (by omega), by have := Int.ediv_le_self n h1; omega⟩
theorem rounded_any (a n : Int) (w : World) (h : -4611686018427387904 ≤ a) (hb : a ≤ 4611686018427387904) (hn : 1 ≤ n) (hn2 : n ≤ 16777216) : Calls Try.prog 75 #[.int .i64 a, .int .i64 n] w fun e w' => e = .returned (.int .i64 (rnd a n)) ∧ w = w' := by
  by_cases h0 : 0 ≤ a
  · exact rounded_pos a n w h0 hb hn hn2
  · have hp := rounded_pos (-a) n w (by omega) (by omega) hn hn2
    have hbd := rnd_bd (a := -a) hn (by omega)
    have e : rnd a n = -rnd (-a) n := by have := rnd_neg a n; omega
    rw [e]
    obtain ⟨x, hx⟩ : ∃ x, rnd (-a) n = x := ⟨_, rfl⟩
    rw [hx] at hp hbd ⊢
    obtain ⟨hx1, hx2⟩ := hbd
    have hlt : a < 0 := by omega
    clear e hx h0
    go_enter Try.func75, Try.ntmps75
    go_wp2_with (go_at_call 75; (with_reducible refine hp.mono ?_); rintro e w1 ⟨rfl, rfl⟩)
    go_ret
    exact ⟨rfl, rfl⟩
theorem top_8 (w : World) : Calls Try.prog 58 #[.int .i64 8] w fun e w' => e = .returned (.int .i64 127) ∧ w = w' := by
  go_enter Try.func58, Try.ntmps58
  go_wp2_with fail
  go_ret
  exact ⟨rfl, rfl⟩
theorem top_16 (w : World) : Calls Try.prog 58 #[.int .i64 16] w fun e w' => e = .returned (.int .i64 32767) ∧ w = w' := by
  go_enter Try.func58, Try.ntmps58
  go_wp2_with fail
  go_ret
  exact ⟨rfl, rfl⟩
theorem top_24 (w : World) : Calls Try.prog 58 #[.int .i64 24] w fun e w' => e = .returned (.int .i64 8388607) ∧ w = w' := by
  go_enter Try.func58, Try.ntmps58
  go_wp2_with fail
  go_ret
  exact ⟨rfl, rfl⟩
theorem top_32 (w : World) : Calls Try.prog 58 #[.int .i64 32] w fun e w' => e = .returned (.int .i64 2147483647) ∧ w = w' := by
  go_enter Try.func58, Try.ntmps58
  go_wp2_with fail
  go_ret
  exact ⟨rfl, rfl⟩
set_option maxRecDepth 100000 in
theorem resc_24_8 (n : Int) (w : World) (h1 : -1099511627776 ≤ n) (h2 : n ≤ 1099511627776) : Calls Try.prog 103 #[.int .i64 n, .int .i64 24, .int .i64 8] w fun e w' => e = .returned (.int .i64 (lvl 8 n)) ∧ w = w' := by
  have hb := bounded_any (rnd n 65536) 127 w (by decide) (by decide)
  have ht := top_8 w
  have hr := rounded_any n 65536 w (by omega) (by omega) (by decide) (by decide)
  go_enter Try.func103, Try.ntmps103
  go_wp2_with (first | (go_at_call 75; (with_reducible refine hr.mono ?_); rintro e w1 ⟨rfl, rfl⟩) | (go_at_call 58; (with_reducible refine ht.mono ?_); rintro e w1 ⟨rfl, rfl⟩) | (go_at_call 82; (with_reducible refine hb.mono ?_); rintro e w1 ⟨rfl, rfl⟩))
  go_ret
  exact ⟨rfl, rfl⟩
set_option maxRecDepth 100000 in
theorem resc_24_16 (n : Int) (w : World) (h1 : -1099511627776 ≤ n) (h2 : n ≤ 1099511627776) : Calls Try.prog 103 #[.int .i64 n, .int .i64 24, .int .i64 16] w fun e w' => e = .returned (.int .i64 (lvl 16 n)) ∧ w = w' := by
  have hb := bounded_any (rnd n 256) 32767 w (by decide) (by decide)
  have ht := top_16 w
  have hr := rounded_any n 256 w (by omega) (by omega) (by decide) (by decide)
  go_enter Try.func103, Try.ntmps103
  go_wp2_with (first | (go_at_call 75; (with_reducible refine hr.mono ?_); rintro e w1 ⟨rfl, rfl⟩) | (go_at_call 58; (with_reducible refine ht.mono ?_); rintro e w1 ⟨rfl, rfl⟩) | (go_at_call 82; (with_reducible refine hb.mono ?_); rintro e w1 ⟨rfl, rfl⟩))
  go_ret
  exact ⟨rfl, rfl⟩
set_option maxRecDepth 100000 in
theorem resc_24_24 (n : Int) (w : World) (h1 : -1099511627776 ≤ n) (h2 : n ≤ 1099511627776) : Calls Try.prog 103 #[.int .i64 n, .int .i64 24, .int .i64 24] w fun e w' => e = .returned (.int .i64 (lvl 24 n)) ∧ w = w' := by
  have hb := bounded_any (n) 8388607 w (by decide) (by decide)
  have ht := top_24 w
  go_enter Try.func103, Try.ntmps103
  go_wp2_with (first | (go_at_call 75; (with_reducible refine hr.mono ?_); rintro e w1 ⟨rfl, rfl⟩) | (go_at_call 58; (with_reducible refine ht.mono ?_); rintro e w1 ⟨rfl, rfl⟩) | (go_at_call 82; (with_reducible refine hb.mono ?_); rintro e w1 ⟨rfl, rfl⟩))
  go_ret
  exact ⟨rfl, rfl⟩
set_option maxRecDepth 100000 in
theorem resc_24_32 (n : Int) (w : World) (h1 : -1099511627776 ≤ n) (h2 : n ≤ 1099511627776) : Calls Try.prog 103 #[.int .i64 n, .int .i64 24, .int .i64 32] w fun e w' => e = .returned (.int .i64 (lvl 32 n)) ∧ w = w' := by
  have hb := bounded_any (n * 256) 2147483647 w (by decide) (by decide)
  have ht := top_32 w
  go_enter Try.func103, Try.ntmps103
  go_wp2_with (first | (go_at_call 75; (with_reducible refine hr.mono ?_); rintro e w1 ⟨rfl, rfl⟩) | (go_at_call 58; (with_reducible refine ht.mono ?_); rintro e w1 ⟨rfl, rfl⟩) | (go_at_call 82; (with_reducible refine hb.mono ?_); rintro e w1 ⟨rfl, rfl⟩))
  go_ret
  exact ⟨rfl, rfl⟩
set_option maxRecDepth 100000 in
theorem resc_8_24 (n : Int) (w : World) (h1 : -1099511627776 ≤ n) (h2 : n ≤ 1099511627776) : Calls Try.prog 103 #[.int .i64 n, .int .i64 8, .int .i64 24] w fun e w' => e = .returned (.int .i64 (smp 8 n)) ∧ w = w' := by
  have hb := bounded_any (n * 65536) 8388607 w (by decide) (by decide)
  have ht := top_24 w
  go_enter Try.func103, Try.ntmps103
  go_wp2_with (first | (go_at_call 75; (with_reducible refine hr.mono ?_); rintro e w1 ⟨rfl, rfl⟩) | (go_at_call 58; (with_reducible refine ht.mono ?_); rintro e w1 ⟨rfl, rfl⟩) | (go_at_call 82; (with_reducible refine hb.mono ?_); rintro e w1 ⟨rfl, rfl⟩))
  go_ret
  exact ⟨rfl, rfl⟩
set_option maxRecDepth 100000 in
theorem resc_16_24 (n : Int) (w : World) (h1 : -1099511627776 ≤ n) (h2 : n ≤ 1099511627776) : Calls Try.prog 103 #[.int .i64 n, .int .i64 16, .int .i64 24] w fun e w' => e = .returned (.int .i64 (smp 16 n)) ∧ w = w' := by
  have hb := bounded_any (n * 256) 8388607 w (by decide) (by decide)
  have ht := top_24 w
  go_enter Try.func103, Try.ntmps103
  go_wp2_with (first | (go_at_call 75; (with_reducible refine hr.mono ?_); rintro e w1 ⟨rfl, rfl⟩) | (go_at_call 58; (with_reducible refine ht.mono ?_); rintro e w1 ⟨rfl, rfl⟩) | (go_at_call 82; (with_reducible refine hb.mono ?_); rintro e w1 ⟨rfl, rfl⟩))
  go_ret
  exact ⟨rfl, rfl⟩
set_option maxRecDepth 100000 in
theorem resc_32_24 (n : Int) (w : World) (h1 : -1099511627776 ≤ n) (h2 : n ≤ 1099511627776) : Calls Try.prog 103 #[.int .i64 n, .int .i64 32, .int .i64 24] w fun e w' => e = .returned (.int .i64 (smp 32 n)) ∧ w = w' := by
  have hb := bounded_any (rnd n 256) 8388607 w (by decide) (by decide)
  have ht := top_24 w
  have hr := rounded_any n 256 w (by omega) (by omega) (by decide) (by decide)
  go_enter Try.func103, Try.ntmps103
  go_wp2_with (first | (go_at_call 75; (with_reducible refine hr.mono ?_); rintro e w1 ⟨rfl, rfl⟩) | (go_at_call 58; (with_reducible refine ht.mono ?_); rintro e w1 ⟨rfl, rfl⟩) | (go_at_call 82; (with_reducible refine hb.mono ?_); rintro e w1 ⟨rfl, rfl⟩))
  go_ret
  exact ⟨rfl, rfl⟩

/-- The four widths. -/
theorem four {e : Nat} (h1 : 1 ≤ e) (h8 : e ≤ 8) {p : Nat → Prop} (a1 : p 8) (a2 : p 16) (a3 : p 24) (a4 : p 32) : p (bitsN e) :=
  eightN h1 h8 (p := fun e => p (bitsN e)) a1 a1 a2 a2 a3 a3 a4 a4
theorem rescL {e : Nat} (h1 : 1 ≤ e) (h8 : e ≤ 8) (n : Int) (w : World) (a : -1099511627776 ≤ n) (b : n ≤ 1099511627776) : Calls Try.prog 103 #[.int .i64 n, .int .i64 24, .int .i64 (bitsN e)] w fun x w' => x = .returned (.int .i64 (lvl (bitsN e) n)) ∧ w = w' :=
  four h1 h8 (p := fun k => Calls Try.prog 103 #[.int .i64 n, .int .i64 24, .int .i64 k] w fun x w' => x = .returned (.int .i64 (lvl k n)) ∧ w = w') (resc_24_8 n w a b) (resc_24_16 n w a b) (resc_24_24 n w a b) (resc_24_32 n w a b)
theorem smp24 (n : Int) : smp 24 n = lvl 24 n := by simp only [smp, lvl]
theorem resc_24_24s (n : Int) (w : World) (h1 : -1099511627776 ≤ n) (h2 : n ≤ 1099511627776) : Calls Try.prog 103 #[.int .i64 n, .int .i64 24, .int .i64 24] w fun e w' => e = .returned (.int .i64 (smp 24 n)) ∧ w = w' := by
  rw [smp24]
  exact resc_24_24 n w h1 h2
theorem rescS {e : Nat} (h1 : 1 ≤ e) (h8 : e ≤ 8) (n : Int) (w : World) (a : -1099511627776 ≤ n) (b : n ≤ 1099511627776) : Calls Try.prog 103 #[.int .i64 n, .int .i64 (bitsN e), .int .i64 24] w fun x w' => x = .returned (.int .i64 (smp (bitsN e) n)) ∧ w = w' :=
  four h1 h8 (p := fun k => Calls Try.prog 103 #[.int .i64 n, .int .i64 k, .int .i64 24] w fun x w' => x = .returned (.int .i64 (smp k n)) ∧ w = w') (resc_8_24 n w a b) (resc_16_24 n w a b) (resc_24_24s n w a b) (resc_32_24 n w a b)

set_option maxRecDepth 100000 in
theorem levelOf_any {e : Nat} (h1 : 1 ≤ e) (h8 : e ≤ 8) (s : Int) (w : World) (a : -1099511627776 ≤ s) (b : s ≤ 1099511627776) : Calls Try.prog 55 #[cdv e, .int .i64 s] w fun x w' => x = .returned (.int .i64 (lvl (bitsN e) s)) ∧ Below w.heap.size w w' := by
  obtain ⟨m, hm, hcf, hrun⟩ := isCd h1 h8
  have hr := rescL h1 h8 s
  have HR := Lib.hid hr
  have HRUN := Lib.hid hrun
  unfold cdv
  generalize cdT e = T at *
  generalize cdX e = X at *
  generalize bitsN e = B at *
  clear hr hrun
  go_enter Try.func55, Try.ntmps55
  go_wp2_with fail
  refine (HRUN.out _).mono ?_
  rintro x w1 ⟨rfl, hb⟩
  have HB := Lib.hid hb
  clear hb hm hcf
  go_wp2_with (go_at_call 103; (with_reducible refine (HR.out _ a b).mono ?_); rintro e w1 ⟨rfl, rfl⟩)
  go_ret
  exact ⟨rfl, HB.out⟩
set_option maxRecDepth 100000 in
theorem sampleOf_any {e : Nat} (h1 : 1 ≤ e) (h8 : e ≤ 8) (s : Int) (w : World) (a : -1099511627776 ≤ s) (b : s ≤ 1099511627776) : Calls Try.prog 59 #[cdv e, .int .i64 s] w fun x w' => x = .returned (.int .i64 (smp (bitsN e) s)) ∧ Below w.heap.size w w' := by
  obtain ⟨m, hm, hcf, hrun⟩ := isCd h1 h8
  have hr := rescS h1 h8 s
  have HR := Lib.hid hr
  have HRUN := Lib.hid hrun
  unfold cdv
  generalize cdT e = T at *
  generalize cdX e = X at *
  generalize bitsN e = B at *
  clear hr hrun
  go_enter Try.func59, Try.ntmps59
  go_wp2_with fail
  refine (HRUN.out _).mono ?_
  rintro x w1 ⟨rfl, hb⟩
  have HB := Lib.hid hb
  clear hb hm hcf
  go_wp2_with (go_at_call 103; (with_reducible refine (HR.out _ a b).mono ?_); rintro e w1 ⟨rfl, rfl⟩)
  go_ret
  exact ⟨rfl, HB.out⟩
set_option maxRecDepth 100000 in
theorem width_any {e : Nat} (h1 : 1 ≤ e) (h8 : e ≤ 8) (w : World) : Calls Try.prog 64 #[cdv e] w fun x w' => x = .returned (.int .i64 ((e + 1) / 2 : Nat)) ∧ Below w.heap.size w w' := by
  obtain ⟨m, hm, hcf, hrun⟩ := isCd h1 h8
  have HRUN := Lib.hid hrun
  unfold cdv
  generalize cdT e = T at *
  generalize cdX e = X at *
  have hW : bitsN e = 8 * ((e + 1) / 2) := rfl
  have hW2 : (e + 1) / 2 ≤ 4 := by omega
  generalize (e + 1) / 2 = W at *
  rw [hW] at HRUN
  clear hrun hW
  go_enter Try.func64, Try.ntmps64
  go_wp2_with fail
  refine (HRUN.out _).mono ?_
  rintro x w1 ⟨rfl, hb⟩
  have HB := Lib.hid hb
  clear hb hm hcf
  go_wp2_with fail
  go_ret
  exact ⟨ret_int (by omega), HB.out⟩
end Go.Proofs.Ytegomicpolnpoaa
