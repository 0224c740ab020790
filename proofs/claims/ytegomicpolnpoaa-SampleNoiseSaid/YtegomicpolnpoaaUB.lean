/- Levels in bytes: the program's three ways to put them; a grid's places. -/
import Derived.Test.YtegomicpolnpoaaSA
import Derived.Test.YtegomicpolnpoaaBA
import Derived.Maps.AppendAt
namespace Go.Proofs.Ytegomicpolnpoaa
open Go.RowKit Go.Deep

theorem Try.siz87 : (Try.prog.info? 87).map (·.size) = some 2 := by kernel_rfl

/-- The byte of a level with i bytes below it. -/
def byB (lvl : Int) (i : Nat) : Int := lvl / 2 ^ (8 * i) % 256
/-- A row of bytes behind so many of them are put from o on. -/
def putF (F : Nat → Value) (o k : Nat) (g : Nat → Int) : Nat → Value := fun j => if o ≤ j ∧ j < o + k then .int .u8 (g (j - o)) else F j
theorem putF_zero (F : Nat → Value) (o : Nat) (g : Nat → Int) : putF F o 0 g = F := by funext j; simp [putF]; omega
theorem putF_succ (F : Nat → Value) (o k : Nat) (g : Nat → Int) : (fun j => if j = o + k then .int .u8 (g k) else putF F o k g j) = putF F o (k + 1) g := by
  funext j
  by_cases e : j = o + k
  · subst e; rw [if_pos rfl]; simp [putF]
  · rw [if_neg e]
    simp only [putF]
    by_cases h : o ≤ j ∧ j < o + k
    · rw [if_pos h, if_pos (by omega)]
    · rw [if_neg h, if_neg (by omega)]
theorem grown_set (W : World) (b i : Nat) (v : Value) : W.grownBy (W.setCell ⟨b, i, none⟩ v) (some b) :=
  ⟨rfl, rfl, rfl, by simp, fun k _ hk => blk_setCell_other _ _ _ _ (fun e => hk (by simp [e]))⟩

theorem grown_alloc (W : World) (o : Obj) (row : Option Nat) : W.grownBy (W.alloc o) row :=
  ⟨rfl, rfl, rfl, by simp, fun k hk _ => Below.heap_alloc W o k hk⟩

set_option maxRecDepth 100000 in
theorem lesser_put (k : Nat) (hk1 : 1 ≤ k) (hk4 : k ≤ 4) (lvl : Int) (hl1 : -2147483648 ≤ lvl) (hl2 : lvl ≤ 2147483647) (B n o len cap : Nat) (F : Nat → Value) (w : World) (hn : n ≤ 262144) (ho : o + k ≤ n) (hlen : k ≤ len) (hle : len ≤ n)
    (hrow : w.rowIs B 5 n F) :
    Calls Try.prog 139 #[.int .i64 k, .slice (some ⟨B, o, none⟩) len cap, .int .i64 lvl] w fun e w' => (∃ v, e = .returned v) ∧ w'.rowIs B 5 n (putF F o k (byB lvl)) ∧ w.grownBy w' (some B) := by
  go_enter Try.func139, Try.ntmps139
  go_wp2_with fail
  go_loopw [8] (fun i wr => ∃ j : Nat, i = .int .i64 j ∧ j ≤ k ∧ wr.rowIs B 5 n (putF F o j (byB lvl)) ∧ w.grownBy wr (some B)) (fun i _ => k - (intOf i).toNat)
  case atStart => exact ⟨0, rfl, Nat.zero_le _, by rw [putF_zero]; exact hrow, World.grownBy.refl _ _⟩
  case round =>
    obtain ⟨j, rfl, hj, hr, hg⟩ := hrel
    by_cases hlt : j < k
    · have hfz := hr.frozen (o + j)
      have hcell := hr.cell (i := o + j) (by omega)
      have w4 : (j : Int) < (k : Int) := by omega
      have w5 : decide (j < len) = true := decide_eq_true (by omega)
      have w6 : decide ((j : Int) < (len : Int)) = true := decide_eq_true (by omega)
      have HR := Lib.hid hr
      have HG := Lib.hid hg
      clear hr hg
      go_wp2_with fail
      go_roundw
      case rel => exact ⟨j + 1, by go_num, by omega, by rw [← putF_succ]; exact HR.out.set _ _, HG.out.trans (grown_set _ _ _ _)⟩
      case measure => simp [intOf]; omega
    · obtain rfl : j = k := by omega
      have HR := Lib.hid hr
      have HG := Lib.hid hg
      clear hr hg
      go_wp2_with fail
      go_end0
      exact ⟨⟨_, rfl⟩, HR.out, HG.out⟩

theorem greater_bits' (k : Int) (h1 : 1 ≤ k) (h4 : k ≤ 4) (w : World) : Calls Try.prog 144 #[.int .i64 k] w fun e w' => e = .returned (.int .i64 (8 * k)) ∧ w = w' := by
  go_enter Try.func144, Try.ntmps144
  go_wp2_with fail
  go_ret
  exact ⟨rfl, rfl⟩
theorem back {k j : Nat} (h : j < k) {lvl : Int} : lvl / 2 ^ (8 * k - 8 * (j + 1)) % 256 = byB lvl (k - 1 - j) := by
  unfold byB
  rw [show 8 * k - 8 * (j + 1) = 8 * (k - 1 - j) by omega]
set_option maxRecDepth 100000 in
theorem greater_put (k : Nat) (hk1 : 1 ≤ k) (hk4 : k ≤ 4) (lvl : Int) (hl1 : -2147483648 ≤ lvl) (hl2 : lvl ≤ 2147483647) (B n o len cap : Nat) (F : Nat → Value) (w : World) (hn : n ≤ 262144) (ho : o + k ≤ n) (hlen : k ≤ len) (hle : len ≤ n)
    (hrow : w.rowIs B 5 n F) :
    Calls Try.prog 146 #[.int .i64 k, .slice (some ⟨B, o, none⟩) len cap, .int .i64 lvl] w fun e w' => (∃ v, e = .returned v) ∧ w'.rowIs B 5 n (putF F o k (fun i => byB lvl (k - 1 - i))) ∧ w.grownBy w' (some B) := by
  go_enter Try.func146, Try.ntmps146
  go_wp2_with fail
  go_loopw [8] (fun i wr => ∃ j : Nat, i = .int .i64 j ∧ j ≤ k ∧ wr.rowIs B 5 n (putF F o j (fun i => byB lvl (k - 1 - i))) ∧ w.grownBy wr (some B)) (fun i _ => k - (intOf i).toNat)
  case atStart => exact ⟨0, rfl, Nat.zero_le _, by rw [putF_zero]; exact hrow, World.grownBy.refl _ _⟩
  case round =>
    obtain ⟨j, rfl, hj, hr, hg⟩ := hrel
    by_cases hlt : j < k
    · have hfz := hr.frozen (o + j)
      have hcell := hr.cell (i := o + j) (by omega)
      have w4 : (j : Int) < (k : Int) := by omega
      have w5 : decide (j < len) = true := decide_eq_true (by omega)
      have w6 : decide ((j : Int) < (len : Int)) = true := decide_eq_true (by omega)
      have HR := Lib.hid hr
      have HG := Lib.hid hg
      have hbt := greater_bits' k (by omega) (by omega) wr
      clear hr hg
      go_wp2_with (go_at_call 144; (with_reducible refine hbt.mono ?_); rintro e w1 ⟨rfl, rfl⟩)
      go_roundw
      case rel => exact ⟨j + 1, by go_num, by omega, by rw [← putF_succ, ← back hlt]; exact HR.out.set _ _, HG.out.trans (grown_set _ _ _ _)⟩
      case measure => simp [intOf]; omega
    · obtain rfl : j = k := by omega
      have HR := Lib.hid hr
      have HG := Lib.hid hg
      clear hr hg
      go_wp2_with fail
      go_end0
      exact ⟨⟨_, rfl⟩, HR.out, HG.out⟩

set_option maxRecDepth 100000 in
theorem raised_put (lvl : Int) (hl1 : -2147483648 ≤ lvl) (hl2 : lvl ≤ 2147483647) (B n o len cap : Nat) (F : Nat → Value) (w : World) (hn : n ≤ 262144) (ho : o + 1 ≤ n) (hlen : 1 ≤ len) (hle : len ≤ n)
    (hrow : w.rowIs B 5 n F) :
    Calls Try.prog 143 #[.agg #[], .slice (some ⟨B, o, none⟩) len cap, .int .i64 lvl] w fun e w' => (∃ v, e = .returned v) ∧ w'.rowIs B 5 n (putF F o 1 (byB (lvl + 128))) ∧ w.grownBy w' (some B) := by
  have hfz : ∀ Z, (w.alloc Z).frozen? ⟨B, o, none⟩ = false := fun Z => (hrow.alloc Z).frozen o
  have hcell : ∀ Z, (w.alloc Z).cell? ⟨B, o, none⟩ = some (F o) := fun Z => (hrow.alloc Z).cell (by omega)
  have w5 : 0 < len := by omega
  have HR := Lib.hid hrow
  clear hrow
  go_enter Try.func143, Try.ntmps143
  go_wp2_with fail
  go_end0
  refine ⟨⟨_, rfl⟩, ?_, (grown_alloc _ _ _).trans (grown_set _ _ _ _)⟩
  have e := putF_succ F o 0 (byB (lvl + 128))
  rw [putF_zero, Nat.add_zero] at e
  rw [← e]
  have h := (HR.out.alloc (.cells #[] 120)).set o (.int .u8 ((lvl + 128) % 256))
  refine h.congr fun i _ => ?_
  simp [byB]

set_option maxRecDepth 100000 in
theorem place_any (r c x y : Nat) (p : Bool) (hr : r ≤ 8) (hc : c ≤ 4096) (hx : x < r) (hy : y < c) (w : World) :
    Calls Try.prog 83 #[.agg #[.int .i64 r, .int .i64 c], .agg #[.int .i64 x, .int .i64 y], .bool p] w fun e w' => e = .returned (.int .i64 ((if p then x * c + y else y * r + x : Nat) : Int)) ∧ Below w.heap.size w w' := by
  have a1 : (x : Int) * (c : Int) ≤ 32768 := by
    calc (x : Int) * (c : Int) ≤ 8 * (c : Int) := Int.mul_le_mul_of_nonneg_right (by omega) (by omega)
      _ ≤ 32768 := by omega
  have a2 : (y : Int) * (r : Int) ≤ 32768 := by
    calc (y : Int) * (r : Int) ≤ (y : Int) * 8 := Int.mul_le_mul_of_nonneg_left (by omega) (by omega)
      _ ≤ 32768 := by omega
  have a3 : 0 ≤ (x : Int) * (c : Int) := Int.mul_nonneg (by omega) (by omega)
  have a4 : 0 ≤ (y : Int) * (r : Int) := Int.mul_nonneg (by omega) (by omega)
  cases p
  all_goals
    go_enter Try.func83, Try.ntmps83
    go_wp2_with fail
    go_ret
    exact ⟨by simp, ((Below.refl _ w).alloc (Nat.le_refl _) _).alloc (by simp) _⟩

set_option maxRecDepth 100000 in
/-- The grid of a block. -/
theorem gridOf_any {w : World} {m : List (List Int)} {v : Value} (h : MatIn w m v) (h1 : 1 ≤ m.length) (hr : m.length ≤ 8) (hc : (m.getD 0 []).length ≤ 4096) :
    Calls Try.prog 109 #[v] w fun e w' => e = .returned (.agg #[.int .i64 m.length, .int .i64 (m.getD 0 []).length]) ∧ Below w.heap.size w w' := by
  obtain ⟨a, cap, rfl, hrows, hml, hmc⟩ := h
  obtain ⟨b, off, u, rfl, hcu, hru⟩ := hrows 0 (by omega)
  obtain ⟨a', cap', rfl, hints, hl1, hl2⟩ := hru
  rw [Nat.add_zero] at hcu
  generalize hk : (m.getD 0 []).length = c at *
  have w5 : 0 < m.length := by omega
  have hcu' : ∀ Z, (w.alloc Z).cell? ⟨b, off, none⟩ = some (.slice a' c cap') := fun Z => (Same.alloc _ Z).cell hcu
  clear hrows hints hcu hk
  go_enter Try.func109, Try.ntmps109
  go_wp2_with fail
  have q1 : (w.alloc (.cells #[.int .i64 m.length, .int .i64 c] 87)).heap[w.heap.size]? = some (.cells #[.int .i64 m.length, .int .i64 c] 87) := blk_alloc_new _ _
  refine bodyPost_ret (results_cell_row (P := Try.prog) rfl _ _ w.heap.size 87 _ (0, 0) _ rfl q1 Try.underlying87 rfl Try.siz87) rfl ?_
  exact ⟨rfl, (Below.refl _ w).alloc (Nat.le_refl _) _⟩

/-- How many bytes a level takes; its byte number i. -/
def wid (e : Nat) : Nat := (e + 1) / 2
def by8 (e : Nat) (lvl : Int) (i : Nat) : Int := if e = 2 then byB (lvl + 128) i else if 2 < e ∧ e % 2 = 0 then byB lvl (wid e - 1 - i) else byB lvl i

def IsPut (e : Nat) (T : TypeId) (x : Value) : Prop := ∃ m : FuncId, (∀ w, (method 249 T x "continuo/sample.put").run Try.prog w = .ok (m, x) w) ∧ (∀ w a b, (callFunc m #[x, a, b]).run Try.prog w = .ok (.enter m #[x, a, b]) w) ∧
  ∀ (lvl : Int) (B n o len cap : Nat) (F : Nat → Value) (w : World), -2147483648 ≤ lvl → lvl ≤ 2147483647 → n ≤ 262144 → o + wid e ≤ n → wid e ≤ len → len ≤ n → w.rowIs B 5 n F →
    Calls Try.prog m #[x, .slice (some ⟨B, o, none⟩) len cap, .int .i64 lvl] w fun e' w' => (∃ v, e' = .returned v) ∧ w'.rowIs B 5 n (putF F o (wid e) (by8 e lvl)) ∧ w.grownBy w' (some B)
theorem isPut {e : Nat} (h1 : 1 ≤ e) (h8 : e ≤ 8) : IsPut e (cdT e) (cdX e) :=
  eightN h1 h8 (p := fun e => IsPut e (cdT e) (cdX e))
    ⟨139, fun _ => by kernel_rfl, fun _ _ _ => by kernel_rfl, fun lvl B n o len cap F w a b c d e f g => lesser_put 1 (by decide) (by decide) lvl a b B n o len cap F w c d e f g⟩
    ⟨143, fun _ => by kernel_rfl, fun _ _ _ => by kernel_rfl, fun lvl B n o len cap F w a b c d e f g => raised_put lvl a b B n o len cap F w c d e f g⟩
    ⟨139, fun _ => by kernel_rfl, fun _ _ _ => by kernel_rfl, fun lvl B n o len cap F w a b c d e f g => lesser_put 2 (by decide) (by decide) lvl a b B n o len cap F w c d e f g⟩
    ⟨146, fun _ => by kernel_rfl, fun _ _ _ => by kernel_rfl, fun lvl B n o len cap F w a b c d e f g => greater_put 2 (by decide) (by decide) lvl a b B n o len cap F w c d e f g⟩
    ⟨139, fun _ => by kernel_rfl, fun _ _ _ => by kernel_rfl, fun lvl B n o len cap F w a b c d e f g => lesser_put 3 (by decide) (by decide) lvl a b B n o len cap F w c d e f g⟩
    ⟨146, fun _ => by kernel_rfl, fun _ _ _ => by kernel_rfl, fun lvl B n o len cap F w a b c d e f g => greater_put 3 (by decide) (by decide) lvl a b B n o len cap F w c d e f g⟩
    ⟨139, fun _ => by kernel_rfl, fun _ _ _ => by kernel_rfl, fun lvl B n o len cap F w a b c d e f g => lesser_put 4 (by decide) (by decide) lvl a b B n o len cap F w c d e f g⟩
    ⟨146, fun _ => by kernel_rfl, fun _ _ _ => by kernel_rfl, fun lvl B n o len cap F w a b c d e f g => greater_put 4 (by decide) (by decide) lvl a b B n o len cap F w c d e f g⟩
end Go.Proofs.Ytegomicpolnpoaa
