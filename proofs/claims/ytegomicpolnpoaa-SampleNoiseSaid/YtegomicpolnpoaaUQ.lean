/- Levels out of bytes: the program's three ways to get them. -/
import Derived.Test.YtegomicpolnpoaaUP
namespace Go.Proofs.Ytegomicpolnpoaa
open Go.RowKit Go.Deep Go.Shelf

/-- A byte of a string; numbers of bytes. -/
def bytN (s : ByteArray) (i : Nat) : Nat := if h : i < s.size then (s[i]'h).toNat else 0
theorem bytN_lt (s : ByteArray) (i : Nat) : bytN s i < 256 := by
  unfold bytN
  split
  · exact UInt8.toNat_lt _
  · decide
def lowN (s : ByteArray) : Nat → Nat
  | 0 => 0
  | k + 1 => lowN s k + bytN s k * 2 ^ (8 * k)
def highN (s : ByteArray) : Nat → Nat
  | 0 => 0
  | k + 1 => highN s k * 256 + bytN s k
theorem pow8 (k : Nat) : 2 ^ (8 * (k + 1)) = 2 ^ (8 * k) * 256 := by rw [show 8 * (k + 1) = 8 * k + 8 by omega, Nat.pow_add]
theorem lowN_lt (s : ByteArray) : ∀ k, lowN s k < 2 ^ (8 * k)
  | 0 => by simp [lowN]
  | k + 1 => by
    have h1 := lowN_lt s k
    have h2 := bytN_lt s k
    rw [lowN, pow8]
    have h3 : (bytN s k + 1) * 2 ^ (8 * k) ≤ 256 * 2 ^ (8 * k) := Nat.mul_le_mul_right _ h2
    rw [Nat.add_mul] at h3
    omega
theorem highN_lt (s : ByteArray) : ∀ k, highN s k < 2 ^ (8 * k)
  | 0 => by simp [highN]
  | k + 1 => by
    have h1 := highN_lt s k
    have h2 := bytN_lt s k
    rw [highN, pow8]
    omega
/-- Two's complement. -/
def signI (n b : Nat) : Int := if 2 ^ (b - 1) ≤ n then (n : Int) - 2 ^ b else n
/-- The level in bytes. -/
def getN (e : Nat) (s : ByteArray) : Int := if e = 2 then (bytN s 0 : Int) - 128 else if 2 < e ∧ e % 2 = 0 then signI (highN s (wid e)) (8 * wid e) else signI (lowN s (wid e)) (8 * wid e)

theorem index_byt (s : ByteArray) (j : Nat) (h : j < s.size) (w : World) : (Instr.index 9 (.string s) (.int .i64 (j : Int))).run Try.prog w = .ok (.int .u8 (bytN s j : Nat)) w := by
  rw [run_index_string w 9 s .i64 j Try.underlying9, dif_pos (by omega)]
  unfold bytN
  rw [dif_pos h]
  rfl

theorem or_low (a b i : Nat) (ha : a < 2 ^ i) (hs : a + b * 2 ^ i < 9223372036854775808) : bits BinOp.or IntKind.i64 (a : Int) ((b * 2 ^ i : Nat) : Int) = ((a + b * 2 ^ i : Nat) : Int) := by
  have e4 : bits BinOp.or IntKind.i64 (a : Int) ((b * 2 ^ i : Nat) : Int) = IntKind.i64.wrap ((BitVec.ofInt 64 (a : Int) ||| BitVec.ofInt 64 ((b * 2 ^ i : Nat) : Int)).toNat : Nat) := rfl
  have n1 : ∀ n : Nat, n < 9223372036854775808 → (BitVec.ofInt 64 (n : Int)).toNat = n := fun n hn => by
    rw [BitVec.toNat_ofInt]
    have : ((n : Int) % ((2 ^ 64 : Nat) : Int)) = n := Int.emod_eq_of_lt (by omega) (by omega)
    rw [this]; rfl
  have ho : a ||| b * 2 ^ i = a + b * 2 ^ i := by
    rw [Nat.or_comm, Nat.mul_comm, Nat.add_comm]
    exact (Nat.two_pow_add_eq_or_of_lt ha b).symm
  rw [e4, BitVec.toNat_or, n1 _ (by omega), n1 _ (by omega), ho, IntKind.wrap_i64]
  omega

set_option maxRecDepth 100000 in
theorem signed_8 (x : Int) (h0 : 0 ≤ x) (hx : x < 256) (w : World) : Calls Try.prog 140 #[.int .i64 x, .int .i64 8] w fun e w' => e = .returned (.int .i64 (if 128 ≤ x then x - 256 else x)) ∧ w = w' := by
  split
  · go_enter Try.func140, Try.ntmps140
    go_wp2_with fail
    go_ret
    exact ⟨rfl, rfl⟩
  · go_enter Try.func140, Try.ntmps140
    go_wp2_with fail
    go_ret
    exact ⟨rfl, rfl⟩
set_option maxRecDepth 100000 in
theorem signed_16 (x : Int) (h0 : 0 ≤ x) (hx : x < 65536) (w : World) : Calls Try.prog 140 #[.int .i64 x, .int .i64 16] w fun e w' => e = .returned (.int .i64 (if 32768 ≤ x then x - 65536 else x)) ∧ w = w' := by
  split
  · go_enter Try.func140, Try.ntmps140
    go_wp2_with fail
    go_ret
    exact ⟨rfl, rfl⟩
  · go_enter Try.func140, Try.ntmps140
    go_wp2_with fail
    go_ret
    exact ⟨rfl, rfl⟩
set_option maxRecDepth 100000 in
theorem signed_24 (x : Int) (h0 : 0 ≤ x) (hx : x < 16777216) (w : World) : Calls Try.prog 140 #[.int .i64 x, .int .i64 24] w fun e w' => e = .returned (.int .i64 (if 8388608 ≤ x then x - 16777216 else x)) ∧ w = w' := by
  split
  · go_enter Try.func140, Try.ntmps140
    go_wp2_with fail
    go_ret
    exact ⟨rfl, rfl⟩
  · go_enter Try.func140, Try.ntmps140
    go_wp2_with fail
    go_ret
    exact ⟨rfl, rfl⟩
set_option maxRecDepth 100000 in
theorem signed_32 (x : Int) (h0 : 0 ≤ x) (hx : x < 4294967296) (w : World) : Calls Try.prog 140 #[.int .i64 x, .int .i64 32] w fun e w' => e = .returned (.int .i64 (if 2147483648 ≤ x then x - 4294967296 else x)) ∧ w = w' := by
  split
  · go_enter Try.func140, Try.ntmps140
    go_wp2_with fail
    go_ret
    exact ⟨rfl, rfl⟩
  · go_enter Try.func140, Try.ntmps140
    go_wp2_with fail
    go_ret
    exact ⟨rfl, rfl⟩
theorem signed_any (n k : Nat) (hk1 : 1 ≤ k) (hk4 : k ≤ 4) (hn : n < 2 ^ (8 * k)) (w : World) : Calls Try.prog 140 #[.int .i64 n, .int .i64 (8 * k)] w fun e w' => e = .returned (.int .i64 (signI n (8 * k))) ∧ w = w' := by
  have hk : k = 1 ∨ k = 2 ∨ k = 3 ∨ k = 4 := by omega
  have e : ∀ (a b : Nat), (if ((a : Nat) : Int) ≤ (n : Int) then (n : Int) - ((b : Nat) : Int) else (n : Int)) = if a ≤ n then (n : Int) - ((b : Nat) : Int) else n := fun a b => by
    by_cases h : a ≤ n
    · rw [if_pos h, if_pos (by omega)]
    · rw [if_neg h, if_neg (by omega)]
  rcases hk with rfl | rfl | rfl | rfl
  · have h := signed_8 n (by omega) (Int.ofNat_lt.2 hn) w
    have e1 := e 128 256
    exact h.mono fun x w' hh => ⟨hh.1.trans (by unfold signI; rw [show ((2:Int) ^ (8 * 1)) = ((256 : Nat) : Int) from rfl, show 2 ^ (8 * 1 - 1) = 128 from rfl, ← e1]; rfl), hh.2⟩
  · have h := signed_16 n (by omega) (Int.ofNat_lt.2 hn) w
    have e1 := e 32768 65536
    exact h.mono fun x w' hh => ⟨hh.1.trans (by unfold signI; rw [show ((2:Int) ^ (8 * 2)) = ((65536 : Nat) : Int) from rfl, show 2 ^ (8 * 2 - 1) = 32768 from rfl, ← e1]; rfl), hh.2⟩
  · have h := signed_24 n (by omega) (Int.ofNat_lt.2 hn) w
    have e1 := e 8388608 16777216
    exact h.mono fun x w' hh => ⟨hh.1.trans (by unfold signI; rw [show ((2:Int) ^ (8 * 3)) = ((16777216 : Nat) : Int) from rfl, show 2 ^ (8 * 3 - 1) = 8388608 from rfl, ← e1]; rfl), hh.2⟩
  · have h := signed_32 n (by omega) (Int.ofNat_lt.2 hn) w
    have e1 := e 2147483648 4294967296
    exact h.mono fun x w' hh => ⟨hh.1.trans (by unfold signI; rw [show ((2:Int) ^ (8 * 4)) = ((4294967296 : Nat) : Int) from rfl, show 2 ^ (8 * 4 - 1) = 2147483648 from rfl, ← e1]; rfl), hh.2⟩
set_option maxRecDepth 100000 in
theorem lesser_get (k : Nat) (hk1 : 1 ≤ k) (hk4 : k ≤ 4) (s : ByteArray) (hs : k ≤ s.size) (w : World) : Calls Try.prog 138 #[.int .i64 k, .string s] w fun e w' => e = .returned (.int .i64 (signI (lowN s k) (8 * k))) ∧ Below w.heap.size w w' := by
  go_enter Try.func138, Try.ntmps138
  go_wp2_with fail
  go_loop [5, 8] (fun n i => ∃ j : Nat, i = .int .i64 j ∧ j ≤ k ∧ n = .int .i64 (lowN s j : Nat)) (fun _ i => k - (RowKit.intOf i).toNat)
  case atStart => exact ⟨0, rfl, Nat.zero_le _, rfl⟩
  case round =>
    obtain ⟨j, rfl, hj, rfl⟩ := hrel
    by_cases hlt : j < k
    · have hix := index_byt s j (by omega)
      have hb := bytN_lt s j
      have hl := lowN_lt s j
      have HN := Lib.hid (show lowN s (j + 1) = lowN s j + bytN s j * 2 ^ (8 * j) from rfl)
      generalize bytN s j = bb at *
      generalize lowN s j = LL at *
      have w4 : (j : Int) < (k : Int) := by omega
      have hp : 2 ^ (8 * (j + 1)) ≤ 4294967296 := Nat.pow_le_pow_right (n := 2) (by decide) (show 8 * (j + 1) ≤ 32 by omega)
      rw [pow8] at hp
      have hm : (bb + 1) * 2 ^ (8 * j) ≤ 256 * 2 ^ (8 * j) := Nat.mul_le_mul_right _ hb
      rw [Nat.add_mul] at hm
      have hw : wrap64 ((bb : Int) * 2 ^ (8 * j)) = ((bb * 2 ^ (8 * j) : Nat) : Int) := by
        have e : (bb : Int) * 2 ^ (8 * j) = ((bb * 2 ^ (8 * j) : Nat) : Int) := by simp
        rw [e]
        unfold wrap64
        generalize bb * 2 ^ (8 * j) = x at *
        generalize 2 ^ (8 * j) = y at *
        omega
      have HO := Lib.hid (or_low LL bb (8 * j) hl (by generalize bb * 2 ^ (8 * j) = x at *; generalize 2 ^ (8 * j) = y at *; omega))
      have HW := Lib.hid hw
      clear hw hm hp hl
      go_wp2_with fail
      go_round
      case rel => exact ⟨j + 1, by go_num, by omega, by rw [HN.out, HW.out, HO.out]⟩
      case measure => simp [RowKit.intOf]; omega
    · obtain rfl : j = k := by omega
      have HL := Lib.hid (lowN_lt s j)
      have HB := Lib.hid (lesser_bits j (by omega) (by omega) w)
      go_wp2_with (first
        | (go_at_call 137; (with_reducible refine HB.out.mono ?_); rintro e w1 ⟨rfl, hb1⟩; have HB1 := Lib.hid hb1; clear hb1)
        | (go_at_call 140; (with_reducible refine (signed_any (lowN s j) j hk1 hk4 HL.out _).mono ?_); rintro e w1 ⟨rfl, rfl⟩))
      go_ret
      exact ⟨rfl, HB1.out⟩
theorem or_high (a b : Nat) (hb : b < 256) (hs : a * 256 + b < 9223372036854775808) : bits BinOp.or IntKind.i64 ((a : Int) * 256) (b : Int) = ((a * 256 + b : Nat) : Int) := by
  have q1 : a * 256 < 9223372036854775808 := Nat.lt_of_le_of_lt (Nat.le_add_right _ _) hs
  have q2 : b < 9223372036854775808 := Nat.lt_of_le_of_lt (Nat.le_add_left _ _) hs
  have e4 : bits BinOp.or IntKind.i64 ((a : Int) * 256) (b : Int) = IntKind.i64.wrap ((BitVec.ofInt 64 ((a : Int) * 256) ||| BitVec.ofInt 64 (b : Int)).toNat : Nat) := rfl
  have n1 : ∀ n : Nat, n < 9223372036854775808 → (BitVec.ofInt 64 (n : Int)).toNat = n := fun n hn => by
    rw [BitVec.toNat_ofInt]
    have : ((n : Int) % ((2 ^ 64 : Nat) : Int)) = n := Int.emod_eq_of_lt (by omega) (by omega)
    rw [this]; rfl
  have ho : a * 256 ||| b = a * 256 + b := by
    have h := Nat.two_pow_add_eq_or_of_lt (i := 8) (by omega) a
    rw [show (2 : Nat) ^ 8 = 256 from rfl] at h
    rw [Nat.mul_comm]
    exact h.symm
  have hc : (a : Int) * 256 = ((a * 256 : Nat) : Int) := by simp
  rw [e4, hc, BitVec.toNat_or, n1 (a * 256) q1, n1 b q2, ho, IntKind.wrap_i64]
  clear ho hc n1 e4 q1 q2
  generalize a * 256 + b = z at *
  omega

set_option maxRecDepth 100000 in
theorem greater_get (k : Nat) (hk1 : 1 ≤ k) (hk4 : k ≤ 4) (s : ByteArray) (hs : k ≤ s.size) (w : World) : Calls Try.prog 145 #[.int .i64 k, .string s] w fun e w' => e = .returned (.int .i64 (signI (highN s k) (8 * k))) ∧ Below w.heap.size w w' := by
  go_enter Try.func145, Try.ntmps145
  go_wp2_with fail
  go_loop [5, 8] (fun n i => ∃ j : Nat, i = .int .i64 j ∧ j ≤ k ∧ n = .int .i64 (highN s j : Nat)) (fun _ i => k - (RowKit.intOf i).toNat)
  case atStart => exact ⟨0, rfl, Nat.zero_le _, rfl⟩
  case round =>
    obtain ⟨j, rfl, hj, rfl⟩ := hrel
    by_cases hlt : j < k
    · have hix := index_byt s j (by omega)
      have hb := bytN_lt s j
      have hl := highN_lt s j
      have HN := Lib.hid (show highN s (j + 1) = highN s j * 256 + bytN s j from rfl)
      generalize bytN s j = bb at *
      generalize highN s j = LL at *
      have w4 : (j : Int) < (k : Int) := by omega
      have hp : 2 ^ (8 * j) ≤ 16777216 := Nat.pow_le_pow_right (n := 2) (by decide) (show 8 * j ≤ 24 by omega)
      have hLL : (LL : Int) < 16777216 := by generalize 2 ^ (8 * j) = y at *; omega
      have HO := Lib.hid (or_high LL bb hb (by omega))
      clear hp hl
      go_wp2_with fail
      go_round
      case rel => exact ⟨j + 1, by go_num, by omega, by first | rw [HN.out, HO.out] | trace_state⟩
      case measure => simp [RowKit.intOf]; omega
    · obtain rfl : j = k := by omega
      have HL := Lib.hid (highN_lt s j)
      have HB := Lib.hid (greater_bits j (by omega) (by omega) w)
      go_wp2_with (first
        | (go_at_call 144; (with_reducible refine HB.out.mono ?_); rintro e w1 ⟨rfl, hb1⟩; have HB1 := Lib.hid hb1; clear hb1)
        | (go_at_call 140; (with_reducible refine (signed_any (highN s j) j hk1 hk4 HL.out _).mono ?_); rintro e w1 ⟨rfl, rfl⟩))
      go_ret
      exact ⟨rfl, HB1.out⟩
theorem raised_get (s : ByteArray) (hs : 1 ≤ s.size) (w : World) : Calls Try.prog 142 #[.agg #[], .string s] w fun e w' => e = .returned (.int .i64 ((bytN s 0 : Int) - 128)) ∧ Below w.heap.size w w' := by
  have hix : ∀ W, (Instr.index 9 (.string s) (.int .i64 0)).run Try.prog W = .ok (.int .u8 (bytN s 0 : Nat)) W := fun W => index_byt s 0 (by omega) W
  have hb := bytN_lt s 0
  generalize bytN s 0 = bb at *
  go_enter Try.func142, Try.ntmps142
  go_wp2_with fail
  go_ret
  exact ⟨rfl, (Below.refl _ w).alloc (Nat.le_refl _) _⟩

def IsGet (e : Nat) (T : TypeId) (x : Value) : Prop := ∃ m : FuncId, (∀ w, (method 249 T x "continuo/sample.get").run Try.prog w = .ok (m, x) w) ∧ (∀ w a, (callFunc m #[x, a]).run Try.prog w = .ok (.enter m #[x, a]) w) ∧ (∀ w, (nilAhead 249 T x "continuo/sample.get").run Try.prog w = .ok (some false) w) ∧
  ∀ (s : ByteArray) (w : World), wid e ≤ s.size → Calls Try.prog m #[x, .string s] w fun e' w' => e' = .returned (.int .i64 (getN e s)) ∧ Below w.heap.size w w'
theorem get_low (e : Nat) (k : Nat) (s : ByteArray) (h2 : e ≠ 2) (hg : ¬ (2 < e ∧ e % 2 = 0)) (hk : wid e = k) : getN e s = signI (lowN s k) (8 * k) := by
  unfold getN; rw [if_neg h2, if_neg hg, hk]
theorem get_high (e : Nat) (k : Nat) (s : ByteArray) (h2 : e ≠ 2) (hg : 2 < e ∧ e % 2 = 0) (hk : wid e = k) : getN e s = signI (highN s k) (8 * k) := by
  unfold getN; rw [if_neg h2, if_pos hg, hk]
theorem get_raised (s : ByteArray) : getN 2 s = (bytN s 0 : Int) - 128 := by
  unfold getN; rw [if_pos rfl]
theorem isGet {e : Nat} (h1 : 1 ≤ e) (h8 : e ≤ 8) : IsGet e (cdT e) (cdX e) :=
  eightN h1 h8 (p := fun e => IsGet e (cdT e) (cdX e))
    ⟨138, fun _ => by kernel_rfl, fun _ _ => by kernel_rfl, fun _ => by kernel_rfl, fun s w h => by rw [get_low 1 1 s (by decide) (by decide) rfl]; exact lesser_get 1 (by decide) (by decide) s h w⟩
    ⟨142, fun _ => by kernel_rfl, fun _ _ => by kernel_rfl, fun _ => by kernel_rfl, fun s w h => by rw [get_raised]; exact raised_get s h w⟩
    ⟨138, fun _ => by kernel_rfl, fun _ _ => by kernel_rfl, fun _ => by kernel_rfl, fun s w h => by rw [get_low 3 2 s (by decide) (by decide) rfl]; exact lesser_get 2 (by decide) (by decide) s h w⟩
    ⟨145, fun _ => by kernel_rfl, fun _ _ => by kernel_rfl, fun _ => by kernel_rfl, fun s w h => by rw [get_high 4 2 s (by decide) (by decide) rfl]; exact greater_get 2 (by decide) (by decide) s h w⟩
    ⟨138, fun _ => by kernel_rfl, fun _ _ => by kernel_rfl, fun _ => by kernel_rfl, fun s w h => by rw [get_low 5 3 s (by decide) (by decide) rfl]; exact lesser_get 3 (by decide) (by decide) s h w⟩
    ⟨145, fun _ => by kernel_rfl, fun _ _ => by kernel_rfl, fun _ => by kernel_rfl, fun s w h => by rw [get_high 6 3 s (by decide) (by decide) rfl]; exact greater_get 3 (by decide) (by decide) s h w⟩
    ⟨138, fun _ => by kernel_rfl, fun _ _ => by kernel_rfl, fun _ => by kernel_rfl, fun s w h => by rw [get_low 7 4 s (by decide) (by decide) rfl]; exact lesser_get 4 (by decide) (by decide) s h w⟩
    ⟨145, fun _ => by kernel_rfl, fun _ _ => by kernel_rfl, fun _ => by kernel_rfl, fun s w h => by rw [get_high 8 4 s (by decide) (by decide) rfl]; exact greater_get 4 (by decide) (by decide) s h w⟩
end Go.Proofs.Ytegomicpolnpoaa
