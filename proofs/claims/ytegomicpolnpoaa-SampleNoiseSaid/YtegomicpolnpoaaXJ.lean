/- The reference's level out of bytes. -/
import Derived.Test.YtegomicpolnpoaaUQ
namespace Go.Proofs.Ytegomicpolnpoaa
open Go.RowKit Go.Deep Go.Shelf

/-- The bytes from the highest on, the lowest ones first in the string. -/
def revN (s : ByteArray) (L : Nat) : Nat → Nat
  | 0 => 0
  | k + 1 => 256 * revN s L k + bytN s (L - 1 - k)
theorem revN_low (s : ByteArray) {L : Nat} (h1 : 1 ≤ L) (h4 : L ≤ 4) : revN s L L = lowN s L := by
  have : L = 1 ∨ L = 2 ∨ L = 3 ∨ L = 4 := by omega
  rcases this with rfl | rfl | rfl | rfl
  · simp [revN, lowN]
  · simp [revN, lowN]; omega
  · simp [revN, lowN]; omega
  · simp [revN, lowN]; omega
/-- Which way the reference reads an encoding's bytes. -/
def bigE (e : Nat) : Bool := decide (2 < e) && decide (e % 2 = 0)
def readN (e : Nat) (s : ByteArray) (k : Nat) : Nat := if bigE e then highN s k else revN s (wid e) k
theorem readN_succ (e : Nat) (s : ByteArray) (k : Nat) : readN e s (k + 1) = 256 * readN e s k + (if bigE e then bytN s k else bytN s (wid e - 1 - k)) := by
  unfold readN
  split
  · rw [highN, Nat.mul_comm]
  · rfl
theorem readN_lt (e : Nat) (s : ByteArray) : ∀ k, readN e s k < 256 ^ k
  | 0 => by unfold readN; split <;> simp [highN, revN]
  | k + 1 => by
    rw [readN_succ, Nat.pow_succ]
    have h1 := readN_lt e s k
    have h2 : (if bigE e then bytN s k else bytN s (wid e - 1 - k)) < 256 := by split <;> exact bytN_lt s _
    omega
theorem readN_get {e : Nat} (h1 : 1 ≤ e) (h8 : e ≤ 8) (s : ByteArray) (h2 : e ≠ 2) : signI (readN e s (wid e)) (8 * wid e) = getN e s := by
  have hw : 1 ≤ wid e ∧ wid e ≤ 4 := by unfold wid; omega
  unfold getN readN bigE
  rw [if_neg h2]
  by_cases q : 2 < e ∧ e % 2 = 0
  · rw [if_pos q, if_pos (by simp [q])]
  · rw [if_neg q, if_neg (by simpa using q), revN_low s hw.1 hw.2]
theorem sign_half {e : Nat} (h1 : 1 ≤ e) (h8 : e ≤ 8) (n : Nat) : (topN (bitsN e) + 1 ≤ (n : Int) → signI n (8 * wid e) = n - 2 * (topN (bitsN e) + 1)) ∧ ((n : Int) < topN (bitsN e) + 1 → signI n (8 * wid e) = n) := by
  have key : ∀ (k : Nat) (t : Int), (2 : Int) ^ (8 * k - 1) = t + 1 → (2 : Int) ^ (8 * k) = 2 * (t + 1) → (t + 1 ≤ (n : Int) → signI n (8 * k) = n - 2 * (t + 1)) ∧ ((n : Int) < t + 1 → signI n (8 * k) = n) := fun k t a b => by
    have hc : ((2 ^ (8 * k - 1) : Nat) : Int) = t + 1 := by rw [← a]; simp
    unfold signI
    rw [b]
    constructor
    · intro h
      rw [if_pos (by omega)]
    · intro h
      rw [if_neg (by omega)]
  refine eightN h1 h8 (p := fun e => (topN (bitsN e) + 1 ≤ (n : Int) → signI n (8 * wid e) = n - 2 * (topN (bitsN e) + 1)) ∧ ((n : Int) < topN (bitsN e) + 1 → signI n (8 * wid e) = n)) ?_ ?_ ?_ ?_ ?_ ?_ ?_ ?_
  · exact key 1 _ (by rw [show topN (bitsN 1) = 127 from topN8]; rfl) (by rw [show topN (bitsN 1) = 127 from topN8]; rfl)
  · exact key 1 _ (by rw [show topN (bitsN 2) = 127 from topN8]; rfl) (by rw [show topN (bitsN 2) = 127 from topN8]; rfl)
  · exact key 2 _ (by rw [show topN (bitsN 3) = 32767 from topN16]; rfl) (by rw [show topN (bitsN 3) = 32767 from topN16]; rfl)
  · exact key 2 _ (by rw [show topN (bitsN 4) = 32767 from topN16]; rfl) (by rw [show topN (bitsN 4) = 32767 from topN16]; rfl)
  · exact key 3 _ (by rw [show topN (bitsN 5) = 8388607 from topN24]; rfl) (by rw [show topN (bitsN 5) = 8388607 from topN24]; rfl)
  · exact key 3 _ (by rw [show topN (bitsN 6) = 8388607 from topN24]; rfl) (by rw [show topN (bitsN 6) = 8388607 from topN24]; rfl)
  · exact key 4 _ (by rw [show topN (bitsN 7) = 2147483647 from topN32]; rfl) (by rw [show topN (bitsN 7) = 2147483647 from topN32]; rfl)
  · exact key 4 _ (by rw [show topN (bitsN 8) = 2147483647 from topN32]; rfl) (by rw [show topN (bitsN 8) = 2147483647 from topN32]; rfl)

/-- The level that the reference reads. -/
def lvlR (e : Nat) (s : ByteArray) : Int := max (getN e s) (-topN (bitsN e))
set_option maxHeartbeats 2000000 in
set_option maxRecDepth 100000 in
theorem refRead_any {e : Nat} (h1 : 1 ≤ e) (h8 : e ≤ 8) (s : ByteArray) (hs : s.size = wid e) (w : World) : Calls Try.prog 88 #[.int .i64 e, .string s] w fun y w' => y = .returned (.int .i64 (lvlR e s)) ∧ Below w.heap.size w w' := by
  have hw : 1 ≤ wid e ∧ wid e ≤ 4 := by unfold wid; omega
  have HT := Lib.hid (fun X => refTop_any h1 h8 X)
  have HH := Lib.hid (fun n => sign_half h1 h8 n)
  have htp : 0 ≤ topN (bitsN e) ∧ topN (bitsN e) ≤ 2147483647 := eightN h1 h8 (p := fun e => 0 ≤ topN (bitsN e) ∧ topN (bitsN e) ≤ 2147483647) (by decide) (by decide) (by decide) (by decide) (by decide) (by decide) (by decide) (by decide)
  have HIX := Lib.hid (fun j (hj : j < wid e) X => index_byt s j (by omega) X)
  have HG := Lib.hid (fun (h2 : e ≠ 2) => readN_get h1 h8 s h2)
  have hsI : ((s.size : Nat) : Int) = (wid e : Nat) := by rw [hs]
  obtain ⟨L, hL⟩ : ∃ L, wid e = L := ⟨_, rfl⟩
  have HL := Lib.hid hL
  rw [hL] at hw hs hsI HIX
  clear hL
  go_enter Try.func88, Try.ntmps88
  go_wp2_with fail
  go_loop [5, 6] (fun n i => ∃ j : Nat, i = .int .i64 j ∧ j ≤ L ∧ n = .int .i64 (readN e s j : Nat)) (fun _ i => L - (RowKit.intOf i).toNat)
  case atStart => exact ⟨0, rfl, Nat.zero_le _, by unfold readN; split <;> rfl⟩
  case round =>
    obtain ⟨j, rfl, hj, rfl⟩ := hrel
    by_cases hlt : j < L
    · have w4 : (j : Int) < (L : Int) := by omega
      have hix := HIX.out j hlt w
      have hix2 := HIX.out (L - 1 - j) (by omega) w
      have hcast : (L : Int) - 1 - (j : Int) = ((L - 1 - j : Nat) : Int) := by omega
      have hp : 256 ^ j ≤ 16777216 := Nat.pow_le_pow_right (n := 256) (by decide) (show j ≤ 3 by omega)
      have hlt1 := readN_lt e s j
      have HN := Lib.hid (readN_succ e s j)
      have hb1 := bytN_lt s j
      have hb2 := bytN_lt s (L - 1 - j)
      have HL1 := Lib.hid (show bytN s (wid e - 1 - j) = bytN s (L - 1 - j) from by rw [HL.out])
      rw [HL1.out] at HN
      generalize bytN s j = x1 at *
      generalize bytN s (L - 1 - j) = x2 at *
      generalize readN e s j = R at *
      have hR : (R : Int) < 16777216 := by generalize 256 ^ j = yy at *; omega
      clear hp hlt1
      by_cases q : bigE e = true
      · have q1 : 2 < e ∧ e % 2 = 0 := by unfold bigE at q; simpa using q
        rw [q] at HN
        have q2 : ((e : Int) % 2 == 0) = true := by simp; omega
        have q3 : decide ((2 : Int) < (e : Int)) = true := decide_eq_true (by omega)
        clear q
        go_wp2_with fail
        go_round
        case rel => exact ⟨j + 1, by go_num, by omega, by rw [HN.out]; simp⟩
        case measure => simp [RowKit.intOf]; omega
      · have q1 : ¬ (2 < e ∧ e % 2 = 0) := by unfold bigE at q; simpa using q
        rw [if_neg q] at HN
        by_cases q4 : 2 < e
        · have q2 : ((e : Int) % 2 == 0) = false := by simp; omega
          have q3 : decide ((2 : Int) < (e : Int)) = true := decide_eq_true (by omega)
          clear q
          go_wp2_with fail
          go_round
          case rel => exact ⟨j + 1, by go_num, by omega, by rw [HN.out]; simp⟩
          case measure => simp [RowKit.intOf]; omega
        · have q3 : decide ((2 : Int) < (e : Int)) = false := decide_eq_false (by omega)
          clear q
          go_wp2_with fail
          go_round
          case rel => exact ⟨j + 1, by go_num, by omega, by rw [HN.out]; simp⟩
          case measure => simp [RowKit.intOf]; omega
    · obtain rfl : j = L := by omega
      have hlt1 := readN_lt e s j
      have hp : 256 ^ j ≤ 4294967296 := Nat.pow_le_pow_right (n := 256) (by decide) (show j ≤ 4 by omega)
      have hG2 := HG.out
      have hH := HH.out (readN e s j)
      rw [HL.out] at hG2 hH
      have hR2 : e = 2 → (readN e s j : Int) - 128 = getN e s := fun h => by
        subst h
        have hj1 : j = 1 := by rw [← HL.out]; rfl
        subst hj1
        rw [get_raised]
        show ((readN 2 s 1 : Nat) : Int) - 128 = _
        unfold readN
        simp [bigE, revN, wid]
      generalize readN e s j = R at *
      have hR : (R : Int) < 4294967296 := by generalize 256 ^ j = yy at *; omega
      clear hp hlt1
      obtain ⟨TT, hT0⟩ : ∃ TT, topN (bitsN e) = TT := ⟨_, rfl⟩
      have HE : Hid (lvlR e s = max (getN e s) (-TT)) := Lib.hid (by unfold lvlR; rw [hT0])
      rw [hT0] at hH htp HT
      clear hT0
      by_cases q : e = 2
      · have HR2 := Lib.hid (hR2 q)
        subst q
        have HT2 : Hid (∀ X, Calls Try.prog 34 #[.int .i64 2] X fun x w' => x = .returned (.int .i64 TT) ∧ Below X.heap.size X w') := Lib.hid (fun X => HT.out X)
        have hlo : -9223372036854775808 ≤ (R : Int) - 128 := by omega
        clear hG2 hH hR2
        go_wp2_with (first
            | (go_at_call 34; (with_reducible refine (HT2.out w).mono ?_); rintro y w1 ⟨rfl, hb⟩; have HB := Lib.hid hb; clear hb)
            | (go_at_call 34; (with_reducible refine (HT2.out w1).mono ?_); rintro y w2 ⟨rfl, hb⟩; have HB2 := Lib.hid hb; clear hb))
        go_ret
        exact ⟨by rw [HE.out, ← HR2.out]; rfl, Below.then HB.out (Nat.le_refl _) HB2.out⟩
      · have q1 : ((e : Int) == 2) = false := by simp; omega
        have hGG := hG2 q
        by_cases q2 : TT + 1 ≤ (R : Int)
        · have HS := Lib.hid ((hH.1 q2).symm.trans hGG)
          clear hG2 hH hR2 hGG
          go_wp2_with (first
            | (go_at_call 34; (with_reducible refine (HT.out w).mono ?_); rintro y w1 ⟨rfl, hb⟩; have HB := Lib.hid hb; clear hb)
            | (go_at_call 34; (with_reducible refine (HT.out w1).mono ?_); rintro y w2 ⟨rfl, hb⟩; have HB2 := Lib.hid hb; clear hb))
          go_ret
          exact ⟨by rw [HE.out, ← HS.out]; rfl, Below.then HB.out (Nat.le_refl _) HB2.out⟩
        · have q3 : (R : Int) < TT + 1 := Int.not_le.1 q2
          have HS := Lib.hid ((hH.2 q3).symm.trans hGG)
          have hR0 : (0 : Int) ≤ (R : Int) := Int.natCast_nonneg R
          clear q2 hG2 hH hR2 hGG
          generalize (R : Int) = RI at *
          go_wp2_with (first
            | (go_at_call 34; (with_reducible refine (HT.out w).mono ?_); rintro y w1 ⟨rfl, hb⟩; have HB := Lib.hid hb; clear hb)
            | (go_at_call 34; (with_reducible refine (HT.out w1).mono ?_); rintro y w2 ⟨rfl, hb⟩; have HB2 := Lib.hid hb; clear hb))
          go_ret
          exact ⟨by rw [HE.out, ← HS.out]; rfl, Below.then HB.out (Nat.le_refl _) HB2.out⟩
end Go.Proofs.Ytegomicpolnpoaa
