/- Bits, Level, Sample, Size: the document's. -/
import Derived.Test.YtegomicpolnpoaaSC
import Derived.Test.YtegomicpolnpoaaCA
namespace Go.Proofs.Ytegomicpolnpoaa
open Go.RowKit

/-- An answer: a number and an error. -/
def IntAns (w : World) (n k : Int) (e : Ending) (w' : World) : Prop := e = .returned (.tuple #[.int .i64 n, .int .i64 k]) ∧ Below w.heap.size w w'
theorem encB_of {e : Nat} (h1 : 1 ≤ e) (h8 : e ≤ 8) : encB e = true := by simp [encB]; omega

set_option maxRecDepth 100000 in
theorem refLevel_no {n s : Int} (h : (encB n && (decide (-8388607 ≤ s) && decide (s ≤ 8388607))) = false) (w : World) : Calls Try.prog 13 #[.int .i64 n, .int .i64 s] w (IntAns w 0 7) := by
  cases hn : encB n with
  | false =>
    have hb := refBits_no hn w
    clear h hn
    go_enter Try.func13, Try.ntmps13
    go_wp2_with (go_at_call 11; (with_reducible refine hb.mono ?_); rintro e w1 ⟨rfl, rfl⟩)
    go_ret2
    exact ⟨rfl, Below.refl _ _⟩
  | true =>
    obtain ⟨a1, a2⟩ := encB_t hn
    obtain ⟨e, rfl⟩ : ∃ e : Nat, n = e := ⟨n.toNat, by omega⟩
    have hb := refBits_yes (e := e) (by omega) (by omega) w
    rw [hn, Bool.true_and] at h
    obtain ⟨B, hB⟩ : ∃ B, bitsN e = B := ⟨_, rfl⟩
    rw [hB] at hb
    have hs : s < -8388607 ∨ (¬ s < -8388607 ∧ 8388607 < s) := by simp at h; omega
    clear h hn hB
    rcases hs with hs | ⟨hs, hs2⟩
    · go_enter Try.func13, Try.ntmps13
      go_wp2_with (go_at_call 11; (with_reducible refine hb.mono ?_); rintro e w1 ⟨rfl, rfl⟩)
      go_ret2
      exact ⟨rfl, Below.refl _ _⟩
    · go_enter Try.func13, Try.ntmps13
      go_wp2_with (go_at_call 11; (with_reducible refine hb.mono ?_); rintro e w1 ⟨rfl, rfl⟩)
      go_ret2
      exact ⟨rfl, Below.refl _ _⟩
set_option maxRecDepth 100000 in
theorem refLevel_yes {e : Nat} (h1 : 1 ≤ e) (h8 : e ≤ 8) {s : Int} (h : okS s) (w : World) : Calls Try.prog 13 #[.int .i64 e, .int .i64 s] w (IntAns w (lvl (bitsN e) s) 0) := by
  have hb := refBits_yes h1 h8 w
  have hl := levelled_any h1 h8 s w h
  obtain ⟨a, b⟩ := h
  have a' : ¬ s < -8388607 := by omega
  have b' : ¬ 8388607 < s := by omega
  obtain ⟨L, hL⟩ : ∃ L, lvl (bitsN e) s = L := ⟨_, rfl⟩
  rw [hL] at hl ⊢
  obtain ⟨B, hB⟩ : ∃ B, bitsN e = B := ⟨_, rfl⟩
  rw [hB] at hb
  clear hL hB
  go_enter Try.func13, Try.ntmps13
  go_wp2_with (first
    | (go_at_call 11; (with_reducible refine hb.mono ?_); rintro e w1 ⟨rfl, rfl⟩)
    | (go_at_call 56; (with_reducible refine hl.mono ?_); rintro e w1 ⟨rfl, hbl⟩; have HBL := Lib.hid hbl; clear hbl))
  go_ret2
  exact ⟨rfl, HBL.out⟩
set_option maxRecDepth 100000 in
theorem refSample_no {n l : Int} (h : encB n = false ∨ ∃ e : Nat, n = e ∧ 1 ≤ e ∧ e ≤ 8 ∧ ¬ okL e l) (w : World) : Calls Try.prog 15 #[.int .i64 n, .int .i64 l] w (IntAns w 0 7) := by
  rcases h with hn | ⟨e, rfl, h1, h8, hl⟩
  · have hb := refBits_no hn w
    clear hn
    go_enter Try.func15, Try.ntmps15
    go_wp2_with (go_at_call 11; (with_reducible refine hb.mono ?_); rintro e w1 ⟨rfl, rfl⟩)
    go_ret2
    exact ⟨rfl, Below.refl _ _⟩
  · have hb := refBits_yes h1 h8 w
    have ht := refTop_any h1 h8
    have htb := topN_bd h1 h8
    unfold okL at hl
    obtain ⟨T, hT⟩ : ∃ T, topN (bitsN e) = T := ⟨_, rfl⟩
    rw [hT] at ht htb hl
    obtain ⟨B, hB⟩ : ∃ B, bitsN e = B := ⟨_, rfl⟩
    rw [hB] at hb
    obtain ⟨t1, t2⟩ := htb
    have HT := Lib.hid ht
    have hs : l < -T ∨ (¬ l < -T ∧ T < l) := by omega
    clear hl ht hT hB
    rcases hs with hs | ⟨hs, hs2⟩
    · have d1 : decide (l < -T) = true := by simpa using hs
      go_enter Try.func15, Try.ntmps15
      go_wp2_with (first
        | (go_at_call 11; (with_reducible refine hb.mono ?_); rintro e w1 ⟨rfl, rfl⟩)
        | (go_at_call 34; (with_reducible refine (HT.out _).mono ?_); rintro e w1 ⟨rfl, hb⟩; have HBW := Lib.hid hb; clear hb))
      go_ret2
      exact ⟨rfl, HBW.out⟩
    · have d1 : decide (l < -T) = false := by simpa using hs
      have d2 : decide (T < l) = true := by simpa using hs2
      go_enter Try.func15, Try.ntmps15
      go_wp2_with (first
        | (go_at_call 11; (with_reducible refine hb.mono ?_); rintro e w1 ⟨rfl, rfl⟩)
        | (go_at_call 34; (with_reducible refine (HT.out _).mono ?_); rintro e w1 ⟨rfl, hb⟩; have HBW := Lib.hid hb; clear hb))
      go_ret2
      rename_i w2 HB2
      exact ⟨rfl, Below.then HB2.out (Nat.le_refl _) HBW.out⟩
set_option maxRecDepth 100000 in
theorem refSample_yes {e : Nat} (h1 : 1 ≤ e) (h8 : e ≤ 8) {l : Int} (h : okL e l) (w : World) : Calls Try.prog 15 #[.int .i64 e, .int .i64 l] w (IntAns w (smp (bitsN e) l) 0) := by
  have hb := refBits_yes h1 h8 w
  have hl := fun w => sampled_any h1 h8 l w h
  have ht := refTop_any h1 h8
  have htb := topN_bd h1 h8
  unfold okL at h
  obtain ⟨L, hL⟩ : ∃ L, smp (bitsN e) l = L := ⟨_, rfl⟩
  rw [hL] at hl ⊢
  obtain ⟨T, hT⟩ : ∃ T, topN (bitsN e) = T := ⟨_, rfl⟩
  rw [hT] at ht htb h
  obtain ⟨B, hB⟩ : ∃ B, bitsN e = B := ⟨_, rfl⟩
  rw [hB] at hb
  obtain ⟨t1, t2⟩ := htb
  obtain ⟨a, b⟩ := h
  have a' : ¬ l < -T := by omega
  have b' : ¬ T < l := by omega
  have d1 : decide (l < -T) = false := by simpa using a'
  have d2 : decide (T < l) = false := by simpa using b'
  have HT := Lib.hid ht
  have HL := Lib.hid hl
  clear ht hl hL hB hT
  go_enter Try.func15, Try.ntmps15
  go_wp2_with (first
    | (go_at_call 11; (with_reducible refine hb.mono ?_); rintro e w1 ⟨rfl, rfl⟩)
    | (go_at_call 60; (with_reducible refine (HL.out _).mono ?_); rintro e w1 ⟨rfl, hbl⟩; have HBL := Lib.hid hbl; clear hbl)
    | (go_at_call 34; (with_reducible refine (HT.out _).mono ?_); rintro e w1 ⟨rfl, hb⟩; have HBW := Lib.hid hb; clear hb))
  go_ret2
  rename_i w2 HB2 _
  exact ⟨rfl, Below.then (Below.then HB2.out (Nat.le_refl _) HBW.out) (Nat.le_refl _) HBL.out⟩
set_option maxRecDepth 100000 in
theorem refSize_no {n c f : Int} (h : (encB n && (encB c && frB f)) = false) (w : World) : Calls Try.prog 17 #[.int .i64 n, .int .i64 c, .int .i64 f] w (IntAns w 0 7) := by
  cases hn : encB n with
  | false =>
    have hb := refBits_no hn w
    clear h hn
    go_enter Try.func17, Try.ntmps17
    go_wp2_with (go_at_call 11; (with_reducible refine hb.mono ?_); rintro e w1 ⟨rfl, rfl⟩)
    go_ret2
    exact ⟨rfl, Below.refl _ _⟩
  | true =>
    obtain ⟨a1, a2⟩ := encB_t hn
    obtain ⟨e, rfl⟩ : ∃ e : Nat, n = e := ⟨n.toNat, by omega⟩
    have hb := refBits_yes (e := e) (by omega) (by omega) w
    rw [hn, Bool.true_and] at h
    obtain ⟨B, hB⟩ : ∃ B, bitsN e = B := ⟨_, rfl⟩
    rw [hB] at hb
    have hc := ref_channels1 c w
    clear hn hB
    cases h3 : encB c with
    | false =>
      rw [h3] at hc
      clear h h3
      go_enter Try.func17, Try.ntmps17
      go_wp2_with (first
        | (go_at_call 11; (with_reducible refine hb.mono ?_); rintro e w1 ⟨rfl, rfl⟩)
        | (go_at_call 65; (with_reducible refine hc.mono ?_); rintro e w1 ⟨rfl, rfl⟩))
      go_ret2
      exact ⟨rfl, Below.refl _ _⟩
    | true =>
      rw [h3] at hc h
      rw [Bool.true_and] at h
      have hs : f < 0 ∨ (¬ f < 0 ∧ 4096 < f) := by have := frB_f h; omega
      clear h h3
      rcases hs with hs | ⟨hs, hs2⟩
      · have d1 : decide (f < 0) = true := by simpa using hs
        go_enter Try.func17, Try.ntmps17
        go_wp2_with (first
          | (go_at_call 11; (with_reducible refine hb.mono ?_); rintro e w1 ⟨rfl, rfl⟩)
          | (go_at_call 65; (with_reducible refine hc.mono ?_); rintro e w1 ⟨rfl, rfl⟩))
        go_ret2
        exact ⟨rfl, Below.refl _ _⟩
      · have d1 : decide (f < 0) = false := by simpa using hs
        have d2 : decide (4096 < f) = true := by simpa using hs2
        go_enter Try.func17, Try.ntmps17
        go_wp2_with (first
          | (go_at_call 11; (with_reducible refine hb.mono ?_); rintro e w1 ⟨rfl, rfl⟩)
          | (go_at_call 65; (with_reducible refine hc.mono ?_); rintro e w1 ⟨rfl, rfl⟩))
        go_ret2
        exact ⟨rfl, Below.refl _ _⟩
def sizeN (e : Nat) (c f : Int) : Int := c * f * ((e + 1) / 2 : Nat)
theorem size_bits {e : Nat} {c f : Int} : sizeN e c f = ((bitsN e : Int) / 8) * c * f := by
  unfold sizeN bitsN
  rw [show ((8 * ((e + 1) / 2) : Nat) : Int) / 8 = ((e + 1) / 2 : Nat) by omega]
  rw [Int.mul_comm (c * f) _, Int.mul_assoc]
theorem prod_bd {a b : Int} {A B : Int} (h0 : 0 ≤ a) (h1 : a ≤ A) (k0 : 0 ≤ b) (k1 : b ≤ B) : 0 ≤ a * b ∧ a * b ≤ A * B :=
  ⟨Int.mul_nonneg h0 k0, Int.mul_le_mul h1 k1 k0 (by omega)⟩
set_option maxRecDepth 100000 in
theorem refSize_yes {e : Nat} (h1 : 1 ≤ e) (h8 : e ≤ 8) {c f : Int} (hc : encB c = true) (hf : frB f = true) (w : World) : Calls Try.prog 17 #[.int .i64 e, .int .i64 c, .int .i64 f] w (IntAns w (sizeN e c f) 0) := by
  have hb := refBits_yes h1 h8 w
  have hcc := ref_channels1 c w
  rw [hc] at hcc
  rw [size_bits]
  obtain ⟨c1, c2⟩ := encB_t hc
  obtain ⟨f1, f2⟩ := frB_t hf
  have hB8 : 0 ≤ (bitsN e : Int) ∧ (bitsN e : Int) ≤ 32 := by unfold bitsN; omega
  obtain ⟨B, hB⟩ : ∃ B, bitsN e = B := ⟨_, rfl⟩
  rw [hB] at hb hB8 ⊢
  obtain ⟨b1, b2⟩ := hB8
  have m1 := prod_bd (a := (B : Int) / 8) (b := c) (A := 4) (B := 8) (by omega) (by omega) (by omega) (by omega)
  have m2 := prod_bd (a := (B : Int) / 8 * c) (b := f) (A := 32) (B := 4096) m1.1 m1.2 (by omega) (by omega)
  obtain ⟨m3, m4⟩ := m1
  obtain ⟨m5, m6⟩ := m2
  have g1 : ¬ f < 0 := by omega
  have g2 : ¬ 4096 < f := by omega
  have d1 : decide (f < 0) = false := by simpa using g1
  have d2 : decide (4096 < f) = false := by simpa using g2
  clear hc hf hB
  go_enter Try.func17, Try.ntmps17
  go_wp2_with (first
    | (go_at_call 11; (with_reducible refine hb.mono ?_); rintro e w1 ⟨rfl, rfl⟩)
    | (go_at_call 65; (with_reducible refine hcc.mono ?_); rintro e w1 ⟨rfl, rfl⟩))
  go_ret2
  exact ⟨rfl, Below.refl _ _⟩
end Go.Proofs.Ytegomicpolnpoaa
