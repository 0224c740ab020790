/- SampleBlocks' law, where nothing is read back. -/
import Derived.Test.YtegomicpolnpoaaUT
import Derived.Test.YtegomicpolnpoaaUP
import Derived.Test.YtegomicpolnpoaaVC
import Derived.Test.YtegomicpolnpoaaJA
namespace Go.Proofs.Ytegomicpolnpoaa
open Go.RowKit Go.Deep Go.Shelf

theorem refEncode_any (n : Int) (p : Bool) (m : List (List Int)) (v : Value) (w : World) (hM : MatIn w m v) : Calls Try.prog 21 #[.int .i64 n, .bool p, v] w (StrAns w (encA n p m)) := by
  unfold StrAns encA
  by_cases hv : validB m = true
  · rw [if_pos hv]
    by_cases hn : encB n = true
    · rw [if_pos hn]
      obtain ⟨e1, e2⟩ := encB_t hn
      obtain ⟨e, rfl⟩ : ∃ e : Nat, n = e := ⟨n.toNat, by omega⟩
      rw [Int.toNat_natCast]
      obtain ⟨hr1, hr8, hc4, hc⟩ := validB_parts hv
      exact refEncode_yes (by omega) (by omega) p m v w hM hv hr1 hr8 (cols m) hc hc4 (validB_smp hv)
    · rw [if_neg hn]
      exact refEncode_range n (by simpa using hn) p m v w hM hv
  · rw [if_neg hv]
    exact refEncode_invalid n p m v w hM (by simpa using hv)

set_option maxRecDepth 100000 in
theorem above_big (n : Int) (h1 : -1099511627776 ≤ n) (h2 : n ≤ 1099511627776) (w : World) : Calls Try.prog 28 #[.int .i64 n] w fun e w' => e = .returned (.int .i64 (max n (-n))) ∧ w = w' := by
  go_enter Try.func28, Try.ntmps28
  go_wp2_with fail
  go_ret
  exact ⟨rfl, rfl⟩

/-- What the law hears of both sides. -/
structure Both (w : World) (n : Int) (p : Bool) (v : Value) (A : ByteArray × Int) (P Q : List Int) (kp : Int) : Prop where
  a : ∀ X, Below w.heap.size w X → Calls Try.prog 20 #[.int .i64 n, .bool p, v] X (StrAns X A)
  b : ∀ X, Below w.heap.size w X → Calls Try.prog 21 #[.int .i64 n, .bool p, v] X (StrAns X A)
  c : ∀ X, Below w.heap.size w X → Calls Try.prog 22 #[v] X (RowsTold X P kp)
  d : ∀ X, Below w.heap.size w X → Calls Try.prog 23 #[v] X (RowsTold X P kp)
  e : ∀ X, Below w.heap.size w X → Calls Try.prog 24 #[v] X (RowsTold X Q kp)
  f : ∀ X, Below w.heap.size w X → Calls Try.prog 25 #[v] X (RowsTold X Q kp)
theorem both_any (n : Int) (p : Bool) (m : List (List Int)) (v : Value) (w : World) (hM : MatIn w m v) : Both w n p v (encA n p m) (toldOf pk m) (toldOf pw m) (toldE m) :=
  ⟨fun X h => encode_any n p m v X (hM.mono (Same.of_below h)), fun X h => refEncode_any n p m v X (hM.mono (Same.of_below h)), fun X h => peak_any m v X (hM.mono (Same.of_below h)), fun X h => refPeak_any m v X (hM.mono (Same.of_below h)),
    fun X h => power_any m v X (hM.mono (Same.of_below h)), fun X h => refPower_any m v X (hM.mono (Same.of_below h))⟩
theorem sameRow_self (l : List Int) (u v : Value) (w : World) (hu : RowIn w l u) (hv : RowIn w l v) : Calls Try.prog 26 #[u, v] w fun e w' => e = .returned (.bool true) ∧ Below w.heap.size w w' := by
  have := sameRow_any l l u v w hu hv
  rwa [show decide (l = l) = true by simp] at this

set_option maxHeartbeats 4000000 in
set_option maxRecDepth 100000 in
theorem blocks_none (n : Int) (p : Bool) (m : List (List Int)) (v : Value) (w : World) (hM : MatIn w m v) (S : ByteArray) (k : Int) (P Q : List Int) (kp : Int) (hB : Both w n p v (S, k) P Q kp) (hk : k = 1 ∨ k = 7) :
    Calls Try.prog 4 #[.int .i64 n, .bool p, v] w fun e w' => e = .returned (.bool true) ∧ Below w.heap.size w w' := by
  have h19 := light_any m v w hM
  obtain ⟨a, ca, rfl, _, hal, _⟩ := id hM
  have HA := Lib.hid hB.a
  have HBb := Lib.hid hB.b
  have HC := Lib.hid hB.c
  have HD := Lib.hid hB.d
  have HE := Lib.hid hB.e
  have HF := Lib.hid hB.f
  have HSR := Lib.hid sameRow_self
  have HAW := Lib.hid awake_any
  have hk0 : (k != 0) = true := by rcases hk with rfl | rfl <;> rfl
  unfold StrAns at HA HBb
  unfold RowsTold at HC HD HE HF
  dsimp only at HA HBb
  clear hM hB hk
  go_enter Try.func4, Try.ntmps4
  go_wp2_with (go_at_call 19; (with_reducible refine h19.mono ?_); rintro e w1 ⟨sb, rfl, rfl⟩; cases sb)
  · go_wp2_with (go_at_call 18; (with_reducible refine (HAW.out _).mono ?_); rintro e wz ⟨rfl, hbz⟩; have HZ := Lib.hid hbz; clear hbz)
    go_ret
    exact ⟨rfl, HZ.out⟩
  · go_wp2_with (first
      | (go_at_call 20; (with_reducible refine (HA.out _ (Below.refl _ _)).mono ?_); rintro e w1 ⟨rfl, hb⟩; have B1 := Lib.hid hb; clear hb)
      | (go_at_call 21; (with_reducible refine (HBb.out _ B1.out).mono ?_); rintro e w2 ⟨rfl, hb⟩; have B2 := Lib.hid (Below.then B1.out (Nat.le_refl _) hb); clear hb)
      | (go_at_call 22; (with_reducible refine (HC.out _ B2.out).mono ?_); rintro e w3 ⟨pu, rfl, hr, hb⟩; have B3 := Lib.hid (Below.then B2.out (Nat.le_refl _) hb); have R3 := Lib.hid hr; clear hb hr)
      | (go_at_call 23; (with_reducible refine (HD.out _ B3.out).mono ?_); rintro e w4 ⟨qu, rfl, hr, hb⟩; have B4 := Lib.hid (Below.then B3.out (Nat.le_refl _) hb); have R4 := Lib.hid (And.intro (R3.out.mono (Same.of_below hb)) hr); clear hb hr)
      | (go_at_call 24; (with_reducible refine (HE.out _ B4.out).mono ?_); rintro e w5 ⟨xu, rfl, hr, hb⟩; have B5 := Lib.hid (Below.then B4.out (Nat.le_refl _) hb); have R5 := Lib.hid (And.intro (R4.out.1.mono (Same.of_below hb)) (And.intro (R4.out.2.mono (Same.of_below hb)) hr)); clear hb hr)
      | (go_at_call 25; (with_reducible refine (HF.out _ B5.out).mono ?_); rintro e w6 ⟨yu, rfl, hr, hb⟩; have B6 := Lib.hid (Below.then B5.out (Nat.le_refl _) hb); have R6 := Lib.hid (And.intro (R5.out.1.mono (Same.of_below hb)) (And.intro (R5.out.2.1.mono (Same.of_below hb)) (And.intro (R5.out.2.2.mono (Same.of_below hb)) hr))); clear hb hr)
      | (go_at_call 26; (with_reducible refine (HSR.out _ _ _ _ R6.out.1 R6.out.2.1).mono ?_); rintro e w7 ⟨rfl, hb⟩; have B7 := Lib.hid (Below.then B6.out (Nat.le_refl _) hb); have R7 := Lib.hid (And.intro (R6.out.2.2.1.mono (Same.of_below hb)) (R6.out.2.2.2.mono (Same.of_below hb))); clear hb)
      | (go_at_call 26; (with_reducible refine (HSR.out _ _ _ _ R7.out.1 R7.out.2).mono ?_); rintro e w8 ⟨rfl, hb⟩; have B8 := Lib.hid (Below.then B7.out (Nat.le_refl _) hb); clear hb)
      | (go_at_call 18; (with_reducible refine (HAW.out _).mono ?_); rintro e wz ⟨rfl, hbz⟩; have HZ := Lib.hid hbz; clear hbz))
    go_ret
    exact ⟨rfl, Below.then B8.out (Nat.le_refl _) HZ.out⟩
end Go.Proofs.Ytegomicpolnpoaa
