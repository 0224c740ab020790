/- The reference's bytes of a matrix of levels. -/
import Derived.Test.YtegomicpolnpoaaUE
namespace Go.Proofs.Ytegomicpolnpoaa
open Go.RowKit Go.Deep Go.Shelf

/-- Which spot stands at place i. -/
def spotAt (p : Bool) (r c i : Nat) : Nat × Nat := if p then (i / c, i % c) else (i % r, i / r)
/-- A level's bytes. -/
def lvS (e : Nat) (lvl : Int) : ByteArray := strOfNums ((List.range (wid e)).map (by8 e lvl))
def laidS (e : Nat) (p : Bool) (m : List (List Int)) (c : Nat) : Nat → ByteArray
  | 0 => ByteArray.empty
  | i + 1 => laidS e p m c i ++ lvS e ((m.getD (spotAt p m.length c i).1 []).getD (spotAt p m.length c i).2 0)
/-- Levels that fit. -/
def okLv (e : Nat) (n : Int) : Prop := (-2147483648 ≤ n ∧ n ≤ 2147483647) ∧ (e = 2 → -127 ≤ n ∧ n ≤ 127)

theorem spot_lt {p : Bool} {r c i : Nat} (h : i < c * r) : (spotAt p r c i).1 < r ∧ (spotAt p r c i).2 < c := by
  have hr : 0 < r := by rcases Nat.eq_zero_or_pos r with h0 | h0; · subst h0; omega
                        · exact h0
  have hc : 0 < c := by rcases Nat.eq_zero_or_pos c with h0 | h0; · subst h0; simp at h
                        · exact h0
  unfold spotAt
  cases p
  · exact ⟨Nat.mod_lt _ hr, Nat.div_lt_of_lt_mul (by rw [Nat.mul_comm]; exact h)⟩
  · exact ⟨Nat.div_lt_of_lt_mul h, Nat.mod_lt _ hc⟩

theorem lvS_size (e : Nat) (n : Int) : (lvS e n).size = wid e := by simp [lvS, strOfNums_size]
theorem laidS_size (e : Nat) (p : Bool) (m : List (List Int)) (c : Nat) : ∀ i, (laidS e p m c i).size = wid e * i
  | 0 => by simp [laidS]
  | i + 1 => by rw [laidS, ByteArray.size_append, laidS_size e p m c i, lvS_size, Nat.mul_succ]

set_option maxHeartbeats 4000000 in
set_option maxRecDepth 100000 in
theorem laid_any {e : Nat} (h1 : 1 ≤ e) (h8 : e ≤ 8) (p : Bool) (m : List (List Int)) (v : Value) (c : Nat) (w : World) (hM : MatIn w m v) (hr1 : 1 ≤ m.length) (hr8 : m.length ≤ 8) (hc : ∀ j, j < m.length → (m.getD j []).length = c) (hc4 : c ≤ 4096)
    (hlv : ∀ j k, j < m.length → k < c → okLv e ((m.getD j []).getD k 0)) :
    Calls Try.prog 71 #[.int .i64 e, .bool p, v] w fun x w' => x = .returned (.string (laidS e p m c (c * m.length))) ∧ Below w.heap.size w w' := by
  have HW := Lib.hid (fun (x : World) (lvl : Int) (h : okLv e lvl) => refWritten_any h1 h8 lvl h.1.1 h.1.2 h.2 x)
  obtain ⟨a, ca, rfl, hin, hal, hac⟩ := id hM
  obtain ⟨b0, o0, u0, rfl, hc0, hu0⟩ := hin 0 (by omega)
  obtain ⟨a0, ca0, rfl, _, _, _⟩ := hu0
  rw [hc 0 (by omega)] at hc0
  rw [Nat.add_zero] at hc0
  have HM := Lib.hid hM
  have HC := Lib.hid hc
  have HL := Lib.hid hlv
  have hrc : c * m.length ≤ 32768 := by
    calc c * m.length ≤ c * 8 := Nat.mul_le_mul_left _ hr8
      _ ≤ 32768 := by omega
  have w0 : 0 < m.length := by omega
  have w1 : (0 : Int) < (m.length : Int) := by omega
  obtain ⟨N, hN⟩ : ∃ N, c * m.length = N := ⟨_, rfl⟩
  have hNi : (c : Int) * (m.length : Int) = (N : Int) := by rw [← hN]; simp
  have HN := Lib.hid hN
  have HNI := Lib.hid hNi
  rw [hN] at hrc ⊢
  clear hM hc hlv hin hN hNi
  go_enter Try.func71, Try.ntmps71
  go_wp2_with fail
  have a1 : 0 ≤ (c : Int) * (m.length : Int) := Int.mul_nonneg (by omega) (by omega)
  have a2 : (c : Int) * (m.length : Int) ≤ 32768 := by rw [HNI.out]; omega
  have HHC := Lib.hid hc0
  clear hc0
  cases p
  · go_loopw [8, 9] (fun s i wr => ∃ k : Nat, i = .int .i64 k ∧ k ≤ N ∧ s = .string (laidS e false m c k) ∧ Below w.heap.size w wr) (fun _ i _ => N - (RowKit.intOf i).toNat)
    case atStart => exact ⟨0, rfl, Nat.zero_le _, rfl, Below.refl _ _⟩
    case round =>
      obtain ⟨i, rfl, hi, rfl, hbl⟩ := hrel
      by_cases hlt : i < N
      · have w4 : (i : Int) < (c : Int) * (m.length : Int) := by rw [HNI.out]; omega
        obtain ⟨hx1, hy1⟩ := spot_lt (p := false) (r := m.length) (c := c) (i := i) (by rw [HN.out]; exact hlt)
        have c1 : 0 < c := by omega
        have c2 : (0 : Int) < (c : Int) := by omega
        have hsp : spotAt false m.length c i = (i % m.length, i / m.length) := rfl
        rw [hsp] at hx1 hy1
        simp only at hx1 hy1
        obtain ⟨x, hx⟩ : ∃ x, i % m.length = x := ⟨_, rfl⟩
        obtain ⟨y, hy⟩ : ∃ y, i / m.length = y := ⟨_, rfl⟩
        have ex : (i : Int) % (m.length : Int) = (x : Int) := by rw [← hx]; simp
        have ey : (i : Int) / (m.length : Int) = (y : Int) := by rw [← hy]; simp
        have w6 : ¬ (m.length : Int) = 0 := by omega
        rw [hx, hy] at hsp
        rw [hx] at hx1
        rw [hy] at hy1
        obtain ⟨a9, ca9, e9, hin9, _, _⟩ := HM.out.mono (Same.of_below hbl)
        simp only [Value.slice.injEq, true_and] at e9
        obtain ⟨rfl, rfl⟩ := e9
        obtain ⟨b1, o1, u1, e1, hc1, hu1⟩ := hin9 x hx1
        cases e1
        obtain ⟨a2', ca2, rfl, hint, _, hcap2⟩ := hu1
        obtain ⟨b2, o2, rfl, hc2, hI2⟩ := hint y (by rw [HC.out x hx1]; exact hy1)
        have hlvl := HL.out x y hx1 hy1
        rw [HC.out x hx1] at hc1 hcap2
        have hst : laidS e false m c (i + 1) = laidS e false m c i ++ lvS e ((m.getD x []).getD y 0) := by
          show laidS e false m c i ++ _ = _
          rw [hsp]
        generalize hlq : (m.getD x []).getD y 0 = lq at hc2 hI2 hlvl hst
        have HHW := Lib.hid (fun x => HW.out x lq hlvl)
        have HST := Lib.hid hst
        have hsz : (laidS e false m c i).size + (strOfNums (List.map (by8 e lq) (List.range (wid e)))).size ≤ 200000 := by
          have q1 := laidS_size e false m c i
          have q2 := lvS_size e lq
          have q3 : wid e ≤ 4 := by unfold wid; omega
          have q4 : wid e * i ≤ 4 * 32768 := Nat.mul_le_mul q3 (by omega)
          unfold lvS at q2
          omega
        have HB := Lib.hid hbl
        generalize hS : laidS e false m c i = S at hst hsz ⊢
        have HS := Lib.hid hS
        have HSZ := Lib.hid hsz
        clear hsz
        have d1 : decide (x < m.length) = true := decide_eq_true hx1
        have d2 : decide ((x : Int) < (m.length : Int)) = true := decide_eq_true (by omega)
        have d3 : decide (y < c) = true := decide_eq_true hy1
        have d4 : decide ((y : Int) < (c : Int)) = true := decide_eq_true (by omega)
        have w7 : ¬ (m.length : Int) = 0 := by omega
        have hfol : Try.prog.follows .mixedOrders = true := by kernel_rfl
        clear hx hy hsp hint hin9 hlvl hst hbl hlq hI2 hS
        go_wp2_with fail
        go_region
        go_wp2_with (go_at_call 111; (with_reducible refine (HHW.out _).mono ?_); rintro e w1 ⟨rfl, hb1⟩; have HB1 := Lib.hid hb1; clear hb1)
        case isTrue h => exact absurd h (by have := HSZ.out; omega)
        go_roundw
        case rel => exact ⟨i + 1, by go_num, by omega, by rw [HST.out, HS.out]; rfl, HB.out.drew.trans (HB1.out.mono HB.out.drew.size)⟩
        case measure => simp [RowKit.intOf]; omega
      · obtain rfl : i = N := by omega
        have w4 : ¬ (i : Int) < (c : Int) * (m.length : Int) := by rw [HNI.out]; omega
        have HB := Lib.hid hbl
        clear hbl
        go_wp2_with fail
        go_ret
        exact ⟨rfl, HB.out⟩
  · go_loopw [8, 9] (fun s i wr => ∃ k : Nat, i = .int .i64 k ∧ k ≤ N ∧ s = .string (laidS e true m c k) ∧ Below w.heap.size w wr) (fun _ i _ => N - (RowKit.intOf i).toNat)
    case atStart => exact ⟨0, rfl, Nat.zero_le _, rfl, Below.refl _ _⟩
    case round =>
      obtain ⟨i, rfl, hi, rfl, hbl⟩ := hrel
      by_cases hlt : i < N
      · have w4 : (i : Int) < (c : Int) * (m.length : Int) := by rw [HNI.out]; omega
        obtain ⟨hx1, hy1⟩ := spot_lt (p := true) (r := m.length) (c := c) (i := i) (by rw [HN.out]; exact hlt)
        have c1 : 0 < c := by omega
        have c2 : (0 : Int) < (c : Int) := by omega
        have hsp : spotAt true m.length c i = (i / c, i % c) := rfl
        rw [hsp] at hx1 hy1
        simp only at hx1 hy1
        obtain ⟨x, hx⟩ : ∃ x, i / c = x := ⟨_, rfl⟩
        obtain ⟨y, hy⟩ : ∃ y, i % c = y := ⟨_, rfl⟩
        have ex : (i : Int) / (c : Int) = (x : Int) := by rw [← hx]; simp
        have ey : (i : Int) % (c : Int) = (y : Int) := by rw [← hy]; simp
        have w6 : ¬ (c : Int) = 0 := by omega
        rw [hx, hy] at hsp
        rw [hx] at hx1
        rw [hy] at hy1
        obtain ⟨a9, ca9, e9, hin9, _, _⟩ := HM.out.mono (Same.of_below hbl)
        simp only [Value.slice.injEq, true_and] at e9
        obtain ⟨rfl, rfl⟩ := e9
        obtain ⟨b1, o1, u1, e1, hc1, hu1⟩ := hin9 x hx1
        cases e1
        obtain ⟨a2', ca2, rfl, hint, _, hcap2⟩ := hu1
        obtain ⟨b2, o2, rfl, hc2, hI2⟩ := hint y (by rw [HC.out x hx1]; exact hy1)
        have hlvl := HL.out x y hx1 hy1
        rw [HC.out x hx1] at hc1 hcap2
        have hst : laidS e true m c (i + 1) = laidS e true m c i ++ lvS e ((m.getD x []).getD y 0) := by
          show laidS e true m c i ++ _ = _
          rw [hsp]
        generalize hlq : (m.getD x []).getD y 0 = lq at hc2 hI2 hlvl hst
        have HHW := Lib.hid (fun x => HW.out x lq hlvl)
        have HST := Lib.hid hst
        have hsz : (laidS e true m c i).size + (strOfNums (List.map (by8 e lq) (List.range (wid e)))).size ≤ 200000 := by
          have q1 := laidS_size e true m c i
          have q2 := lvS_size e lq
          have q3 : wid e ≤ 4 := by unfold wid; omega
          have q4 : wid e * i ≤ 4 * 32768 := Nat.mul_le_mul q3 (by omega)
          unfold lvS at q2
          omega
        have HB := Lib.hid hbl
        generalize hS : laidS e true m c i = S at hst hsz ⊢
        have HS := Lib.hid hS
        have HSZ := Lib.hid hsz
        clear hsz
        have d1 : decide (x < m.length) = true := decide_eq_true hx1
        have d2 : decide ((x : Int) < (m.length : Int)) = true := decide_eq_true (by omega)
        have d3 : decide (y < c) = true := decide_eq_true hy1
        have d4 : decide ((y : Int) < (c : Int)) = true := decide_eq_true (by omega)
        have w7 : ¬ (m.length : Int) = 0 := by omega
        have hfol : Try.prog.follows .mixedOrders = true := by kernel_rfl
        clear hx hy hsp hint hin9 hlvl hst hbl hlq hI2 hS
        go_wp2_with fail
        go_region
        go_wp2_with fail
        go_region
        go_wp2_with (go_at_call 111; (with_reducible refine (HHW.out _).mono ?_); rintro e w1 ⟨rfl, hb1⟩; have HB1 := Lib.hid hb1; clear hb1)
        case isTrue h => exact absurd h (by have := HSZ.out; omega)
        go_roundw
        case rel => exact ⟨i + 1, by go_num, by omega, by rw [HST.out, HS.out]; rfl, HB.out.drew.drew.trans (HB1.out.mono HB.out.drew.drew.size)⟩
        case measure => simp [RowKit.intOf]; omega
      · obtain rfl : i = N := by omega
        have w4 : ¬ (i : Int) < (c : Int) * (m.length : Int) := by rw [HNI.out]; omega
        have HB := Lib.hid hbl
        clear hbl
        go_wp2_with fail
        go_ret
        exact ⟨rfl, HB.out⟩
end Go.Proofs.Ytegomicpolnpoaa
