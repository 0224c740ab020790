/- Plain matrices: the document's answer. -/
import Derived.Test.YtpjmiiejmkgmdaaED
import Derived.Test.YtpjmiiejmkgmdaaHB
namespace Go.Proofs.Ytpjmiiejmkgmdaa
open Go.RowKit

def wAt (m : List (List Int)) (i k : Nat) : Int := (m.getD i []).getD k 0
def PlainAt (m : List (List Int)) (i k : Nat) : Prop := wAt m i k = 65536 ∧ (∀ n, n < cols m → n ≠ k → wAt m i n = 0) ∧ ∀ n, n < m.length → n ≠ i → wAt m n k = 0
def PlainP (m : List (List Int)) : Prop := ∀ i k, i < m.length → k < cols m → wAt m i k ≠ 0 → PlainAt m i k
def PlA (m : List (List Int)) (w : World) (e : Ending) (w' : World) : Prop := ∃ bb : Bool, e = .returned (.tuple #[.bool bb, .int .i64 0]) ∧ (bb = true ↔ PlainP m) ∧ Below w.heap.size w w'

set_option maxHeartbeats 2000000 in
set_option maxRecDepth 100000 in
theorem refPlain_no (m : List (List Int)) (va : Value) (w : World) (ha : MatIn w m va) (hvm : validM m = false) : Calls Try.prog 30 #[va] w fun e w' => e = .returned (.tuple #[.bool false, .int .i64 1]) ∧ Below w.heap.size w w' := by
  have h34 := refValidMatrix_any m va w ha
  rw [hvm] at h34
  clear hvm ha
  go_enter Try.func30, Try.ntmps30
  go_wp2_with (go_at_call 34; (with_reducible refine h34.mono ?_); rintro e w1 ⟨rfl, b1⟩)
  go_ret2
  exact ⟨rfl, b1⟩

set_option maxHeartbeats 4000000 in
set_option maxRecDepth 100000 in
theorem refPlain_yes (m : List (List Int)) (va : Value) (w : World) (ha : MatIn w m va) (hvm : validM m = true) : Calls Try.prog 30 #[va] w (PlA m w) := by
  have h34 := refValidMatrix_any m va w ha
  rw [hvm] at h34
  obtain ⟨pm1, pm2, pm3, pm4⟩ := validM_parts hvm
  obtain ⟨a, ca, rfl, hin, _, _⟩ := id ha
  -- each weight, in whatever world
  have hat : ∀ x, Below w.heap.size w x → ∀ i k, i < m.length → k < cols m → ∃ bm om ap op ou cp, a = some ⟨bm, om, none⟩ ∧ ap = some ⟨op, ou, none⟩ ∧ x.cell? ⟨bm, om + i, none⟩ = some (.slice ap (cols m) cp) ∧ x.cell? ⟨op, ou + k, none⟩ = some (.int .i64 (wAt m i k)) := fun x hx i k hi hk => by
    obtain ⟨bm, om, um, rfl, hcm, hum⟩ := (hin.mono (Same.of_below hx)) i hi
    obtain ⟨ap, cp, rfl, hp, _, _⟩ := hum
    obtain ⟨bp, op, rfl, hcp, _⟩ := hp k (by rw [pm3 i hi]; exact hk)
    rw [pm3 i hi] at hcm
    exact ⟨bm, om, _, bp, op, cp, rfl, rfl, hcm, hcp⟩
  have hrow : ∀ x, Below w.heap.size w x → ∀ i, i < m.length → ∃ bm om ap cp, a = some ⟨bm, om, none⟩ ∧ x.cell? ⟨bm, om + i, none⟩ = some (.slice ap (cols m) cp) := fun x hx i hi => by
    obtain ⟨bm, om, _, _, _, cp, e1, _, h, _⟩ := hat x hx i 0 hi (by omega)
    exact ⟨bm, om, _, cp, e1, h⟩
  have HAT := Lib.hid hat
  have HROW := Lib.hid hrow
  have HPL := Lib.hid (show PlainP m ↔ PlainP m from Iff.rfl)
  unfold PlainP at HPL
  obtain ⟨C, hC⟩ : ∃ C, cols m = C := ⟨_, rfl⟩
  rw [hC] at HAT HROW pm2
  have HC := Lib.hid hC
  clear hat hrow hin ha hvm pm3 pm4 hC HPL
  go_enter Try.func30, Try.ntmps30
  go_wp2_with (go_at_call 34; (with_reducible refine h34.mono ?_); rintro e w1 ⟨rfl, b1⟩)
  clear h34
  go_loop [4] (fun p => ∃ i : Nat, p = .int .i64 i ∧ i ≤ m.length ∧ (∀ x y, x < i → y < C → wAt m x y ≠ 0 → PlainAt m x y)) (fun p => m.length - (intOf p).toNat)
  case atStart => exact ⟨0, rfl, Nat.zero_le _, fun _ _ h => absurd h (Nat.not_lt_zero _)⟩
  case round =>
    obtain ⟨i, rfl, hi, hok⟩ := hrel
    have Hok := Lib.hid hok
    clear hok
    by_cases hlti : i < m.length
    · have wi : (i : Int) < (m.length : Int) := by omega
      go_wp2_with fail
      go_loop [5] (fun p => ∃ k : Nat, p = .int .i64 k ∧ k ≤ C ∧ (∀ y, y < k → wAt m i y ≠ 0 → PlainAt m i y)) (fun p => C - (intOf p).toNat)
      case atStart => exact ⟨0, rfl, Nat.zero_le _, fun _ h => absurd h (Nat.not_lt_zero _)⟩
      case round =>
        obtain ⟨k, rfl, hk, hok2⟩ := hrel
        have Hok2 := Lib.hid hok2
        clear hok2
        by_cases hltk : k < C
        · obtain ⟨bm, om, ap, bp, op, cp, rfl, rfl, hcm, hcp⟩ := HAT.out w1 b1 i k hlti hltk
          have wk : (k : Int) < (C : Int) := by omega
          obtain ⟨x, hx⟩ : ∃ x, wAt m i k = x := ⟨_, rfl⟩
          rw [hx] at hcp
          have HX := Lib.hid hx
          clear hx
          by_cases hx0 : x = 0
          · have e1 : (x == 0) = true := by simp [hx0]
            have HX0 := Lib.hid hx0
            clear hx0
            go_wp2_with fail
            go_round
            case rel =>
              refine ⟨k + 1, by go_num, by omega, fun y hy hne => ?_⟩
              by_cases ey : y = k
              · subst ey; exact absurd (HX.out.trans HX0.out) hne
              · exact Hok2.out y (by omega) hne
            case measure => simp [intOf]; omega
          · have e1 : (x == 0) = false := by simp [hx0]
            have HX0 := Lib.hid hx0
            clear hx0
            go_wp2_with fail
            go_loop [6] (fun p => ∃ n : Nat, p = .int .i64 n ∧ n ≤ C ∧ (∀ y, y < n → y ≠ k → wAt m i y = 0)) (fun p => C - (intOf p).toNat)
            case atStart => exact ⟨0, rfl, Nat.zero_le _, fun _ h => absurd h (Nat.not_lt_zero _)⟩
            case round =>
              clear hcp
              obtain ⟨n, rfl, hn, hok3⟩ := hrel
              have Hok3 := Lib.hid hok3
              clear hok3
              by_cases hltn : n < C
              · obtain ⟨bm2, om2, ap2, bp2, op2, cp2, e2, rfl, hcm2, hcp2⟩ := HAT.out w1 b1 i n hlti hltn
                simp only [Option.some.injEq, Addr.mk.injEq, and_true] at e2
                obtain ⟨rfl, rfl⟩ := e2
                rw [hcm] at hcm2
                simp only [Option.some.injEq, Value.slice.injEq, Addr.mk.injEq, and_true, true_and] at hcm2
                obtain ⟨⟨rfl, rfl⟩, rfl⟩ := hcm2
                have wn : (n : Int) < (C : Int) := by omega
                obtain ⟨y, hy⟩ : ∃ y, wAt m i n = y := ⟨_, rfl⟩
                rw [hy] at hcp2
                have HY := Lib.hid hy
                clear hy
                by_cases hnk : n = k
                · have e3 : ((n : Int) != (k : Int)) = false := by simp; omega
                  have HNK := Lib.hid hnk
                  clear hnk
                  go_wp2_with fail
                  go_round
                  case rel =>
                    refine ⟨n + 1, by go_num, by omega, fun z hz hzk => ?_⟩
                    exact Hok3.out z (by have := HNK.out; omega) hzk
                  case measure => simp [intOf]; omega
                · have e3 : ((n : Int) != (k : Int)) = true := by simp; omega
                  have HNK := Lib.hid hnk
                  clear hnk
                  by_cases hy0 : y = 0
                  · have e4 : (y != 0) = false := by simp [hy0]
                    have HY0 := Lib.hid hy0
                    clear hy0
                    go_wp2_with fail
                    go_round
                    case rel =>
                      refine ⟨n + 1, by go_num, by omega, fun z hz hzk => ?_⟩
                      by_cases ez : z = n
                      · subst ez; exact HY.out.trans HY0.out
                      · exact Hok3.out z (by omega) hzk
                    case measure => simp [intOf]; omega
                  · have e4 : (y != 0) = true := by simp [hy0]
                    have HY0 := Lib.hid hy0
                    clear hy0
                    go_wp2_with fail
                    go_ret2
                    refine ⟨false, rfl, ⟨(fun h => by cases h), fun h => absurd ((h i k hlti (by have := HC.out; omega) (by rw [HX.out]; exact HX0.out)).2.1 n (by have := HC.out; omega) HNK.out) (by rw [HY.out]; exact HY0.out)⟩, b1⟩
              · have wn : ¬ (n : Int) < (C : Int) := by omega
                obtain rfl : n = C := by omega
                go_wp2_with fail
                go_loop [7] (fun p => ∃ q : Nat, p = .int .i64 q ∧ q ≤ m.length ∧ (∀ y, y < q → y ≠ i → wAt m y k = 0)) (fun p => m.length - (intOf p).toNat)
                case atStart => exact ⟨0, rfl, Nat.zero_le _, fun _ h => absurd h (Nat.not_lt_zero _)⟩
                case round =>
                  obtain ⟨q, rfl, hq, hok4⟩ := hrel
                  have Hok4 := Lib.hid hok4
                  clear hok4
                  by_cases hltq : q < m.length
                  · obtain ⟨bm2, om2, ap2, bp2, op2, cp2, e2, rfl, hcm2, hcp2⟩ := HAT.out w1 b1 q k hltq hltk
                    simp only [Option.some.injEq, Addr.mk.injEq, and_true] at e2
                    obtain ⟨rfl, rfl⟩ := e2
                    have wq : (q : Int) < (m.length : Int) := by omega
                    obtain ⟨y, hy⟩ : ∃ y, wAt m q k = y := ⟨_, rfl⟩
                    rw [hy] at hcp2
                    have HY := Lib.hid hy
                    clear hy
                    by_cases hqi : q = i
                    · have e3 : ((q : Int) != (i : Int)) = false := by simp; omega
                      have HNK := Lib.hid hqi
                      clear hqi
                      go_wp2_with fail
                      go_round
                      case rel =>
                        refine ⟨q + 1, by go_num, by omega, fun z hz hzk => ?_⟩
                        exact Hok4.out z (by have := HNK.out; omega) hzk
                      case measure => simp [intOf]; omega
                    · have e3 : ((q : Int) != (i : Int)) = true := by simp; omega
                      have HNK := Lib.hid hqi
                      clear hqi
                      by_cases hy0 : y = 0
                      · have e4 : (y != 0) = false := by simp [hy0]
                        have HY0 := Lib.hid hy0
                        clear hy0
                        go_wp2_with fail
                        go_round
                        case rel =>
                          refine ⟨q + 1, by go_num, by omega, fun z hz hzk => ?_⟩
                          by_cases ez : z = q
                          · subst ez; exact HY.out.trans HY0.out
                          · exact Hok4.out z (by omega) hzk
                        case measure => simp [intOf]; omega
                      · have e4 : (y != 0) = true := by simp [hy0]
                        have HY0 := Lib.hid hy0
                        clear hy0
                        go_wp2_with fail
                        go_ret2
                        refine ⟨false, rfl, ⟨(fun h => by cases h), fun h => absurd ((h i k hlti (by have := HC.out; omega) (by rw [HX.out]; exact HX0.out)).2.2 q hltq HNK.out) (by rw [HY.out]; exact HY0.out)⟩, b1⟩
                  · have wq : ¬ (q : Int) < (m.length : Int) := by omega
                    obtain rfl : q = m.length := by omega
                    obtain ⟨bm2, om2, ap2, bp2, op2, cp2, e2, rfl, hcm2, hcp2⟩ := HAT.out w1 b1 i k hlti hltk
                    simp only [Option.some.injEq, Addr.mk.injEq, and_true] at e2
                    obtain ⟨rfl, rfl⟩ := e2
                    rw [hcm] at hcm2
                    simp only [Option.some.injEq, Value.slice.injEq, Addr.mk.injEq, and_true, true_and] at hcm2
                    obtain ⟨⟨rfl, rfl⟩, rfl⟩ := hcm2
                    rw [HX.out] at hcp2
                    by_cases hx1 : x = 65536
                    · have e4 : (x != 65536) = false := by simp [hx1]
                      have HX1 := Lib.hid hx1
                      clear hx1
                      go_wp2_with fail
                      go_round
                      case rel =>
                        refine ⟨k + 1, by go_num, by omega, fun y hy hne => ?_⟩
                        by_cases ey : y = k
                        · subst ey
                          exact ⟨HX.out.trans HX1.out, fun z hz hzk => Hok3.out z (by have := HC.out; omega) hzk, fun z hz hzi => Hok4.out z hz hzi⟩
                        · exact Hok2.out y (by omega) hne
                      case measure => simp [intOf]; omega
                    · have e4 : (x != 65536) = true := by simp [hx1]
                      have HX1 := Lib.hid hx1
                      clear hx1
                      go_wp2_with fail
                      go_ret2
                      refine ⟨false, rfl, ⟨(fun h => by cases h), fun h => absurd (h i k hlti (by have := HC.out; omega) (by rw [HX.out]; exact HX0.out)).1 (by rw [HX.out]; exact HX1.out)⟩, b1⟩
        · have wk : ¬ (k : Int) < (C : Int) := by omega
          obtain rfl : k = C := by omega
          obtain ⟨bm, om, ap, cp, rfl, hcm⟩ := HROW.out w1 b1 i hlti
          go_wp2_with fail
          go_round
          case rel =>
            refine ⟨i + 1, by go_num, by omega, fun x y hx hy hne => ?_⟩
            by_cases ex : x = i
            · subst ex; exact Hok2.out y hy hne
            · exact Hok.out x y (by omega) hy hne
          case measure => simp [intOf]; omega
    · have wi : ¬ (i : Int) < (m.length : Int) := by omega
      obtain rfl : i = m.length := by omega
      go_wp2_with fail
      go_ret2
      exact ⟨true, rfl, ⟨fun _ x y hx hy hne => Hok.out x y hx (by have := HC.out; omega) hne, fun _ => rfl⟩, b1⟩
end Go.Proofs.Ytpjmiiejmkgmdaa
