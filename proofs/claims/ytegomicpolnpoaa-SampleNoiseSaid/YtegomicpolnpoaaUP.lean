/- Peak and Power: the reference's. -/
import Derived.Test.YtegomicpolnpoaaUO
import Derived.BigQuiet
namespace Go.Proofs.Ytegomicpolnpoaa
open Go.RowKit Go.Deep Go.Shelf

set_option maxRecDepth 100000 in
theorem above_any {n : Int} (h : okS n) (w : World) : Calls Try.prog 28 #[.int .i64 n] w fun e w' => e = .returned (.int .i64 (max n (-n))) ∧ w = w' := by
  unfold okS at h
  go_enter Try.func28, Try.ntmps28
  go_wp2_with fail
  go_ret
  exact ⟨rfl, rfl⟩

set_option maxHeartbeats 2000000 in
set_option maxRecDepth 100000 in
theorem refPeak_yes (m : List (List Int)) (v : Value) (w : World) (hM : MatIn w m v) (hv : validB m = true) : Calls Try.prog 23 #[v] w (RowsTold w (m.map pk) 0) := by
  have hva := refValidBlock_any m v w hM
  rw [hv] at hva
  obtain ⟨hr1, hr8, hc4, hc⟩ := validB_parts hv
  have hok := validB_smp hv
  obtain ⟨a, ca, rfl, _, hal, _⟩ := id hM
  have HM := Lib.hid hM
  have HC := Lib.hid hc
  have HOK := Lib.hid hok
  have HALL := Lib.hid (show okRow (m.map pk) from ⟨by rw [List.length_map]; omega, fun i hi => by
    rw [List.length_map] at hi
    have e : (m.map pk).getD i 0 = pk (m.getD i []) := by simp [List.getD, hi]
    rw [e]
    exact measPeak.fits _ (by rw [hc i hi]; exact hc4) (fun j hj => hok i j hi (by rw [hc i hi] at hj; exact hj))⟩)
  clear hM hc hok hv
  unfold RowsTold
  go_enter Try.func23, Try.ntmps23
  go_wp2_with (go_at_call 42; (with_reducible refine hva.mono ?_); rintro e w1 ⟨rfl, hb1⟩; have HB1 := Lib.hid hb1; clear hb1)
  have HM1 := Lib.hid (HM.out.mono (Same.of_below HB1.out))
  clear hva
  go_loopw [4, 5] (fun s i wr => ∃ k : Nat, i = .int .i64 k ∧ k ≤ m.length ∧ wr.ownsRow w1.heap.size 3 1 s k (((m.map pk).take k).map (Value.int .i64)) ∧ Below w1.heap.size w1 wr) (fun _ i _ => m.length - (RowKit.intOf i).toNat)
  case atStart => exact ⟨0, rfl, Nat.zero_le _, by simpa using World.ownsRow_nil _ _ _ _, Below.refl _ _⟩
  case round =>
    obtain ⟨k, rfl, hk, ho, hbl⟩ := hrel
    by_cases hlt : k < m.length
    · have w4 : (k : Int) < (m.length : Int) := by omega
      have d1 : decide (k < m.length) = true := decide_eq_true hlt
      have d2 : decide ((k : Int) < (m.length : Int)) = true := decide_eq_true w4
      obtain ⟨a', cap', b, off, u, e1, e2, hcu, hru⟩ := row_in (HM1.out.mono (Same.of_below hbl)) hlt
      simp only [Value.slice.injEq, true_and] at e1
      obtain ⟨rfl, rfl⟩ := e1
      subst e2
      have hck := HC.out k hlt
      have hokk := fun j hj => HOK.out k j hlt hj
      have HROW := Lib.hid (show (m.map pk).take (k + 1) = (m.map pk).take k ++ [pk (m.getD k [])] from by
        rw [take_snocD (m.map pk) k 0 (by rw [List.length_map]; exact hlt)]
        simp [List.getD, hlt])
      generalize m.getD k [] = r at *
      obtain ⟨ar, cr, rfl, hint, hl2, hcap2⟩ := hru
      rw [hck] at hl2 hcap2 hcu
      have HPK := Lib.hid (pk_take r (fun j hj => hokk j (by omega)))
      have HOKK := Lib.hid hokk
      have HO := Lib.hid ho
      have HB := Lib.hid hbl
      clear ho hbl hokk
      go_wp2_with fail
      obtain ⟨wo, hwo⟩ : ∃ wo : World, wo = wr := ⟨_, rfl⟩
      rw [← hwo] at HO HB ⊢
      have hint' := hint
      rw [← hwo] at hcu hint'
      clear hwo hint
      go_loopw [6, 7] (fun s i wx => ∃ f : Nat, i = .int .i64 f ∧ f ≤ cols m ∧ s = .int .i64 (pk (r.take f)) ∧ wx = wo) (fun _ i _ => cols m - (RowKit.intOf i).toNat)
      case atStart => exact ⟨0, rfl, Nat.zero_le _, by simp [pk], rfl⟩
      case round =>
        obtain ⟨f, rfl, hf, rfl, rfl⟩ := hrel
        by_cases hlt2 : f < cols m
        · obtain ⟨b2, o2, rfl, hc2, hI2⟩ := hint' f (by rw [hck]; exact hlt2)
          have w5 : (f : Int) < (cols m : Int) := by omega
          have d3 : decide (f < cols m) = true := decide_eq_true hlt2
          have d4 : decide ((f : Int) < (cols m : Int)) = true := decide_eq_true (by omega)
          have hb := HPK.out f (by omega)
          have hok1 := HOKK.out f hlt2
          have HN := Lib.hid (show pk (r.take (f + 1)) = max (pk (r.take f)) (max (r.getD f 0) (-(r.getD f 0))) from by rw [take_snocD r f 0 (by omega), pk_snoc])
          have HAB := Lib.hid (above_any hok1 wr)
          obtain ⟨p, hp⟩ : ∃ p, r.getD f 0 = p := ⟨_, rfl⟩
          obtain ⟨A, hA⟩ : ∃ A, pk (r.take f) = A := ⟨_, rfl⟩
          rw [hp, hA] at HN
          rw [hp] at hc2 hok1 HAB
          rw [hA] at hb ⊢
          clear hp hA hI2
          unfold okS at hok1
          obtain ⟨q, hq⟩ : ∃ q, max p (-p) = q := ⟨_, rfl⟩
          rw [hq] at HN HAB
          have hq2 : 0 ≤ q ∧ q ≤ 8388607 := by omega
          clear hq hok1
          go_wp2_with (go_at_call 28; (with_reducible refine HAB.out.mono ?_); rintro e w1 ⟨rfl, rfl⟩)
          go_roundw
          case rel => exact ⟨f + 1, by go_num, by omega, by rw [HN.out], trivial⟩
          case measure => simp [RowKit.intOf]; omega
        · obtain rfl : f = cols m := by omega
          rw [List.take_of_length_le (by omega)]
          go_wp2_with (at_builtin; refine wpList_append_ints rfl (.tmp 36) (.tmp 38) rfl w1.heap.size _ k ((m.map pk).take k) rfl (owns_below HO.out ((Below.refl _ _).alloc (Nat.le_refl _) _)) _ 1 1 rfl [pk r] rfl ?c1 ?c2 ?c3 ?_)
          case c1 =>
            intro _
            exact ⟨_, rfl, fun j hj => by obtain rfl : j = 0 := by omega
                                          simp [go_sem]⟩
          case c2 => omega
          case c3 => have := HB.out.size; simp; omega
          intro v2 w2 h21 h22 h23
          have hn1 : w2.ownsRow w1.heap.size 3 1 v2 (k + 1) (((m.map pk).take (k + 1)).map (Value.int .i64)) := by rw [HROW.out]; simpa using h21
          have hn2 : Below w1.heap.size w1 w2 := (HB.out.alloc (by have := HB.out.size; omega) _).grown h22 (by have := HB.out.size; simp; omega) (fun g hg => (HO.out.lt g hg).1)
          have HN1 := Lib.hid hn1
          have HN2 := Lib.hid hn2
          clear h21 h22 h23 hn1 hn2
          go_wp2_with fail
          go_roundw
          case rel => exact ⟨k + 1, by go_num, by omega, HN1.out, HN2.out⟩
          case measure => simp [RowKit.intOf]; omega
    · obtain rfl : k = m.length := by omega
      have HO := Lib.hid ho
      have HB := Lib.hid hbl
      clear ho hbl
      go_wp2_with fail
      go_ret2
      refine ⟨_, rfl, ?_, Below.then HB1.out (Nat.le_refl _) HB.out⟩
      have h := HO.out
      rw [List.take_of_length_le (by simp)] at h
      exact owns_row (by rw [List.length_map]; exact h) HALL.out (fun _ _ _ => rfl)
set_option maxHeartbeats 2000000 in
set_option maxRecDepth 100000 in
theorem refPower_yes (m : List (List Int)) (v : Value) (w : World) (hM : MatIn w m v) (hv : validB m = true) : Calls Try.prog 25 #[v] w (RowsTold w (m.map pw) 0) := by
  have hva := refValidBlock_any m v w hM
  rw [hv] at hva
  obtain ⟨hr1, hr8, hc4, hc⟩ := validB_parts hv
  have hok := validB_smp hv
  obtain ⟨a, ca, rfl, _, hal, _⟩ := id hM
  have HM := Lib.hid hM
  have HC := Lib.hid hc
  have HOK := Lib.hid hok
  have HALL := Lib.hid (show okRow (m.map pw) from ⟨by rw [List.length_map]; omega, fun i hi => by
    rw [List.length_map] at hi
    have e : (m.map pw).getD i 0 = pw (m.getD i []) := by simp [List.getD, hi]
    rw [e]
    exact measPower.fits _ (by rw [hc i hi]; exact hc4) (fun j hj => hok i j hi (by rw [hc i hi] at hj; exact hj))⟩)
  clear hM hc hok hv
  unfold RowsTold
  go_enter Try.func25, Try.ntmps25
  go_wp2_with (go_at_call 42; (with_reducible refine hva.mono ?_); rintro e w1 ⟨rfl, hb1⟩; have HB1 := Lib.hid hb1; clear hb1)
  have HM1 := Lib.hid (HM.out.mono (Same.of_below HB1.out))
  clear hva
  go_loopw [4, 5] (fun s i wr => ∃ k : Nat, i = .int .i64 k ∧ k ≤ m.length ∧ wr.ownsRow w1.heap.size 3 1 s k (((m.map pw).take k).map (Value.int .i64)) ∧ Below w1.heap.size w1 wr) (fun _ i _ => m.length - (RowKit.intOf i).toNat)
  case atStart => exact ⟨0, rfl, Nat.zero_le _, by simpa using World.ownsRow_nil _ _ _ _, Below.refl _ _⟩
  case round =>
    obtain ⟨k, rfl, hk, ho, hbl⟩ := hrel
    by_cases hlt : k < m.length
    · have w4 : (k : Int) < (m.length : Int) := by omega
      have d1 : decide (k < m.length) = true := decide_eq_true hlt
      have d2 : decide ((k : Int) < (m.length : Int)) = true := decide_eq_true w4
      obtain ⟨a', cap', b, off, u, e1, e2, hcu, hru⟩ := row_in (HM1.out.mono (Same.of_below hbl)) hlt
      simp only [Value.slice.injEq, true_and] at e1
      obtain ⟨rfl, rfl⟩ := e1
      subst e2
      have hck := HC.out k hlt
      have hokk := fun j hj => HOK.out k j hlt hj
      have HROW := Lib.hid (show (m.map pw).take (k + 1) = (m.map pw).take k ++ [pw (m.getD k [])] from by
        rw [take_snocD (m.map pw) k 0 (by rw [List.length_map]; exact hlt)]
        simp [List.getD, hlt])
      generalize m.getD k [] = r at *
      obtain ⟨ar, cr, rfl, hint, hl2, hcap2⟩ := hru
      rw [hck] at hl2 hcap2 hcu
      have HPK := Lib.hid (sq_take r (fun j hj => hokk j (by omega)))
      have HOKK := Lib.hid hokk
      have HO := Lib.hid ho
      have HB := Lib.hid hbl
      clear ho hbl hokk
      go_wp2_with fail
      obtain ⟨wo, hwo⟩ : ∃ wo : World, wo = wr := ⟨_, rfl⟩
      rw [← hwo] at HO HB ⊢
      have hint' := hint
      rw [← hwo] at hcu hint'
      clear hwo hint
      go_loopw [6, 7] (fun s i wx => ∃ f : Nat, i = .int .i64 f ∧ f ≤ cols m ∧ s = .int .i64 (sq (r.take f)) ∧ Below wo.heap.size wo wx) (fun _ i _ => cols m - (RowKit.intOf i).toNat)
      case atStart => exact ⟨0, rfl, Nat.zero_le _, by simp [sq], Below.refl _ _⟩
      case round =>
        obtain ⟨f, rfl, hf, rfl, hbx⟩ := hrel
        have hcu := (Same.of_below hbx).cell hcu
        have hint' := hint'.mono (Same.of_below hbx)
        have HBX := Lib.hid hbx
        clear hbx
        by_cases hlt2 : f < cols m
        · obtain ⟨b2, o2, rfl, hc2, hI2⟩ := hint' f (by rw [hck]; exact hlt2)
          have w5 : (f : Int) < (cols m : Int) := by omega
          have d3 : decide (f < cols m) = true := decide_eq_true hlt2
          have d4 : decide ((f : Int) < (cols m : Int)) = true := decide_eq_true (by omega)
          have hb := HPK.out f (by omega)
          have hok1 := HOKK.out f hlt2
          have h1 := sq_one hok1
          have HN := Lib.hid (show sq (r.take (f + 1)) = sq (r.take f) + r.getD f 0 * r.getD f 0 from by rw [take_snocD r f 0 (by omega), sq_snoc])
          obtain ⟨p, hp⟩ : ∃ p, r.getD f 0 = p := ⟨_, rfl⟩
          obtain ⟨A, hA⟩ : ∃ A, sq (r.take f) = A := ⟨_, rfl⟩
          rw [hp, hA] at HN
          rw [hp] at hc2 hok1 h1
          rw [hA] at hb ⊢
          clear hp hA hI2
          unfold okS at hok1
          have w6 : IntKind.i64.wrap (p * p) = p * p := IntWalk.i64_in _ (by omega)
          have w7 : IntKind.i64.wrap (A + p * p) = A + p * p := IntWalk.i64_in _ (by omega)
          have hmx : Try.prog.follows .mixedOrders = true := by kernel_rfl
          go_wp2_with fail
          go_quiet (fail)
          go_wp2_with fail
          go_roundw
          case rel => exact ⟨f + 1, by go_num, by omega, by rw [HN.out], below_drewN HBX.out _⟩
          case measure => simp [RowKit.intOf]; omega
        · obtain rfl : f = cols m := by omega
          rw [List.take_of_length_le (by omega)]
          have hsb := HPK.out (cols m) (by omega)
          rw [List.take_of_length_le (by omega)] at hsb
          by_cases h0 : cols m = 0
          · have w5 : ¬ (0 : Int) < (cols m : Int) := by omega
            have HE := Lib.hid (show sq r = pw r from by
              obtain rfl : r = [] := List.eq_nil_of_length_eq_zero (by omega)
              rfl)
            have HBY := HBX
            rw [HE.out]
            go_wp2_with (at_builtin; refine wpList_append_ints rfl (.tmp 56) (.tmp 58) rfl w1.heap.size _ k ((m.map pw).take k) rfl (owns_below HO.out (HBY.out.alloc HBY.out.size _)) _ 1 1 rfl [pw r] rfl ?c1 ?c2 ?c3 ?_)
            try case c1 =>
              intro _
              exact ⟨_, rfl, fun j hj => by obtain rfl : j = 0 := by omega
                                            simp [go_sem]⟩
            case c2 => omega
            case c3 => have := HB.out.size; have := HBY.out.size; simp; omega
            intro v2 w2 h21 h22 h23
            have hn1 : w2.ownsRow w1.heap.size 3 1 v2 (k + 1) (((m.map pw).take (k + 1)).map (Value.int .i64)) := by rw [HROW.out]; simpa using h21
            have hn2 : Below w1.heap.size w1 w2 := ((Below.then HB.out (Nat.le_refl _) HBY.out).alloc (by have := HB.out.size; have := HBY.out.size; omega) _).grown h22 (by have := HB.out.size; have := HBY.out.size; simp; omega) (fun g hg => (HO.out.lt g hg).1)
            have HN1 := Lib.hid hn1
            have HN2 := Lib.hid hn2
            clear h21 h22 h23 hn1 hn2
            go_wp2_with fail
            go_roundw
            case rel => exact ⟨k + 1, by go_num, by omega, HN1.out, HN2.out⟩
            case measure => simp [RowKit.intOf]; omega
          · have w5 : (0 : Int) < (cols m : Int) := by omega
            have HR := Lib.hid (fun x => refRounded_any (sq r) (cols m) x (by omega) (by omega) (by omega) (by omega))
            have HE := Lib.hid (show rnd (sq r) (cols m) = pw r from by unfold pw; rw [hck, show max ((cols m : Nat) : Int) 1 = (cols m : Int) by omega])
            have HBD := Lib.hid (show ∀ wz : World, (∃ kz, wz = wr.drewN kz) → Below wo.heap.size wo wz from fun wz ⟨kz, e⟩ => by rw [e]; exact below_drewN HBX.out kz)
            clear hsb
            go_wp2_with (first
              | (go_at_call 76; (with_reducible refine (HR.out _).mono ?_); rintro e wz ⟨rfl, hwz⟩; have HBY := Lib.hid (HBD.out wz hwz); clear hwz)
              | (at_builtin; refine wpList_append_ints rfl (.tmp 56) (.tmp 58) rfl w1.heap.size _ k ((m.map pw).take k) rfl (owns_below HO.out (HBY.out.alloc HBY.out.size _)) _ 1 1 rfl [rnd (sq r) (cols m)] rfl ?d1 ?d2 ?d3 ?_))
            case d1 =>
              intro _
              exact ⟨_, rfl, fun j hj => by obtain rfl : j = 0 := by omega
                                            simp [go_sem]⟩
            case d2 => omega
            case d3 => have := HB.out.size; have := HBY.out.size; simp; omega
            intro v2 w2 h21 h22 h23
            have hn1 : w2.ownsRow w1.heap.size 3 1 v2 (k + 1) (((m.map pw).take (k + 1)).map (Value.int .i64)) := by rw [HROW.out, ← HE.out]; simpa using h21
            have hn2 : Below w1.heap.size w1 w2 := ((Below.then HB.out (Nat.le_refl _) HBY.out).alloc (by have := HB.out.size; have := HBY.out.size; omega) _).grown h22 (by have := HB.out.size; have := HBY.out.size; simp; omega) (fun g hg => (HO.out.lt g hg).1)
            have HN1 := Lib.hid hn1
            have HN2 := Lib.hid hn2
            clear h21 h22 h23 hn1 hn2
            go_wp2_with fail
            go_roundw
            case rel => exact ⟨k + 1, by go_num, by omega, HN1.out, HN2.out⟩
            case measure => simp [RowKit.intOf]; omega
    · obtain rfl : k = m.length := by omega
      have HO := Lib.hid ho
      have HB := Lib.hid hbl
      clear ho hbl
      go_wp2_with fail
      go_ret2
      refine ⟨_, rfl, ?_, Below.then HB1.out (Nat.le_refl _) HB.out⟩
      have h := HO.out
      rw [List.take_of_length_le (by simp)] at h
      exact owns_row (by rw [List.length_map]; exact h) HALL.out (fun _ _ _ => rfl)
set_option maxRecDepth 100000 in
theorem refPeak_no (m : List (List Int)) (v : Value) (w : World) (hM : MatIn w m v) (hv : validB m = false) : Calls Try.prog 23 #[v] w (RowsTold w [] 1) := by
  have hva := refValidBlock_any m v w hM
  rw [hv] at hva
  obtain ⟨a, ca, rfl, _, hal, _⟩ := id hM
  clear hM hv
  unfold RowsTold
  go_enter Try.func23, Try.ntmps23
  go_wp2_with (go_at_call 42; (with_reducible refine hva.mono ?_); rintro e w1 ⟨rfl, hb1⟩; have HB1 := Lib.hid hb1; clear hb1)
  go_ret2
  exact ⟨_, rfl, ⟨none, 0, rfl, fun i hi => absurd hi (Nat.not_lt_zero _), by simp, by simp⟩, HB1.out⟩
theorem refPeak_any (m : List (List Int)) (v : Value) (w : World) (hM : MatIn w m v) : Calls Try.prog 23 #[v] w (RowsTold w (toldOf pk m) (toldE m)) := by
  unfold toldOf toldE
  by_cases hv : validB m = true
  · rw [if_pos hv, if_pos hv]; exact refPeak_yes m v w hM hv
  · rw [if_neg hv, if_neg hv]; exact refPeak_no m v w hM (by simpa using hv)
set_option maxRecDepth 100000 in
theorem refPower_no (m : List (List Int)) (v : Value) (w : World) (hM : MatIn w m v) (hv : validB m = false) : Calls Try.prog 25 #[v] w (RowsTold w [] 1) := by
  have hva := refValidBlock_any m v w hM
  rw [hv] at hva
  obtain ⟨a, ca, rfl, _, hal, _⟩ := id hM
  clear hM hv
  unfold RowsTold
  go_enter Try.func25, Try.ntmps25
  go_wp2_with (go_at_call 42; (with_reducible refine hva.mono ?_); rintro e w1 ⟨rfl, hb1⟩; have HB1 := Lib.hid hb1; clear hb1)
  go_ret2
  exact ⟨_, rfl, ⟨none, 0, rfl, fun i hi => absurd hi (Nat.not_lt_zero _), by simp, by simp⟩, HB1.out⟩
theorem refPower_any (m : List (List Int)) (v : Value) (w : World) (hM : MatIn w m v) : Calls Try.prog 25 #[v] w (RowsTold w (toldOf pw m) (toldE m)) := by
  unfold toldOf toldE
  by_cases hv : validB m = true
  · rw [if_pos hv, if_pos hv]; exact refPower_yes m v w hM hv
  · rw [if_neg hv, if_neg hv]; exact refPower_no m v w hM (by simpa using hv)
end Go.Proofs.Ytegomicpolnpoaa
