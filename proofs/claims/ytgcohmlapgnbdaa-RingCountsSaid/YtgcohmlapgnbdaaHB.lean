/- Filled and Room, whole, on both sides; RingCounts' law. -/
import Derived.Test.YtgcohmlapgnbdaaVC
namespace Go.Proofs.Ytgcohmlapgnbdaa
open Go.RowKit Go.Shelf Go.Deep

def roomK (n a b : Int) : Int := if sizB n && (ctrB a && ctrB b) then (if aheadI a b ≤ n then 0 else 11) else 7
def roomR (n a b : Int) : Int := if roomK n a b = 0 then n - aheadI a b else 0
set_option maxRecDepth 100000
theorem fit42_num {u k : Int} (f : FuncId) (caps : Array Value) (w : World) (hk : k ≠ 0 → u = 0)
    (hcf : ∀ w : World, (callFunc f caps).run Try.prog w = .ok (.enter f caps) w)
    (hc : ∀ x, Below w.heap.size w x → Calls Try.prog f caps x fun e w' => e = endOf (.int .i64 u) k ∧ w' = x) : Calls Try.prog 42 #[.func (.func f) #[] caps] w (IntAns w u k) := by
  refine (fitted42_any f caps w (fun v j w1 => v = .int .i64 u ∧ j = k ∧ Below (w.alloc (.cells #[.int .i64 0] 26)).heap.size (w.alloc (.cells #[.int .i64 0] 26)) w1) hcf ((hc _ ((Below.refl _ w).alloc (Nat.le_refl _) _)).mono ?_)).mono ?_
  · rintro e w1 ⟨rfl, rfl⟩
    exact ⟨keeps_below (Below.refl _ _), out_of (fun h0 => ⟨rfl, h0.symm, Below.refl _ _⟩) fun h0 => ⟨by rw [hk h0], rfl, Below.refl _ _⟩⟩
  · rintro e w' ⟨v, j, w1, rfl, ⟨rfl, rfl, h2⟩, _, hn⟩
    exact ⟨rfl, below_near h2 hn⟩
theorem filled_any (a b : Int) (w : World) : Calls Try.prog 21 #[.int .i64 a, .int .i64 b] w (IntAns w (filR a b) (filK a b)) := by
  have hmf := makes
  obtain ⟨X, hX⟩ : ∃ X, Obj.cells #[.int .i64 a] 3 = X := ⟨_, rfl⟩
  obtain ⟨Y, hY⟩ : ∃ Y, Obj.cells #[.int .i64 b] 3 = Y := ⟨_, rfl⟩
  have hbel : Below w.heap.size w ((w.alloc X).alloc Y) := (((Below.refl _ w).alloc (Nat.le_refl _) _).alloc (by simp) _)
  have c0 : ((w.alloc X).alloc Y).cell? ⟨w.heap.size, 0, none⟩ = some (.int .i64 a) := by
    refine (Same.alloc _ Y).cell ?_; rw [← hX]; simp [go_sem]
  have c1 : ((w.alloc X).alloc Y).cell? ⟨w.heap.size + 1, 0, none⟩ = some (.int .i64 b) := by rw [← hY]; simp [go_sem]
  obtain ⟨Z, hZ⟩ : ∃ Z, (w.alloc X).alloc Y = Z := ⟨_, rfl⟩
  rw [hZ] at hbel c0 c1
  have hf := fit42_num (u := filR a b) (k := filK a b) 74 #[at0 w.heap.size, at0 (w.heap.size + 1)] Z (fun hk => by
    unfold filK at hk; unfold filR
    split
    · rename_i h; rw [if_pos h] at hk; exact absurd rfl hk
    · rfl) (enters_of Try.func74 (by kernel_rfl) rfl _)
    (fun x hx => filled1_any a b _ _ x ((Same.of_below hx).cell c0) ((Same.of_below hx).cell c1))
  unfold IntAns at hf
  have HB := Lib.hid hbel
  generalize filR a b = u at *
  generalize filK a b = k at *
  clear hbel c0 c1
  subst hZ
  subst hX
  subst hY
  go_enter Try.func21, Try.ntmps21
  go_wp2_with (go_at_call 42; (with_reducible refine hf.mono ?_); rintro e w1 ⟨rfl, h2⟩; have HH := Lib.hid (Below.then HB.out (Nat.le_refl _) h2); clear h2)
  go_ret2
  exact ⟨rfl, HH.out⟩
theorem refFilled_any (a b : Int) (hIa : I64 a) (hIb : I64 b) (w : World) : Calls Try.prog 22 #[.int .i64 a, .int .i64 b] w fun e w' => e = .returned (.tuple #[.int .i64 (filR a b), .int .i64 (filK a b)]) ∧ w = w' := by
  have ha := counter_any a w
  have hb := counter_any b w
  cases h1 : ctrB a with
  | false =>
    rw [h1] at ha
    rw [show filR a b = 0 by simp [filR, h1], show filK a b = 7 by simp [filK, h1]]
    clear h1
    go_enter Try.func22, Try.ntmps22
    go_wp2_with (go_at_call 41; (with_reducible refine ha.mono ?_); rintro e w1 ⟨rfl, rfl⟩)
    go_ret2
    exact ⟨rfl, rfl⟩
  | true =>
    rw [h1] at ha
    cases h2 : ctrB b with
    | false =>
      rw [h2] at hb
      rw [show filR a b = 0 by simp [filR, h2], show filK a b = 7 by simp [filK, h2]]
      clear h1 h2
      go_enter Try.func22, Try.ntmps22
      go_wp2_with (first | (go_at_call 41; (with_reducible refine ha.mono ?_); rintro e w1 ⟨rfl, rfl⟩) | (go_at_call 41; (with_reducible refine hb.mono ?_); rintro e w1 ⟨rfl, rfl⟩))
      go_ret2
      exact ⟨rfl, rfl⟩
    | true =>
      rw [h2] at hb
      obtain ⟨a0, a1⟩ := ctrB_t h1
      obtain ⟨b0, b1⟩ := ctrB_t h2
      have hr : aheadI a b = (a - b + 65536) % 65536 := by unfold aheadI; omega
      rw [show filR a b = aheadI a b by simp [filR, h1, h2], show filK a b = 0 by simp [filK, h1, h2], hr]
      clear h1 h2 hr
      go_enter Try.func22, Try.ntmps22
      go_wp2_with (first | (go_at_call 41; (with_reducible refine ha.mono ?_); rintro e w1 ⟨rfl, rfl⟩) | (go_at_call 41; (with_reducible refine hb.mono ?_); rintro e w1 ⟨rfl, rfl⟩))
      go_ret2
      refine ⟨?_, rfl⟩
      first | rfl | (congr 4; omega)
theorem room1_any (n a b : Int) (N A B : Nat) (w : World) (kn : w.cell? ⟨N, 0, none⟩ = some (.int .i64 n)) (ka : w.cell? ⟨A, 0, none⟩ = some (.int .i64 a)) (kb : w.cell? ⟨B, 0, none⟩ = some (.int .i64 b)) :
    Calls Try.prog 76 #[at0 N, at0 A, at0 B] w fun e w' => e = endOf (.int .i64 (roomR n a b)) (roomK n a b) ∧ w' = w := by
  have hah := ahead_any a b w
  have hy := must_yes 11 w
  have hn := must_no 11 w
  cases h0 : sizB n with
  | false =>
    have h := mustSiz_no h0 w
    have e1 : roomK n a b = 7 := by simp [roomK, h0]
    rw [show roomR n a b = 0 by unfold roomR; rw [e1]; rfl, e1]
    clear h0 e1
    go_enter Try.func76, Try.ntmps76
    go_wp2_with (go_at_call 37; (with_reducible refine h.mono ?_); rintro e w1 ⟨rfl, rfl⟩)
    exact ⟨rfl, rfl, rfl⟩
  | true =>
    have h := mustSiz_yes h0 w
    obtain ⟨z1, z2⟩ := sizB_t h0
    cases ha : ctrB a with
    | false =>
      have h2 := mustCtr_no ha w
      have e1 : roomK n a b = 7 := by simp [roomK, ha]
      rw [show roomR n a b = 0 by unfold roomR; rw [e1]; rfl, e1]
      clear h0 e1 ha
      go_enter Try.func76, Try.ntmps76
      go_wp2_with (first | (go_at_call 37; (with_reducible refine h.mono ?_); rintro e w1 ⟨rfl, rfl⟩) | (go_at_call 39; (with_reducible refine h2.mono ?_); rintro e w1 ⟨rfl, rfl⟩))
      exact ⟨rfl, rfl, rfl⟩
    | true =>
      have h2 := mustCtr_yes ha w
      have ea := conv16 ha
      cases hb : ctrB b with
      | false =>
        have h3 := mustCtr_no hb w
        have e1 : roomK n a b = 7 := by simp [roomK, hb]
        rw [show roomR n a b = 0 by unfold roomR; rw [e1]; rfl, e1]
        clear h0 e1 ha hb
        go_enter Try.func76, Try.ntmps76
        go_wp2_with (first | (go_at_call 37; (with_reducible refine h.mono ?_); rintro e w1 ⟨rfl, rfl⟩) | (go_at_call 39; (with_reducible refine h2.mono ?_); rintro e w1 ⟨rfl, rfl⟩) | (go_at_call 39; (with_reducible refine h3.mono ?_); rintro e w1 ⟨rfl, rfl⟩))
        exact ⟨rfl, rfl, rfl⟩
      | true =>
        have h3 := mustCtr_yes hb w
        have eb := conv16 hb
        obtain ⟨b1, b2⟩ := ahead_bd a b
        by_cases hle : aheadI a b ≤ n
        · have e1 : roomK n a b = 0 := by simp [roomK, h0, ha, hb, hle]
          rw [show roomR n a b = n - aheadI a b by unfold roomR; rw [e1]; rfl, e1]
          generalize aheadI a b = T at *
          clear h0 e1 ha hb
          go_enter Try.func76, Try.ntmps76
          go_wp2_with (first | (go_at_call 37; (with_reducible refine h.mono ?_); rintro e w1 ⟨rfl, rfl⟩) | (go_at_call 39; (with_reducible refine h2.mono ?_); rintro e w1 ⟨rfl, rfl⟩) | (go_at_call 39; (with_reducible refine h3.mono ?_); rintro e w1 ⟨rfl, rfl⟩) | (go_at_call 75; (try rw [ea, eb]); (with_reducible refine hah.mono ?_); rintro e w1 ⟨rfl, rfl⟩) | (go_at_call 38; (with_reducible refine hy.mono ?_); rintro e w1 ⟨rfl, rfl⟩))
          go_ret
          exact ⟨rfl, rfl⟩
        · have e1 : roomK n a b = 11 := by simp [roomK, h0, ha, hb, hle]
          rw [show roomR n a b = 0 by unfold roomR; rw [e1]; rfl, e1]
          generalize aheadI a b = T at *
          have hle2 : decide (T ≤ n) = false := decide_eq_false hle
          clear h0 e1 ha hb
          go_enter Try.func76, Try.ntmps76
          go_wp2_with (first | (go_at_call 37; (with_reducible refine h.mono ?_); rintro e w1 ⟨rfl, rfl⟩) | (go_at_call 39; (with_reducible refine h2.mono ?_); rintro e w1 ⟨rfl, rfl⟩) | (go_at_call 39; (with_reducible refine h3.mono ?_); rintro e w1 ⟨rfl, rfl⟩) | (go_at_call 75; (try rw [ea, eb]); (with_reducible refine hah.mono ?_); rintro e w1 ⟨rfl, rfl⟩) | (go_at_call 38; (with_reducible refine hn.mono ?_); rintro e w1 ⟨rfl, rfl⟩))
          exact ⟨rfl, rfl, rfl⟩
theorem roomM_any (n a b : Int) (w : World) : Calls Try.prog 23 #[.int .i64 n, .int .i64 a, .int .i64 b] w (IntAns w (roomR n a b) (roomK n a b)) := by
  have hmf := makes
  obtain ⟨U, hU⟩ : ∃ U, Obj.cells #[.int .i64 n] 3 = U := ⟨_, rfl⟩
  obtain ⟨X, hX⟩ : ∃ X, Obj.cells #[.int .i64 a] 3 = X := ⟨_, rfl⟩
  obtain ⟨Y, hY⟩ : ∃ Y, Obj.cells #[.int .i64 b] 3 = Y := ⟨_, rfl⟩
  have hbel : Below w.heap.size w (((w.alloc U).alloc X).alloc Y) := ((((Below.refl _ w).alloc (Nat.le_refl _) _).alloc (by simp) _).alloc (by simp <;> omega) _)
  have cn : (((w.alloc U).alloc X).alloc Y).cell? ⟨w.heap.size, 0, none⟩ = some (.int .i64 n) := by
    refine (Same.alloc _ Y).cell ((Same.alloc _ X).cell ?_); rw [← hU]; simp [go_sem]
  have c0 : (((w.alloc U).alloc X).alloc Y).cell? ⟨w.heap.size + 1, 0, none⟩ = some (.int .i64 a) := by
    refine (Same.alloc _ Y).cell ?_; rw [← hX]; simp [go_sem]
  have c1 : (((w.alloc U).alloc X).alloc Y).cell? ⟨w.heap.size + 1 + 1, 0, none⟩ = some (.int .i64 b) := by rw [← hY]; simp [go_sem]
  obtain ⟨Z, hZ⟩ : ∃ Z, ((w.alloc U).alloc X).alloc Y = Z := ⟨_, rfl⟩
  rw [hZ] at hbel c0 c1 cn
  have hf := fit42_num (u := roomR n a b) (k := roomK n a b) 76 #[at0 w.heap.size, at0 (w.heap.size + 1), at0 (w.heap.size + 1 + 1)] Z (fun hk => by unfold roomR; rw [if_neg hk]) (enters_of Try.func76 (by kernel_rfl) rfl _)
    (fun x hx => room1_any n a b _ _ _ x ((Same.of_below hx).cell cn) ((Same.of_below hx).cell c0) ((Same.of_below hx).cell c1))
  unfold IntAns at hf
  have HB := Lib.hid hbel
  generalize roomR n a b = u at *
  generalize roomK n a b = k at *
  clear hbel c0 c1 cn
  subst hZ
  subst hX
  subst hY
  subst hU
  go_enter Try.func23, Try.ntmps23
  go_wp2_with (go_at_call 42; (with_reducible refine hf.mono ?_); rintro e w1 ⟨rfl, h2⟩; have HH := Lib.hid (Below.then HB.out (Nat.le_refl _) h2); clear h2)
  go_ret2
  exact ⟨rfl, HH.out⟩
theorem refRoom_any (n a b : Int) (hIa : I64 a) (hIb : I64 b) (w : World) : Calls Try.prog 24 #[.int .i64 n, .int .i64 a, .int .i64 b] w fun e w' => e = .returned (.tuple #[.int .i64 (roomR n a b), .int .i64 (roomK n a b)]) ∧ w = w' := by
  have hf := refFilled_any a b hIa hIb w
  have hs := size_any n w
  by_cases hc : (ctrB a && ctrB b) = true
  · rw [show filR a b = aheadI a b by unfold filR; rw [if_pos hc], show filK a b = 0 by unfold filK; rw [if_pos hc]] at hf
    obtain ⟨b1, b2⟩ := ahead_bd a b
    cases h0 : sizB n with
    | false =>
      rw [h0] at hs
      have e1 : roomK n a b = 7 := by simp [roomK, h0]
      rw [show roomR n a b = 0 by unfold roomR; rw [e1]; rfl, e1]
      generalize aheadI a b = T at *
      clear h0 e1 hc
      go_enter Try.func24, Try.ntmps24
      go_wp2_with (first | (go_at_call 22; (with_reducible refine hf.mono ?_); rintro e w1 ⟨rfl, rfl⟩) | (go_at_call 40; (with_reducible refine hs.mono ?_); rintro e w1 ⟨rfl, rfl⟩))
      go_ret2
      exact ⟨rfl, rfl⟩
    | true =>
      rw [h0] at hs
      obtain ⟨z1, z2⟩ := sizB_t h0
      by_cases hle : aheadI a b ≤ n
      · have e1 : roomK n a b = 0 := by simp only [roomK, h0, hc]; simp [hle]
        rw [show roomR n a b = n - aheadI a b by unfold roomR; rw [e1]; rfl, e1]
        generalize aheadI a b = T at *
        have hle3 : ¬ n < T := by omega
        clear h0 e1 hc
        go_enter Try.func24, Try.ntmps24
        go_wp2_with (first | (go_at_call 22; (with_reducible refine hf.mono ?_); rintro e w1 ⟨rfl, rfl⟩) | (go_at_call 40; (with_reducible refine hs.mono ?_); rintro e w1 ⟨rfl, rfl⟩))
        go_ret2
        exact ⟨rfl, rfl⟩
      · have e1 : roomK n a b = 11 := by simp only [roomK, h0, hc]; simp [hle]
        rw [show roomR n a b = 0 by unfold roomR; rw [e1]; rfl, e1]
        generalize aheadI a b = T at *
        have hle3 : n < T := by omega
        clear h0 e1 hc
        go_enter Try.func24, Try.ntmps24
        go_wp2_with (first | (go_at_call 22; (with_reducible refine hf.mono ?_); rintro e w1 ⟨rfl, rfl⟩) | (go_at_call 40; (with_reducible refine hs.mono ?_); rintro e w1 ⟨rfl, rfl⟩))
        go_ret2
        exact ⟨rfl, rfl⟩
  · rw [show filR a b = 0 by unfold filR; rw [if_neg hc], show filK a b = 7 by unfold filK; rw [if_neg hc]] at hf
    have e1 : roomK n a b = 7 := by unfold roomK; rw [if_neg (by simp at hc ⊢; intro _; exact hc)]
    rw [show roomR n a b = 0 by unfold roomR; rw [e1]; rfl, e1]
    clear e1 hc
    go_enter Try.func24, Try.ntmps24
    go_wp2_with (go_at_call 22; (with_reducible refine hf.mono ?_); rintro e w1 ⟨rfl, rfl⟩)
    go_ret2
    exact ⟨rfl, rfl⟩
set_option maxHeartbeats 2000000 in
theorem countsLaw_any (n a b : Int) (hIn : I64 n) (hIa : I64 a) (hIb : I64 b) (w : World) : Calls Try.prog 4 #[.int .i64 n, .int .i64 a, .int .i64 b] w fun e w' => e = .returned (.bool true) ∧ Below w.heap.size w w' := by
  have P1 := filled_any a b w
  have Q1 := Lib.hid (refFilled_any a b hIa hIb)
  have P2 := Lib.hid (roomM_any n a b)
  have Q2 := Lib.hid (refRoom_any n a b hIa hIb)
  have HAW := Lib.hid awake_any
  have hsum : roomK n a b ≠ 0 ∨ (roomK n a b = 0 ∧ wrap64 (filR a b + roomR n a b) = n) := by
    by_cases h : roomK n a b = 0
    · right
      refine ⟨h, ?_⟩
      have h2 : filR a b = aheadI a b ∧ roomR n a b = n - aheadI a b := by
        unfold roomR; rw [if_pos h]
        unfold roomK at h
        split at h
        · rename_i h3
          rw [Bool.and_eq_true] at h3
          exact ⟨by unfold filR; rw [if_pos h3.2], rfl⟩
        · cases h
      rw [h2.1, h2.2]; unfold wrap64; unfold I64 at hIn; omega
    · exact .inl h
  unfold IntAns at P1 P2
  generalize filR a b = r1 at *
  generalize filK a b = k1 at *
  generalize roomR n a b = r2 at *
  generalize roomK n a b = k2 at *
  rcases hsum with h | ⟨rfl, h⟩
  all_goals
    go_enter Try.func4, Try.ntmps4
    go_wp2_with (first
      | (go_at_call 21; (with_reducible refine P1.mono ?_); rintro e w1 ⟨rfl, b1⟩; have B1 := Lib.hid b1; clear b1 P1)
      | (go_at_call 22; (with_reducible refine (Q1.out _).mono ?_); rintro e w2 ⟨rfl, rfl⟩)
      | (go_at_call 23; (with_reducible refine (P2.out _).mono ?_); rintro e w3 ⟨rfl, b3⟩; have B3 := Lib.hid (Below.then B1.out (Nat.le_refl _) b3); clear b3)
      | (go_at_call 24; (with_reducible refine (Q2.out _).mono ?_); rintro e w4 ⟨rfl, rfl⟩)
      | (go_at_call 9; (with_reducible refine (HAW.out _).mono ?_); rintro e w9 ⟨rfl, b9⟩; have B9 := Lib.hid (Below.then B3.out (Nat.le_refl _) b9); clear b9))
    go_ret
    exact ⟨rfl, B9.out⟩
end Go.Proofs.Ytgcohmlapgnbdaa
