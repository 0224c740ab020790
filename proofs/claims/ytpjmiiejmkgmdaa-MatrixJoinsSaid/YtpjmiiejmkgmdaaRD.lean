/- MatrixJoins: the law. -/
import Derived.Test.YtpjmiiejmkgmdaaRB
import Derived.Test.YtpjmiiejmkgmdaaRF
import Derived.Test.YtpjmiiejmkgmdaaKB
import Derived.Test.YtpjmiiejmkgmdaaDA
namespace Go.Proofs.Ytpjmiiejmkgmdaa
open Go.RowKit Go.Deep

/-- What the document's Plain answers: whether the matrix is plain, and an error where it is not valid. -/
def PlB (p : Bool) (k : Int) (w : World) (e : Ending) (w' : World) : Prop := e = .returned (.tuple #[.bool p, .int .i64 k]) ∧ Below w.heap.size w w'
theorem refPlain_all (m : List (List Int)) (va : Value) : ∃ (p : Bool) (k : Int), (p = true → PlainP m) ∧ ∀ x, MatIn x m va → Calls Try.prog 30 #[va] x (PlB p k x) := by
  cases hvm : validM m with
  | false => exact ⟨false, 1, (fun h => by cases h), fun x hx => refPlain_no m va x hx hvm⟩
  | true =>
    obtain ⟨pb, hpb⟩ : ∃ pb : Bool, (pb = true ↔ PlainP m) := by
      by_cases h : PlainP m
      · exact ⟨true, by simp [h]⟩
      · exact ⟨false, by simp [h]⟩
    refine ⟨pb, 0, hpb.1, fun x hx => (refPlain_yes m va x hx hvm).mono ?_⟩
    rintro e w' ⟨bb, rfl, hbb, hbl⟩
    have : bb = pb := by cases bb <;> cases pb <;> simp_all
    exact ⟨by rw [this], hbl⟩

set_option maxHeartbeats 4000000 in
set_option maxRecDepth 100000 in
theorem joinsLaw_dark (a s b : List (List Int)) (va vs vb : Value) (w : World) (ha : MatIn w a va) (hs : MatIn w s vs) (hb : MatIn w b vb) (x1 x2 x3 : Bool) (e1 : smallN 12 a = x1) (e2 : smallN 12 s = x2) (e3 : smallN 300 b = x3) (hd : (x1 && x2 && x3) = false) :
    Calls Try.prog 6 #[va, vs, vb] w fun e w' => e = .returned (.bool true) ∧ Below w.heap.size w w' := by
  have h26 := small_b a va w ha
  have h26s := small_b s vs w hs
  have h27 := light_b b vb w hb
  rw [e1] at h26
  rw [e2] at h26s
  rw [e3] at h27
  clear e1 e2 e3 ha hs hb
  cases x1 with
  | false =>
    clear hd h26s h27
    go_enter Try.func6, Try.ntmps6
    go_wp2_with (first | (go_at_call 26; (with_reducible refine h26.mono ?_); rintro e w1 ⟨rfl, rfl⟩) | (go_at_call 8; (with_reducible refine (awake_any _).mono ?_); rintro e w2 ⟨rfl, b2⟩))
    go_ret
    exact ⟨rfl, b2⟩
  | true =>
    cases x2 with
    | false =>
      clear hd h27
      go_enter Try.func6, Try.ntmps6
      go_wp2_with (first | (go_at_call 26; (with_reducible refine h26.mono ?_); rintro e w1 ⟨rfl, rfl⟩; clear h26) | (go_at_call 26; (with_reducible refine h26s.mono ?_); rintro e w1 ⟨rfl, rfl⟩) | (go_at_call 8; (with_reducible refine (awake_any _).mono ?_); rintro e w2 ⟨rfl, b2⟩))
      go_ret
      exact ⟨rfl, b2⟩
    | true =>
      have h3 : x3 = false := by simpa using hd
      rw [h3] at h27
      clear hd h3
      go_enter Try.func6, Try.ntmps6
      go_wp2_with (first | (go_at_call 26; (with_reducible refine h26.mono ?_); rintro e w1 ⟨rfl, rfl⟩; clear h26) | (go_at_call 26; (with_reducible refine h26s.mono ?_); rintro e w1 ⟨rfl, rfl⟩; clear h26s) | (go_at_call 27; (with_reducible refine h27.mono ?_); rintro e w1 ⟨rfl, rfl⟩) | (go_at_call 8; (with_reducible refine (awake_any _).mono ?_); rintro e w2 ⟨rfl, b2⟩))
      go_ret
      exact ⟨rfl, b2⟩

set_option maxHeartbeats 4000000 in
set_option maxRecDepth 100000 in
theorem joinsLaw_light (a s b : List (List Int)) (va vs vb : Value) (w : World) (ha : MatIn w a va) (hs : MatIn w s vs) (hb : MatIn w b vb) (g1 : smallN 12 a = true) (g2 : smallN 12 s = true) (g3 : smallN 300 b = true)
    (J R : List (List Int)) (JE RE : Int) (p q : Bool) (pk qk : Int) (hJ : joinR a s = J) (hJE : joinE a s = JE) (hR : applyR a b = R) (hRE : applyE a b = RE)
    (hp : ∀ x, MatIn x a va → Calls Try.prog 30 #[va] x (PlB p pk x)) (hq : ∀ x, MatIn x s vs → Calls Try.prog 30 #[vs] x (PlB q qk x))
    (hgo : (JE = 0 ∧ RE = 0 ∧ (p || q) = true ∧ applyE s R = 0 ∧ applyE J b = 0 ∧ applyR s R = applyR J b) ∨ ((JE != 0) = true) ∨ ((RE != 0) = true) ∨ (p = false ∧ q = false)) :
    Calls Try.prog 6 #[va, vs, vb] w fun e w' => e = .returned (.bool true) ∧ Below w.heap.size w w' := by
  have h26 := small_b a va w ha
  have h26s := small_b s vs w hs
  have h27 := light_b b vb w hb
  rw [g1] at h26
  rw [g2] at h26s
  rw [g3] at h27
  have HA := Lib.hid (fun (x : World) (hx : Below w.heap.size w x) => ha.mono (Same.of_below hx))
  have HS := Lib.hid (fun (x : World) (hx : Below w.heap.size w x) => hs.mono (Same.of_below hx))
  have HB := Lib.hid (fun (x : World) (hx : Below w.heap.size w x) => hb.mono (Same.of_below hx))
  have h37 := fun (x : World) hx => join_any a s va vs x (HA.out x hx) (HS.out x hx)
  have h38 := fun (x : World) hx => refJoin_any a s va vs x (HA.out x hx) (HS.out x hx)
  have h31 := fun (x : World) hx => apply_any a b va vb x (HA.out x hx) (HB.out x hx)
  rw [hJ, hJE] at h37 h38
  rw [hR, hRE] at h31
  have H37 := Lib.hid h37
  have H38 := Lib.hid h38
  have H31 := Lib.hid h31
  have HP := Lib.hid (fun (x : World) hx => hp x (HA.out x hx))
  have HQ := Lib.hid (fun (x : World) hx => hq x (HS.out x hx))
  have H15 := Lib.hid (fun (xs : List (List Int)) (va vb : Value) (e : Int) (x : World) (h1 : MatIn x xs va) (h2 : MatIn x xs vb) => matrices_any xs xs va vb e e x h1 h2)
  have H25 := Lib.hid (fun (xs : List (List Int)) (va vb : Value) (x : World) (h1 : MatIn x xs va) (h2 : MatIn x xs vb) => sameBlock_any xs xs va vb x h1 h2)
  simp only [decide_true, Bool.and_true] at H15 H25
  have H31s := Lib.hid (fun (v : Value) (x : World) hx (hv : MatIn x R v) => apply_any s R vs v x (HS.out x hx) hv)
  have H31j := Lib.hid (fun (v : Value) (x : World) hx (hv : MatIn x J v) => apply_any J b v vb x hv (HB.out x hx))
  have B0 := Lib.hid (Below.refl w.heap.size w)
  clear g1 g2 g3 ha hs hb h37 h38 h31 hp hq hJ hJE hR hRE
  rcases hgo with ⟨rfl, rfl, hpq, k1, k2, k3⟩ | hgo | hgo | ⟨rfl, rfl⟩
  · rw [k1, k3] at H31s
    rw [k2] at H31j
    obtain ⟨Z, hZ⟩ : ∃ Z, applyR J b = Z := ⟨_, rfl⟩
    rw [hZ] at H31s H31j
    clear k1 k2 k3 hZ
    cases p with
    | true =>
      clear hpq
      go_enter Try.func6, Try.ntmps6
      go_wp2_with (first
        | (go_at_call 26; (with_reducible refine h26.mono ?_); rintro e w1 ⟨rfl, rfl⟩; clear h26)
        | (go_at_call 26; (with_reducible refine h26s.mono ?_); rintro e w1 ⟨rfl, rfl⟩; clear h26s)
        | (go_at_call 27; (with_reducible refine h27.mono ?_); rintro e w1 ⟨rfl, rfl⟩; clear h27)
        | (go_at_call 37; (with_reducible refine (H37.out _ B0.out).mono ?_); rintro e w1 ⟨v1, rfl, m1, b1⟩; have M1 := Lib.hid m1; have B1 := Lib.hid (Below.then B0.out (Nat.le_refl _) b1); clear m1 b1)
        | (go_at_call 38; (with_reducible refine (H38.out _ B1.out).mono ?_); rintro e w2 ⟨v2, rfl, m2, b2⟩; have M2 := Lib.hid m2; have M1b := Lib.hid (M1.out.mono (Same.of_below b2)); have B2 := Lib.hid (Below.then B1.out (Nat.le_refl _) b2); clear m2 b2)
        | (go_at_call 15; (with_reducible refine (H15.out _ _ _ _ _ M1b.out M2.out).mono ?_); rintro e w3 ⟨rfl, b3⟩; have M1c := Lib.hid (M1b.out.mono (Same.of_below b3)); have B3 := Lib.hid (Below.then B2.out (Nat.le_refl _) b3); clear b3)
        | (go_at_call 30; (with_reducible refine (HP.out _ B3.out).mono ?_); rintro e w4 ⟨rfl, b4⟩; have M1d := Lib.hid (M1c.out.mono (Same.of_below b4)); have B4 := Lib.hid (Below.then B3.out (Nat.le_refl _) b4); clear b4 HP)
        | (go_at_call 30; (with_reducible refine (HQ.out _ B4.out).mono ?_); rintro e w5 ⟨rfl, b5⟩; have M1e := Lib.hid (M1d.out.mono (Same.of_below b5)); have B5 := Lib.hid (Below.then B4.out (Nat.le_refl _) b5); clear b5 HQ)
        | (go_at_call 31; (with_reducible refine (H31.out _ B5.out).mono ?_); rintro e w6 ⟨v6, rfl, m6, b6⟩; have M6 := Lib.hid m6; have M1f := Lib.hid (M1e.out.mono (Same.of_below b6)); have B6 := Lib.hid (Below.then B5.out (Nat.le_refl _) b6); clear m6 b6 H31)
        | (go_at_call 31; (with_reducible refine (H31s.out _ _ B6.out M6.out).mono ?_); rintro e w7 ⟨v7, rfl, m7, b7⟩; have M7 := Lib.hid m7; have M1g := Lib.hid (M1f.out.mono (Same.of_below b7)); have B7 := Lib.hid (Below.then B6.out (Nat.le_refl _) b7); clear m7 b7 H31s)
        | (go_at_call 31; (with_reducible refine (H31j.out _ _ B7.out M1g.out).mono ?_); rintro e w8 ⟨v8, rfl, m8, b8⟩; have M8 := Lib.hid m8; have M7b := Lib.hid (M7.out.mono (Same.of_below b8)); have B8 := Lib.hid (Below.then B7.out (Nat.le_refl _) b8); clear m8 b8)
        | (go_at_call 25; (with_reducible refine (H25.out _ _ _ _ M7b.out M8.out).mono ?_); rintro e w9 ⟨rfl, b9⟩; have B9 := Lib.hid (Below.then B8.out (Nat.le_refl _) b9); clear b9)
        | (go_at_call 8; (with_reducible refine (awake_any _).mono ?_); rintro e wb ⟨rfl, bb⟩; have BB := Lib.hid (Below.then B9.out (Nat.le_refl _) bb); clear bb))
      go_ret
      exact ⟨rfl, BB.out⟩
    | false =>
      have hq1 : q = true := by simpa using hpq
      subst hq1
      clear hpq
      go_enter Try.func6, Try.ntmps6
      go_wp2_with (first
        | (go_at_call 26; (with_reducible refine h26.mono ?_); rintro e w1 ⟨rfl, rfl⟩; clear h26)
        | (go_at_call 26; (with_reducible refine h26s.mono ?_); rintro e w1 ⟨rfl, rfl⟩; clear h26s)
        | (go_at_call 27; (with_reducible refine h27.mono ?_); rintro e w1 ⟨rfl, rfl⟩; clear h27)
        | (go_at_call 37; (with_reducible refine (H37.out _ B0.out).mono ?_); rintro e w1 ⟨v1, rfl, m1, b1⟩; have M1 := Lib.hid m1; have B1 := Lib.hid (Below.then B0.out (Nat.le_refl _) b1); clear m1 b1)
        | (go_at_call 38; (with_reducible refine (H38.out _ B1.out).mono ?_); rintro e w2 ⟨v2, rfl, m2, b2⟩; have M2 := Lib.hid m2; have M1b := Lib.hid (M1.out.mono (Same.of_below b2)); have B2 := Lib.hid (Below.then B1.out (Nat.le_refl _) b2); clear m2 b2)
        | (go_at_call 15; (with_reducible refine (H15.out _ _ _ _ _ M1b.out M2.out).mono ?_); rintro e w3 ⟨rfl, b3⟩; have M1c := Lib.hid (M1b.out.mono (Same.of_below b3)); have B3 := Lib.hid (Below.then B2.out (Nat.le_refl _) b3); clear b3)
        | (go_at_call 30; (with_reducible refine (HP.out _ B3.out).mono ?_); rintro e w4 ⟨rfl, b4⟩; have M1d := Lib.hid (M1c.out.mono (Same.of_below b4)); have B4 := Lib.hid (Below.then B3.out (Nat.le_refl _) b4); clear b4 HP)
        | (go_at_call 30; (with_reducible refine (HQ.out _ B4.out).mono ?_); rintro e w5 ⟨rfl, b5⟩; have M1e := Lib.hid (M1d.out.mono (Same.of_below b5)); have B5 := Lib.hid (Below.then B4.out (Nat.le_refl _) b5); clear b5 HQ)
        | (go_at_call 31; (with_reducible refine (H31.out _ B5.out).mono ?_); rintro e w6 ⟨v6, rfl, m6, b6⟩; have M6 := Lib.hid m6; have M1f := Lib.hid (M1e.out.mono (Same.of_below b6)); have B6 := Lib.hid (Below.then B5.out (Nat.le_refl _) b6); clear m6 b6 H31)
        | (go_at_call 31; (with_reducible refine (H31s.out _ _ B6.out M6.out).mono ?_); rintro e w7 ⟨v7, rfl, m7, b7⟩; have M7 := Lib.hid m7; have M1g := Lib.hid (M1f.out.mono (Same.of_below b7)); have B7 := Lib.hid (Below.then B6.out (Nat.le_refl _) b7); clear m7 b7 H31s)
        | (go_at_call 31; (with_reducible refine (H31j.out _ _ B7.out M1g.out).mono ?_); rintro e w8 ⟨v8, rfl, m8, b8⟩; have M8 := Lib.hid m8; have M7b := Lib.hid (M7.out.mono (Same.of_below b8)); have B8 := Lib.hid (Below.then B7.out (Nat.le_refl _) b8); clear m8 b8)
        | (go_at_call 25; (with_reducible refine (H25.out _ _ _ _ M7b.out M8.out).mono ?_); rintro e w9 ⟨rfl, b9⟩; have B9 := Lib.hid (Below.then B8.out (Nat.le_refl _) b9); clear b9)
        | (go_at_call 8; (with_reducible refine (awake_any _).mono ?_); rintro e wb ⟨rfl, bb⟩; have BB := Lib.hid (Below.then B9.out (Nat.le_refl _) bb); clear bb))
      go_ret
      exact ⟨rfl, BB.out⟩
  all_goals
    clear H31s H31j H25
    go_enter Try.func6, Try.ntmps6
    go_wp2_with (first
      | (go_at_call 26; (with_reducible refine h26.mono ?_); rintro e w1 ⟨rfl, rfl⟩; clear h26)
      | (go_at_call 26; (with_reducible refine h26s.mono ?_); rintro e w1 ⟨rfl, rfl⟩; clear h26s)
      | (go_at_call 27; (with_reducible refine h27.mono ?_); rintro e w1 ⟨rfl, rfl⟩; clear h27)
      | (go_at_call 37; (with_reducible refine (H37.out _ B0.out).mono ?_); rintro e w1 ⟨v1, rfl, m1, b1⟩; have M1 := Lib.hid m1; have B1 := Lib.hid (Below.then B0.out (Nat.le_refl _) b1); clear m1 b1)
      | (go_at_call 38; (with_reducible refine (H38.out _ B1.out).mono ?_); rintro e w2 ⟨v2, rfl, m2, b2⟩; have M2 := Lib.hid m2; have M1b := Lib.hid (M1.out.mono (Same.of_below b2)); have B2 := Lib.hid (Below.then B1.out (Nat.le_refl _) b2); clear m2 b2)
      | (go_at_call 15; (with_reducible refine (H15.out _ _ _ _ _ M1b.out M2.out).mono ?_); rintro e w3 ⟨rfl, b3⟩; have B3 := Lib.hid (Below.then B2.out (Nat.le_refl _) b3); clear b3)
      | (go_at_call 30; (with_reducible refine (HP.out _ B3.out).mono ?_); rintro e w4 ⟨rfl, b4⟩; have B4 := Lib.hid (Below.then B3.out (Nat.le_refl _) b4); clear b4 HP)
      | (go_at_call 30; (with_reducible refine (HQ.out _ B4.out).mono ?_); rintro e w5 ⟨rfl, b5⟩; have B5 := Lib.hid (Below.then B4.out (Nat.le_refl _) b5); clear b5 HQ)
      | (go_at_call 31; (with_reducible refine (H31.out _ B5.out).mono ?_); rintro e w6 ⟨v6, rfl, m6, b6⟩; have B6 := Lib.hid (Below.then B5.out (Nat.le_refl _) b6); clear m6 b6)
      | (go_at_call 8; (with_reducible refine (awake_any _).mono ?_); rintro e wb ⟨rfl, bb⟩; have BB := Lib.hid (Below.then B6.out (Nat.le_refl _) bb); clear bb))
    all_goals
      go_ret
      exact ⟨rfl, BB.out⟩

theorem joinsLaw_any (a s b : List (List Int)) (va vs vb : Value) (w : World) (ha : MatIn w a va) (hs : MatIn w s vs) (hb : MatIn w b vb) :
    Calls Try.prog 6 #[va, vs, vb] w fun e w' => e = .returned (.bool true) ∧ Below w.heap.size w w' := by
  cases hd : smallN 12 a && smallN 12 s && smallN 300 b with
  | false => exact joinsLaw_dark a s b va vs vb w ha hs hb _ _ _ rfl rfl rfl hd
  | true =>
    simp only [Bool.and_eq_true] at hd
    obtain ⟨p, pk, hpp, hpc⟩ := refPlain_all a va
    obtain ⟨q, qk, hqq, hqc⟩ := refPlain_all s vs
    refine joinsLaw_light a s b va vs vb w ha hs hb hd.1.1 hd.1.2 hd.2 _ _ _ _ p q pk qk rfl rfl rfl rfl hpc hqc ?_
    by_cases h1 : joinE a s = 0
    · by_cases h2 : applyE a b = 0
      · by_cases h3 : (p || q) = true
        · obtain ⟨va1, vs1, hsz⟩ := joinE_zero h1
          obtain ⟨_, vb1, hbz⟩ := applyE_zero h2
          obtain ⟨y1, y2, y3⟩ := applyM_valid va1 vb1
          obtain ⟨z1, z2⟩ := joinM_valid va1 vs1
          have hpl : PlainP a ∨ PlainP s := by
            rw [Bool.or_eq_true] at h3
            exact h3.imp hpp hqq
          have eR : applyR a b = applyM a b := by simp [applyR, h2]
          have eJ : joinR a s = joinM a s := by simp [joinR, h1]
          have e5 : applyE s (applyM a b) = 0 := by simp [applyE, vs1, y1, y3, hsz]
          have e6 : applyE (joinM a s) b = 0 := by simp [applyE, z1, vb1, z2, hbz]
          refine .inl ⟨h1, h2, h3, by rw [eR]; exact e5, by rw [eJ]; exact e6, ?_⟩
          rw [eR, eJ]
          simp only [applyR, e5, e6, if_true]
          exact joins_eq va1 vs1 vb1 hsz hbz hpl
        · exact .inr (.inr (.inr (by cases p <;> cases q <;> simp_all)))
      · exact .inr (.inr (.inl (by simpa using h2)))
    · exact .inr (.inl (by simpa using h1))
end Go.Proofs.Ytpjmiiejmkgmdaa
