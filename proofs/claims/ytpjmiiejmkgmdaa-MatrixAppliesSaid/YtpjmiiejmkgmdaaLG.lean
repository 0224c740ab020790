/- MatrixApplies: the law. -/
import Derived.Test.YtpjmiiejmkgmdaaGG
import Derived.Test.YtpjmiiejmkgmdaaLF
import Derived.Test.YtpjmiiejmkgmdaaKB
import Derived.Test.YtpjmiiejmkgmdaaEC
import Derived.Test.YtpjmiiejmkgmdaaEE
import Derived.Test.YtpjmiiejmkgmdaaDA
namespace Go.Proofs.Ytpjmiiejmkgmdaa
open Go.RowKit Go.Deep

set_option maxHeartbeats 2000000 in
set_option maxRecDepth 100000 in
theorem appliesLaw_dark (m b : List (List Int)) (va vb : Value) (w : World) (ha : MatIn w m va) (hb : MatIn w b vb) (hd : (smallN 12 m && smallN 300 b) = false) :
    Calls Try.prog 5 #[va, vb] w fun e w' => e = .returned (.bool true) ∧ Below w.heap.size w w' := by
  have h26 := small_b m va w ha
  have h27 := light_b b vb w hb
  cases h1 : smallN 12 m with
  | false =>
    rw [h1] at h26
    clear hd h1 h27 ha hb
    go_enter Try.func5, Try.ntmps5
    go_wp2_with (first | (go_at_call 26; (with_reducible refine h26.mono ?_); rintro e w1 ⟨rfl, rfl⟩) | (go_at_call 8; (with_reducible refine (awake_any _).mono ?_); rintro e w2 ⟨rfl, b2⟩))
    go_ret
    exact ⟨rfl, b2⟩
  | true =>
    rw [h1] at h26
    have h2 : smallN 300 b = false := by simpa [h1] using hd
    rw [h2] at h27
    clear hd h1 h2 ha hb
    go_enter Try.func5, Try.ntmps5
    go_wp2_with (first | (go_at_call 26; (with_reducible refine h26.mono ?_); rintro e w1 ⟨rfl, rfl⟩) | (go_at_call 27; (with_reducible refine h27.mono ?_); rintro e w1 ⟨rfl, rfl⟩) | (go_at_call 8; (with_reducible refine (awake_any _).mono ?_); rintro e w2 ⟨rfl, b2⟩))
    go_ret
    exact ⟨rfl, b2⟩

set_option maxHeartbeats 4000000 in
set_option maxRecDepth 100000 in
theorem appliesLaw_light (m b : List (List Int)) (va vb : Value) (w : World) (ha : MatIn w m va) (hb : MatIn w b vb) (hs1 : smallN 12 m = true) (hs2 : smallN 300 b = true)
    (vm vt pb : Bool) (N : List (List Int)) (E : Int) (hvm : validM m = vm) (hvb : validB b = vt)
    (h28 : ∀ x, Below w.heap.size w x → Calls Try.prog 28 #[va] x (MatAns x N E)) (h29 : ∀ x, Below w.heap.size w x → Calls Try.prog 29 #[va] x (MatAns x N E))
    (h16 : ∀ x, Below w.heap.size w x → Calls Try.prog 16 #[va] x fun e w' => e = .returned (.tuple #[.bool pb, .int .i64 E]) ∧ Below x.heap.size x w')
    (h30 : ∀ x, Below w.heap.size w x → Calls Try.prog 30 #[va] x fun e w' => e = .returned (.tuple #[.bool pb, .int .i64 E]) ∧ Below x.heap.size x w') :
    Calls Try.prog 5 #[va, vb] w fun e w' => e = .returned (.bool true) ∧ Below w.heap.size w w' := by
  have h26 := small_b m va w ha
  have h27 := light_b b vb w hb
  rw [hs1] at h26
  rw [hs2] at h27
  have HA := Lib.hid (fun (x : World) (hx : Below w.heap.size w x) => ha.mono (Same.of_below hx))
  have HB := Lib.hid (fun (x : World) (hx : Below w.heap.size w x) => hb.mono (Same.of_below hx))
  have H28 := Lib.hid h28
  have H29 := Lib.hid h29
  have H16 := Lib.hid h16
  have H30 := Lib.hid h30
  have h31 := fun (x : World) hx => apply_any m b va vb x (HA.out x hx) (HB.out x hx)
  have h32 := fun (x : World) hx => refApply_any m b va vb x (HA.out x hx) (HB.out x hx)
  have h33 := fun (x : World) hx => validMatrix_any m va x (HA.out x hx)
  have h34 := fun (x : World) hx => refValidMatrix_any m va x (HA.out x hx)
  have h35 := fun (x : World) hx => validBlock_any b vb x (HB.out x hx)
  have h36 := fun (x : World) hx => refValidBlock_any b vb x (HB.out x hx)
  rw [hvm] at h33 h34
  rw [hvb] at h35 h36
  obtain ⟨R, hRR⟩ : ∃ R, applyR m b = R := ⟨_, rfl⟩
  obtain ⟨K, hKK⟩ : ∃ K, applyE m b = K := ⟨_, rfl⟩
  rw [hRR, hKK] at h31 h32
  have H31 := Lib.hid h31
  have H32 := Lib.hid h32
  have H33 := Lib.hid h33
  have H34 := Lib.hid h34
  have H35 := Lib.hid h35
  have H36 := Lib.hid h36
  have H15 := Lib.hid (fun (xs : List (List Int)) (va vb : Value) (e : Int) (x : World) (h1 : MatIn x xs va) (h2 : MatIn x xs vb) => matrices_any xs xs va vb e e x h1 h2)
  have H25 := Lib.hid (fun (xs : List (List Int)) (va vb : Value) (x : World) (h1 : MatIn x xs va) (h2 : MatIn x xs vb) => sameBlock_any xs xs va vb x h1 h2)
  simp only [decide_true, Bool.and_true] at H15 H25
  have B0 := Lib.hid (Below.refl w.heap.size w)
  clear hs1 hs2 ha hb hvm hvb h28 h29 h16 h30 h31 h32 h33 h34 h35 h36 hRR hKK
  go_enter Try.func5, Try.ntmps5
  go_wp2_with (first
    | (go_at_call 26; (with_reducible refine h26.mono ?_); rintro e w1 ⟨rfl, rfl⟩; clear h26)
    | (go_at_call 27; (with_reducible refine h27.mono ?_); rintro e w1 ⟨rfl, rfl⟩; clear h27)
    | (go_at_call 28; (with_reducible refine (H28.out _ B0.out).mono ?_); rintro e w1 ⟨v1, rfl, m1, b1⟩; have M1 := Lib.hid m1; have B1 := Lib.hid (Below.then B0.out (Nat.le_refl _) b1); clear m1 b1)
    | (go_at_call 29; (with_reducible refine (H29.out _ B1.out).mono ?_); rintro e w2 ⟨v2, rfl, m2, b2⟩; have M2 := Lib.hid m2; have M1b := Lib.hid (M1.out.mono (Same.of_below b2)); have B2 := Lib.hid (Below.then B1.out (Nat.le_refl _) b2); clear m2 b2)
    | (go_at_call 16; (with_reducible refine (H16.out _ B2.out).mono ?_); rintro e w3 ⟨rfl, b3⟩; have M2c := Lib.hid (M2.out.mono (Same.of_below b3)); have M1c := Lib.hid (M1b.out.mono (Same.of_below b3)); have B3 := Lib.hid (Below.then B2.out (Nat.le_refl _) b3); clear b3)
    | (go_at_call 30; (with_reducible refine (H30.out _ B3.out).mono ?_); rintro e w4 ⟨rfl, b4⟩; have M2d := Lib.hid (M2c.out.mono (Same.of_below b4)); have M1d := Lib.hid (M1c.out.mono (Same.of_below b4)); have B4 := Lib.hid (Below.then B3.out (Nat.le_refl _) b4); clear b4)
    | (go_at_call 31; (with_reducible refine (H31.out _ B4.out).mono ?_); rintro e w5 ⟨v5, rfl, m5, b5⟩; have M5 := Lib.hid m5; have M2e := Lib.hid (M2d.out.mono (Same.of_below b5)); have M1e := Lib.hid (M1d.out.mono (Same.of_below b5)); have B5 := Lib.hid (Below.then B4.out (Nat.le_refl _) b5); clear m5 b5)
    | (go_at_call 32; (with_reducible refine (H32.out _ B5.out).mono ?_); rintro e w6 ⟨v6, rfl, m6, b6⟩; have M6 := Lib.hid m6; have M5f := Lib.hid (M5.out.mono (Same.of_below b6)); have M2f := Lib.hid (M2e.out.mono (Same.of_below b6)); have M1f := Lib.hid (M1e.out.mono (Same.of_below b6)); have B6 := Lib.hid (Below.then B5.out (Nat.le_refl _) b6); clear m6 b6)
    | (go_at_call 33; (with_reducible refine (H33.out _ B6.out).mono ?_); rintro e w7 ⟨rfl, rfl⟩)
    | (go_at_call 34; (with_reducible refine (H34.out _ B6.out).mono ?_); rintro e w7 ⟨rfl, b7⟩; have M6g := Lib.hid (M6.out.mono (Same.of_below b7)); have M5g := Lib.hid (M5f.out.mono (Same.of_below b7)); have M2g := Lib.hid (M2f.out.mono (Same.of_below b7)); have M1g := Lib.hid (M1f.out.mono (Same.of_below b7)); have B7 := Lib.hid (Below.then B6.out (Nat.le_refl _) b7); clear b7)
    | (go_at_call 35; (with_reducible refine (H35.out _ B7.out).mono ?_); rintro e w8 ⟨rfl, rfl⟩)
    | (go_at_call 36; (with_reducible refine (H36.out _ B7.out).mono ?_); rintro e w8 ⟨rfl, b8⟩; have M6h := Lib.hid (M6g.out.mono (Same.of_below b8)); have M5h := Lib.hid (M5g.out.mono (Same.of_below b8)); have M2h := Lib.hid (M2g.out.mono (Same.of_below b8)); have M1h := Lib.hid (M1g.out.mono (Same.of_below b8)); have B8 := Lib.hid (Below.then B7.out (Nat.le_refl _) b8); clear b8)
    | (go_at_call 15; (with_reducible refine (H15.out _ _ _ _ _ M1h.out M2h.out).mono ?_); rintro e w9 ⟨rfl, b9⟩; have M6i := Lib.hid (M6h.out.mono (Same.of_below b9)); have M5i := Lib.hid (M5h.out.mono (Same.of_below b9)); have B9 := Lib.hid (Below.then B8.out (Nat.le_refl _) b9); clear b9)
    | (go_at_call 25; (with_reducible refine (H25.out _ _ _ _ M5i.out M6i.out).mono ?_); rintro e wa ⟨rfl, ba⟩; have BA := Lib.hid (Below.then B9.out (Nat.le_refl _) ba); clear ba)
    | (go_at_call 8; (with_reducible refine (awake_any _).mono ?_); rintro e wb ⟨rfl, bb⟩; have BB := Lib.hid (Below.then BA.out (Nat.le_refl _) bb); clear bb))
  go_ret
  exact ⟨rfl, BB.out⟩

theorem appliesLaw_any (m b : List (List Int)) (va vb : Value) (w : World) (ha : MatIn w m va) (hb : MatIn w b vb) :
    Calls Try.prog 5 #[va, vb] w fun e w' => e = .returned (.bool true) ∧ Below w.heap.size w w' := by
  cases h1 : smallN 12 m && smallN 300 b with
  | false => exact appliesLaw_dark m b va vb w ha hb h1
  | true =>
    simp only [Bool.and_eq_true] at h1
    have hm := fun (x : World) (hx : Below w.heap.size w x) => ha.mono (Same.of_below hx)
    cases hvm : validM m with
    | false =>
      exact appliesLaw_light m b va vb w ha hb h1.1 h1.2 false (validB b) false [] 1 hvm rfl (fun x hx => normalM_no m va x (hm x hx) hvm) (fun x hx => refNormal_no m va x (hm x hx) hvm)
        (fun x hx => plainM_no m va x (hm x hx) hvm) (fun x hx => refPlain_no m va x (hm x hx) hvm)
    | true =>
      obtain ⟨pb, hpb⟩ : ∃ pb : Bool, (pb = true ↔ PlainP m) := by
        by_cases h : PlainP m
        · exact ⟨true, by simp [h]⟩
        · exact ⟨false, by simp [h]⟩
      have hpl : ∀ (x : World) (e : Ending) (w' : World), PlA m x e w' → e = .returned (.tuple #[.bool pb, .int .i64 0]) ∧ Below x.heap.size x w' := by
        rintro x e w' ⟨bb, rfl, hbb, hbl⟩
        have : bb = pb := by
          cases bb <;> cases pb <;> simp_all
        exact ⟨by rw [this], hbl⟩
      exact appliesLaw_light m b va vb w ha hb h1.1 h1.2 true (validB b) pb (normalM m) 0 hvm rfl (fun x hx => normalM_yes m va x (hm x hx) hvm) (fun x hx => refNormal_yes m va x (hm x hx) hvm)
        (fun x hx => (plainM_yes m va x (hm x hx) hvm).mono (hpl x)) (fun x hx => (refPlain_yes m va x (hm x hx) hvm).mono (hpl x))
end Go.Proofs.Ytpjmiiejmkgmdaa
