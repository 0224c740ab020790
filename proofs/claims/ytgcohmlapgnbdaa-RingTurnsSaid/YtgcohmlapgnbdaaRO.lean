/- Write, whole; Counters, Claimed, filled. -/
import Derived.Test.YtgcohmlapgnbdaaRN
namespace Go.Proofs.Ytgcohmlapgnbdaa
open Go.RowKit Go.Shelf Go.Deep

set_option maxHeartbeats 1000000 in
set_option maxRecDepth 100000 in
theorem write50_no (P R Bv Bf : Nat) (g : Rg) (l : List (List Int)) (v : Value) (w : World) (h : RingAt P R g w) (hM : MatOff P R w l v) (hk : writeK g l ≠ 0)
    (k0 : w.cell? ⟨Bv, 0, none⟩ = some (.pointer (some ⟨P, 0, none⟩))) (k1 : w.cell? ⟨Bf, 0, none⟩ = some v) :
    Calls Try.prog 50 #[at0 Bv, at0 Bf] w (LeavesX (writeK g l) w) := by
  have HM1 := Lib.hid (must_yes 1)
  have HM9 := Lib.hid (must_no 9)
  have hB1 : Below w.heap.size w (w.drewN 1) := below_drewN (Below.refl _ _) 1
  have h51 := frames_any g.ch l v _ (hM _ (gw_below hB1))
  have hR1 := h.below hB1
  have c1 : w.cell? ⟨P, 1, none⟩ = some (.int .i64 g.ch) := h.c (k := 1) (by decide) (by decide)
  have HB1 := Lib.hid hB1
  have m0 := (Same.of_below hB1).cell k0
  have m1 := (Same.of_below hB1).cell k1
  have c5 : (w.drewN 1).cell? ⟨P, 5, none⟩ = some (.bool g.wh) := hR1.c (k := 5) (by decide) (by decide)
  cases hf : frms g.ch l with
  | false =>
    have h51' : Calls Try.prog 51 #[.int .i64 g.ch, v] (w.drewN 1) fun e w' => e = .panicked (misfit 1) ∧ w.drewN 1 = w' := h51.mono (by
      rintro e w' ⟨⟨h1, _⟩ | ⟨_, rfl⟩, rfl⟩
      · rw [hf] at h1; cases h1
      · exact ⟨rfl, rfl⟩)
    rw [show writeK g l = 1 by unfold writeK; rw [if_pos hf]]
    obtain ⟨av, cv, rfl, _, _, hcv⟩ := hM w (Gw.refl _ _ _)
    clear hM h hk h51 hR1 hf hB1 m0 m1 c5
    go_enter Try.func50, Try.ntmps50
    go_upto_region 2 with (go_at_call 38; (with_reducible refine (HM1.out _).mono ?_); rintro e w1 ⟨rfl, rfl⟩)
    go_still_tail 5, (by kernel_rfl)
    change wpList _ _ _ _ _ (w.drewN 1)
    clear k0 k1 c1
    generalize w.drewN 1 = W1 at *
    go_wp2_with (go_at_call 51; (with_reducible refine h51'.mono ?_); rintro e w1 ⟨rfl, rfl⟩)
    exact ⟨rfl, rfl, HB1.out⟩
  | true =>
    have h51' : Calls Try.prog 51 #[.int .i64 g.ch, v] (w.drewN 1) fun e w' => e = .returned (.tuple #[]) ∧ w.drewN 1 = w' := h51.mono (by
      rintro e w' ⟨⟨_, rfl⟩ | ⟨h1, _⟩, rfl⟩
      · exact ⟨rfl, rfl⟩
      · rw [hf] at h1; cases h1)
    have hh : g.wh = true := by
      cases hx : g.wh with
      | true => rfl
      | false => exact absurd (by unfold writeK; rw [if_neg (by rw [hf]; decide), if_neg (by rw [hx]; decide)]) hk
    rw [show writeK g l = 9 by unfold writeK; rw [if_neg (by rw [hf]; decide), if_pos hh]]
    rw [hh] at c5
    obtain ⟨av, cv, rfl, _, _, hcv⟩ := hM w (Gw.refl _ _ _)
    clear hM h hk h51 hR1 hf hB1 hh
    go_enter Try.func50, Try.ntmps50
    go_upto_region 2 with (go_at_call 38; (with_reducible refine (HM1.out _).mono ?_); rintro e w1 ⟨rfl, rfl⟩)
    go_still_tail 5, (by kernel_rfl)
    change wpList _ _ _ _ _ (w.drewN 1)
    clear k0 k1 c1
    generalize w.drewN 1 = W1 at *
    go_wp2_with (first | (go_at_call 51; (with_reducible refine h51'.mono ?_); rintro e w1 ⟨rfl, rfl⟩) | (go_at_call 38; (with_reducible refine (HM9.out _).mono ?_); rintro e w1 ⟨rfl, rfl⟩))
    exact ⟨rfl, rfl, HB1.out⟩
set_option maxRecDepth 100000 in
theorem writeM_any (P R : Nat) (g : Rg) (l : List (List Int)) (v : Value) (w : World) (h : RingAt P R g w) (hok : g.Ok) (hM : MatOff P R w l v) (hroom : 0 ≤ g.room') :
    Calls Try.prog 14 #[.pointer (some ⟨P, 0, none⟩), v] w (Meth P R (writeR g l) (.int .i64 (writeU g l)) (writeK g l) w) := by
  have hmf := makes
  obtain ⟨hP, hR⟩ := h.lt
  obtain ⟨X, hX⟩ : ∃ X, Obj.cells #[.pointer (some ⟨P, 0, none⟩)] 25 = X := ⟨_, rfl⟩
  obtain ⟨Y, hY⟩ : ∃ Y, Obj.cells #[v] 29 = Y := ⟨_, rfl⟩
  have hbel : Below w.heap.size w ((w.alloc X).alloc Y) := (((Below.refl _ w).alloc (Nat.le_refl _) _).alloc (by simp) _)
  have hv1 : v.oneCell' = true := by obtain ⟨a, ca, rfl, _⟩ := hM w (Gw.refl _ _ _); rfl
  have c0 : ((w.alloc X).alloc Y).cell? ⟨w.heap.size, 0, none⟩ = some (.pointer (some ⟨P, 0, none⟩)) := by
    refine (Same.alloc _ Y).cell ?_; rw [← hX]; simp [go_sem]
  have c1 : ((w.alloc X).alloc Y).cell? ⟨w.heap.size + 1, 0, none⟩ = some v := by rw [← hY]; simp [go_sem]
  obtain ⟨Z, hZ⟩ : ∃ Z, (w.alloc X).alloc Y = Z := ⟨_, rfl⟩
  rw [hZ] at hbel c0 c1
  have hf := fit42_ring (P := P) (R := R) (g := writeR g l) (u := .int .i64 (writeU g l)) (k := writeK g l) 50 #[at0 w.heap.size, at0 (w.heap.size + 1)] Z (Nat.lt_of_lt_of_le hP hbel.size) (Nat.lt_of_lt_of_le hR hbel.size) (fun hk => by unfold writeU; rw [if_neg hk]) (enters_of Try.func50 (by kernel_rfl) rfl _)
    (fun x hx => by
      have hMx : MatOff P R x l v := (hM.goes (gw_below hbel)).goes (gw_below hx)
      have hrx := (h.below hbel).below hx
      by_cases hk : writeK g l = 0
      · have h0 : frms g.ch l = true ∧ g.wh = false := by
          unfold writeK at hk
          split at hk
          · cases hk
          · rename_i h1
            split at hk
            · cases hk
            · rename_i h2
              exact ⟨by simpa using h1, by simpa using h2⟩
        rw [show writeR g l = g.wrote l by unfold writeR; rw [if_pos hk], show writeU g l = wrN g l by unfold writeU; rw [if_pos hk], hk]
        exact write50_yes P R _ _ g l v x hrx hok hMx h0.1 h0.2 hroom ((Same.of_below hx).cell c0) ((Same.of_below hx).cell c1) (by omega) (by omega) (by omega) (by omega)
      · rw [show writeR g l = g by unfold writeR; rw [if_neg hk]]
        refine (write50_no P R _ _ g l v x hrx hMx hk ((Same.of_below hx).cell c0) ((Same.of_below hx).cell c1)).mono ?_
        rintro e w' ⟨rfl, hb⟩
        exact ⟨(endOf_no _ hk).symm, hrx.below hb, gw_below hb⟩)
  have HB := Lib.hid (gw_below (P := P) (R := R) hbel)
  obtain ⟨av, cv, rfl, _, _, hcv⟩ := hM w (Gw.refl _ _ _)
  generalize writeR g l = g2 at *
  generalize writeU g l = u at *
  generalize writeK g l = k at *
  clear hbel c0 c1 h hM
  subst hZ
  subst hX
  subst hY
  go_enter Try.func14, Try.ntmps14
  go_wp2_with (go_at_call 42; (with_reducible refine hf.mono ?_); rintro e w1 ⟨rfl, h1, h2⟩; have HH := Lib.hid (And.intro h1 (HB.out.trans h2)); clear h1 h2)
  go_ret2
  exact ⟨rfl, HH.out.1, HH.out.2⟩
theorem wrap64_u16 {n : Int} (h : 0 ≤ n ∧ n ≤ 65535) : wrap64 n = n := by unfold wrap64; omega
set_option maxHeartbeats 1000000 in
set_option maxRecDepth 100000 in
theorem counters_any (P R : Nat) (g : Rg) (w : World) (h : RingAt P R g w) (b1 : 0 ≤ g.wc ∧ g.wc ≤ 65535) (b2 : 0 ≤ g.rc ∧ g.rc ≤ 65535) (b3 : 0 ≤ g.wv ∧ g.wv ≤ 65535) (b4 : 0 ≤ g.rv ∧ g.rv ≤ 65535) : Calls Try.prog 34 #[.pointer (some ⟨P, 0, none⟩)] w fun e w' => e = .returned (.tuple #[.int .i64 g.wc, .int .i64 g.rc, .int .i64 g.wv, .int .i64 g.rv]) ∧ Below w.heap.size w w' := by
  have c3 : w.cell? ⟨P, 3, none⟩ = some (.int .u16 g.wc) := h.c (k := 3) (by decide) (by decide)
  have c4 : w.cell? ⟨P, 4, none⟩ = some (.int .u16 g.wv) := h.c (k := 4) (by decide) (by decide)
  have c7 : w.cell? ⟨P, 7, none⟩ = some (.int .u16 g.rc) := h.c (k := 7) (by decide) (by decide)
  have c8 : w.cell? ⟨P, 8, none⟩ = some (.int .u16 g.rv) := h.c (k := 8) (by decide) (by decide)
  clear h
  go_enter Try.func34, Try.ntmps34
  go_wp2_with fail
  go_quiet (fail)
  go_wp2_with fail
  refine bodyPost_ret (v := .tuple #[.int .i64 g.wc, .int .i64 g.rc, .int .i64 g.wv, .int .i64 g.rv]) (by simp [results, Try.results34, go_sem]) rfl ?_
  exact ⟨rfl, below_drewN (Below.refl _ _) _⟩
set_option maxHeartbeats 1000000 in
set_option maxRecDepth 100000 in
theorem claimed_any (P R : Nat) (g : Rg) (w : World) (h : RingAt P R g w) : Calls Try.prog 73 #[.pointer (some ⟨P, 0, none⟩)] w fun e w' => e = .returned (.tuple #[.int .i64 g.wn, .int .i64 g.rn]) ∧ Below w.heap.size w w' := by
  have c3 : w.cell? ⟨P, 6, none⟩ = some (.int .i64 g.wn) := h.c (k := 6) (by decide) (by decide)
  have c4 : w.cell? ⟨P, 10, none⟩ = some (.int .i64 g.rn) := h.c (k := 10) (by decide) (by decide)
  clear h
  go_enter Try.func73, Try.ntmps73
  go_wp2_with fail
  go_quiet (fail)
  go_wp2_with fail
  go_ret2
  exact ⟨rfl, below_drewN (Below.refl _ _) _⟩
set_option maxHeartbeats 1000000 in
set_option maxRecDepth 100000 in
theorem filled81_any (P R : Nat) (g : Rg) (w : World) (h : RingAt P R g w) : Calls Try.prog 81 #[.pointer (some ⟨P, 0, none⟩)] w fun e w' => e = .returned (.int .i64 (aheadI g.wc g.rc)) ∧ Below w.heap.size w w' := by
  have c3 : w.cell? ⟨P, 3, none⟩ = some (.int .u16 g.wc) := h.c (k := 3) (by decide) (by decide)
  have c7 : w.cell? ⟨P, 7, none⟩ = some (.int .u16 g.rc) := h.c (k := 7) (by decide) (by decide)
  have HA : Hid (∀ x, Calls Try.prog 75 #[.int .u16 g.wc, .int .u16 g.rc] x fun e w' => e = .returned (.int .i64 (aheadI g.wc g.rc)) ∧ w' = x) := Lib.hid fun x => (ahead_any _ _ x).mono fun e w' ⟨h1, h2⟩ => ⟨h1, h2.symm⟩
  generalize aheadI g.wc g.rc = A at *
  clear h
  go_enter Try.func81, Try.ntmps81
  go_wp2_with fail
  go_quiet ((go_at_call 75; with_reducible exact Calls.quiet_of_same (HA.out _)))
  go_wp2_with fail
  go_ret
  exact ⟨rfl, below_drewN (Below.refl _ _) _⟩
end Go.Proofs.Ytgcohmlapgnbdaa
