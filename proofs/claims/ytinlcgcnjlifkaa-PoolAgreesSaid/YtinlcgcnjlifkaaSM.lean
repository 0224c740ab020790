/- Does a deal fit a wish: the program's side. -/
import Derived.Test.YtinlcgcnjlifkaaSN
import Derived.BigQuiet
import Derived.Deep.QuietTactic
namespace Go.Proofs.Ytinlcgcnjlifkaa
open Go.RowKit Go.Shelf Go.Deep

set_option maxHeartbeats 4000000 in
set_option maxRecDepth 100000 in
theorem fits25_any (c b z s a k : Int) (d : Wish) (N M : Nat) (w : World) (hN : w.heap[N]? = some (.cells #[.int .i64 c, .int .i64 b, .int .i64 z, .int .i64 s, .int .i64 a, .int .i64 k] 25)) (hM : w.heap[M]? = some (.cells d.c 23)) :
    Calls Try.prog 25 #[at0 N, at0 M] w (ClosB (.bool ((dealB c b z s a k && d.ok) && fitsB c b z s a k.toNat d)) (if dealB c b z s a k && d.ok then 0 else 1) w) := by
  have HV0 := mustDeal_any c b z s a k
  have HW0 := mustWish_any d
  have H := Lib.hid within_any
  have HC := Lib.hid contains_any
  have HK7 : dealB c b z s a k = true → Hid ((kindsTo d.kinds 8).contains k = bitB d.kinds k.toNat) := fun h => Lib.hid (by
    simp only [dealB, Bool.and_eq_true] at h
    have h7 := inB_t h.2.2.1
    have := kinds_has d.kinds k.toNat (by omega)
    rwa [Int.toNat_of_nonneg h7.1] at this)
  have HB7 : d.ok = true → Hid (∀ x, Calls Try.prog 28 #[d.v] x (RowA (kindsTo d.kinds 8) x)) := fun h => Lib.hid fun x => by
    simp only [Wish.ok, Bool.and_eq_true] at h
    have := inB_t h.2.2.2.2
    exact kinds_any d (by omega) (by omega) x
  obtain ⟨vd, hvd⟩ : ∃ vd, dealB c b z s a k = vd := ⟨_, rfl⟩
  obtain ⟨vw, hvw⟩ : ∃ vw, d.ok = vw := ⟨_, rfl⟩
  rw [hvd] at HV0 HK7 ⊢
  rw [hvw] at HW0 HB7 ⊢
  clear hvd hvw
  obtain ⟨bk, hbk⟩ : ∃ bk, bitB d.kinds k.toNat = bk := ⟨_, rfl⟩
  unfold fitsB
  rw [hbk] at HK7 ⊢
  clear hbk
  obtain ⟨a1, a2, a3, a4, a5, a6, a7⟩ := d
  replace HW0 : ∀ x, Calls Try.prog 16 #[.agg #[.int .i64 a1, .int .i64 a2, .int .i64 a3, .int .i64 a4, .int .i64 a5, .int .i64 a6, .int .i64 a7]] x (MustB vw x) := HW0
  replace HB7 : vw = true → Hid (∀ x, Calls Try.prog 28 #[.agg #[.int .i64 a1, .int .i64 a2, .int .i64 a3, .int .i64 a4, .int .i64 a5, .int .i64 a6, .int .i64 a7]] x (RowA (kindsTo a7 8) x)) := HB7
  dsimp only at HK7 hM ⊢
  have HN := Lib.hid hN
  have HM := Lib.hid hM
  obtain ⟨d0, d1, d2, d3, d4, d5⟩ := cells6 hN
  obtain ⟨f0, f1, f2, f3, f4, f5, f6⟩ := cells7 hM
  clear hN hM
  cases vd with
  | false =>
    clear HB7 HK7
    have HV : Hid (∀ x, Calls Try.prog 26 #[.agg #[.int .i64 c, .int .i64 b, .int .i64 z, .int .i64 s, .int .i64 a, .int .i64 k]] x fun e w' => e = .panicked (misfit 1) ∧ Below x.heap.size x w') := Lib.hid HV0
    clear HV0 HW0
    go_enter Try.func25, Try.ntmps25
    go_wp2_with (go_at_call 26; (with_reducible refine (HV.out _).mono ?_); rintro e w1 ⟨rfl, hb⟩; have HB := Lib.hid hb; clear hb)
    exact ⟨rfl, rfl, HB.out⟩
  | true =>
    have HV : Hid (∀ x, Calls Try.prog 26 #[.agg #[.int .i64 c, .int .i64 b, .int .i64 z, .int .i64 s, .int .i64 a, .int .i64 k]] x fun e w' => e = .returned (.tuple #[]) ∧ Below x.heap.size x w') := Lib.hid HV0
    clear HV0
    cases vw with
    | false =>
      clear HB7 HK7
      have HW : Hid (∀ x, Calls Try.prog 16 #[.agg #[.int .i64 a1, .int .i64 a2, .int .i64 a3, .int .i64 a4, .int .i64 a5, .int .i64 a6, .int .i64 a7]] x fun e w' => e = .panicked (misfit 1) ∧ Below x.heap.size x w') := Lib.hid HW0
      clear HW0
      go_enter Try.func25, Try.ntmps25
      go_wp2_with (first
        | (go_at_call 26; (with_reducible refine (HV.out _).mono ?_); rintro e w1 ⟨rfl, hb⟩; have HB := Lib.hid hb; have HN1 := Lib.hid (keep_blk hb HN.out); have HM1 := Lib.hid (keep_blk hb HM.out); clear d0 d1 d2 d3 d4 d5 f0 f1 f2 f3 f4 f5 f6; have m5 := cells6 HN1.out; have m7 := cells7 HM1.out; obtain ⟨d0, d1, d2, d3, d4, d5⟩ := m5; obtain ⟨f0, f1, f2, f3, f4, f5, f6⟩ := m7; clear hb)
        | (go_at_call 16; (with_reducible refine (HW.out _).mono ?_); rintro e w2 ⟨rfl, hb⟩; have HB2 := Lib.hid hb; clear hb))
      exact ⟨rfl, rfl, HB.out.trans (HB2.out.mono HB.out.size)⟩
    | true =>
      replace HB7 := HB7 rfl
      replace HK7 := HK7 rfl
      have HW : Hid (∀ x, Calls Try.prog 16 #[.agg #[.int .i64 a1, .int .i64 a2, .int .i64 a3, .int .i64 a4, .int .i64 a5, .int .i64 a6, .int .i64 a7]] x fun e w' => e = .returned (.tuple #[]) ∧ Below x.heap.size x w') := Lib.hid HW0
      clear HW0
      cases h1 : inB c a1 a2 with
      | false =>
        go_enter Try.func25, Try.ntmps25
        go_upto_region 3 with (first
          | (go_at_call 26; (with_reducible refine (HV.out _).mono ?_); rintro e w1 ⟨rfl, hb⟩; have HB := Lib.hid hb; have HN1 := Lib.hid (keep_blk hb HN.out); have HM1 := Lib.hid (keep_blk hb HM.out); clear d0 d1 d2 d3 d4 d5 f0 f1 f2 f3 f4 f5 f6; have m5 := cells6 HN1.out; have m7 := cells7 HM1.out; obtain ⟨d0, d1, d2, d3, d4, d5⟩ := m5; obtain ⟨f0, f1, f2, f3, f4, f5, f6⟩ := m7; clear hb)
          | (go_at_call 16; (with_reducible refine (HW.out _).mono ?_); rintro e w2 ⟨rfl, hb⟩; have HB2 := Lib.hid hb; have HN2 := Lib.hid (keep_blk hb HN1.out); have HM2 := Lib.hid (keep_blk hb HM1.out); clear d0 d1 d2 d3 d4 d5 f0 f1 f2 f3 f4 f5 f6; have m5 := cells6 HN2.out; have m7 := cells7 HM2.out; obtain ⟨d0, d1, d2, d3, d4, d5⟩ := m5; obtain ⟨f0, f1, f2, f3, f4, f5, f6⟩ := m7; clear hb)
          )
        go_quiet ((go_at_call 18; exact Calls.quiet_of_same ((H.out _ _ _ _).mono fun e w' ⟨g1, g2⟩ => ⟨g1, g2.symm⟩)))
        go_wp2_with fail
        go_ret
        exact ⟨by (unfold endOf; simp [h1]; try (intros; omega)), below_drewN (HB.out.trans (HB2.out.mono HB.out.size)) _⟩
      | true =>
        by_cases h2 : b = a3
        rotate_left
        · have h2f : (b == a3) = false := by simpa using h2
          go_enter Try.func25, Try.ntmps25
          go_upto_region 3 with (first
            | (go_at_call 26; (with_reducible refine (HV.out _).mono ?_); rintro e w1 ⟨rfl, hb⟩; have HB := Lib.hid hb; have HN1 := Lib.hid (keep_blk hb HN.out); have HM1 := Lib.hid (keep_blk hb HM.out); clear d0 d1 d2 d3 d4 d5 f0 f1 f2 f3 f4 f5 f6; have m5 := cells6 HN1.out; have m7 := cells7 HM1.out; obtain ⟨d0, d1, d2, d3, d4, d5⟩ := m5; obtain ⟨f0, f1, f2, f3, f4, f5, f6⟩ := m7; clear hb)
            | (go_at_call 16; (with_reducible refine (HW.out _).mono ?_); rintro e w2 ⟨rfl, hb⟩; have HB2 := Lib.hid hb; have HN2 := Lib.hid (keep_blk hb HN1.out); have HM2 := Lib.hid (keep_blk hb HM1.out); clear d0 d1 d2 d3 d4 d5 f0 f1 f2 f3 f4 f5 f6; have m5 := cells6 HN2.out; have m7 := cells7 HM2.out; obtain ⟨d0, d1, d2, d3, d4, d5⟩ := m5; obtain ⟨f0, f1, f2, f3, f4, f5, f6⟩ := m7; clear hb)
            )
          go_quiet ((go_at_call 18; exact Calls.quiet_of_same ((H.out _ _ _ _).mono fun e w' ⟨g1, g2⟩ => ⟨g1, g2.symm⟩)))
          go_wp2_with fail
          go_ret
          exact ⟨by (unfold endOf; simp [h1, h2]; try (intros; omega)), below_drewN (HB.out.trans (HB2.out.mono HB.out.size)) _⟩
        have h2t : (b == a3) = true := by simpa using h2
        have Gh2 := Lib.hid h2
        clear h2
        by_cases h3 : s = a5
        rotate_left
        · have h3f : (s == a5) = false := by simpa using h3
          go_enter Try.func25, Try.ntmps25
          go_upto_region 3 with (first
            | (go_at_call 26; (with_reducible refine (HV.out _).mono ?_); rintro e w1 ⟨rfl, hb⟩; have HB := Lib.hid hb; have HN1 := Lib.hid (keep_blk hb HN.out); have HM1 := Lib.hid (keep_blk hb HM.out); clear d0 d1 d2 d3 d4 d5 f0 f1 f2 f3 f4 f5 f6; have m5 := cells6 HN1.out; have m7 := cells7 HM1.out; obtain ⟨d0, d1, d2, d3, d4, d5⟩ := m5; obtain ⟨f0, f1, f2, f3, f4, f5, f6⟩ := m7; clear hb)
            | (go_at_call 16; (with_reducible refine (HW.out _).mono ?_); rintro e w2 ⟨rfl, hb⟩; have HB2 := Lib.hid hb; have HN2 := Lib.hid (keep_blk hb HN1.out); have HM2 := Lib.hid (keep_blk hb HM1.out); clear d0 d1 d2 d3 d4 d5 f0 f1 f2 f3 f4 f5 f6; have m5 := cells6 HN2.out; have m7 := cells7 HM2.out; obtain ⟨d0, d1, d2, d3, d4, d5⟩ := m5; obtain ⟨f0, f1, f2, f3, f4, f5, f6⟩ := m7; clear hb)
            )
          go_quiet ((go_at_call 18; exact Calls.quiet_of_same ((H.out _ _ _ _).mono fun e w' ⟨g1, g2⟩ => ⟨g1, g2.symm⟩)))
          go_wp2_with fail
          go_ret
          exact ⟨by (unfold endOf; simp [h1, Gh2.out, h3]; try (intros; omega)), below_drewN (HB.out.trans (HB2.out.mono HB.out.size)) _⟩
        have h3t : (s == a5) = true := by simpa using h3
        have Gh3 := Lib.hid h3
        clear h3
        by_cases h4 : a4 ≤ z
        rotate_left
        · have h4f : decide (a4 ≤ z) = false := by simpa using h4
          go_enter Try.func25, Try.ntmps25
          go_upto_region 3 with (first
            | (go_at_call 26; (with_reducible refine (HV.out _).mono ?_); rintro e w1 ⟨rfl, hb⟩; have HB := Lib.hid hb; have HN1 := Lib.hid (keep_blk hb HN.out); have HM1 := Lib.hid (keep_blk hb HM.out); clear d0 d1 d2 d3 d4 d5 f0 f1 f2 f3 f4 f5 f6; have m5 := cells6 HN1.out; have m7 := cells7 HM1.out; obtain ⟨d0, d1, d2, d3, d4, d5⟩ := m5; obtain ⟨f0, f1, f2, f3, f4, f5, f6⟩ := m7; clear hb)
            | (go_at_call 16; (with_reducible refine (HW.out _).mono ?_); rintro e w2 ⟨rfl, hb⟩; have HB2 := Lib.hid hb; have HN2 := Lib.hid (keep_blk hb HN1.out); have HM2 := Lib.hid (keep_blk hb HM1.out); clear d0 d1 d2 d3 d4 d5 f0 f1 f2 f3 f4 f5 f6; have m5 := cells6 HN2.out; have m7 := cells7 HM2.out; obtain ⟨d0, d1, d2, d3, d4, d5⟩ := m5; obtain ⟨f0, f1, f2, f3, f4, f5, f6⟩ := m7; clear hb)
            )
          go_quiet ((go_at_call 18; exact Calls.quiet_of_same ((H.out _ _ _ _).mono fun e w' ⟨g1, g2⟩ => ⟨g1, g2.symm⟩)))
          go_wp2_with fail
          go_ret
          exact ⟨by (unfold endOf; simp [h1, Gh2.out, Gh3.out, h4]; try (intros; omega)), below_drewN (HB.out.trans (HB2.out.mono HB.out.size)) _⟩
        by_cases h5 : a6 ≤ a
        rotate_left
        · have h5f : decide (a6 ≤ a) = false := by simpa using h5
          go_enter Try.func25, Try.ntmps25
          go_upto_region 3 with (first
            | (go_at_call 26; (with_reducible refine (HV.out _).mono ?_); rintro e w1 ⟨rfl, hb⟩; have HB := Lib.hid hb; have HN1 := Lib.hid (keep_blk hb HN.out); have HM1 := Lib.hid (keep_blk hb HM.out); clear d0 d1 d2 d3 d4 d5 f0 f1 f2 f3 f4 f5 f6; have m5 := cells6 HN1.out; have m7 := cells7 HM1.out; obtain ⟨d0, d1, d2, d3, d4, d5⟩ := m5; obtain ⟨f0, f1, f2, f3, f4, f5, f6⟩ := m7; clear hb)
            | (go_at_call 16; (with_reducible refine (HW.out _).mono ?_); rintro e w2 ⟨rfl, hb⟩; have HB2 := Lib.hid hb; have HN2 := Lib.hid (keep_blk hb HN1.out); have HM2 := Lib.hid (keep_blk hb HM1.out); clear d0 d1 d2 d3 d4 d5 f0 f1 f2 f3 f4 f5 f6; have m5 := cells6 HN2.out; have m7 := cells7 HM2.out; obtain ⟨d0, d1, d2, d3, d4, d5⟩ := m5; obtain ⟨f0, f1, f2, f3, f4, f5, f6⟩ := m7; clear hb)
            )
          go_quiet ((go_at_call 18; exact Calls.quiet_of_same ((H.out _ _ _ _).mono fun e w' ⟨g1, g2⟩ => ⟨g1, g2.symm⟩)))
          go_wp2_with fail
          go_ret
          exact ⟨by (unfold endOf; simp [h1, Gh2.out, Gh3.out, h4, h5]; try (intros; omega)), below_drewN (HB.out.trans (HB2.out.mono HB.out.size)) _⟩
        go_enter Try.func25, Try.ntmps25
        go_upto_region 3 with (first
          | (go_at_call 26; (with_reducible refine (HV.out _).mono ?_); rintro e w1 ⟨rfl, hb⟩; have HB := Lib.hid hb; have HN1 := Lib.hid (keep_blk hb HN.out); have HM1 := Lib.hid (keep_blk hb HM.out); clear d0 d1 d2 d3 d4 d5 f0 f1 f2 f3 f4 f5 f6; have m5 := cells6 HN1.out; have m7 := cells7 HM1.out; obtain ⟨d0, d1, d2, d3, d4, d5⟩ := m5; obtain ⟨f0, f1, f2, f3, f4, f5, f6⟩ := m7; clear hb)
          | (go_at_call 16; (with_reducible refine (HW.out _).mono ?_); rintro e w2 ⟨rfl, hb⟩; have HB2 := Lib.hid hb; have HN2 := Lib.hid (keep_blk hb HN1.out); have HM2 := Lib.hid (keep_blk hb HM1.out); clear d0 d1 d2 d3 d4 d5 f0 f1 f2 f3 f4 f5 f6; have m5 := cells6 HN2.out; have m7 := cells7 HM2.out; obtain ⟨d0, d1, d2, d3, d4, d5⟩ := m5; obtain ⟨f0, f1, f2, f3, f4, f5, f6⟩ := m7; clear hb)
          )
        refine region_T (S := fun wx => wx.heap[N]? = some (.cells #[.int .i64 c, .int .i64 b, .int .i64 z, .int .i64 s, .int .i64 a, .int .i64 k] 25) ∧ wx.heap[M]? = some (.cells #[.int .i64 a1, .int .i64 a2, .int .i64 a3, .int .i64 a4, .int .i64 a5, .int .i64 a6, .int .i64 a7] 23)) [] (by kernel_rfl) ⟨HN2.out, HM2.out⟩ (fun _ => ?_)
        have hS0 := show w2.drew.heap[N]? = some (.cells #[.int .i64 c, .int .i64 b, .int .i64 z, .int .i64 s, .int .i64 a, .int .i64 k] 25) ∧ w2.drew.heap[M]? = some (.cells #[.int .i64 a1, .int .i64 a2, .int .i64 a3, .int .i64 a4, .int .i64 a5, .int .i64 a6, .int .i64 a7] 23) from ⟨HN2.out, HM2.out⟩
        obtain ⟨X, hX⟩ : ∃ X, w2.drew = X := ⟨_, rfl⟩
        have HX := Lib.hid (show Below w2.heap.size w2 X by rw [← hX]; exact ⟨rfl, rfl, rfl, Nat.le_refl _, fun _ _ => rfl⟩)
        rw [hX] at hS0 ⊢
        clear hX d0 d1 d2 d3 d4 d5 f0 f1 f2 f3 f4 f5 f6
        refine anyT_take (i := 0) (v := ?_) rfl (by kernel_rfl) (by kernel_rfl) (by kernel_rfl) (by kernel_rfl) (fun _ _ _ h => h) (Or.inl ⟨by rfl, ?_⟩) hS0 ?_
        rotate_left
        focus ((intro wq hSw; have m5 := cells6 hSw.1; have m7 := cells7 hSw.2; obtain ⟨d0, d1, d2, d3, d4, d5⟩ := m5; obtain ⟨f0, f1, f2, f3, f4, f5, f6⟩ := m7; go_simp); try with_reducible rfl)
        try simp only [Act.put, List.getElem_toArray, List.getElem_cons_succ, List.getElem_cons_zero, List.setIfInBounds_toArray, List.set_cons_zero, List.set_cons_succ]
        refine anyT_take (i := 1) (v := ?_) rfl (by kernel_rfl) (by kernel_rfl) (by kernel_rfl) (by kernel_rfl) (fun _ _ _ h => h) (Or.inl ⟨by rfl, ?_⟩) hS0 ?_
        rotate_left
        focus ((intro wq hSw; have m5 := cells6 hSw.1; have m7 := cells7 hSw.2; obtain ⟨d0, d1, d2, d3, d4, d5⟩ := m5; obtain ⟨f0, f1, f2, f3, f4, f5, f6⟩ := m7; go_simp); try with_reducible rfl)
        try simp only [Act.put, List.getElem_toArray, List.getElem_cons_succ, List.getElem_cons_zero, List.setIfInBounds_toArray, List.set_cons_zero, List.set_cons_succ]
        refine anyT_take (i := 2) (v := ?_) rfl (by kernel_rfl) (by kernel_rfl) (by kernel_rfl) (by kernel_rfl) (fun _ _ _ h => h) (Or.inl ⟨by rfl, ?_⟩) hS0 ?_
        rotate_left
        focus ((intro wq hSw; have m5 := cells6 hSw.1; have m7 := cells7 hSw.2; obtain ⟨d0, d1, d2, d3, d4, d5⟩ := m5; obtain ⟨f0, f1, f2, f3, f4, f5, f6⟩ := m7; go_simp); try with_reducible rfl)
        try simp only [Act.put, List.getElem_toArray, List.getElem_cons_succ, List.getElem_cons_zero, List.setIfInBounds_toArray, List.set_cons_zero, List.set_cons_succ]
        refine anyT_take (i := 3) (v := ?_) rfl (by kernel_rfl) (by kernel_rfl) (by kernel_rfl) (by kernel_rfl) (fun _ _ _ h => h) (Or.inl ⟨by rfl, ?_⟩) hS0 ?_
        rotate_left
        focus ((intro wq hSw; have m5 := cells6 hSw.1; have m7 := cells7 hSw.2; obtain ⟨d0, d1, d2, d3, d4, d5⟩ := m5; obtain ⟨f0, f1, f2, f3, f4, f5, f6⟩ := m7; go_simp); try with_reducible rfl)
        try simp only [Act.put, List.getElem_toArray, List.getElem_cons_succ, List.getElem_cons_zero, List.setIfInBounds_toArray, List.set_cons_zero, List.set_cons_succ]
        refine anyT_take (i := 4) (v := ?_) rfl (by kernel_rfl) (by kernel_rfl) (by kernel_rfl) (by kernel_rfl) (fun _ _ _ h => h) (Or.inl ⟨by rfl, ?_⟩) hS0 ?_
        rotate_left
        focus ((intro wq hSw; have m5 := cells6 hSw.1; have m7 := cells7 hSw.2; obtain ⟨d0, d1, d2, d3, d4, d5⟩ := m5; obtain ⟨f0, f1, f2, f3, f4, f5, f6⟩ := m7; go_simp); try with_reducible rfl)
        try simp only [Act.put, List.getElem_toArray, List.getElem_cons_succ, List.getElem_cons_zero, List.setIfInBounds_toArray, List.set_cons_zero, List.set_cons_succ]
        refine anyT_take (i := 5) (v := ?_) rfl (by kernel_rfl) (by kernel_rfl) (by kernel_rfl) (by kernel_rfl) (fun _ _ _ h => h) (Or.inl ⟨by rfl, ?_⟩) hS0 ?_
        rotate_left
        focus ((intro wq hSw; have m5 := cells6 hSw.1; have m7 := cells7 hSw.2; obtain ⟨d0, d1, d2, d3, d4, d5⟩ := m5; obtain ⟨f0, f1, f2, f3, f4, f5, f6⟩ := m7; go_simp); try with_reducible rfl)
        try simp only [Act.put, List.getElem_toArray, List.getElem_cons_succ, List.getElem_cons_zero, List.setIfInBounds_toArray, List.set_cons_zero, List.set_cons_succ]
        refine anyT_one (i := 6) (by kernel_rfl) rfl (fun K hK => ?_)
        go_simp
        refine (H.out _ _ _ _).mono ?_
        rintro e w3 ⟨rfl, rfl⟩
        rw [h1]
        go_simp
        refine hK.out _ _ (fun _ => hS0) ?_
        clear hK K
        try simp only [Act.put, List.getElem_toArray, List.getElem_cons_succ, List.getElem_cons_zero, List.setIfInBounds_toArray, List.set_cons_zero, List.set_cons_succ]
        refine anyT_take (i := 7) (v := ?_) rfl (by kernel_rfl) (by kernel_rfl) (by kernel_rfl) (by kernel_rfl) (fun _ _ _ h => h) (Or.inl ⟨by rfl, ?_⟩) hS0 ?_
        rotate_left
        focus ((intro wq hSw; have m5 := cells6 hSw.1; have m7 := cells7 hSw.2; obtain ⟨d0, d1, d2, d3, d4, d5⟩ := m5; obtain ⟨f0, f1, f2, f3, f4, f5, f6⟩ := m7; go_simp); try with_reducible rfl)
        try simp only [Act.put, List.getElem_toArray, List.getElem_cons_succ, List.getElem_cons_zero, List.setIfInBounds_toArray, List.set_cons_zero, List.set_cons_succ]
        refine anyT_take (i := 8) (v := ?_) rfl (by kernel_rfl) (by kernel_rfl) (by kernel_rfl) (by kernel_rfl) (fun _ _ _ h => h) (Or.inl ⟨by rfl, ?_⟩) hS0 ?_
        rotate_left
        focus ((intro wq hSw; have m5 := cells6 hSw.1; have m7 := cells7 hSw.2; obtain ⟨d0, d1, d2, d3, d4, d5⟩ := m5; obtain ⟨f0, f1, f2, f3, f4, f5, f6⟩ := m7; go_simp); try with_reducible rfl)
        try simp only [Act.put, List.getElem_toArray, List.getElem_cons_succ, List.getElem_cons_zero, List.setIfInBounds_toArray, List.set_cons_zero, List.set_cons_succ]
        refine anyT_take (i := 9) (v := ?_) rfl (by kernel_rfl) (by kernel_rfl) (by kernel_rfl) (by kernel_rfl) (fun _ _ _ h => h) (Or.inl ⟨by rfl, ?_⟩) hS0 ?_
        rotate_left
        focus ((intro wq hSw; have m5 := cells6 hSw.1; have m7 := cells7 hSw.2; obtain ⟨d0, d1, d2, d3, d4, d5⟩ := m5; obtain ⟨f0, f1, f2, f3, f4, f5, f6⟩ := m7; go_simp); try with_reducible rfl)
        try simp only [Act.put, List.getElem_toArray, List.getElem_cons_succ, List.getElem_cons_zero, List.setIfInBounds_toArray, List.set_cons_zero, List.set_cons_succ]
        refine anyT_take (i := 10) (v := ?_) rfl (by kernel_rfl) (by kernel_rfl) (by kernel_rfl) (by kernel_rfl) (fun _ _ _ h => h) (Or.inl ⟨by rfl, ?_⟩) hS0 ?_
        rotate_left
        focus ((intro wq hSw; have m5 := cells6 hSw.1; have m7 := cells7 hSw.2; obtain ⟨d0, d1, d2, d3, d4, d5⟩ := m5; obtain ⟨f0, f1, f2, f3, f4, f5, f6⟩ := m7; go_simp); try with_reducible rfl)
        try simp only [Act.put, List.getElem_toArray, List.getElem_cons_succ, List.getElem_cons_zero, List.setIfInBounds_toArray, List.set_cons_zero, List.set_cons_succ]
        refine anyT_take (i := 11) (v := ?_) rfl (by kernel_rfl) (by kernel_rfl) (by kernel_rfl) (by kernel_rfl) (fun _ _ _ h => h) (Or.inl ⟨by rfl, ?_⟩) hS0 ?_
        rotate_left
        focus ((intro wq hSw; have m5 := cells6 hSw.1; have m7 := cells7 hSw.2; obtain ⟨d0, d1, d2, d3, d4, d5⟩ := m5; obtain ⟨f0, f1, f2, f3, f4, f5, f6⟩ := m7; go_simp); try with_reducible rfl)
        try simp only [Act.put, List.getElem_toArray, List.getElem_cons_succ, List.getElem_cons_zero, List.setIfInBounds_toArray, List.set_cons_zero, List.set_cons_succ]
        refine anyT_take (i := 12) (v := ?_) rfl (by kernel_rfl) (by kernel_rfl) (by kernel_rfl) (by kernel_rfl) (fun _ _ _ h => h) (Or.inl ⟨by rfl, ?_⟩) hS0 ?_
        rotate_left
        focus ((intro wq hSw; have m5 := cells6 hSw.1; have m7 := cells7 hSw.2; obtain ⟨d0, d1, d2, d3, d4, d5⟩ := m5; obtain ⟨f0, f1, f2, f3, f4, f5, f6⟩ := m7; go_simp); try with_reducible rfl)
        try simp only [Act.put, List.getElem_toArray, List.getElem_cons_succ, List.getElem_cons_zero, List.setIfInBounds_toArray, List.set_cons_zero, List.set_cons_succ]
        refine anyT_take (i := 13) (v := ?_) rfl (by kernel_rfl) (by kernel_rfl) (by kernel_rfl) (by kernel_rfl) (fun _ _ _ h => h) (Or.inl ⟨by rfl, ?_⟩) hS0 ?_
        rotate_left
        focus ((intro wq hSw; have m5 := cells6 hSw.1; have m7 := cells7 hSw.2; obtain ⟨d0, d1, d2, d3, d4, d5⟩ := m5; obtain ⟨f0, f1, f2, f3, f4, f5, f6⟩ := m7; go_simp); try with_reducible rfl)
        try simp only [Act.put, List.getElem_toArray, List.getElem_cons_succ, List.getElem_cons_zero, List.setIfInBounds_toArray, List.set_cons_zero, List.set_cons_succ]
        refine anyT_take (i := 14) (v := ?_) rfl (by kernel_rfl) (by kernel_rfl) (by kernel_rfl) (by kernel_rfl) (fun _ _ _ h => h) (Or.inl ⟨by rfl, ?_⟩) hS0 ?_
        rotate_left
        focus ((intro wq hSw; have m5 := cells6 hSw.1; have m7 := cells7 hSw.2; obtain ⟨d0, d1, d2, d3, d4, d5⟩ := m5; obtain ⟨f0, f1, f2, f3, f4, f5, f6⟩ := m7; go_simp); try with_reducible rfl)
        try simp only [Act.put, List.getElem_toArray, List.getElem_cons_succ, List.getElem_cons_zero, List.setIfInBounds_toArray, List.set_cons_zero, List.set_cons_succ]
        refine anyT_take (i := 15) (v := ?_) rfl (by kernel_rfl) (by kernel_rfl) (by kernel_rfl) (by kernel_rfl) (fun _ _ _ h => h) (Or.inl ⟨by rfl, ?_⟩) hS0 ?_
        rotate_left
        focus ((intro wq hSw; have m5 := cells6 hSw.1; have m7 := cells7 hSw.2; obtain ⟨d0, d1, d2, d3, d4, d5⟩ := m5; obtain ⟨f0, f1, f2, f3, f4, f5, f6⟩ := m7; go_simp); try with_reducible rfl)
        try simp only [Act.put, List.getElem_toArray, List.getElem_cons_succ, List.getElem_cons_zero, List.setIfInBounds_toArray, List.set_cons_zero, List.set_cons_succ]
        refine anyT_take (i := 16) (v := ?_) rfl (by kernel_rfl) (by kernel_rfl) (by kernel_rfl) (by kernel_rfl) (fun _ _ _ h => h) (Or.inl ⟨by rfl, ?_⟩) hS0 ?_
        rotate_left
        focus ((intro wq hSw; have m5 := cells6 hSw.1; have m7 := cells7 hSw.2; obtain ⟨d0, d1, d2, d3, d4, d5⟩ := m5; obtain ⟨f0, f1, f2, f3, f4, f5, f6⟩ := m7; go_simp); try with_reducible rfl)
        try simp only [Act.put, List.getElem_toArray, List.getElem_cons_succ, List.getElem_cons_zero, List.setIfInBounds_toArray, List.set_cons_zero, List.set_cons_succ]
        refine anyT_take (i := 17) (v := ?_) rfl (by kernel_rfl) (by kernel_rfl) (by kernel_rfl) (by kernel_rfl) (fun _ _ _ h => h) (Or.inl ⟨by rfl, ?_⟩) hS0 ?_
        rotate_left
        focus ((intro wq hSw; have m5 := cells6 hSw.1; have m7 := cells7 hSw.2; obtain ⟨d0, d1, d2, d3, d4, d5⟩ := m5; obtain ⟨f0, f1, f2, f3, f4, f5, f6⟩ := m7; go_simp); try with_reducible rfl)
        try simp only [Act.put, List.getElem_toArray, List.getElem_cons_succ, List.getElem_cons_zero, List.setIfInBounds_toArray, List.set_cons_zero, List.set_cons_succ]
        refine anyT_take (i := 18) (v := ?_) rfl (by kernel_rfl) (by kernel_rfl) (by kernel_rfl) (by kernel_rfl) (fun _ _ _ h => h) (Or.inl ⟨by rfl, ?_⟩) hS0 ?_
        rotate_left
        focus ((intro wq hSw; have m5 := cells6 hSw.1; have m7 := cells7 hSw.2; obtain ⟨d0, d1, d2, d3, d4, d5⟩ := m5; obtain ⟨f0, f1, f2, f3, f4, f5, f6⟩ := m7; go_simp); try with_reducible rfl)
        try simp only [Act.put, List.getElem_toArray, List.getElem_cons_succ, List.getElem_cons_zero, List.setIfInBounds_toArray, List.set_cons_zero, List.set_cons_succ]
        refine anyT_take (i := 19) (v := ?_) rfl (by kernel_rfl) (by kernel_rfl) (by kernel_rfl) (by kernel_rfl) (fun _ _ _ h => h) (Or.inl ⟨by rfl, ?_⟩) hS0 ?_
        rotate_left
        focus ((intro wq hSw; have m5 := cells6 hSw.1; have m7 := cells7 hSw.2; obtain ⟨d0, d1, d2, d3, d4, d5⟩ := m5; obtain ⟨f0, f1, f2, f3, f4, f5, f6⟩ := m7; go_simp); try with_reducible rfl)
        try simp only [Act.put, List.getElem_toArray, List.getElem_cons_succ, List.getElem_cons_zero, List.setIfInBounds_toArray, List.set_cons_zero, List.set_cons_succ]
        refine anyT_take (i := 20) (v := ?_) rfl (by kernel_rfl) (by kernel_rfl) (by kernel_rfl) (by kernel_rfl) (fun _ _ _ h => h) (Or.inl ⟨by rfl, ?_⟩) hS0 ?_
        rotate_left
        focus ((intro wq hSw; have m5 := cells6 hSw.1; have m7 := cells7 hSw.2; obtain ⟨d0, d1, d2, d3, d4, d5⟩ := m5; obtain ⟨f0, f1, f2, f3, f4, f5, f6⟩ := m7; go_simp); try with_reducible rfl)
        try simp only [Act.put, List.getElem_toArray, List.getElem_cons_succ, List.getElem_cons_zero, List.setIfInBounds_toArray, List.set_cons_zero, List.set_cons_succ]
        refine anyT_take (i := 21) (v := ?_) rfl (by kernel_rfl) (by kernel_rfl) (by kernel_rfl) (by kernel_rfl) (fun _ _ _ h => h) (Or.inl ⟨by rfl, ?_⟩) hS0 ?_
        rotate_left
        focus ((intro wq hSw; have m5 := cells6 hSw.1; have m7 := cells7 hSw.2; obtain ⟨d0, d1, d2, d3, d4, d5⟩ := m5; obtain ⟨f0, f1, f2, f3, f4, f5, f6⟩ := m7; go_simp); try with_reducible rfl)
        try simp only [Act.put, List.getElem_toArray, List.getElem_cons_succ, List.getElem_cons_zero, List.setIfInBounds_toArray, List.set_cons_zero, List.set_cons_succ]
        refine anyT_take (i := 22) (v := ?_) rfl (by kernel_rfl) (by kernel_rfl) (by kernel_rfl) (by kernel_rfl) (fun _ _ _ h => h) (Or.inl ⟨by rfl, ?_⟩) hS0 ?_
        rotate_left
        focus ((intro wq hSw; have m5 := cells6 hSw.1; have m7 := cells7 hSw.2; obtain ⟨d0, d1, d2, d3, d4, d5⟩ := m5; obtain ⟨f0, f1, f2, f3, f4, f5, f6⟩ := m7; go_simp); try with_reducible rfl)
        try simp only [Act.put, List.getElem_toArray, List.getElem_cons_succ, List.getElem_cons_zero, List.setIfInBounds_toArray, List.set_cons_zero, List.set_cons_succ]
        refine anyT_take (i := 23) (v := ?_) rfl (by kernel_rfl) (by kernel_rfl) (by kernel_rfl) (by kernel_rfl) (fun _ _ _ h => h) (Or.inl ⟨by rfl, ?_⟩) hS0 ?_
        rotate_left
        focus ((intro wq hSw; have m5 := cells6 hSw.1; have m7 := cells7 hSw.2; obtain ⟨d0, d1, d2, d3, d4, d5⟩ := m5; obtain ⟨f0, f1, f2, f3, f4, f5, f6⟩ := m7; go_simp); try with_reducible rfl)
        try simp only [Act.put, List.getElem_toArray, List.getElem_cons_succ, List.getElem_cons_zero, List.setIfInBounds_toArray, List.set_cons_zero, List.set_cons_succ]
        refine anyT_take (i := 24) (v := ?_) rfl (by kernel_rfl) (by kernel_rfl) (by kernel_rfl) (by kernel_rfl) (fun _ _ _ h => h) (Or.inl ⟨by rfl, ?_⟩) hS0 ?_
        rotate_left
        focus ((intro wq hSw; have m5 := cells6 hSw.1; have m7 := cells7 hSw.2; obtain ⟨d0, d1, d2, d3, d4, d5⟩ := m5; obtain ⟨f0, f1, f2, f3, f4, f5, f6⟩ := m7; go_simp); try with_reducible rfl)
        try simp only [Act.put, List.getElem_toArray, List.getElem_cons_succ, List.getElem_cons_zero, List.setIfInBounds_toArray, List.set_cons_zero, List.set_cons_succ]
        refine anyT_take (i := 25) (v := ?_) rfl (by kernel_rfl) (by kernel_rfl) (by kernel_rfl) (by kernel_rfl) (fun _ _ _ h => h) (Or.inl ⟨by rfl, ?_⟩) hS0 ?_
        rotate_left
        focus ((intro wq hSw; have m5 := cells6 hSw.1; have m7 := cells7 hSw.2; obtain ⟨d0, d1, d2, d3, d4, d5⟩ := m5; obtain ⟨f0, f1, f2, f3, f4, f5, f6⟩ := m7; go_simp); try with_reducible rfl)
        try simp only [Act.put, List.getElem_toArray, List.getElem_cons_succ, List.getElem_cons_zero, List.setIfInBounds_toArray, List.set_cons_zero, List.set_cons_succ]
        refine anyT_take (i := 26) (v := ?_) rfl (by kernel_rfl) (by kernel_rfl) (by kernel_rfl) (by kernel_rfl) (fun _ _ _ h => h) (Or.inl ⟨by rfl, ?_⟩) hS0 ?_
        rotate_left
        focus ((intro wq hSw; have m5 := cells6 hSw.1; have m7 := cells7 hSw.2; obtain ⟨d0, d1, d2, d3, d4, d5⟩ := m5; obtain ⟨f0, f1, f2, f3, f4, f5, f6⟩ := m7; go_simp); try with_reducible rfl)
        try simp only [Act.put, List.getElem_toArray, List.getElem_cons_succ, List.getElem_cons_zero, List.setIfInBounds_toArray, List.set_cons_zero, List.set_cons_succ]
        refine anyT_take (i := 27) (v := ?_) rfl (by kernel_rfl) (by kernel_rfl) (by kernel_rfl) (by kernel_rfl) (fun _ _ _ h => h) (Or.inl ⟨by rfl, ?_⟩) hS0 ?_
        rotate_left
        focus ((intro wq hSw; have m5 := cells6 hSw.1; have m7 := cells7 hSw.2; obtain ⟨d0, d1, d2, d3, d4, d5⟩ := m5; obtain ⟨f0, f1, f2, f3, f4, f5, f6⟩ := m7; go_simp); try with_reducible rfl)
        try simp only [Act.put, List.getElem_toArray, List.getElem_cons_succ, List.getElem_cons_zero, List.setIfInBounds_toArray, List.set_cons_zero, List.set_cons_succ]
        refine anyT_take (i := 28) (v := ?_) rfl (by kernel_rfl) (by kernel_rfl) (by kernel_rfl) (by kernel_rfl) (fun _ _ _ h => h) (Or.inl ⟨by rfl, ?_⟩) hS0 ?_
        rotate_left
        focus ((intro wq hSw; have m5 := cells6 hSw.1; have m7 := cells7 hSw.2; obtain ⟨d0, d1, d2, d3, d4, d5⟩ := m5; obtain ⟨f0, f1, f2, f3, f4, f5, f6⟩ := m7; go_simp); try with_reducible rfl)
        try simp only [Act.put, List.getElem_toArray, List.getElem_cons_succ, List.getElem_cons_zero, List.setIfInBounds_toArray, List.set_cons_zero, List.set_cons_succ]
        refine anyT_take (i := 29) (v := ?_) rfl (by kernel_rfl) (by kernel_rfl) (by kernel_rfl) (by kernel_rfl) (fun _ _ _ h => h) (Or.inl ⟨by rfl, ?_⟩) hS0 ?_
        rotate_left
        focus ((intro wq hSw; have m5 := cells6 hSw.1; have m7 := cells7 hSw.2; obtain ⟨d0, d1, d2, d3, d4, d5⟩ := m5; obtain ⟨f0, f1, f2, f3, f4, f5, f6⟩ := m7; go_simp); try with_reducible rfl)
        try simp only [Act.put, List.getElem_toArray, List.getElem_cons_succ, List.getElem_cons_zero, List.setIfInBounds_toArray, List.set_cons_zero, List.set_cons_succ]
        refine anyT_take (i := 30) (v := ?_) rfl (by kernel_rfl) (by kernel_rfl) (by kernel_rfl) (by kernel_rfl) (fun _ _ _ h => h) (Or.inl ⟨by rfl, ?_⟩) hS0 ?_
        rotate_left
        focus ((intro wq hSw; have m5 := cells6 hSw.1; have m7 := cells7 hSw.2; obtain ⟨d0, d1, d2, d3, d4, d5⟩ := m5; obtain ⟨f0, f1, f2, f3, f4, f5, f6⟩ := m7; go_simp); try with_reducible rfl)
        try simp only [Act.put, List.getElem_toArray, List.getElem_cons_succ, List.getElem_cons_zero, List.setIfInBounds_toArray, List.set_cons_zero, List.set_cons_succ]
        refine anyT_take (i := 31) (v := ?_) rfl (by kernel_rfl) (by kernel_rfl) (by kernel_rfl) (by kernel_rfl) (fun _ _ _ h => h) (Or.inl ⟨by rfl, ?_⟩) hS0 ?_
        rotate_left
        focus ((intro wq hSw; have m5 := cells6 hSw.1; have m7 := cells7 hSw.2; obtain ⟨d0, d1, d2, d3, d4, d5⟩ := m5; obtain ⟨f0, f1, f2, f3, f4, f5, f6⟩ := m7; go_simp); try with_reducible rfl)
        try simp only [Act.put, List.getElem_toArray, List.getElem_cons_succ, List.getElem_cons_zero, List.setIfInBounds_toArray, List.set_cons_zero, List.set_cons_succ]
        refine anyT_take (i := 32) (v := ?_) rfl (by kernel_rfl) (by kernel_rfl) (by kernel_rfl) (by kernel_rfl) (fun _ _ _ h => h) (Or.inl ⟨by rfl, ?_⟩) hS0 ?_
        rotate_left
        focus ((intro wq hSw; have m5 := cells6 hSw.1; have m7 := cells7 hSw.2; obtain ⟨d0, d1, d2, d3, d4, d5⟩ := m5; obtain ⟨f0, f1, f2, f3, f4, f5, f6⟩ := m7; go_simp); try with_reducible rfl)
        try simp only [Act.put, List.getElem_toArray, List.getElem_cons_succ, List.getElem_cons_zero, List.setIfInBounds_toArray, List.set_cons_zero, List.set_cons_succ]
        refine anyT_take (i := 33) (v := ?_) rfl (by kernel_rfl) (by kernel_rfl) (by kernel_rfl) (by kernel_rfl) (fun _ _ _ h => h) (Or.inl ⟨by rfl, ?_⟩) hS0 ?_
        rotate_left
        focus ((intro wq hSw; have m5 := cells6 hSw.1; have m7 := cells7 hSw.2; obtain ⟨d0, d1, d2, d3, d4, d5⟩ := m5; obtain ⟨f0, f1, f2, f3, f4, f5, f6⟩ := m7; go_simp); try with_reducible rfl)
        try simp only [Act.put, List.getElem_toArray, List.getElem_cons_succ, List.getElem_cons_zero, List.setIfInBounds_toArray, List.set_cons_zero, List.set_cons_succ]
        refine anyT_take (i := 34) (v := ?_) rfl (by kernel_rfl) (by kernel_rfl) (by kernel_rfl) (by kernel_rfl) (fun _ _ _ h => h) (Or.inl ⟨by rfl, ?_⟩) hS0 ?_
        rotate_left
        focus ((intro wq hSw; have m5 := cells6 hSw.1; have m7 := cells7 hSw.2; obtain ⟨d0, d1, d2, d3, d4, d5⟩ := m5; obtain ⟨f0, f1, f2, f3, f4, f5, f6⟩ := m7; go_simp); try with_reducible rfl)
        try simp only [Act.put, List.getElem_toArray, List.getElem_cons_succ, List.getElem_cons_zero, List.setIfInBounds_toArray, List.set_cons_zero, List.set_cons_succ]
        refine anyT_take (i := 35) (v := ?_) rfl (by kernel_rfl) (by kernel_rfl) (by kernel_rfl) (by kernel_rfl) (fun _ _ _ h => h) (Or.inl ⟨by rfl, ?_⟩) hS0 ?_
        rotate_left
        focus ((intro wq hSw; have m5 := cells6 hSw.1; have m7 := cells7 hSw.2; obtain ⟨d0, d1, d2, d3, d4, d5⟩ := m5; obtain ⟨f0, f1, f2, f3, f4, f5, f6⟩ := m7; go_simp); try with_reducible rfl)
        try simp only [Act.put, List.getElem_toArray, List.getElem_cons_succ, List.getElem_cons_zero, List.setIfInBounds_toArray, List.set_cons_zero, List.set_cons_succ]
        refine anyT_take (i := 36) (v := ?_) rfl (by kernel_rfl) (by kernel_rfl) (by kernel_rfl) (by kernel_rfl) (fun _ _ _ h => h) (Or.inl ⟨by rfl, ?_⟩) hS0 ?_
        rotate_left
        focus ((intro wq hSw; have m5 := cells6 hSw.1; have m7 := cells7 hSw.2; obtain ⟨d0, d1, d2, d3, d4, d5⟩ := m5; obtain ⟨f0, f1, f2, f3, f4, f5, f6⟩ := m7; go_simp); try with_reducible rfl)
        try simp only [Act.put, List.getElem_toArray, List.getElem_cons_succ, List.getElem_cons_zero, List.setIfInBounds_toArray, List.set_cons_zero, List.set_cons_succ]
        refine anyT_take (i := 38) (v := ?_) rfl (by kernel_rfl) (by kernel_rfl) (by kernel_rfl) (by kernel_rfl) (fun _ _ _ h => h) (Or.inl ⟨by rfl, ?_⟩) hS0 ?_
        rotate_left
        focus ((intro wq hSw; have m5 := cells6 hSw.1; have m7 := cells7 hSw.2; obtain ⟨d0, d1, d2, d3, d4, d5⟩ := m5; obtain ⟨f0, f1, f2, f3, f4, f5, f6⟩ := m7; go_simp); try with_reducible rfl)
        try simp only [Act.put, List.getElem_toArray, List.getElem_cons_succ, List.getElem_cons_zero, List.setIfInBounds_toArray, List.set_cons_zero, List.set_cons_succ]
        refine anyT_take (i := 39) (v := ?_) rfl (by kernel_rfl) (by kernel_rfl) (by kernel_rfl) (by kernel_rfl) (fun _ _ _ h => h) (Or.inl ⟨by rfl, ?_⟩) hS0 ?_
        rotate_left
        focus ((intro wq hSw; have m5 := cells6 hSw.1; have m7 := cells7 hSw.2; obtain ⟨d0, d1, d2, d3, d4, d5⟩ := m5; obtain ⟨f0, f1, f2, f3, f4, f5, f6⟩ := m7; go_simp); try with_reducible rfl)
        try simp only [Act.put, List.getElem_toArray, List.getElem_cons_succ, List.getElem_cons_zero, List.setIfInBounds_toArray, List.set_cons_zero, List.set_cons_succ]
        refine anyT_one (i := 37) (by kernel_rfl) rfl (fun K hK => ?_)
        go_simp
        refine (HB7.out _).mono ?_
        rintro e w4 ⟨u, rfl, hrow, hb⟩
        have hS4 := And.intro (keep_blk hb hS0.1) (keep_blk hb hS0.2)
        have HB4 := Lib.hid hb
        have HROW := Lib.hid hrow
        clear hb hrow hS0
        go_simp
        refine hK.out _ _ (fun _ => hS4) ?_
        clear hK K
        try simp only [Act.put, List.getElem_toArray, List.getElem_cons_succ, List.getElem_cons_zero, List.setIfInBounds_toArray, List.set_cons_zero, List.set_cons_succ]
        refine anyT_one (i := 40) (by kernel_rfl) rfl (fun K hK => ?_)
        go_simp
        refine (HC.out _ _ _ _ HROW.out).mono ?_
        rintro e w5 ⟨rfl, rfl⟩
        rw [HK7.out]
        go_simp
        refine hK.out _ _ (fun _ => hS4) ?_
        clear hK K
        try simp only [Act.put, List.getElem_toArray, List.getElem_cons_succ, List.getElem_cons_zero, List.setIfInBounds_toArray, List.set_cons_zero, List.set_cons_succ]
        refine anyT_take (i := 41) (v := ?_) rfl (by kernel_rfl) (by kernel_rfl) (by kernel_rfl) (by kernel_rfl) (fun _ _ _ h => h) (Or.inl ⟨by rfl, ?_⟩) hS4 ?_
        rotate_left
        focus ((intro wq hSw; have m5 := cells6 hSw.1; have m7 := cells7 hSw.2; obtain ⟨d0, d1, d2, d3, d4, d5⟩ := m5; obtain ⟨f0, f1, f2, f3, f4, f5, f6⟩ := m7; go_simp); try with_reducible rfl)
        try simp only [Act.put, List.getElem_toArray, List.getElem_cons_succ, List.getElem_cons_zero, List.setIfInBounds_toArray, List.set_cons_zero, List.set_cons_succ]
        refine anyT_take (i := 42) (v := ?_) rfl (by kernel_rfl) (by kernel_rfl) (by kernel_rfl) (by kernel_rfl) (fun _ _ _ h => h) (Or.inl ⟨by rfl, ?_⟩) hS4 ?_
        rotate_left
        focus ((intro wq hSw; have m5 := cells6 hSw.1; have m7 := cells7 hSw.2; obtain ⟨d0, d1, d2, d3, d4, d5⟩ := m5; obtain ⟨f0, f1, f2, f3, f4, f5, f6⟩ := m7; go_simp); try with_reducible rfl)
        try simp only [Act.put, List.getElem_toArray, List.getElem_cons_succ, List.getElem_cons_zero, List.setIfInBounds_toArray, List.set_cons_zero, List.set_cons_succ]
        refine anyT_done (by kernel_rfl) ?_ _
        go_wp2_with fail
        go_ret
        exact ⟨by (unfold endOf; simp [h1, Gh2.out, Gh3.out, h4, h5]; try (intros; omega)), ((HB.out.trans (HB2.out.mono HB.out.size)).trans (HX.out.mono (Nat.le_trans HB.out.size HB2.out.size))).trans (HB4.out.mono (Nat.le_trans (Nat.le_trans HB.out.size HB2.out.size) HX.out.size))⟩
end Go.Proofs.Ytinlcgcnjlifkaa
