/- Agree as the document has it. -/
import Derived.Test.YtinlcgcnjlifkaaSV
import Derived.Test.YtinlcgcnjlifkaaSU
namespace Go.Proofs.Ytinlcgcnjlifkaa
open Go.RowKit Go.Shelf Go.Deep

/-- A deal stored in a cell. -/
abbrev st6 (W : World) (R : Nat) (x : Dl) : World := (((((W.setCell ⟨R, 0, none⟩ (.int .i64 x.c)).setCell ⟨R, 1, none⟩ (.int .i64 x.b)).setCell ⟨R, 2, none⟩ (.int .i64 x.z)).setCell ⟨R, 3, none⟩ (.int .i64 x.s)).setCell ⟨R, 4, none⟩ (.int .i64 x.a)).setCell ⟨R, 5, none⟩ (.int .i64 x.k)
theorem st6_blk {W : World} {R : Nat} (x : Dl) {y : Dl} (h : W.heap[R]? = some y.o25) : (st6 W R x).heap[R]? = some x.o25 := blk_set (blk_set (blk_set (blk_set (blk_set (blk_set h)))))
theorem st6_below {w W : World} {R B : Nat} (x : Dl) (h : Below B w W) (hR : B ≤ R) : Below B w (st6 W R x) := Below.setCell (Below.setCell (Below.setCell (Below.setCell (Below.setCell (Below.setCell h hR _) hR _) hR _) hR _) hR _) hR _
theorem agreeK_no {a b : Wish} {p : Int} (h : okJ a b p 0 = true ∧ okJ a b p 1 = true ∧ okJ a b p 2 = true ∧ okJ a b p 3 = true) (h5 : false = (okJ a b p 4 && okJ a b p 5)) : agreeK a b p = 4 := by
  obtain ⟨g0, g1, g2, g3⟩ := h
  unfold agreeK
  rw [g0, g1, g2, g3]
  cases h6 : okJ a b p 4 with
  | false => rfl
  | true =>
    rw [h6] at h5
    have h7 : okJ a b p 5 = false := by simpa using h5.symm
    rw [h7]
    rfl
theorem agreeK_yes {a b : Wish} {p : Int} (h : okJ a b p 0 = true ∧ okJ a b p 1 = true ∧ okJ a b p 2 = true ∧ okJ a b p 3 = true) (h5 : true = (okJ a b p 4 && okJ a b p 5)) : agreeK a b p = 0 := by
  obtain ⟨g0, g1, g2, g3⟩ := h
  have h6 := Bool.and_eq_true_iff.1 h5.symm
  unfold agreeK
  rw [g0, g1, g2, g3, h6.1, h6.2]
  rfl
/-- The memory of Agree: the wishes, the result. -/
structure R3 (w : World) (a b : Wish) (W : World) : Prop where
  ha : W.heap[w.heap.size]? = some (.cells a.c 23)
  hb : W.heap[w.heap.size + 1]? = some (.cells b.c 23)
  hr : W.heap[w.heap.size + 2]? = some zDl.o25
  bel : Below w.heap.size w W
theorem R3.start (w : World) (a b : Wish) : R3 w a b (((w.alloc (.cells a.c 23)).alloc (.cells b.c 23)).alloc zDl.o25) :=
  ⟨blk_old (blk_old (blk_alloc_new _ _)), blk_old (by have := blk_alloc_new (w.alloc (.cells a.c 23)) (.cells b.c 23); simpa using this),
   by have := blk_alloc_new ((w.alloc (.cells a.c 23)).alloc (.cells b.c 23)) zDl.o25; simpa using this,
   ((below_box w _).alloc (by simp) _).alloc (by simp; omega) _⟩
theorem R3.below {w : World} {a b : Wish} {W W' : World} (h : R3 w a b W) (g : Below W.heap.size W W') : R3 w a b W' :=
  ⟨keep_blk g h.ha, keep_blk g h.hb, keep_blk g h.hr, h.bel.trans (g.mono h.bel.size)⟩

set_option maxHeartbeats 4000000 in
set_option maxRecDepth 100000 in
theorem refAgree_bad (a b : Wish) (p : Int) (h : (a.ok && b.ok) = false) (w : World) : Calls Try.prog 5 #[a.v, b.v, .int .i64 p] w (DealAns (dlJ a b p 6) (agreeE a b p) w) := by
  have HE : Hid (agreeE a b p = 1) := Lib.hid (by unfold agreeE; cases ha : a.ok <;> cases hb : b.ok <;> simp_all)
  have HA := Lib.hid (refValid_any a)
  have HB := Lib.hid (refValid_any b)
  have q0 := R3.start w a b
  obtain ⟨Z, hZ⟩ : ∃ Z, ((w.alloc (.cells #[.int .i64 a.least, .int .i64 a.most, .int .i64 a.blocks, .int .i64 a.size, .int .i64 a.stride, .int .i64 a.align, .int .i64 a.kinds] 23)).alloc (.cells #[.int .i64 b.least, .int .i64 b.most, .int .i64 b.blocks, .int .i64 b.size, .int .i64 b.stride, .int .i64 b.align, .int .i64 b.kinds] 23)).alloc (.cells #[.int .i64 0, .int .i64 0, .int .i64 0, .int .i64 0, .int .i64 0, .int .i64 0] 25) = Z := ⟨_, rfl⟩
  replace q0 : R3 w a b Z := by rw [← hZ]; exact q0
  obtain ⟨d0, d1, d2, d3, d4, d5, d6⟩ := cells7 q0.ha; obtain ⟨f0, f1, f2, f3, f4, f5, f6⟩ := cells7 q0.hb
  have HQ0 := Lib.hid q0
  obtain ⟨r0, r1, r2, r3, r4, r5⟩ := cells6 q0.hr; have z0 := frozen_blk (off := 0) q0.hr; have z1 := frozen_blk (off := 1) q0.hr; have z2 := frozen_blk (off := 2) q0.hr; have z3 := frozen_blk (off := 3) q0.hr; have z4 := frozen_blk (off := 4) q0.hr; have z5 := frozen_blk (off := 5) q0.hr
  clear q0
  obtain ⟨va, hva⟩ : ∃ va, a.ok = va := ⟨_, rfl⟩
  obtain ⟨vb, hvb⟩ : ∃ vb, b.ok = vb := ⟨_, rfl⟩
  rw [hva] at HA
  rw [hvb] at HB
  rw [hva, hvb] at h
  clear hva hvb
  cases va with
  | false =>
    clear h
    go_enter Try.func5, Try.ntmps5
    go_upto_region 1 with fail
    try rw [hZ]
    clear hZ
    clear r0 r1 r2 r3 r4 r5 z0 z1 z2 z3 z4 z5
    go_wp2_with (go_at_call 11; (with_reducible refine (HA.out _).mono ?_); rintro e w1 ⟨rfl, hb⟩; have HQ1 := Lib.hid (HQ0.out.below hb); obtain ⟨r0, r1, r2, r3, r4, r5⟩ := cells6 HQ1.out.hr; have z0 := frozen_blk (off := 0) HQ1.out.hr; have z1 := frozen_blk (off := 1) HQ1.out.hr; have z2 := frozen_blk (off := 2) HQ1.out.hr; have z3 := frozen_blk (off := 3) HQ1.out.hr; have z4 := frozen_blk (off := 4) HQ1.out.hr; have z5 := frozen_blk (off := 5) HQ1.out.hr; clear hb)
    refine bodyPost_ret (results_deal rfl _ _ (w.heap.size + 2) _ rfl (st6_blk zDl HQ1.out.hr) rfl) rfl ?_
    exact ⟨by rw [HE.out]; rfl, st6_below zDl HQ1.out.bel (by omega)⟩
  | true =>
    obtain rfl : vb = false := by simpa using h
    clear h
    go_enter Try.func5, Try.ntmps5
    go_upto_region 1 with fail
    try rw [hZ]
    clear hZ
    clear r0 r1 r2 r3 r4 r5 z0 z1 z2 z3 z4 z5
    go_wp2_with (first
      | (go_at_call 11; (with_reducible refine (HA.out _).mono ?_); rintro e w1 ⟨rfl, hb⟩; have HQ1 := Lib.hid (HQ0.out.below hb); clear d0 d1 d2 d3 d4 d5 d6 f0 f1 f2 f3 f4 f5 f6; obtain ⟨d0, d1, d2, d3, d4, d5, d6⟩ := cells7 HQ1.out.ha; obtain ⟨f0, f1, f2, f3, f4, f5, f6⟩ := cells7 HQ1.out.hb; clear hb)
      | (go_at_call 11; (with_reducible refine (HB.out _).mono ?_); rintro e w2 ⟨rfl, hb⟩; have HQ2 := Lib.hid (HQ1.out.below hb); obtain ⟨r0, r1, r2, r3, r4, r5⟩ := cells6 HQ2.out.hr; have z0 := frozen_blk (off := 0) HQ2.out.hr; have z1 := frozen_blk (off := 1) HQ2.out.hr; have z2 := frozen_blk (off := 2) HQ2.out.hr; have z3 := frozen_blk (off := 3) HQ2.out.hr; have z4 := frozen_blk (off := 4) HQ2.out.hr; have z5 := frozen_blk (off := 5) HQ2.out.hr; clear hb))
    refine bodyPost_ret (results_deal rfl _ _ (w.heap.size + 2) _ rfl (st6_blk zDl HQ2.out.hr) rfl) rfl ?_
    exact ⟨by rw [HE.out]; rfl, st6_below zDl HQ2.out.bel (by omega)⟩
set_option maxHeartbeats 8000000 in
set_option maxRecDepth 100000 in
theorem refAgree_good (a b : Wish) (p : Int) (hao : a.ok = true) (hbo : b.ok = true) (w : World) : Calls Try.prog 5 #[a.v, b.v, .int .i64 p] w (DealAns (dlJ a b p 6) (agreeE a b p) w) := by
  have HA := Lib.hid (refValid_any a)
  have HB := Lib.hid (refValid_any b)
  have HI := Lib.hid in_any
  have HAO := Lib.hid hao
  have HBO := Lib.hid hbo
  have q0 := R3.start w a b
  obtain ⟨Z, hZ⟩ : ∃ Z, ((w.alloc (.cells #[.int .i64 a.least, .int .i64 a.most, .int .i64 a.blocks, .int .i64 a.size, .int .i64 a.stride, .int .i64 a.align, .int .i64 a.kinds] 23)).alloc (.cells #[.int .i64 b.least, .int .i64 b.most, .int .i64 b.blocks, .int .i64 b.size, .int .i64 b.stride, .int .i64 b.align, .int .i64 b.kinds] 23)).alloc (.cells #[.int .i64 0, .int .i64 0, .int .i64 0, .int .i64 0, .int .i64 0, .int .i64 0] 25) = Z := ⟨_, rfl⟩
  replace q0 : R3 w a b Z := by rw [← hZ]; exact q0
  obtain ⟨d0, d1, d2, d3, d4, d5, d6⟩ := cells7 q0.ha; obtain ⟨f0, f1, f2, f3, f4, f5, f6⟩ := cells7 q0.hb
  have HQ0 := Lib.hid q0
  clear q0
  rw [hao] at HA
  rw [hbo] at HB
  cases hp : inB p 0 64 with
  | false =>
    have HE : Hid (agreeE a b p = 7) := Lib.hid (by simp [agreeE, hao, hbo, hp])
    clear hao hbo
    go_enter Try.func5, Try.ntmps5
    go_upto_region 1 with fail
    try rw [hZ]
    clear hZ
    go_upto_region 3 with (first
      | (go_at_call 11; (with_reducible refine (HA.out _).mono ?_); rintro e w1 ⟨rfl, hb⟩; have HQ1 := Lib.hid (HQ0.out.below hb); clear d0 d1 d2 d3 d4 d5 d6 f0 f1 f2 f3 f4 f5 f6; obtain ⟨d0, d1, d2, d3, d4, d5, d6⟩ := cells7 HQ1.out.ha; obtain ⟨f0, f1, f2, f3, f4, f5, f6⟩ := cells7 HQ1.out.hb; clear hb)
      | (go_at_call 11; (with_reducible refine (HB.out _).mono ?_); rintro e w2 ⟨rfl, hb⟩; have HQ2 := Lib.hid (HQ1.out.below hb); clear d0 d1 d2 d3 d4 d5 d6 f0 f1 f2 f3 f4 f5 f6; obtain ⟨d0, d1, d2, d3, d4, d5, d6⟩ := cells7 HQ2.out.ha; obtain ⟨f0, f1, f2, f3, f4, f5, f6⟩ := cells7 HQ2.out.hb; obtain ⟨r0, r1, r2, r3, r4, r5⟩ := cells6 HQ2.out.hr; have z0 := frozen_blk (off := 0) HQ2.out.hr; have z1 := frozen_blk (off := 1) HQ2.out.hr; have z2 := frozen_blk (off := 2) HQ2.out.hr; have z3 := frozen_blk (off := 3) HQ2.out.hr; have z4 := frozen_blk (off := 4) HQ2.out.hr; have z5 := frozen_blk (off := 5) HQ2.out.hr; clear hb))
    go_wp2_with (go_at_call 20; (with_reducible refine (HI.out _ _ _ _).mono ?_); rintro e w3 ⟨rfl, rfl⟩; rw [hp])
    refine bodyPost_ret (results_deal rfl _ _ (w.heap.size + 2) _ rfl (st6_blk zDl HQ2.out.hr) rfl) rfl ?_
    exact ⟨by rw [HE.out]; rfl, st6_below zDl HQ2.out.bel (by omega)⟩
  | true =>
    have HE : Hid (agreeE a b p = agreeK a b p) := Lib.hid (by simp [agreeE, hao, hbo, hp])
    have HBA : Hid (∀ (q : Nat), q ≤ 7 → ∀ x, Calls Try.prog 21 #[.int .i64 a.kinds, .int .i64 q] x fun e w' => e = .returned (.bool (bitB a.kinds q)) ∧ x = w') := Lib.hid fun q hq x => refBit_any a.kinds q (by have := Wish.ok_t hao; omega) (by have := Wish.ok_t hao; omega) (by omega) x
    have HBB : Hid (∀ (q : Nat), q ≤ 7 → ∀ x, Calls Try.prog 21 #[.int .i64 b.kinds, .int .i64 q] x fun e w' => e = .returned (.bool (bitB b.kinds q)) ∧ x = w') := Lib.hid fun q hq x => refBit_any b.kinds q (by have := Wish.ok_t hbo; omega) (by have := Wish.ok_t hbo; omega) (by omega) x
    clear hao hbo
    go_enter Try.func5, Try.ntmps5
    go_upto_region 1 with fail
    try rw [hZ]
    clear hZ
    go_upto_region 3 with (first
      | (go_at_call 11; (with_reducible refine (HA.out _).mono ?_); rintro e w1 ⟨rfl, hb⟩; have HQ1 := Lib.hid (HQ0.out.below hb); clear d0 d1 d2 d3 d4 d5 d6 f0 f1 f2 f3 f4 f5 f6; obtain ⟨d0, d1, d2, d3, d4, d5, d6⟩ := cells7 HQ1.out.ha; obtain ⟨f0, f1, f2, f3, f4, f5, f6⟩ := cells7 HQ1.out.hb; clear hb)
      | (go_at_call 11; (with_reducible refine (HB.out _).mono ?_); rintro e w2 ⟨rfl, hb⟩; have HQ2 := Lib.hid (HQ1.out.below hb); clear d0 d1 d2 d3 d4 d5 d6 f0 f1 f2 f3 f4 f5 f6; obtain ⟨d0, d1, d2, d3, d4, d5, d6⟩ := cells7 HQ2.out.ha; obtain ⟨f0, f1, f2, f3, f4, f5, f6⟩ := cells7 HQ2.out.hb; obtain ⟨r0, r1, r2, r3, r4, r5⟩ := cells6 HQ2.out.hr; have z0 := frozen_blk (off := 0) HQ2.out.hr; have z1 := frozen_blk (off := 1) HQ2.out.hr; have z2 := frozen_blk (off := 2) HQ2.out.hr; have z3 := frozen_blk (off := 3) HQ2.out.hr; have z4 := frozen_blk (off := 4) HQ2.out.hr; have z5 := frozen_blk (off := 5) HQ2.out.hr; clear hb))
    go_upto_region 5 with (go_at_call 20; (with_reducible refine (HI.out _ _ _ _).mono ?_); rintro e w3 ⟨rfl, rfl⟩; rw [hp])
    clear hp
    go_wp2_with fail
    go_loop [9, 8] (fun i v => ∃ s : Nat, i = .int .i64 ((s : Int) - 1) ∧ s ≤ 8 ∧ v = .int .i64 (kdF a.kinds b.kinds s (8 - s))) (fun i _ => (intOf i + 1).toNat)
    case atStart => exact ⟨8, rfl, by decide, rfl⟩
    case round =>
      obtain ⟨s, rfl, hs, rfl⟩ := hrel
      cases s with
      | succ q =>
        have e0 : (((q + 1 : Nat) : Int)) - 1 = (q : Int) := by omega
        have e2 : wrap64 ((q : Int) - 1) = (q : Int) - 1 := by unfold wrap64; omega
        have HM : Hid ((intOf (.int .i64 ((q : Int) - 1)) + 1).toNat < (intOf (.int .i64 (q : Int)) + 1).toNat) := Lib.hid (by simp only [intOf]; omega)
        have HK : Hid (kdF a.kinds b.kinds q (8 - q) = if bitB a.kinds q && bitB b.kinds q then (q : Int) else kdF a.kinds b.kinds (q + 1) (8 - (q + 1))) := Lib.hid (by rw [show 8 - q = (8 - (q + 1)) + 1 by omega]; rfl)
        rw [e0]
        obtain ⟨kd, hkd⟩ : ∃ kd, kdF a.kinds b.kinds (q + 1) (8 - (q + 1)) = kd := ⟨_, rfl⟩
        rw [hkd] at HK ⊢
        clear hkd e0
        have HQ7 : Hid (q ≤ 7) := Lib.hid (by omega)
        have g0 : (0 : Int) ≤ (q : Int) := by omega
        clear hs
        cases ba : bitB a.kinds q with
        | false =>
          rw [ba] at HK
          go_wp2_with (go_at_call 21; (with_reducible refine (HBA.out _ HQ7.out _).mono ?_); rintro e w4 ⟨rfl, rfl⟩; rw [ba])
          go_round
          case rel => exact ⟨q, by rw [e2], by have := HQ7.out; omega, by rw [HK.out]; rfl⟩
          case measure => rw [e2]; exact HM.out
        | true =>
          cases bb : bitB b.kinds q with
          | false =>
            rw [ba, bb] at HK
            go_wp2_with (first
              | (go_at_call 21; (with_reducible refine (HBA.out _ HQ7.out _).mono ?_); rintro e w4 ⟨rfl, rfl⟩; rw [ba])
              | (go_at_call 21; (with_reducible refine (HBB.out _ HQ7.out _).mono ?_); rintro e w4 ⟨rfl, rfl⟩; rw [bb]))
            go_round
            case rel => exact ⟨q, by rw [e2], by have := HQ7.out; omega, by rw [HK.out]; rfl⟩
            case measure => rw [e2]; exact HM.out
          | true =>
            rw [ba, bb] at HK
            go_wp2_with (first
              | (go_at_call 21; (with_reducible refine (HBA.out _ HQ7.out _).mono ?_); rintro e w4 ⟨rfl, rfl⟩; rw [ba])
              | (go_at_call 21; (with_reducible refine (HBB.out _ HQ7.out _).mono ?_); rintro e w4 ⟨rfl, rfl⟩; rw [bb]))
            go_round
            case rel => exact ⟨q, by rw [e2], by have := HQ7.out; omega, by rw [HK.out]; rfl⟩
            case measure => rw [e2]; exact HM.out
      | zero =>
        clear hs
        have HKT := Lib.hid (kindT_eq a b)
        obtain ⟨kd, hkd⟩ : ∃ kd, kdF a.kinds b.kinds 0 8 = kd := ⟨_, rfl⟩
        rw [hkd] at HKT
        rw [show kdF a.kinds b.kinds 0 (8 - 0) = kd from hkd]
        clear hkd
        have HQ3 := HQ2
        go_upto_region 11 with fail

        by_cases h1 : a.blocks = b.blocks
        rotate_left
        · have h1f : (a.blocks == b.blocks) = false := by simpa using h1
          have HK : Hid (agreeE a b p = 10) := Lib.hid (by rw [HE.out]; simp [agreeK, okJ, h1])
          go_wp2_with fail
          refine bodyPost_ret (results_deal rfl _ _ (w.heap.size + 2) _ rfl (st6_blk zDl HQ2.out.hr) rfl) rfl ?_
          exact ⟨by rw [HK.out]; rfl, st6_below zDl HQ2.out.bel (by omega)⟩
        have h1t : (a.blocks == b.blocks) = true := by simpa using h1
        have H1 := Lib.hid h1
        clear h1
        by_cases h2 : a.stride = b.stride
        rotate_left
        · have h2f : (a.stride == b.stride) = false := by simpa using h2
          have HK : Hid (agreeE a b p = 10) := Lib.hid (by rw [HE.out]; simp [agreeK, okJ, h2])
          go_wp2_with fail
          refine bodyPost_ret (results_deal rfl _ _ (w.heap.size + 2) _ rfl (st6_blk zDl HQ2.out.hr) rfl) rfl ?_
          exact ⟨by rw [HK.out]; rfl, st6_below zDl HQ2.out.bel (by omega)⟩
        have h2t : (a.stride == b.stride) = true := by simpa using h2
        have H2 := Lib.hid h2
        clear h2
        by_cases h3 : kd < 0
        · have HK : Hid (agreeE a b p = 10) := Lib.hid (by rw [HE.out]; simp [agreeK, okJ, HKT.out, h3])
          go_wp2_with fail
          refine bodyPost_ret (results_deal rfl _ _ (w.heap.size + 2) _ rfl (st6_blk zDl HQ2.out.hr) rfl) rfl ?_
          exact ⟨by rw [HK.out]; rfl, st6_below zDl HQ2.out.bel (by omega)⟩
        have H3 : Hid (kindT a b = some kd) := Lib.hid (by rw [HKT.out, if_neg h3])
        have h3f : decide (kd < 0) = false := by simpa using h3
        have h3g : 0 ≤ kd := by omega
        go_upto_region 13 with fail
        clear h3 h3f h3g
        clear d0 d1 d2 d3 d4 d5 d6 f0 f1 f2 f3 f4 f5 f6
        clear r0 r1 r2 r3 r4 r5 z0 z1 z2 z3 z4 z5
        refine region_T (S := fun wx => R3 w a b wx) [] (by kernel_rfl) (HQ2.out.below ⟨rfl, rfl, rfl, Nat.le_refl _, fun _ _ => rfl⟩) (fun hS => ?_)
        obtain ⟨Y, hY⟩ : ∃ Y, w2.drew = Y := ⟨_, rfl⟩
        rw [hY] at hS ⊢
        clear hY
        refine anyT_take (i := 0) (v := ?_) rfl (by kernel_rfl) (by kernel_rfl) (by kernel_rfl) (by kernel_rfl) (fun _ _ _ h => h) (Or.inl ⟨by rfl, ?_⟩) hS ?_
        rotate_left
        focus ((intro wq hSw; obtain ⟨d0, d1, d2, d3, d4, d5, d6⟩ := cells7 hSw.ha; obtain ⟨f0, f1, f2, f3, f4, f5, f6⟩ := cells7 hSw.hb; go_simp); try with_reducible rfl)
        try simp only [Act.put, List.getElem_toArray, List.getElem_cons_succ, List.getElem_cons_zero, List.setIfInBounds_toArray, List.set_cons_zero, List.set_cons_succ]
        refine anyT_take (i := 1) (v := ?_) rfl (by kernel_rfl) (by kernel_rfl) (by kernel_rfl) (by kernel_rfl) (fun _ _ _ h => h) (Or.inl ⟨by rfl, ?_⟩) hS ?_
        rotate_left
        focus ((intro wq hSw; obtain ⟨d0, d1, d2, d3, d4, d5, d6⟩ := cells7 hSw.ha; obtain ⟨f0, f1, f2, f3, f4, f5, f6⟩ := cells7 hSw.hb; go_simp); try with_reducible rfl)
        try simp only [Act.put, List.getElem_toArray, List.getElem_cons_succ, List.getElem_cons_zero, List.setIfInBounds_toArray, List.set_cons_zero, List.set_cons_succ]
        refine anyT_take (i := 2) (v := ?_) rfl (by kernel_rfl) (by kernel_rfl) (by kernel_rfl) (by kernel_rfl) (fun _ _ _ h => h) (Or.inl ⟨by rfl, ?_⟩) hS ?_
        rotate_left
        focus ((intro wq hSw; obtain ⟨d0, d1, d2, d3, d4, d5, d6⟩ := cells7 hSw.ha; obtain ⟨f0, f1, f2, f3, f4, f5, f6⟩ := cells7 hSw.hb; go_simp); try with_reducible rfl)
        try simp only [Act.put, List.getElem_toArray, List.getElem_cons_succ, List.getElem_cons_zero, List.setIfInBounds_toArray, List.set_cons_zero, List.set_cons_succ]
        refine anyT_take (i := 3) (v := ?_) rfl (by kernel_rfl) (by kernel_rfl) (by kernel_rfl) (by kernel_rfl) (fun _ _ _ h => h) (Or.inl ⟨by rfl, ?_⟩) hS ?_
        rotate_left
        focus ((intro wq hSw; obtain ⟨d0, d1, d2, d3, d4, d5, d6⟩ := cells7 hSw.ha; obtain ⟨f0, f1, f2, f3, f4, f5, f6⟩ := cells7 hSw.hb; go_simp); try with_reducible rfl)
        try simp only [Act.put, List.getElem_toArray, List.getElem_cons_succ, List.getElem_cons_zero, List.setIfInBounds_toArray, List.set_cons_zero, List.set_cons_succ]
        refine anyT_take (i := 4) (v := ?_) rfl (by kernel_rfl) (by kernel_rfl) (by kernel_rfl) (by kernel_rfl) (fun _ _ _ h => h) (Or.inl ⟨by rfl, ?_⟩) hS ?_
        rotate_left
        focus ((intro wq hSw; obtain ⟨d0, d1, d2, d3, d4, d5, d6⟩ := cells7 hSw.ha; obtain ⟨f0, f1, f2, f3, f4, f5, f6⟩ := cells7 hSw.hb; go_simp); try with_reducible rfl)
        try simp only [Act.put, List.getElem_toArray, List.getElem_cons_succ, List.getElem_cons_zero, List.setIfInBounds_toArray, List.set_cons_zero, List.set_cons_succ]
        refine anyT_take (i := 5) (v := ?_) rfl (by kernel_rfl) (by kernel_rfl) (by kernel_rfl) (by kernel_rfl) (fun _ _ _ h => h) (Or.inl ⟨by rfl, ?_⟩) hS ?_
        rotate_left
        focus ((intro wq hSw; obtain ⟨d0, d1, d2, d3, d4, d5, d6⟩ := cells7 hSw.ha; obtain ⟨f0, f1, f2, f3, f4, f5, f6⟩ := cells7 hSw.hb; go_simp); try with_reducible rfl)
        try simp only [Act.put, List.getElem_toArray, List.getElem_cons_succ, List.getElem_cons_zero, List.setIfInBounds_toArray, List.set_cons_zero, List.set_cons_succ]
        refine anyT_take (i := 6) (v := ?_) rfl (by kernel_rfl) (by kernel_rfl) (by kernel_rfl) (by kernel_rfl) (fun _ _ _ h => h) (Or.inl ⟨by rfl, ?_⟩) hS ?_
        rotate_left
        focus ((intro wq hSw; obtain ⟨d0, d1, d2, d3, d4, d5, d6⟩ := cells7 hSw.ha; obtain ⟨f0, f1, f2, f3, f4, f5, f6⟩ := cells7 hSw.hb; go_simp); try with_reducible rfl)
        try simp only [Act.put, List.getElem_toArray, List.getElem_cons_succ, List.getElem_cons_zero, List.setIfInBounds_toArray, List.set_cons_zero, List.set_cons_succ]
        refine anyT_take (i := 7) (v := ?_) rfl (by kernel_rfl) (by kernel_rfl) (by kernel_rfl) (by kernel_rfl) (fun _ _ _ h => h) (Or.inl ⟨by rfl, ?_⟩) hS ?_
        rotate_left
        focus ((intro wq hSw; obtain ⟨d0, d1, d2, d3, d4, d5, d6⟩ := cells7 hSw.ha; obtain ⟨f0, f1, f2, f3, f4, f5, f6⟩ := cells7 hSw.hb; go_simp); try with_reducible rfl)
        try simp only [Act.put, List.getElem_toArray, List.getElem_cons_succ, List.getElem_cons_zero, List.setIfInBounds_toArray, List.set_cons_zero, List.set_cons_succ]
        refine anyT_take (i := 8) (v := ?_) rfl (by kernel_rfl) (by kernel_rfl) (by kernel_rfl) (by kernel_rfl) (fun _ _ _ h => h) (Or.inl ⟨by rfl, ?_⟩) hS ?_
        rotate_left
        focus ((intro wq hSw; obtain ⟨d0, d1, d2, d3, d4, d5, d6⟩ := cells7 hSw.ha; obtain ⟨f0, f1, f2, f3, f4, f5, f6⟩ := cells7 hSw.hb; go_simp); try with_reducible rfl)
        try simp only [Act.put, List.getElem_toArray, List.getElem_cons_succ, List.getElem_cons_zero, List.setIfInBounds_toArray, List.set_cons_zero, List.set_cons_succ]
        refine anyT_take (i := 9) (v := ?_) rfl (by kernel_rfl) (by kernel_rfl) (by kernel_rfl) (by kernel_rfl) (fun _ _ _ h => h) (Or.inl ⟨by rfl, ?_⟩) hS ?_
        rotate_left
        focus ((intro wq hSw; obtain ⟨d0, d1, d2, d3, d4, d5, d6⟩ := cells7 hSw.ha; obtain ⟨f0, f1, f2, f3, f4, f5, f6⟩ := cells7 hSw.hb; go_simp); try with_reducible rfl)
        try simp only [Act.put, List.getElem_toArray, List.getElem_cons_succ, List.getElem_cons_zero, List.setIfInBounds_toArray, List.set_cons_zero, List.set_cons_succ]
        refine anyT_take (i := 10) (v := ?_) rfl (by kernel_rfl) (by kernel_rfl) (by kernel_rfl) (by kernel_rfl) (fun _ _ _ h => h) (Or.inl ⟨by rfl, ?_⟩) hS ?_
        rotate_left
        focus ((intro wq hSw; obtain ⟨d0, d1, d2, d3, d4, d5, d6⟩ := cells7 hSw.ha; obtain ⟨f0, f1, f2, f3, f4, f5, f6⟩ := cells7 hSw.hb; go_simp); try with_reducible rfl)
        try simp only [Act.put, List.getElem_toArray, List.getElem_cons_succ, List.getElem_cons_zero, List.setIfInBounds_toArray, List.set_cons_zero, List.set_cons_succ]
        refine anyT_take (i := 11) (v := ?_) rfl (by kernel_rfl) (by kernel_rfl) (by kernel_rfl) (by kernel_rfl) (fun _ _ _ h => h) (Or.inl ⟨by rfl, ?_⟩) hS ?_
        rotate_left
        focus ((intro wq hSw; obtain ⟨d0, d1, d2, d3, d4, d5, d6⟩ := cells7 hSw.ha; obtain ⟨f0, f1, f2, f3, f4, f5, f6⟩ := cells7 hSw.hb; go_simp); try with_reducible rfl)
        try simp only [Act.put, List.getElem_toArray, List.getElem_cons_succ, List.getElem_cons_zero, List.setIfInBounds_toArray, List.set_cons_zero, List.set_cons_succ]
        refine anyT_done (by kernel_rfl) ?_ _
        have HY := Lib.hid hS
        clear hS HQ2
        obtain ⟨r0, r1, r2, r3, r4, r5⟩ := cells6 HY.out.hr; have z0 := frozen_blk (off := 0) HY.out.hr; have z1 := frozen_blk (off := 1) HY.out.hr; have z2 := frozen_blk (off := 2) HY.out.hr; have z3 := frozen_blk (off := 3) HY.out.hr; have z4 := frozen_blk (off := 4) HY.out.hr; have z5 := frozen_blk (off := 5) HY.out.hr
        obtain ⟨L, hL⟩ : ∃ L, max a.least b.least = L := ⟨_, rfl⟩
        obtain ⟨M, hM⟩ : ∃ M, min a.most b.most = M := ⟨_, rfl⟩
        have HL := Lib.hid hL
        have HM := Lib.hid hM
        rw [hL, hM]
        clear hL hM
        have HCO : Hid (cntOk a b p = decide (L ≤ M)) := Lib.hid (by rw [cntOk_eq p HAO.out HBO.out, HL.out, HM.out])
        by_cases h4 : M < L
        · have HK : Hid (agreeE a b p = 11) := Lib.hid (by rw [HE.out]; simp [agreeK, okJ, H1.out, H2.out, H3.out, HCO.out]; omega)
          go_wp2_with fail
          refine bodyPost_ret (results_deal rfl _ _ (w.heap.size + 2) _ rfl (st6_blk zDl HY.out.hr) rfl) rfl ?_
          exact ⟨by rw [HK.out]; rfl, st6_below zDl HY.out.bel (by omega)⟩
        have hLM : L ≤ M := by omega
        have HF : Hid (cntV a b p = min M (max L p)) := Lib.hid (by rw [cntV_eq p HAO.out HBO.out (by rw [HL.out, HM.out]; exact hLM), HL.out, HM.out])
        have HBD : Hid (1 ≤ L ∧ M ≤ 64) := Lib.hid (by have := Wish.ok_t HAO.out; have := Wish.ok_t HBO.out; have := HL.out; have := HM.out; omega)
        have HLM := Lib.hid hLM
        clear hLM
        go_upto_region 16 with fail
        clear h4 r0 r1 r2 r3 r4 r5 z0 z1 z2 z3 z4 z5 h1t h2t
        have HUP : Hid (∀ x, Calls Try.prog 22 #[.int .i64 (max a.size b.size), .int .i64 b.stride] x fun e w' => e = .returned (.int .i64 (up (max a.size b.size) b.stride)) ∧ x = w') := Lib.hid fun x => refUp_any _ _ (by have := Wish.ok_t HAO.out; have := Wish.ok_t HBO.out; omega) (by have := Wish.ok_t HAO.out; have := Wish.ok_t HBO.out; omega) (by have := Wish.ok_t HBO.out; omega) (by have := Wish.ok_t HBO.out; omega) x
        go_wp2_with fail
        go_loop [12] (fun i => ∃ n : Int, i = .int .i64 n ∧ L ≤ n ∧ n ≤ min M (max L p)) (fun i => (min M (max L p) - intOf i).toNat)
        case atStart => exact ⟨L, rfl, Int.le_refl _, by have := HLM.out; omega⟩
        case round =>
          obtain ⟨n, rfl, h5, h6⟩ := hrel
          have hbd := HBD.out
          by_cases g : n < M
          rotate_left
          · have gf : decide (n < M) = false := by simpa using g
            have HN : Hid (cntV a b p = n) := Lib.hid (by rw [HF.out]; omega)
            clear h5 h6 hbd
            go_upto_region 19 with fail
            try clear g
            try clear g2
            refine region_T (S := fun wx => R3 w a b wx) [] (by kernel_rfl) (HY.out.below ⟨rfl, rfl, rfl, Nat.le_refl _, fun _ _ => rfl⟩) (fun hS => ?_)
            obtain ⟨Y9, hY9⟩ : ∃ Y9, Y.drew = Y9 := ⟨_, rfl⟩
            rw [hY9] at hS ⊢
            clear hY9 HY
            refine anyT_take (i := 0) (v := ?_) rfl (by kernel_rfl) (by kernel_rfl) (by kernel_rfl) (by kernel_rfl) (fun _ _ _ h => h) (Or.inl ⟨by rfl, ?_⟩) hS ?_
            rotate_left
            focus ((intro wq hSw; obtain ⟨d0, d1, d2, d3, d4, d5, d6⟩ := cells7 hSw.ha; obtain ⟨f0, f1, f2, f3, f4, f5, f6⟩ := cells7 hSw.hb; go_simp); try with_reducible rfl)
            try simp only [Act.put, List.getElem_toArray, List.getElem_cons_succ, List.getElem_cons_zero, List.setIfInBounds_toArray, List.set_cons_zero, List.set_cons_succ]
            refine anyT_take (i := 1) (v := ?_) rfl (by kernel_rfl) (by kernel_rfl) (by kernel_rfl) (by kernel_rfl) (fun _ _ _ h => h) (Or.inl ⟨by rfl, ?_⟩) hS ?_
            rotate_left
            focus ((intro wq hSw; obtain ⟨d0, d1, d2, d3, d4, d5, d6⟩ := cells7 hSw.ha; obtain ⟨f0, f1, f2, f3, f4, f5, f6⟩ := cells7 hSw.hb; go_simp); try with_reducible rfl)
            try simp only [Act.put, List.getElem_toArray, List.getElem_cons_succ, List.getElem_cons_zero, List.setIfInBounds_toArray, List.set_cons_zero, List.set_cons_succ]
            refine anyT_take (i := 2) (v := ?_) rfl (by kernel_rfl) (by kernel_rfl) (by kernel_rfl) (by kernel_rfl) (fun _ _ _ h => h) (Or.inl ⟨by rfl, ?_⟩) hS ?_
            rotate_left
            focus ((intro wq hSw; obtain ⟨d0, d1, d2, d3, d4, d5, d6⟩ := cells7 hSw.ha; obtain ⟨f0, f1, f2, f3, f4, f5, f6⟩ := cells7 hSw.hb; go_simp); try with_reducible rfl)
            try simp only [Act.put, List.getElem_toArray, List.getElem_cons_succ, List.getElem_cons_zero, List.setIfInBounds_toArray, List.set_cons_zero, List.set_cons_succ]
            refine anyT_take (i := 3) (v := ?_) rfl (by kernel_rfl) (by kernel_rfl) (by kernel_rfl) (by kernel_rfl) (fun _ _ _ h => h) (Or.inl ⟨by rfl, ?_⟩) hS ?_
            rotate_left
            focus ((intro wq hSw; obtain ⟨d0, d1, d2, d3, d4, d5, d6⟩ := cells7 hSw.ha; obtain ⟨f0, f1, f2, f3, f4, f5, f6⟩ := cells7 hSw.hb; go_simp); try with_reducible rfl)
            try simp only [Act.put, List.getElem_toArray, List.getElem_cons_succ, List.getElem_cons_zero, List.setIfInBounds_toArray, List.set_cons_zero, List.set_cons_succ]
            refine anyT_take (i := 4) (v := ?_) rfl (by kernel_rfl) (by kernel_rfl) (by kernel_rfl) (by kernel_rfl) (fun _ _ _ h => h) (Or.inl ⟨by rfl, ?_⟩) hS ?_
            rotate_left
            focus ((intro wq hSw; obtain ⟨d0, d1, d2, d3, d4, d5, d6⟩ := cells7 hSw.ha; obtain ⟨f0, f1, f2, f3, f4, f5, f6⟩ := cells7 hSw.hb; go_simp); try with_reducible rfl)
            try simp only [Act.put, List.getElem_toArray, List.getElem_cons_succ, List.getElem_cons_zero, List.setIfInBounds_toArray, List.set_cons_zero, List.set_cons_succ]
            refine anyT_take (i := 5) (v := ?_) rfl (by kernel_rfl) (by kernel_rfl) (by kernel_rfl) (by kernel_rfl) (fun _ _ _ h => h) (Or.inl ⟨by rfl, ?_⟩) hS ?_
            rotate_left
            focus ((intro wq hSw; obtain ⟨d0, d1, d2, d3, d4, d5, d6⟩ := cells7 hSw.ha; obtain ⟨f0, f1, f2, f3, f4, f5, f6⟩ := cells7 hSw.hb; go_simp); try with_reducible rfl)
            try simp only [Act.put, List.getElem_toArray, List.getElem_cons_succ, List.getElem_cons_zero, List.setIfInBounds_toArray, List.set_cons_zero, List.set_cons_succ]
            refine anyT_take (i := 6) (v := ?_) rfl (by kernel_rfl) (by kernel_rfl) (by kernel_rfl) (by kernel_rfl) (fun _ _ _ h => h) (Or.inl ⟨by rfl, ?_⟩) hS ?_
            rotate_left
            focus ((intro wq hSw; obtain ⟨d0, d1, d2, d3, d4, d5, d6⟩ := cells7 hSw.ha; obtain ⟨f0, f1, f2, f3, f4, f5, f6⟩ := cells7 hSw.hb; go_simp); try with_reducible rfl)
            try simp only [Act.put, List.getElem_toArray, List.getElem_cons_succ, List.getElem_cons_zero, List.setIfInBounds_toArray, List.set_cons_zero, List.set_cons_succ]
            refine anyT_take (i := 7) (v := ?_) rfl (by kernel_rfl) (by kernel_rfl) (by kernel_rfl) (by kernel_rfl) (fun _ _ _ h => h) (Or.inl ⟨by rfl, ?_⟩) hS ?_
            rotate_left
            focus ((intro wq hSw; obtain ⟨d0, d1, d2, d3, d4, d5, d6⟩ := cells7 hSw.ha; obtain ⟨f0, f1, f2, f3, f4, f5, f6⟩ := cells7 hSw.hb; go_simp); try with_reducible rfl)
            try simp only [Act.put, List.getElem_toArray, List.getElem_cons_succ, List.getElem_cons_zero, List.setIfInBounds_toArray, List.set_cons_zero, List.set_cons_succ]
            refine anyT_take (i := 8) (v := ?_) rfl (by kernel_rfl) (by kernel_rfl) (by kernel_rfl) (by kernel_rfl) (fun _ _ _ h => h) (Or.inl ⟨by rfl, ?_⟩) hS ?_
            rotate_left
            focus ((intro wq hSw; obtain ⟨d0, d1, d2, d3, d4, d5, d6⟩ := cells7 hSw.ha; obtain ⟨f0, f1, f2, f3, f4, f5, f6⟩ := cells7 hSw.hb; go_simp); try with_reducible rfl)
            try simp only [Act.put, List.getElem_toArray, List.getElem_cons_succ, List.getElem_cons_zero, List.setIfInBounds_toArray, List.set_cons_zero, List.set_cons_succ]
            refine anyT_take (i := 9) (v := ?_) rfl (by kernel_rfl) (by kernel_rfl) (by kernel_rfl) (by kernel_rfl) (fun _ _ _ h => h) (Or.inl ⟨by rfl, ?_⟩) hS ?_
            rotate_left
            focus ((intro wq hSw; obtain ⟨d0, d1, d2, d3, d4, d5, d6⟩ := cells7 hSw.ha; obtain ⟨f0, f1, f2, f3, f4, f5, f6⟩ := cells7 hSw.hb; go_simp); try with_reducible rfl)
            try simp only [Act.put, List.getElem_toArray, List.getElem_cons_succ, List.getElem_cons_zero, List.setIfInBounds_toArray, List.set_cons_zero, List.set_cons_succ]
            refine anyT_take (i := 11) (v := ?_) rfl (by kernel_rfl) (by kernel_rfl) (by kernel_rfl) (by kernel_rfl) (fun _ _ _ h => h) (Or.inl ⟨by rfl, ?_⟩) hS ?_
            rotate_left
            focus ((intro wq hSw; obtain ⟨d0, d1, d2, d3, d4, d5, d6⟩ := cells7 hSw.ha; obtain ⟨f0, f1, f2, f3, f4, f5, f6⟩ := cells7 hSw.hb; go_simp); try with_reducible rfl)
            try simp only [Act.put, List.getElem_toArray, List.getElem_cons_succ, List.getElem_cons_zero, List.setIfInBounds_toArray, List.set_cons_zero, List.set_cons_succ]
            refine anyT_take (i := 12) (v := ?_) rfl (by kernel_rfl) (by kernel_rfl) (by kernel_rfl) (by kernel_rfl) (fun _ _ _ h => h) (Or.inl ⟨by rfl, ?_⟩) hS ?_
            rotate_left
            focus ((intro wq hSw; obtain ⟨d0, d1, d2, d3, d4, d5, d6⟩ := cells7 hSw.ha; obtain ⟨f0, f1, f2, f3, f4, f5, f6⟩ := cells7 hSw.hb; go_simp); try with_reducible rfl)
            try simp only [Act.put, List.getElem_toArray, List.getElem_cons_succ, List.getElem_cons_zero, List.setIfInBounds_toArray, List.set_cons_zero, List.set_cons_succ]
            refine anyT_take (i := 13) (v := ?_) rfl (by kernel_rfl) (by kernel_rfl) (by kernel_rfl) (by kernel_rfl) (fun _ _ _ h => h) (Or.inl ⟨by rfl, ?_⟩) hS ?_
            rotate_left
            focus ((intro wq hSw; obtain ⟨d0, d1, d2, d3, d4, d5, d6⟩ := cells7 hSw.ha; obtain ⟨f0, f1, f2, f3, f4, f5, f6⟩ := cells7 hSw.hb; go_simp); try with_reducible rfl)
            try simp only [Act.put, List.getElem_toArray, List.getElem_cons_succ, List.getElem_cons_zero, List.setIfInBounds_toArray, List.set_cons_zero, List.set_cons_succ]
            refine anyT_take (i := 14) (v := ?_) rfl (by kernel_rfl) (by kernel_rfl) (by kernel_rfl) (by kernel_rfl) (fun _ _ _ h => h) (Or.inl ⟨by rfl, ?_⟩) hS ?_
            rotate_left
            focus ((intro wq hSw; obtain ⟨d0, d1, d2, d3, d4, d5, d6⟩ := cells7 hSw.ha; obtain ⟨f0, f1, f2, f3, f4, f5, f6⟩ := cells7 hSw.hb; go_simp); try with_reducible rfl)
            try simp only [Act.put, List.getElem_toArray, List.getElem_cons_succ, List.getElem_cons_zero, List.setIfInBounds_toArray, List.set_cons_zero, List.set_cons_succ]
            refine anyT_take (i := 15) (v := ?_) rfl (by kernel_rfl) (by kernel_rfl) (by kernel_rfl) (by kernel_rfl) (fun _ _ _ h => h) (Or.inl ⟨by rfl, ?_⟩) hS ?_
            rotate_left
            focus ((intro wq hSw; obtain ⟨d0, d1, d2, d3, d4, d5, d6⟩ := cells7 hSw.ha; obtain ⟨f0, f1, f2, f3, f4, f5, f6⟩ := cells7 hSw.hb; go_simp); try with_reducible rfl)
            try simp only [Act.put, List.getElem_toArray, List.getElem_cons_succ, List.getElem_cons_zero, List.setIfInBounds_toArray, List.set_cons_zero, List.set_cons_succ]
            refine anyT_take (i := 16) (v := ?_) rfl (by kernel_rfl) (by kernel_rfl) (by kernel_rfl) (by kernel_rfl) (fun _ _ _ h => h) (Or.inl ⟨by rfl, ?_⟩) hS ?_
            rotate_left
            focus ((intro wq hSw; obtain ⟨d0, d1, d2, d3, d4, d5, d6⟩ := cells7 hSw.ha; obtain ⟨f0, f1, f2, f3, f4, f5, f6⟩ := cells7 hSw.hb; go_simp); try with_reducible rfl)
            try simp only [Act.put, List.getElem_toArray, List.getElem_cons_succ, List.getElem_cons_zero, List.setIfInBounds_toArray, List.set_cons_zero, List.set_cons_succ]
            refine anyT_take (i := 17) (v := ?_) rfl (by kernel_rfl) (by kernel_rfl) (by kernel_rfl) (by kernel_rfl) (fun _ _ _ h => h) (Or.inl ⟨by rfl, ?_⟩) hS ?_
            rotate_left
            focus ((intro wq hSw; obtain ⟨d0, d1, d2, d3, d4, d5, d6⟩ := cells7 hSw.ha; obtain ⟨f0, f1, f2, f3, f4, f5, f6⟩ := cells7 hSw.hb; go_simp); try with_reducible rfl)
            try simp only [Act.put, List.getElem_toArray, List.getElem_cons_succ, List.getElem_cons_zero, List.setIfInBounds_toArray, List.set_cons_zero, List.set_cons_succ]
            refine anyT_take (i := 18) (v := ?_) rfl (by kernel_rfl) (by kernel_rfl) (by kernel_rfl) (by kernel_rfl) (fun _ _ _ h => h) (Or.inl ⟨by rfl, ?_⟩) hS ?_
            rotate_left
            focus ((intro wq hSw; obtain ⟨d0, d1, d2, d3, d4, d5, d6⟩ := cells7 hSw.ha; obtain ⟨f0, f1, f2, f3, f4, f5, f6⟩ := cells7 hSw.hb; go_simp); try with_reducible rfl)
            try simp only [Act.put, List.getElem_toArray, List.getElem_cons_succ, List.getElem_cons_zero, List.setIfInBounds_toArray, List.set_cons_zero, List.set_cons_succ]
            refine anyT_two (i := 10) (j := 20) (by kernel_rfl) rfl rfl (fun K hK => ?_) (fun K hK => ?_)
            rotate_left
            · skip
              go_simp
              refine hK.out _ _ (fun _ => hS.below (below_box _ _)) ?_
              clear hK K
              have HV := Lib.hid (blk_alloc_new Y9 zDl.o25)
              have HSY := Lib.hid hS
              have hS1 : R3 w a b (Y9.alloc zDl.o25) := hS.below (below_box _ _)
              try simp only [Act.put, List.getElem_toArray, List.getElem_cons_succ, List.getElem_cons_zero, List.setIfInBounds_toArray, List.set_cons_zero, List.set_cons_succ]
              refine anyT_one (i := 10) (by kernel_rfl) rfl (fun K hK => ?_)
              go_simp
              with_reducible refine (HUP.out _).mono ?_
              rintro e w9 ⟨rfl, rfl⟩
              go_simp
              refine hK.out _ _ (fun _ => hS1) ?_
              clear hK K
              try simp only [Act.put, List.getElem_toArray, List.getElem_cons_succ, List.getElem_cons_zero, List.setIfInBounds_toArray, List.set_cons_zero, List.set_cons_succ]
              refine anyT_take (i := 19) (v := ?_) rfl (by kernel_rfl) (by kernel_rfl) (by kernel_rfl) (by kernel_rfl) (fun _ _ _ h => h) (Or.inl ⟨by rfl, ?_⟩) hS1 ?_
              rotate_left
              focus ((intro wq hSw; obtain ⟨d0, d1, d2, d3, d4, d5, d6⟩ := cells7 hSw.ha; obtain ⟨f0, f1, f2, f3, f4, f5, f6⟩ := cells7 hSw.hb; go_simp); try with_reducible rfl)
              try simp only [Act.put, List.getElem_toArray, List.getElem_cons_succ, List.getElem_cons_zero, List.setIfInBounds_toArray, List.set_cons_zero, List.set_cons_succ]
              obtain ⟨Y1, hY1⟩ : ∃ Y1, Y9.alloc zDl.o25 = Y1 := ⟨_, rfl⟩
              have HB1 : Hid (Below Y9.heap.size Y9 Y1) := Lib.hid (by rw [← hY1]; exact below_box _ _)
              obtain ⟨V, hV⟩ : ∃ V, Y9.heap.size = V := ⟨_, rfl⟩
              rw [hY1] at HV hS1
              replace hY1 : Y9.alloc (.cells #[.int .i64 0, .int .i64 0, .int .i64 0, .int .i64 0, .int .i64 0, .int .i64 0] 25) = Y1 := hY1
              try rw [hY1]
              rw [hV] at HV
              try rw [hV]
              have hvv := HV.out
              obtain ⟨r0, r1, r2, r3, r4, r5⟩ := cells6 hvv; have z0 := frozen_blk (off := 0) hvv; have z1 := frozen_blk (off := 1) hvv; have z2 := frozen_blk (off := 2) hvv; have z3 := frozen_blk (off := 3) hvv; have z4 := frozen_blk (off := 4) hvv; have z5 := frozen_blk (off := 5) hvv
              have hX2 : R3 w a b (st6 Y1 V ⟨n, b.blocks, up (max a.size b.size) b.stride, b.stride, max a.align b.align, kd⟩) := HSY.out.below (st6_below _ HB1.out (by rw [hV]; exact Nat.le_refl _))
              have hV2 := st6_blk ⟨n, b.blocks, up (max a.size b.size) b.stride, b.stride, max a.align b.align, kd⟩ hvv
              clear hvv hY1
              refine anyT_one (i := 21) (by kernel_rfl) rfl (fun K hK => ?_)
              go_simp
              refine hK.out _ _ (fun _ => hX2) ?_
              clear hK K r0 r1 r2 r3 r4 r5 z0 z1 z2 z3 z4 z5
              try simp only [Act.put, List.getElem_toArray, List.getElem_cons_succ, List.getElem_cons_zero, List.setIfInBounds_toArray, List.set_cons_zero, List.set_cons_succ]
              refine anyT_done (by kernel_rfl) ?_ _
              obtain ⟨Y2, hY2⟩ : ∃ Y2, st6 Y1 V ⟨n, b.blocks, up (max a.size b.size) b.stride, b.stride, max a.align b.align, kd⟩ = Y2 := ⟨_, rfl⟩
              rw [hY2] at hX2 hV2
              replace hY2 : (((((Y1.setCell ⟨V, 0, none⟩ (.int .i64 n)).setCell ⟨V, 1, none⟩ (.int .i64 b.blocks)).setCell ⟨V, 2, none⟩ (.int .i64 (up (max a.size b.size) b.stride))).setCell ⟨V, 3, none⟩ (.int .i64 b.stride)).setCell ⟨V, 4, none⟩ (.int .i64 (max a.align b.align))).setCell ⟨V, 5, none⟩ (.int .i64 kd) = Y2 := hY2
              rw [hY2]
              clear hY2 hS1
              obtain ⟨u, hu⟩ : ∃ u, up (max a.size b.size) b.stride = u := ⟨_, rfl⟩
              obtain ⟨al, hal⟩ : ∃ al, max a.align b.align = al := ⟨_, rfl⟩
              have HX : Hid (dlJ a b p 6 = ⟨n, b.blocks, u, b.stride, al, kd⟩) := Lib.hid (by show (⟨cntV a b p, a.blocks, up (max a.size b.size) a.stride, a.stride, max a.align b.align, (kindT a b).getD 0⟩ : Dl) = _; rw [HN.out, H1.out, H2.out, hu, hal, H3.out]; rfl)
              have HOKB := Lib.hid (deal_ok (p := p) HAO.out HBO.out (by show (kindT a b).isSome = true; rw [H3.out]; rfl) (by show cntOk a b p = true; rw [HCO.out]; simpa using HLM.out))
              rw [HX.out] at HOKB
              rw [hu, hal] at hV2
              try rw [hu]
              try rw [hal]
              have HA5 : Hid (okJ a b p 0 = true ∧ okJ a b p 1 = true ∧ okJ a b p 2 = true ∧ okJ a b p 3 = true) := Lib.hid ⟨by simp [okJ, H1.out], by simp [okJ, H2.out], by simp [okJ, H3.out], by show cntOk a b p = true; rw [HCO.out]; simpa using HLM.out⟩
              have HX2 := Lib.hid hX2
              have HV2 := Lib.hid hV2
              clear hu hal hX2 hV2 HUP
              have HVD := Lib.hid (refValid23_any n b.blocks u b.stride al kd)
              obtain ⟨vd, hvd⟩ : ∃ vd, dealB n b.blocks u b.stride al kd = vd := ⟨_, rfl⟩
              replace HOKB : Hid (dealB n b.blocks u b.stride al kd = (okJ a b p 4 && okJ a b p 5)) := HOKB
              rw [hvd] at HVD HOKB
              clear hvd
              obtain ⟨c0, c1, c2, c3, c4, c5⟩ := cells6 HV2.out
              cases vd with
              | false =>
                go_wp2_with (go_at_call 23; (with_reducible refine (HVD.out _).mono ?_); rintro e w10 ⟨rfl, hb⟩; have HQ5 := Lib.hid (HX2.out.below hb); obtain ⟨r0, r1, r2, r3, r4, r5⟩ := cells6 HQ5.out.hr; have z0 := frozen_blk (off := 0) HQ5.out.hr; have z1 := frozen_blk (off := 1) HQ5.out.hr; have z2 := frozen_blk (off := 2) HQ5.out.hr; have z3 := frozen_blk (off := 3) HQ5.out.hr; have z4 := frozen_blk (off := 4) HQ5.out.hr; have z5 := frozen_blk (off := 5) HQ5.out.hr; clear hb)
                have HK : Hid (agreeE a b p = 4) := Lib.hid (by rw [HE.out]; exact agreeK_no HA5.out HOKB.out)
                refine bodyPost_ret (results_deal rfl _ _ (w.heap.size + 2) _ rfl (st6_blk zDl HQ5.out.hr) rfl) rfl ?_
                exact ⟨by rw [HK.out]; rfl, st6_below zDl HQ5.out.bel (by omega)⟩
              | true =>
                go_wp2_with (go_at_call 23; (with_reducible refine (HVD.out _).mono ?_); rintro e w10 ⟨rfl, hb⟩; have HQ5 := Lib.hid (HX2.out.below hb); have HV5 := Lib.hid (keep_blk hb HV2.out); obtain ⟨r0, r1, r2, r3, r4, r5⟩ := cells6 HQ5.out.hr; have z0 := frozen_blk (off := 0) HQ5.out.hr; have z1 := frozen_blk (off := 1) HQ5.out.hr; have z2 := frozen_blk (off := 2) HQ5.out.hr; have z3 := frozen_blk (off := 3) HQ5.out.hr; have z4 := frozen_blk (off := 4) HQ5.out.hr; have z5 := frozen_blk (off := 5) HQ5.out.hr; have m5 := cells6 HV5.out; obtain ⟨y0, y1, y2, y3, y4, y5⟩ := m5; clear hb)
                have HK : Hid (agreeE a b p = 0) := Lib.hid (by rw [HE.out]; exact agreeK_yes HA5.out HOKB.out)
                refine bodyPost_ret (results_deal rfl _ _ (w.heap.size + 2) _ rfl (st6_blk ⟨n, b.blocks, u, b.stride, al, kd⟩ HQ5.out.hr) rfl) rfl ?_
                exact ⟨by rw [HK.out, HX.out]; rfl, st6_below ⟨n, b.blocks, u, b.stride, al, kd⟩ HQ5.out.bel (by omega)⟩
            go_simp
            with_reducible refine (HUP.out _).mono ?_
            rintro e w9 ⟨rfl, rfl⟩
            go_simp
            refine hK.out _ _ (fun _ => hS) ?_
            clear hK K
            try simp only [Act.put, List.getElem_toArray, List.getElem_cons_succ, List.getElem_cons_zero, List.setIfInBounds_toArray, List.set_cons_zero, List.set_cons_succ]
            refine anyT_take (i := 19) (v := ?_) rfl (by kernel_rfl) (by kernel_rfl) (by kernel_rfl) (by kernel_rfl) (fun _ _ _ h => h) (Or.inl ⟨by rfl, ?_⟩) hS ?_
            rotate_left
            focus ((intro wq hSw; obtain ⟨d0, d1, d2, d3, d4, d5, d6⟩ := cells7 hSw.ha; obtain ⟨f0, f1, f2, f3, f4, f5, f6⟩ := cells7 hSw.hb; go_simp); try with_reducible rfl)
            try simp only [Act.put, List.getElem_toArray, List.getElem_cons_succ, List.getElem_cons_zero, List.setIfInBounds_toArray, List.set_cons_zero, List.set_cons_succ]
            refine anyT_one (i := 20) (by kernel_rfl) rfl (fun K hK => ?_)
            go_simp
            refine hK.out _ _ (fun _ => hS.below (below_box _ _)) ?_
            clear hK K
            have HV := Lib.hid (blk_alloc_new Y9 zDl.o25)
            have HSY := Lib.hid hS
            have hS1 : R3 w a b (Y9.alloc zDl.o25) := hS.below (below_box _ _)
            try simp only [Act.put, List.getElem_toArray, List.getElem_cons_succ, List.getElem_cons_zero, List.setIfInBounds_toArray, List.set_cons_zero, List.set_cons_succ]
            obtain ⟨Y1, hY1⟩ : ∃ Y1, Y9.alloc zDl.o25 = Y1 := ⟨_, rfl⟩
            have HB1 : Hid (Below Y9.heap.size Y9 Y1) := Lib.hid (by rw [← hY1]; exact below_box _ _)
            obtain ⟨V, hV⟩ : ∃ V, Y9.heap.size = V := ⟨_, rfl⟩
            rw [hY1] at HV hS1
            replace hY1 : Y9.alloc (.cells #[.int .i64 0, .int .i64 0, .int .i64 0, .int .i64 0, .int .i64 0, .int .i64 0] 25) = Y1 := hY1
            try rw [hY1]
            rw [hV] at HV
            try rw [hV]
            have hvv := HV.out
            obtain ⟨r0, r1, r2, r3, r4, r5⟩ := cells6 hvv; have z0 := frozen_blk (off := 0) hvv; have z1 := frozen_blk (off := 1) hvv; have z2 := frozen_blk (off := 2) hvv; have z3 := frozen_blk (off := 3) hvv; have z4 := frozen_blk (off := 4) hvv; have z5 := frozen_blk (off := 5) hvv
            have hX2 : R3 w a b (st6 Y1 V ⟨n, b.blocks, up (max a.size b.size) b.stride, b.stride, max a.align b.align, kd⟩) := HSY.out.below (st6_below _ HB1.out (by rw [hV]; exact Nat.le_refl _))
            have hV2 := st6_blk ⟨n, b.blocks, up (max a.size b.size) b.stride, b.stride, max a.align b.align, kd⟩ hvv
            clear hvv hY1
            refine anyT_one (i := 21) (by kernel_rfl) rfl (fun K hK => ?_)
            go_simp
            refine hK.out _ _ (fun _ => hX2) ?_
            clear hK K r0 r1 r2 r3 r4 r5 z0 z1 z2 z3 z4 z5
            try simp only [Act.put, List.getElem_toArray, List.getElem_cons_succ, List.getElem_cons_zero, List.setIfInBounds_toArray, List.set_cons_zero, List.set_cons_succ]
            refine anyT_done (by kernel_rfl) ?_ _
            obtain ⟨Y2, hY2⟩ : ∃ Y2, st6 Y1 V ⟨n, b.blocks, up (max a.size b.size) b.stride, b.stride, max a.align b.align, kd⟩ = Y2 := ⟨_, rfl⟩
            rw [hY2] at hX2 hV2
            replace hY2 : (((((Y1.setCell ⟨V, 0, none⟩ (.int .i64 n)).setCell ⟨V, 1, none⟩ (.int .i64 b.blocks)).setCell ⟨V, 2, none⟩ (.int .i64 (up (max a.size b.size) b.stride))).setCell ⟨V, 3, none⟩ (.int .i64 b.stride)).setCell ⟨V, 4, none⟩ (.int .i64 (max a.align b.align))).setCell ⟨V, 5, none⟩ (.int .i64 kd) = Y2 := hY2
            rw [hY2]
            clear hY2 hS1
            obtain ⟨u, hu⟩ : ∃ u, up (max a.size b.size) b.stride = u := ⟨_, rfl⟩
            obtain ⟨al, hal⟩ : ∃ al, max a.align b.align = al := ⟨_, rfl⟩
            have HX : Hid (dlJ a b p 6 = ⟨n, b.blocks, u, b.stride, al, kd⟩) := Lib.hid (by show (⟨cntV a b p, a.blocks, up (max a.size b.size) a.stride, a.stride, max a.align b.align, (kindT a b).getD 0⟩ : Dl) = _; rw [HN.out, H1.out, H2.out, hu, hal, H3.out]; rfl)
            have HOKB := Lib.hid (deal_ok (p := p) HAO.out HBO.out (by show (kindT a b).isSome = true; rw [H3.out]; rfl) (by show cntOk a b p = true; rw [HCO.out]; simpa using HLM.out))
            rw [HX.out] at HOKB
            rw [hu, hal] at hV2
            try rw [hu]
            try rw [hal]
            have HA5 : Hid (okJ a b p 0 = true ∧ okJ a b p 1 = true ∧ okJ a b p 2 = true ∧ okJ a b p 3 = true) := Lib.hid ⟨by simp [okJ, H1.out], by simp [okJ, H2.out], by simp [okJ, H3.out], by show cntOk a b p = true; rw [HCO.out]; simpa using HLM.out⟩
            have HX2 := Lib.hid hX2
            have HV2 := Lib.hid hV2
            clear hu hal hX2 hV2 HUP
            have HVD := Lib.hid (refValid23_any n b.blocks u b.stride al kd)
            obtain ⟨vd, hvd⟩ : ∃ vd, dealB n b.blocks u b.stride al kd = vd := ⟨_, rfl⟩
            replace HOKB : Hid (dealB n b.blocks u b.stride al kd = (okJ a b p 4 && okJ a b p 5)) := HOKB
            rw [hvd] at HVD HOKB
            clear hvd
            obtain ⟨c0, c1, c2, c3, c4, c5⟩ := cells6 HV2.out
            cases vd with
            | false =>
              go_wp2_with (go_at_call 23; (with_reducible refine (HVD.out _).mono ?_); rintro e w10 ⟨rfl, hb⟩; have HQ5 := Lib.hid (HX2.out.below hb); obtain ⟨r0, r1, r2, r3, r4, r5⟩ := cells6 HQ5.out.hr; have z0 := frozen_blk (off := 0) HQ5.out.hr; have z1 := frozen_blk (off := 1) HQ5.out.hr; have z2 := frozen_blk (off := 2) HQ5.out.hr; have z3 := frozen_blk (off := 3) HQ5.out.hr; have z4 := frozen_blk (off := 4) HQ5.out.hr; have z5 := frozen_blk (off := 5) HQ5.out.hr; clear hb)
              have HK : Hid (agreeE a b p = 4) := Lib.hid (by rw [HE.out]; exact agreeK_no HA5.out HOKB.out)
              refine bodyPost_ret (results_deal rfl _ _ (w.heap.size + 2) _ rfl (st6_blk zDl HQ5.out.hr) rfl) rfl ?_
              exact ⟨by rw [HK.out]; rfl, st6_below zDl HQ5.out.bel (by omega)⟩
            | true =>
              go_wp2_with (go_at_call 23; (with_reducible refine (HVD.out _).mono ?_); rintro e w10 ⟨rfl, hb⟩; have HQ5 := Lib.hid (HX2.out.below hb); have HV5 := Lib.hid (keep_blk hb HV2.out); obtain ⟨r0, r1, r2, r3, r4, r5⟩ := cells6 HQ5.out.hr; have z0 := frozen_blk (off := 0) HQ5.out.hr; have z1 := frozen_blk (off := 1) HQ5.out.hr; have z2 := frozen_blk (off := 2) HQ5.out.hr; have z3 := frozen_blk (off := 3) HQ5.out.hr; have z4 := frozen_blk (off := 4) HQ5.out.hr; have z5 := frozen_blk (off := 5) HQ5.out.hr; have m5 := cells6 HV5.out; obtain ⟨y0, y1, y2, y3, y4, y5⟩ := m5; clear hb)
              have HK : Hid (agreeE a b p = 0) := Lib.hid (by rw [HE.out]; exact agreeK_yes HA5.out HOKB.out)
              refine bodyPost_ret (results_deal rfl _ _ (w.heap.size + 2) _ rfl (st6_blk ⟨n, b.blocks, u, b.stride, al, kd⟩ HQ5.out.hr) rfl) rfl ?_
              exact ⟨by rw [HK.out, HX.out]; rfl, st6_below ⟨n, b.blocks, u, b.stride, al, kd⟩ HQ5.out.bel (by omega)⟩
          by_cases g2 : n < p
          rotate_left
          · have g2f : decide (n < p) = false := by simpa using g2
            have HN : Hid (cntV a b p = n) := Lib.hid (by rw [HF.out]; omega)
            clear h5 h6 hbd
            go_upto_region 19 with fail
            try clear g
            try clear g2
            refine region_T (S := fun wx => R3 w a b wx) [] (by kernel_rfl) (HY.out.below ⟨rfl, rfl, rfl, Nat.le_refl _, fun _ _ => rfl⟩) (fun hS => ?_)
            obtain ⟨Y9, hY9⟩ : ∃ Y9, Y.drew = Y9 := ⟨_, rfl⟩
            rw [hY9] at hS ⊢
            clear hY9 HY
            refine anyT_take (i := 0) (v := ?_) rfl (by kernel_rfl) (by kernel_rfl) (by kernel_rfl) (by kernel_rfl) (fun _ _ _ h => h) (Or.inl ⟨by rfl, ?_⟩) hS ?_
            rotate_left
            focus ((intro wq hSw; obtain ⟨d0, d1, d2, d3, d4, d5, d6⟩ := cells7 hSw.ha; obtain ⟨f0, f1, f2, f3, f4, f5, f6⟩ := cells7 hSw.hb; go_simp); try with_reducible rfl)
            try simp only [Act.put, List.getElem_toArray, List.getElem_cons_succ, List.getElem_cons_zero, List.setIfInBounds_toArray, List.set_cons_zero, List.set_cons_succ]
            refine anyT_take (i := 1) (v := ?_) rfl (by kernel_rfl) (by kernel_rfl) (by kernel_rfl) (by kernel_rfl) (fun _ _ _ h => h) (Or.inl ⟨by rfl, ?_⟩) hS ?_
            rotate_left
            focus ((intro wq hSw; obtain ⟨d0, d1, d2, d3, d4, d5, d6⟩ := cells7 hSw.ha; obtain ⟨f0, f1, f2, f3, f4, f5, f6⟩ := cells7 hSw.hb; go_simp); try with_reducible rfl)
            try simp only [Act.put, List.getElem_toArray, List.getElem_cons_succ, List.getElem_cons_zero, List.setIfInBounds_toArray, List.set_cons_zero, List.set_cons_succ]
            refine anyT_take (i := 2) (v := ?_) rfl (by kernel_rfl) (by kernel_rfl) (by kernel_rfl) (by kernel_rfl) (fun _ _ _ h => h) (Or.inl ⟨by rfl, ?_⟩) hS ?_
            rotate_left
            focus ((intro wq hSw; obtain ⟨d0, d1, d2, d3, d4, d5, d6⟩ := cells7 hSw.ha; obtain ⟨f0, f1, f2, f3, f4, f5, f6⟩ := cells7 hSw.hb; go_simp); try with_reducible rfl)
            try simp only [Act.put, List.getElem_toArray, List.getElem_cons_succ, List.getElem_cons_zero, List.setIfInBounds_toArray, List.set_cons_zero, List.set_cons_succ]
            refine anyT_take (i := 3) (v := ?_) rfl (by kernel_rfl) (by kernel_rfl) (by kernel_rfl) (by kernel_rfl) (fun _ _ _ h => h) (Or.inl ⟨by rfl, ?_⟩) hS ?_
            rotate_left
            focus ((intro wq hSw; obtain ⟨d0, d1, d2, d3, d4, d5, d6⟩ := cells7 hSw.ha; obtain ⟨f0, f1, f2, f3, f4, f5, f6⟩ := cells7 hSw.hb; go_simp); try with_reducible rfl)
            try simp only [Act.put, List.getElem_toArray, List.getElem_cons_succ, List.getElem_cons_zero, List.setIfInBounds_toArray, List.set_cons_zero, List.set_cons_succ]
            refine anyT_take (i := 4) (v := ?_) rfl (by kernel_rfl) (by kernel_rfl) (by kernel_rfl) (by kernel_rfl) (fun _ _ _ h => h) (Or.inl ⟨by rfl, ?_⟩) hS ?_
            rotate_left
            focus ((intro wq hSw; obtain ⟨d0, d1, d2, d3, d4, d5, d6⟩ := cells7 hSw.ha; obtain ⟨f0, f1, f2, f3, f4, f5, f6⟩ := cells7 hSw.hb; go_simp); try with_reducible rfl)
            try simp only [Act.put, List.getElem_toArray, List.getElem_cons_succ, List.getElem_cons_zero, List.setIfInBounds_toArray, List.set_cons_zero, List.set_cons_succ]
            refine anyT_take (i := 5) (v := ?_) rfl (by kernel_rfl) (by kernel_rfl) (by kernel_rfl) (by kernel_rfl) (fun _ _ _ h => h) (Or.inl ⟨by rfl, ?_⟩) hS ?_
            rotate_left
            focus ((intro wq hSw; obtain ⟨d0, d1, d2, d3, d4, d5, d6⟩ := cells7 hSw.ha; obtain ⟨f0, f1, f2, f3, f4, f5, f6⟩ := cells7 hSw.hb; go_simp); try with_reducible rfl)
            try simp only [Act.put, List.getElem_toArray, List.getElem_cons_succ, List.getElem_cons_zero, List.setIfInBounds_toArray, List.set_cons_zero, List.set_cons_succ]
            refine anyT_take (i := 6) (v := ?_) rfl (by kernel_rfl) (by kernel_rfl) (by kernel_rfl) (by kernel_rfl) (fun _ _ _ h => h) (Or.inl ⟨by rfl, ?_⟩) hS ?_
            rotate_left
            focus ((intro wq hSw; obtain ⟨d0, d1, d2, d3, d4, d5, d6⟩ := cells7 hSw.ha; obtain ⟨f0, f1, f2, f3, f4, f5, f6⟩ := cells7 hSw.hb; go_simp); try with_reducible rfl)
            try simp only [Act.put, List.getElem_toArray, List.getElem_cons_succ, List.getElem_cons_zero, List.setIfInBounds_toArray, List.set_cons_zero, List.set_cons_succ]
            refine anyT_take (i := 7) (v := ?_) rfl (by kernel_rfl) (by kernel_rfl) (by kernel_rfl) (by kernel_rfl) (fun _ _ _ h => h) (Or.inl ⟨by rfl, ?_⟩) hS ?_
            rotate_left
            focus ((intro wq hSw; obtain ⟨d0, d1, d2, d3, d4, d5, d6⟩ := cells7 hSw.ha; obtain ⟨f0, f1, f2, f3, f4, f5, f6⟩ := cells7 hSw.hb; go_simp); try with_reducible rfl)
            try simp only [Act.put, List.getElem_toArray, List.getElem_cons_succ, List.getElem_cons_zero, List.setIfInBounds_toArray, List.set_cons_zero, List.set_cons_succ]
            refine anyT_take (i := 8) (v := ?_) rfl (by kernel_rfl) (by kernel_rfl) (by kernel_rfl) (by kernel_rfl) (fun _ _ _ h => h) (Or.inl ⟨by rfl, ?_⟩) hS ?_
            rotate_left
            focus ((intro wq hSw; obtain ⟨d0, d1, d2, d3, d4, d5, d6⟩ := cells7 hSw.ha; obtain ⟨f0, f1, f2, f3, f4, f5, f6⟩ := cells7 hSw.hb; go_simp); try with_reducible rfl)
            try simp only [Act.put, List.getElem_toArray, List.getElem_cons_succ, List.getElem_cons_zero, List.setIfInBounds_toArray, List.set_cons_zero, List.set_cons_succ]
            refine anyT_take (i := 9) (v := ?_) rfl (by kernel_rfl) (by kernel_rfl) (by kernel_rfl) (by kernel_rfl) (fun _ _ _ h => h) (Or.inl ⟨by rfl, ?_⟩) hS ?_
            rotate_left
            focus ((intro wq hSw; obtain ⟨d0, d1, d2, d3, d4, d5, d6⟩ := cells7 hSw.ha; obtain ⟨f0, f1, f2, f3, f4, f5, f6⟩ := cells7 hSw.hb; go_simp); try with_reducible rfl)
            try simp only [Act.put, List.getElem_toArray, List.getElem_cons_succ, List.getElem_cons_zero, List.setIfInBounds_toArray, List.set_cons_zero, List.set_cons_succ]
            refine anyT_take (i := 11) (v := ?_) rfl (by kernel_rfl) (by kernel_rfl) (by kernel_rfl) (by kernel_rfl) (fun _ _ _ h => h) (Or.inl ⟨by rfl, ?_⟩) hS ?_
            rotate_left
            focus ((intro wq hSw; obtain ⟨d0, d1, d2, d3, d4, d5, d6⟩ := cells7 hSw.ha; obtain ⟨f0, f1, f2, f3, f4, f5, f6⟩ := cells7 hSw.hb; go_simp); try with_reducible rfl)
            try simp only [Act.put, List.getElem_toArray, List.getElem_cons_succ, List.getElem_cons_zero, List.setIfInBounds_toArray, List.set_cons_zero, List.set_cons_succ]
            refine anyT_take (i := 12) (v := ?_) rfl (by kernel_rfl) (by kernel_rfl) (by kernel_rfl) (by kernel_rfl) (fun _ _ _ h => h) (Or.inl ⟨by rfl, ?_⟩) hS ?_
            rotate_left
            focus ((intro wq hSw; obtain ⟨d0, d1, d2, d3, d4, d5, d6⟩ := cells7 hSw.ha; obtain ⟨f0, f1, f2, f3, f4, f5, f6⟩ := cells7 hSw.hb; go_simp); try with_reducible rfl)
            try simp only [Act.put, List.getElem_toArray, List.getElem_cons_succ, List.getElem_cons_zero, List.setIfInBounds_toArray, List.set_cons_zero, List.set_cons_succ]
            refine anyT_take (i := 13) (v := ?_) rfl (by kernel_rfl) (by kernel_rfl) (by kernel_rfl) (by kernel_rfl) (fun _ _ _ h => h) (Or.inl ⟨by rfl, ?_⟩) hS ?_
            rotate_left
            focus ((intro wq hSw; obtain ⟨d0, d1, d2, d3, d4, d5, d6⟩ := cells7 hSw.ha; obtain ⟨f0, f1, f2, f3, f4, f5, f6⟩ := cells7 hSw.hb; go_simp); try with_reducible rfl)
            try simp only [Act.put, List.getElem_toArray, List.getElem_cons_succ, List.getElem_cons_zero, List.setIfInBounds_toArray, List.set_cons_zero, List.set_cons_succ]
            refine anyT_take (i := 14) (v := ?_) rfl (by kernel_rfl) (by kernel_rfl) (by kernel_rfl) (by kernel_rfl) (fun _ _ _ h => h) (Or.inl ⟨by rfl, ?_⟩) hS ?_
            rotate_left
            focus ((intro wq hSw; obtain ⟨d0, d1, d2, d3, d4, d5, d6⟩ := cells7 hSw.ha; obtain ⟨f0, f1, f2, f3, f4, f5, f6⟩ := cells7 hSw.hb; go_simp); try with_reducible rfl)
            try simp only [Act.put, List.getElem_toArray, List.getElem_cons_succ, List.getElem_cons_zero, List.setIfInBounds_toArray, List.set_cons_zero, List.set_cons_succ]
            refine anyT_take (i := 15) (v := ?_) rfl (by kernel_rfl) (by kernel_rfl) (by kernel_rfl) (by kernel_rfl) (fun _ _ _ h => h) (Or.inl ⟨by rfl, ?_⟩) hS ?_
            rotate_left
            focus ((intro wq hSw; obtain ⟨d0, d1, d2, d3, d4, d5, d6⟩ := cells7 hSw.ha; obtain ⟨f0, f1, f2, f3, f4, f5, f6⟩ := cells7 hSw.hb; go_simp); try with_reducible rfl)
            try simp only [Act.put, List.getElem_toArray, List.getElem_cons_succ, List.getElem_cons_zero, List.setIfInBounds_toArray, List.set_cons_zero, List.set_cons_succ]
            refine anyT_take (i := 16) (v := ?_) rfl (by kernel_rfl) (by kernel_rfl) (by kernel_rfl) (by kernel_rfl) (fun _ _ _ h => h) (Or.inl ⟨by rfl, ?_⟩) hS ?_
            rotate_left
            focus ((intro wq hSw; obtain ⟨d0, d1, d2, d3, d4, d5, d6⟩ := cells7 hSw.ha; obtain ⟨f0, f1, f2, f3, f4, f5, f6⟩ := cells7 hSw.hb; go_simp); try with_reducible rfl)
            try simp only [Act.put, List.getElem_toArray, List.getElem_cons_succ, List.getElem_cons_zero, List.setIfInBounds_toArray, List.set_cons_zero, List.set_cons_succ]
            refine anyT_take (i := 17) (v := ?_) rfl (by kernel_rfl) (by kernel_rfl) (by kernel_rfl) (by kernel_rfl) (fun _ _ _ h => h) (Or.inl ⟨by rfl, ?_⟩) hS ?_
            rotate_left
            focus ((intro wq hSw; obtain ⟨d0, d1, d2, d3, d4, d5, d6⟩ := cells7 hSw.ha; obtain ⟨f0, f1, f2, f3, f4, f5, f6⟩ := cells7 hSw.hb; go_simp); try with_reducible rfl)
            try simp only [Act.put, List.getElem_toArray, List.getElem_cons_succ, List.getElem_cons_zero, List.setIfInBounds_toArray, List.set_cons_zero, List.set_cons_succ]
            refine anyT_take (i := 18) (v := ?_) rfl (by kernel_rfl) (by kernel_rfl) (by kernel_rfl) (by kernel_rfl) (fun _ _ _ h => h) (Or.inl ⟨by rfl, ?_⟩) hS ?_
            rotate_left
            focus ((intro wq hSw; obtain ⟨d0, d1, d2, d3, d4, d5, d6⟩ := cells7 hSw.ha; obtain ⟨f0, f1, f2, f3, f4, f5, f6⟩ := cells7 hSw.hb; go_simp); try with_reducible rfl)
            try simp only [Act.put, List.getElem_toArray, List.getElem_cons_succ, List.getElem_cons_zero, List.setIfInBounds_toArray, List.set_cons_zero, List.set_cons_succ]
            refine anyT_two (i := 10) (j := 20) (by kernel_rfl) rfl rfl (fun K hK => ?_) (fun K hK => ?_)
            rotate_left
            · skip
              go_simp
              refine hK.out _ _ (fun _ => hS.below (below_box _ _)) ?_
              clear hK K
              have HV := Lib.hid (blk_alloc_new Y9 zDl.o25)
              have HSY := Lib.hid hS
              have hS1 : R3 w a b (Y9.alloc zDl.o25) := hS.below (below_box _ _)
              try simp only [Act.put, List.getElem_toArray, List.getElem_cons_succ, List.getElem_cons_zero, List.setIfInBounds_toArray, List.set_cons_zero, List.set_cons_succ]
              refine anyT_one (i := 10) (by kernel_rfl) rfl (fun K hK => ?_)
              go_simp
              with_reducible refine (HUP.out _).mono ?_
              rintro e w9 ⟨rfl, rfl⟩
              go_simp
              refine hK.out _ _ (fun _ => hS1) ?_
              clear hK K
              try simp only [Act.put, List.getElem_toArray, List.getElem_cons_succ, List.getElem_cons_zero, List.setIfInBounds_toArray, List.set_cons_zero, List.set_cons_succ]
              refine anyT_take (i := 19) (v := ?_) rfl (by kernel_rfl) (by kernel_rfl) (by kernel_rfl) (by kernel_rfl) (fun _ _ _ h => h) (Or.inl ⟨by rfl, ?_⟩) hS1 ?_
              rotate_left
              focus ((intro wq hSw; obtain ⟨d0, d1, d2, d3, d4, d5, d6⟩ := cells7 hSw.ha; obtain ⟨f0, f1, f2, f3, f4, f5, f6⟩ := cells7 hSw.hb; go_simp); try with_reducible rfl)
              try simp only [Act.put, List.getElem_toArray, List.getElem_cons_succ, List.getElem_cons_zero, List.setIfInBounds_toArray, List.set_cons_zero, List.set_cons_succ]
              obtain ⟨Y1, hY1⟩ : ∃ Y1, Y9.alloc zDl.o25 = Y1 := ⟨_, rfl⟩
              have HB1 : Hid (Below Y9.heap.size Y9 Y1) := Lib.hid (by rw [← hY1]; exact below_box _ _)
              obtain ⟨V, hV⟩ : ∃ V, Y9.heap.size = V := ⟨_, rfl⟩
              rw [hY1] at HV hS1
              replace hY1 : Y9.alloc (.cells #[.int .i64 0, .int .i64 0, .int .i64 0, .int .i64 0, .int .i64 0, .int .i64 0] 25) = Y1 := hY1
              try rw [hY1]
              rw [hV] at HV
              try rw [hV]
              have hvv := HV.out
              obtain ⟨r0, r1, r2, r3, r4, r5⟩ := cells6 hvv; have z0 := frozen_blk (off := 0) hvv; have z1 := frozen_blk (off := 1) hvv; have z2 := frozen_blk (off := 2) hvv; have z3 := frozen_blk (off := 3) hvv; have z4 := frozen_blk (off := 4) hvv; have z5 := frozen_blk (off := 5) hvv
              have hX2 : R3 w a b (st6 Y1 V ⟨n, b.blocks, up (max a.size b.size) b.stride, b.stride, max a.align b.align, kd⟩) := HSY.out.below (st6_below _ HB1.out (by rw [hV]; exact Nat.le_refl _))
              have hV2 := st6_blk ⟨n, b.blocks, up (max a.size b.size) b.stride, b.stride, max a.align b.align, kd⟩ hvv
              clear hvv hY1
              refine anyT_one (i := 21) (by kernel_rfl) rfl (fun K hK => ?_)
              go_simp
              refine hK.out _ _ (fun _ => hX2) ?_
              clear hK K r0 r1 r2 r3 r4 r5 z0 z1 z2 z3 z4 z5
              try simp only [Act.put, List.getElem_toArray, List.getElem_cons_succ, List.getElem_cons_zero, List.setIfInBounds_toArray, List.set_cons_zero, List.set_cons_succ]
              refine anyT_done (by kernel_rfl) ?_ _
              obtain ⟨Y2, hY2⟩ : ∃ Y2, st6 Y1 V ⟨n, b.blocks, up (max a.size b.size) b.stride, b.stride, max a.align b.align, kd⟩ = Y2 := ⟨_, rfl⟩
              rw [hY2] at hX2 hV2
              replace hY2 : (((((Y1.setCell ⟨V, 0, none⟩ (.int .i64 n)).setCell ⟨V, 1, none⟩ (.int .i64 b.blocks)).setCell ⟨V, 2, none⟩ (.int .i64 (up (max a.size b.size) b.stride))).setCell ⟨V, 3, none⟩ (.int .i64 b.stride)).setCell ⟨V, 4, none⟩ (.int .i64 (max a.align b.align))).setCell ⟨V, 5, none⟩ (.int .i64 kd) = Y2 := hY2
              rw [hY2]
              clear hY2 hS1
              obtain ⟨u, hu⟩ : ∃ u, up (max a.size b.size) b.stride = u := ⟨_, rfl⟩
              obtain ⟨al, hal⟩ : ∃ al, max a.align b.align = al := ⟨_, rfl⟩
              have HX : Hid (dlJ a b p 6 = ⟨n, b.blocks, u, b.stride, al, kd⟩) := Lib.hid (by show (⟨cntV a b p, a.blocks, up (max a.size b.size) a.stride, a.stride, max a.align b.align, (kindT a b).getD 0⟩ : Dl) = _; rw [HN.out, H1.out, H2.out, hu, hal, H3.out]; rfl)
              have HOKB := Lib.hid (deal_ok (p := p) HAO.out HBO.out (by show (kindT a b).isSome = true; rw [H3.out]; rfl) (by show cntOk a b p = true; rw [HCO.out]; simpa using HLM.out))
              rw [HX.out] at HOKB
              rw [hu, hal] at hV2
              try rw [hu]
              try rw [hal]
              have HA5 : Hid (okJ a b p 0 = true ∧ okJ a b p 1 = true ∧ okJ a b p 2 = true ∧ okJ a b p 3 = true) := Lib.hid ⟨by simp [okJ, H1.out], by simp [okJ, H2.out], by simp [okJ, H3.out], by show cntOk a b p = true; rw [HCO.out]; simpa using HLM.out⟩
              have HX2 := Lib.hid hX2
              have HV2 := Lib.hid hV2
              clear hu hal hX2 hV2 HUP
              have HVD := Lib.hid (refValid23_any n b.blocks u b.stride al kd)
              obtain ⟨vd, hvd⟩ : ∃ vd, dealB n b.blocks u b.stride al kd = vd := ⟨_, rfl⟩
              replace HOKB : Hid (dealB n b.blocks u b.stride al kd = (okJ a b p 4 && okJ a b p 5)) := HOKB
              rw [hvd] at HVD HOKB
              clear hvd
              obtain ⟨c0, c1, c2, c3, c4, c5⟩ := cells6 HV2.out
              cases vd with
              | false =>
                go_wp2_with (go_at_call 23; (with_reducible refine (HVD.out _).mono ?_); rintro e w10 ⟨rfl, hb⟩; have HQ5 := Lib.hid (HX2.out.below hb); obtain ⟨r0, r1, r2, r3, r4, r5⟩ := cells6 HQ5.out.hr; have z0 := frozen_blk (off := 0) HQ5.out.hr; have z1 := frozen_blk (off := 1) HQ5.out.hr; have z2 := frozen_blk (off := 2) HQ5.out.hr; have z3 := frozen_blk (off := 3) HQ5.out.hr; have z4 := frozen_blk (off := 4) HQ5.out.hr; have z5 := frozen_blk (off := 5) HQ5.out.hr; clear hb)
                have HK : Hid (agreeE a b p = 4) := Lib.hid (by rw [HE.out]; exact agreeK_no HA5.out HOKB.out)
                refine bodyPost_ret (results_deal rfl _ _ (w.heap.size + 2) _ rfl (st6_blk zDl HQ5.out.hr) rfl) rfl ?_
                exact ⟨by rw [HK.out]; rfl, st6_below zDl HQ5.out.bel (by omega)⟩
              | true =>
                go_wp2_with (go_at_call 23; (with_reducible refine (HVD.out _).mono ?_); rintro e w10 ⟨rfl, hb⟩; have HQ5 := Lib.hid (HX2.out.below hb); have HV5 := Lib.hid (keep_blk hb HV2.out); obtain ⟨r0, r1, r2, r3, r4, r5⟩ := cells6 HQ5.out.hr; have z0 := frozen_blk (off := 0) HQ5.out.hr; have z1 := frozen_blk (off := 1) HQ5.out.hr; have z2 := frozen_blk (off := 2) HQ5.out.hr; have z3 := frozen_blk (off := 3) HQ5.out.hr; have z4 := frozen_blk (off := 4) HQ5.out.hr; have z5 := frozen_blk (off := 5) HQ5.out.hr; have m5 := cells6 HV5.out; obtain ⟨y0, y1, y2, y3, y4, y5⟩ := m5; clear hb)
                have HK : Hid (agreeE a b p = 0) := Lib.hid (by rw [HE.out]; exact agreeK_yes HA5.out HOKB.out)
                refine bodyPost_ret (results_deal rfl _ _ (w.heap.size + 2) _ rfl (st6_blk ⟨n, b.blocks, u, b.stride, al, kd⟩ HQ5.out.hr) rfl) rfl ?_
                exact ⟨by rw [HK.out, HX.out]; rfl, st6_below ⟨n, b.blocks, u, b.stride, al, kd⟩ HQ5.out.bel (by omega)⟩
            go_simp
            with_reducible refine (HUP.out _).mono ?_
            rintro e w9 ⟨rfl, rfl⟩
            go_simp
            refine hK.out _ _ (fun _ => hS) ?_
            clear hK K
            try simp only [Act.put, List.getElem_toArray, List.getElem_cons_succ, List.getElem_cons_zero, List.setIfInBounds_toArray, List.set_cons_zero, List.set_cons_succ]
            refine anyT_take (i := 19) (v := ?_) rfl (by kernel_rfl) (by kernel_rfl) (by kernel_rfl) (by kernel_rfl) (fun _ _ _ h => h) (Or.inl ⟨by rfl, ?_⟩) hS ?_
            rotate_left
            focus ((intro wq hSw; obtain ⟨d0, d1, d2, d3, d4, d5, d6⟩ := cells7 hSw.ha; obtain ⟨f0, f1, f2, f3, f4, f5, f6⟩ := cells7 hSw.hb; go_simp); try with_reducible rfl)
            try simp only [Act.put, List.getElem_toArray, List.getElem_cons_succ, List.getElem_cons_zero, List.setIfInBounds_toArray, List.set_cons_zero, List.set_cons_succ]
            refine anyT_one (i := 20) (by kernel_rfl) rfl (fun K hK => ?_)
            go_simp
            refine hK.out _ _ (fun _ => hS.below (below_box _ _)) ?_
            clear hK K
            have HV := Lib.hid (blk_alloc_new Y9 zDl.o25)
            have HSY := Lib.hid hS
            have hS1 : R3 w a b (Y9.alloc zDl.o25) := hS.below (below_box _ _)
            try simp only [Act.put, List.getElem_toArray, List.getElem_cons_succ, List.getElem_cons_zero, List.setIfInBounds_toArray, List.set_cons_zero, List.set_cons_succ]
            obtain ⟨Y1, hY1⟩ : ∃ Y1, Y9.alloc zDl.o25 = Y1 := ⟨_, rfl⟩
            have HB1 : Hid (Below Y9.heap.size Y9 Y1) := Lib.hid (by rw [← hY1]; exact below_box _ _)
            obtain ⟨V, hV⟩ : ∃ V, Y9.heap.size = V := ⟨_, rfl⟩
            rw [hY1] at HV hS1
            replace hY1 : Y9.alloc (.cells #[.int .i64 0, .int .i64 0, .int .i64 0, .int .i64 0, .int .i64 0, .int .i64 0] 25) = Y1 := hY1
            try rw [hY1]
            rw [hV] at HV
            try rw [hV]
            have hvv := HV.out
            obtain ⟨r0, r1, r2, r3, r4, r5⟩ := cells6 hvv; have z0 := frozen_blk (off := 0) hvv; have z1 := frozen_blk (off := 1) hvv; have z2 := frozen_blk (off := 2) hvv; have z3 := frozen_blk (off := 3) hvv; have z4 := frozen_blk (off := 4) hvv; have z5 := frozen_blk (off := 5) hvv
            have hX2 : R3 w a b (st6 Y1 V ⟨n, b.blocks, up (max a.size b.size) b.stride, b.stride, max a.align b.align, kd⟩) := HSY.out.below (st6_below _ HB1.out (by rw [hV]; exact Nat.le_refl _))
            have hV2 := st6_blk ⟨n, b.blocks, up (max a.size b.size) b.stride, b.stride, max a.align b.align, kd⟩ hvv
            clear hvv hY1
            refine anyT_one (i := 21) (by kernel_rfl) rfl (fun K hK => ?_)
            go_simp
            refine hK.out _ _ (fun _ => hX2) ?_
            clear hK K r0 r1 r2 r3 r4 r5 z0 z1 z2 z3 z4 z5
            try simp only [Act.put, List.getElem_toArray, List.getElem_cons_succ, List.getElem_cons_zero, List.setIfInBounds_toArray, List.set_cons_zero, List.set_cons_succ]
            refine anyT_done (by kernel_rfl) ?_ _
            obtain ⟨Y2, hY2⟩ : ∃ Y2, st6 Y1 V ⟨n, b.blocks, up (max a.size b.size) b.stride, b.stride, max a.align b.align, kd⟩ = Y2 := ⟨_, rfl⟩
            rw [hY2] at hX2 hV2
            replace hY2 : (((((Y1.setCell ⟨V, 0, none⟩ (.int .i64 n)).setCell ⟨V, 1, none⟩ (.int .i64 b.blocks)).setCell ⟨V, 2, none⟩ (.int .i64 (up (max a.size b.size) b.stride))).setCell ⟨V, 3, none⟩ (.int .i64 b.stride)).setCell ⟨V, 4, none⟩ (.int .i64 (max a.align b.align))).setCell ⟨V, 5, none⟩ (.int .i64 kd) = Y2 := hY2
            rw [hY2]
            clear hY2 hS1
            obtain ⟨u, hu⟩ : ∃ u, up (max a.size b.size) b.stride = u := ⟨_, rfl⟩
            obtain ⟨al, hal⟩ : ∃ al, max a.align b.align = al := ⟨_, rfl⟩
            have HX : Hid (dlJ a b p 6 = ⟨n, b.blocks, u, b.stride, al, kd⟩) := Lib.hid (by show (⟨cntV a b p, a.blocks, up (max a.size b.size) a.stride, a.stride, max a.align b.align, (kindT a b).getD 0⟩ : Dl) = _; rw [HN.out, H1.out, H2.out, hu, hal, H3.out]; rfl)
            have HOKB := Lib.hid (deal_ok (p := p) HAO.out HBO.out (by show (kindT a b).isSome = true; rw [H3.out]; rfl) (by show cntOk a b p = true; rw [HCO.out]; simpa using HLM.out))
            rw [HX.out] at HOKB
            rw [hu, hal] at hV2
            try rw [hu]
            try rw [hal]
            have HA5 : Hid (okJ a b p 0 = true ∧ okJ a b p 1 = true ∧ okJ a b p 2 = true ∧ okJ a b p 3 = true) := Lib.hid ⟨by simp [okJ, H1.out], by simp [okJ, H2.out], by simp [okJ, H3.out], by show cntOk a b p = true; rw [HCO.out]; simpa using HLM.out⟩
            have HX2 := Lib.hid hX2
            have HV2 := Lib.hid hV2
            clear hu hal hX2 hV2 HUP
            have HVD := Lib.hid (refValid23_any n b.blocks u b.stride al kd)
            obtain ⟨vd, hvd⟩ : ∃ vd, dealB n b.blocks u b.stride al kd = vd := ⟨_, rfl⟩
            replace HOKB : Hid (dealB n b.blocks u b.stride al kd = (okJ a b p 4 && okJ a b p 5)) := HOKB
            rw [hvd] at HVD HOKB
            clear hvd
            obtain ⟨c0, c1, c2, c3, c4, c5⟩ := cells6 HV2.out
            cases vd with
            | false =>
              go_wp2_with (go_at_call 23; (with_reducible refine (HVD.out _).mono ?_); rintro e w10 ⟨rfl, hb⟩; have HQ5 := Lib.hid (HX2.out.below hb); obtain ⟨r0, r1, r2, r3, r4, r5⟩ := cells6 HQ5.out.hr; have z0 := frozen_blk (off := 0) HQ5.out.hr; have z1 := frozen_blk (off := 1) HQ5.out.hr; have z2 := frozen_blk (off := 2) HQ5.out.hr; have z3 := frozen_blk (off := 3) HQ5.out.hr; have z4 := frozen_blk (off := 4) HQ5.out.hr; have z5 := frozen_blk (off := 5) HQ5.out.hr; clear hb)
              have HK : Hid (agreeE a b p = 4) := Lib.hid (by rw [HE.out]; exact agreeK_no HA5.out HOKB.out)
              refine bodyPost_ret (results_deal rfl _ _ (w.heap.size + 2) _ rfl (st6_blk zDl HQ5.out.hr) rfl) rfl ?_
              exact ⟨by rw [HK.out]; rfl, st6_below zDl HQ5.out.bel (by omega)⟩
            | true =>
              go_wp2_with (go_at_call 23; (with_reducible refine (HVD.out _).mono ?_); rintro e w10 ⟨rfl, hb⟩; have HQ5 := Lib.hid (HX2.out.below hb); have HV5 := Lib.hid (keep_blk hb HV2.out); obtain ⟨r0, r1, r2, r3, r4, r5⟩ := cells6 HQ5.out.hr; have z0 := frozen_blk (off := 0) HQ5.out.hr; have z1 := frozen_blk (off := 1) HQ5.out.hr; have z2 := frozen_blk (off := 2) HQ5.out.hr; have z3 := frozen_blk (off := 3) HQ5.out.hr; have z4 := frozen_blk (off := 4) HQ5.out.hr; have z5 := frozen_blk (off := 5) HQ5.out.hr; have m5 := cells6 HV5.out; obtain ⟨y0, y1, y2, y3, y4, y5⟩ := m5; clear hb)
              have HK : Hid (agreeE a b p = 0) := Lib.hid (by rw [HE.out]; exact agreeK_yes HA5.out HOKB.out)
              refine bodyPost_ret (results_deal rfl _ _ (w.heap.size + 2) _ rfl (st6_blk ⟨n, b.blocks, u, b.stride, al, kd⟩ HQ5.out.hr) rfl) rfl ?_
              exact ⟨by rw [HK.out, HX.out]; rfl, st6_below ⟨n, b.blocks, u, b.stride, al, kd⟩ HQ5.out.bel (by omega)⟩
          have f : wrap64 (n + 1) = n + 1 := by unfold wrap64; omega
          go_wp2_with fail
          go_round
          case rel => exact ⟨n + 1, rfl, by omega, by omega⟩
          case measure => simp only [intOf]; omega
end Go.Proofs.Ytinlcgcnjlifkaa
