/- A deal fits both, in either order. -/
import Derived.Test.YtinlcgcnjlifkaaQB
namespace Go.Proofs.Ytinlcgcnjlifkaa
open Go.RowKit Go.Shelf Go.Deep

theorem kdF_comm (a b : Int) : ∀ (n s : Nat), kdF a b s n = kdF b a s n
  | 0, _ => rfl
  | n + 1, s => by
    unfold kdF
    rw [Bool.and_comm, kdF_comm a b n (s + 1)]
theorem kdF_bits (a b : Int) : ∀ (n s : Nat), 0 ≤ kdF a b s n → bitB a (kdF a b s n).toNat = true ∧ bitB b (kdF a b s n).toNat = true
  | 0, _, h => by exact absurd h (by show ¬ (0 : Int) ≤ -1; decide)
  | n + 1, s, h => by
    unfold kdF at h ⊢
    split
    · rename_i g
      simp only [Bool.and_eq_true] at g
      rw [Int.toNat_natCast]
      exact g
    · rename_i g
      rw [if_neg g] at h
      exact kdF_bits a b n (s + 1) h
theorem kindT_comm (a b : Wish) : kindT a b = kindT b a := by rw [kindT_eq, kindT_eq, kdF_comm]
/-- All that agreeing tells. -/
structure Agreed (a b : Wish) (p : Int) : Prop where
  ka : a.ok = true
  kb : b.ok = true
  kp : inB p 0 64 = true
  k0 : a.blocks = b.blocks
  k1 : a.stride = b.stride
  k2 : okJ a b p 2 = true
  k3 : okJ a b p 3 = true
  k4 : okJ a b p 4 = true
  k5 : okJ a b p 5 = true
theorem agreed_of {a b : Wish} {p : Int} (h : agreeE a b p = 0) : Agreed a b p := by
  unfold agreeE agreeK at h
  cases ha : a.ok with
  | false => simp [ha] at h
  | true =>
    cases hb : b.ok with
    | false => simp [ha, hb] at h
    | true =>
      cases hp : inB p 0 64 with
      | false => simp [ha, hb, hp] at h
      | true =>
        cases h0 : okJ a b p 0 with
        | false => simp [ha, hb, hp, h0] at h
        | true =>
          cases h1 : okJ a b p 1 with
          | false => simp [ha, hb, hp, h0, h1] at h
          | true =>
            cases h2 : okJ a b p 2 with
            | false => simp [ha, hb, hp, h0, h1, h2] at h
            | true =>
              cases h3 : okJ a b p 3 with
              | false => simp [ha, hb, hp, h0, h1, h2, h3] at h
              | true =>
                cases h4 : okJ a b p 4 with
                | false => simp [ha, hb, hp, h0, h1, h2, h3, h4] at h
                | true =>
                  cases h5 : okJ a b p 5 with
                  | false => simp [ha, hb, hp, h0, h1, h2, h3, h4, h5] at h
                  | true => exact ⟨ha, hb, hp, by simpa [okJ] using h0, by simpa [okJ] using h1, h2, h3, h4, h5⟩
theorem cntV_comm {a b : Wish} {p : Int} (ha : a.ok = true) (hb : b.ok = true) (h : cntOk a b p = true) : cntV b a p = cntV a b p := by
  rw [cntOk_eq p ha hb, decide_eq_true_eq] at h
  rw [cntV_eq p ha hb h, cntV_eq p hb ha (by omega)]
  omega
theorem dl_swap {a b : Wish} {p : Int} (h : Agreed a b p) : dlJ b a p 6 = dlJ a b p 6 := by
  show (⟨cntV b a p, b.blocks, up (max b.size a.size) b.stride, b.stride, max b.align a.align, (kindT b a).getD 0⟩ : Dl) = ⟨cntV a b p, a.blocks, up (max a.size b.size) a.stride, a.stride, max a.align b.align, (kindT a b).getD 0⟩
  rw [cntV_comm h.ka h.kb h.k3, h.k0, h.k1, Int.max_comm b.size, Int.max_comm b.align, kindT_comm b a]
theorem agree_swap {a b : Wish} {p : Int} (h : Agreed a b p) : agreeE b a p = 0 := by
  have e2 : okJ b a p 2 = true := by have := h.k2; show (kindT b a).isSome = true; rw [kindT_comm]; exact this
  have e3 : okJ b a p 3 = true := by
    have := h.k3
    show cntOk b a p = true
    have h3 : cntOk a b p = true := this
    rw [cntOk_eq p h.ka h.kb, decide_eq_true_eq] at h3
    rw [cntOk_eq p h.kb h.ka, decide_eq_true_eq]
    omega
  have e4 : okJ b a p 4 = true := by
    have := h.k4
    show decide (up (max b.size a.size) b.stride ≤ 65536) = true
    rw [Int.max_comm, ← h.k1]
    exact this
  have e5 : okJ b a p 5 = true := by
    have := h.k5
    show decide (endK 0 (up (max b.size a.size) b.stride) (max b.align a.align) ((cntV b a p).toNat * b.blocks.toNat) ≤ 1000000) = true
    rw [Int.max_comm b.size, ← h.k1, Int.max_comm b.align, cntV_comm h.ka h.kb h.k3, ← h.k0]
    exact this
  unfold agreeE agreeK
  rw [h.ka, h.kb, h.kp, show okJ b a p 0 = true by simp [okJ, h.k0], show okJ b a p 1 = true by simp [okJ, h.k1], e2, e3, e4, e5]
  rfl
theorem agree_deal {a b : Wish} {p : Int} (h : Agreed a b p) : (dlJ a b p 6).okB = true := by
  rw [deal_ok h.ka h.kb h.k2 h.k3, h.k4, h.k5]
  rfl
theorem agree_fits {a b : Wish} {p : Int} (h : Agreed a b p) : fitsB (dlJ a b p 6).c (dlJ a b p 6).b (dlJ a b p 6).z (dlJ a b p 6).s (dlJ a b p 6).a (dlJ a b p 6).k.toNat a = true ∧ fitsB (dlJ a b p 6).c (dlJ a b p 6).b (dlJ a b p 6).z (dlJ a b p 6).s (dlJ a b p 6).a (dlJ a b p 6).k.toNat b = true := by
  have ga := Wish.ok_t h.ka
  have gb := Wish.ok_t h.kb
  have gc := cntV_bd h.ka h.kb h.k3
  have gu := up_bd (n := max a.size b.size) (k := a.stride) (by omega) (by omega)
  have gk : bitB a.kinds ((kindT a b).getD 0).toNat = true ∧ bitB b.kinds ((kindT a b).getD 0).toNat = true := by
    have hk : (kindT a b).isSome = true := h.k2
    rw [kindT_eq] at hk ⊢
    split at hk
    · cases hk
    · rename_i g
      rw [if_neg g, Option.getD_some]
      exact kdF_bits _ _ 8 0 (by omega)
  show fitsB (cntV a b p) a.blocks (up (max a.size b.size) a.stride) a.stride (max a.align b.align) ((kindT a b).getD 0).toNat a = true ∧ fitsB (cntV a b p) a.blocks (up (max a.size b.size) a.stride) a.stride (max a.align b.align) ((kindT a b).getD 0).toNat b = true
  unfold fitsB inB
  rw [gk.1, gk.2]
  simp only [Bool.and_eq_true, decide_eq_true_eq, and_true]
  have e0 := h.k0
  have e1 := h.k1
  have m1 := Int.le_max_left a.size b.size
  have m2 := Int.le_max_right a.size b.size
  have m3 := Int.le_max_left a.align b.align
  have m4 := Int.le_max_right a.align b.align
  have m5 := Int.le_max_left a.least b.least
  have m6 := Int.le_max_right a.least b.least
  have m7 := Int.min_le_left a.most b.most
  have m8 := Int.min_le_right a.most b.most
  have u1 := gu.1
  have c1 := gc.1
  have c2 := gc.2
  clear gu gc ga gb gk
  exact ⟨⟨⟨Int.le_trans m5 c1, Int.le_trans c2 m7⟩, trivial, trivial, Int.le_trans m1 u1, m3⟩, ⟨Int.le_trans m6 c1, Int.le_trans c2 m8⟩, e0, e1, Int.le_trans m2 u1, m4⟩
/-- The offsets, one by one. -/
theorem laid_step {z a : Int} {k : Nat} (hz : 1 ≤ z ∧ z ≤ 65536) (ha : 1 ≤ a ∧ a ≤ 256) (hk : k < 512) : endK 0 z a k ≤ up (endK 0 z a k) a ∧ up (endK 0 z a k) a % a = 0 ∧ (0 ≤ up (endK 0 z a k) a ∧ up (endK 0 z a k) a ≤ 2000000000) ∧ wrap64 (up (endK 0 z a k) a + z) = endK 0 z a (k + 1) := by
  obtain ⟨h1, h2, h3, _⟩ := laid_nums (at' := 0) ⟨by decide, by decide⟩ hz ha hk
  obtain ⟨u1, u2, u3⟩ := up_bd (n := endK 0 z a k) (k := a) h1.1 ha.1
  exact ⟨u1, Int.emod_eq_zero_of_dvd u3, h2, h3⟩
set_option maxRecDepth 100000 in
theorem refFits_no (c b z s a k : Int) (hd : dealB c b z s a k = false) (d : Wish) (w : World) : Calls Try.prog 7 #[.agg #[.int .i64 c, .int .i64 b, .int .i64 z, .int .i64 s, .int .i64 a, .int .i64 k], d.v] w fun e w' => e = .returned (.tuple #[.bool false, .int .i64 1]) ∧ Below w.heap.size w w' := by
  have HV := Lib.hid (refValid23_any c b z s a k)
  rw [hd] at HV
  clear hd
  go_enter Try.func7, Try.ntmps7
  go_wp2_with (go_at_call 23; (with_reducible refine (HV.out _).mono ?_); rintro e w1 ⟨rfl, hb⟩; have HB := Lib.hid hb; clear hb)
  go_ret2
  exact ⟨rfl, Below.then ((below_box w _).alloc (below_box w _).size _) (Nat.le_refl _) (HB.out.mono (by simp))⟩
theorem refFits_all (d : Dl) (a : Wish) (w : World) : Calls Try.prog 7 #[d.v, a.v] w (BothA (dealB d.c d.b d.z d.s d.a d.k && a.ok) (fitsB d.c d.b d.z d.s d.a d.k.toNat a) w) := by
  cases hd : dealB d.c d.b d.z d.s d.a d.k with
  | false =>
    refine (refFits_no _ _ _ _ _ _ hd a w).mono ?_
    rintro e w' ⟨rfl, hb⟩
    exact ⟨by simp, hb⟩
  | true =>
    have hk : 0 ≤ d.k ∧ d.k ≤ 7 := by
      simp only [dealB, Bool.and_eq_true] at hd
      exact inB_t hd.2.2.1
    have := refFits_any d.c d.b d.z d.s d.a d.k.toNat a (by omega) w
    rw [Int.toNat_of_nonneg hk.1] at this
    rw [hd] at this
    exact this
end Go.Proofs.Ytinlcgcnjlifkaa
