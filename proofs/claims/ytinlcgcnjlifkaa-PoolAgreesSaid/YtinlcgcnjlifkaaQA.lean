/- Lay of the program and the document's, whole. -/
import Derived.Test.YtinlcgcnjlifkaaSZ
namespace Go.Proofs.Ytinlcgcnjlifkaa
open Go.RowKit Go.Shelf Go.Deep

theorem below_two {A B : Nat} {w X w2 : World} (hb : Below w.heap.size w X) (h : Two A B X w2) (hA : w.heap.size ≤ A) (hB : w.heap.size ≤ B) : Below w.heap.size w w2 :=
  ⟨h.1.1.trans hb.os, h.1.2.1.trans hb.tape, h.1.2.2.trans hb.output, Nat.le_trans hb.size h.2.1, fun k hk => (h.2.2 k (by omega) (by omega) (Nat.lt_of_lt_of_le hk hb.size)).trans (hb.block k hk)⟩
/-- What Lay answers. -/
def LayAns (c b z s a k at' : Int) (w : World) (e : Ending) (w' : World) : Prop := Below w.heap.size w w' ∧
  (if dealB c b z s a k then if inB at' 0 1000000000 then ∃ v, e = .returned (.tuple #[v, .int .i64 (endK at' z a (c.toNat * b.toNat)), .int .i64 0]) ∧ MatIn w' (laidTo at' z a b.toNat c.toNat) v
    else e = .returned (.tuple #[.slice none 0 0, .int .i64 0, .int .i64 7]) else e = .returned (.tuple #[.slice none 0 0, .int .i64 0, .int .i64 1]))
theorem deal_in {c b z s a k : Int} (h : dealB c b z s a k = true) : (DealP.mk c.toNat b.toNat z s a k).In ∧ ((c.toNat : Nat) : Int) = c ∧ ((b.toNat : Nat) : Int) = b := by
  simp only [dealB, Bool.and_eq_true] at h
  have h1 := inB_t h.1
  obtain ⟨b1, b2, b3, b4, _⟩ := shapeB_t h.2.1
  exact ⟨⟨by dsimp only; omega, by dsimp only; omega, b2, b4⟩, by omega, by omega⟩
theorem lay_fail {c b z s a k at' K : Int} (w : World) (hc : ∀ x, Below (x8 w (.cells #[.int .i64 c, .int .i64 b, .int .i64 z, .int .i64 s, .int .i64 a, .int .i64 k] 25) at').heap.size (x8 w (.cells #[.int .i64 c, .int .i64 b, .int .i64 z, .int .i64 s, .int .i64 a, .int .i64 k] 25) at') x → Calls Try.prog 30 #[at0 w.heap.size, at0 (w.heap.size + 1), at0 (w.heap.size + 2), at0 (w.heap.size + 3)] x (ClosB (.tuple #[]) K x)) :
    Calls Try.prog 8 #[.agg #[.int .i64 c, .int .i64 b, .int .i64 z, .int .i64 s, .int .i64 a, .int .i64 k], .int .i64 at'] w fun e w' => Below w.heap.size w w' ∧ e = .returned (.tuple #[.slice none 0 0, .int .i64 0, .int .i64 K]) := by
  have hx := x8_l4 w (.cells #[.int .i64 c, .int .i64 b, .int .i64 z, .int .i64 s, .int .i64 a, .int .i64 k] 25) at'
  have hb := x8_below w (.cells #[.int .i64 c, .int .i64 b, .int .i64 z, .int .i64 s, .int .i64 a, .int .i64 k] 25) at'
  have h29 := done_below (k := K) 30 #[at0 w.heap.size, at0 (w.heap.size + 1), at0 (w.heap.size + 2), at0 (w.heap.size + 3)] (x8 w (.cells #[.int .i64 c, .int .i64 b, .int .i64 z, .int .i64 s, .int .i64 a, .int .i64 k] 25) at') (enters_of Try.func30 (by kernel_rfl) rfl _) hc
  refine (lay8_of (K := K) (R := fun pv ln cv e2 w2 => (pv = none ∧ ln = 0 ∧ cv = 0 ∧ e2 = 0) ∧ Below w.heap.size w w2) (h29.mono ?_)).mono ?_
  · rintro e w2 ⟨rfl, h2⟩
    exact ⟨rfl, none, 0, 0, 0, keep_blk h2 hx.ho, keep_blk h2 hx.he, ⟨rfl, rfl, rfl, rfl⟩, hb.trans (h2.mono hb.size)⟩
  · rintro e w' ⟨pv, ln, cv, e2, w2, rfl, ⟨⟨rfl, rfl, rfl, rfl⟩, h2⟩, h3⟩
    exact ⟨below_two h2 h3 (by omega) (by omega), rfl⟩
theorem lay_any (c b z s a k at' : Int) (w : World) : Calls Try.prog 8 #[.agg #[.int .i64 c, .int .i64 b, .int .i64 z, .int .i64 s, .int .i64 a, .int .i64 k], .int .i64 at'] w (LayAns c b z s a k at' w) := by
  have hx := x8_l4 w (.cells #[.int .i64 c, .int .i64 b, .int .i64 z, .int .i64 s, .int .i64 a, .int .i64 k] 25) at'
  have hb := x8_below w (.cells #[.int .i64 c, .int .i64 b, .int .i64 z, .int .i64 s, .int .i64 a, .int .i64 k] 25) at'
  unfold LayAns
  cases hd : dealB c b z s a k with
  | false => exact lay_fail w fun x hxx => lay30_bad c b z s a k at' _ _ _ _ x (hx.self hxx) hd
  | true =>
    cases ha : inB at' 0 1000000000 with
    | false => exact lay_fail w fun x hxx => lay30_range c b z s a k at' _ _ _ _ x (hx.self hxx) hd ha
    | true =>
      obtain ⟨hin, hc, hbb⟩ := deal_in hd
      obtain ⟨c', hc'⟩ : ∃ c' : Nat, c.toNat = c' := ⟨_, rfl⟩
      obtain ⟨b', hb'⟩ : ∃ b' : Nat, b.toNat = b' := ⟨_, rfl⟩
      rw [hc'] at hc hin ⊢
      rw [hb'] at hbb hin ⊢
      subst hc hbb
      have hs : (x8 w (.cells #[.int .i64 (c' : Int), .int .i64 (b' : Int), .int .i64 z, .int .i64 s, .int .i64 a, .int .i64 k] 25) at').heap.size = w.heap.size + 4 := by simp
      obtain ⟨X, hX⟩ : ∃ X, x8 w (.cells #[.int .i64 (c' : Int), .int .i64 (b' : Int), .int .i64 z, .int .i64 s, .int .i64 a, .int .i64 k] 25) at' = X := ⟨_, rfl⟩
      have h29 := done_yes (A := w.heap.size + 2) (B := w.heap.size + 3) (Q := LayQ ⟨c', b', z, s, a, k⟩ at' (w.heap.size + 2) (w.heap.size + 3)) 30 #[at0 w.heap.size, at0 (w.heap.size + 1), at0 (w.heap.size + 2), at0 (w.heap.size + 3)] X (by rw [← hX, hs]; omega) (by rw [← hX, hs]; omega) (enters_of Try.func30 (by kernel_rfl) rfl _) (fun x hxx => by
        rw [hX] at hx
        refine (lay30_yes ⟨c', b', z, s, a, k⟩ hin hd at' ha _ _ _ _ x (by omega) (hx.self hxx)).mono ?_
        rintro e w1 ⟨rfl, hq⟩
        exact ⟨rfl, hq.tw, hq⟩)
      refine (lay8_of (K := 0) (R := fun pv ln cv e2 w2 => e2 = endK at' z a (c' * b') ∧ MatNew X.heap.size w2 (laidTo at' z a b' c') (.slice pv ln cv) ∧ Two (w.heap.size + 2) (w.heap.size + 3) X w2) ?_).mono ?_
      · rw [hX]
        refine h29.mono ?_
        rw [hX] at hs
        rintro e w2 ⟨rfl, x, w1, h1, h2, h3, h4⟩
        have hsz : w.heap.size + 4 ≤ w1.heap.size := by have := h1.size; have := h2.2.1; omega
        obtain ⟨v, hv, hm⟩ := h3.ex
        obtain ⟨pa, cap, rfl, _⟩ := hm.here
        refine ⟨rfl, pa, _, cap, endK at' z a (c' * b'), (h4.2.2 _ (by omega) (by omega)).trans hv, (h4.2.2 _ (by omega) (by omega)).trans h3.he, rfl, hm.mono h1.size h4.2.1 (fun k hk hlt => h4.2.2 k hlt (.inr hk)), ?_⟩
        refine ⟨⟨h4.1.1.trans (h2.1.1.trans h1.os), h4.1.2.1.trans (h2.1.2.1.trans h1.tape), h4.1.2.2.trans (h2.1.2.2.trans h1.output)⟩, Nat.le_trans h1.size (Nat.le_trans h2.2.1 h4.2.1), fun k hA hB hlt => ?_⟩
        exact (h4.2.2 k (Nat.lt_of_lt_of_le hlt (Nat.le_trans h1.size h2.2.1)) (.inl hlt)).trans ((h2.2.2 k hA hB (Nat.lt_of_lt_of_le hlt h1.size)).trans (h1.block k hlt))
      · rw [hX] at hb hs
        rintro e w' ⟨pv, ln, cv, e2, w2, rfl, ⟨rfl, hm, h2⟩, h3⟩
        refine ⟨below_two hb (h2.trans h3) (by omega) (by omega), _, rfl, hm w' fun k hk hlt => h3.2.2 k (by omega) (by omega) hlt⟩
set_option maxRecDepth 100000 in
theorem refLay_any (c b z s a k at' : Int) (w : World) : Calls Try.prog 9 #[.agg #[.int .i64 c, .int .i64 b, .int .i64 z, .int .i64 s, .int .i64 a, .int .i64 k], .int .i64 at'] w (LayAns c b z s a k at' w) := by
  have HV := Lib.hid (refValid23_any c b z s a k)
  have HI := Lib.hid in_any
  have q0 := blk_alloc_new w (.cells #[.int .i64 c, .int .i64 b, .int .i64 z, .int .i64 s, .int .i64 a, .int .i64 k] 25)
  obtain ⟨Z, hZ⟩ : ∃ Z, w.alloc (.cells #[.int .i64 c, .int .i64 b, .int .i64 z, .int .i64 s, .int .i64 a, .int .i64 k] 25) = Z := ⟨_, rfl⟩
  have hbz : Below w.heap.size w Z := by rw [← hZ]; exact below_box _ _
  rw [hZ] at q0
  obtain ⟨e0, e1, e2, e3, e4, e5⟩ := cells6 q0
  have HQ := Lib.hid q0
  have HBZ := Lib.hid hbz
  clear q0 hbz
  unfold LayAns
  cases hd : dealB c b z s a k with
  | false =>
    rw [hd] at HV
    clear hd
    go_enter Try.func9, Try.ntmps9
    go_wp2_with (go_at_call 23; (with_reducible refine (HV.out _).mono ?_); rintro e w1 ⟨rfl, hb⟩; have HB : Hid (Below w.heap.size w w1) := Lib.hid (HBZ.out.trans (hb.mono HBZ.out.size)); clear hb)
    go_ret3
    exact ⟨HB.out, rfl⟩
  | true =>
    rw [hd] at HV
    obtain ⟨hin, hc, hbb⟩ := deal_in hd
    have HD := Lib.hid hd
    clear hd
    cases ha : inB at' 0 1000000000 with
    | false =>
      clear hin hc hbb
      go_enter Try.func9, Try.ntmps9
      go_wp2_with (first
        | (go_at_call 23; (with_reducible refine (HV.out _).mono ?_); rintro e w1 ⟨rfl, hb⟩; have HB : Hid (Below w.heap.size w w1) := Lib.hid (HBZ.out.trans (hb.mono HBZ.out.size)); clear hb)
        | (go_at_call 20; (with_reducible refine (HI.out _ _ _ _).mono ?_); rintro e w3 ⟨rfl, rfl⟩; rw [ha]))
      go_ret3
      exact ⟨HB.out, rfl⟩
    | true =>
      have hat := inB_t ha
      have HL : Hid (∀ x, Calls Try.prog 33 #[.agg #[.int .i64 c, .int .i64 b, .int .i64 z, .int .i64 s, .int .i64 a, .int .i64 k], .int .i64 at'] x (LaidA ⟨c.toNat, b.toNat, z, s, a, k⟩ at' x)) := Lib.hid fun x => by
        have := refLaid_any ⟨c.toNat, b.toNat, z, s, a, k⟩ hin at' hat x
        simp only [DealP.v, hc, hbb] at this
        exact this
      clear hin hc hbb hat
      go_enter Try.func9, Try.ntmps9
      go_wp2_with (first
        | (go_at_call 23; (with_reducible refine (HV.out _).mono ?_); rintro e w1 ⟨rfl, hb⟩; have HQ1 := Lib.hid (keep_blk hb HQ.out); have m5 := cells6 HQ1.out; clear e0 e1 e2 e3 e4 e5; obtain ⟨e0, e1, e2, e3, e4, e5⟩ := m5; have HB : Hid (Below w.heap.size w w1) := Lib.hid (HBZ.out.trans (hb.mono HBZ.out.size)); clear hb)
        | (go_at_call 20; (with_reducible refine (HI.out _ _ _ _).mono ?_); rintro e w3 ⟨rfl, rfl⟩; rw [ha])
        | (go_at_call 33; (with_reducible refine (HL.out _).mono ?_); rintro e w4 ⟨v, rfl, hm, hb4⟩; have HM := Lib.hid hm; have HB4 := Lib.hid hb4; clear hm hb4))
      go_ret3
      exact ⟨HB.out.trans (HB4.out.mono HB.out.size), v, rfl, HM.out⟩
end Go.Proofs.Ytinlcgcnjlifkaa
