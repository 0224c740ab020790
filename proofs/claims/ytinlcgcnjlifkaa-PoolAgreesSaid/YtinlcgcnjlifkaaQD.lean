/- PoolAgrees' law. -/
import Derived.Test.YtinlcgcnjlifkaaQC
import Derived.BigQuiet
import Derived.Deep.QuietTactic
namespace Go.Proofs.Ytinlcgcnjlifkaa
open Go.RowKit Go.Shelf Go.Deep

/-- The law's memory: the wishes, the deal. -/
structure P3 (w : World) (a b : Wish) (d : Dl) (W : World) : Prop where
  ha : W.heap[w.heap.size]? = some (.cells a.c 23)
  hb : W.heap[w.heap.size + 1]? = some (.cells b.c 23)
  hd : W.heap[w.heap.size + 2]? = some d.o25
  bel : Below w.heap.size w W
theorem P3.start (w : World) (a b : Wish) (d : Dl) : P3 w a b d (((w.alloc (.cells a.c 23)).alloc (.cells b.c 23)).alloc d.o25) :=
  ⟨blk_old (blk_old (blk_alloc_new _ _)), blk_old (by have := blk_alloc_new (w.alloc (.cells a.c 23)) (.cells b.c 23); simpa using this),
   by have := blk_alloc_new ((w.alloc (.cells a.c 23)).alloc (.cells b.c 23)) d.o25; simpa using this,
   ((below_box w _).alloc (by simp) _).alloc (by simp; omega) _⟩
theorem P3.below {w : World} {a b : Wish} {d : Dl} {W W' : World} (h : P3 w a b d W) (g : Below W.heap.size W W') : P3 w a b d W' :=
  ⟨keep_blk g h.ha, keep_blk g h.hb, keep_blk g h.hd, h.bel.trans (g.mono h.bel.size)⟩
/-- One answer of Lay, whoever gives it. -/
theorem lay_both (c b z s a k at' : Int) : ∃ n e : Int, ∃ rows : List (List Int), ∀ f, f = 8 ∨ f = 9 → ∀ w, Calls Try.prog f #[.agg #[.int .i64 c, .int .i64 b, .int .i64 z, .int .i64 s, .int .i64 a, .int .i64 k], .int .i64 at'] w fun e' w' => Below w.heap.size w w' ∧ ∃ v, e' = .returned (.tuple #[v, .int .i64 n, .int .i64 e]) ∧ MatIn w' rows v := by
  have hb : ∀ f, f = 8 ∨ f = 9 → ∀ w, Calls Try.prog f #[.agg #[.int .i64 c, .int .i64 b, .int .i64 z, .int .i64 s, .int .i64 a, .int .i64 k], .int .i64 at'] w (LayAns c b z s a k at' w) := by
    rintro f (rfl | rfl) w
    · exact lay_any c b z s a k at' w
    · exact refLay_any c b z s a k at' w
  have hn : ∀ w', MatIn w' [] (.slice none 0 0) := fun w' => ⟨none, 0, rfl, fun i hi => absurd hi (Nat.not_lt_zero _), by simp, by simp⟩
  unfold LayAns at hb
  cases hd : dealB c b z s a k with
  | false =>
    refine ⟨0, 1, [], fun f hf w => (hb f hf w).mono ?_⟩
    rw [hd]
    rintro e w' ⟨h1, h2⟩
    exact ⟨h1, _, h2, hn _⟩
  | true =>
    cases ha : inB at' 0 1000000000 with
    | false =>
      refine ⟨0, 7, [], fun f hf w => (hb f hf w).mono ?_⟩
      rw [hd, ha]
      rintro e w' ⟨h1, h2⟩
      exact ⟨h1, _, h2, hn _⟩
    | true =>
      refine ⟨endK at' z a (c.toNat * b.toNat), 0, laidTo at' z a b.toNat c.toNat, fun f hf w => (hb f hf w).mono ?_⟩
      rw [hd, ha]
      rintro e w' ⟨h1, v, h2, h3⟩
      exact ⟨h1, v, h2, h3⟩
/-- The first half: what both sides answer. -/
def FrontP (a b : Wish) (p : Int) (w : World) (e : Ending) (w' : World) : Prop := e = .returned (.bool true) ∧ Below w.heap.size w w'

set_option maxHeartbeats 8000000 in
set_option maxRecDepth 100000 in
theorem law3_any (a b : Wish) (p : Int) (d : Dl) (at' : Int) (w : World) : Calls Try.prog 3 #[a.v, b.v, .int .i64 p, d.v, .int .i64 at'] w (FrontP a b p w) := by
  have hagr := agree_any a b p
  have hagx : ∀ w, Calls Try.prog 5 #[a.v, b.v, .int .i64 p] w (DealAns (dlJ a b p 6) (agreeE a b p) w) := fun w => by
    cases hab : (a.ok && b.ok) with
    | false => exact refAgree_bad a b p hab w
    | true =>
      rw [Bool.and_eq_true] at hab
      exact refAgree_good a b p hab.1 hab.2 w
  obtain ⟨K, hK⟩ : ∃ K, agreeE a b p = K := ⟨_, rfl⟩
  obtain ⟨x, hx⟩ : ∃ x, (if agreeE a b p = 0 then dlJ a b p 6 else zDl) = x := ⟨_, rfl⟩
  unfold DealAns at hagr hagx
  rw [hx, hK] at hagr hagx
  have HAG := Lib.hid hagr
  have HAX := Lib.hid hagx
  have hf1 := fits_any d.c d.b d.z d.s d.a d.k a
  have hf2 : ∀ w, Calls Try.prog 7 #[d.v, a.v] w (BothA (dealB d.c d.b d.z d.s d.a d.k && a.ok) (fitsB d.c d.b d.z d.s d.a d.k.toNat a) w) := fun w => refFits_all d a w
  unfold BothA at hf1 hf2
  obtain ⟨fv, hfv⟩ : ∃ fv, ((dealB d.c d.b d.z d.s d.a d.k && a.ok) && fitsB d.c d.b d.z d.s d.a d.k.toNat a) = fv := ⟨_, rfl⟩
  obtain ⟨fe, hfe⟩ : ∃ fe : Int, (if (dealB d.c d.b d.z d.s d.a d.k && a.ok) = true then (0 : Int) else 1) = fe := ⟨_, rfl⟩
  rw [hfv, hfe] at hf1 hf2
  have HF1 := Lib.hid hf1
  have HF2 := Lib.hid hf2
  obtain ⟨ln, le, lr, hlay⟩ := lay_both d.c d.b d.z d.s d.a d.k at'
  have HLY := Lib.hid (fun w => hlay 8 (.inl rfl) w)
  have HLX := Lib.hid (fun w => hlay 9 (.inr rfl) w)
  have HV := Lib.hid (valid_any a)
  have HVX := Lib.hid (refValid_any a)
  have HM := Lib.hid sameMatrix_any
  have HAW := Lib.hid awake_any
  have HK := Lib.hid hK
  have HX := Lib.hid hx
  clear hagr hagx hf1 hf2 hlay hfv hfe hK hx
  have q0 := P3.start w a b d
  obtain ⟨Z, hZ⟩ : ∃ Z, ((w.alloc (.cells #[.int .i64 a.least, .int .i64 a.most, .int .i64 a.blocks, .int .i64 a.size, .int .i64 a.stride, .int .i64 a.align, .int .i64 a.kinds] 23)).alloc (.cells #[.int .i64 b.least, .int .i64 b.most, .int .i64 b.blocks, .int .i64 b.size, .int .i64 b.stride, .int .i64 b.align, .int .i64 b.kinds] 23)).alloc (.cells #[.int .i64 d.c, .int .i64 d.b, .int .i64 d.z, .int .i64 d.s, .int .i64 d.a, .int .i64 d.k] 25) = Z := ⟨_, rfl⟩
  replace q0 : P3 w a b d Z := by rw [← hZ]; exact q0
  obtain ⟨d0, d1, d2, d3, d4, d5, d6⟩ := cells7 q0.ha; obtain ⟨f0, f1, f2, f3, f4, f5, f6⟩ := cells7 q0.hb; obtain ⟨g0, g1, g2, g3, g4, g5⟩ := cells6 q0.hd
  have HQ0 := Lib.hid q0
  clear q0
  go_enter Try.func3, Try.ntmps3
  go_upto_region 1 with fail
  try rw [hZ]
  clear hZ
  go_upto_region 2 with (go_at_call 4; (with_reducible refine (HAG.out _).mono ?_); rintro e w1 ⟨rfl, hb⟩; have HQ1 := Lib.hid (HQ0.out.below hb); clear hb)
  clear d0 d1 d2 d3 d4 d5 d6 f0 f1 f2 f3 f4 f5 f6 g0 g1 g2 g3 g4 g5
  obtain ⟨Y1, hY1⟩ : ∃ Y1, w1.alloc x.o25 = Y1 := ⟨_, rfl⟩
  obtain ⟨V1, hV1⟩ : ∃ V1, w1.heap.size = V1 := ⟨_, rfl⟩
  have hx1 : Y1.heap[V1]? = some x.o25 := by rw [← hY1, ← hV1]; exact blk_alloc_new _ _
  have q1 : P3 w a b d Y1 := by rw [← hY1]; exact HQ1.out.below (below_box _ _)
  replace hY1 : w1.alloc (.cells #[.int .i64 x.c, .int .i64 x.b, .int .i64 x.z, .int .i64 x.s, .int .i64 x.a, .int .i64 x.k] 25) = Y1 := hY1
  rw [hY1, hV1]
  clear hY1 hV1
  obtain ⟨d0, d1, d2, d3, d4, d5, d6⟩ := cells7 q1.ha; obtain ⟨f0, f1, f2, f3, f4, f5, f6⟩ := cells7 q1.hb; obtain ⟨g0, g1, g2, g3, g4, g5⟩ := cells6 q1.hd
  have HQ1b := Lib.hid q1
  have HX1 := Lib.hid hx1
  clear q1 hx1
  go_upto_region 3 with (go_at_call 5; (with_reducible refine (HAX.out _).mono ?_); rintro e w2 ⟨rfl, hb⟩; have HQ2 := Lib.hid (HQ1b.out.below hb); have HX2 := Lib.hid (keep_blk hb HX1.out); clear hb)
  clear d0 d1 d2 d3 d4 d5 d6 f0 f1 f2 f3 f4 f5 f6 g0 g1 g2 g3 g4 g5
  obtain ⟨Y2, hY2⟩ : ∃ Y2, w2.alloc x.o25 = Y2 := ⟨_, rfl⟩
  obtain ⟨V2, hV2⟩ : ∃ V2, w2.heap.size = V2 := ⟨_, rfl⟩
  have hx2 : Y2.heap[V2]? = some x.o25 := by rw [← hY2, ← hV2]; exact blk_alloc_new _ _
  have hx1 : Y2.heap[V1]? = some x.o25 := by rw [← hY2]; exact blk_old HX2.out
  have q2 : P3 w a b d Y2 := by rw [← hY2]; exact HQ2.out.below (below_box _ _)
  replace hY2 : w2.alloc (.cells #[.int .i64 x.c, .int .i64 x.b, .int .i64 x.z, .int .i64 x.s, .int .i64 x.a, .int .i64 x.k] 25) = Y2 := hY2
  rw [hY2, hV2]
  clear hY2 hV2
  obtain ⟨d0, d1, d2, d3, d4, d5, d6⟩ := cells7 q2.ha; obtain ⟨f0, f1, f2, f3, f4, f5, f6⟩ := cells7 q2.hb; obtain ⟨g0, g1, g2, g3, g4, g5⟩ := cells6 q2.hd
  have HS2 := Lib.hid (And.intro q2 (And.intro hx1 hx2))
  clear q2 hx1 hx2 HQ1 HQ1b HX1 HX2 HQ2
  go_upto_region 4 with (go_at_call 6; (with_reducible refine (HF1.out _).mono ?_); rintro e w3 ⟨rfl, hb⟩; have HS3 := Lib.hid (And.intro (HS2.out.1.below hb) (And.intro (keep_blk hb HS2.out.2.1) (keep_blk hb HS2.out.2.2))); clear hb)
  clear d0 d1 d2 d3 d4 d5 d6 f0 f1 f2 f3 f4 f5 f6 g0 g1 g2 g3 g4 g5
  obtain ⟨d0, d1, d2, d3, d4, d5, d6⟩ := cells7 HS3.out.1.ha; obtain ⟨f0, f1, f2, f3, f4, f5, f6⟩ := cells7 HS3.out.1.hb; obtain ⟨g0, g1, g2, g3, g4, g5⟩ := cells6 HS3.out.1.hd
  go_upto_region 5 with (go_at_call 7; (with_reducible refine (HF2.out _).mono ?_); rintro e w4 ⟨rfl, hb⟩; have HS4 := Lib.hid (And.intro (HS3.out.1.below hb) (And.intro (keep_blk hb HS3.out.2.1) (keep_blk hb HS3.out.2.2))); clear hb)
  clear d0 d1 d2 d3 d4 d5 d6 f0 f1 f2 f3 f4 f5 f6 g0 g1 g2 g3 g4 g5
  obtain ⟨d0, d1, d2, d3, d4, d5, d6⟩ := cells7 HS4.out.1.ha; obtain ⟨f0, f1, f2, f3, f4, f5, f6⟩ := cells7 HS4.out.1.hb; obtain ⟨g0, g1, g2, g3, g4, g5⟩ := cells6 HS4.out.1.hd
  go_upto_region 6 with (go_at_call 8; (with_reducible refine (HLY.out _).mono ?_); rintro e w5 ⟨hb, v1, rfl, hm⟩; have HS5 := Lib.hid (And.intro (HS4.out.1.below hb) (And.intro (keep_blk hb HS4.out.2.1) (keep_blk hb HS4.out.2.2))); have HM5 := Lib.hid hm; clear hb hm)
  clear d0 d1 d2 d3 d4 d5 d6 f0 f1 f2 f3 f4 f5 f6 g0 g1 g2 g3 g4 g5
  obtain ⟨d0, d1, d2, d3, d4, d5, d6⟩ := cells7 HS5.out.1.ha; obtain ⟨f0, f1, f2, f3, f4, f5, f6⟩ := cells7 HS5.out.1.hb; obtain ⟨g0, g1, g2, g3, g4, g5⟩ := cells6 HS5.out.1.hd
  go_upto_region 7 with (go_at_call 9; (with_reducible refine (HLX.out _).mono ?_); rintro e w6 ⟨hb, v2, rfl, hm⟩; have HS6 := Lib.hid (And.intro (HS5.out.1.below hb) (And.intro (keep_blk hb HS5.out.2.1) (keep_blk hb HS5.out.2.2))); have HM6 := Lib.hid (MatIn.mono (Same.of_below hb) HM5.out); have HN6 := Lib.hid hm; clear hb hm)
  clear d0 d1 d2 d3 d4 d5 d6 f0 f1 f2 f3 f4 f5 f6 g0 g1 g2 g3 g4 g5
  refine region_T (S := fun wx => P3 w a b d wx ∧ wx.heap[V1]? = some x.o25 ∧ wx.heap[V2]? = some x.o25) [] (by kernel_rfl) ⟨HS6.out.1.below ⟨rfl, rfl, rfl, Nat.le_refl _, fun _ _ => rfl⟩, HS6.out.2.1, HS6.out.2.2⟩ (fun hS => ?_)
  have hdr : Below w6.heap.size w6 w6.drew := ⟨rfl, rfl, rfl, Nat.le_refl _, fun _ _ => rfl⟩
  have hma := MatIn.mono (Same.of_below hdr) HM6.out
  have hmb := MatIn.mono (Same.of_below hdr) HN6.out
  obtain ⟨Y, hY⟩ : ∃ Y, w6.drew = Y := ⟨_, rfl⟩
  rw [hY] at hS hma hmb ⊢
  clear hY hdr HS2 HS3 HS4 HS5 HS6 HM5 HM6 HN6 HLX HLY HF1 HF2 HAX
  refine anyT_take (i := 0) (v := ?_) rfl (by kernel_rfl) (by kernel_rfl) (by kernel_rfl) (by kernel_rfl) (fun _ _ _ h => h) (Or.inl ⟨by rfl, ?_⟩) hS ?_
  rotate_left
  focus ((intro wq hSw; obtain ⟨d0, d1, d2, d3, d4, d5, d6⟩ := cells7 hSw.1.ha; obtain ⟨x0, x1, x2, x3, x4, x5⟩ := cells6 hSw.2.1; obtain ⟨y0, y1, y2, y3, y4, y5⟩ := cells6 hSw.2.2; go_simp); try with_reducible rfl)
  try simp only [Act.put, List.getElem_toArray, List.getElem_cons_succ, List.getElem_cons_zero, List.setIfInBounds_toArray, List.set_cons_zero, List.set_cons_succ]
  refine anyT_take (i := 2) (v := ?_) rfl (by kernel_rfl) (by kernel_rfl) (by kernel_rfl) (by kernel_rfl) (fun _ _ _ h => h) (Or.inl ⟨by rfl, ?_⟩) hS ?_
  rotate_left
  focus ((intro wq hSw; obtain ⟨d0, d1, d2, d3, d4, d5, d6⟩ := cells7 hSw.1.ha; obtain ⟨x0, x1, x2, x3, x4, x5⟩ := cells6 hSw.2.1; obtain ⟨y0, y1, y2, y3, y4, y5⟩ := cells6 hSw.2.2; go_simp); try with_reducible rfl)
  try simp only [Act.put, List.getElem_toArray, List.getElem_cons_succ, List.getElem_cons_zero, List.setIfInBounds_toArray, List.set_cons_zero, List.set_cons_succ]
  refine anyT_one (i := 1) (by kernel_rfl) rfl (fun K hK => ?_)
  go_simp
  refine (HV.out _).mono ?_
  rintro e w7 ⟨rfl, hb⟩
  have hS7 := And.intro (hS.1.below hb) (And.intro (keep_blk hb hS.2.1) (keep_blk hb hS.2.2))
  have hma7 := MatIn.mono (Same.of_below hb) hma
  have hmb7 := MatIn.mono (Same.of_below hb) hmb
  clear hb hS hma hmb
  go_simp
  refine hK.out _ _ (fun _ => hS7) ?_
  clear hK K
  try simp only [Act.put, List.getElem_toArray, List.getElem_cons_succ, List.getElem_cons_zero, List.setIfInBounds_toArray, List.set_cons_zero, List.set_cons_succ]
  refine anyT_one (i := 3) (by kernel_rfl) rfl (fun K hK => ?_)
  go_simp
  refine (HVX.out _).mono ?_
  rintro e w8 ⟨rfl, hb⟩
  have hS8 := And.intro (hS7.1.below hb) (And.intro (keep_blk hb hS7.2.1) (keep_blk hb hS7.2.2))
  have hma8 := MatIn.mono (Same.of_below hb) hma7
  have hmb8 := MatIn.mono (Same.of_below hb) hmb7
  clear hb hS7 hma7 hmb7
  go_simp
  refine hK.out _ _ (fun _ => hS8) ?_
  clear hK K
  try simp only [Act.put, List.getElem_toArray, List.getElem_cons_succ, List.getElem_cons_zero, List.setIfInBounds_toArray, List.set_cons_zero, List.set_cons_succ]
  obtain ⟨va, hva⟩ : ∃ va, a.ok = va := ⟨_, rfl⟩
  rw [hva]
  clear hva
  refine anyT_take (i := 4) (v := ?_) rfl (by kernel_rfl) (by kernel_rfl) (by kernel_rfl) (by kernel_rfl) (fun _ _ _ h => h) (Or.inl ⟨by rfl, ?_⟩) hS8 ?_
  rotate_left
  focus ((intro wq hSw; obtain ⟨d0, d1, d2, d3, d4, d5, d6⟩ := cells7 hSw.1.ha; obtain ⟨x0, x1, x2, x3, x4, x5⟩ := cells6 hSw.2.1; obtain ⟨y0, y1, y2, y3, y4, y5⟩ := cells6 hSw.2.2; go_simp); try with_reducible rfl)
  try simp only [Act.put, List.getElem_toArray, List.getElem_cons_succ, List.getElem_cons_zero, List.setIfInBounds_toArray, List.set_cons_zero, List.set_cons_succ]
  refine anyT_take (i := 5) (v := ?_) rfl (by kernel_rfl) (by kernel_rfl) (by kernel_rfl) (by kernel_rfl) (fun _ _ _ h => h) (Or.inl ⟨by rfl, ?_⟩) hS8 ?_
  rotate_left
  focus ((intro wq hSw; obtain ⟨d0, d1, d2, d3, d4, d5, d6⟩ := cells7 hSw.1.ha; obtain ⟨x0, x1, x2, x3, x4, x5⟩ := cells6 hSw.2.1; obtain ⟨y0, y1, y2, y3, y4, y5⟩ := cells6 hSw.2.2; go_simp); try with_reducible rfl)
  try simp only [Act.put, List.getElem_toArray, List.getElem_cons_succ, List.getElem_cons_zero, List.setIfInBounds_toArray, List.set_cons_zero, List.set_cons_succ]
  refine anyT_take (i := 6) (v := ?_) rfl (by kernel_rfl) (by kernel_rfl) (by kernel_rfl) (by kernel_rfl) (fun _ _ _ h => h) (Or.inl ⟨by rfl, ?_⟩) hS8 ?_
  rotate_left
  focus ((intro wq hSw; obtain ⟨d0, d1, d2, d3, d4, d5, d6⟩ := cells7 hSw.1.ha; obtain ⟨x0, x1, x2, x3, x4, x5⟩ := cells6 hSw.2.1; obtain ⟨y0, y1, y2, y3, y4, y5⟩ := cells6 hSw.2.2; go_simp); try with_reducible rfl)
  try simp only [Act.put, List.getElem_toArray, List.getElem_cons_succ, List.getElem_cons_zero, List.setIfInBounds_toArray, List.set_cons_zero, List.set_cons_succ]
  refine anyT_take (i := 7) (v := ?_) rfl (by kernel_rfl) (by kernel_rfl) (by kernel_rfl) (by kernel_rfl) (fun _ _ _ h => h) (Or.inl ⟨by rfl, ?_⟩) hS8 ?_
  rotate_left
  focus ((intro wq hSw; obtain ⟨d0, d1, d2, d3, d4, d5, d6⟩ := cells7 hSw.1.ha; obtain ⟨x0, x1, x2, x3, x4, x5⟩ := cells6 hSw.2.1; obtain ⟨y0, y1, y2, y3, y4, y5⟩ := cells6 hSw.2.2; go_simp); try with_reducible rfl)
  try simp only [Act.put, List.getElem_toArray, List.getElem_cons_succ, List.getElem_cons_zero, List.setIfInBounds_toArray, List.set_cons_zero, List.set_cons_succ]
  refine anyT_take (i := 8) (v := ?_) rfl (by kernel_rfl) (by kernel_rfl) (by kernel_rfl) (by kernel_rfl) (fun _ _ _ h => h) (Or.inl ⟨by rfl, ?_⟩) hS8 ?_
  rotate_left
  focus ((intro wq hSw; obtain ⟨d0, d1, d2, d3, d4, d5, d6⟩ := cells7 hSw.1.ha; obtain ⟨x0, x1, x2, x3, x4, x5⟩ := cells6 hSw.2.1; obtain ⟨y0, y1, y2, y3, y4, y5⟩ := cells6 hSw.2.2; go_simp); try with_reducible rfl)
  try simp only [Act.put, List.getElem_toArray, List.getElem_cons_succ, List.getElem_cons_zero, List.setIfInBounds_toArray, List.set_cons_zero, List.set_cons_succ]
  refine anyT_take (i := 9) (v := ?_) rfl (by kernel_rfl) (by kernel_rfl) (by kernel_rfl) (by kernel_rfl) (fun _ _ _ h => h) (Or.inl ⟨by rfl, ?_⟩) hS8 ?_
  rotate_left
  focus ((intro wq hSw; obtain ⟨d0, d1, d2, d3, d4, d5, d6⟩ := cells7 hSw.1.ha; obtain ⟨x0, x1, x2, x3, x4, x5⟩ := cells6 hSw.2.1; obtain ⟨y0, y1, y2, y3, y4, y5⟩ := cells6 hSw.2.2; go_simp); try with_reducible rfl)
  try simp only [Act.put, List.getElem_toArray, List.getElem_cons_succ, List.getElem_cons_zero, List.setIfInBounds_toArray, List.set_cons_zero, List.set_cons_succ]
  refine anyT_take (i := 10) (v := ?_) rfl (by kernel_rfl) (by kernel_rfl) (by kernel_rfl) (by kernel_rfl) (fun _ _ _ h => h) (Or.inl ⟨by rfl, ?_⟩) hS8 ?_
  rotate_left
  focus ((intro wq hSw; obtain ⟨d0, d1, d2, d3, d4, d5, d6⟩ := cells7 hSw.1.ha; obtain ⟨x0, x1, x2, x3, x4, x5⟩ := cells6 hSw.2.1; obtain ⟨y0, y1, y2, y3, y4, y5⟩ := cells6 hSw.2.2; go_simp); try with_reducible rfl)
  try simp only [Act.put, List.getElem_toArray, List.getElem_cons_succ, List.getElem_cons_zero, List.setIfInBounds_toArray, List.set_cons_zero, List.set_cons_succ]
  refine anyT_take (i := 11) (v := ?_) rfl (by kernel_rfl) (by kernel_rfl) (by kernel_rfl) (by kernel_rfl) (fun _ _ _ h => h) (Or.inl ⟨by rfl, ?_⟩) hS8 ?_
  rotate_left
  focus ((intro wq hSw; obtain ⟨d0, d1, d2, d3, d4, d5, d6⟩ := cells7 hSw.1.ha; obtain ⟨x0, x1, x2, x3, x4, x5⟩ := cells6 hSw.2.1; obtain ⟨y0, y1, y2, y3, y4, y5⟩ := cells6 hSw.2.2; go_simp); try with_reducible rfl)
  try simp only [Act.put, List.getElem_toArray, List.getElem_cons_succ, List.getElem_cons_zero, List.setIfInBounds_toArray, List.set_cons_zero, List.set_cons_succ]
  refine anyT_take (i := 12) (v := ?_) rfl (by kernel_rfl) (by kernel_rfl) (by kernel_rfl) (by kernel_rfl) (fun _ _ _ h => h) (Or.inl ⟨by rfl, ?_⟩) hS8 ?_
  rotate_left
  focus ((intro wq hSw; obtain ⟨d0, d1, d2, d3, d4, d5, d6⟩ := cells7 hSw.1.ha; obtain ⟨x0, x1, x2, x3, x4, x5⟩ := cells6 hSw.2.1; obtain ⟨y0, y1, y2, y3, y4, y5⟩ := cells6 hSw.2.2; go_simp); try with_reducible rfl)
  try simp only [Act.put, List.getElem_toArray, List.getElem_cons_succ, List.getElem_cons_zero, List.setIfInBounds_toArray, List.set_cons_zero, List.set_cons_succ]
  refine anyT_take (i := 13) (v := ?_) rfl (by kernel_rfl) (by kernel_rfl) (by kernel_rfl) (by kernel_rfl) (fun _ _ _ h => h) (Or.inl ⟨by rfl, ?_⟩) hS8 ?_
  rotate_left
  focus ((intro wq hSw; obtain ⟨d0, d1, d2, d3, d4, d5, d6⟩ := cells7 hSw.1.ha; obtain ⟨x0, x1, x2, x3, x4, x5⟩ := cells6 hSw.2.1; obtain ⟨y0, y1, y2, y3, y4, y5⟩ := cells6 hSw.2.2; go_simp); try with_reducible rfl)
  try simp only [Act.put, List.getElem_toArray, List.getElem_cons_succ, List.getElem_cons_zero, List.setIfInBounds_toArray, List.set_cons_zero, List.set_cons_succ]
  refine anyT_take (i := 14) (v := ?_) rfl (by kernel_rfl) (by kernel_rfl) (by kernel_rfl) (by kernel_rfl) (fun _ _ _ h => h) (Or.inl ⟨by rfl, ?_⟩) hS8 ?_
  rotate_left
  focus ((intro wq hSw; obtain ⟨d0, d1, d2, d3, d4, d5, d6⟩ := cells7 hSw.1.ha; obtain ⟨x0, x1, x2, x3, x4, x5⟩ := cells6 hSw.2.1; obtain ⟨y0, y1, y2, y3, y4, y5⟩ := cells6 hSw.2.2; go_simp); try with_reducible rfl)
  try simp only [Act.put, List.getElem_toArray, List.getElem_cons_succ, List.getElem_cons_zero, List.setIfInBounds_toArray, List.set_cons_zero, List.set_cons_succ]
  refine anyT_take (i := 15) (v := ?_) rfl (by kernel_rfl) (by kernel_rfl) (by kernel_rfl) (by kernel_rfl) (fun _ _ _ h => h) (Or.inl ⟨by rfl, ?_⟩) hS8 ?_
  rotate_left
  focus ((intro wq hSw; obtain ⟨d0, d1, d2, d3, d4, d5, d6⟩ := cells7 hSw.1.ha; obtain ⟨x0, x1, x2, x3, x4, x5⟩ := cells6 hSw.2.1; obtain ⟨y0, y1, y2, y3, y4, y5⟩ := cells6 hSw.2.2; go_simp); try with_reducible rfl)
  try simp only [Act.put, List.getElem_toArray, List.getElem_cons_succ, List.getElem_cons_zero, List.setIfInBounds_toArray, List.set_cons_zero, List.set_cons_succ]
  refine anyT_take (i := 16) (v := ?_) rfl (by kernel_rfl) (by kernel_rfl) (by kernel_rfl) (by kernel_rfl) (fun _ _ _ h => h) (Or.inl ⟨by rfl, ?_⟩) hS8 ?_
  rotate_left
  focus ((intro wq hSw; obtain ⟨d0, d1, d2, d3, d4, d5, d6⟩ := cells7 hSw.1.ha; obtain ⟨x0, x1, x2, x3, x4, x5⟩ := cells6 hSw.2.1; obtain ⟨y0, y1, y2, y3, y4, y5⟩ := cells6 hSw.2.2; go_simp); try with_reducible rfl)
  try simp only [Act.put, List.getElem_toArray, List.getElem_cons_succ, List.getElem_cons_zero, List.setIfInBounds_toArray, List.set_cons_zero, List.set_cons_succ]
  refine anyT_take (i := 17) (v := ?_) rfl (by kernel_rfl) (by kernel_rfl) (by kernel_rfl) (by kernel_rfl) (fun _ _ _ h => h) (Or.inl ⟨by rfl, ?_⟩) hS8 ?_
  rotate_left
  focus ((intro wq hSw; obtain ⟨d0, d1, d2, d3, d4, d5, d6⟩ := cells7 hSw.1.ha; obtain ⟨x0, x1, x2, x3, x4, x5⟩ := cells6 hSw.2.1; obtain ⟨y0, y1, y2, y3, y4, y5⟩ := cells6 hSw.2.2; go_simp); try with_reducible rfl)
  try simp only [Act.put, List.getElem_toArray, List.getElem_cons_succ, List.getElem_cons_zero, List.setIfInBounds_toArray, List.set_cons_zero, List.set_cons_succ]
  refine anyT_take (i := 18) (v := ?_) rfl (by kernel_rfl) (by kernel_rfl) (by kernel_rfl) (by kernel_rfl) (fun _ _ _ h => h) (Or.inl ⟨by rfl, ?_⟩) hS8 ?_
  rotate_left
  focus ((intro wq hSw; obtain ⟨d0, d1, d2, d3, d4, d5, d6⟩ := cells7 hSw.1.ha; obtain ⟨x0, x1, x2, x3, x4, x5⟩ := cells6 hSw.2.1; obtain ⟨y0, y1, y2, y3, y4, y5⟩ := cells6 hSw.2.2; go_simp); try with_reducible rfl)
  try simp only [Act.put, List.getElem_toArray, List.getElem_cons_succ, List.getElem_cons_zero, List.setIfInBounds_toArray, List.set_cons_zero, List.set_cons_succ]
  refine anyT_take (i := 19) (v := ?_) rfl (by kernel_rfl) (by kernel_rfl) (by kernel_rfl) (by kernel_rfl) (fun _ _ _ h => h) (Or.inl ⟨by rfl, ?_⟩) hS8 ?_
  rotate_left
  focus ((intro wq hSw; obtain ⟨d0, d1, d2, d3, d4, d5, d6⟩ := cells7 hSw.1.ha; obtain ⟨x0, x1, x2, x3, x4, x5⟩ := cells6 hSw.2.1; obtain ⟨y0, y1, y2, y3, y4, y5⟩ := cells6 hSw.2.2; go_simp); try with_reducible rfl)
  try simp only [Act.put, List.getElem_toArray, List.getElem_cons_succ, List.getElem_cons_zero, List.setIfInBounds_toArray, List.set_cons_zero, List.set_cons_succ]
  refine anyT_take (i := 20) (v := ?_) rfl (by kernel_rfl) (by kernel_rfl) (by kernel_rfl) (by kernel_rfl) (fun _ _ _ h => h) (Or.inl ⟨by rfl, ?_⟩) hS8 ?_
  rotate_left
  focus ((intro wq hSw; obtain ⟨d0, d1, d2, d3, d4, d5, d6⟩ := cells7 hSw.1.ha; obtain ⟨x0, x1, x2, x3, x4, x5⟩ := cells6 hSw.2.1; obtain ⟨y0, y1, y2, y3, y4, y5⟩ := cells6 hSw.2.2; go_simp); try with_reducible rfl)
  try simp only [Act.put, List.getElem_toArray, List.getElem_cons_succ, List.getElem_cons_zero, List.setIfInBounds_toArray, List.set_cons_zero, List.set_cons_succ]
  refine anyT_take (i := 21) (v := ?_) rfl (by kernel_rfl) (by kernel_rfl) (by kernel_rfl) (by kernel_rfl) (fun _ _ _ h => h) (Or.inl ⟨by rfl, ?_⟩) hS8 ?_
  rotate_left
  focus ((intro wq hSw; obtain ⟨d0, d1, d2, d3, d4, d5, d6⟩ := cells7 hSw.1.ha; obtain ⟨x0, x1, x2, x3, x4, x5⟩ := cells6 hSw.2.1; obtain ⟨y0, y1, y2, y3, y4, y5⟩ := cells6 hSw.2.2; go_simp); try with_reducible rfl)
  try simp only [Act.put, List.getElem_toArray, List.getElem_cons_succ, List.getElem_cons_zero, List.setIfInBounds_toArray, List.set_cons_zero, List.set_cons_succ]
  refine anyT_take (i := 22) (v := ?_) rfl (by kernel_rfl) (by kernel_rfl) (by kernel_rfl) (by kernel_rfl) (fun _ _ _ h => h) (Or.inl ⟨by rfl, ?_⟩) hS8 ?_
  rotate_left
  focus ((intro wq hSw; obtain ⟨d0, d1, d2, d3, d4, d5, d6⟩ := cells7 hSw.1.ha; obtain ⟨x0, x1, x2, x3, x4, x5⟩ := cells6 hSw.2.1; obtain ⟨y0, y1, y2, y3, y4, y5⟩ := cells6 hSw.2.2; go_simp); try with_reducible rfl)
  try simp only [Act.put, List.getElem_toArray, List.getElem_cons_succ, List.getElem_cons_zero, List.setIfInBounds_toArray, List.set_cons_zero, List.set_cons_succ]
  refine anyT_take (i := 23) (v := ?_) rfl (by kernel_rfl) (by kernel_rfl) (by kernel_rfl) (by kernel_rfl) (fun _ _ _ h => h) (Or.inl ⟨by rfl, ?_⟩) hS8 ?_
  rotate_left
  focus ((intro wq hSw; obtain ⟨d0, d1, d2, d3, d4, d5, d6⟩ := cells7 hSw.1.ha; obtain ⟨x0, x1, x2, x3, x4, x5⟩ := cells6 hSw.2.1; obtain ⟨y0, y1, y2, y3, y4, y5⟩ := cells6 hSw.2.2; go_simp); try with_reducible rfl)
  try simp only [Act.put, List.getElem_toArray, List.getElem_cons_succ, List.getElem_cons_zero, List.setIfInBounds_toArray, List.set_cons_zero, List.set_cons_succ]
  refine anyT_take (i := 24) (v := ?_) rfl (by kernel_rfl) (by kernel_rfl) (by kernel_rfl) (by kernel_rfl) (fun _ _ _ h => h) (Or.inl ⟨by rfl, ?_⟩) hS8 ?_
  rotate_left
  focus ((intro wq hSw; obtain ⟨d0, d1, d2, d3, d4, d5, d6⟩ := cells7 hSw.1.ha; obtain ⟨x0, x1, x2, x3, x4, x5⟩ := cells6 hSw.2.1; obtain ⟨y0, y1, y2, y3, y4, y5⟩ := cells6 hSw.2.2; go_simp); try with_reducible rfl)
  try simp only [Act.put, List.getElem_toArray, List.getElem_cons_succ, List.getElem_cons_zero, List.setIfInBounds_toArray, List.set_cons_zero, List.set_cons_succ]
  refine anyT_take (i := 25) (v := ?_) rfl (by kernel_rfl) (by kernel_rfl) (by kernel_rfl) (by kernel_rfl) (fun _ _ _ h => h) (Or.inl ⟨by rfl, ?_⟩) hS8 ?_
  rotate_left
  focus ((intro wq hSw; obtain ⟨d0, d1, d2, d3, d4, d5, d6⟩ := cells7 hSw.1.ha; obtain ⟨x0, x1, x2, x3, x4, x5⟩ := cells6 hSw.2.1; obtain ⟨y0, y1, y2, y3, y4, y5⟩ := cells6 hSw.2.2; go_simp); try with_reducible rfl)
  try simp only [Act.put, List.getElem_toArray, List.getElem_cons_succ, List.getElem_cons_zero, List.setIfInBounds_toArray, List.set_cons_zero, List.set_cons_succ]
  refine anyT_take (i := 26) (v := ?_) rfl (by kernel_rfl) (by kernel_rfl) (by kernel_rfl) (by kernel_rfl) (fun _ _ _ h => h) (Or.inl ⟨by rfl, ?_⟩) hS8 ?_
  rotate_left
  focus ((intro wq hSw; obtain ⟨d0, d1, d2, d3, d4, d5, d6⟩ := cells7 hSw.1.ha; obtain ⟨x0, x1, x2, x3, x4, x5⟩ := cells6 hSw.2.1; obtain ⟨y0, y1, y2, y3, y4, y5⟩ := cells6 hSw.2.2; go_simp); try with_reducible rfl)
  try simp only [Act.put, List.getElem_toArray, List.getElem_cons_succ, List.getElem_cons_zero, List.setIfInBounds_toArray, List.set_cons_zero, List.set_cons_succ]
  refine anyT_take (i := 27) (v := ?_) rfl (by kernel_rfl) (by kernel_rfl) (by kernel_rfl) (by kernel_rfl) (fun _ _ _ h => h) (Or.inl ⟨by rfl, ?_⟩) hS8 ?_
  rotate_left
  focus ((intro wq hSw; obtain ⟨d0, d1, d2, d3, d4, d5, d6⟩ := cells7 hSw.1.ha; obtain ⟨x0, x1, x2, x3, x4, x5⟩ := cells6 hSw.2.1; obtain ⟨y0, y1, y2, y3, y4, y5⟩ := cells6 hSw.2.2; go_simp); try with_reducible rfl)
  try simp only [Act.put, List.getElem_toArray, List.getElem_cons_succ, List.getElem_cons_zero, List.setIfInBounds_toArray, List.set_cons_zero, List.set_cons_succ]
  refine anyT_one (i := 28) (by kernel_rfl) rfl (fun K hK => ?_)
  go_simp
  refine (HM.out _ _ _ _ _ hma8 hmb8).mono ?_
  rintro e w9 ⟨rfl, hb⟩
  rw [show decide (lr = lr) = true by simp]
  have hS9 := And.intro (hS8.1.below hb) (And.intro (keep_blk hb hS8.2.1) (keep_blk hb hS8.2.2))
  have hma9 := MatIn.mono (Same.of_below hb) hma8
  have hmb9 := MatIn.mono (Same.of_below hb) hmb8
  clear hb hS8 hma8 hmb8
  go_simp
  refine hK.out _ _ (fun _ => hS9) ?_
  clear hK K
  try simp only [Act.put, List.getElem_toArray, List.getElem_cons_succ, List.getElem_cons_zero, List.setIfInBounds_toArray, List.set_cons_zero, List.set_cons_succ]
  refine anyT_take (i := 29) (v := ?_) rfl (by kernel_rfl) (by kernel_rfl) (by kernel_rfl) (by kernel_rfl) (fun _ _ _ h => h) (Or.inl ⟨by rfl, ?_⟩) hS9 ?_
  rotate_left
  focus ((intro wq hSw; obtain ⟨d0, d1, d2, d3, d4, d5, d6⟩ := cells7 hSw.1.ha; obtain ⟨x0, x1, x2, x3, x4, x5⟩ := cells6 hSw.2.1; obtain ⟨y0, y1, y2, y3, y4, y5⟩ := cells6 hSw.2.2; go_simp); try with_reducible rfl)
  try simp only [Act.put, List.getElem_toArray, List.getElem_cons_succ, List.getElem_cons_zero, List.setIfInBounds_toArray, List.set_cons_zero, List.set_cons_succ]
  refine anyT_take (i := 30) (v := ?_) rfl (by kernel_rfl) (by kernel_rfl) (by kernel_rfl) (by kernel_rfl) (fun _ _ _ h => h) (Or.inl ⟨by rfl, ?_⟩) hS9 ?_
  rotate_left
  focus ((intro wq hSw; obtain ⟨d0, d1, d2, d3, d4, d5, d6⟩ := cells7 hSw.1.ha; obtain ⟨x0, x1, x2, x3, x4, x5⟩ := cells6 hSw.2.1; obtain ⟨y0, y1, y2, y3, y4, y5⟩ := cells6 hSw.2.2; go_simp); try with_reducible rfl)
  try simp only [Act.put, List.getElem_toArray, List.getElem_cons_succ, List.getElem_cons_zero, List.setIfInBounds_toArray, List.set_cons_zero, List.set_cons_succ]
  refine anyT_take (i := 31) (v := ?_) rfl (by kernel_rfl) (by kernel_rfl) (by kernel_rfl) (by kernel_rfl) (fun _ _ _ h => h) (Or.inl ⟨by rfl, ?_⟩) hS9 ?_
  rotate_left
  focus ((intro wq hSw; obtain ⟨d0, d1, d2, d3, d4, d5, d6⟩ := cells7 hSw.1.ha; obtain ⟨x0, x1, x2, x3, x4, x5⟩ := cells6 hSw.2.1; obtain ⟨y0, y1, y2, y3, y4, y5⟩ := cells6 hSw.2.2; go_simp); try with_reducible rfl)
  try simp only [Act.put, List.getElem_toArray, List.getElem_cons_succ, List.getElem_cons_zero, List.setIfInBounds_toArray, List.set_cons_zero, List.set_cons_succ]
  refine anyT_take (i := 32) (v := ?_) rfl (by kernel_rfl) (by kernel_rfl) (by kernel_rfl) (by kernel_rfl) (fun _ _ _ h => h) (Or.inl ⟨by rfl, ?_⟩) hS9 ?_
  rotate_left
  focus ((intro wq hSw; obtain ⟨d0, d1, d2, d3, d4, d5, d6⟩ := cells7 hSw.1.ha; obtain ⟨x0, x1, x2, x3, x4, x5⟩ := cells6 hSw.2.1; obtain ⟨y0, y1, y2, y3, y4, y5⟩ := cells6 hSw.2.2; go_simp); try with_reducible rfl)
  try simp only [Act.put, List.getElem_toArray, List.getElem_cons_succ, List.getElem_cons_zero, List.setIfInBounds_toArray, List.set_cons_zero, List.set_cons_succ]
  refine anyT_take (i := 33) (v := ?_) rfl (by kernel_rfl) (by kernel_rfl) (by kernel_rfl) (by kernel_rfl) (fun _ _ _ h => h) (Or.inl ⟨by rfl, ?_⟩) hS9 ?_
  rotate_left
  focus ((intro wq hSw; obtain ⟨d0, d1, d2, d3, d4, d5, d6⟩ := cells7 hSw.1.ha; obtain ⟨x0, x1, x2, x3, x4, x5⟩ := cells6 hSw.2.1; obtain ⟨y0, y1, y2, y3, y4, y5⟩ := cells6 hSw.2.2; go_simp); try with_reducible rfl)
  try simp only [Act.put, List.getElem_toArray, List.getElem_cons_succ, List.getElem_cons_zero, List.setIfInBounds_toArray, List.set_cons_zero, List.set_cons_succ]
  refine anyT_take (i := 34) (v := ?_) rfl (by kernel_rfl) (by kernel_rfl) (by kernel_rfl) (by kernel_rfl) (fun _ _ _ h => h) (Or.inl ⟨by rfl, ?_⟩) hS9 ?_
  rotate_left
  focus ((intro wq hSw; obtain ⟨d0, d1, d2, d3, d4, d5, d6⟩ := cells7 hSw.1.ha; obtain ⟨x0, x1, x2, x3, x4, x5⟩ := cells6 hSw.2.1; obtain ⟨y0, y1, y2, y3, y4, y5⟩ := cells6 hSw.2.2; go_simp); try with_reducible rfl)
  try simp only [Act.put, List.getElem_toArray, List.getElem_cons_succ, List.getElem_cons_zero, List.setIfInBounds_toArray, List.set_cons_zero, List.set_cons_succ]
  refine anyT_take (i := 35) (v := ?_) rfl (by kernel_rfl) (by kernel_rfl) (by kernel_rfl) (by kernel_rfl) (fun _ _ _ h => h) (Or.inl ⟨by rfl, ?_⟩) hS9 ?_
  rotate_left
  focus ((intro wq hSw; obtain ⟨d0, d1, d2, d3, d4, d5, d6⟩ := cells7 hSw.1.ha; obtain ⟨x0, x1, x2, x3, x4, x5⟩ := cells6 hSw.2.1; obtain ⟨y0, y1, y2, y3, y4, y5⟩ := cells6 hSw.2.2; go_simp); try with_reducible rfl)
  try simp only [Act.put, List.getElem_toArray, List.getElem_cons_succ, List.getElem_cons_zero, List.setIfInBounds_toArray, List.set_cons_zero, List.set_cons_succ]
  refine anyT_take (i := 36) (v := ?_) rfl (by kernel_rfl) (by kernel_rfl) (by kernel_rfl) (by kernel_rfl) (fun _ _ _ h => h) (Or.inl ⟨by rfl, ?_⟩) hS9 ?_
  rotate_left
  focus ((intro wq hSw; obtain ⟨d0, d1, d2, d3, d4, d5, d6⟩ := cells7 hSw.1.ha; obtain ⟨x0, x1, x2, x3, x4, x5⟩ := cells6 hSw.2.1; obtain ⟨y0, y1, y2, y3, y4, y5⟩ := cells6 hSw.2.2; go_simp); try with_reducible rfl)
  try simp only [Act.put, List.getElem_toArray, List.getElem_cons_succ, List.getElem_cons_zero, List.setIfInBounds_toArray, List.set_cons_zero, List.set_cons_succ]
  refine anyT_take (i := 37) (v := ?_) rfl (by kernel_rfl) (by kernel_rfl) (by kernel_rfl) (by kernel_rfl) (fun _ _ _ h => h) (Or.inl ⟨by rfl, ?_⟩) hS9 ?_
  rotate_left
  focus ((intro wq hSw; obtain ⟨d0, d1, d2, d3, d4, d5, d6⟩ := cells7 hSw.1.ha; obtain ⟨x0, x1, x2, x3, x4, x5⟩ := cells6 hSw.2.1; obtain ⟨y0, y1, y2, y3, y4, y5⟩ := cells6 hSw.2.2; go_simp); try with_reducible rfl)
  try simp only [Act.put, List.getElem_toArray, List.getElem_cons_succ, List.getElem_cons_zero, List.setIfInBounds_toArray, List.set_cons_zero, List.set_cons_succ]
  refine anyT_take (i := 38) (v := ?_) rfl (by kernel_rfl) (by kernel_rfl) (by kernel_rfl) (by kernel_rfl) (fun _ _ _ h => h) (Or.inl ⟨by rfl, ?_⟩) hS9 ?_
  rotate_left
  focus ((intro wq hSw; obtain ⟨d0, d1, d2, d3, d4, d5, d6⟩ := cells7 hSw.1.ha; obtain ⟨x0, x1, x2, x3, x4, x5⟩ := cells6 hSw.2.1; obtain ⟨y0, y1, y2, y3, y4, y5⟩ := cells6 hSw.2.2; go_simp); try with_reducible rfl)
  try simp only [Act.put, List.getElem_toArray, List.getElem_cons_succ, List.getElem_cons_zero, List.setIfInBounds_toArray, List.set_cons_zero, List.set_cons_succ]
  refine anyT_take (i := 39) (v := ?_) rfl (by kernel_rfl) (by kernel_rfl) (by kernel_rfl) (by kernel_rfl) (fun _ _ _ h => h) (Or.inl ⟨by rfl, ?_⟩) hS9 ?_
  rotate_left
  focus ((intro wq hSw; obtain ⟨d0, d1, d2, d3, d4, d5, d6⟩ := cells7 hSw.1.ha; obtain ⟨x0, x1, x2, x3, x4, x5⟩ := cells6 hSw.2.1; obtain ⟨y0, y1, y2, y3, y4, y5⟩ := cells6 hSw.2.2; go_simp); try with_reducible rfl)
  try simp only [Act.put, List.getElem_toArray, List.getElem_cons_succ, List.getElem_cons_zero, List.setIfInBounds_toArray, List.set_cons_zero, List.set_cons_succ]
  refine anyT_take (i := 40) (v := ?_) rfl (by kernel_rfl) (by kernel_rfl) (by kernel_rfl) (by kernel_rfl) (fun _ _ _ h => h) (Or.inl ⟨by rfl, ?_⟩) hS9 ?_
  rotate_left
  focus ((intro wq hSw; obtain ⟨d0, d1, d2, d3, d4, d5, d6⟩ := cells7 hSw.1.ha; obtain ⟨x0, x1, x2, x3, x4, x5⟩ := cells6 hSw.2.1; obtain ⟨y0, y1, y2, y3, y4, y5⟩ := cells6 hSw.2.2; go_simp); try with_reducible rfl)
  try simp only [Act.put, List.getElem_toArray, List.getElem_cons_succ, List.getElem_cons_zero, List.setIfInBounds_toArray, List.set_cons_zero, List.set_cons_succ]
  refine anyT_done (by kernel_rfl) ?_ _
  have HS9 := Lib.hid hS9
  clear hS9 hma9 hmb9
  by_cases hk : K = 0
  rotate_left
  · have hk1 : (K == 0) = false := by simpa using hk
    go_wp2_with (go_at_call 13; (with_reducible refine (HAW.out _).mono ?_); rintro e w10 ⟨rfl, hb⟩; have HB := Lib.hid hb; clear hb)
    go_ret
    exact ⟨rfl, HS9.out.1.bel.trans (HB.out.mono HS9.out.1.bel.size)⟩
  subst hk
  have hA := agreed_of HK.out
  have hxx : dlJ a b p 6 = x := by rw [← HX.out, if_pos HK.out]
  have hsw := agree_any b a p
  unfold DealAns at hsw
  rw [agree_swap hA, dl_swap hA, hxx] at hsw
  have HSW : Hid (∀ w, Calls Try.prog 4 #[b.v, a.v, .int .i64 p] w fun e w' => e = .returned (.tuple #[x.v, .int .i64 0]) ∧ Below w.heap.size w w') := Lib.hid hsw
  have hok := agree_deal hA
  have hft := agree_fits hA
  rw [hxx] at hok hft
  have hfa := fits_any x.c x.b x.z x.s x.a x.k a
  have hfb := fits_any x.c x.b x.z x.s x.a x.k b
  have hl0 := lay_any x.c x.b x.z x.s x.a x.k 0
  unfold BothA at hfa hfb
  unfold LayAns at hl0
  replace hok : dealB x.c x.b x.z x.s x.a x.k = true := hok
  rw [hok, hA.ka, hft.1] at hfa
  rw [hok, hA.kb, hft.2] at hfb
  rw [hok, show inB 0 0 1000000000 = true by decide] at hl0
  have HFA : Hid (∀ w, Calls Try.prog 6 #[x.v, a.v] w fun e w' => e = .returned (.tuple #[.bool true, .int .i64 0]) ∧ Below w.heap.size w w') := Lib.hid hfa
  have HFB : Hid (∀ w, Calls Try.prog 6 #[x.v, b.v] w fun e w' => e = .returned (.tuple #[.bool true, .int .i64 0]) ∧ Below w.heap.size w w') := Lib.hid hfb
  have HL0 : Hid (∀ w, Calls Try.prog 8 #[x.v, .int .i64 0] w fun e w' => Below w.heap.size w w' ∧ ∃ v, e = .returned (.tuple #[v, .int .i64 (endK 0 x.z x.a (x.c.toNat * x.b.toNat)), .int .i64 0]) ∧ MatIn w' (laidTo 0 x.z x.a x.b.toNat x.c.toNat) v) := Lib.hid hl0
  have HOK := Lib.hid hok
  clear hsw hok hft hfa hfb hl0 hA hxx
  obtain ⟨d0, d1, d2, d3, d4, d5, d6⟩ := cells7 HS9.out.1.ha; obtain ⟨f0, f1, f2, f3, f4, f5, f6⟩ := cells7 HS9.out.1.hb; obtain ⟨x0, x1, x2, x3, x4, x5⟩ := cells6 HS9.out.2.1
  go_upto_region 12 with (go_at_call 4; (with_reducible refine (HSW.out _).mono ?_); rintro e w10 ⟨rfl, hb⟩; have HS10 := Lib.hid (And.intro (HS9.out.1.below hb) (keep_blk hb HS9.out.2.1)); clear hb)
  clear d0 d1 d2 d3 d4 d5 d6 f0 f1 f2 f3 f4 f5 f6 x0 x1 x2 x3 x4 x5
  obtain ⟨Y3, hY3⟩ : ∃ Y3, w10.alloc x.o25 = Y3 := ⟨_, rfl⟩
  obtain ⟨V3, hV3⟩ : ∃ V3, w10.heap.size = V3 := ⟨_, rfl⟩
  have hx3 : Y3.heap[V3]? = some x.o25 := by rw [← hY3, ← hV3]; exact blk_alloc_new _ _
  have hx1 : Y3.heap[V1]? = some x.o25 := by rw [← hY3]; exact blk_old HS10.out.2
  have q3 : P3 w a b d Y3 := by rw [← hY3]; exact HS10.out.1.below (below_box _ _)
  replace hY3 : w10.alloc (.cells #[.int .i64 x.c, .int .i64 x.b, .int .i64 x.z, .int .i64 x.s, .int .i64 x.a, .int .i64 x.k] 25) = Y3 := hY3
  rw [hY3, hV3]
  clear hY3 hV3
  have HS11 := Lib.hid (And.intro q3 (And.intro hx1 hx3))
  clear q3 hx1 hx3
  obtain ⟨d0, d1, d2, d3, d4, d5, d6⟩ := cells7 HS11.out.1.ha; obtain ⟨f0, f1, f2, f3, f4, f5, f6⟩ := cells7 HS11.out.1.hb; obtain ⟨x0, x1, x2, x3, x4, x5⟩ := cells6 HS11.out.2.1
  go_upto_region 13 with (go_at_call 6; (with_reducible refine (HFA.out _).mono ?_); rintro e w11 ⟨rfl, hb⟩; have HS12 := Lib.hid (And.intro (HS11.out.1.below hb) (And.intro (keep_blk hb HS11.out.2.1) (keep_blk hb HS11.out.2.2))); clear hb)
  clear d0 d1 d2 d3 d4 d5 d6 f0 f1 f2 f3 f4 f5 f6 x0 x1 x2 x3 x4 x5
  obtain ⟨d0, d1, d2, d3, d4, d5, d6⟩ := cells7 HS12.out.1.ha; obtain ⟨f0, f1, f2, f3, f4, f5, f6⟩ := cells7 HS12.out.1.hb; obtain ⟨x0, x1, x2, x3, x4, x5⟩ := cells6 HS12.out.2.1
  go_upto_region 14 with (go_at_call 6; (with_reducible refine (HFB.out _).mono ?_); rintro e w12 ⟨rfl, hb⟩; have HS13 := Lib.hid (And.intro (HS12.out.1.below hb) (And.intro (keep_blk hb HS12.out.2.1) (keep_blk hb HS12.out.2.2))); clear hb)
  clear d0 d1 d2 d3 d4 d5 d6 f0 f1 f2 f3 f4 f5 f6 x0 x1 x2 x3 x4 x5
  obtain ⟨d0, d1, d2, d3, d4, d5, d6⟩ := cells7 HS13.out.1.ha; obtain ⟨f0, f1, f2, f3, f4, f5, f6⟩ := cells7 HS13.out.1.hb; obtain ⟨x0, x1, x2, x3, x4, x5⟩ := cells6 HS13.out.2.1
  obtain ⟨z0, z1, z2, z3, z4, z5⟩ := cells6 HS13.out.2.2
  go_upto_region 16 with fail
  clear z0 z1 z2 z3 z4 z5
  go_upto_region 17 with (go_at_call 8; (with_reducible refine (HL0.out _).mono ?_); rintro e w13 ⟨hb, v3, rfl, hm⟩; have HS14 := Lib.hid (And.intro (HS13.out.1.below hb) (keep_blk hb HS13.out.2.1)); have HM14 := Lib.hid hm; clear hb hm)
  clear d0 d1 d2 d3 d4 d5 d6 f0 f1 f2 f3 f4 f5 f6 x0 x1 x2 x3 x4 x5
  obtain ⟨hin, hcc, hbb⟩ := deal_in HOK.out
  have hin1 := hin.c
  have hin2 := hin.b
  have hin3 := hin.z
  have hin4 := hin.a
  dsimp only at hin1 hin2 hin3 hin4
  obtain ⟨C, hC⟩ : ∃ C, x.c.toNat = C := ⟨_, rfl⟩
  obtain ⟨B, hB⟩ : ∃ B, x.b.toNat = B := ⟨_, rfl⟩
  rw [hC] at hcc hin1
  rw [hB] at hbb hin2
  rw [hC, hB] at HM14 ⊢
  have HXC := Lib.hid hcc
  have HIN := Lib.hid (And.intro hin1 (And.intro hin2 (And.intro hin3 hin4)))
  clear hin hcc hbb hC hB HSW HFA HFB HL0 HOK HS9 HS10 HS11 HS12 HS13 hin1 hin2 hin3 hin4
  obtain ⟨pa, cap, rfl, hrows, _, _⟩ := HM14.out
  obtain ⟨m, hm⟩ : ∃ m, laidTo 0 x.z x.a B C = m := ⟨_, rfl⟩
  have hml : m.length = C := by rw [← hm]; exact laidTo_len _ _ _ _ _
  rw [hm] at hrows ⊢
  have h00 := hrows 0 (by rw [hml]; have := HIN.out; omega)
  obtain ⟨mb, mo, _, rfl, _, _⟩ := h00
  have HROW : Hid (∀ wr, Below w13.heap.size w13 wr → ∀ j, j < C → ∃ pr capr, wr.cell? ⟨mb, mo + j, none⟩ = some (.slice pr B capr) ∧ ∀ q, q < B → ∃ eb eo, pr = some ⟨eb, eo, none⟩ ∧ wr.cell? ⟨eb, eo + q, none⟩ = some (.int .i64 (up (endK 0 x.z x.a (j * B + q)) x.a))) := Lib.hid fun wr hbw j hj => by
    obtain ⟨b0, o0, v, he, hcv, pr, capr, rfl, hint, _, _⟩ := (RowsIn.mono (Same.of_below hbw) hrows) j (by rw [hml]; exact hj)
    cases he
    have hr : m.getD j [] = laidRow 0 x.z x.a B j B := by rw [← hm]; simp [laidTo, List.getD, hj]
    rw [hr] at hint hcv
    rw [laidRow_len] at hcv
    refine ⟨pr, capr, hcv, fun q hq => ?_⟩
    obtain ⟨eb, eo, he2, hce, _⟩ := hint q (by rw [laidRow_len]; exact hq)
    refine ⟨eb, eo, he2, ?_⟩
    rw [hce]
    simp [laidRow, List.getD, hq]
  have HXX : Hid (∀ wr, Below w13.heap.size w13 wr → wr.heap[V1]? = some x.o25) := Lib.hid fun wr hbw => keep_blk hbw HS14.out.2
  have HML := Lib.hid hml
  have HB14 := Lib.hid HS14.out.1.bel
  clear hrows hm hml HM14 HS14
  go_wp2_with fail
  go_loopw [29, 28] (fun i ev wr => ∃ j : Nat, i = .int .i64 j ∧ j ≤ C ∧ ev = .int .i64 (endK 0 x.z x.a (j * B)) ∧ Below w13.heap.size w13 wr) (fun i _ _ => C - (intOf i).toNat)
  case atStart => exact ⟨0, rfl, Nat.zero_le _, by rw [Nat.zero_mul]; rfl, Below.refl _ _⟩
  case round =>
    obtain ⟨j, rfl, hj, rfl, hbw⟩ := hrel
    have HBW := Lib.hid hbw
    have hml := HML.out
    by_cases hlt : j < C
    · have w4 : (j : Int) < (m.length : Int) := by omega
      have w5 : (0 : Int) ≤ (j : Int) := by omega
      have HLT := Lib.hid hlt
      have f6 : wrap64 ((j : Int) + 1) = ((j + 1 : Nat) : Int) := by have := HIN.out; unfold wrap64; omega
      clear hbw hlt hml
      go_wp2_with fail
      rename World => wo
      go_loopw [30, 28] (fun i ev wx => ∃ q : Nat, i = .int .i64 q ∧ q ≤ B ∧ ev = .int .i64 (endK 0 x.z x.a (j * B + q)) ∧ Below w13.heap.size w13 wx) (fun i _ _ => B - (intOf i).toNat)
      case atStart => exact ⟨0, rfl, Nat.zero_le _, rfl, HBW.out⟩
      case round =>
        obtain ⟨q, rfl, hq, rfl, hbx⟩ := hrel
        have HBX := Lib.hid hbx
        obtain ⟨pr, capr, hcr, hcells⟩ := HROW.out _ hbx j HLT.out
        by_cases hlt2 : q < B
        · obtain ⟨eb, eo, rfl, hce⟩ := hcells q hlt2
          obtain ⟨x0, x1, x2, x3, x4, x5⟩ := cells6 (HXX.out _ hbx)
          have w6 : (q : Int) < (B : Int) := by omega
          have w7 : (0 : Int) ≤ (q : Int) := by omega
          have hk : j * B + q < 512 := by
            have h3 : (j + 1) * B ≤ C * B := Nat.mul_le_mul_right _ HLT.out
            rw [Nat.add_mul, Nat.one_mul] at h3
            have h4 : C * B ≤ 64 * 8 := Nat.mul_le_mul HIN.out.1.2 HIN.out.2.1.2
            omega
          obtain ⟨l1, l2, l3, l4⟩ := laid_step HIN.out.2.2.1 HIN.out.2.2.2 hk
          have f5 : wrap64 ((q : Int) + 1) = ((q + 1 : Nat) : Int) := by have := HIN.out; unfold wrap64; omega
          have HL2 := Lib.hid (And.intro hlt2 hk)
          obtain ⟨U, hU⟩ : ∃ U, up (endK 0 x.z x.a (j * B + q)) x.a = U := ⟨_, rfl⟩
          obtain ⟨E, hE⟩ : ∃ E, endK 0 x.z x.a (j * B + q) = E := ⟨_, rfl⟩
          have HE2 : Hid (endK 0 x.z x.a (j * B + (q + 1)) = endK 0 x.z x.a (j * B + q + 1)) := Lib.hid rfl
          rw [hU] at l1 l2 l3 l4 hce
          rw [hE] at l1
          rw [hE]
          have g1 : decide (U < E) = false := by simp only [decide_eq_false_iff_not]; omega
          have g2 : ¬ x.a = 0 := by have := HIN.out; omega
          have g3 : U.tmod x.a = 0 := by rw [Int.tmod_eq_emod_of_nonneg l3.1]; exact l2
          have g4 : wrap64 0 = 0 := by unfold wrap64; omega
          clear hbx hcells hlt2 hk l1 l2 l3 hU hE
          go_upto_region 24 with fail
          go_quiet (fail)
          go_upto_region 26 with fail
          go_quiet (fail)
          go_wp2_with fail
          go_roundw
          case rel => exact ⟨q + 1, by first | rfl | rw [f5], HL2.out.1, by first | rw [l4]; rfl | rfl, by first | exact below_drewN (below_drewN HBX.out _) _ | exact below_drewN HBX.out _ | exact HBX.out⟩
          case measure => (try rw [f5]); exact (step_w HL2.out.1 (by have := HIN.out; omega)).2.2
        · have w6 : ¬ (q : Int) < (B : Int) := by omega
          obtain rfl : q = B := by omega
          clear hbx hcells hlt2
          go_wp2_with fail
          go_roundw
          case rel => exact ⟨j + 1, by first | rfl | rw [f6], HLT.out, by rw [Nat.add_mul, Nat.one_mul], HBX.out⟩
          case measure => (try rw [f6]); exact (step_w HLT.out (by have := HIN.out; omega)).2.2
    · obtain rfl : j = C := by omega
      have w4 : ¬ (j : Int) < (m.length : Int) := by omega
      have e1 : ((m.length : Int) == x.c) = true := by simp only [beq_iff_eq]; have := HXC.out; omega
      obtain ⟨x0, x1, x2, x3, x4, x5⟩ := cells6 (HXX.out _ hbw)
      clear hbw hlt hml
      go_wp2_with (go_at_call 13; (with_reducible refine (HAW.out _).mono ?_); rintro e w20 ⟨rfl, hb⟩; have HB := Lib.hid hb; clear hb)
      go_ret
      exact ⟨rfl, (HB14.out.trans (HBW.out.mono HB14.out.size)).trans (HB.out.mono (Nat.le_trans HB14.out.size HBW.out.size))⟩
end Go.Proofs.Ytinlcgcnjlifkaa
