/- Lay, both sides. -/
import Derived.Test.YtinlcgcnjlifkaaSY
namespace Go.Proofs.Ytinlcgcnjlifkaa
open Go.RowKit Go.Shelf Go.Deep

set_option maxRecDepth 100000 in
theorem done49_yes {Q : World → Prop} (f : FuncId) (caps : Array Value) (N : Nat) (w : World) (hN : w.cell? ⟨N, 0, none⟩ = some (.func (.func f) #[] caps))
    (hcf : ∀ w : World, (callFunc f caps).run Try.prog w = .ok (.enter f caps) w)
    (hc : Calls Try.prog f caps (w.alloc (.cells #[] 73)) fun e w1 => e = .returned (.tuple #[]) ∧ w1.heap[w.heap.size]? = some (.cells #[] 73) ∧ Q w1) :
    Calls Try.prog 49 #[at0 N] w fun e w' => e = .returned (.agg #[]) ∧ Q w' := by
  have hN2 := (Same.alloc w (.cells #[] 73)).cell hN
  go_enter Try.func49, Try.ntmps49
  go_wp2_with fail
  refine hc.mono ?_
  rintro e w1 ⟨rfl, q1, hq⟩
  have HU := Lib.hid hq
  clear hq hc
  go_wp2_with fail
  refine bodyPost_ret (results_cell_row (P := Try.prog) rfl _ _ w.heap.size 73 _ (0, 0) _ rfl q1 Try.underlying73 rfl Try.size73) rfl ?_
  exact ⟨rfl, HU.out⟩
/-- What a call's own error cell does not touch. -/
def Keep (n : Nat) (x w1 w' : World) : Prop := (w'.os = w1.os ∧ w'.tape = w1.tape ∧ w'.output = w1.output) ∧ w1.heap.size ≤ w'.heap.size ∧ ∀ k, k < w1.heap.size → (k < n ∨ x.heap.size ≤ k) → w'.heap[k]? = w1.heap[k]?
set_option maxRecDepth 100000 in
theorem done_yes {A B : Nat} {Q : World → World → Prop} (f : FuncId) (caps : Array Value) (w : World) (hA : A < w.heap.size) (hB : B < w.heap.size)
    (hcf : ∀ w : World, (callFunc f caps).run Try.prog w = .ok (.enter f caps) w)
    (hc : ∀ x, Below w.heap.size w x → Calls Try.prog f caps x fun e w1 => e = .returned (.tuple #[]) ∧ Two A B x w1 ∧ Q x w1) :
    Calls Try.prog 29 #[.func (.func f) #[] caps] w fun e w' => e = .returned (.int .i64 0) ∧ ∃ x w1, Below w.heap.size w x ∧ Two A B x w1 ∧ Q x w1 ∧ Keep w.heap.size x w1 w' := by
  have hmf := makes
  obtain ⟨X, hX⟩ : ∃ X, w.alloc (.cells #[.func (.func f) #[] caps] 1) = X := ⟨_, rfl⟩
  have hb0 : Below w.heap.size w X := by rw [← hX]; exact (Below.refl _ w).alloc (Nat.le_refl _) _
  have hs0 : X.heap.size = w.heap.size + 1 := by rw [← hX]; simp
  have hcell : X.cell? ⟨w.heap.size, 0, none⟩ = some (.func (.func f) #[] caps) := by rw [← hX]; simp [go_sem]
  have he := enters_of Try.func49 (by kernel_rfl) rfl
  obtain ⟨x1, hx1⟩ : ∃ x1, (X.alloc (.cells #[] 73)).alloc (.cells #[.int .i64 0] 26) = x1 := ⟨_, rfl⟩
  have hb1 : Below w.heap.size w x1 := by rw [← hx1]; exact (hb0.alloc (by omega) _).alloc (by simp; omega) _
  have hs1 : x1.heap.size = X.heap.size + 2 := by rw [← hx1]; simp
  have e0 : x1.heap[X.heap.size]? = some (.cells #[] 73) := by rw [← hx1]; exact blk_old (blk_alloc_new _ _)
  have e1 : x1.heap[X.heap.size + 1]? = some (.cells #[.int .i64 0] 26) := by
    rw [← hx1]
    have := blk_alloc_new (X.alloc (.cells #[] 73)) (.cells #[.int .i64 0] 26)
    simpa using this
  have hb2 : Below w.heap.size w (x1.alloc (.cells #[] 73)) := hb1.alloc hb1.size _
  have hc1 := hc _ hb2
  have h98 := fitted48_any 49 #[at0 w.heap.size] X (fun j y => j = 0 ∧ Two A B (x1.alloc (.cells #[] 73)) y ∧ Q (x1.alloc (.cells #[] 73)) y) (he _) (by
    rw [hx1]
    refine (done49_yes (Q := fun y => Two A B (x1.alloc (.cells #[] 73)) y ∧ Q (x1.alloc (.cells #[] 73)) y) f caps w.heap.size x1 (by
      rw [← hx1]
      exact (Same.alloc _ _).cell ((Same.alloc _ _).cell hcell)) hcf (hc1.mono ?_)).mono ?_
    · rintro e w1 ⟨rfl, h2, h3⟩
      exact ⟨rfl, (h2.2.2 x1.heap.size (by omega) (by omega) (by simp)).trans (blk_alloc_new _ _), h2, h3⟩
    · rintro e w1 ⟨rfl, h2, h3⟩
      refine ⟨⟨⟨(h2.2.2 _ (by omega) (by omega) (by simp; omega)).trans (blk_old e0), (h2.2.2 _ (by omega) (by omega) (by simp; omega)).trans (blk_old e1)⟩, by have := h2.2.1; simp at this; omega⟩, .inl ⟨_, rfl, rfl, rfl, h2, h3⟩⟩)
  have HS := Lib.hid (And.intro hs0 hs1)
  have HB2 := Lib.hid hb2
  clear hc hcell hb1 hb0 hs0 hs1 hc1 e0 e1 hb2 hx1
  subst hX
  go_enter Try.func29, Try.ntmps29
  go_wp2_with (go_at_call 48; (with_reducible refine h98.mono ?_); rintro e w2 ⟨j, w1, rfl, ⟨rfl, h2, h3⟩, hn⟩; have H2 := Lib.hid h2; have H3 := Lib.hid h3; have HN := Lib.hid hn; clear h2 h3 hn)
  go_ret
  have hn := HN.out
  have hs := HS.out
  refine ⟨rfl, _, w1, HB2.out, H2.out, H3.out, hn.1, Nat.le_trans hn.2.1 (by simp), fun k hk hor => ?_⟩
  rw [Below.heap_alloc _ _ _ (Nat.lt_of_lt_of_le hk hn.2.1)]
  refine hn.2.2 k ?_ hk
  simp only [World.size_alloc] at hor hs ⊢
  omega
/-- Lay's memory. -/
abbrev x8 (w : World) (o : Obj) (at' : Int) : World := (((w.alloc o).alloc (.cells #[.int .i64 at'] 3)).alloc (.cells #[.slice none 0 0] 31)).alloc (.cells #[.int .i64 0] 3)
theorem x8_l4 (w : World) (o : Obj) (at' : Int) : L4 (x8 w o at') w.heap.size (w.heap.size + 1) (w.heap.size + 2) (w.heap.size + 3) o at' (.slice none 0 0) 0 (x8 w o at') :=
  ⟨blk_old (blk_old (blk_old (blk_alloc_new _ _))), blk_old (blk_old (by have := blk_alloc_new (w.alloc o) (.cells #[.int .i64 at'] 3); simpa using this)),
   blk_old (by have := blk_alloc_new ((w.alloc o).alloc (.cells #[.int .i64 at'] 3)) (.cells #[.slice none 0 0] 31); simpa using this),
   by have := blk_alloc_new (((w.alloc o).alloc (.cells #[.int .i64 at'] 3)).alloc (.cells #[.slice none 0 0] 31)) (.cells #[.int .i64 0] 3); simpa using this, Two.refl _ _ _⟩
theorem x8_below (w : World) (o : Obj) (at' : Int) : Below w.heap.size w (x8 w o at') := (((below_box w _).alloc (by simp) _).alloc (by simp; omega) _).alloc (by simp; omega) _
theorem L4.self {w X x : World} {Nd Na No Ne : Nat} {o : Obj} {at' : Int} {v : Value} {e : Int} (h : L4 w Nd Na No Ne o at' v e X) (g : Below X.heap.size X x) : L4 x Nd Na No Ne o at' v e x :=
  ⟨keep_blk g h.hd, keep_blk g h.ha, keep_blk g h.ho, keep_blk g h.he, Two.refl _ _ _⟩
set_option maxHeartbeats 1000000 in
set_option maxRecDepth 100000 in
theorem lay8_of {c b z s a k at' K : Int} {w : World} {R : Option Addr → Nat → Nat → Int → World → Prop}
    (h : Calls Try.prog 29 #[.func (.func 30) #[] #[at0 w.heap.size, at0 (w.heap.size + 1), at0 (w.heap.size + 2), at0 (w.heap.size + 3)]] (x8 w (.cells #[.int .i64 c, .int .i64 b, .int .i64 z, .int .i64 s, .int .i64 a, .int .i64 k] 25) at') fun e w2 => e = .returned (.int .i64 K) ∧ ∃ pv ln cv e2, w2.heap[w.heap.size + 2]? = some (.cells #[.slice pv ln cv] 31) ∧ w2.heap[w.heap.size + 3]? = some (.cells #[.int .i64 e2] 3) ∧ R pv ln cv e2 w2) :
    Calls Try.prog 8 #[.agg #[.int .i64 c, .int .i64 b, .int .i64 z, .int .i64 s, .int .i64 a, .int .i64 k], .int .i64 at'] w fun e w' => ∃ pv ln cv e2 w2, e = .returned (.tuple #[.slice pv ln cv, .int .i64 e2, .int .i64 K]) ∧ R pv ln cv e2 w2 ∧ Two (w.heap.size + 2) (w.heap.size + 3) w2 w' := by
  have hmf := makes
  obtain ⟨X, hX⟩ : ∃ X, x8 w (.cells #[.int .i64 c, .int .i64 b, .int .i64 z, .int .i64 s, .int .i64 a, .int .i64 k] 25) at' = X := ⟨_, rfl⟩
  rw [hX] at h
  have H := Lib.hid h
  clear h
  replace hX : (((w.alloc (.cells #[.int .i64 c, .int .i64 b, .int .i64 z, .int .i64 s, .int .i64 a, .int .i64 k] 25)).alloc (.cells #[.int .i64 at'] 3)).alloc (.cells #[.slice none 0 0] 31)).alloc (.cells #[.int .i64 0] 3) = X := hX
  go_enter Try.func8, Try.ntmps8
  go_upto_region 1 with fail
  try rw [hX]
  clear hX
  go_upto_region 2 with (go_at_call 29; (with_reducible refine H.out.mono ?_); rintro e w2 ⟨rfl, pv, ln, cv, e2, h1, h2, hr⟩; have H1 := Lib.hid h1; have H2 := Lib.hid h2; have HR := Lib.hid hr; clear h1 h2 hr)
  refine region_T (S := fun wx => wx.heap[w.heap.size + 2]? = some (.cells #[.slice pv ln cv] 31) ∧ wx.heap[w.heap.size + 3]? = some (.cells #[.int .i64 e2] 3)) [] (by kernel_rfl) ⟨H1.out, H2.out⟩ (fun _ => ?_)
  have hS0 : w2.drew.heap[w.heap.size + 2]? = some (.cells #[.slice pv ln cv] 31) ∧ w2.drew.heap[w.heap.size + 3]? = some (.cells #[.int .i64 e2] 3) := ⟨H1.out, H2.out⟩
  have t0 : Two (w.heap.size + 2) (w.heap.size + 3) w2 w2.drew := ⟨⟨rfl, rfl, rfl⟩, Nat.le_refl _, fun _ _ _ _ => rfl⟩
  obtain ⟨Y, hY⟩ : ∃ Y, w2.drew = Y := ⟨_, rfl⟩
  rw [hY] at hS0 t0 ⊢
  clear hY
  refine anyT_take (i := 0) (v := ?_) rfl (by kernel_rfl) (by kernel_rfl) (by kernel_rfl) (by kernel_rfl) (fun _ _ _ h => h) (Or.inl ⟨by rfl, ?_⟩) hS0 ?_
  rotate_left
  focus ((intro wq hSw; have c0 := cell1 hSw.1; have c1 := cell1 hSw.2; go_simp); try with_reducible rfl)
  try simp only [Act.put, List.getElem_toArray, List.getElem_cons_succ, List.getElem_cons_zero, List.setIfInBounds_toArray, List.set_cons_zero, List.set_cons_succ]
  refine anyT_take (i := 1) (v := ?_) rfl (by kernel_rfl) (by kernel_rfl) (by kernel_rfl) (by kernel_rfl) (fun _ _ _ h => h) (Or.inl ⟨by rfl, ?_⟩) hS0 ?_
  rotate_left
  focus ((intro wq hSw; have c0 := cell1 hSw.1; have c1 := cell1 hSw.2; go_simp); try with_reducible rfl)
  try simp only [Act.put, List.getElem_toArray, List.getElem_cons_succ, List.getElem_cons_zero, List.setIfInBounds_toArray, List.set_cons_zero, List.set_cons_succ]
  refine anyT_take (i := 2) (v := ?_) rfl (by kernel_rfl) (by kernel_rfl) (by kernel_rfl) (by kernel_rfl) (fun _ _ _ h => h) (Or.inl ⟨by rfl, ?_⟩) hS0 ?_
  rotate_left
  focus ((intro wq hSw; have c0 := cell1 hSw.1; have c1 := cell1 hSw.2; go_simp); try with_reducible rfl)
  try simp only [Act.put, List.getElem_toArray, List.getElem_cons_succ, List.getElem_cons_zero, List.setIfInBounds_toArray, List.set_cons_zero, List.set_cons_succ]
  have c0 := cell1 hS0.1
  have z0 := frozen_blk (off := 0) hS0.1
  have hS1 : (Y.setCell ⟨w.heap.size + 2, 0, none⟩ (.slice pv ln cv)).heap[w.heap.size + 2]? = some (.cells #[.slice pv ln cv] 31) ∧ (Y.setCell ⟨w.heap.size + 2, 0, none⟩ (.slice pv ln cv)).heap[w.heap.size + 3]? = some (.cells #[.int .i64 e2] 3) := ⟨blk_set hS0.1, (blk_setCell_other _ _ _ _ (by show w.heap.size + 3 ≠ w.heap.size + 2; omega)).trans hS0.2⟩
  refine anyT_one (i := 3) (by kernel_rfl) rfl (fun K hK => ?_)
  go_simp
  refine hK.out _ _ (fun _ => hS1) ?_
  clear hK K
  try simp only [Act.put, List.getElem_toArray, List.getElem_cons_succ, List.getElem_cons_zero, List.setIfInBounds_toArray, List.set_cons_zero, List.set_cons_succ]
  have t1 := t0.trans (Two.setA (w.heap.size + 2) (w.heap.size + 3) Y 0 (.slice pv ln cv))
  obtain ⟨Y1, hY1⟩ : ∃ Y1, Y.setCell ⟨w.heap.size + 2, 0, none⟩ (.slice pv ln cv) = Y1 := ⟨_, rfl⟩
  rw [hY1] at hS1 t1 ⊢
  clear hY1 hS0 c0 z0 t0
  have c1 := cell1 hS1.2
  have z1 := frozen_blk (off := 0) hS1.2
  have hS2 : (Y1.setCell ⟨w.heap.size + 3, 0, none⟩ (.int .i64 e2)).heap[w.heap.size + 2]? = some (.cells #[.slice pv ln cv] 31) ∧ (Y1.setCell ⟨w.heap.size + 3, 0, none⟩ (.int .i64 e2)).heap[w.heap.size + 3]? = some (.cells #[.int .i64 e2] 3) := ⟨(blk_setCell_other _ _ _ _ (by show w.heap.size + 2 ≠ w.heap.size + 3; omega)).trans hS1.1, blk_set hS1.2⟩
  refine anyT_one (i := 4) (by kernel_rfl) rfl (fun K hK => ?_)
  go_simp
  refine hK.out _ _ (fun _ => hS2) ?_
  clear hK K
  try simp only [Act.put, List.getElem_toArray, List.getElem_cons_succ, List.getElem_cons_zero, List.setIfInBounds_toArray, List.set_cons_zero, List.set_cons_succ]
  have t2 := t1.trans (Two.setB (w.heap.size + 2) (w.heap.size + 3) Y1 0 (.int .i64 e2))
  obtain ⟨Y2, hY2⟩ : ∃ Y2, Y1.setCell ⟨w.heap.size + 3, 0, none⟩ (.int .i64 e2) = Y2 := ⟨_, rfl⟩
  rw [hY2] at hS2 t2 ⊢
  clear hY2 hS1 c1 z1 t1
  refine anyT_one (i := 5) (by kernel_rfl) rfl (fun K hK => ?_)
  go_simp
  refine hK.out _ _ (fun _ => hS2) ?_
  clear hK K
  try simp only [Act.put, List.getElem_toArray, List.getElem_cons_succ, List.getElem_cons_zero, List.setIfInBounds_toArray, List.set_cons_zero, List.set_cons_succ]
  refine anyT_done (by kernel_rfl) ?_ _
  have c0 := cell1 hS2.1
  have c1 := cell1 hS2.2
  go_wp2_with fail
  refine bodyPost_ret (v := .tuple #[.slice pv ln cv, .int .i64 e2, .int .i64 K]) (by simp [results, Try.results8, go_sem, c0, c1]) rfl ?_
  exact ⟨pv, ln, cv, e2, w2, rfl, HR.out, t2⟩
end Go.Proofs.Ytinlcgcnjlifkaa
