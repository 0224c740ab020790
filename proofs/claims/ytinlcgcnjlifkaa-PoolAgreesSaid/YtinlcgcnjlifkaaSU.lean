/- Agree and Fits of the program, whole. -/
import Derived.Test.YtinlcgcnjlifkaaST
import Derived.Test.YtinlcgcnjlifkaaFE
import Derived.Test.YtinlcgcnjlifkaaSM
namespace Go.Proofs.Ytinlcgcnjlifkaa
open Go.RowKit Go.Shelf Go.Deep

theorem results_deal {fn : Func} {p u : Tmp} (h : fn.results = #[.cell p 25, .tmp u]) (tmps : Array Value) (w : World) (g : Nat) (cs : Array Value) (hp : tmps.getD p undef = .pointer (some ⟨g, 0, none⟩)) (hg : w.heap[g]? = some (.cells cs 25 (0, 0))) (hs : cs.size = 6) :
    (results fn tmps).run Try.prog w = .ok (.tuple #[.agg cs, tmps.getD u undef]) w := by
  have hp' : tmps[p]?.getD undef = .pointer (some ⟨g, 0, none⟩) := by simpa using hp
  rw [results_cell_tmp h]
  simp [hp', asAddr, run_loadVar_row w g 25 25 cs (0, 0) _ hg Try.underlying25 rfl (by rw [hs]; exact Try.size25), Result.andThen]
theorem blk_old {w : World} {o o' : Obj} {i : Nat} (h : w.heap[i]? = some o) : (w.alloc o').heap[i]? = some o := keep_blk (below_box _ _) h
set_option maxHeartbeats 2000000 in
set_option maxRecDepth 100000 in
theorem agree_any (a b : Wish) (p : Int) (w : World) : Calls Try.prog 4 #[a.v, b.v, .int .i64 p] w (DealAns (dlJ a b p 6) (agreeE a b p) w) := by
  have hmf := makes
  have he := enters_of Try.func15 (by kernel_rfl) rfl
  have g0 : ((((w.alloc (.cells a.c 23)).alloc (.cells b.c 23)).alloc (.cells #[.int .i64 p] 3)).alloc zDl.o25).heap[w.heap.size]? = some (.cells a.c 23) := blk_old (blk_old (blk_old (blk_alloc_new _ _)))
  have g1 : ((((w.alloc (.cells a.c 23)).alloc (.cells b.c 23)).alloc (.cells #[.int .i64 p] 3)).alloc zDl.o25).heap[w.heap.size + 1]? = some (.cells b.c 23) := blk_old (blk_old (by have := blk_alloc_new (w.alloc (.cells a.c 23)) (.cells b.c 23); simpa using this))
  have g2 : ((((w.alloc (.cells a.c 23)).alloc (.cells b.c 23)).alloc (.cells #[.int .i64 p] 3)).alloc zDl.o25).heap[w.heap.size + 2]? = some (.cells #[.int .i64 p] 3) := blk_old (by have := blk_alloc_new ((w.alloc (.cells a.c 23)).alloc (.cells b.c 23)) (.cells #[.int .i64 p] 3); simpa using this)
  have g3 : ((((w.alloc (.cells a.c 23)).alloc (.cells b.c 23)).alloc (.cells #[.int .i64 p] 3)).alloc zDl.o25).heap[w.heap.size + 3]? = some zDl.o25 := by have := blk_alloc_new (((w.alloc (.cells a.c 23)).alloc (.cells b.c 23)).alloc (.cells #[.int .i64 p] 3)) zDl.o25; simpa using this
  have gb : Below w.heap.size w ((((w.alloc (.cells a.c 23)).alloc (.cells b.c 23)).alloc (.cells #[.int .i64 p] 3)).alloc zDl.o25) := (((below_box w _).alloc (by simp) _).alloc (by simp; omega) _).alloc (by simp; omega) _
  obtain ⟨X, hX⟩ : ∃ X, (((w.alloc (.cells a.c 23)).alloc (.cells b.c 23)).alloc (.cells #[.int .i64 p] 3)).alloc zDl.o25 = X := ⟨_, rfl⟩
  rw [hX] at g0 g1 g2 g3 gb
  have h14 := fitted14_any (dlJ a b p 6) (agreeE a b p) 15 #[at0 w.heap.size, at0 (w.heap.size + 1), at0 (w.heap.size + 2)] X (he _) (fun y hy => agree15_any a b p _ _ _ y (keep_blk hy g0) (keep_blk hy g1) (keep_blk hy g2))
  unfold DealAns at h14 ⊢
  obtain ⟨D, hD⟩ : ∃ D, (if agreeE a b p = 0 then dlJ a b p 6 else zDl) = D := ⟨_, rfl⟩
  rw [hD] at h14 ⊢
  clear hD
  obtain ⟨k, hk⟩ : ∃ k, agreeE a b p = k := ⟨_, rfl⟩
  rw [hk] at h14 ⊢
  clear hk
  have H14 := Lib.hid h14
  have G3 := Lib.hid g3
  have GB := Lib.hid gb
  clear h14 g0 g1 g2 g3 gb he
  replace hX : (((w.alloc (.cells #[.int .i64 a.least, .int .i64 a.most, .int .i64 a.blocks, .int .i64 a.size, .int .i64 a.stride, .int .i64 a.align, .int .i64 a.kinds] 23)).alloc (.cells #[.int .i64 b.least, .int .i64 b.most, .int .i64 b.blocks, .int .i64 b.size, .int .i64 b.stride, .int .i64 b.align, .int .i64 b.kinds] 23)).alloc (.cells #[.int .i64 p] 3)).alloc (.cells #[.int .i64 0, .int .i64 0, .int .i64 0, .int .i64 0, .int .i64 0, .int .i64 0] 25) = X := hX
  go_enter Try.func4, Try.ntmps4
  go_upto_region 1 with fail
  try rw [hX]
  clear hX
  go_wp2_with (go_at_call 14; (with_reducible refine H14.out.mono ?_); rintro e w2 ⟨rfl, hb⟩; have G := Lib.hid (keep_blk hb G3.out); have HB : Hid (Below w.heap.size w w2) := Lib.hid (GB.out.trans (hb.mono GB.out.size)); clear hb; have m := cells6 G.out; obtain ⟨e0, e1, e2, e3, e4, e5⟩ := m; have z0 := frozen_blk (off := 0) G.out; have z1 := frozen_blk (off := 1) G.out; have z2 := frozen_blk (off := 2) G.out; have z3 := frozen_blk (off := 3) G.out; have z4 := frozen_blk (off := 4) G.out; have z5 := frozen_blk (off := 5) G.out)
  have hR6 : ((((((w2.setCell ⟨w.heap.size + 3, 0, none⟩ (.int .i64 D.c)).setCell ⟨w.heap.size + 3, 1, none⟩ (.int .i64 D.b)).setCell ⟨w.heap.size + 3, 2, none⟩ (.int .i64 D.z)).setCell ⟨w.heap.size + 3, 3, none⟩ (.int .i64 D.s)).setCell ⟨w.heap.size + 3, 4, none⟩ (.int .i64 D.a)).setCell ⟨w.heap.size + 3, 5, none⟩ (.int .i64 D.k)).heap[w.heap.size + 3]? = some D.o25 := blk_set (blk_set (blk_set (blk_set (blk_set (blk_set (G.out))))))
  refine bodyPost_ret (results_deal rfl _ _ (w.heap.size + 3) _ rfl hR6 rfl) rfl ?_
  exact ⟨rfl, Below.setCell (Below.setCell (Below.setCell (Below.setCell (Below.setCell (Below.setCell (HB.out) (by show w.heap.size ≤ w.heap.size + 3; omega) _) (by show w.heap.size ≤ w.heap.size + 3; omega) _) (by show w.heap.size ≤ w.heap.size + 3; omega) _) (by show w.heap.size ≤ w.heap.size + 3; omega) _) (by show w.heap.size ≤ w.heap.size + 3; omega) _) (by show w.heap.size ≤ w.heap.size + 3; omega) _⟩
set_option maxHeartbeats 2000000 in
set_option maxRecDepth 100000 in
theorem fits_any (c b z s a k : Int) (d : Wish) (w : World) : Calls Try.prog 6 #[.agg #[.int .i64 c, .int .i64 b, .int .i64 z, .int .i64 s, .int .i64 a, .int .i64 k], d.v] w (BothA (dealB c b z s a k && d.ok) (fitsB c b z s a k.toNat d) w) := by
  have hmf := makes
  have he := enters_of Try.func25 (by kernel_rfl) rfl
  have g0 : ((w.alloc (.cells #[.int .i64 c, .int .i64 b, .int .i64 z, .int .i64 s, .int .i64 a, .int .i64 k] 25)).alloc (.cells d.c 23)).heap[w.heap.size]? = some (.cells #[.int .i64 c, .int .i64 b, .int .i64 z, .int .i64 s, .int .i64 a, .int .i64 k] 25) := blk_old (blk_alloc_new _ _)
  have g1 : ((w.alloc (.cells #[.int .i64 c, .int .i64 b, .int .i64 z, .int .i64 s, .int .i64 a, .int .i64 k] 25)).alloc (.cells d.c 23)).heap[w.heap.size + 1]? = some (.cells d.c 23) := by have := blk_alloc_new (w.alloc (.cells #[.int .i64 c, .int .i64 b, .int .i64 z, .int .i64 s, .int .i64 a, .int .i64 k] 25)) (.cells d.c 23); simpa using this
  have gb : Below w.heap.size w ((w.alloc (.cells #[.int .i64 c, .int .i64 b, .int .i64 z, .int .i64 s, .int .i64 a, .int .i64 k] 25)).alloc (.cells d.c 23)) := (below_box w _).alloc (by simp) _
  obtain ⟨X, hX⟩ : ∃ X, (w.alloc (.cells #[.int .i64 c, .int .i64 b, .int .i64 z, .int .i64 s, .int .i64 a, .int .i64 k] 25)).alloc (.cells d.c 23) = X := ⟨_, rfl⟩
  rw [hX] at g0 g1 gb
  have h24 := fit24_below (u := .bool ((dealB c b z s a k && d.ok) && fitsB c b z s a k.toNat d)) (k := if dealB c b z s a k && d.ok then 0 else 1) 25 #[at0 w.heap.size, at0 (w.heap.size + 1)] X (fun h => by cases hv : (dealB c b z s a k && d.ok) <;> simp_all) (he _) (fun y hy => fits25_any c b z s a k d _ _ y (keep_blk hy g0) (keep_blk hy g1))
  have H24 := Lib.hid h24
  have GB := Lib.hid gb
  clear h24 g0 g1 gb he
  obtain ⟨v, hv⟩ : ∃ v, (dealB c b z s a k && d.ok) = v := ⟨_, rfl⟩
  obtain ⟨f, hf⟩ : ∃ f, fitsB c b z s a k.toNat d = f := ⟨_, rfl⟩
  rw [hv, hf] at H24 ⊢
  clear hv hf
  unfold BothA
  obtain ⟨kk, hkk⟩ : ∃ kk : Int, (if v = true then (0 : Int) else 1) = kk := ⟨_, rfl⟩
  obtain ⟨vf, hvf⟩ : ∃ vf, (v && f) = vf := ⟨_, rfl⟩
  rw [hkk, hvf] at H24 ⊢
  clear hkk hvf
  replace hX : (w.alloc (.cells #[.int .i64 c, .int .i64 b, .int .i64 z, .int .i64 s, .int .i64 a, .int .i64 k] 25)).alloc (.cells #[.int .i64 d.least, .int .i64 d.most, .int .i64 d.blocks, .int .i64 d.size, .int .i64 d.stride, .int .i64 d.align, .int .i64 d.kinds] 23) = X := hX
  go_enter Try.func6, Try.ntmps6
  go_upto_region 1 with fail
  try rw [hX]
  clear hX
  go_wp2_with (go_at_call 24; (with_reducible refine H24.out.mono ?_); rintro e w2 ⟨rfl, hb⟩; have HB : Hid (Below w.heap.size w w2) := Lib.hid (GB.out.trans (hb.mono GB.out.size)); clear hb)
  go_ret2
  exact ⟨rfl, HB.out⟩
end Go.Proofs.Ytinlcgcnjlifkaa
