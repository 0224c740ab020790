/- The deal that does for two wishes: the points, and the closure that settles them. -/
import Derived.Test.YtinlcgcnjlifkaaSR
import Derived.Test.YtinlcgcnjlifkaaFD
namespace Go.Proofs.Ytinlcgcnjlifkaa
open Go.RowKit Go.Shelf Go.Deep

theorem Try.underlying47 : Try.prog.underlying 47 = some (.array 6 46) := by kernel_rfl
theorem Try.size25 : (Try.prog.info? 25).map (·.size) = some 6 := by kernel_rfl
theorem Try.size47 : (Try.prog.info? 47).map (·.size) = some 12 := by kernel_rfl
def ptsC (P : Nat) : Array Value := #[.func (.func 38) #[] #[], .int .i64 10, .func (.func 39) #[] #[], .int .i64 10, .func (.func 40) #[] #[], .int .i64 10, .func (.func 41) #[] #[at0 P], .int .i64 11, .func (.func 43) #[] #[], .int .i64 4, .func (.func 44) #[] #[], .int .i64 4]
set_option maxRecDepth 100000 in
theorem points_any (p : Int) (w : World) : Calls Try.prog 19 #[.int .i64 p] w fun e w' => e = .returned (.agg (ptsC w.heap.size)) ∧ Below w.heap.size w w' ∧ w'.heap[w.heap.size]? = some (.cells #[.int .i64 p] 3) := by
  have hmf := makes
  go_enter Try.func19, Try.ntmps19
  go_wp2_with fail
  refine bodyPost_ret (results_cell_row (P := Try.prog) rfl _ _ (w.heap.size + 1) 47 (ptsC w.heap.size) (0, 0) _ rfl (by
    have := blk_alloc_new (w.alloc (.cells #[.int .i64 p] 3)) (.cells (ptsC w.heap.size) 47)
    simpa [ptsC] using this) Try.underlying47 rfl Try.size47) rfl ?_
  refine ⟨rfl, ((Below.refl _ w).alloc (Nat.le_refl _) _).alloc (by simp) _, ?_⟩
  rw [Below.heap_alloc _ _ _ (by simp)]
  exact blk_alloc_new _ _

/-- The deal, settled so far. -/
def dlJ (a b : Wish) (p : Int) : Nat → Dl
  | 0 => ⟨0, 0, 0, 0, 0, 0⟩
  | 1 => ⟨0, a.blocks, 0, 0, 0, 0⟩
  | 2 => ⟨0, a.blocks, 0, a.stride, 0, 0⟩
  | 3 => ⟨0, a.blocks, 0, a.stride, 0, (kindT a b).getD 0⟩
  | 4 => ⟨cntV a b p, a.blocks, 0, a.stride, 0, (kindT a b).getD 0⟩
  | 5 => ⟨cntV a b p, a.blocks, up (max a.size b.size) a.stride, a.stride, 0, (kindT a b).getD 0⟩
  | _ => ⟨cntV a b p, a.blocks, up (max a.size b.size) a.stride, a.stride, max a.align b.align, (kindT a b).getD 0⟩
def okJ (a b : Wish) (p : Int) : Nat → Bool
  | 0 => decide (a.blocks = b.blocks)
  | 1 => decide (a.stride = b.stride)
  | 2 => (kindT a b).isSome
  | 3 => cntOk a b p
  | 4 => decide (up (max a.size b.size) a.stride ≤ 65536)
  | _ => decide (endK 0 (up (max a.size b.size) a.stride) (max a.align b.align) ((cntV a b p).toNat * a.blocks.toNat) ≤ 1000000)
def agreeK (a b : Wish) (p : Int) : Int :=
  if okJ a b p 0 then if okJ a b p 1 then if okJ a b p 2 then if okJ a b p 3 then if okJ a b p 4 then if okJ a b p 5 then 0 else 4 else 4 else 11 else 10 else 10 else 10
def agreeE (a b : Wish) (p : Int) : Int := if a.ok then if b.ok then if inB p 0 64 then agreeK a b p else 7 else 1 else 1
theorem must_b (t : Bool) (k : Int) (w : World) : Calls Try.prog 17 #[.bool t, .int .i64 k] w fun e w' => e = (if t then .returned (.tuple #[]) else .panicked (misfit k)) ∧ w = w' := by
  cases t
  · exact must_no k w
  · exact must_yes k w
theorem Wish.ok_t {d : Wish} (h : d.ok = true) : (1 ≤ d.least ∧ d.least ≤ d.most ∧ d.most ≤ 64) ∧ (1 ≤ d.blocks ∧ d.blocks ≤ 8) ∧ (1 ≤ d.size ∧ d.size ≤ 65536) ∧ (1 ≤ d.stride ∧ d.stride ≤ 256) ∧ (1 ≤ d.align ∧ d.align ≤ 256) ∧ (1 ≤ d.kinds ∧ d.kinds ≤ 255) ∧ twoB d.align = true ∧ d.stride ≤ d.size := by
  simp only [Wish.ok, Bool.and_eq_true, decide_eq_true_eq] at h
  obtain ⟨h1, h2, h3, h4, h5⟩ := h
  have g1 := inB_t h1
  obtain ⟨s1, s2, s3, s4, s5⟩ := shapeB_t h3
  exact ⟨⟨g1.1, g1.2, h2⟩, s1, s2, s3, s4, inB_t h5, s5, h4⟩
theorem cntTo_mem {a : Int} {m : Nat} {y : Int} (h : y ∈ cntTo a m) : a ≤ y ∧ y < a + m := by
  obtain ⟨q, hq, rfl⟩ := List.mem_map.1 h
  have := List.mem_range.1 hq
  omega
theorem lcT_mem {f : Int} {xs ys : List Int} {y : Int} (h : lcT f xs ys = some y) : f ≤ y ∧ y ∈ xs ∧ y ∈ ys := by
  have h1 := List.find?_some h
  have h2 := List.mem_of_find?_eq_some h
  simp only [Bool.and_eq_true, decide_eq_true_eq] at h1
  exact ⟨h1.1, h2, by simpa using h1.2⟩
theorem cntV_bd {a b : Wish} {p : Int} (ha : a.ok = true) (hb : b.ok = true) (h : cntOk a b p = true) : max a.least b.least ≤ cntV a b p ∧ cntV a b p ≤ min a.most b.most := by
  have ga := Wish.ok_t ha
  have gb := Wish.ok_t hb
  unfold cntOk at h
  unfold cntV
  cases hm : cntB a b p with
  | some y =>
    obtain ⟨_, h1, h2⟩ := lcT_mem hm
    have := cntTo_mem h1
    have := cntTo_mem h2
    simp only
    omega
  | none =>
    rw [hm] at h
    simp only [decide_eq_true_eq] at h
    simp only
    omega
/-- What settles, point by point. -/
theorem point4 {a b : Wish} {p : Int} (ha : a.ok = true) (hb : b.ok = true) (Bd : Nat) (w : World) (h : w.heap[Bd]? = some (dlJ a b p 4).o) : Calls Try.prog 43 #[at0 Bd, a.v, b.v] w (SetA Bd (okJ a b p 4) (dlJ a b p 5) w) := by
  have ga := Wish.ok_t ha
  have gb := Wish.ok_t hb
  exact settle43_any Bd (dlJ a b p 4) a b (by omega) (by show 1 ≤ a.stride ∧ a.stride ≤ 65536; omega) w h
theorem point5 {a b : Wish} {p : Int} (ha : a.ok = true) (hb : b.ok = true) (h3 : okJ a b p 3 = true) (h4 : okJ a b p 4 = true) (Bd : Nat) (w : World) (h : w.heap[Bd]? = some (dlJ a b p 5).o) : Calls Try.prog 44 #[at0 Bd, a.v, b.v] w (SetA Bd (okJ a b p 5) (dlJ a b p 6) w) := by
  have ga := Wish.ok_t ha
  have gb := Wish.ok_t hb
  have gc := cntV_bd ha hb h3
  have gu := up_bd (n := max a.size b.size) (k := a.stride) (by omega) (by omega)
  have g4 : up (max a.size b.size) a.stride ≤ 65536 := by simpa [okJ] using h4
  exact settle44_any Bd (dlJ a b p 5) a b (by show 1 ≤ cntV a b p ∧ cntV a b p ≤ 64; omega) (by show 1 ≤ a.blocks ∧ a.blocks ≤ 8; omega) (by show 1 ≤ up (max a.size b.size) a.stride ∧ up (max a.size b.size) a.stride ≤ 65536; omega) (by omega) w h
/-- The closure's memory. -/
structure A4 (w : World) (N0 N1 N2 : Nat) (a b : Wish) (p : Int) (W : World) : Prop where
  h0 : W.heap[N0]? = some (.cells a.c 23)
  h1 : W.heap[N1]? = some (.cells b.c 23)
  h2 : W.heap[N2]? = some (.cells #[.int .i64 p] 3)
  hr : W.heap[w.heap.size]? = some (.cells #[.int .i64 0, .int .i64 0, .int .i64 0, .int .i64 0, .int .i64 0, .int .i64 0] 25)
  bel : Below w.heap.size w W
  lt : N0 < w.heap.size ∧ N1 < w.heap.size ∧ N2 < w.heap.size
theorem A4.below {w : World} {N0 N1 N2 : Nat} {a b : Wish} {p : Int} {W W' : World} (h : A4 w N0 N1 N2 a b p W) (g : Below W.heap.size W W') : A4 w N0 N1 N2 a b p W' :=
  ⟨keep_blk g h.h0, keep_blk g h.h1, keep_blk g h.h2, keep_blk g h.hr, h.bel.trans (g.mono h.bel.size), h.lt⟩
theorem A4.near {w : World} {N0 N1 N2 Bd : Nat} {a b : Wish} {p : Int} {W W' : World} (h : A4 w N0 N1 N2 a b p W) (g : Near Bd W W') (hB : w.heap.size < Bd) : A4 w N0 N1 N2 a b p W' := by
  have hs := h.bel.size
  have l := h.lt
  have hr := (Array.getElem?_eq_some_iff.1 h.hr).1
  refine ⟨(g.2.2 _ (by omega) (by omega)).trans h.h0, (g.2.2 _ (by omega) (by omega)).trans h.h1, (g.2.2 _ (by omega) (by omega)).trans h.h2, (g.2.2 _ (by omega) hr).trans h.hr, ?_, h.lt⟩
  exact ⟨g.1.1.trans h.bel.os, g.1.2.1.trans h.bel.tape, g.1.2.2.trans h.bel.output, Nat.le_trans hs g.2.1, fun k hk => (g.2.2 k (by omega) (by omega)).trans (h.bel.block k hk)⟩
theorem cell1 {w : World} {N t : Nat} {v : Value} (h : w.heap[N]? = some (.cells #[v] t)) : w.cell? ⟨N, 0, none⟩ = some v := by unfold World.cell?; rw [h]; rfl
theorem cells2 {w : World} {N t : Nat} {u v : Value} (h : w.heap[N]? = some (.cells #[u, v] t)) : w.cell? ⟨N, 0, none⟩ = some u ∧ w.cell? ⟨N, 1, none⟩ = some v := by
  refine ⟨?_, ?_⟩ <;> (unfold World.cell?; rw [h]; rfl)

end Go.Proofs.Ytinlcgcnjlifkaa
