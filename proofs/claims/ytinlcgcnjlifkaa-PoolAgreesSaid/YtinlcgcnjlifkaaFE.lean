/- What does not fit, where the answer is a deal. -/
import Derived.Test.YtinlcgcnjlifkaaFD
import Derived.Test.YtinlcgcnjlifkaaSS
namespace Go.Proofs.Ytinlcgcnjlifkaa
open Go.RowKit Go.Shelf Go.Deep

set_option maxRecDepth 100000 in
theorem catch37_pan (p : Addr) (x k : Int) (w : World) (hc : w.cell? p = some (.int .i64 x)) (hz : w.frozen? p = false) :
    CallsD Try.prog 37 #[.pointer (some p)] (.panicking (misfit k)) w fun e u' w' =>
      e = .returned (.tuple #[]) ∧ u' = .panicking [{ v := .iface 69 (.agg #[.int .i64 k]), recovered := true }] ∧ w' = (w.alloc (.cells #[.int .i64 k] 69)).setCell p (.int .i64 k) := by
  unfold misfit
  have hta : ∀ w : World, (Instr.typeAssert (.iface 69 (.agg #[.int .i64 k])) 20 69 true).run Try.prog w = .ok (.tuple #[.agg #[.int .i64 k], .bool true]) w := fun _ => by kernel_rfl
  have hlt := cell_lt hc
  have hc2 := (Same.alloc w (.cells #[.int .i64 k] 69)).cell hc
  have hz2 : (w.alloc (.cells #[.int .i64 k] 69)).frozen? p = false := (World.frozen?_of_block (w := w) (Below.heap_alloc w _ p.block hlt)).trans hz
  refine callsD_of_wpS Try.func37 rfl fun c₀ cs hu => ?_
  apply wpS_seq
  apply wpS_region
  simp [wpOpsS, go_sem, recoverD, hu, Try.ntmps37, Exit.thenS, hta]
  apply wpS_seq
  apply wpS_region
  simp [wpOpsS, go_sem, Exit.thenS]
  refine wpS_cond (t := true) (by simp [Act.eval, Array.replicate]) ?_
  simp only [if_true]
  apply wpS_region
  simp [wpOpsS, go_sem, hc2, hz2, bodyPostS, results, Try.results37, Array.replicate]
set_option maxRecDepth 100000 in
theorem catch37_idle (p : Addr) (w : World) :
    CallsD Try.prog 37 #[.pointer (some p)] .returning w fun e u' w' =>
      e = .returned (.tuple #[]) ∧ u' = .returning ∧ w' = w.alloc (.cells #[.int .i64 0] 69) := by
  have hta : ∀ w : World, (Instr.typeAssert .nilIface 20 69 true).run Try.prog w = .ok (.tuple #[.agg #[.int .i64 0], .bool false]) w := fun _ => by kernel_rfl
  refine callsD_of_wpS Try.func37 rfl fun c₀ cs hu => ?_
  apply wpS_seq
  apply wpS_region
  simp [wpOpsS, go_sem, recoverD, hu, Try.ntmps37, Exit.thenS, hta]
  apply wpS_seq
  apply wpS_region
  simp [wpOpsS, go_sem, Exit.thenS]
  refine wpS_cond (t := false) (by simp [Act.eval, Array.replicate]) ?_
  simp only [Bool.false_eq_true, if_false]
  refine wpS_of_wp (wp_skip ?_)
  cases c₀
  simp_all [bodyPostS, results, Try.results37]
abbrev zDl : Dl := ⟨0, 0, 0, 0, 0, 0⟩
abbrev Dl.o25 (x : Dl) : Obj := .cells #[.int .i64 x.c, .int .i64 x.b, .int .i64 x.z, .int .i64 x.s, .int .i64 x.a, .int .i64 x.k] 25
/-- What fitted gives of a deal. -/
def DealAns (x : Dl) (k : Int) (w : World) (e : Ending) (w' : World) : Prop := e = .returned (.tuple #[(if k = 0 then x else zDl).v, .int .i64 k]) ∧ Below w.heap.size w w'
set_option maxHeartbeats 2000000 in
set_option maxRecDepth 100000 in
theorem fitted14_any (x : Dl) (k : Int) (f : FuncId) (caps : Array Value) (w : World)
    (hcf : ∀ w : World, (callFunc f caps).run Try.prog w = .ok (.enter f caps) w)
    (hc : ∀ y, Below w.heap.size w y → Calls Try.prog f caps y (ClosB x.v k y)) :
    Calls Try.prog 14 #[.func (.func f) #[] caps] w (DealAns x k w) := by
  have hmf : ∀ (fn : Fn) (first cap : Array Value) (w : World), (Instr.makeFunc fn first cap).run Try.prog w = .ok (.func fn first cap) w := fun _ _ _ _ => rfl
  obtain ⟨Z, hZ⟩ : ∃ Z, (w.alloc (.cells #[.int .i64 0, .int .i64 0, .int .i64 0, .int .i64 0, .int .i64 0, .int .i64 0] 25)).alloc (.cells #[.int .i64 0] 26) = Z := ⟨_, rfl⟩
  have hbz : Below w.heap.size w Z := by rw [← hZ]; exact ((Below.refl _ w).alloc (Nat.le_refl _) _).alloc (by simp) _
  have h0 : Z.heap[w.heap.size]? = some (zDl.o25) := by
    rw [← hZ, Below.heap_alloc _ _ _ (by simp)]
    exact blk_alloc_new _ _
  have h1 : Z.heap[w.heap.size + 1]? = some (.cells #[.int .i64 0] 26) := by
    rw [← hZ]
    have := blk_alloc_new (w.alloc (.cells #[.int .i64 0, .int .i64 0, .int .i64 0, .int .i64 0, .int .i64 0, .int .i64 0] 25)) (.cells #[.int .i64 0] 26)
    simpa using this
  have HC := Lib.hid (hc Z hbz)
  have HBZ := Lib.hid hbz
  have H0 := Lib.hid h0
  have H1 := Lib.hid h1
  clear hc hbz h0 h1
  go_enter_defers Try.func14, Try.ntmps14
  go_wp2_with fail
  try rw [hZ]
  refine HC.out.mono ?_
  rintro e w1 ⟨rfl, hb⟩
  have G0 := Lib.hid (keep_blk hb H0.out)
  have G1 := Lib.hid (keep_blk hb H1.out)
  have HB1 : Hid (Below w.heap.size w w1) := Lib.hid (HBZ.out.trans (hb.mono HBZ.out.size))
  clear hb HC
  have hne : (⟨w.heap.size + 1, 0, none⟩ : Addr).block ≠ w.heap.size := by show w.heap.size + 1 ≠ w.heap.size; omega
  by_cases hk : k = 0
  · subst hk
    rw [endOf_yes]
    obtain ⟨e0, e1, e2, e3, e4, e5⟩ := cells6 G0.out
    have c1 := cell1 G1.out
    have z0 := frozen_blk (off := 0) G0.out
    have z1 := frozen_blk (off := 1) G0.out
    have z2 := frozen_blk (off := 2) G0.out
    have z3 := frozen_blk (off := 3) G0.out
    have z4 := frozen_blk (off := 4) G0.out
    have z5 := frozen_blk (off := 5) G0.out
    have zf := frozen_blk (off := 0) G1.out
    have g0 : ((((((w1.setCell ⟨w.heap.size, 0, none⟩ (.int .i64 x.c)).setCell ⟨w.heap.size, 1, none⟩ (.int .i64 x.b)).setCell ⟨w.heap.size, 2, none⟩ (.int .i64 x.z)).setCell ⟨w.heap.size, 3, none⟩ (.int .i64 x.s)).setCell ⟨w.heap.size, 4, none⟩ (.int .i64 x.a)).setCell ⟨w.heap.size, 5, none⟩ (.int .i64 x.k)).heap[w.heap.size]? = some x.o25 := blk_set (blk_set (blk_set (blk_set (blk_set (blk_set (G0.out))))))
    have g1 : ((((((w1.setCell ⟨w.heap.size, 0, none⟩ (.int .i64 x.c)).setCell ⟨w.heap.size, 1, none⟩ (.int .i64 x.b)).setCell ⟨w.heap.size, 2, none⟩ (.int .i64 x.z)).setCell ⟨w.heap.size, 3, none⟩ (.int .i64 x.s)).setCell ⟨w.heap.size, 4, none⟩ (.int .i64 x.a)).setCell ⟨w.heap.size, 5, none⟩ (.int .i64 x.k)).heap[w.heap.size + 1]? = some (.cells #[.int .i64 0] 26) := by
      repeat rw [blk_setCell_other _ _ _ _ (by show w.heap.size + 1 ≠ w.heap.size; omega)]
      exact G1.out
    have gb : Below w.heap.size w ((((((w1.setCell ⟨w.heap.size, 0, none⟩ (.int .i64 x.c)).setCell ⟨w.heap.size, 1, none⟩ (.int .i64 x.b)).setCell ⟨w.heap.size, 2, none⟩ (.int .i64 x.z)).setCell ⟨w.heap.size, 3, none⟩ (.int .i64 x.s)).setCell ⟨w.heap.size, 4, none⟩ (.int .i64 x.a)).setCell ⟨w.heap.size, 5, none⟩ (.int .i64 x.k)) := Below.setCell (Below.setCell (Below.setCell (Below.setCell (Below.setCell (Below.setCell (HB1.out) (Nat.le_refl _) _) (Nat.le_refl _) _) (Nat.le_refl _) _) (Nat.le_refl _) _) (Nat.le_refl _) _) (Nat.le_refl _) _
    go_wp2_with fail
    obtain ⟨Y, hY⟩ : ∃ Y, ((((((w1.setCell ⟨w.heap.size, 0, none⟩ (.int .i64 x.c)).setCell ⟨w.heap.size, 1, none⟩ (.int .i64 x.b)).setCell ⟨w.heap.size, 2, none⟩ (.int .i64 x.z)).setCell ⟨w.heap.size, 3, none⟩ (.int .i64 x.s)).setCell ⟨w.heap.size, 4, none⟩ (.int .i64 x.a)).setCell ⟨w.heap.size, 5, none⟩ (.int .i64 x.k)) = Y := ⟨_, rfl⟩
    rw [hY] at g0 g1 gb ⊢
    clear hY e0 e1 e2 e3 e4 e5 c1 z0 z1 z2 z3 z4 z5 zf
    have g2 : (Y.setCell ⟨w.heap.size + 1, 0, none⟩ (.int .i64 0)).heap[w.heap.size]? = some x.o25 := (blk_setCell_other _ _ _ _ (by show w.heap.size ≠ w.heap.size + 1; omega)).trans g0
    have g3 : (Y.setCell ⟨w.heap.size + 1, 0, none⟩ (.int .i64 0)).heap[w.heap.size + 1]? = some (.cells #[.int .i64 0] 26) := blk_set g1
    have gb2 : Below w.heap.size w (Y.setCell ⟨w.heap.size + 1, 0, none⟩ (.int .i64 0)) := Below.setCell gb (by show w.heap.size ≤ w.heap.size + 1; omega) _
    refine leaves_cons (f := 37) (args := #[.pointer (some ⟨w.heap.size + 1, 0, none⟩)]) (by simp) (by simp [go_sem]) ?_
    refine (catch37_idle ⟨w.heap.size + 1, 0, none⟩ _).mono ?_
    rintro e u' w'' ⟨rfl, rfl, rfl⟩
    obtain ⟨y0, y1, y2, y3, y4, y5⟩ := cells6 (keep_blk (below_box _ (.cells #[.int .i64 0] 69)) g2)
    have y6 := cell1 (keep_blk (below_box _ (.cells #[.int .i64 0] 69)) g3)
    simp [Leaves, settle, results, Try.results14, go_sem, y0, y1, y2, y3, y4, y5, y6]
    exact ⟨by simp, gb2.alloc gb2.size _⟩
  · have c1 := cell1 G1.out
    have zf := frozen_blk (off := 0) G1.out
    have HK := Lib.hid hk
    rw [endOf_no _ hk]
    clear hk
    go_wp2_with fail
    refine leaves_cons (f := 37) (args := #[.pointer (some ⟨w.heap.size + 1, 0, none⟩)]) (by simp) (by simp [go_sem]) ?_
    refine (catch37_pan ⟨w.heap.size + 1, 0, none⟩ 0 k _ c1 zf).mono ?_
    rintro e u' w'' ⟨rfl, rfl, rfl⟩
    have g2 : ((w1.alloc (.cells #[.int .i64 k] 69)).setCell ⟨w.heap.size + 1, 0, none⟩ (.int .i64 k)).heap[w.heap.size]? = some zDl.o25 := (blk_setCell_other _ _ _ _ (by show w.heap.size ≠ w.heap.size + 1; omega)).trans (keep_blk (below_box _ _) G0.out)
    have g3 : ((w1.alloc (.cells #[.int .i64 k] 69)).setCell ⟨w.heap.size + 1, 0, none⟩ (.int .i64 k)).heap[w.heap.size + 1]? = some (.cells #[.int .i64 k] 26) := blk_set (keep_blk (below_box _ _) G1.out)
    obtain ⟨y0, y1, y2, y3, y4, y5⟩ := cells6 g2
    have y6 := cell1 g3
    simp [Leaves, settle, results, Try.results14, go_sem, y0, y1, y2, y3, y4, y5, y6]
    exact ⟨by rw [if_neg HK.out], Below.setCell (HB1.out.alloc HB1.out.size _) (by show w.heap.size ≤ w.heap.size + 1; omega) _⟩
end Go.Proofs.Ytinlcgcnjlifkaa
