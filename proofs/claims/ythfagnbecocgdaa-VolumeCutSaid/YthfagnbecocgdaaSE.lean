/- done: what a call that may write one old block gives. -/
import Derived.Test.YthfagnbecocgdaaSD
namespace Go.Proofs.Ythfagnbecocgdaa
open Go.RowKit Go.Shelf Go.Deep

set_option maxRecDepth 100000 in
theorem catch123_pan (p : Addr) (x k : Int) (w : World) (hc : w.cell? p = some (.int .i64 x)) (hz : w.frozen? p = false) :
    CallsD Try.prog 123 #[.pointer (some p)] (.panicking (misfit k)) w fun e u' w' =>
      e = .returned (.tuple #[]) ∧ u' = .panicking [{ v := .iface 118 (.agg #[.int .i64 k]), recovered := true }] ∧ w' = (w.alloc (.cells #[.int .i64 k] 118)).setCell p (.int .i64 k) := by
  unfold misfit
  have hta : ∀ w : World, (Instr.typeAssert (.iface 118 (.agg #[.int .i64 k])) 20 118 true).run Try.prog w = .ok (.tuple #[.agg #[.int .i64 k], .bool true]) w := fun _ => by kernel_rfl
  have hlt := cell_lt hc
  have hc2 := (Same.alloc w (.cells #[.int .i64 k] 118)).cell hc
  have hz2 : (w.alloc (.cells #[.int .i64 k] 118)).frozen? p = false := (World.frozen?_of_block (w := w) (Below.heap_alloc w _ p.block hlt)).trans hz
  refine callsD_of_wpS Try.func123 rfl fun c₀ cs hu => ?_
  apply wpS_seq
  apply wpS_region
  simp [wpOpsS, go_sem, recoverD, hu, Try.ntmps123, Exit.thenS, hta]
  apply wpS_seq
  apply wpS_region
  simp [wpOpsS, go_sem, Exit.thenS]
  refine wpS_cond (t := true) (by simp [Act.eval, Array.replicate]) ?_
  simp only [if_true]
  apply wpS_region
  simp [wpOpsS, go_sem, hc2, hz2, bodyPostS, results, Try.results123, Array.replicate]
set_option maxRecDepth 100000 in
theorem catch123_idle (p : Addr) (w : World) :
    CallsD Try.prog 123 #[.pointer (some p)] .returning w fun e u' w' =>
      e = .returned (.tuple #[]) ∧ u' = .returning ∧ w' = w.alloc (.cells #[.int .i64 0] 118) := by
  have hta : ∀ w : World, (Instr.typeAssert .nilIface 20 118 true).run Try.prog w = .ok (.tuple #[.agg #[.int .i64 0], .bool false]) w := fun _ => by kernel_rfl
  refine callsD_of_wpS Try.func123 rfl fun c₀ cs hu => ?_
  apply wpS_seq
  apply wpS_region
  simp [wpOpsS, go_sem, recoverD, hu, Try.ntmps123, Exit.thenS, hta]
  apply wpS_seq
  apply wpS_region
  simp [wpOpsS, go_sem, Exit.thenS]
  refine wpS_cond (t := false) (by simp [Act.eval, Array.replicate]) ?_
  simp only [Bool.false_eq_true, if_false]
  refine wpS_of_wp (wp_skip ?_)
  cases c₀
  simp_all [bodyPostS, results, Try.results123]


theorem Try.underlying125 : Try.prog.underlying 125 = some (.struct #[]) := by kernel_rfl
theorem Try.size125 : (Try.prog.info? 125).map (·.size) = some 0 := by kernel_rfl
set_option maxHeartbeats 1000000 in
set_option maxRecDepth 100000 in
theorem fitted109_gb (f : FuncId) (caps : Array Value) (w : World) (R : Nat) (hR : R < w.heap.size) (Φ : World → Prop) (hΦ : ∀ w1 w2, (∀ k, k < w.heap.size → w2.heap[k]? = w1.heap[k]?) → Φ w1 → Φ w2)
    (hcf : ∀ w : World, (callFunc f caps).run Try.prog w = .ok (.enter f caps) w)
    (hc : Calls Try.prog f caps ((w.alloc (.cells #[] 125)).alloc (.cells #[.int .i64 0] 26)) fun e w' => e = .returned (.agg #[]) ∧ Φ w' ∧ ((w.alloc (.cells #[] 125)).alloc (.cells #[.int .i64 0] 26)).grownBy w' (some R)) :
    Calls Try.prog 109 #[.func (.func f) #[] caps] w fun e w' => e = .returned (.tuple #[.agg #[], .int .i64 0]) ∧ Φ w' ∧ w.grownBy w' (some R) := by
  have hmf : ∀ (fn : Fn) (first cap : Array Value) (w : World), (Instr.makeFunc fn first cap).run Try.prog w = .ok (.func fn first cap) w := fun _ _ _ _ => rfl
  go_enter_defers Try.func109, Try.ntmps109
  go_wp2_with fail

  refine hc.mono ?_
  rintro e w1 ⟨rfl, hu, hb⟩
  have hsz : w.heap.size + 2 ≤ w1.heap.size := by have := hb.size; simp at this; omega
  have hblk : w1.heap[w.heap.size + 1]? = ((w.alloc (.cells #[] 125)).alloc (.cells #[.int .i64 0] 26)).heap[w.heap.size + 1]? := hb.block _ (by simp) (fun e => by cases e; omega)
  have hblk0 : w1.heap[w.heap.size]? = ((w.alloc (.cells #[] 125)).alloc (.cells #[.int .i64 0] 26)).heap[w.heap.size]? := hb.block _ (by simp; omega) (fun e => by cases e; omega)
  have k1 : w1.cell? ⟨w.heap.size + 1, 0, none⟩ = some (.int .i64 0) := by rw [World.cell?_of_block (a := ⟨w.heap.size + 1, 0, none⟩) hblk]; simp [go_sem]
  have k2 : w1.frozen? ⟨w.heap.size + 1, 0, none⟩ = false := by rw [World.frozen?_of_block (a := ⟨w.heap.size + 1, 0, none⟩) hblk]; simp [go_sem]
  have HB := Lib.hid hb
  have HU := Lib.hid hu
  clear hb hu hc hblk
  go_wp2_with fail

  refine leaves_cons (f := 123) (args := #[.pointer (some ⟨w.heap.size + 1, 0, none⟩)]) (by simp) (by simp [go_sem]) ?_
  refine (catch123_idle ⟨w.heap.size + 1, 0, none⟩ _).mono ?_
  rintro e u' w'' ⟨rfl, rfl, rfl⟩
  have k3 : ((w1.setCell ⟨w.heap.size + 1, 0, none⟩ (.int .i64 0)).alloc (.cells #[.int .i64 0] 118)).cell? ⟨w.heap.size + 1, 0, none⟩ = some (.int .i64 0) :=
    (Same.alloc _ _).cell (World.cell?_setCell_same _ _ _ k1)
  have hs : ∀ k, k < w.heap.size → ((w1.setCell ⟨w.heap.size + 1, 0, none⟩ (.int .i64 0)).alloc (.cells #[.int .i64 0] 118)).heap[k]? = w1.heap[k]? := fun k hk =>
    (Below.heap_alloc _ _ k (by simp; omega)).trans (blk_setCell_other _ _ _ _ (by simp; omega))
  have hkp : w.grownBy ((w1.setCell ⟨w.heap.size + 1, 0, none⟩ (.int .i64 0)).alloc (.cells #[.int .i64 0] 118)) (some R) :=
    ⟨HB.out.os, HB.out.tape, HB.out.output, by simp; omega, fun k hk hne => (hs k hk).trans ((HB.out.block k (by simp; omega) hne).trans ((Below.heap_alloc _ _ k (by simp; omega)).trans (Below.heap_alloc _ _ k hk)))⟩
  have hfin := hΦ _ _ hs HU.out
  simp [Leaves, settle, results, Try.results109, go_sem, k3]

  exact ⟨hfin, hkp⟩

set_option maxHeartbeats 1000000 in
set_option maxRecDepth 100000 in
theorem fitted109_no (f : FuncId) (caps : Array Value) (k : Int) (w : World)
    (hcf : ∀ w : World, (callFunc f caps).run Try.prog w = .ok (.enter f caps) w)
    (hc : Calls Try.prog f caps ((w.alloc (.cells #[] 125)).alloc (.cells #[.int .i64 0] 26)) (LeavesX k ((w.alloc (.cells #[] 125)).alloc (.cells #[.int .i64 0] 26)))) :
    Calls Try.prog 109 #[.func (.func f) #[] caps] w fun e w' => e = .returned (.tuple #[.agg #[], .int .i64 k]) ∧ Below w.heap.size w w' := by
  have hmf : ∀ (fn : Fn) (first cap : Array Value) (w : World), (Instr.makeFunc fn first cap).run Try.prog w = .ok (.func fn first cap) w := fun _ _ _ _ => rfl
  go_enter_defers Try.func109, Try.ntmps109
  go_wp2_with fail
  refine hc.mono ?_
  rintro e w1 ⟨rfl, hb⟩
  have hsz : w.heap.size + 2 ≤ w1.heap.size := by have := hb.size; simp at this; omega
  have k1 : w1.cell? ⟨w.heap.size + 1, 0, none⟩ = some (.int .i64 0) := by rw [hb.cell (by simp)]; simp [go_sem]
  have k2 : w1.frozen? ⟨w.heap.size + 1, 0, none⟩ = false := by rw [hb.frozen (by simp)]; simp [go_sem]
  have hblk0 : w1.heap[w.heap.size]? = ((w.alloc (.cells #[] 125)).alloc (.cells #[.int .i64 0] 26)).heap[w.heap.size]? := hb.block _ (by simp; omega)
  have HB := Lib.hid hb
  clear hb hc
  go_wp2_with fail
  refine leaves_cons (f := 123) (args := #[.pointer (some ⟨w.heap.size + 1, 0, none⟩)]) (by simp) (by simp [go_sem]) ?_
  refine (catch123_pan ⟨w.heap.size + 1, 0, none⟩ 0 k _ k1 k2).mono ?_
  rintro e u' w'' ⟨rfl, rfl, rfl⟩
  have k3 : ((w1.alloc (.cells #[.int .i64 k] 118)).setCell ⟨w.heap.size + 1, 0, none⟩ (.int .i64 k)).cell? ⟨w.heap.size + 1, 0, none⟩ = some (.int .i64 k) :=
    World.cell?_setCell_same _ _ _ ((Same.alloc _ _).cell k1)
  have hbel : Below w.heap.size w ((w1.alloc (.cells #[.int .i64 k] 118)).setCell ⟨w.heap.size + 1, 0, none⟩ (.int .i64 k)) :=
    (((((Below.refl _ w).alloc (Nat.le_refl _) _).alloc (by simp) _).trans (HB.out.mono (by simp <;> omega))).alloc (by omega) _).setCell (by simp) _
  simp [Leaves, settle, results, Try.results109, go_sem, k3]
  exact hbel

set_option maxRecDepth 100000 in
theorem done110_yes (f : FuncId) (caps : Array Value) (N R : Nat) (w : World) (hR : R < w.heap.size) (hN : w.cell? ⟨N, 0, none⟩ = some (.func (.func f) #[] caps)) (Φ : World → Prop)
    (hcf : ∀ w : World, (callFunc f caps).run Try.prog w = .ok (.enter f caps) w)
    (hc : Calls Try.prog f caps (w.alloc (.cells #[] 125)) fun e w' => e = .returned (.tuple #[]) ∧ Φ w' ∧ (w.alloc (.cells #[] 125)).grownBy w' (some R)) :
    Calls Try.prog 110 #[at0 N] w fun e w' => e = .returned (.agg #[]) ∧ Φ w' ∧ w.grownBy w' (some R) := by
  have hN2 := (Same.alloc w (.cells #[] 125)).cell hN
  go_enter Try.func110, Try.ntmps110
  go_wp2_with fail
  refine hc.mono ?_
  rintro e w1 ⟨rfl, hu, hb⟩
  have hblk0 : w1.heap[w.heap.size]? = (w.alloc (.cells #[] 125)).heap[w.heap.size]? := hb.block _ (by simp) (fun e => by cases e; omega)
  have hgb : w.grownBy w1 (some R) := gb_trans (gb_below ((Below.refl _ w).alloc (Nat.le_refl _) _)) hb
  have HU := Lib.hid (And.intro hu hgb)
  clear hu hb hgb hc
  have q1 : w1.heap[w.heap.size]? = some (.cells #[] 125) := by rw [hblk0]; exact blk_alloc_new _ _
  clear hblk0
  go_wp2_with fail
  refine bodyPost_ret (results_cell_row (P := Try.prog) rfl _ _ w.heap.size 125 _ (0, 0) _ rfl q1 Try.underlying125 rfl Try.size125) rfl ?_
  exact ⟨rfl, HU.out⟩
set_option maxRecDepth 100000 in
theorem done110_no (f : FuncId) (caps : Array Value) (N : Nat) (k : Int) (w : World) (hN : w.cell? ⟨N, 0, none⟩ = some (.func (.func f) #[] caps))
    (hcf : ∀ w : World, (callFunc f caps).run Try.prog w = .ok (.enter f caps) w)
    (hc : Calls Try.prog f caps (w.alloc (.cells #[] 125)) (LeavesX k (w.alloc (.cells #[] 125)))) :
    Calls Try.prog 110 #[at0 N] w (LeavesX k w) := by
  have hN2 := (Same.alloc w (.cells #[] 125)).cell hN
  go_enter Try.func110, Try.ntmps110
  go_wp2_with fail
  refine hc.mono ?_
  rintro e w1 ⟨rfl, hb⟩
  have hgb : Below w.heap.size w w1 := ((Below.refl _ w).alloc (Nat.le_refl _) _).trans (hb.mono (by simp))
  have HU := Lib.hid hgb
  clear hb hgb hc
  go_wp2_with fail
  exact ⟨rfl, rfl, HU.out⟩
end Go.Proofs.Ythfagnbecocgdaa
