/- What does not fit, where the answer is a struct of nothing. -/
import Derived.Test.YtinlcgcnjlifkaaFB
namespace Go.Proofs.Ytinlcgcnjlifkaa
open Go.RowKit Go.Deep

set_option maxRecDepth 100000 in
theorem catch54_pan (p : Addr) (x k : Int) (w : World) (hc : w.cell? p = some (.int .i64 x)) (hz : w.frozen? p = false) :
    CallsD Try.prog 54 #[.pointer (some p)] (.panicking (misfit k)) w fun e u' w' =>
      e = .returned (.tuple #[]) ∧ u' = .panicking [{ v := .iface 69 (.agg #[.int .i64 k]), recovered := true }] ∧ w' = (w.alloc (.cells #[.int .i64 k] 69)).setCell p (.int .i64 k) := by
  unfold misfit
  have hta : ∀ w : World, (Instr.typeAssert (.iface 69 (.agg #[.int .i64 k])) 20 69 true).run Try.prog w = .ok (.tuple #[.agg #[.int .i64 k], .bool true]) w := fun _ => by kernel_rfl
  have hlt := cell_lt hc
  have hc2 := (Same.alloc w (.cells #[.int .i64 k] 69)).cell hc
  have hz2 : (w.alloc (.cells #[.int .i64 k] 69)).frozen? p = false := (World.frozen?_of_block (w := w) (Below.heap_alloc w _ p.block hlt)).trans hz
  refine callsD_of_wpS Try.func54 rfl fun c₀ cs hu => ?_
  apply wpS_seq
  apply wpS_region
  simp [wpOpsS, go_sem, recoverD, hu, Try.ntmps54, Exit.thenS, hta]
  apply wpS_seq
  apply wpS_region
  simp [wpOpsS, go_sem, Exit.thenS]
  refine wpS_cond (t := true) (by simp [Act.eval, Array.replicate]) ?_
  simp only [if_true]
  apply wpS_region
  simp [wpOpsS, go_sem, hc2, hz2, bodyPostS, results, Try.results54, Array.replicate]
set_option maxRecDepth 100000 in
theorem catch54_idle (p : Addr) (w : World) :
    CallsD Try.prog 54 #[.pointer (some p)] .returning w fun e u' w' =>
      e = .returned (.tuple #[]) ∧ u' = .returning ∧ w' = w.alloc (.cells #[.int .i64 0] 69) := by
  have hta : ∀ w : World, (Instr.typeAssert .nilIface 20 69 true).run Try.prog w = .ok (.tuple #[.agg #[.int .i64 0], .bool false]) w := fun _ => by kernel_rfl
  refine callsD_of_wpS Try.func54 rfl fun c₀ cs hu => ?_
  apply wpS_seq
  apply wpS_region
  simp [wpOpsS, go_sem, recoverD, hu, Try.ntmps54, Exit.thenS, hta]
  apply wpS_seq
  apply wpS_region
  simp [wpOpsS, go_sem, Exit.thenS]
  refine wpS_cond (t := false) (by simp [Act.eval, Array.replicate]) ?_
  simp only [Bool.false_eq_true, if_false]
  refine wpS_of_wp (wp_skip ?_)
  cases c₀
  simp_all [bodyPostS, results, Try.results54]


theorem Try.underlying73 : Try.prog.underlying 73 = some (.struct #[]) := by kernel_rfl
theorem Try.size73 : (Try.prog.info? 73).map (·.size) = some 0 := by kernel_rfl
/-- What done's inner call gives. -/
def DoneAns (Q : Int → World → Prop) (w : World) (e : Ending) (w' : World) : Prop := ∃ k w1, e = .returned (.tuple #[.agg #[], .int .i64 k]) ∧ Q k w1 ∧ Near (w.heap.size + 1) w1 w'
set_option maxHeartbeats 1000000 in
set_option maxRecDepth 100000 in
theorem fitted48_any (f : FuncId) (caps : Array Value) (w : World) (Q : Int → World → Prop)
    (hcf : ∀ w : World, (callFunc f caps).run Try.prog w = .ok (.enter f caps) w)
    (hc : Calls Try.prog f caps ((w.alloc (.cells #[] 73)).alloc (.cells #[.int .i64 0] 26)) fun e w1 => ((w1.heap[w.heap.size]? = some (.cells #[] 73) ∧ w1.heap[w.heap.size + 1]? = some (.cells #[.int .i64 0] 26)) ∧ w.heap.size + 2 ≤ w1.heap.size) ∧ Out (.agg #[]) (fun v k x => v = .agg #[] ∧ Q k x) e w1) :
    Calls Try.prog 48 #[.func (.func f) #[] caps] w (DoneAns Q w) := by
  have hmf : ∀ (fn : Fn) (first cap : Array Value) (w : World), (Instr.makeFunc fn first cap).run Try.prog w = .ok (.func fn first cap) w := fun _ _ _ _ => rfl
  go_enter_defers Try.func48, Try.ntmps48
  go_wp2_with fail
  refine hc.mono ?_
  rintro e w1 ⟨⟨⟨hblk0, hblk⟩, hsz⟩, ⟨u, rfl, rfl, hu⟩ | ⟨k, rfl, _, hu⟩⟩
  · have k1 : w1.cell? ⟨w.heap.size + 1, 0, none⟩ = some (.int .i64 0) := by simp [World.cell?, hblk]
    have k2 : w1.frozen? ⟨w.heap.size + 1, 0, none⟩ = false := by simp [World.frozen?, hblk]
    have HU := Lib.hid hu
    clear hu hc hblk
    go_wp2_with fail
    refine leaves_cons (f := 54) (args := #[.pointer (some ⟨w.heap.size + 1, 0, none⟩)]) (by simp) (by simp [go_sem]) ?_
    refine (catch54_idle ⟨w.heap.size + 1, 0, none⟩ _).mono ?_
    rintro e u' w'' ⟨rfl, rfl, rfl⟩
    have k3 : ((w1.setCell ⟨w.heap.size + 1, 0, none⟩ (.int .i64 0)).alloc (.cells #[.int .i64 0] 69)).cell? ⟨w.heap.size + 1, 0, none⟩ = some (.int .i64 0) :=
      (Same.alloc _ _).cell (World.cell?_setCell_same _ _ _ k1)
    have hn := near_idle w1 (w.heap.size + 1) (.int .i64 0) (.cells #[.int .i64 0] 69)
    simp [Leaves, settle, results, Try.results48, go_sem, k3]
    exact ⟨_, w1, rfl, HU.out, hn⟩
  · have k1 : w1.cell? ⟨w.heap.size + 1, 0, none⟩ = some (.int .i64 0) := by simp [World.cell?, hblk]
    have k2 : w1.frozen? ⟨w.heap.size + 1, 0, none⟩ = false := by simp [World.frozen?, hblk]
    have HU := Lib.hid hu
    clear hu hc hblk
    go_wp2_with fail
    refine leaves_cons (f := 54) (args := #[.pointer (some ⟨w.heap.size + 1, 0, none⟩)]) (by simp) (by simp [go_sem]) ?_
    refine (catch54_pan ⟨w.heap.size + 1, 0, none⟩ 0 k _ k1 k2).mono ?_
    rintro e u' w'' ⟨rfl, rfl, rfl⟩
    have k3 : ((w1.alloc (.cells #[.int .i64 k] 69)).setCell ⟨w.heap.size + 1, 0, none⟩ (.int .i64 k)).cell? ⟨w.heap.size + 1, 0, none⟩ = some (.int .i64 k) :=
      World.cell?_setCell_same _ _ _ ((Same.alloc _ _).cell k1)
    have hn := near_pan w1 (w.heap.size + 1) (.int .i64 k) (.cells #[.int .i64 k] 69)
    simp [Leaves, settle, results, Try.results48, go_sem, k3]
    exact ⟨_, w1, rfl, HU.out, hn⟩
end Go.Proofs.Ytinlcgcnjlifkaa
