/- What does not fit leaves by a panic that is recovered: the instances that give one cell. -/
import Derived.Test.YtinlcgcnjlifkaaFA
import Derived.Defers
import Derived.Recover
import Derived.Laws.Pointers
import Derived.Deep.Heap
import Derived.RangeFuncNested
namespace Go.Proofs.Ytinlcgcnjlifkaa
open Go.RowKit Go.Deep

/-- A closure's outcome: a value, or the panic of what does not fit. -/
def Out (z : Value) (Q : Value → Int → World → Prop) (e : Ending) (w : World) : Prop := (∃ u, e = .returned u ∧ Q u 0 w) ∨ (∃ k, e = .panicked (misfit k) ∧ Q z k w)
/-- A call's block is as it was. -/
def Keeps (n : Nat) (w w1 : World) : Prop := w1.heap[n]? = w.heap[n]? ∧ n < w1.heap.size
/-- All but one block is as it was. -/
def Near (n : Nat) (w1 w' : World) : Prop := (w'.os = w1.os ∧ w'.tape = w1.tape ∧ w'.output = w1.output) ∧ w1.heap.size ≤ w'.heap.size ∧ ∀ k, k ≠ n → k < w1.heap.size → w'.heap[k]? = w1.heap[k]?
theorem near_idle (w1 : World) (n : Nat) (v : Value) (o : Obj) : Near n w1 ((w1.setCell ⟨n, 0, none⟩ v).alloc o) :=
  ⟨⟨rfl, rfl, rfl⟩, by simp, fun k hk hlt => (Below.heap_alloc _ _ k (by simpa using hlt)).trans (blk_setCell_other _ _ _ _ hk)⟩
theorem near_pan (w1 : World) (n : Nat) (v : Value) (o : Obj) : Near n w1 ((w1.alloc o).setCell ⟨n, 0, none⟩ v) :=
  ⟨⟨rfl, rfl, rfl⟩, by simp, fun k hk hlt => (blk_setCell_other _ _ _ _ hk).trans (Below.heap_alloc _ _ k hlt)⟩
/-- What fitted gives. -/
def FitAns (Q : Value → Int → World → Prop) (w : World) (e : Ending) (w' : World) : Prop := ∃ u k w1, e = .returned (.tuple #[u, .int .i64 k]) ∧ Q u k w1 ∧ Keeps w.heap.size (w.alloc (.cells #[.int .i64 0] 26)) w1 ∧ Near w.heap.size w1 w'
theorem Same.trans {w w1 w2 : World} (h : Same w w1) (hs : w.heap.size ≤ w1.heap.size) (h2 : Same w1 w2) : Same w w2 := fun a ha => (h2 a (Nat.lt_of_lt_of_le ha hs)).trans (h a ha)

set_option maxRecDepth 100000 in
theorem catch45_pan (p : Addr) (x k : Int) (w : World) (hc : w.cell? p = some (.int .i64 x)) (hz : w.frozen? p = false) :
    CallsD Try.prog 45 #[.pointer (some p)] (.panicking (misfit k)) w fun e u' w' =>
      e = .returned (.tuple #[]) ∧ u' = .panicking [{ v := .iface 69 (.agg #[.int .i64 k]), recovered := true }] ∧ w' = (w.alloc (.cells #[.int .i64 k] 69)).setCell p (.int .i64 k) := by
  unfold misfit
  have hta : ∀ w : World, (Instr.typeAssert (.iface 69 (.agg #[.int .i64 k])) 20 69 true).run Try.prog w = .ok (.tuple #[.agg #[.int .i64 k], .bool true]) w := fun _ => by kernel_rfl
  have hlt := cell_lt hc
  have hc2 := (Same.alloc w (.cells #[.int .i64 k] 69)).cell hc
  have hz2 : (w.alloc (.cells #[.int .i64 k] 69)).frozen? p = false := (World.frozen?_of_block (w := w) (Below.heap_alloc w _ p.block hlt)).trans hz
  refine callsD_of_wpS Try.func45 rfl fun c₀ cs hu => ?_
  apply wpS_seq
  apply wpS_region
  simp [wpOpsS, go_sem, recoverD, hu, Try.ntmps45, Exit.thenS, hta]
  apply wpS_seq
  apply wpS_region
  simp [wpOpsS, go_sem, Exit.thenS]
  refine wpS_cond (t := true) (by simp [Act.eval, Array.replicate]) ?_
  simp only [if_true]
  apply wpS_region
  simp [wpOpsS, go_sem, hc2, hz2, bodyPostS, results, Try.results45, Array.replicate]
set_option maxRecDepth 100000 in
theorem catch45_idle (p : Addr) (w : World) :
    CallsD Try.prog 45 #[.pointer (some p)] .returning w fun e u' w' =>
      e = .returned (.tuple #[]) ∧ u' = .returning ∧ w' = w.alloc (.cells #[.int .i64 0] 69) := by
  have hta : ∀ w : World, (Instr.typeAssert .nilIface 20 69 true).run Try.prog w = .ok (.tuple #[.agg #[.int .i64 0], .bool false]) w := fun _ => by kernel_rfl
  refine callsD_of_wpS Try.func45 rfl fun c₀ cs hu => ?_
  apply wpS_seq
  apply wpS_region
  simp [wpOpsS, go_sem, recoverD, hu, Try.ntmps45, Exit.thenS, hta]
  apply wpS_seq
  apply wpS_region
  simp [wpOpsS, go_sem, Exit.thenS]
  refine wpS_cond (t := false) (by simp [Act.eval, Array.replicate]) ?_
  simp only [Bool.false_eq_true, if_false]
  refine wpS_of_wp (wp_skip ?_)
  cases c₀
  simp_all [bodyPostS, results, Try.results45]

set_option maxHeartbeats 1000000 in
set_option maxRecDepth 100000 in
theorem fitted24_any (f : FuncId) (caps : Array Value) (w : World) (Q : Value → Int → World → Prop)
    (hcf : ∀ w : World, (callFunc f caps).run Try.prog w = .ok (.enter f caps) w)
    (hc : Calls Try.prog f caps (w.alloc (.cells #[.int .i64 0] 26)) fun e w1 => Keeps w.heap.size (w.alloc (.cells #[.int .i64 0] 26)) w1 ∧ Out (.bool false) Q e w1) :
    Calls Try.prog 24 #[.func (.func f) #[] caps] w (FitAns Q w) := by
  have hmf : ∀ (fn : Fn) (first cap : Array Value) (w : World), (Instr.makeFunc fn first cap).run Try.prog w = .ok (.func fn first cap) w := fun _ _ _ _ => rfl
  go_enter_defers Try.func24, Try.ntmps24
  go_wp2_with fail
  refine hc.mono ?_
  rintro e w1 ⟨hk, ⟨u, rfl, hu⟩ | ⟨k, rfl, hu⟩⟩
  · have k1 : w1.cell? ⟨w.heap.size, 0, none⟩ = some (.int .i64 0) := by rw [World.cell?_of_block (a := ⟨w.heap.size, 0, none⟩) hk.1]; simp [go_sem]
    have k2 : w1.frozen? ⟨w.heap.size, 0, none⟩ = false := by rw [World.frozen?_of_block (a := ⟨w.heap.size, 0, none⟩) hk.1]; simp [go_sem]
    have HK := Lib.hid hk
    have HU := Lib.hid hu
    clear hk hu hc
    go_wp2_with fail
    refine leaves_cons (f := 45) (args := #[.pointer (some ⟨w.heap.size, 0, none⟩)]) (by simp) (by simp [go_sem]) ?_
    refine (catch45_idle ⟨w.heap.size, 0, none⟩ _).mono ?_
    rintro e u' w'' ⟨rfl, rfl, rfl⟩
    have k3 : ((w1.setCell ⟨w.heap.size, 0, none⟩ (.int .i64 0)).alloc (.cells #[.int .i64 0] 69)).cell? ⟨w.heap.size, 0, none⟩ = some (.int .i64 0) :=
      (Same.alloc _ _).cell (World.cell?_setCell_same _ _ _ k1)
    have hn := near_idle w1 w.heap.size (.int .i64 0) (.cells #[.int .i64 0] 69)
    simp [Leaves, settle, results, Try.results24, go_sem, k3]
    exact ⟨_, _, w1, rfl, HU.out, HK.out, hn⟩
  · have k1 : w1.cell? ⟨w.heap.size, 0, none⟩ = some (.int .i64 0) := by rw [World.cell?_of_block (a := ⟨w.heap.size, 0, none⟩) hk.1]; simp [go_sem]
    have k2 : w1.frozen? ⟨w.heap.size, 0, none⟩ = false := by rw [World.frozen?_of_block (a := ⟨w.heap.size, 0, none⟩) hk.1]; simp [go_sem]
    have HK := Lib.hid hk
    have HU := Lib.hid hu
    clear hk hu hc
    go_wp2_with fail
    refine leaves_cons (f := 45) (args := #[.pointer (some ⟨w.heap.size, 0, none⟩)]) (by simp) (by simp [go_sem]) ?_
    refine (catch45_pan ⟨w.heap.size, 0, none⟩ 0 k _ k1 k2).mono ?_
    rintro e u' w'' ⟨rfl, rfl, rfl⟩
    have k3 : ((w1.alloc (.cells #[.int .i64 k] 69)).setCell ⟨w.heap.size, 0, none⟩ (.int .i64 k)).cell? ⟨w.heap.size, 0, none⟩ = some (.int .i64 k) :=
      World.cell?_setCell_same _ _ _ ((Same.alloc _ _).cell k1)
    have hn := near_pan w1 w.heap.size (.int .i64 k) (.cells #[.int .i64 k] 69)
    simp [Leaves, settle, results, Try.results24, go_sem, k3]
    exact ⟨_, _, w1, rfl, HU.out, HK.out, hn⟩

end Go.Proofs.Ytinlcgcnjlifkaa
