/- What does not fit leaves by a panic that is recovered: the five instances. -/
import Derived.Test.YtegomicpolnpoaaSA
import Derived.Defers
import Derived.Recover
import Derived.Laws.Pointers
namespace Go.Proofs.Ytegomicpolnpoaa
open Go.RowKit

/-- What a builder gives, that fits: a list of rows of which Φ holds. -/
def Gives (Φ : Value → World → Prop) (w : World) (e : Ending) (w' : World) : Prop := ∃ u, e = .returned u ∧ Φ u w' ∧ Below w.heap.size w w'
def GivesOk (Φ : Value → World → Prop) (k : Int) (w : World) (e : Ending) (w' : World) : Prop := ∃ u, e = .returned (.tuple #[u, .int .i64 k]) ∧ Φ u w' ∧ Below w.heap.size w w'

theorem Same.trans {w w1 w2 : World} (h : Same w w1) (hs : w.heap.size ≤ w1.heap.size) (h2 : Same w1 w2) : Same w w2 := fun a ha => (h2 a (Nat.lt_of_lt_of_le ha hs)).trans (h a ha)
/-- A store of what lies there already. -/
theorem Same.again {w : World} {p : Addr} {v : Value} (h : w.cell? p = some v) : Same w (w.setCell p v) := fun a _ => by
  by_cases e : p = a
  · subst e; rw [World.cell?_setCell_same _ _ _ h, h]
  · rw [World.cell?_setCell_other _ _ _ _ e]

set_option maxRecDepth 100000 in
theorem catch102_pan (p : Addr) (x k : Int) (w : World) (hc : w.cell? p = some (.int .i64 x)) (hz : w.frozen? p = false) :
    CallsD Try.prog 102 #[.pointer (some p)] (.panicking (misfit k)) w fun e u' w' =>
      e = .returned (.tuple #[]) ∧ u' = .panicking [{ v := .iface 116 (.agg #[.int .i64 k]), recovered := true }] ∧ w' = (w.alloc (.cells #[.int .i64 k] 116)).setCell p (.int .i64 k) := by
  unfold misfit
  have hta : ∀ w : World, (Instr.typeAssert (.iface 116 (.agg #[.int .i64 k])) 20 116 true).run Try.prog w = .ok (.tuple #[.agg #[.int .i64 k], .bool true]) w := fun _ => by kernel_rfl
  have hlt := cell_lt hc
  have hc2 := (Same.alloc w (.cells #[.int .i64 k] 116)).cell hc
  have hz2 : (w.alloc (.cells #[.int .i64 k] 116)).frozen? p = false := (World.frozen?_of_block (w := w) (Below.heap_alloc w _ p.block hlt)).trans hz
  refine callsD_of_wpS Try.func102 rfl fun c₀ cs hu => ?_
  apply wpS_seq
  apply wpS_region
  simp [wpOpsS, go_sem, recoverD, hu, Try.ntmps102, Exit.thenS, hta]
  apply wpS_seq
  apply wpS_region
  simp [wpOpsS, go_sem, Exit.thenS]
  refine wpS_cond (t := true) (by simp [Act.eval, Array.replicate]) ?_
  simp only [if_true]
  apply wpS_region
  simp [wpOpsS, go_sem, hc2, hz2, bodyPostS, results, Try.results102, Array.replicate]
set_option maxRecDepth 100000 in
theorem catch102_idle (p : Addr) (w : World) :
    CallsD Try.prog 102 #[.pointer (some p)] .returning w fun e u' w' =>
      e = .returned (.tuple #[]) ∧ u' = .returning ∧ w' = w.alloc (.cells #[.int .i64 0] 116) := by
  have hta : ∀ w : World, (Instr.typeAssert .nilIface 20 116 true).run Try.prog w = .ok (.tuple #[.agg #[.int .i64 0], .bool false]) w := fun _ => by kernel_rfl
  refine callsD_of_wpS Try.func102 rfl fun c₀ cs hu => ?_
  apply wpS_seq
  apply wpS_region
  simp [wpOpsS, go_sem, recoverD, hu, Try.ntmps102, Exit.thenS, hta]
  apply wpS_seq
  apply wpS_region
  simp [wpOpsS, go_sem, Exit.thenS]
  refine wpS_cond (t := false) (by simp [Act.eval, Array.replicate]) ?_
  simp only [Bool.false_eq_true, if_false]
  refine wpS_of_wp (wp_skip ?_)
  cases c₀
  simp_all [bodyPostS, results, Try.results102]

set_option maxHeartbeats 1000000 in
set_option maxRecDepth 100000 in
theorem fitted49_ok (f : FuncId) (caps : Array Value) (w : World) (Φ : Value → World → Prop) (hΦ : ∀ u w1 w2, Same w1 w2 → Φ u w1 → Φ u w2)
    (hcf : ∀ w : World, (callFunc f caps).run Try.prog w = .ok (.enter f caps) w)
    (hc : Calls Try.prog f caps (w.alloc (.cells #[.int .i64 0] 22)) (Gives Φ (w.alloc (.cells #[.int .i64 0] 22)))) :
    Calls Try.prog 49 #[.func (.func f) #[] caps] w (GivesOk Φ 0 w) := by
  have hmf : ∀ (fn : Fn) (first cap : Array Value) (w : World), (Instr.makeFunc fn first cap).run Try.prog w = .ok (.func fn first cap) w := fun _ _ _ _ => rfl
  go_enter_defers Try.func49, Try.ntmps49
  go_wp2_with fail
  refine hc.mono ?_
  rintro e w1 ⟨u, rfl, hu, hb⟩
  have hlt : w.heap.size < w1.heap.size := by have := hb.size; simp at this; omega
  have k1 : w1.cell? ⟨w.heap.size, 0, none⟩ = some (.int .i64 0) := by rw [hb.cell (by simp)]; simp [go_sem]
  have k2 : w1.frozen? ⟨w.heap.size, 0, none⟩ = false := by rw [hb.frozen (by simp)]; simp [go_sem]
  have HB := Lib.hid hb
  have HU := Lib.hid hu
  clear hb hu hc
  go_wp2_with fail
  refine leaves_cons (f := 102) (args := #[.pointer (some ⟨w.heap.size, 0, none⟩)]) (by simp) (by simp [go_sem]) ?_
  refine (catch102_idle ⟨w.heap.size, 0, none⟩ _).mono ?_
  rintro e u' w'' ⟨rfl, rfl, rfl⟩
  have k3 : ((w1.setCell ⟨w.heap.size, 0, none⟩ (.int .i64 0)).alloc (.cells #[.int .i64 0] 116)).cell? ⟨w.heap.size, 0, none⟩ = some (.int .i64 0) :=
    (Same.alloc _ _).cell (World.cell?_setCell_same _ _ _ k1)
  have hs : Same w1 ((w1.setCell ⟨w.heap.size, 0, none⟩ (.int .i64 0)).alloc (.cells #[.int .i64 0] 116)) := (Same.again k1).trans (by simp) (Same.alloc _ _)
  have hbel : Below w.heap.size w ((w1.setCell ⟨w.heap.size, 0, none⟩ (.int .i64 0)).alloc (.cells #[.int .i64 0] 116)) :=
    ((((Below.refl _ w).alloc (Nat.le_refl _) _).trans (HB.out.mono (by simp))).setCell (Nat.le_refl _) _).alloc (by simp; omega) _
  have hfin := hΦ _ _ _ hs HU.out
  simp [Leaves, settle, results, Try.results49, go_sem, k3]
  exact ⟨u, rfl, hfin, hbel⟩

set_option maxHeartbeats 1000000 in
set_option maxRecDepth 100000 in
theorem fitted49_no (f : FuncId) (caps : Array Value) (k : Int) (w : World)
    (hcf : ∀ w : World, (callFunc f caps).run Try.prog w = .ok (.enter f caps) w)
    (hc : Calls Try.prog f caps (w.alloc (.cells #[.int .i64 0] 22)) (LeavesX k (w.alloc (.cells #[.int .i64 0] 22)))) :
    Calls Try.prog 49 #[.func (.func f) #[] caps] w fun e w' => e = .returned (.tuple #[.int .i64 0, .int .i64 k]) ∧ Below w.heap.size w w' := by
  have hmf : ∀ (fn : Fn) (first cap : Array Value) (w : World), (Instr.makeFunc fn first cap).run Try.prog w = .ok (.func fn first cap) w := fun _ _ _ _ => rfl
  go_enter_defers Try.func49, Try.ntmps49
  go_wp2_with fail
  refine hc.mono ?_
  rintro e w1 ⟨rfl, hb⟩
  have hlt : w.heap.size < w1.heap.size := by have := hb.size; simp at this; omega
  have k1 : w1.cell? ⟨w.heap.size, 0, none⟩ = some (.int .i64 0) := by rw [hb.cell (by simp)]; simp [go_sem]
  have k2 : w1.frozen? ⟨w.heap.size, 0, none⟩ = false := by rw [hb.frozen (by simp)]; simp [go_sem]
  have HB := Lib.hid hb
  clear hb hc
  go_wp2_with fail
  refine leaves_cons (f := 102) (args := #[.pointer (some ⟨w.heap.size, 0, none⟩)]) (by simp) (by simp [go_sem]) ?_
  refine (catch102_pan ⟨w.heap.size, 0, none⟩ 0 k _ k1 k2).mono ?_
  rintro e u' w'' ⟨rfl, rfl, rfl⟩
  have k3 : ((w1.alloc (.cells #[.int .i64 k] 116)).setCell ⟨w.heap.size, 0, none⟩ (.int .i64 k)).cell? ⟨w.heap.size, 0, none⟩ = some (.int .i64 k) :=
    World.cell?_setCell_same _ _ _ ((Same.alloc _ _).cell k1)
  have hbel : Below w.heap.size w ((w1.alloc (.cells #[.int .i64 k] 116)).setCell ⟨w.heap.size, 0, none⟩ (.int .i64 k)) :=
    ((((Below.refl _ w).alloc (Nat.le_refl _) _).trans (HB.out.mono (by simp))).alloc (by omega) _).setCell (Nat.le_refl _) _
  simp [Leaves, settle, results, Try.results49, go_sem, k3]
  exact hbel
set_option maxRecDepth 100000 in
theorem catch105_pan (p : Addr) (x k : Int) (w : World) (hc : w.cell? p = some (.int .i64 x)) (hz : w.frozen? p = false) :
    CallsD Try.prog 105 #[.pointer (some p)] (.panicking (misfit k)) w fun e u' w' =>
      e = .returned (.tuple #[]) ∧ u' = .panicking [{ v := .iface 116 (.agg #[.int .i64 k]), recovered := true }] ∧ w' = (w.alloc (.cells #[.int .i64 k] 116)).setCell p (.int .i64 k) := by
  unfold misfit
  have hta : ∀ w : World, (Instr.typeAssert (.iface 116 (.agg #[.int .i64 k])) 20 116 true).run Try.prog w = .ok (.tuple #[.agg #[.int .i64 k], .bool true]) w := fun _ => by kernel_rfl
  have hlt := cell_lt hc
  have hc2 := (Same.alloc w (.cells #[.int .i64 k] 116)).cell hc
  have hz2 : (w.alloc (.cells #[.int .i64 k] 116)).frozen? p = false := (World.frozen?_of_block (w := w) (Below.heap_alloc w _ p.block hlt)).trans hz
  refine callsD_of_wpS Try.func105 rfl fun c₀ cs hu => ?_
  apply wpS_seq
  apply wpS_region
  simp [wpOpsS, go_sem, recoverD, hu, Try.ntmps105, Exit.thenS, hta]
  apply wpS_seq
  apply wpS_region
  simp [wpOpsS, go_sem, Exit.thenS]
  refine wpS_cond (t := true) (by simp [Act.eval, Array.replicate]) ?_
  simp only [if_true]
  apply wpS_region
  simp [wpOpsS, go_sem, hc2, hz2, bodyPostS, results, Try.results105, Array.replicate]
set_option maxRecDepth 100000 in
theorem catch105_idle (p : Addr) (w : World) :
    CallsD Try.prog 105 #[.pointer (some p)] .returning w fun e u' w' =>
      e = .returned (.tuple #[]) ∧ u' = .returning ∧ w' = w.alloc (.cells #[.int .i64 0] 116) := by
  have hta : ∀ w : World, (Instr.typeAssert .nilIface 20 116 true).run Try.prog w = .ok (.tuple #[.agg #[.int .i64 0], .bool false]) w := fun _ => by kernel_rfl
  refine callsD_of_wpS Try.func105 rfl fun c₀ cs hu => ?_
  apply wpS_seq
  apply wpS_region
  simp [wpOpsS, go_sem, recoverD, hu, Try.ntmps105, Exit.thenS, hta]
  apply wpS_seq
  apply wpS_region
  simp [wpOpsS, go_sem, Exit.thenS]
  refine wpS_cond (t := false) (by simp [Act.eval, Array.replicate]) ?_
  simp only [Bool.false_eq_true, if_false]
  refine wpS_of_wp (wp_skip ?_)
  cases c₀
  simp_all [bodyPostS, results, Try.results105]

set_option maxHeartbeats 1000000 in
set_option maxRecDepth 100000 in
theorem fitted66_ok (f : FuncId) (caps : Array Value) (w : World) (Φ : Value → World → Prop) (hΦ : ∀ u w1 w2, Same w1 w2 → Φ u w1 → Φ u w2)
    (hcf : ∀ w : World, (callFunc f caps).run Try.prog w = .ok (.enter f caps) w)
    (hc : Calls Try.prog f caps (w.alloc (.cells #[.int .i64 0] 22)) (Gives Φ (w.alloc (.cells #[.int .i64 0] 22)))) :
    Calls Try.prog 66 #[.func (.func f) #[] caps] w (GivesOk Φ 0 w) := by
  have hmf : ∀ (fn : Fn) (first cap : Array Value) (w : World), (Instr.makeFunc fn first cap).run Try.prog w = .ok (.func fn first cap) w := fun _ _ _ _ => rfl
  go_enter_defers Try.func66, Try.ntmps66
  go_wp2_with fail
  refine hc.mono ?_
  rintro e w1 ⟨u, rfl, hu, hb⟩
  have hlt : w.heap.size < w1.heap.size := by have := hb.size; simp at this; omega
  have k1 : w1.cell? ⟨w.heap.size, 0, none⟩ = some (.int .i64 0) := by rw [hb.cell (by simp)]; simp [go_sem]
  have k2 : w1.frozen? ⟨w.heap.size, 0, none⟩ = false := by rw [hb.frozen (by simp)]; simp [go_sem]
  have HB := Lib.hid hb
  have HU := Lib.hid hu
  clear hb hu hc
  go_wp2_with fail
  refine leaves_cons (f := 105) (args := #[.pointer (some ⟨w.heap.size, 0, none⟩)]) (by simp) (by simp [go_sem]) ?_
  refine (catch105_idle ⟨w.heap.size, 0, none⟩ _).mono ?_
  rintro e u' w'' ⟨rfl, rfl, rfl⟩
  have k3 : ((w1.setCell ⟨w.heap.size, 0, none⟩ (.int .i64 0)).alloc (.cells #[.int .i64 0] 116)).cell? ⟨w.heap.size, 0, none⟩ = some (.int .i64 0) :=
    (Same.alloc _ _).cell (World.cell?_setCell_same _ _ _ k1)
  have hs : Same w1 ((w1.setCell ⟨w.heap.size, 0, none⟩ (.int .i64 0)).alloc (.cells #[.int .i64 0] 116)) := (Same.again k1).trans (by simp) (Same.alloc _ _)
  have hbel : Below w.heap.size w ((w1.setCell ⟨w.heap.size, 0, none⟩ (.int .i64 0)).alloc (.cells #[.int .i64 0] 116)) :=
    ((((Below.refl _ w).alloc (Nat.le_refl _) _).trans (HB.out.mono (by simp))).setCell (Nat.le_refl _) _).alloc (by simp; omega) _
  have hfin := hΦ _ _ _ hs HU.out
  simp [Leaves, settle, results, Try.results66, go_sem, k3]
  exact ⟨u, rfl, hfin, hbel⟩

set_option maxHeartbeats 1000000 in
set_option maxRecDepth 100000 in
theorem fitted66_no (f : FuncId) (caps : Array Value) (k : Int) (w : World)
    (hcf : ∀ w : World, (callFunc f caps).run Try.prog w = .ok (.enter f caps) w)
    (hc : Calls Try.prog f caps (w.alloc (.cells #[.int .i64 0] 22)) (LeavesX k (w.alloc (.cells #[.int .i64 0] 22)))) :
    Calls Try.prog 66 #[.func (.func f) #[] caps] w fun e w' => e = .returned (.tuple #[.string ⟨#[]⟩, .int .i64 k]) ∧ Below w.heap.size w w' := by
  have hmf : ∀ (fn : Fn) (first cap : Array Value) (w : World), (Instr.makeFunc fn first cap).run Try.prog w = .ok (.func fn first cap) w := fun _ _ _ _ => rfl
  go_enter_defers Try.func66, Try.ntmps66
  go_wp2_with fail
  refine hc.mono ?_
  rintro e w1 ⟨rfl, hb⟩
  have hlt : w.heap.size < w1.heap.size := by have := hb.size; simp at this; omega
  have k1 : w1.cell? ⟨w.heap.size, 0, none⟩ = some (.int .i64 0) := by rw [hb.cell (by simp)]; simp [go_sem]
  have k2 : w1.frozen? ⟨w.heap.size, 0, none⟩ = false := by rw [hb.frozen (by simp)]; simp [go_sem]
  have HB := Lib.hid hb
  clear hb hc
  go_wp2_with fail
  refine leaves_cons (f := 105) (args := #[.pointer (some ⟨w.heap.size, 0, none⟩)]) (by simp) (by simp [go_sem]) ?_
  refine (catch105_pan ⟨w.heap.size, 0, none⟩ 0 k _ k1 k2).mono ?_
  rintro e u' w'' ⟨rfl, rfl, rfl⟩
  have k3 : ((w1.alloc (.cells #[.int .i64 k] 116)).setCell ⟨w.heap.size, 0, none⟩ (.int .i64 k)).cell? ⟨w.heap.size, 0, none⟩ = some (.int .i64 k) :=
    World.cell?_setCell_same _ _ _ ((Same.alloc _ _).cell k1)
  have hbel : Below w.heap.size w ((w1.alloc (.cells #[.int .i64 k] 116)).setCell ⟨w.heap.size, 0, none⟩ (.int .i64 k)) :=
    ((((Below.refl _ w).alloc (Nat.le_refl _) _).trans (HB.out.mono (by simp))).alloc (by omega) _).setCell (Nat.le_refl _) _
  simp [Leaves, settle, results, Try.results66, go_sem, k3]
  exact hbel
set_option maxRecDepth 100000 in
theorem catch114_pan (p : Addr) (x k : Int) (w : World) (hc : w.cell? p = some (.int .i64 x)) (hz : w.frozen? p = false) :
    CallsD Try.prog 114 #[.pointer (some p)] (.panicking (misfit k)) w fun e u' w' =>
      e = .returned (.tuple #[]) ∧ u' = .panicking [{ v := .iface 116 (.agg #[.int .i64 k]), recovered := true }] ∧ w' = (w.alloc (.cells #[.int .i64 k] 116)).setCell p (.int .i64 k) := by
  unfold misfit
  have hta : ∀ w : World, (Instr.typeAssert (.iface 116 (.agg #[.int .i64 k])) 20 116 true).run Try.prog w = .ok (.tuple #[.agg #[.int .i64 k], .bool true]) w := fun _ => by kernel_rfl
  have hlt := cell_lt hc
  have hc2 := (Same.alloc w (.cells #[.int .i64 k] 116)).cell hc
  have hz2 : (w.alloc (.cells #[.int .i64 k] 116)).frozen? p = false := (World.frozen?_of_block (w := w) (Below.heap_alloc w _ p.block hlt)).trans hz
  refine callsD_of_wpS Try.func114 rfl fun c₀ cs hu => ?_
  apply wpS_seq
  apply wpS_region
  simp [wpOpsS, go_sem, recoverD, hu, Try.ntmps114, Exit.thenS, hta]
  apply wpS_seq
  apply wpS_region
  simp [wpOpsS, go_sem, Exit.thenS]
  refine wpS_cond (t := true) (by simp [Act.eval, Array.replicate]) ?_
  simp only [if_true]
  apply wpS_region
  simp [wpOpsS, go_sem, hc2, hz2, bodyPostS, results, Try.results114, Array.replicate]
set_option maxRecDepth 100000 in
theorem catch114_idle (p : Addr) (w : World) :
    CallsD Try.prog 114 #[.pointer (some p)] .returning w fun e u' w' =>
      e = .returned (.tuple #[]) ∧ u' = .returning ∧ w' = w.alloc (.cells #[.int .i64 0] 116) := by
  have hta : ∀ w : World, (Instr.typeAssert .nilIface 20 116 true).run Try.prog w = .ok (.tuple #[.agg #[.int .i64 0], .bool false]) w := fun _ => by kernel_rfl
  refine callsD_of_wpS Try.func114 rfl fun c₀ cs hu => ?_
  apply wpS_seq
  apply wpS_region
  simp [wpOpsS, go_sem, recoverD, hu, Try.ntmps114, Exit.thenS, hta]
  apply wpS_seq
  apply wpS_region
  simp [wpOpsS, go_sem, Exit.thenS]
  refine wpS_cond (t := false) (by simp [Act.eval, Array.replicate]) ?_
  simp only [Bool.false_eq_true, if_false]
  refine wpS_of_wp (wp_skip ?_)
  cases c₀
  simp_all [bodyPostS, results, Try.results114]

set_option maxHeartbeats 1000000 in
set_option maxRecDepth 100000 in
theorem fitted77_ok (f : FuncId) (caps : Array Value) (w : World) (Φ : Value → World → Prop) (hΦ : ∀ u w1 w2, Same w1 w2 → Φ u w1 → Φ u w2)
    (hcf : ∀ w : World, (callFunc f caps).run Try.prog w = .ok (.enter f caps) w)
    (hc : Calls Try.prog f caps (w.alloc (.cells #[.int .i64 0] 22)) (Gives Φ (w.alloc (.cells #[.int .i64 0] 22)))) :
    Calls Try.prog 77 #[.func (.func f) #[] caps] w (GivesOk Φ 0 w) := by
  have hmf : ∀ (fn : Fn) (first cap : Array Value) (w : World), (Instr.makeFunc fn first cap).run Try.prog w = .ok (.func fn first cap) w := fun _ _ _ _ => rfl
  go_enter_defers Try.func77, Try.ntmps77
  go_wp2_with fail
  refine hc.mono ?_
  rintro e w1 ⟨u, rfl, hu, hb⟩
  have hlt : w.heap.size < w1.heap.size := by have := hb.size; simp at this; omega
  have k1 : w1.cell? ⟨w.heap.size, 0, none⟩ = some (.int .i64 0) := by rw [hb.cell (by simp)]; simp [go_sem]
  have k2 : w1.frozen? ⟨w.heap.size, 0, none⟩ = false := by rw [hb.frozen (by simp)]; simp [go_sem]
  have HB := Lib.hid hb
  have HU := Lib.hid hu
  clear hb hu hc
  go_wp2_with fail
  refine leaves_cons (f := 114) (args := #[.pointer (some ⟨w.heap.size, 0, none⟩)]) (by simp) (by simp [go_sem]) ?_
  refine (catch114_idle ⟨w.heap.size, 0, none⟩ _).mono ?_
  rintro e u' w'' ⟨rfl, rfl, rfl⟩
  have k3 : ((w1.setCell ⟨w.heap.size, 0, none⟩ (.int .i64 0)).alloc (.cells #[.int .i64 0] 116)).cell? ⟨w.heap.size, 0, none⟩ = some (.int .i64 0) :=
    (Same.alloc _ _).cell (World.cell?_setCell_same _ _ _ k1)
  have hs : Same w1 ((w1.setCell ⟨w.heap.size, 0, none⟩ (.int .i64 0)).alloc (.cells #[.int .i64 0] 116)) := (Same.again k1).trans (by simp) (Same.alloc _ _)
  have hbel : Below w.heap.size w ((w1.setCell ⟨w.heap.size, 0, none⟩ (.int .i64 0)).alloc (.cells #[.int .i64 0] 116)) :=
    ((((Below.refl _ w).alloc (Nat.le_refl _) _).trans (HB.out.mono (by simp))).setCell (Nat.le_refl _) _).alloc (by simp; omega) _
  have hfin := hΦ _ _ _ hs HU.out
  simp [Leaves, settle, results, Try.results77, go_sem, k3]
  exact ⟨u, rfl, hfin, hbel⟩

set_option maxHeartbeats 1000000 in
set_option maxRecDepth 100000 in
theorem fitted77_no (f : FuncId) (caps : Array Value) (k : Int) (w : World)
    (hcf : ∀ w : World, (callFunc f caps).run Try.prog w = .ok (.enter f caps) w)
    (hc : Calls Try.prog f caps (w.alloc (.cells #[.int .i64 0] 22)) (LeavesX k (w.alloc (.cells #[.int .i64 0] 22)))) :
    Calls Try.prog 77 #[.func (.func f) #[] caps] w fun e w' => e = .returned (.tuple #[.slice none 0 0, .int .i64 k]) ∧ Below w.heap.size w w' := by
  have hmf : ∀ (fn : Fn) (first cap : Array Value) (w : World), (Instr.makeFunc fn first cap).run Try.prog w = .ok (.func fn first cap) w := fun _ _ _ _ => rfl
  go_enter_defers Try.func77, Try.ntmps77
  go_wp2_with fail
  refine hc.mono ?_
  rintro e w1 ⟨rfl, hb⟩
  have hlt : w.heap.size < w1.heap.size := by have := hb.size; simp at this; omega
  have k1 : w1.cell? ⟨w.heap.size, 0, none⟩ = some (.int .i64 0) := by rw [hb.cell (by simp)]; simp [go_sem]
  have k2 : w1.frozen? ⟨w.heap.size, 0, none⟩ = false := by rw [hb.frozen (by simp)]; simp [go_sem]
  have HB := Lib.hid hb
  clear hb hc
  go_wp2_with fail
  refine leaves_cons (f := 114) (args := #[.pointer (some ⟨w.heap.size, 0, none⟩)]) (by simp) (by simp [go_sem]) ?_
  refine (catch114_pan ⟨w.heap.size, 0, none⟩ 0 k _ k1 k2).mono ?_
  rintro e u' w'' ⟨rfl, rfl, rfl⟩
  have k3 : ((w1.alloc (.cells #[.int .i64 k] 116)).setCell ⟨w.heap.size, 0, none⟩ (.int .i64 k)).cell? ⟨w.heap.size, 0, none⟩ = some (.int .i64 k) :=
    World.cell?_setCell_same _ _ _ ((Same.alloc _ _).cell k1)
  have hbel : Below w.heap.size w ((w1.alloc (.cells #[.int .i64 k] 116)).setCell ⟨w.heap.size, 0, none⟩ (.int .i64 k)) :=
    ((((Below.refl _ w).alloc (Nat.le_refl _) _).trans (HB.out.mono (by simp))).alloc (by omega) _).setCell (Nat.le_refl _) _
  simp [Leaves, settle, results, Try.results77, go_sem, k3]
  exact hbel
set_option maxRecDepth 100000 in
theorem catch117_pan (p : Addr) (x k : Int) (w : World) (hc : w.cell? p = some (.int .i64 x)) (hz : w.frozen? p = false) :
    CallsD Try.prog 117 #[.pointer (some p)] (.panicking (misfit k)) w fun e u' w' =>
      e = .returned (.tuple #[]) ∧ u' = .panicking [{ v := .iface 116 (.agg #[.int .i64 k]), recovered := true }] ∧ w' = (w.alloc (.cells #[.int .i64 k] 116)).setCell p (.int .i64 k) := by
  unfold misfit
  have hta : ∀ w : World, (Instr.typeAssert (.iface 116 (.agg #[.int .i64 k])) 20 116 true).run Try.prog w = .ok (.tuple #[.agg #[.int .i64 k], .bool true]) w := fun _ => by kernel_rfl
  have hlt := cell_lt hc
  have hc2 := (Same.alloc w (.cells #[.int .i64 k] 116)).cell hc
  have hz2 : (w.alloc (.cells #[.int .i64 k] 116)).frozen? p = false := (World.frozen?_of_block (w := w) (Below.heap_alloc w _ p.block hlt)).trans hz
  refine callsD_of_wpS Try.func117 rfl fun c₀ cs hu => ?_
  apply wpS_seq
  apply wpS_region
  simp [wpOpsS, go_sem, recoverD, hu, Try.ntmps117, Exit.thenS, hta]
  apply wpS_seq
  apply wpS_region
  simp [wpOpsS, go_sem, Exit.thenS]
  refine wpS_cond (t := true) (by simp [Act.eval, Array.replicate]) ?_
  simp only [if_true]
  apply wpS_region
  simp [wpOpsS, go_sem, hc2, hz2, bodyPostS, results, Try.results117, Array.replicate]
set_option maxRecDepth 100000 in
theorem catch117_idle (p : Addr) (w : World) :
    CallsD Try.prog 117 #[.pointer (some p)] .returning w fun e u' w' =>
      e = .returned (.tuple #[]) ∧ u' = .returning ∧ w' = w.alloc (.cells #[.int .i64 0] 116) := by
  have hta : ∀ w : World, (Instr.typeAssert .nilIface 20 116 true).run Try.prog w = .ok (.tuple #[.agg #[.int .i64 0], .bool false]) w := fun _ => by kernel_rfl
  refine callsD_of_wpS Try.func117 rfl fun c₀ cs hu => ?_
  apply wpS_seq
  apply wpS_region
  simp [wpOpsS, go_sem, recoverD, hu, Try.ntmps117, Exit.thenS, hta]
  apply wpS_seq
  apply wpS_region
  simp [wpOpsS, go_sem, Exit.thenS]
  refine wpS_cond (t := false) (by simp [Act.eval, Array.replicate]) ?_
  simp only [Bool.false_eq_true, if_false]
  refine wpS_of_wp (wp_skip ?_)
  cases c₀
  simp_all [bodyPostS, results, Try.results117]

set_option maxHeartbeats 1000000 in
set_option maxRecDepth 100000 in
theorem fitted89_ok (f : FuncId) (caps : Array Value) (w : World) (Φ : Value → World → Prop) (hΦ : ∀ u w1 w2, Same w1 w2 → Φ u w1 → Φ u w2)
    (hcf : ∀ w : World, (callFunc f caps).run Try.prog w = .ok (.enter f caps) w)
    (hc : Calls Try.prog f caps (w.alloc (.cells #[.int .i64 0] 22)) (Gives Φ (w.alloc (.cells #[.int .i64 0] 22)))) :
    Calls Try.prog 89 #[.func (.func f) #[] caps] w (GivesOk Φ 0 w) := by
  have hmf : ∀ (fn : Fn) (first cap : Array Value) (w : World), (Instr.makeFunc fn first cap).run Try.prog w = .ok (.func fn first cap) w := fun _ _ _ _ => rfl
  go_enter_defers Try.func89, Try.ntmps89
  go_wp2_with fail
  refine hc.mono ?_
  rintro e w1 ⟨u, rfl, hu, hb⟩
  have hlt : w.heap.size < w1.heap.size := by have := hb.size; simp at this; omega
  have k1 : w1.cell? ⟨w.heap.size, 0, none⟩ = some (.int .i64 0) := by rw [hb.cell (by simp)]; simp [go_sem]
  have k2 : w1.frozen? ⟨w.heap.size, 0, none⟩ = false := by rw [hb.frozen (by simp)]; simp [go_sem]
  have HB := Lib.hid hb
  have HU := Lib.hid hu
  clear hb hu hc
  go_wp2_with fail
  refine leaves_cons (f := 117) (args := #[.pointer (some ⟨w.heap.size, 0, none⟩)]) (by simp) (by simp [go_sem]) ?_
  refine (catch117_idle ⟨w.heap.size, 0, none⟩ _).mono ?_
  rintro e u' w'' ⟨rfl, rfl, rfl⟩
  have k3 : ((w1.setCell ⟨w.heap.size, 0, none⟩ (.int .i64 0)).alloc (.cells #[.int .i64 0] 116)).cell? ⟨w.heap.size, 0, none⟩ = some (.int .i64 0) :=
    (Same.alloc _ _).cell (World.cell?_setCell_same _ _ _ k1)
  have hs : Same w1 ((w1.setCell ⟨w.heap.size, 0, none⟩ (.int .i64 0)).alloc (.cells #[.int .i64 0] 116)) := (Same.again k1).trans (by simp) (Same.alloc _ _)
  have hbel : Below w.heap.size w ((w1.setCell ⟨w.heap.size, 0, none⟩ (.int .i64 0)).alloc (.cells #[.int .i64 0] 116)) :=
    ((((Below.refl _ w).alloc (Nat.le_refl _) _).trans (HB.out.mono (by simp))).setCell (Nat.le_refl _) _).alloc (by simp; omega) _
  have hfin := hΦ _ _ _ hs HU.out
  simp [Leaves, settle, results, Try.results89, go_sem, k3]
  exact ⟨u, rfl, hfin, hbel⟩

set_option maxHeartbeats 1000000 in
set_option maxRecDepth 100000 in
theorem fitted89_no (f : FuncId) (caps : Array Value) (k : Int) (w : World)
    (hcf : ∀ w : World, (callFunc f caps).run Try.prog w = .ok (.enter f caps) w)
    (hc : Calls Try.prog f caps (w.alloc (.cells #[.int .i64 0] 22)) (LeavesX k (w.alloc (.cells #[.int .i64 0] 22)))) :
    Calls Try.prog 89 #[.func (.func f) #[] caps] w fun e w' => e = .returned (.tuple #[.pointer none, .int .i64 k]) ∧ Below w.heap.size w w' := by
  have hmf : ∀ (fn : Fn) (first cap : Array Value) (w : World), (Instr.makeFunc fn first cap).run Try.prog w = .ok (.func fn first cap) w := fun _ _ _ _ => rfl
  go_enter_defers Try.func89, Try.ntmps89
  go_wp2_with fail
  refine hc.mono ?_
  rintro e w1 ⟨rfl, hb⟩
  have hlt : w.heap.size < w1.heap.size := by have := hb.size; simp at this; omega
  have k1 : w1.cell? ⟨w.heap.size, 0, none⟩ = some (.int .i64 0) := by rw [hb.cell (by simp)]; simp [go_sem]
  have k2 : w1.frozen? ⟨w.heap.size, 0, none⟩ = false := by rw [hb.frozen (by simp)]; simp [go_sem]
  have HB := Lib.hid hb
  clear hb hc
  go_wp2_with fail
  refine leaves_cons (f := 117) (args := #[.pointer (some ⟨w.heap.size, 0, none⟩)]) (by simp) (by simp [go_sem]) ?_
  refine (catch117_pan ⟨w.heap.size, 0, none⟩ 0 k _ k1 k2).mono ?_
  rintro e u' w'' ⟨rfl, rfl, rfl⟩
  have k3 : ((w1.alloc (.cells #[.int .i64 k] 116)).setCell ⟨w.heap.size, 0, none⟩ (.int .i64 k)).cell? ⟨w.heap.size, 0, none⟩ = some (.int .i64 k) :=
    World.cell?_setCell_same _ _ _ ((Same.alloc _ _).cell k1)
  have hbel : Below w.heap.size w ((w1.alloc (.cells #[.int .i64 k] 116)).setCell ⟨w.heap.size, 0, none⟩ (.int .i64 k)) :=
    ((((Below.refl _ w).alloc (Nat.le_refl _) _).trans (HB.out.mono (by simp))).alloc (by omega) _).setCell (Nat.le_refl _) _
  simp [Leaves, settle, results, Try.results89, go_sem, k3]
  exact hbel
set_option maxRecDepth 100000 in
theorem catch121_pan (p : Addr) (x k : Int) (w : World) (hc : w.cell? p = some (.int .i64 x)) (hz : w.frozen? p = false) :
    CallsD Try.prog 121 #[.pointer (some p)] (.panicking (misfit k)) w fun e u' w' =>
      e = .returned (.tuple #[]) ∧ u' = .panicking [{ v := .iface 116 (.agg #[.int .i64 k]), recovered := true }] ∧ w' = (w.alloc (.cells #[.int .i64 k] 116)).setCell p (.int .i64 k) := by
  unfold misfit
  have hta : ∀ w : World, (Instr.typeAssert (.iface 116 (.agg #[.int .i64 k])) 20 116 true).run Try.prog w = .ok (.tuple #[.agg #[.int .i64 k], .bool true]) w := fun _ => by kernel_rfl
  have hlt := cell_lt hc
  have hc2 := (Same.alloc w (.cells #[.int .i64 k] 116)).cell hc
  have hz2 : (w.alloc (.cells #[.int .i64 k] 116)).frozen? p = false := (World.frozen?_of_block (w := w) (Below.heap_alloc w _ p.block hlt)).trans hz
  refine callsD_of_wpS Try.func121 rfl fun c₀ cs hu => ?_
  apply wpS_seq
  apply wpS_region
  simp [wpOpsS, go_sem, recoverD, hu, Try.ntmps121, Exit.thenS, hta]
  apply wpS_seq
  apply wpS_region
  simp [wpOpsS, go_sem, Exit.thenS]
  refine wpS_cond (t := true) (by simp [Act.eval, Array.replicate]) ?_
  simp only [if_true]
  apply wpS_region
  simp [wpOpsS, go_sem, hc2, hz2, bodyPostS, results, Try.results121, Array.replicate]
set_option maxRecDepth 100000 in
theorem catch121_idle (p : Addr) (w : World) :
    CallsD Try.prog 121 #[.pointer (some p)] .returning w fun e u' w' =>
      e = .returned (.tuple #[]) ∧ u' = .returning ∧ w' = w.alloc (.cells #[.int .i64 0] 116) := by
  have hta : ∀ w : World, (Instr.typeAssert .nilIface 20 116 true).run Try.prog w = .ok (.tuple #[.agg #[.int .i64 0], .bool false]) w := fun _ => by kernel_rfl
  refine callsD_of_wpS Try.func121 rfl fun c₀ cs hu => ?_
  apply wpS_seq
  apply wpS_region
  simp [wpOpsS, go_sem, recoverD, hu, Try.ntmps121, Exit.thenS, hta]
  apply wpS_seq
  apply wpS_region
  simp [wpOpsS, go_sem, Exit.thenS]
  refine wpS_cond (t := false) (by simp [Act.eval, Array.replicate]) ?_
  simp only [Bool.false_eq_true, if_false]
  refine wpS_of_wp (wp_skip ?_)
  cases c₀
  simp_all [bodyPostS, results, Try.results121]

set_option maxHeartbeats 1000000 in
set_option maxRecDepth 100000 in
theorem fitted112_ok (f : FuncId) (caps : Array Value) (w : World) (Φ : Value → World → Prop) (hΦ : ∀ u w1 w2, Same w1 w2 → Φ u w1 → Φ u w2)
    (hcf : ∀ w : World, (callFunc f caps).run Try.prog w = .ok (.enter f caps) w)
    (hc : Calls Try.prog f caps (w.alloc (.cells #[.int .i64 0] 22)) (Gives Φ (w.alloc (.cells #[.int .i64 0] 22)))) :
    Calls Try.prog 112 #[.func (.func f) #[] caps] w (GivesOk Φ 0 w) := by
  have hmf : ∀ (fn : Fn) (first cap : Array Value) (w : World), (Instr.makeFunc fn first cap).run Try.prog w = .ok (.func fn first cap) w := fun _ _ _ _ => rfl
  go_enter_defers Try.func112, Try.ntmps112
  go_wp2_with fail
  refine hc.mono ?_
  rintro e w1 ⟨u, rfl, hu, hb⟩
  have hlt : w.heap.size < w1.heap.size := by have := hb.size; simp at this; omega
  have k1 : w1.cell? ⟨w.heap.size, 0, none⟩ = some (.int .i64 0) := by rw [hb.cell (by simp)]; simp [go_sem]
  have k2 : w1.frozen? ⟨w.heap.size, 0, none⟩ = false := by rw [hb.frozen (by simp)]; simp [go_sem]
  have HB := Lib.hid hb
  have HU := Lib.hid hu
  clear hb hu hc
  go_wp2_with fail
  refine leaves_cons (f := 121) (args := #[.pointer (some ⟨w.heap.size, 0, none⟩)]) (by simp) (by simp [go_sem]) ?_
  refine (catch121_idle ⟨w.heap.size, 0, none⟩ _).mono ?_
  rintro e u' w'' ⟨rfl, rfl, rfl⟩
  have k3 : ((w1.setCell ⟨w.heap.size, 0, none⟩ (.int .i64 0)).alloc (.cells #[.int .i64 0] 116)).cell? ⟨w.heap.size, 0, none⟩ = some (.int .i64 0) :=
    (Same.alloc _ _).cell (World.cell?_setCell_same _ _ _ k1)
  have hs : Same w1 ((w1.setCell ⟨w.heap.size, 0, none⟩ (.int .i64 0)).alloc (.cells #[.int .i64 0] 116)) := (Same.again k1).trans (by simp) (Same.alloc _ _)
  have hbel : Below w.heap.size w ((w1.setCell ⟨w.heap.size, 0, none⟩ (.int .i64 0)).alloc (.cells #[.int .i64 0] 116)) :=
    ((((Below.refl _ w).alloc (Nat.le_refl _) _).trans (HB.out.mono (by simp))).setCell (Nat.le_refl _) _).alloc (by simp; omega) _
  have hfin := hΦ _ _ _ hs HU.out
  simp [Leaves, settle, results, Try.results112, go_sem, k3]
  exact ⟨u, rfl, hfin, hbel⟩

set_option maxHeartbeats 1000000 in
set_option maxRecDepth 100000 in
theorem fitted112_no (f : FuncId) (caps : Array Value) (k : Int) (w : World)
    (hcf : ∀ w : World, (callFunc f caps).run Try.prog w = .ok (.enter f caps) w)
    (hc : Calls Try.prog f caps (w.alloc (.cells #[.int .i64 0] 22)) (LeavesX k (w.alloc (.cells #[.int .i64 0] 22)))) :
    Calls Try.prog 112 #[.func (.func f) #[] caps] w fun e w' => e = .returned (.tuple #[.slice none 0 0, .int .i64 k]) ∧ Below w.heap.size w w' := by
  have hmf : ∀ (fn : Fn) (first cap : Array Value) (w : World), (Instr.makeFunc fn first cap).run Try.prog w = .ok (.func fn first cap) w := fun _ _ _ _ => rfl
  go_enter_defers Try.func112, Try.ntmps112
  go_wp2_with fail
  refine hc.mono ?_
  rintro e w1 ⟨rfl, hb⟩
  have hlt : w.heap.size < w1.heap.size := by have := hb.size; simp at this; omega
  have k1 : w1.cell? ⟨w.heap.size, 0, none⟩ = some (.int .i64 0) := by rw [hb.cell (by simp)]; simp [go_sem]
  have k2 : w1.frozen? ⟨w.heap.size, 0, none⟩ = false := by rw [hb.frozen (by simp)]; simp [go_sem]
  have HB := Lib.hid hb
  clear hb hc
  go_wp2_with fail
  refine leaves_cons (f := 121) (args := #[.pointer (some ⟨w.heap.size, 0, none⟩)]) (by simp) (by simp [go_sem]) ?_
  refine (catch121_pan ⟨w.heap.size, 0, none⟩ 0 k _ k1 k2).mono ?_
  rintro e u' w'' ⟨rfl, rfl, rfl⟩
  have k3 : ((w1.alloc (.cells #[.int .i64 k] 116)).setCell ⟨w.heap.size, 0, none⟩ (.int .i64 k)).cell? ⟨w.heap.size, 0, none⟩ = some (.int .i64 k) :=
    World.cell?_setCell_same _ _ _ ((Same.alloc _ _).cell k1)
  have hbel : Below w.heap.size w ((w1.alloc (.cells #[.int .i64 k] 116)).setCell ⟨w.heap.size, 0, none⟩ (.int .i64 k)) :=
    ((((Below.refl _ w).alloc (Nat.le_refl _) _).trans (HB.out.mono (by simp))).alloc (by omega) _).setCell (Nat.le_refl _) _
  simp [Leaves, settle, results, Try.results112, go_sem, k3]
  exact hbel
end Go.Proofs.Ytegomicpolnpoaa
