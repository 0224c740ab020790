/- The same for the other two instances. -/
import Derived.Test.YtpjmiiejmkgmdaaFA
namespace Go.Proofs.Ytpjmiiejmkgmdaa
open Go.RowKit

set_option maxRecDepth 100000 in
theorem catch77_pan (p : Addr) (x k : Int) (w : World) (hc : w.cell? p = some (.int .i64 x)) (hz : w.frozen? p = false) :
    CallsD Try.prog 77 #[.pointer (some p)] (.panicking (misfit k)) w fun e u' w' =>
      e = .returned (.tuple #[]) ∧ u' = .panicking [{ v := .iface 96 (.agg #[.int .i64 k]), recovered := true }] ∧ w' = (w.alloc (.cells #[.int .i64 k] 96)).setCell p (.int .i64 k) := by
  unfold misfit
  have hta : ∀ w : World, (Instr.typeAssert (.iface 96 (.agg #[.int .i64 k])) 20 96 true).run Try.prog w = .ok (.tuple #[.agg #[.int .i64 k], .bool true]) w := fun _ => by kernel_rfl
  have hlt := cell_lt hc
  have hc2 := (Same.alloc w (.cells #[.int .i64 k] 96)).cell hc
  have hz2 : (w.alloc (.cells #[.int .i64 k] 96)).frozen? p = false := (World.frozen?_of_block (w := w) (Below.heap_alloc w _ p.block hlt)).trans hz
  refine callsD_of_wpS Try.func77 rfl fun c₀ cs hu => ?_
  apply wpS_seq
  apply wpS_region
  simp [wpOpsS, go_sem, recoverD, hu, Try.ntmps77, Exit.thenS, hta]
  apply wpS_seq
  apply wpS_region
  simp [wpOpsS, go_sem, Exit.thenS]
  refine wpS_cond (t := true) (by simp [Act.eval, Array.replicate]) ?_
  simp only [if_true]
  apply wpS_region
  simp [wpOpsS, go_sem, hc2, hz2, bodyPostS, results, Try.results77, Array.replicate]
set_option maxRecDepth 100000 in
theorem catch77_idle (p : Addr) (w : World) :
    CallsD Try.prog 77 #[.pointer (some p)] .returning w fun e u' w' =>
      e = .returned (.tuple #[]) ∧ u' = .returning ∧ w' = w.alloc (.cells #[.int .i64 0] 96) := by
  have hta : ∀ w : World, (Instr.typeAssert .nilIface 20 96 true).run Try.prog w = .ok (.tuple #[.agg #[.int .i64 0], .bool false]) w := fun _ => by kernel_rfl
  refine callsD_of_wpS Try.func77 rfl fun c₀ cs hu => ?_
  apply wpS_seq
  apply wpS_region
  simp [wpOpsS, go_sem, recoverD, hu, Try.ntmps77, Exit.thenS, hta]
  apply wpS_seq
  apply wpS_region
  simp [wpOpsS, go_sem, Exit.thenS]
  refine wpS_cond (t := false) (by simp [Act.eval, Array.replicate]) ?_
  simp only [Bool.false_eq_true, if_false]
  refine wpS_of_wp (wp_skip ?_)
  cases c₀
  simp_all [bodyPostS, results, Try.results77]

set_option maxHeartbeats 1000000 in
set_option maxRecDepth 100000 in
theorem fitted53_ok (f : FuncId) (caps : Array Value) (w : World) (Φ : Value → World → Prop) (hΦ : ∀ u w1 w2, Same w1 w2 → Φ u w1 → Φ u w2)
    (hcf : ∀ w : World, (callFunc f caps).run Try.prog w = .ok (.enter f caps) w)
    (hc : Calls Try.prog f caps (w.alloc (.cells #[.int .i64 0] 25)) (Gives Φ (w.alloc (.cells #[.int .i64 0] 25)))) :
    Calls Try.prog 53 #[.func (.func f) #[] caps] w (GivesOk Φ 0 w) := by
  have hmf : ∀ (fn : Fn) (first cap : Array Value) (w : World), (Instr.makeFunc fn first cap).run Try.prog w = .ok (.func fn first cap) w := fun _ _ _ _ => rfl
  go_enter_defers Try.func53, Try.ntmps53
  go_wp2_with fail
  refine hc.mono ?_
  rintro e w1 ⟨u, rfl, hu, hb⟩
  have hlt : w.heap.size < w1.heap.size := by have := hb.size; simp at this; omega
  have k1 : w1.cell? ⟨w.heap.size, 0, none⟩ = some (.int .i64 0) := by rw [hb.cell (by simp)]; simp [go_sem]
  have k2 : w1.frozen? ⟨w.heap.size, 0, none⟩ = false := by rw [hb.frozen (by simp)]; simp [go_sem]
  have HB := Lib.hid hb
  have HU := Lib.hid hu
  clear hb hu hc
  go_wp2_with fail
  refine leaves_cons (f := 77) (args := #[.pointer (some ⟨w.heap.size, 0, none⟩)]) (by simp) (by simp [go_sem]) ?_
  refine (catch77_idle ⟨w.heap.size, 0, none⟩ _).mono ?_
  rintro e u' w'' ⟨rfl, rfl, rfl⟩
  have k3 : ((w1.setCell ⟨w.heap.size, 0, none⟩ (.int .i64 0)).alloc (.cells #[.int .i64 0] 96)).cell? ⟨w.heap.size, 0, none⟩ = some (.int .i64 0) :=
    (Same.alloc _ _).cell (World.cell?_setCell_same _ _ _ k1)
  have hs : Same w1 ((w1.setCell ⟨w.heap.size, 0, none⟩ (.int .i64 0)).alloc (.cells #[.int .i64 0] 96)) := (Same.again k1).trans (by simp) (Same.alloc _ _)
  have hbel : Below w.heap.size w ((w1.setCell ⟨w.heap.size, 0, none⟩ (.int .i64 0)).alloc (.cells #[.int .i64 0] 96)) :=
    ((((Below.refl _ w).alloc (Nat.le_refl _) _).trans (HB.out.mono (by simp))).setCell (Nat.le_refl _) _).alloc (by simp; omega) _
  have hfin := hΦ _ _ _ hs HU.out
  simp [Leaves, settle, results, Try.results53, go_sem, k3]
  exact ⟨u, rfl, hfin, hbel⟩

set_option maxHeartbeats 1000000 in
set_option maxRecDepth 100000 in
theorem fitted53_no (f : FuncId) (caps : Array Value) (k : Int) (w : World)
    (hcf : ∀ w : World, (callFunc f caps).run Try.prog w = .ok (.enter f caps) w)
    (hc : Calls Try.prog f caps (w.alloc (.cells #[.int .i64 0] 25)) (Leaves96 k (w.alloc (.cells #[.int .i64 0] 25)))) :
    Calls Try.prog 53 #[.func (.func f) #[] caps] w fun e w' => e = .returned (.tuple #[.bool false, .int .i64 k]) ∧ Below w.heap.size w w' := by
  have hmf : ∀ (fn : Fn) (first cap : Array Value) (w : World), (Instr.makeFunc fn first cap).run Try.prog w = .ok (.func fn first cap) w := fun _ _ _ _ => rfl
  go_enter_defers Try.func53, Try.ntmps53
  go_wp2_with fail
  refine hc.mono ?_
  rintro e w1 ⟨rfl, hb⟩
  have hlt : w.heap.size < w1.heap.size := by have := hb.size; simp at this; omega
  have k1 : w1.cell? ⟨w.heap.size, 0, none⟩ = some (.int .i64 0) := by rw [hb.cell (by simp)]; simp [go_sem]
  have k2 : w1.frozen? ⟨w.heap.size, 0, none⟩ = false := by rw [hb.frozen (by simp)]; simp [go_sem]
  have HB := Lib.hid hb
  clear hb hc
  go_wp2_with fail
  refine leaves_cons (f := 77) (args := #[.pointer (some ⟨w.heap.size, 0, none⟩)]) (by simp) (by simp [go_sem]) ?_
  refine (catch77_pan ⟨w.heap.size, 0, none⟩ 0 k _ k1 k2).mono ?_
  rintro e u' w'' ⟨rfl, rfl, rfl⟩
  have k3 : ((w1.alloc (.cells #[.int .i64 k] 96)).setCell ⟨w.heap.size, 0, none⟩ (.int .i64 k)).cell? ⟨w.heap.size, 0, none⟩ = some (.int .i64 k) :=
    World.cell?_setCell_same _ _ _ ((Same.alloc _ _).cell k1)
  have hbel : Below w.heap.size w ((w1.alloc (.cells #[.int .i64 k] 96)).setCell ⟨w.heap.size, 0, none⟩ (.int .i64 k)) :=
    ((((Below.refl _ w).alloc (Nat.le_refl _) _).trans (HB.out.mono (by simp))).alloc (by omega) _).setCell (Nat.le_refl _) _
  simp [Leaves, settle, results, Try.results53, go_sem, k3]
  exact hbel
set_option maxRecDepth 100000 in
theorem catch80_pan (p : Addr) (x k : Int) (w : World) (hc : w.cell? p = some (.int .i64 x)) (hz : w.frozen? p = false) :
    CallsD Try.prog 80 #[.pointer (some p)] (.panicking (misfit k)) w fun e u' w' =>
      e = .returned (.tuple #[]) ∧ u' = .panicking [{ v := .iface 96 (.agg #[.int .i64 k]), recovered := true }] ∧ w' = (w.alloc (.cells #[.int .i64 k] 96)).setCell p (.int .i64 k) := by
  unfold misfit
  have hta : ∀ w : World, (Instr.typeAssert (.iface 96 (.agg #[.int .i64 k])) 20 96 true).run Try.prog w = .ok (.tuple #[.agg #[.int .i64 k], .bool true]) w := fun _ => by kernel_rfl
  have hlt := cell_lt hc
  have hc2 := (Same.alloc w (.cells #[.int .i64 k] 96)).cell hc
  have hz2 : (w.alloc (.cells #[.int .i64 k] 96)).frozen? p = false := (World.frozen?_of_block (w := w) (Below.heap_alloc w _ p.block hlt)).trans hz
  refine callsD_of_wpS Try.func80 rfl fun c₀ cs hu => ?_
  apply wpS_seq
  apply wpS_region
  simp [wpOpsS, go_sem, recoverD, hu, Try.ntmps80, Exit.thenS, hta]
  apply wpS_seq
  apply wpS_region
  simp [wpOpsS, go_sem, Exit.thenS]
  refine wpS_cond (t := true) (by simp [Act.eval, Array.replicate]) ?_
  simp only [if_true]
  apply wpS_region
  simp [wpOpsS, go_sem, hc2, hz2, bodyPostS, results, Try.results80, Array.replicate]
set_option maxRecDepth 100000 in
theorem catch80_idle (p : Addr) (w : World) :
    CallsD Try.prog 80 #[.pointer (some p)] .returning w fun e u' w' =>
      e = .returned (.tuple #[]) ∧ u' = .returning ∧ w' = w.alloc (.cells #[.int .i64 0] 96) := by
  have hta : ∀ w : World, (Instr.typeAssert .nilIface 20 96 true).run Try.prog w = .ok (.tuple #[.agg #[.int .i64 0], .bool false]) w := fun _ => by kernel_rfl
  refine callsD_of_wpS Try.func80 rfl fun c₀ cs hu => ?_
  apply wpS_seq
  apply wpS_region
  simp [wpOpsS, go_sem, recoverD, hu, Try.ntmps80, Exit.thenS, hta]
  apply wpS_seq
  apply wpS_region
  simp [wpOpsS, go_sem, Exit.thenS]
  refine wpS_cond (t := false) (by simp [Act.eval, Array.replicate]) ?_
  simp only [Bool.false_eq_true, if_false]
  refine wpS_of_wp (wp_skip ?_)
  cases c₀
  simp_all [bodyPostS, results, Try.results80]

set_option maxHeartbeats 1000000 in
set_option maxRecDepth 100000 in
theorem fitted61_ok (f : FuncId) (caps : Array Value) (w : World) (Φ : Value → World → Prop) (hΦ : ∀ u w1 w2, Same w1 w2 → Φ u w1 → Φ u w2)
    (hcf : ∀ w : World, (callFunc f caps).run Try.prog w = .ok (.enter f caps) w)
    (hc : Calls Try.prog f caps (w.alloc (.cells #[.int .i64 0] 25)) (Gives Φ (w.alloc (.cells #[.int .i64 0] 25)))) :
    Calls Try.prog 61 #[.func (.func f) #[] caps] w (GivesOk Φ 0 w) := by
  have hmf : ∀ (fn : Fn) (first cap : Array Value) (w : World), (Instr.makeFunc fn first cap).run Try.prog w = .ok (.func fn first cap) w := fun _ _ _ _ => rfl
  go_enter_defers Try.func61, Try.ntmps61
  go_wp2_with fail
  refine hc.mono ?_
  rintro e w1 ⟨u, rfl, hu, hb⟩
  have hlt : w.heap.size < w1.heap.size := by have := hb.size; simp at this; omega
  have k1 : w1.cell? ⟨w.heap.size, 0, none⟩ = some (.int .i64 0) := by rw [hb.cell (by simp)]; simp [go_sem]
  have k2 : w1.frozen? ⟨w.heap.size, 0, none⟩ = false := by rw [hb.frozen (by simp)]; simp [go_sem]
  have HB := Lib.hid hb
  have HU := Lib.hid hu
  clear hb hu hc
  go_wp2_with fail
  refine leaves_cons (f := 80) (args := #[.pointer (some ⟨w.heap.size, 0, none⟩)]) (by simp) (by simp [go_sem]) ?_
  refine (catch80_idle ⟨w.heap.size, 0, none⟩ _).mono ?_
  rintro e u' w'' ⟨rfl, rfl, rfl⟩
  have k3 : ((w1.setCell ⟨w.heap.size, 0, none⟩ (.int .i64 0)).alloc (.cells #[.int .i64 0] 96)).cell? ⟨w.heap.size, 0, none⟩ = some (.int .i64 0) :=
    (Same.alloc _ _).cell (World.cell?_setCell_same _ _ _ k1)
  have hs : Same w1 ((w1.setCell ⟨w.heap.size, 0, none⟩ (.int .i64 0)).alloc (.cells #[.int .i64 0] 96)) := (Same.again k1).trans (by simp) (Same.alloc _ _)
  have hbel : Below w.heap.size w ((w1.setCell ⟨w.heap.size, 0, none⟩ (.int .i64 0)).alloc (.cells #[.int .i64 0] 96)) :=
    ((((Below.refl _ w).alloc (Nat.le_refl _) _).trans (HB.out.mono (by simp))).setCell (Nat.le_refl _) _).alloc (by simp; omega) _
  have hfin := hΦ _ _ _ hs HU.out
  simp [Leaves, settle, results, Try.results61, go_sem, k3]
  exact ⟨u, rfl, hfin, hbel⟩

set_option maxHeartbeats 1000000 in
set_option maxRecDepth 100000 in
theorem fitted61_no (f : FuncId) (caps : Array Value) (k : Int) (w : World)
    (hcf : ∀ w : World, (callFunc f caps).run Try.prog w = .ok (.enter f caps) w)
    (hc : Calls Try.prog f caps (w.alloc (.cells #[.int .i64 0] 25)) (Leaves96 k (w.alloc (.cells #[.int .i64 0] 25)))) :
    Calls Try.prog 61 #[.func (.func f) #[] caps] w fun e w' => e = .returned (.tuple #[.slice none 0 0, .int .i64 k]) ∧ Below w.heap.size w w' := by
  have hmf : ∀ (fn : Fn) (first cap : Array Value) (w : World), (Instr.makeFunc fn first cap).run Try.prog w = .ok (.func fn first cap) w := fun _ _ _ _ => rfl
  go_enter_defers Try.func61, Try.ntmps61
  go_wp2_with fail
  refine hc.mono ?_
  rintro e w1 ⟨rfl, hb⟩
  have hlt : w.heap.size < w1.heap.size := by have := hb.size; simp at this; omega
  have k1 : w1.cell? ⟨w.heap.size, 0, none⟩ = some (.int .i64 0) := by rw [hb.cell (by simp)]; simp [go_sem]
  have k2 : w1.frozen? ⟨w.heap.size, 0, none⟩ = false := by rw [hb.frozen (by simp)]; simp [go_sem]
  have HB := Lib.hid hb
  clear hb hc
  go_wp2_with fail
  refine leaves_cons (f := 80) (args := #[.pointer (some ⟨w.heap.size, 0, none⟩)]) (by simp) (by simp [go_sem]) ?_
  refine (catch80_pan ⟨w.heap.size, 0, none⟩ 0 k _ k1 k2).mono ?_
  rintro e u' w'' ⟨rfl, rfl, rfl⟩
  have k3 : ((w1.alloc (.cells #[.int .i64 k] 96)).setCell ⟨w.heap.size, 0, none⟩ (.int .i64 k)).cell? ⟨w.heap.size, 0, none⟩ = some (.int .i64 k) :=
    World.cell?_setCell_same _ _ _ ((Same.alloc _ _).cell k1)
  have hbel : Below w.heap.size w ((w1.alloc (.cells #[.int .i64 k] 96)).setCell ⟨w.heap.size, 0, none⟩ (.int .i64 k)) :=
    ((((Below.refl _ w).alloc (Nat.le_refl _) _).trans (HB.out.mono (by simp))).alloc (by omega) _).setCell (Nat.le_refl _) _
  simp [Leaves, settle, results, Try.results61, go_sem, k3]
  exact hbel
end Go.Proofs.Ytpjmiiejmkgmdaa
