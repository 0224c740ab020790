/- What a call gives whose closure may write a ring; done. -/
import Derived.Test.YtgcohmlapgnbdaaRF
namespace Go.Proofs.Ytgcohmlapgnbdaa
open Go.RowKit Go.Shelf Go.Deep

theorem near_grown {n : Nat} {w1 w' : World} (h : Near n w1 w') : w1.grownBy w' (some n) := ⟨h.1.1, h.1.2.1, h.1.2.2, h.2.1, fun k hk hne => h.2.2 k (fun e => hne (by rw [e])) hk⟩
theorem gw_near {P R : Nat} {w w1 w' : World} {o : Obj} (h : Gw P R (w.alloc o) w1) (hn : Near w.heap.size w1 w') : Gw P R w w' :=
  ⟨hn.1.1.trans h.os, hn.1.2.1.trans h.tape, hn.1.2.2.trans h.output, Nat.le_trans (by have := h.size; simp at this; omega) hn.2.1, fun k hk h1 h2 => (hn.2.2 k (by omega) (by have := h.size; simp at this; omega)).trans ((h.block k (by simp; omega) h1 h2).trans (Below.heap_alloc _ _ k hk))⟩
theorem below_near {w w1 w' : World} {o : Obj} (h : Below (w.alloc o).heap.size (w.alloc o) w1) (hn : Near w.heap.size w1 w') : Below w.heap.size w w' :=
  ⟨hn.1.1.trans h.os, hn.1.2.1.trans h.tape, hn.1.2.2.trans h.output, Nat.le_trans (by have := h.size; simp at this; omega) hn.2.1, fun k hk => (hn.2.2 k (by omega) (by have := h.size; simp at this; omega)).trans ((h.block k (by simp; omega)).trans (Below.heap_alloc _ _ k hk))⟩
theorem ring_near {P R n : Nat} {g : Rg} {w1 w' : World} (h : RingAt P R g w1) (hP : P ≠ n) (hR : R ≠ n) (hn : Near n w1 w') : RingAt P R g w' := h.of_blocks (hn.2.2 P hP h.lt.1) (hn.2.2 R hR h.lt.2)
theorem keeps_gw {P R : Nat} {w w1 : World} {o : Obj} (h : Gw P R (w.alloc o) w1) (hP : P < w.heap.size) (hR : R < w.heap.size) : Keeps w.heap.size (w.alloc o) w1 :=
  ⟨h.block _ (by simp) (by omega) (by omega), by have := h.size; simp at this; omega⟩
theorem keeps_below {w w1 : World} {o : Obj} (h : Below (w.alloc o).heap.size (w.alloc o) w1) : Keeps w.heap.size (w.alloc o) w1 :=
  ⟨h.block _ (by simp), by have := h.size; simp at this; omega⟩

/-- A method that gives a number and may write its ring. -/
def Meth (P R : Nat) (g : Rg) (u : Value) (k : Int) (w : World) (e : Ending) (w' : World) : Prop := e = .returned (.tuple #[u, .int .i64 k]) ∧ RingAt P R g w' ∧ Gw P R w w'
def Clos (P R : Nat) (g : Rg) (u : Value) (k : Int) (w : World) (e : Ending) (w' : World) : Prop := e = endOf u k ∧ RingAt P R g w' ∧ Gw P R w w'
theorem fit42_ring {P R : Nat} {g : Rg} {u : Value} {k : Int} (f : FuncId) (caps : Array Value) (w : World) (hP : P < w.heap.size) (hR : R < w.heap.size) (hk : k ≠ 0 → u = .int .i64 0)
    (hcf : ∀ w : World, (callFunc f caps).run Try.prog w = .ok (.enter f caps) w)
    (hc : ∀ x, Below w.heap.size w x → Calls Try.prog f caps x (Clos P R g u k x)) : Calls Try.prog 42 #[.func (.func f) #[] caps] w (Meth P R g u k w) := by
  refine (fitted42_any f caps w (fun v j w1 => v = u ∧ j = k ∧ RingAt P R g w1 ∧ Gw P R (w.alloc (.cells #[.int .i64 0] 26)) w1) hcf ((hc _ ((Below.refl _ w).alloc (Nat.le_refl _) _)).mono ?_)).mono ?_
  · rintro e w1 ⟨rfl, h1, h2⟩
    exact ⟨keeps_gw h2 hP hR, out_of (fun h0 => ⟨rfl, h0.symm, h1, h2⟩) fun h0 => ⟨(hk h0).symm, rfl, h1, h2⟩⟩
  · rintro e w' ⟨v, j, w1, rfl, ⟨rfl, rfl, h1, h2⟩, _, hn⟩
    exact ⟨rfl, ring_near h1 (by omega) (by omega) hn, gw_near h2 hn⟩
/-- A method whose closure leaves at once. -/
theorem fit42_left {k : Int} (f : FuncId) (caps : Array Value) (w : World) (hk : k ≠ 0)
    (hcf : ∀ w : World, (callFunc f caps).run Try.prog w = .ok (.enter f caps) w)
    (hc : ∀ x, Below w.heap.size w x → Calls Try.prog f caps x (LeavesX k x)) : Calls Try.prog 42 #[.func (.func f) #[] caps] w fun e w' => e = .returned (.tuple #[.int .i64 0, .int .i64 k]) ∧ Below w.heap.size w w' := by
  refine (fitted42_any f caps w (fun v j w1 => v = .int .i64 0 ∧ j = k ∧ Below (w.alloc (.cells #[.int .i64 0] 26)).heap.size (w.alloc (.cells #[.int .i64 0] 26)) w1) hcf ((hc _ ((Below.refl _ w).alloc (Nat.le_refl _) _)).mono ?_)).mono ?_
  · rintro e w1 ⟨rfl, h2⟩
    exact ⟨keeps_below h2, .inr ⟨k, rfl, rfl, rfl, h2⟩⟩
  · rintro e w' ⟨v, j, w1, rfl, ⟨rfl, rfl, h2⟩, _, hn⟩
    exact ⟨rfl, below_near h2 hn⟩

set_option maxRecDepth 100000 in
theorem catch115_pan (p : Addr) (x k : Int) (w : World) (hc : w.cell? p = some (.int .i64 x)) (hz : w.frozen? p = false) :
    CallsD Try.prog 115 #[.pointer (some p)] (.panicking (misfit k)) w fun e u' w' =>
      e = .returned (.tuple #[]) ∧ u' = .panicking [{ v := .iface 122 (.agg #[.int .i64 k]), recovered := true }] ∧ w' = (w.alloc (.cells #[.int .i64 k] 122)).setCell p (.int .i64 k) := by
  unfold misfit
  have hta : ∀ w : World, (Instr.typeAssert (.iface 122 (.agg #[.int .i64 k])) 20 122 true).run Try.prog w = .ok (.tuple #[.agg #[.int .i64 k], .bool true]) w := fun _ => by kernel_rfl
  have hlt := cell_lt hc
  have hc2 := (Same.alloc w (.cells #[.int .i64 k] 122)).cell hc
  have hz2 : (w.alloc (.cells #[.int .i64 k] 122)).frozen? p = false := (World.frozen?_of_block (w := w) (Below.heap_alloc w _ p.block hlt)).trans hz
  refine callsD_of_wpS Try.func115 rfl fun c₀ cs hu => ?_
  apply wpS_seq
  apply wpS_region
  simp [wpOpsS, go_sem, recoverD, hu, Try.ntmps115, Exit.thenS, hta]
  apply wpS_seq
  apply wpS_region
  simp [wpOpsS, go_sem, Exit.thenS]
  refine wpS_cond (t := true) (by simp [Act.eval, Array.replicate]) ?_
  simp only [if_true]
  apply wpS_region
  simp [wpOpsS, go_sem, hc2, hz2, bodyPostS, results, Try.results115, Array.replicate]
set_option maxRecDepth 100000 in
theorem catch115_idle (p : Addr) (w : World) :
    CallsD Try.prog 115 #[.pointer (some p)] .returning w fun e u' w' =>
      e = .returned (.tuple #[]) ∧ u' = .returning ∧ w' = w.alloc (.cells #[.int .i64 0] 122) := by
  have hta : ∀ w : World, (Instr.typeAssert .nilIface 20 122 true).run Try.prog w = .ok (.tuple #[.agg #[.int .i64 0], .bool false]) w := fun _ => by kernel_rfl
  refine callsD_of_wpS Try.func115 rfl fun c₀ cs hu => ?_
  apply wpS_seq
  apply wpS_region
  simp [wpOpsS, go_sem, recoverD, hu, Try.ntmps115, Exit.thenS, hta]
  apply wpS_seq
  apply wpS_region
  simp [wpOpsS, go_sem, Exit.thenS]
  refine wpS_cond (t := false) (by simp [Act.eval, Array.replicate]) ?_
  simp only [Bool.false_eq_true, if_false]
  refine wpS_of_wp (wp_skip ?_)
  cases c₀
  simp_all [bodyPostS, results, Try.results115]


theorem Try.underlying128 : Try.prog.underlying 128 = some (.struct #[]) := by kernel_rfl
theorem Try.size128 : (Try.prog.info? 128).map (·.size) = some 0 := by kernel_rfl
/-- What done's inner call gives. -/
def DoneAns (Q : Int → World → Prop) (w : World) (e : Ending) (w' : World) : Prop := ∃ k w1, e = .returned (.tuple #[.agg #[], .int .i64 k]) ∧ Q k w1 ∧ Near (w.heap.size + 1) w1 w'
set_option maxHeartbeats 1000000 in
set_option maxRecDepth 100000 in
theorem fitted98_any (f : FuncId) (caps : Array Value) (w : World) (Q : Int → World → Prop)
    (hcf : ∀ w : World, (callFunc f caps).run Try.prog w = .ok (.enter f caps) w)
    (hc : Calls Try.prog f caps ((w.alloc (.cells #[] 128)).alloc (.cells #[.int .i64 0] 26)) fun e w1 => ((w1.heap[w.heap.size]? = some (.cells #[] 128) ∧ w1.heap[w.heap.size + 1]? = some (.cells #[.int .i64 0] 26)) ∧ w.heap.size + 2 ≤ w1.heap.size) ∧ Out (.agg #[]) (fun v k x => v = .agg #[] ∧ Q k x) e w1) :
    Calls Try.prog 98 #[.func (.func f) #[] caps] w (DoneAns Q w) := by
  have hmf : ∀ (fn : Fn) (first cap : Array Value) (w : World), (Instr.makeFunc fn first cap).run Try.prog w = .ok (.func fn first cap) w := fun _ _ _ _ => rfl
  go_enter_defers Try.func98, Try.ntmps98
  go_wp2_with fail
  refine hc.mono ?_
  rintro e w1 ⟨⟨⟨hblk0, hblk⟩, hsz⟩, ⟨u, rfl, rfl, hu⟩ | ⟨k, rfl, _, hu⟩⟩
  · have k1 : w1.cell? ⟨w.heap.size + 1, 0, none⟩ = some (.int .i64 0) := by simp [World.cell?, hblk]
    have k2 : w1.frozen? ⟨w.heap.size + 1, 0, none⟩ = false := by simp [World.frozen?, hblk]
    have HU := Lib.hid hu
    clear hu hc hblk
    go_wp2_with fail
    refine leaves_cons (f := 115) (args := #[.pointer (some ⟨w.heap.size + 1, 0, none⟩)]) (by simp) (by simp [go_sem]) ?_
    refine (catch115_idle ⟨w.heap.size + 1, 0, none⟩ _).mono ?_
    rintro e u' w'' ⟨rfl, rfl, rfl⟩
    have k3 : ((w1.setCell ⟨w.heap.size + 1, 0, none⟩ (.int .i64 0)).alloc (.cells #[.int .i64 0] 122)).cell? ⟨w.heap.size + 1, 0, none⟩ = some (.int .i64 0) :=
      (Same.alloc _ _).cell (World.cell?_setCell_same _ _ _ k1)
    have hn := near_idle w1 (w.heap.size + 1) (.int .i64 0) (.cells #[.int .i64 0] 122)
    simp [Leaves, settle, results, Try.results98, go_sem, k3]
    exact ⟨_, w1, rfl, HU.out, hn⟩
  · have k1 : w1.cell? ⟨w.heap.size + 1, 0, none⟩ = some (.int .i64 0) := by simp [World.cell?, hblk]
    have k2 : w1.frozen? ⟨w.heap.size + 1, 0, none⟩ = false := by simp [World.frozen?, hblk]
    have HU := Lib.hid hu
    clear hu hc hblk
    go_wp2_with fail
    refine leaves_cons (f := 115) (args := #[.pointer (some ⟨w.heap.size + 1, 0, none⟩)]) (by simp) (by simp [go_sem]) ?_
    refine (catch115_pan ⟨w.heap.size + 1, 0, none⟩ 0 k _ k1 k2).mono ?_
    rintro e u' w'' ⟨rfl, rfl, rfl⟩
    have k3 : ((w1.alloc (.cells #[.int .i64 k] 122)).setCell ⟨w.heap.size + 1, 0, none⟩ (.int .i64 k)).cell? ⟨w.heap.size + 1, 0, none⟩ = some (.int .i64 k) :=
      World.cell?_setCell_same _ _ _ ((Same.alloc _ _).cell k1)
    have hn := near_pan w1 (w.heap.size + 1) (.int .i64 k) (.cells #[.int .i64 k] 122)
    simp [Leaves, settle, results, Try.results98, go_sem, k3]
    exact ⟨_, w1, rfl, HU.out, hn⟩
end Go.Proofs.Ytgcohmlapgnbdaa
