/- Push, where all fits. -/
import Derived.Test.YthfagnbecocgdaaSC
namespace Go.Proofs.Ythfagnbecocgdaa
open Go.RowKit Go.Shelf Go.Deep

theorem VolAt.of_blocks {P R : Nat} {cs : List Ch} {w w' : World} (h : VolAt P R cs w) (hp : w'.heap[P]? = w.heap[P]?) (hr : w'.heap[R]? = w.heap[R]?) : VolAt P R cs w' := by
  obtain ⟨N, G, r1, r2, r3⟩ := h.row
  obtain ⟨cap, ht⟩ := h.top
  exact ⟨⟨cap, by rw [World.cell?_of_block (a := ⟨P, 0, none⟩) hp]; exact ht⟩, h.ne, N, G, r1.of_block hr, r2, r3⟩
set_option maxHeartbeats 1000000 in
set_option maxRecDepth 100000 in
theorem fitted53_gb (f : FuncId) (caps : Array Value) (w : World) (R : Nat) (hR : R < w.heap.size) (Φ : Value → World → Prop) (hΦ : ∀ u w1 w2, (∀ k, k ≠ w.heap.size → k < w1.heap.size → w2.heap[k]? = w1.heap[k]?) → w1.heap.size ≤ w2.heap.size → Φ u w1 → Φ u w2)
    (hcf : ∀ w : World, (callFunc f caps).run Try.prog w = .ok (.enter f caps) w)
    (hc : Calls Try.prog f caps (w.alloc (.cells #[.int .i64 0] 26)) fun e w' => ∃ u, e = .returned u ∧ Φ u w' ∧ (w.alloc (.cells #[.int .i64 0] 26)).grownBy w' (some R)) :
    Calls Try.prog 53 #[.func (.func f) #[] caps] w fun e w' => ∃ u, e = .returned (.tuple #[u, .int .i64 0]) ∧ Φ u w' ∧ w.grownBy w' (some R) := by
  have hmf : ∀ (fn : Fn) (first cap : Array Value) (w : World), (Instr.makeFunc fn first cap).run Try.prog w = .ok (.func fn first cap) w := fun _ _ _ _ => rfl
  go_enter_defers Try.func53, Try.ntmps53
  go_wp2_with fail
  refine hc.mono ?_
  rintro e w1 ⟨u, rfl, hu, hb⟩
  have hlt : w.heap.size < w1.heap.size := by have := hb.size; simp at this; omega
  have hblk : w1.heap[w.heap.size]? = (w.alloc (.cells #[.int .i64 0] 26)).heap[w.heap.size]? := hb.block _ (by simp) (fun e => by cases e; omega)
  have k1 : w1.cell? ⟨w.heap.size, 0, none⟩ = some (.int .i64 0) := by rw [World.cell?_of_block (w := w.alloc (.cells #[.int .i64 0] 26)) hblk]; simp [go_sem]
  have k2 : w1.frozen? ⟨w.heap.size, 0, none⟩ = false := by rw [World.frozen?_of_block (w := w.alloc (.cells #[.int .i64 0] 26)) hblk]; simp [go_sem]
  have HB := Lib.hid hb
  have HU := Lib.hid hu
  clear hb hu hc hblk
  go_wp2_with fail
  refine leaves_cons (f := 106) (args := #[.pointer (some ⟨w.heap.size, 0, none⟩)]) (by simp) (by simp [go_sem]) ?_
  refine (catch106_idle ⟨w.heap.size, 0, none⟩ _).mono ?_
  rintro e u' w'' ⟨rfl, rfl, rfl⟩
  have k3 : ((w1.setCell ⟨w.heap.size, 0, none⟩ (.int .i64 0)).alloc (.cells #[.int .i64 0] 118)).cell? ⟨w.heap.size, 0, none⟩ = some (.int .i64 0) :=
    (Same.alloc _ _).cell (World.cell?_setCell_same _ _ _ k1)
  have hs : ∀ k, k ≠ w.heap.size → k < w1.heap.size → ((w1.setCell ⟨w.heap.size, 0, none⟩ (.int .i64 0)).alloc (.cells #[.int .i64 0] 118)).heap[k]? = w1.heap[k]? := fun k hk hlt2 =>
    (Below.heap_alloc _ _ k (by simpa using hlt2)).trans (blk_setCell_other _ _ _ _ hk)
  have hkp : w.grownBy ((w1.setCell ⟨w.heap.size, 0, none⟩ (.int .i64 0)).alloc (.cells #[.int .i64 0] 118)) (some R) :=
    ⟨HB.out.os, HB.out.tape, HB.out.output, by simp; omega, fun k hk hne => (hs k (by omega) (by omega)).trans ((HB.out.block k (by simp; omega) hne).trans (Below.heap_alloc _ _ k hk))⟩
  have hfin := hΦ _ _ _ hs (by simp) HU.out
  simp [Leaves, settle, results, Try.results53, go_sem, k3]
  exact ⟨hfin, hkp⟩

def PushAns (P R : Nat) (M : List (List Int)) (cs : List Ch) (w : World) (e : Ending) (w' : World) : Prop := ∃ u, e = .returned (.tuple #[u, .int .i64 0]) ∧ MatNew w.heap.size w' M u ∧ VolAt P R cs w' ∧ w.grownBy w' (some R)
set_option maxRecDepth 100000 in
theorem push_yes (b : List (List Int)) (cs : List Ch) (v : Value) (P R : Nat) (w : World) (hM : MatOff R w b v) (hv : validB b = true) (hl : cs.length = b.length) (hV : VolAt P R cs w) (hok : ∀ i, i < cs.length → (chAt cs i).Ok) :
    Calls Try.prog 12 #[.pointer (some ⟨P, 0, none⟩), v] w (PushAns P R (pushM cs b) (cs.map (goC (cols b))) w) := by
  have hmf := makes
  obtain ⟨hP, hR⟩ := hV.lt
  obtain ⟨X, hX⟩ : ∃ X, Obj.cells #[.pointer (some ⟨P, 0, none⟩)] 25 = X := ⟨_, rfl⟩
  obtain ⟨U, hU⟩ : ∃ U, Obj.cells #[v] 34 = U := ⟨_, rfl⟩
  have hbel : Below w.heap.size w ((w.alloc X).alloc U) := (((Below.refl _ w).alloc (Nat.le_refl _) _).alloc (by simp) _)
  have hbel2 : ∀ Z, Below w.heap.size w (((w.alloc X).alloc U).alloc Z) := fun Z => hbel.alloc (by simp; omega) _
  have hv1 : v.oneCell' = true := by obtain ⟨a, ca, rfl, _⟩ := hM w (gb_refl _ _); rfl
  have c0 : ∀ Z, (((w.alloc X).alloc U).alloc Z).cell? ⟨w.heap.size, 0, none⟩ = some (.pointer (some ⟨P, 0, none⟩)) := fun Z => by
    refine (Same.alloc _ Z).cell ((Same.alloc _ U).cell ?_); rw [← hX]; simp [go_sem]
  have c1 : ∀ Z, (((w.alloc X).alloc U).alloc Z).cell? ⟨w.heap.size + 1, 0, none⟩ = some v := fun Z => by
    refine (Same.alloc _ Z).cell ?_; rw [← hU]; simp [go_sem]
  have he := enters_of Try.func54 (by kernel_rfl) rfl
  have hf := fitted53_gb 54 #[at0 w.heap.size, at0 (w.heap.size + 1)] ((w.alloc X).alloc U) R (by simp; omega) (fun u x => MatNew (w.heap.size + 2 + 1) x (pushM cs b) u ∧ VolAt P R (cs.map (goC (cols b))) x)
    (fun u w1 w2 hk hs h => ⟨h.1.mono (Nat.le_refl _) hs (fun k hk1 hk2 => hk k (by simp; omega) hk2), h.2.of_blocks (hk P (by simp; omega) h.2.lt.1) (hk R (by simp; omega) h.2.lt.2)⟩) (he _)
    ((push1_yes b cs v P R _ _ _ (hM.goes (gb_below (hbel2 _))) hv hl (hV.below (hbel2 _)) hok (c0 _) (c1 _) (by omega) (by omega)).mono (by
      rintro e w' ⟨u, rfl, h1, h2, h3⟩
      exact ⟨u, rfl, ⟨by simpa using h1, h2⟩, h3⟩))
  obtain ⟨a, ca, rfl, _, _, _⟩ := id (hM w (gb_refl _ _))
  generalize pushM cs b = M at *
  generalize cs.map (goC (cols b)) = ds at *
  have HBL := Lib.hid hbel
  clear hbel hbel2 c0 c1 hM hv hV hok hl
  subst hX
  subst hU
  go_enter Try.func12, Try.ntmps12
  go_wp2_with (go_at_call 53; (with_reducible refine hf.mono ?_); rintro e w1 ⟨u, rfl, ⟨hu, hvv⟩, hb1⟩; have HU := Lib.hid (And.intro hu hvv); clear hu hvv)
  go_ret2
  exact ⟨_, rfl, HU.out.1.mono (by omega) (Nat.le_refl _) fun _ _ _ => rfl, HU.out.2, gb_trans (gb_below HBL.out) hb1⟩
end Go.Proofs.Ythfagnbecocgdaa
