/- What a choice in memory stands for, and that it stays; the least functions on choices. -/
import Derived.Test.YtlpdeadmiinhoaaGreatDoorProg
import Derived.Test.YtlpdeadmiinhoaaGreatDoorMB
import Derived.WalkKit
import Derived.WalkSpells
import Derived.WalkLawsBesides
import Derived.Lib.Hide
import Derived.BigGuardPart
import Derived.Outline
import Derived.Deep.QuietTactic
import Derived.Deep.RegionHeld3
import Derived.BigQuiet
import Derived.IntWalk
import Derived.Deep.Cut
import Derived.Deep.AppendLies
import Derived.StillTailTactics
namespace Go.Proofs.YtlpdeadmiinhoaaGreatDoor
open Go.RowKit

def I64 (n : Int) : Prop := -9223372036854775808 ≤ n ∧ n ≤ 9223372036854775807

def IntsIn (w : World) (a : Option Addr) (l : List Int) : Prop :=
  ∀ i, i < l.length → ∃ b off, a = some ⟨b, off, none⟩ ∧ w.cell? ⟨b, off + i, none⟩ = some (.int .i64 (l.getD i 0)) ∧ I64 (l.getD i 0)

/-- What lies below a block's number is as it was. -/
def Same (w w' : World) : Prop := ∀ a : Addr, a.block < w.heap.size → w'.cell? a = w.cell? a

theorem cell_lt {w : World} {a : Addr} {v : Value} (h : w.cell? a = some v) : a.block < w.heap.size := by
  unfold World.cell? at h
  by_cases hb : a.block < w.heap.size
  · exact hb
  · rw [Array.getElem?_eq_none (by omega)] at h
    simp at h
theorem Same.of_below {w w' : World} (h : Below w.heap.size w w') : Same w w' := fun _ ha => h.cell ha
theorem Same.of_below' {B : Nat} {w w' : World} (h : Below B w w') (hB : w.heap.size ≤ B) : Same w w' := fun _ ha => h.cell (Nat.lt_of_lt_of_le ha hB)
theorem Same.refl (w : World) : Same w w := fun _ _ => rfl
theorem Same.alloc (w : World) (o : Obj) : Same w (w.alloc o) := fun a ha => World.cell?_of_block (w := w) (Below.heap_alloc w o a.block ha)
theorem Same.cell {w w' : World} (h : Same w w') {a : Addr} {v : Value} (hc : w.cell? a = some v) : w'.cell? a = some v := by
  rw [h a (cell_lt hc)]; exact hc
theorem Same.of_box {w wr : World} {o : Obj} (h : Below (w.heap.size + 1) (w.alloc o) wr) : Same w wr := fun a ha => by
  rw [h.cell (by omega)]
  exact World.cell?_of_block (w := w) (Below.heap_alloc w o a.block ha)

theorem IntsIn.mono {w w' : World} (h : Same w w') {a : Option Addr} {l : List Int} (hk : IntsIn w a l) : IntsIn w' a l := by
  intro i hi
  obtain ⟨b, off, ha, hc, hb⟩ := hk i hi
  exact ⟨b, off, ha, h.cell hc, hb⟩
theorem IntsIn.nil (w : World) (a : Option Addr) : IntsIn w a [] := fun i hi => by simp at hi

/-- A value that is a choice. -/
def ChIn (w : World) (c : Ch) (v : Value) : Prop :=
  ∃ a cap, v = .agg #[.int .i64 c.kind, .int .i64 c.dflt, .slice a c.list.length cap] ∧ I64 c.kind ∧ I64 c.dflt ∧ c.list.length ≤ 17592186044416 ∧ IntsIn w a c.list ∧ c.list.length ≤ cap
theorem ChIn.mono {w w' : World} (h : Same w w') {c : Ch} {v : Value} (hc : ChIn w c v) : ChIn w' c v := by
  obtain ⟨a, cap, h1, h2, h3, h4, h5, h6⟩ := hc
  exact ⟨a, cap, h1, h2, h3, h4, h5.mono h, h6⟩

theorem ret_bool {a b : Bool} (h : a = b) : Ending.returned (.bool a) = .returned (.bool b) := by rw [h]
theorem ret_int {k : IntKind} {a b : Int} (h : a = b) : Ending.returned (.int k a) = .returned (.int k b) := by rw [h]
theorem all_yes {n : Nat} {f : Nat → Bool} (h : ∀ j, j < n → f j = true) : (List.range n).all f = true := by
  simp only [List.all_eq_true, List.mem_range]; exact h
theorem all_no {n j : Nat} {f : Nat → Bool} (hj : j < n) (h : f j = false) : (List.range n).all f = false := by
  simp only [List.all_eq_false, List.mem_range]; exact ⟨j, hj, by simp [h]⟩
theorem ok_snoc {f : Nat → Bool} {k : Nat} (h : Hid (∀ j, j < k → f j = true)) (hk : f k = true) : ∀ j, j < k + 1 → f j = true := fun j hj => by
  by_cases e : j = k
  · rw [e]; exact hk
  · exact h.out j (by omega)
/-- What lies behind a box. -/
def In1 (w : World) (X : Obj) (wr : World) : Prop := Below (w.heap.size + 1) (w.alloc X) wr
theorem In1.first (w : World) (X : Obj) : In1 w X (w.alloc X) := Below.refl _ _
theorem In1.next {w wr w1 : World} {X : Obj} (h : In1 w X wr) (hb : Below wr.heap.size wr w1) : In1 w X w1 := by
  have hs : (w.alloc X).heap.size = w.heap.size + 1 := by simp
  have := Below.size h
  exact Below.trans h (hb.mono (by omega))
theorem In1.drew {w wr : World} {X : Obj} (h : In1 w X wr) : In1 w X wr.drew := Below.drew h
theorem In1.drewN {w wr : World} {X : Obj} (h : In1 w X wr) (n : Nat) : In1 w X (wr.drewN n) := below_drewN h n
theorem In1.out {w wr : World} {X : Obj} (h : In1 w X wr) : Below w.heap.size w wr :=
  ((Below.refl _ w).alloc (Nat.le_refl _) X).trans (Below.mono h (by omega))
theorem In1.same {w wr : World} {X : Obj} (h : In1 w X wr) : Same w wr := Same.of_below h.out
theorem In1.cells3 {w wr : World} {x0 x1 x2 : Value} {T : TypeId} (h : In1 w (.cells #[x0, x1, x2] T) wr) :
    wr.cell? ⟨w.heap.size, 0, none⟩ = some x0 ∧ wr.cell? ⟨w.heap.size, 1, none⟩ = some x1 ∧ wr.cell? ⟨w.heap.size, 2, none⟩ = some x2 := by
  refine ⟨?_, ?_, ?_⟩ <;> (rw [Below.cell h (by simp)]; simp [go_sem])
theorem calls_in1 {w wr : World} {X : Obj} {f : Nat} {args : Array Value} {v : Value} (h : In1 w X wr) (c : Calls Tryz.prog f args wr fun e w' => e = .returned v ∧ Below wr.heap.size wr w') :
    Calls Tryz.prog f args wr fun e w' => e = .returned v ∧ In1 w X w' := c.mono fun e w' ⟨a, b⟩ => ⟨a, h.next b⟩

/-- The step of a range. -/
theorem step_any (c : Ch) (v : Value) (w : World) (hc : ChIn w c v) (h : c.kind = 4 → 3 ≤ c.list.length) :
    Calls Tryz.prog 57 #[v] w fun e w' => e = .returned (.int .i64 c.sp.st) ∧ Below w.heap.size w w' := by
  obtain ⟨a, cap, rfl, hk1, hd1, hl, hin, _⟩ := hc
  obtain ⟨kd, d, l⟩ := c
  by_cases h4 : kd = 4
  · subst h4
    have h3 := h rfl
    obtain ⟨b, off, rfl, hcell, _⟩ := (hin.mono (Same.alloc w (.cells #[.int .i64 4, .int .i64 d, .slice a l.length cap] 24))) 2 (by simp only at h3 ⊢; omega)
    have hlt : (2 : Int) < (l.length : Int) := by simp only at h3; omega
    obtain ⟨x, hx⟩ : ∃ x, l.getD 2 0 = x := ⟨_, rfl⟩
    have e : (Ch.mk 4 d l).sp.st = x := by unfold Ch.sp; simp [← hx]
    rw [e]
    simp only [hx] at hcell
    clear e hx h h3
    go_enter Tryz.func57, Tryz.ntmps57
    go_wp2
    go_ret
    exact ⟨rfl, (Below.refl _ _).alloc (Nat.le_refl _) _⟩
  · have e : (Ch.mk kd d l).sp.st = 1 := by unfold Ch.sp; simp [h4]
    have h4' : (kd == 4) = false := by simpa using h4
    rw [e]
    clear e h
    go_enter Tryz.func57, Tryz.ntmps57
    go_wp2
    go_ret
    exact ⟨rfl, (Below.refl _ _).alloc (Nat.le_refl _) _⟩
end Go.Proofs.YtlpdeadmiinhoaaGreatDoor
