/- Rows and matrices in memory; comparing rows. -/
import Derived.Test.YtinlcgcnjlifkaaProg
import Derived.WalkKit
import Derived.WalkSpells
import Derived.WalkLawsBesides
import Derived.Lib.Hide
import Derived.BigGuardPart
import Derived.Outline
import Derived.Deep.QuietTactic
import Derived.Deep.RegionHeld3
import Derived.BigQuiet
import Derived.IntWalk
import Derived.Deep.Cut
import Derived.Deep.AppendLies
import Derived.StillTailTactics
namespace Go.Proofs.Ytinlcgcnjlifkaa
open Go.RowKit

def I64 (n : Int) : Prop := -9223372036854775808 ≤ n ∧ n ≤ 9223372036854775807

def IntsIn (w : World) (a : Option Addr) (l : List Int) : Prop :=
  ∀ i, i < l.length → ∃ b off, a = some ⟨b, off, none⟩ ∧ w.cell? ⟨b, off + i, none⟩ = some (.int .i64 (l.getD i 0)) ∧ I64 (l.getD i 0)

/-- What lies below a block's number is as it was. -/
def Same (w w' : World) : Prop := ∀ a : Addr, a.block < w.heap.size → w'.cell? a = w.cell? a

theorem cell_lt {w : World} {a : Addr} {v : Value} (h : w.cell? a = some v) : a.block < w.heap.size := by
  unfold World.cell? at h
  by_cases hb : a.block < w.heap.size
  · exact hb
  · rw [Array.getElem?_eq_none (by omega)] at h
    simp at h
theorem Same.of_below {w w' : World} (h : Below w.heap.size w w') : Same w w' := fun _ ha => h.cell ha
theorem Same.of_below' {B : Nat} {w w' : World} (h : Below B w w') (hB : w.heap.size ≤ B) : Same w w' := fun _ ha => h.cell (Nat.lt_of_lt_of_le ha hB)
theorem Same.refl (w : World) : Same w w := fun _ _ => rfl
theorem Same.alloc (w : World) (o : Obj) : Same w (w.alloc o) := fun a ha => World.cell?_of_block (w := w) (Below.heap_alloc w o a.block ha)
theorem Same.cell {w w' : World} (h : Same w w') {a : Addr} {v : Value} (hc : w.cell? a = some v) : w'.cell? a = some v := by
  rw [h a (cell_lt hc)]; exact hc
theorem Same.drewN (w : World) (n : Nat) : Same w (w.drewN n) := fun _ _ => rfl

theorem IntsIn.mono {w w' : World} (h : Same w w') {a : Option Addr} {l : List Int} (hk : IntsIn w a l) : IntsIn w' a l := by
  intro i hi
  obtain ⟨b, off, ha, hc, hb⟩ := hk i hi
  exact ⟨b, off, ha, h.cell hc, hb⟩
theorem IntsIn.nil (w : World) (a : Option Addr) : IntsIn w a [] := fun i hi => by simp at hi

/-- A value that is a list of numbers. -/
def RowIn (w : World) (l : List Int) (v : Value) : Prop := ∃ a cap, v = .slice a l.length cap ∧ IntsIn w a l ∧ l.length ≤ 17592186044416 ∧ l.length ≤ cap
theorem RowIn.mono {w w' : World} (h : Same w w') {l : List Int} {v : Value} (hc : RowIn w l v) : RowIn w' l v := by
  obtain ⟨a, cap, h1, h2, h3, h4⟩ := hc
  exact ⟨a, cap, h1, h2.mono h, h3, h4⟩

/-- A value that is a list of such. -/
def RowsIn (w : World) (a : Option Addr) (m : List (List Int)) : Prop :=
  ∀ i, i < m.length → ∃ b off v, a = some ⟨b, off, none⟩ ∧ w.cell? ⟨b, off + i, none⟩ = some v ∧ RowIn w (m.getD i []) v
def MatIn (w : World) (m : List (List Int)) (v : Value) : Prop := ∃ a cap, v = .slice a m.length cap ∧ RowsIn w a m ∧ m.length ≤ 17592186044416 ∧ m.length ≤ cap
theorem RowsIn.mono {w w' : World} (h : Same w w') {a : Option Addr} {m : List (List Int)} (hk : RowsIn w a m) : RowsIn w' a m := by
  intro i hi
  obtain ⟨b, off, v, ha, hc, hb⟩ := hk i hi
  exact ⟨b, off, v, ha, h.cell hc, hb.mono h⟩
theorem MatIn.mono {w w' : World} (h : Same w w') {m : List (List Int)} {v : Value} (hc : MatIn w m v) : MatIn w' m v := by
  obtain ⟨a, cap, h1, h2, h3, h4⟩ := hc
  exact ⟨a, cap, h1, h2.mono h, h3, h4⟩

theorem ret_bool {a b : Bool} (h : a = b) : Ending.returned (.bool a) = .returned (.bool b) := by rw [h]
theorem ret_int {k : IntKind} {a b : Int} (h : a = b) : Ending.returned (.int k a) = .returned (.int k b) := by rw [h]
theorem below_drewN {B : Nat} {w wr : World} (h : Below B w wr) (n : Nat) : Below B w (wr.drewN n) := h.trans ⟨rfl, rfl, rfl, Nat.le_refl _, fun _ _ => rfl⟩
theorem list_eq_of {xs ys : List Int} (hl : xs.length = ys.length) (h : ∀ j, j < xs.length → xs.getD j 0 = ys.getD j 0) : xs = ys := by
  apply List.ext_getElem hl
  intro i h1 h2
  have := h i h1
  simpa [List.getD, h1, h2] using this
theorem mat_eq_of {xs ys : List (List Int)} (hl : xs.length = ys.length) (h : ∀ j, j < xs.length → xs.getD j [] = ys.getD j []) : xs = ys := by
  apply List.ext_getElem hl
  intro i h1 h2
  have := h i h1
  simpa [List.getD, h1, h2] using this

set_option maxHeartbeats 1000000 in
/-- Two lists of numbers are compared. -/
theorem sameRow_any (xs ys : List Int) (va vb : Value) (w : World) (ha : RowIn w xs va) (hb : RowIn w ys vb) :
    Calls Try.prog 36 #[va, vb] w fun e w' => e = .returned (.bool (decide (xs = ys))) ∧ Below w.heap.size w w' := by
  obtain ⟨a, ca, rfl, hin, hal, _⟩ := ha
  obtain ⟨b, cb, rfl, hinb, hbl, _⟩ := hb
  by_cases hl : xs.length = ys.length
  · have HL := Lib.hid hl
    have e0 : (ys.length : Int) = (xs.length : Int) := by omega
    rw [← hl]
    clear hl e0 hbl
    go_enter Try.func36, Try.ntmps36
    go_wp2_with fail
    go_loopw [5] (fun i wr => ∃ k : Nat, i = .int .i64 k ∧ k ≤ xs.length ∧ (∀ j, j < k → xs.getD j 0 = ys.getD j 0) ∧ Below w.heap.size w wr) (fun i _ => xs.length - (intOf i).toNat)
    case atStart => exact ⟨0, rfl, Nat.zero_le _, fun _ h => absurd h (Nat.not_lt_zero _), Below.refl _ _⟩
    case round =>
      obtain ⟨k, rfl, hk, hok, hbl⟩ := hrel
      have Hok := Lib.hid hok
      clear hok
      by_cases hlt : k < xs.length
      · obtain ⟨ba, off, rfl, hc, _⟩ := (hin.mono (Same.of_below hbl)) k hlt
        obtain ⟨bb, off', rfl, hc', _⟩ := (hinb.mono (Same.of_below hbl)) k (by have := HL.out; omega)
        obtain ⟨p, hp⟩ : ∃ p, xs.getD k 0 = p := ⟨_, rfl⟩
        obtain ⟨q, hq⟩ : ∃ q, ys.getD k 0 = q := ⟨_, rfl⟩
        rw [hp] at hc
        rw [hq] at hc'
        have Hpq := Lib.hid (And.intro hp hq)
        clear hp hq
        have w4 : (k : Int) < (xs.length : Int) := by omega
        by_cases e : p = q
        · have e' : (p != q) = false := by simp [e]
          have E := Lib.hid e
          clear e
          go_wp2_with fail
          go_quiet (fail)
          go_wp2_with fail
          go_roundw
          case rel =>
            refine ⟨k + 1, by go_num, by omega, fun j hj => ?_, below_drewN hbl _⟩
            by_cases ej : j = k
            · subst ej; rw [Hpq.out.1, Hpq.out.2]; exact E.out
            · exact Hok.out j (by omega)
          case measure => simp [intOf]; omega
        · have e' : (p != q) = true := by simp [e]
          have E := Lib.hid e
          clear e
          go_wp2_with fail
          go_quiet (fail)
          go_wp2_with fail
          go_ret
          refine ⟨ret_bool ?_, below_drewN hbl _⟩
          have : ¬ xs = ys := fun h => E.out (by rw [← Hpq.out.1, ← Hpq.out.2, h])
          simp [this]
      · have w4 : ¬ (k : Int) < (xs.length : Int) := by omega
        go_wp2_with fail
        go_ret
        refine ⟨ret_bool ?_, hbl⟩
        simp [list_eq_of HL.out fun j hj => Hok.out j (by omega)]
  · have hne : ((xs.length : Int) != (ys.length : Int)) = true := by simp; omega
    have HL := Lib.hid hl
    clear hl
    go_enter Try.func36, Try.ntmps36
    go_wp2_with fail
    go_ret
    refine ⟨ret_bool ?_, Below.refl _ _⟩
    have : ¬ xs = ys := fun h => HL.out (by rw [h])
    simp [this]
end Go.Proofs.Ytinlcgcnjlifkaa
