/- A Volume in memory; what a call changes where it may write one old block. -/
import Derived.Test.YthfagnbecocgdaaRI
namespace Go.Proofs.Ythfagnbecocgdaa
open Go.RowKit Go.Shelf Go.Deep

/-- A channel's volume: its ramp (from, to, frames, at), its gain, its mute. -/
structure Ch where
  f : Int
  t : Int
  n : Int
  a : Int
  g : Int
  m : Bool
def Ch.val (c : Ch) : Nat → Value
  | 0 => .int .i64 c.f
  | 1 => .int .i64 c.t
  | 2 => .int .i64 c.n
  | 3 => .int .i64 c.a
  | 4 => .int .i64 c.g
  | _ => .bool c.m
def Ch.zero : Ch := ⟨0, 0, 0, 0, 0, false⟩
def chAt (cs : List Ch) (i : Nat) : Ch := cs.getD i Ch.zero
/-- What a Volume of the API's holds: each channel's ramp fits, and leads to the channel's target. -/
structure Ch.Ok (c : Ch) : Prop where
  ramp : RampOk c.f c.t c.n c.a
  gain : 0 ≤ c.g ∧ c.g ≤ 655360

theorem gb_trans {w w1 w2 : World} {R : Nat} (h : w.grownBy w1 (some R)) (h2 : w1.grownBy w2 (some R)) : w.grownBy w2 (some R) :=
  ⟨h2.os.trans h.os, h2.tape.trans h.tape, h2.output.trans h.output, Nat.le_trans h.size h2.size, fun k hk hne => (h2.block k (Nat.lt_of_lt_of_le hk h.size) hne).trans (h.block k hk hne)⟩
theorem gb_below {w w' : World} {R : Option Nat} (h : Below w.heap.size w w') : w.grownBy w' R := ⟨h.os, h.tape, h.output, h.size, fun k hk _ => h.block k hk⟩
theorem gb_refl (w : World) (R : Option Nat) : w.grownBy w R := ⟨rfl, rfl, rfl, Nat.le_refl _, fun _ _ _ => rfl⟩
theorem gb_set (w : World) (R o : Nat) (v : Value) : w.grownBy (w.setCell ⟨R, o, none⟩ v) (some R) :=
  ⟨rfl, rfl, rfl, by simp, fun k _ hk => blk_setCell_other _ _ _ _ (fun e => hk (by simp [e]))⟩
theorem gb_row {w w' : World} {R b t n : Nat} {F : Nat → Value} (h : w.rowIs b t n F) (hg : w.grownBy w' (some R)) (hb : b ≠ R) : w'.rowIs b t n F := h.of_block (hg.block b h.lt (fun e => hb (by cases e; rfl)))
theorem gb_cell {w w' : World} {R : Nat} {p : Addr} {v : Value} (h : w.cell? p = some v) (hg : w.grownBy w' (some R)) (hb : p.block ≠ R) : w'.cell? p = some v := by
  rw [World.cell?_of_block (hg.block p.block (cell_lt h) (fun e => hb (by cases e; rfl)))]; exact h
theorem gb_frozen {w w' : World} {R : Nat} {p : Addr} (hl : p.block < w.heap.size) (hg : w.grownBy w' (some R)) (hb : p.block ≠ R) : w'.frozen? p = w.frozen? p :=
  World.frozen?_of_block (hg.block p.block hl (fun e => hb (by cases e; rfl)))
theorem gb_ints {w w' : World} {R : Nat} {a : Option Addr} {r : List Int} (h : IntsIn w a r) (hg : w.grownBy w' (some R)) (hb : ∀ p, a = some p → p.block ≠ R) : IntsIn w' a r := fun i hi => by
  obtain ⟨b, o, e, hc, hI⟩ := h i hi
  exact ⟨b, o, e, gb_cell hc hg (hb ⟨b, o, none⟩ e), hI⟩

/-- A Volume: its struct in block P, its channels in block R. -/
structure VolAt (P R : Nat) (cs : List Ch) (w : World) : Prop where
  top : ∃ cap, w.cell? ⟨P, 0, none⟩ = some (.slice (some ⟨R, 0, none⟩) cs.length cap)
  ne : P ≠ R
  row : ∃ N G, w.rowIs R 80 N G ∧ 6 * cs.length ≤ N ∧ ∀ i, i < cs.length → ∀ j, j < 6 → G (i * 6 + j) = (chAt cs i).val j
theorem VolAt.cell {P R : Nat} {cs : List Ch} {w : World} (h : VolAt P R cs w) {i j : Nat} (hi : i < cs.length) (hj : j < 6) : w.cell? ⟨R, i * 6 + j, none⟩ = some ((chAt cs i).val j) := by
  obtain ⟨N, G, h1, h2, h3⟩ := h.row
  rw [h1.cell (by omega), h3 i hi j hj]
theorem VolAt.frozen {P R : Nat} {cs : List Ch} {w : World} (h : VolAt P R cs w) (k : Nat) : w.frozen? ⟨R, k, none⟩ = false := by
  obtain ⟨N, G, h1, _, _⟩ := h.row
  exact h1.frozen k
theorem VolAt.lt {P R : Nat} {cs : List Ch} {w : World} (h : VolAt P R cs w) : P < w.heap.size ∧ R < w.heap.size := by
  obtain ⟨N, G, h1, _, _⟩ := h.row
  obtain ⟨cap, h2⟩ := h.top
  exact ⟨cell_lt h2, h1.lt⟩
theorem VolAt.ramp {P R : Nat} {cs : List Ch} {w : World} (h : VolAt P R cs w) {i : Nat} (hi : i < cs.length) : RampAt R (i * 6) (chAt cs i).f (chAt cs i).t (chAt cs i).n (chAt cs i).a w :=
  ⟨h.cell hi (j := 0) (by omega), h.cell hi (j := 1) (by omega), h.cell hi (j := 2) (by omega), h.cell hi (j := 3) (by omega)⟩
theorem VolAt.keep {P R Q : Nat} {cs : List Ch} {w w' : World} (h : VolAt P R cs w) (hg : w.grownBy w' (some Q)) (h1 : P ≠ Q) (h2 : R ≠ Q) : VolAt P R cs w' := by
  obtain ⟨N, G, r1, r2, r3⟩ := h.row
  obtain ⟨cap, ht⟩ := h.top
  exact ⟨⟨cap, gb_cell ht hg h1⟩, h.ne, N, G, gb_row r1 hg h2, r2, r3⟩
theorem VolAt.below {P R : Nat} {cs : List Ch} {w w' : World} (h : VolAt P R cs w) (hb : Below w.heap.size w w') : VolAt P R cs w' := by
  obtain ⟨N, G, r1, r2, r3⟩ := h.row
  obtain ⟨cap, ht⟩ := h.top
  exact ⟨⟨cap, (Same.of_below hb).cell ht⟩, h.ne, N, G, r1.of_block (hb.block _ r1.lt), r2, r3⟩
theorem chAt_set {cs : List Ch} {i : Nat} (c : Ch) (hi : i < cs.length) (k : Nat) : chAt (cs.set i c) k = if k = i then c else chAt cs k := by
  unfold chAt
  rw [List.getD_eq_getElem?_getD, List.getElem?_set, List.getD_eq_getElem?_getD]
  by_cases e : k = i
  · subst e; simp [hi]
  · rw [if_neg (fun h => e h.symm), if_neg e]
theorem VolAt.put {P R : Nat} {cs : List Ch} {w : World} (h : VolAt P R cs w) {i j : Nat} (hi : i < cs.length) (hj : j < 6) (c : Ch) (x : Value) (hx : c.val j = x) (hc : ∀ k, k < 6 → k ≠ j → c.val k = (chAt cs i).val k) : VolAt P R (cs.set i c) (w.setCell ⟨R, i * 6 + j, none⟩ x) := by
  obtain ⟨N, G, r1, r2, r3⟩ := h.row
  obtain ⟨cap, ht⟩ := h.top
  refine ⟨⟨cap, ?_⟩, h.ne, N, _, r1.set (i * 6 + j) x, by simpa using r2, fun k hk q hq => ?_⟩
  · rw [World.cell?_setCell_other _ _ _ _ (fun e => h.ne (by have := congrArg Addr.block e; first | exact this | exact this.symm)), ht, List.length_set]
  · rw [List.length_set] at hk
    rw [chAt_set c hi]
    by_cases e : k = i
    · subst e
      rw [if_pos rfl]
      by_cases e2 : q = j
      · subst e2; rw [if_pos rfl, hx]
      · rw [if_neg (by omega), r3 k hk q hq, hc q hq e2]
    · rw [if_neg (by omega), if_neg e, r3 k hk q hq]
end Go.Proofs.Ythfagnbecocgdaa
