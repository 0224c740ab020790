/- Push's closure: rows appended while the volume's own block is written. -/
import Derived.Test.YthfagnbecocgdaaSA
namespace Go.Proofs.Ythfagnbecocgdaa
open Go.RowKit Go.Shelf Go.Deep

structure Rq (R : Nat) (w wr : World) (rows : List (List Int)) (vals : List Value) (v : Value) : Prop where
  frame : w.grownBy wr (some R)
  lt : R < w.heap.size
  len : vals.length = rows.length
  own : wr.ownsRow w.heap.size 40 1 v rows.length vals
  row : ∀ j, j < rows.length → wr.ownsRow w.heap.size 3 1 (vals.getD j undef) (rows.getD j []).length ((rows.getD j []).map (Value.int .i64)) ∧ Apart (vals.getD j undef) v
  ok : ∀ j, j < rows.length → okRow (rows.getD j [])
theorem Rq.start {R : Nat} {w : World} (h : R < w.heap.size) : Rq R w w [] [] (.slice none 0 0) := ⟨gb_refl _ _, h, rfl, World.ownsRow_nil _ _ _ _, fun j hj => absurd hj (Nat.not_lt_zero _), fun j hj => absurd hj (Nat.not_lt_zero _)⟩
theorem Rq.goes {R : Nat} {w wr w2 : World} {rows : List (List Int)} {vals : List Value} {v : Value} (h : Rq R w wr rows vals v) (hg : wr.grownBy w2 (some R)) : Rq R w w2 rows vals v :=
  ⟨gb_trans h.frame hg, h.lt, h.len, owns_grown h.own hg (fun g hv e => by cases e; have := (h.own.lt R hv).1; have := h.lt; omega),
    fun j hj => ⟨owns_grown (h.row j hj).1 hg (fun g hv e => by cases e; have := ((h.row j hj).1.lt R hv).1; have := h.lt; omega), (h.row j hj).2⟩, h.ok⟩
theorem Rq.step {R : Nat} {w wr Wm w2 : World} {rows : List (List Int)} {vals : List Value} {v v' u : Value} {r : List Int} (h : Rq R w wr rows vals v) (hb : Below wr.heap.size wr Wm) (ho : Wm.ownsRow wr.heap.size 3 1 u r.length (r.map (Value.int .i64)))
    (own2 : w2.ownsRow w.heap.size 40 1 v' (rows.length + 1) (vals ++ [u])) (hg : Wm.grownBy w2 v.ownBlock) (hm : Moved Wm v v') (hk : okRow r)   : Rq R w w2 (rows ++ [r]) (vals ++ [u]) v' := by
  have hsz := h.frame.size
  have hbw : w.grownBy Wm (some R) := gb_trans h.frame (gb_below hb)
  refine ⟨⟨hg.os.trans hbw.os, hg.tape.trans hbw.tape, hg.output.trans hbw.output, Nat.le_trans hbw.size hg.size, fun k hk hne => (hg.block k (Nat.lt_of_lt_of_le hk hbw.size) (fun e => by have := (h.own.lt k e.symm).1; omega)).trans (hbw.block k hk hne)⟩, h.lt, by simp [h.len], by simpa using own2, fun j hj => ?_, fun j hj => ?_⟩
  · simp at hj
    by_cases hlt : j < rows.length
    · rw [getD_snoc_lt (by rw [h.len]; exact hlt), getD_snoc_lt hlt]
      obtain ⟨h1, h2⟩ := h.row j hlt
      refine ⟨owns_grown (owns_below h1 hb) hg (fun g hu e => h2 g hu e), fun g hu e => ?_⟩
      rcases hm with hm | ⟨q, hq, hq2⟩
      · exact h2 g hu (hm.symm.trans e)
      · have := (h1.lt g hu).2
        have hs := hb.size
        rw [hq] at e; cases e; omega
    · obtain rfl : j = rows.length := by omega
      rw [getD_snoc_eq, ← h.len, getD_snoc_eq]
      have hlo : ∀ g, u.ownBlock = some g → wr.heap.size ≤ g ∧ g < Wm.heap.size := fun g hu => ho.lt g hu
      refine ⟨owns_grown (owns_base ho hsz) hg (fun g hu e => ?_), fun g hu e => ?_⟩
      · have := (h.own.lt g e).2
        have := hlo g hu
        omega
      · rcases hm with hm | ⟨q, hq, hq2⟩
        · have := (h.own.lt g (hm.symm.trans e)).2
          have := hlo g hu
          omega
        · have := hlo g hu
          rw [hq] at e; cases e; omega
  · simp at hj
    by_cases hlt : j < rows.length
    · rw [getD_snoc_lt hlt]; exact h.ok j hlt
    · obtain rfl : j = rows.length := by omega
      rw [getD_snoc_eq]; exact hk

theorem Rq.mat {R : Nat} {w wr : World} {rows : List (List Int)} {vals : List Value} {v : Value} (h : Rq R w wr rows vals v) (hr : rows.length ≤ 17592186044416) : MatNew w.heap.size wr rows v := by
  intro w' he
  have hol := h.own
  have hlt := hol.lt
  rcases hol.2 with ⟨rfl, h0⟩ | ⟨g, cap, cur, rfl, hb, hgg, hn, hcm, _, _⟩
  · exact ⟨none, 0, by rw [h0], (fun i hi => by omega), by omega, by omega⟩
  · refine ⟨some ⟨g, 0, none⟩, cap, rfl, fun i hi => ⟨g, 0, vals.getD i undef, rfl, ?_, owns_row (h.row i hi).1 (h.ok i hi) he⟩, hr, hn⟩
    have h1 := hol.cells (g := g) rfl i (vals.getD i undef) (by simp [List.getD, show i < vals.length by rw [h.len]; exact hi])
    rw [add_at] at h1
    have h2 := hlt g rfl
    rw [World.cell?_of_block (w := w') (w' := w') rfl, World.cell?_of_block (w := wr) (he g h2.1 h2.2)]
    exact h1

def goC (k : Int) (c : Ch) : Ch := { c with a := c.a + min k (c.n - c.a) }
theorem goC_ok {k : Int} (hk : 0 ≤ k) {c : Ch} (h : c.Ok) : (goC k c).Ok := ⟨⟨h.ramp.hf, h.ramp.ht, h.ramp.hn, by have := h.ramp.ha; simp only [goC]; omega⟩, h.gain⟩
theorem chs_eq {cs ds : List Ch} (hl : cs.length = ds.length) (h : ∀ i, i < cs.length → chAt cs i = chAt ds i) : cs = ds := by
  apply List.ext_getElem?
  intro i
  by_cases hi : i < cs.length
  · have := h i hi
    unfold chAt at this
    rw [List.getD_eq_getElem?_getD, List.getD_eq_getElem?_getD, List.getElem?_eq_getElem hi, List.getElem?_eq_getElem (by omega : i < ds.length)] at this
    rw [List.getElem?_eq_getElem hi, List.getElem?_eq_getElem (by omega : i < ds.length)]
    exact congrArg some this
  · rw [List.getElem?_eq_none (by omega), List.getElem?_eq_none (by omega)]
theorem chAt_map {cs : List Ch} {f : Ch → Ch} {i : Nat} (h : i < cs.length) : chAt (cs.map f) i = f (chAt cs i) := by simp [chAt, List.getD, h]
/-- What Push gives, and what is left of the channels. -/
def pushM (cs : List Ch) (b : List (List Int)) : List (List Int) := (List.range b.length).map fun i => scaledR (b.getD i []) (rampG (chAt cs i).f (chAt cs i).t (chAt cs i).n (chAt cs i).a)
theorem pushM_len (cs : List Ch) (b : List (List Int)) : (pushM cs b).length = b.length := by simp [pushM]
theorem pushM_at {cs : List Ch} {b : List (List Int)} {i : Nat} (h : i < b.length) : (pushM cs b).getD i [] = scaledR (b.getD i []) (rampG (chAt cs i).f (chAt cs i).t (chAt cs i).n (chAt cs i).a) := by simp [pushM, List.getD, h]
def GoneTo (cs ds : List Ch) (k : Int) (j : Nat) : Prop := ds.length = cs.length ∧ ∀ i, i < cs.length → chAt ds i = if i < j then goC k (chAt cs i) else chAt cs i
theorem GoneTo.start (cs : List Ch) (k : Int) : GoneTo cs cs k 0 := ⟨rfl, fun i _ => by rw [if_neg (Nat.not_lt_zero _)]⟩
theorem GoneTo.step {cs ds : List Ch} {k : Int} {j : Nat} (h : GoneTo cs ds k j) (hj : j < cs.length) : GoneTo cs (ds.set j (goC k (chAt cs j))) k (j + 1) := by
  refine ⟨by rw [List.length_set]; exact h.1, fun i hi => ?_⟩
  rw [chAt_set _ (by rw [h.1]; exact hj)]
  by_cases e : i = j
  · subst e; rw [if_pos rfl, if_pos (by omega)]
  · rw [if_neg e, h.2 i hi]
    by_cases e2 : i < j
    · rw [if_pos e2, if_pos (by omega)]
    · rw [if_neg e2, if_neg (by omega)]
theorem GoneTo.done {cs ds : List Ch} {k : Int} (h : GoneTo cs ds k cs.length) : ds = cs.map (goC k) :=
  chs_eq (by rw [h.1, List.length_map]) fun i hi => by rw [h.1] at hi; rw [h.2 i hi, if_pos hi, chAt_map hi]
end Go.Proofs.Ythfagnbecocgdaa
