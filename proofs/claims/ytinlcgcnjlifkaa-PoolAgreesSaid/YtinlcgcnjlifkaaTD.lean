/- Rows appended to a row of the call's own; the document's Part and Cut. -/
import Derived.Test.YtinlcgcnjlifkaaBB
import Derived.Test.YtinlcgcnjlifkaaHA
namespace Go.Proofs.Ytinlcgcnjlifkaa
open Go.RowKit Go.Shelf Go.Deep

/-- A matrix of new memory alone: what lies below block B does not matter. -/
def MatNew (B : Nat) (w : World) (m : List (List Int)) (v : Value) : Prop := ∀ w', (∀ k, B ≤ k → k < w.heap.size → w'.heap[k]? = w.heap[k]?) → MatIn w' m v
theorem MatNew.here {B : Nat} {w : World} {m : List (List Int)} {v : Value} (h : MatNew B w m v) : MatIn w m v := h w fun _ _ _ => rfl
theorem MatNew.mono {B B' : Nat} {w w' : World} {m : List (List Int)} {v : Value} (h : MatNew B w m v) (hB : B' ≤ B) (hs : w.heap.size ≤ w'.heap.size) (he : ∀ k, B ≤ k → k < w.heap.size → w'.heap[k]? = w.heap[k]?) : MatNew B' w' m v :=
  fun w2 h2 => h w2 fun k hk hlt => (h2 k (by omega) (by omega)).trans (he k hk hlt)

def Apart (u v : Value) : Prop := ∀ g, u.ownBlock = some g → v.ownBlock ≠ some g
def okRow (r : List Int) : Prop := r.length ≤ 17592186044416 ∧ ∀ i, i < r.length → I64 (r.getD i 0)

structure Rz (w wr : World) (rows : List (List Int)) (vals : List Value) (v : Value) : Prop where
  below : Below w.heap.size w wr
  len : vals.length = rows.length
  own : wr.ownsRow w.heap.size 37 1 v rows.length vals
  row : ∀ j, j < rows.length → wr.ownsRow w.heap.size 3 1 (vals.getD j undef) (rows.getD j []).length ((rows.getD j []).map (Value.int .i64)) ∧ Apart (vals.getD j undef) v
  ok : ∀ j, j < rows.length → okRow (rows.getD j [])

theorem Rz.start (w : World) : Rz w w [] [] (.slice none 0 0) := ⟨Below.refl _ _, rfl, World.ownsRow_nil _ _ _ _, fun j hj => absurd hj (Nat.not_lt_zero _), fun j hj => absurd hj (Nat.not_lt_zero _)⟩

theorem owns_base {w : World} {B B' : Nat} {e : TypeId} {s : Nat} {v : Value} {n : Nat} {xs : List Value} (h : w.ownsRow B e s v n xs) (hB : B' ≤ B) : w.ownsRow B' e s v n xs := by
  refine ⟨h.1, ?_⟩
  rcases h.2 with hn | ⟨g, cap, cur, rfl, hb, rest⟩
  · exact .inl hn
  · exact .inr ⟨g, cap, cur, rfl, Nat.le_trans hB hb, rest⟩
theorem owns_below {w w' : World} {B : Nat} {e : TypeId} {s : Nat} {v : Value} {n : Nat} {xs : List Value} (h : w.ownsRow B e s v n xs) (hb : Below w.heap.size w w') : w'.ownsRow B e s v n xs :=
  h.kept (row := none) ⟨hb.os, hb.tape, hb.output, hb.size, fun k hk _ => hb.block k hk⟩ (by cases v.ownBlock <;> simp)
theorem owns_grown {w w' : World} {B : Nat} {e : TypeId} {s : Nat} {v : Value} {n : Nat} {xs : List Value} {row : Option Nat} (h : w.ownsRow B e s v n xs) (hg : w.grownBy w' row) (hne : ∀ g, v.ownBlock = some g → row ≠ some g) : w'.ownsRow B e s v n xs :=
  h.kept hg (by
    cases hv : v.ownBlock with
    | none => exact .inl rfl
    | some g => exact .inr fun e => hne g hv e.symm)

theorem getD_snoc_lt {α : Type} {l : List α} {x d : α} {j : Nat} (h : j < l.length) : (l ++ [x]).getD j d = l.getD j d := by simp [List.getD, List.getElem?_append_left h]
theorem getD_snoc_eq {α : Type} {l : List α} {x d : α} : (l ++ [x]).getD l.length d = x := by simp [List.getD]

theorem Rz.step {w wr Wm w2 : World} {rows : List (List Int)} {vals : List Value} {v v' u : Value} {r : List Int} (h : Rz w wr rows vals v) (hb : Below wr.heap.size wr Wm) (ho : Wm.ownsRow wr.heap.size 3 1 u r.length (r.map (Value.int .i64)))
    (own2 : w2.ownsRow w.heap.size 37 1 v' (rows.length + 1) (vals ++ [u])) (hg : Wm.grownBy w2 v.ownBlock) (hm : Moved Wm v v') (hk : okRow r) : Rz w w2 (rows ++ [r]) (vals ++ [u]) v' := by
  have hsz := h.below.size
  have hbw : Below w.heap.size w Wm := Below.then h.below (Nat.le_refl _) hb
  refine ⟨hbw.grown hg hbw.size fun k hk => (h.own.lt k hk).1, by simp [h.len], by simpa using own2, fun j hj => ?_, fun j hj => ?_⟩
  · simp at hj
    by_cases hlt : j < rows.length
    · rw [getD_snoc_lt (by rw [h.len]; exact hlt), getD_snoc_lt hlt]
      obtain ⟨h1, h2⟩ := h.row j hlt
      refine ⟨owns_grown (owns_below h1 hb) hg (fun g hu e => h2 g hu e), fun g hu e => ?_⟩
      rcases hm with hm | ⟨q, hq, hq2⟩
      · exact h2 g hu (hm.symm.trans e)
      · have := (h1.lt g hu).2
        have hs := hb.size
        rw [hq] at e; cases e; omega
    · obtain rfl : j = rows.length := by omega
      rw [getD_snoc_eq, ← h.len, getD_snoc_eq]
      have hlo : ∀ g, u.ownBlock = some g → wr.heap.size ≤ g ∧ g < Wm.heap.size := fun g hu => ho.lt g hu
      refine ⟨owns_grown (owns_base ho hsz) hg (fun g hu e => ?_), fun g hu e => ?_⟩
      · have := (h.own.lt g e).2
        have := hlo g hu
        omega
      · rcases hm with hm | ⟨q, hq, hq2⟩
        · have := (h.own.lt g (hm.symm.trans e)).2
          have := hlo g hu
          omega
        · have := hlo g hu
          rw [hq] at e; cases e; omega
  · simp at hj
    by_cases hlt : j < rows.length
    · rw [getD_snoc_lt hlt]; exact h.ok j hlt
    · obtain rfl : j = rows.length := by omega
      rw [getD_snoc_eq]; exact hk

theorem add_at (g j : Nat) : (⟨g, 0, none⟩ : Addr).add j = ⟨g, 0 + j, none⟩ := by unfold Addr.add; split <;> simp_all
theorem owns_row {w w' : World} {B : Nat} {u : Value} {r : List Int} (h : w.ownsRow B 3 1 u r.length (r.map (Value.int .i64))) (hk : okRow r) (he : ∀ k, B ≤ k → k < w.heap.size → w'.heap[k]? = w.heap[k]?) : RowIn w' r u := by
  have hol := h
  have hlt := h.lt
  rcases h.2 with ⟨rfl, h0⟩ | ⟨g, cap, cur, rfl, hb, hgg, hn, hcm, _, _⟩
  · exact ⟨none, 0, by rw [h0], fun i hi => by omega, by omega, by omega⟩
  · refine ⟨some ⟨g, 0, none⟩, cap, rfl, fun i hi => ⟨g, 0, rfl, ?_, hk.2 i hi⟩, hk.1, hn⟩
    have h1 := hol.cells (g := g) rfl i (.int .i64 (r.getD i 0)) (by simp [List.getD, hi])
    rw [add_at] at h1
    have h2 := hlt g rfl
    rw [World.cell?_of_block (w := w) (he g h2.1 h2.2)]
    exact h1
theorem Rz.mat {w wr : World} {rows : List (List Int)} {vals : List Value} {v : Value} (h : Rz w wr rows vals v) (hr : rows.length ≤ 17592186044416) : MatNew w.heap.size wr rows v := by
  intro w' he
  have hol := h.own
  have hlt := hol.lt
  rcases hol.2 with ⟨rfl, h0⟩ | ⟨g, cap, cur, rfl, hb, hgg, hn, hcm, _, _⟩
  · exact ⟨none, 0, by rw [h0], (fun i hi => by omega), by omega, by omega⟩
  · refine ⟨some ⟨g, 0, none⟩, cap, rfl, fun i hi => ⟨g, 0, vals.getD i undef, rfl, ?_, owns_row (h.row i hi).1 (h.ok i hi) he⟩, hr, hn⟩
    have h1 := hol.cells (g := g) rfl i (vals.getD i undef) (by simp [List.getD, show i < vals.length by rw [h.len]; exact hi])
    rw [add_at] at h1
    have h2 := hlt g rfl
    rw [World.cell?_of_block (w := w') (w' := w') rfl, World.cell?_of_block (w := wr) (he g h2.1 h2.2)]
    exact h1
end Go.Proofs.Ytinlcgcnjlifkaa
