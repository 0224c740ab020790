/- A ring in memory; what a call changes that may write a ring's two blocks. -/
import Derived.Test.YtgcohmlapgnbdaaHA
import Derived.Test.YtgcohmlapgnbdaaIA
namespace Go.Proofs.Ytgcohmlapgnbdaa
open Go.RowKit Go.Shelf Go.Deep

/-- A ring as it lies: size, channels; each side's counter, view, whether it holds, how many; the frames, place behind place. -/
structure Rg where
  sz : Nat
  ch : Nat
  wc : Int
  wv : Int
  wh : Bool
  wn : Int
  rc : Int
  rv : Int
  rh : Bool
  rn : Int
  m : List (List Int)
def Rg.val (g : Rg) (R cap : Nat) : Nat → Value
  | 0 => .int .i64 g.sz
  | 1 => .int .i64 g.ch
  | 2 => .slice (some ⟨R, 0, none⟩) (g.sz * g.ch) cap
  | 3 => .int .u16 g.wc
  | 4 => .int .u16 g.wv
  | 5 => .bool g.wh
  | 6 => .int .i64 g.wn
  | 7 => .int .u16 g.rc
  | 8 => .int .u16 g.rv
  | 9 => .bool g.rh
  | _ => .int .i64 g.rn

structure Gw (P R : Nat) (w w' : World) : Prop where
  os : w'.os = w.os
  tape : w'.tape = w.tape
  output : w'.output = w.output
  size : w.heap.size ≤ w'.heap.size
  block : ∀ k, k < w.heap.size → k ≠ P → k ≠ R → w'.heap[k]? = w.heap[k]?
theorem Gw.refl (P R : Nat) (w : World) : Gw P R w w := ⟨rfl, rfl, rfl, Nat.le_refl _, fun _ _ _ _ => rfl⟩
theorem Gw.trans {P R : Nat} {w w1 w2 : World} (h : Gw P R w w1) (h2 : Gw P R w1 w2) : Gw P R w w2 :=
  ⟨h2.os.trans h.os, h2.tape.trans h.tape, h2.output.trans h.output, Nat.le_trans h.size h2.size, fun k hk h3 h4 => (h2.block k (Nat.lt_of_lt_of_le hk h.size) h3 h4).trans (h.block k hk h3 h4)⟩
theorem gw_below {P R : Nat} {w w' : World} (h : Below w.heap.size w w') : Gw P R w w' := ⟨h.os, h.tape, h.output, h.size, fun k hk _ _ => h.block k hk⟩
theorem Gw.setP {P R : Nat} {w w' : World} (h : Gw P R w w') (o : Nat) (v : Value) : Gw P R w (w'.setCell ⟨P, o, none⟩ v) :=
  ⟨h.os, h.tape, h.output, by simpa using h.size, fun k hk h1 h2 => (blk_setCell_other _ _ _ _ h1).trans (h.block k hk h1 h2)⟩
theorem Gw.setR {P R : Nat} {w w' : World} (h : Gw P R w w') (o : Nat) (v : Value) : Gw P R w (w'.setCell ⟨R, o, none⟩ v) :=
  ⟨h.os, h.tape, h.output, by simpa using h.size, fun k hk h1 h2 => (blk_setCell_other _ _ _ _ h2).trans (h.block k hk h1 h2)⟩
theorem Gw.below {P R : Nat} {w w1 w2 : World} (h : Gw P R w w1) (h2 : Below w1.heap.size w1 w2) : Gw P R w w2 := h.trans (gw_below h2)
theorem Gw.drewN {P R : Nat} {w w1 : World} (h : Gw P R w w1) (n : Nat) : Gw P R w (w1.drewN n) := h.below (below_drewN (Below.refl _ _) n)
theorem Gw.alloc {P R : Nat} {w w1 : World} (h : Gw P R w w1) (o : Obj) : Gw P R w (w1.alloc o) := h.below ((Below.refl _ _).alloc (Nat.le_refl _) _)
/-- Where both blocks are new, all that lies below is as it was. -/
theorem Gw.to_below {P R B : Nat} {w w1 w2 : World} (h0 : Below B w w1) (h : Gw P R w1 w2) (hB : B ≤ w1.heap.size) (hP : B ≤ P) (hR : B ≤ R) : Below B w w2 :=
  h0.trans ⟨h.os, h.tape, h.output, h.size, fun k hk => h.block k (by omega) (by omega) (by omega)⟩
theorem Gw.cell {P R : Nat} {w w' : World} {p : Addr} {v : Value} (hg : Gw P R w w') (h : w.cell? p = some v) (h1 : p.block ≠ P) (h2 : p.block ≠ R) : w'.cell? p = some v := by
  rw [World.cell?_of_block (hg.block p.block (cell_lt h) h1 h2)]; exact h
theorem Gw.row {P R b t n : Nat} {F : Nat → Value} {w w' : World} (hg : Gw P R w w') (h : w.rowIs b t n F) (h1 : b ≠ P) (h2 : b ≠ R) : w'.rowIs b t n F := h.of_block (hg.block b h.lt h1 h2)

/-- The sample at an index. -/
def Rg.smp (g : Rg) (i : Nat) : Int := (g.m.getD (i / g.ch) []).getD (i % g.ch) 0
structure RingAt (P R : Nat) (g : Rg) (w : World) : Prop where
  ne : P ≠ R
  len : g.m.length = g.sz
  rl : ∀ p, p < g.sz → (g.m.getD p []).length = g.ch
  cap : ∃ cap, g.sz * g.ch ≤ cap ∧ w.rowIs P 77 11 (g.val R cap)
  row : ∃ N G, w.rowIs R 3 N G ∧ g.sz * g.ch ≤ N ∧ ∀ i, i < g.sz * g.ch → G i = .int .i64 (g.smp i)
/-- A ring that is used has these. -/
structure Rg.Ok (g : Rg) : Prop where
  s1 : 1 ≤ g.sz
  s2 : g.sz ≤ 1024
  c1 : 1 ≤ g.ch
  c2 : g.ch ≤ 8
  wc : 0 ≤ g.wc ∧ g.wc ≤ 65535
  rc : 0 ≤ g.rc ∧ g.rc ≤ 65535
  vals : ∀ p i, I64 ((g.m.getD p []).getD i 0)

variable {P R : Nat} {g : Rg} {w w' : World}
theorem RingAt.lt (h : RingAt P R g w) : P < w.heap.size ∧ R < w.heap.size := by
  obtain ⟨cap, _, h1⟩ := h.cap
  obtain ⟨N, G, h2, _⟩ := h.row
  exact ⟨h1.lt, h2.lt⟩
theorem RingAt.of_blocks (h : RingAt P R g w) (hp : w'.heap[P]? = w.heap[P]?) (hr : w'.heap[R]? = w.heap[R]?) : RingAt P R g w' := by
  obtain ⟨cap, h0, h1⟩ := h.cap
  obtain ⟨N, G, h2, h3, h4⟩ := h.row
  exact ⟨h.ne, h.len, h.rl, ⟨cap, h0, h1.of_block hp⟩, N, G, h2.of_block hr, h3, h4⟩
theorem RingAt.below (h : RingAt P R g w) (hb : Below w.heap.size w w') : RingAt P R g w' := h.of_blocks (hb.block _ h.lt.1) (hb.block _ h.lt.2)
theorem RingAt.keep {Q T : Nat} (h : RingAt P R g w) (hg : Gw Q T w w') (h1 : P ≠ Q) (h2 : P ≠ T) (h3 : R ≠ Q) (h4 : R ≠ T) : RingAt P R g w' := h.of_blocks (hg.block _ h.lt.1 h1 h2) (hg.block _ h.lt.2 h3 h4)
theorem RingAt.frozen (h : RingAt P R g w) (k : Nat) : w.frozen? ⟨P, k, none⟩ = false := by
  obtain ⟨cap, _, h1⟩ := h.cap
  exact h1.frozen k
theorem RingAt.frozenR (h : RingAt P R g w) (k : Nat) : w.frozen? ⟨R, k, none⟩ = false := by
  obtain ⟨N, G, h2, _⟩ := h.row
  exact h2.frozen k
theorem RingAt.cells (h : RingAt P R g w) : ∃ cap, g.sz * g.ch ≤ cap ∧ ∀ k, k < 11 → w.cell? ⟨P, k, none⟩ = some (g.val R cap k) := by
  obtain ⟨cap, h0, h1⟩ := h.cap
  exact ⟨cap, h0, fun k hk => h1.cell hk⟩
theorem RingAt.c (h : RingAt P R g w) {k : Nat} (hk : k < 11) (h2 : k ≠ 2) : w.cell? ⟨P, k, none⟩ = some (g.val 0 0 k) := by
  obtain ⟨cap, _, hc⟩ := h.cells
  rw [hc k hk]
  match k with
  | 0 => rfl
  | 1 => rfl
  | 2 => exact absurd rfl h2
  | 3 => rfl
  | 4 => rfl
  | 5 => rfl
  | 6 => rfl
  | 7 => rfl
  | 8 => rfl
  | 9 => rfl
  | 10 => rfl
  | k + 11 => omega
theorem RingAt.sample (h : RingAt P R g w) {i : Nat} (hi : i < g.sz * g.ch) : w.cell? ⟨R, i, none⟩ = some (.int .i64 (g.smp i)) := by
  obtain ⟨N, G, h2, h3, h4⟩ := h.row
  rw [h2.cell (by omega), h4 i hi]
/-- A cell of the struct is written. -/
theorem RingAt.put (h : RingAt P R g w) (g' : Rg) (k : Nat) (v : Value) (hs : g'.sz = g.sz) (hc : g'.ch = g.ch) (hcs : g'.m = g.m) (hv : g'.val 0 0 k = v) (hk2 : k ≠ 2) (ho : ∀ j, j < 11 → j ≠ k → g'.val 0 0 j = g.val 0 0 j) : RingAt P R g' (w.setCell ⟨P, k, none⟩ v) := by
  obtain ⟨cap, h0, h1⟩ := h.cap
  obtain ⟨N, G, h2, h3, h4⟩ := h.row
  refine ⟨h.ne, by rw [hs, hcs]; exact h.len, by rw [hs, hc, hcs]; exact h.rl, ⟨cap, by rw [hs, hc]; exact h0, (h1.set k v).congr fun i hi => ?_⟩, N, G, h2.of_block (blk_setCell_other _ _ _ _ (Ne.symm h.ne)), by rw [hs, hc]; exact h3, by rw [hs, hc]; unfold Rg.smp; rw [hc, hcs]; exact h4⟩
  have hval : ∀ (a : Rg) (j : Nat), j ≠ 2 → a.val R cap j = a.val 0 0 j := fun a j hj => by
    match j with
    | 0 => rfl
    | 1 => rfl
    | 2 => exact absurd rfl hj
    | 3 => rfl
    | 4 => rfl
    | 5 => rfl
    | 6 => rfl
    | 7 => rfl
    | 8 => rfl
    | 9 => rfl
    | j + 10 => rfl
  by_cases e : i = k
  · subst e; rw [if_pos rfl, ← hv, hval g' i hk2]
  · rw [if_neg e]
    by_cases e2 : i = 2
    · subst e2; show Value.slice _ _ _ = Value.slice _ _ _; rw [hs, hc]
    · rw [hval g i e2, hval g' i e2, ho i hi e]
theorem RingAt.size_le (h : RingAt P R g w) (hk : g.Ok) : g.sz * g.ch ≤ 8192 := Nat.le_trans (Nat.mul_le_mul hk.s2 hk.c2) (by decide)
end Go.Proofs.Ytgcohmlapgnbdaa
