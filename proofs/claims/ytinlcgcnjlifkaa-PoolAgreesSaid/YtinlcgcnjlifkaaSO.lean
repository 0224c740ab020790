/- What a deal is settled to: blocks and stride. -/
import Derived.Test.YtinlcgcnjlifkaaSN
import Derived.BigQuiet
import Derived.Deep.QuietTactic
namespace Go.Proofs.Ytinlcgcnjlifkaa
open Go.RowKit Go.Shelf Go.Deep

/-- A deal's six numbers, whatever they are. -/
structure Dl where
  c : Int
  b : Int
  z : Int
  s : Int
  a : Int
  k : Int
abbrev Dl.v (x : Dl) : Value := .agg #[.int .i64 x.c, .int .i64 x.b, .int .i64 x.z, .int .i64 x.s, .int .i64 x.a, .int .i64 x.k]
abbrev Dl.o (x : Dl) : Obj := .cells #[.int .i64 x.c, .int .i64 x.b, .int .i64 x.z, .int .i64 x.s, .int .i64 x.a, .int .i64 x.k] 43
theorem Near.trans {n : Nat} {w1 w2 w3 : World} (h : Near n w1 w2) (g : Near n w2 w3) : Near n w1 w3 :=
  ⟨⟨g.1.1.trans h.1.1, g.1.2.1.trans h.1.2.1, g.1.2.2.trans h.1.2.2⟩, Nat.le_trans h.2.1 g.2.1, fun k hk hlt => (g.2.2 k hk (Nat.lt_of_lt_of_le hlt h.2.1)).trans (h.2.2 k hk hlt)⟩
theorem Near.refl (n : Nat) (w : World) : Near n w w := ⟨⟨rfl, rfl, rfl⟩, Nat.le_refl _, fun _ _ _ => rfl⟩
theorem Near.of {n : Nat} {w w' : World} (h : Below w.heap.size w w') : Near n w w' := ⟨⟨h.os, h.tape, h.output⟩, h.size, fun k _ hlt => h.block k hlt⟩
theorem blk_set {w : World} {r off : Nat} {v : Value} {c : Array Value} {t : TypeId} {fz : Nat × Nat} (h : w.heap[r]? = some (.cells c t fz)) : (w.setCell ⟨r, off, none⟩ v).heap[r]? = some (.cells (c.setIfInBounds off v) t fz) := by
  obtain ⟨hlt, hg⟩ := Array.getElem?_eq_some_iff.1 h
  unfold World.setCell
  rw [Array.getElem?_modify]
  simp [h]
theorem near_set (w : World) (r off : Nat) (v : Value) : Near r w (w.setCell ⟨r, off, none⟩ v) :=
  ⟨⟨rfl, rfl, rfl⟩, by simp, fun k hk _ => blk_setCell_other _ _ _ _ hk⟩
/-- The memory of one who settles: the deal, two boxes; all but the deal as it was. -/
structure S3 (w : World) (Bd : Nat) (a b : Wish) (x : Dl) (W : World) : Prop where
  hd : W.heap[Bd]? = some x.o
  ha : W.heap[w.heap.size]? = some (.cells a.c 23)
  hb : W.heap[w.heap.size + 1]? = some (.cells b.c 23)
  nr : Near Bd w W
  lt : Bd < w.heap.size
theorem S3.start {w : World} {Bd : Nat} {x : Dl} (a b : Wish) (h : w.heap[Bd]? = some x.o) : S3 w Bd a b x ((w.alloc (.cells a.c 23)).alloc (.cells b.c 23)) := by
  have hlt := (Array.getElem?_eq_some_iff.1 h).1
  have hb : Below w.heap.size w ((w.alloc (.cells a.c 23)).alloc (.cells b.c 23)) := ((Below.refl _ w).alloc (Nat.le_refl _) _).alloc (by simp) _
  refine ⟨(hb.block _ hlt).trans h, ?_, ?_, Near.of hb, hlt⟩
  · rw [Below.heap_alloc _ _ _ (by simp)]
    exact blk_alloc_new _ _
  · have := blk_alloc_new (w.alloc (.cells a.c 23)) (.cells b.c 23)
    simpa using this
theorem S3.below {w : World} {Bd : Nat} {a b : Wish} {x : Dl} {W W' : World} (h : S3 w Bd a b x W) (g : Below W.heap.size W W') : S3 w Bd a b x W' :=
  ⟨keep_blk g h.hd, keep_blk g h.ha, keep_blk g h.hb, h.nr.trans (Near.of g), h.lt⟩
theorem S3.set {w : World} {Bd : Nat} {a b : Wish} {x : Dl} {W : World} (h : S3 w Bd a b x W) (x' : Dl) (off : Nat) (v : Value) (hx : x'.o = .cells (#[.int .i64 x.c, .int .i64 x.b, .int .i64 x.z, .int .i64 x.s, .int .i64 x.a, .int .i64 x.k].setIfInBounds off v) 43) : S3 w Bd a b x' (W.setCell ⟨Bd, off, none⟩ v) := by
  have hlt := h.lt
  refine ⟨by rw [hx]; exact blk_set h.hd, ?_, ?_, h.nr.trans (near_set _ _ _ _), h.lt⟩
  · rw [blk_setCell_other _ _ _ _ (by show w.heap.size ≠ Bd; omega)]; exact h.ha
  · rw [blk_setCell_other _ _ _ _ (by show w.heap.size + 1 ≠ Bd; omega)]; exact h.hb
theorem frozen_blk {W : World} {r off : Nat} {c : Array Value} {t : TypeId} (h : W.heap[r]? = some (.cells c t)) : W.frozen? ⟨r, off, none⟩ = false := by simp [World.frozen?, h]
def SetA (Bd : Nat) (ok : Bool) (x' : Dl) (w : World) (e : Ending) (w' : World) : Prop := e = .returned (.bool ok) ∧ Near Bd w w' ∧ w'.heap[Bd]? = some x'.o
set_option maxRecDepth 100000 in
theorem settle38_any (Bd : Nat) (x : Dl) (a b : Wish) (w : World) (h : w.heap[Bd]? = some x.o) : Calls Try.prog 38 #[at0 Bd, a.v, b.v] w (SetA Bd (decide (a.blocks = b.blocks)) { x with b := a.blocks } w) := by
  have q0 := S3.start a b h
  clear h
  obtain ⟨a1, a2, a3, a4, a5, a6, a7⟩ := a
  obtain ⟨b1, b2, b3, b4, b5, b6, b7⟩ := b
  show Calls Try.prog 38 #[at0 Bd, .agg #[.int .i64 a1, .int .i64 a2, .int .i64 a3, .int .i64 a4, .int .i64 a5, .int .i64 a6, .int .i64 a7], .agg #[.int .i64 b1, .int .i64 b2, .int .i64 b3, .int .i64 b4, .int .i64 b5, .int .i64 b6, .int .i64 b7]] w _
  obtain ⟨Z, hZ⟩ : ∃ Z, (w.alloc (.cells #[.int .i64 a1, .int .i64 a2, .int .i64 a3, .int .i64 a4, .int .i64 a5, .int .i64 a6, .int .i64 a7] 23)).alloc (.cells #[.int .i64 b1, .int .i64 b2, .int .i64 b3, .int .i64 b4, .int .i64 b5, .int .i64 b6, .int .i64 b7] 23) = Z := ⟨_, rfl⟩
  rw [hZ] at q0
  have q1 := q0.set { x with b := a3 } 1 (.int .i64 a3) rfl
  have fz : Z.frozen? ⟨Bd, 1, none⟩ = false := frozen_blk q0.hd
  obtain ⟨d0, d1, d2, d3, d4, d5, d6⟩ := cells7 q0.ha
  obtain ⟨x0, x1, x2, x3, x4, x5⟩ := cells6 q0.hd
  obtain ⟨f0, f1, f2, f3, f4, f5, f6⟩ := cells7 q1.ha
  obtain ⟨g0, g1, g2, g3, g4, g5, g6⟩ := cells7 q1.hb
  have HQ := Lib.hid q1
  clear q0 q1
  go_enter Try.func38, Try.ntmps38
  go_wp2_with fail
  go_ret
  exact ⟨by (simp; rfl), HQ.out.nr, HQ.out.hd⟩
set_option maxRecDepth 100000 in
theorem settle39_any (Bd : Nat) (x : Dl) (a b : Wish) (w : World) (h : w.heap[Bd]? = some x.o) : Calls Try.prog 39 #[at0 Bd, a.v, b.v] w (SetA Bd (decide (a.stride = b.stride)) { x with s := a.stride } w) := by
  have q0 := S3.start a b h
  clear h
  obtain ⟨a1, a2, a3, a4, a5, a6, a7⟩ := a
  obtain ⟨b1, b2, b3, b4, b5, b6, b7⟩ := b
  show Calls Try.prog 39 #[at0 Bd, .agg #[.int .i64 a1, .int .i64 a2, .int .i64 a3, .int .i64 a4, .int .i64 a5, .int .i64 a6, .int .i64 a7], .agg #[.int .i64 b1, .int .i64 b2, .int .i64 b3, .int .i64 b4, .int .i64 b5, .int .i64 b6, .int .i64 b7]] w _
  obtain ⟨Z, hZ⟩ : ∃ Z, (w.alloc (.cells #[.int .i64 a1, .int .i64 a2, .int .i64 a3, .int .i64 a4, .int .i64 a5, .int .i64 a6, .int .i64 a7] 23)).alloc (.cells #[.int .i64 b1, .int .i64 b2, .int .i64 b3, .int .i64 b4, .int .i64 b5, .int .i64 b6, .int .i64 b7] 23) = Z := ⟨_, rfl⟩
  rw [hZ] at q0
  have q1 := q0.set { x with s := a5 } 3 (.int .i64 a5) rfl
  have fz : Z.frozen? ⟨Bd, 3, none⟩ = false := frozen_blk q0.hd
  obtain ⟨d0, d1, d2, d3, d4, d5, d6⟩ := cells7 q0.ha
  obtain ⟨x0, x1, x2, x3, x4, x5⟩ := cells6 q0.hd
  obtain ⟨f0, f1, f2, f3, f4, f5, f6⟩ := cells7 q1.ha
  obtain ⟨g0, g1, g2, g3, g4, g5, g6⟩ := cells7 q1.hb
  have HQ := Lib.hid q1
  clear q0 q1
  go_enter Try.func39, Try.ntmps39
  go_wp2_with fail
  go_ret
  exact ⟨by (simp; rfl), HQ.out.nr, HQ.out.hd⟩
end Go.Proofs.Ytinlcgcnjlifkaa
