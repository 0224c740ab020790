/- value.clone: a copy of a value is the value, in memory of its own. -/
import Derived.Test.YtfbeeaibejggdaaDoorMA
import Derived.Deep.RegionHeld3
import Derived.Outline
import Derived.Test.YtfbeeaibejggdaaDoorCA
namespace Go.Proofs.YtfbeeaibejggdaaDoor
open Go.RowKit Go.Lib

theorem five_all {w : World} {k : Nat} {c0 c1 c2 c3 c4 : Value} {t : TypeId} (h : w.heap[k]? = some (.cells #[c0, c1, c2, c3, c4] t (0, 0))) :
    (w.cell? ⟨k, 0, none⟩ = some c0 ∧ w.cell? ⟨k, 1, none⟩ = some c1 ∧ w.cell? ⟨k, 2, none⟩ = some c2 ∧ w.cell? ⟨k, 3, none⟩ = some c3 ∧ w.cell? ⟨k, 4, none⟩ = some c4) ∧
    w.frozen? ⟨k, 0, none⟩ = false ∧ w.frozen? ⟨k, 1, none⟩ = false ∧ w.frozen? ⟨k, 2, none⟩ = false ∧ w.frozen? ⟨k, 3, none⟩ = false ∧ w.frozen? ⟨k, 4, none⟩ = false := by
  refine ⟨⟨?_, ?_, ?_, ?_, ?_⟩, ?_, ?_, ?_, ?_, ?_⟩ <;> simp [World.cell?, World.frozen?, h]

theorem two_boxes {w w1 : World} {X Y : Obj} (hb : Below ((w.alloc X).alloc Y).heap.size ((w.alloc X).alloc Y) w1) : w1.heap[w.heap.size]? = some X ∧ w1.heap[w.heap.size + 1]? = some Y ∧ Below w.heap.size w w1 ∧ w.heap.size + 2 ≤ w1.heap.size := by
  have hs := hb.size
  simp only [World.size_alloc] at hs
  refine ⟨?_, ?_, (((Below.refl _ w).alloc (Nat.le_refl _) X).alloc (by simp) Y).trans (hb.mono (by simp; omega)), hs⟩
  · rw [hb.block _ (by simp; omega), heap_alloc_old _ (by simp), heap_alloc_new]
  · rw [hb.block _ (by simp)]
    have := heap_alloc_new (w.alloc X) Y
    simpa using this

theorem size_setCell (w : World) (a : Addr) (v : Value) : (w.setCell a v).heap.size = w.heap.size := by simp [World.setCell]

/-- What is behind the copies of both lists. -/
theorem Cl.behind {w w1 w2 : World} {kd n : Int} {s : ByteArray} {keys : List Int} {kids : List T} {ka va : Option Addr} {kc vc : Nat} {ka' : Option Addr} {kc' : Nat}
    (hw1 : Below w.heap.size w w1) (hz1 : w.heap.size + 2 ≤ w1.heap.size)
    (x1 : w1.heap[w.heap.size]? = some (.cells #[.int .i64 kd, .int .i64 n, .string s, .slice ka keys.length kc, .slice va kids.length vc] 25 (0, 0)))
    (y1 : w1.heap[w.heap.size + 1]? = some (.cells zero25 25 (0, 0)))
    (hb2 : Below (w1.setCell ⟨w.heap.size, 3, none⟩ (.slice ka' keys.length kc')).heap.size (w1.setCell ⟨w.heap.size, 3, none⟩ (.slice ka' keys.length kc')) w2) :
    w2.heap[w.heap.size]? = some (.cells #[.int .i64 kd, .int .i64 n, .string s, .slice ka' keys.length kc', .slice va kids.length vc] 25 (0, 0)) ∧ w2.heap[w.heap.size + 1]? = some (.cells zero25 25 (0, 0)) ∧ Below w.heap.size w w2 ∧ w1.heap.size ≤ w2.heap.size := by
  have hs := hb2.size
  rw [size_setCell] at hs
  refine ⟨?_, ?_, (hw1.setCell (by simp) _).trans (hb2.mono (by rw [size_setCell]; omega)), hs⟩
  · rw [hb2.block _ (by rw [size_setCell]; omega), heap_setCell_same _ _ _ _ _ _ x1]; rfl
  · rw [hb2.block _ (by rw [size_setCell]; omega), heap_setCell_other _ _ _ _ (by simp), y1]

theorem Cl.start {w w1 w2 : World} {kd n : Int} {s : ByteArray} {keys : List Int} {kids : List T} {ka va : Option Addr} {kc vc : Nat} {ka' : Option Addr} {kc' g vc' : Nat} {cs : List Value}
    (hw1 : Below w.heap.size w w1) (hz1 : w.heap.size + 2 ≤ w1.heap.size)
    (x1 : w1.heap[w.heap.size]? = some (.cells #[.int .i64 kd, .int .i64 n, .string s, .slice ka keys.length kc, .slice va kids.length vc] 25 (0, 0)))
    (y1 : w1.heap[w.heap.size + 1]? = some (.cells zero25 25 (0, 0)))
    (hk1 : ∀ w'' : World, (∀ (a : Addr) (u : Value), w.heap.size + 2 ≤ a.block → w1.cell? a = some u → w''.cell? a = some u) → KeysIn w'' ka' keys)
    (hb2 : Below (w1.setCell ⟨w.heap.size, 3, none⟩ (.slice ka' keys.length kc')).heap.size (w1.setCell ⟨w.heap.size, 3, none⟩ (.slice ka' keys.length kc')) w2)
    (hrow : w2.ownsRow (w1.setCell ⟨w.heap.size, 3, none⟩ (.slice ka' keys.length kc')).heap.size 25 5 (.slice (some ⟨g, 0, none⟩) kids.length vc') kids.length cs)
    (htodo : ∀ j, (h : j < kids.length) → Rep w kids[j] (five cs j)) :
    Cl w kd n s keys kids ka' kc' g vc' 0 cs (w2.setCell ⟨w.heap.size, 4, none⟩ (.slice (some ⟨g, 0, none⟩) kids.length vc')) := by
  obtain ⟨x2, y2, hw2, hz2⟩ := Cl.behind hw1 hz1 x1 y1 hb2
  rw [size_setCell] at hrow
  have hg := hrow.lt g rfl
  refine ⟨hw2.setCell (by simp) _, by rw [size_setCell]; omega, ?_, ?_, ?_, ?_, fun j _ hj => absurd hj (Nat.not_lt_zero _), fun j hj _ => htodo j hj⟩
  · rw [heap_setCell_same _ _ _ _ _ _ x2]; rfl
  · rw [heap_setCell_other _ _ _ _ (by simp), y2]
  · refine ⟨hrow.1, ?_⟩
    rcases hrow.2 with ⟨h, _⟩ | ⟨g', cap, cur, hv, hg', hh, r⟩
    · cases h
    · refine .inr ⟨g', cap, cur, hv, by omega, ?_, r⟩
      rw [heap_setCell_other _ _ _ _ (by show g' ≠ w.heap.size; omega)]
      exact hh
  · intro w'' hw''
    refine hk1 w'' fun a u ha hc => hw'' a u ⟨ha, ?_⟩ ?_
    · have := cell_lt hc; omega
    · have hlt := cell_lt hc
      rw [World.cell?_of_block (w := w2) (heap_setCell_other _ _ _ _ (by show a.block ≠ w.heap.size; omega)), hb2.cell (by rw [size_setCell]; exact hlt), World.cell?_of_block (w := w1) (heap_setCell_other _ _ _ _ (by show a.block ≠ w.heap.size; omega)), hc]

theorem row_some {w : World} {B n vc : Nat} {va : Option Addr} {cs : List Value} (h0 : 0 < n) (h : w.ownsRow B 25 5 (.slice va n vc) n cs) : ∃ g, va = some ⟨g, 0, none⟩ := by
  rcases h.2 with ⟨_, h⟩ | ⟨g, cap, cur, hv, _⟩
  · omega
  · injection hv with e; exact ⟨g, e⟩

/-- The middle of a round: from W on, but for the row, whose other values are as they were. -/
def Mid (B g n vc k : Nat) (cs : List Value) (W wx : World) : Prop :=
  W.grownBy wx (some g) ∧ ∃ cs', wx.ownsRow B 25 5 (.slice (some ⟨g, 0, none⟩) n vc) n cs' ∧ ∀ j, j ≠ k → five cs' j = five cs j

theorem Mid.first {B g n vc k : Nat} {cs : List Value} {w : World} (o : Obj) (h : w.ownsRow B 25 5 (.slice (some ⟨g, 0, none⟩) n vc) n cs) : Mid B g n vc k cs (w.alloc o) (w.alloc o) :=
  ⟨World.grownBy.refl _ _, cs, h.alloc o, fun _ _ => rfl⟩
theorem Mid.drew {B g n vc k : Nat} {cs : List Value} {W wx : World} (h : Mid B g n vc k cs W wx) : Mid B g n vc k cs W wx.drew := by
  obtain ⟨⟨h1, h2, h3, h4, h5⟩, cs', h6, h7⟩ := h
  exact ⟨⟨h1, h2, h3, h4, h5⟩, cs', h6.drew, h7⟩
theorem Mid.call {B g n vc k : Nat} {cs : List Value} {W wx w1 : World} (h : Mid B g n vc k cs W wx) (hb : Below wx.heap.size wx w1) : Mid B g n vc k cs W w1 := by
  obtain ⟨hg, cs', h6, h7⟩ := h
  exact ⟨⟨hb.os.trans hg.os, hb.tape.trans hg.tape, hb.output.trans hg.output, Nat.le_trans hg.size hb.size, fun b hb1 hb2 => (hb.block b (Nat.lt_of_lt_of_le hb1 hg.size)).trans (hg.block b hb1 hb2)⟩, cs', own_below h6 hb, h7⟩
theorem Mid.store {B g n vc k : Nat} {cs : List Value} {W wx : World} (h : Mid B g n vc k cs W wx) (u0 u1 u2 u3 u4 : Value) : Mid B g n vc k cs W (store5 wx g (k * 5) u0 u1 u2 u3 u4) := by
  obtain ⟨hg, cs', h6, h7⟩ := h
  have hB : Below g wx (store5 wx g (k * 5) u0 u1 u2 u3 u4) := store5_below (Below.refl _ _) g (k * 5) u0 u1 u2 u3 u4 (Nat.le_refl _)
  have hrow := store5_row (k := k) h6 u0 u1 u2 u3 u4
  have hgr : W.grownBy (store5 wx g (k * 5) u0 u1 u2 u3 u4) (some g) := by
    constructor
    · exact hB.os.trans hg.os
    · exact hB.tape.trans hg.tape
    · exact hB.output.trans hg.output
    · exact Nat.le_trans hg.size hB.size
    · intro b hb1 hb2
      rw [store5_block _ _ _ _ _ _ _ _ _ (fun e => hb2 (by rw [e]))]
      exact hg.block b hb1 hb2
  have hoff : ∀ j, j ≠ k → five (set5 cs' k u0 u1 u2 u3 u4) j = five cs j := fun j hj => by
    rw [five_other _ _ _ _ _ _ _ _ hj]; exact h7 j hj
  exact ⟨hgr, _, hrow, hoff⟩
theorem Mid.block {B g n vc k b : Nat} {cs : List Value} {w wx : World} {o : Obj} (h : Mid B g n vc k cs (w.alloc o) wx) (hb : b < w.heap.size) (hne : b ≠ g) : wx.heap[b]? = w.heap[b]? := by
  rw [h.1.block b (by simp; omega) (by simpa using hne), heap_alloc_old _ hb]

theorem Cl.seen {w : World} {kd n : Int} {s : ByteArray} {keys : List Int} {kids : List T} {ka' : Option Addr} {kc' g vc' : Nat} {k : Nat} {cs : List Value} {wr : World} (h : Cl w kd n s keys kids ka' kc' g vc' k cs wr) (_ : k < kids.length)
    {q0 q1 q2 q3 q4 : Value} (o : Obj) (ho : o = .cells #[q0, q1, q2, q3, q4] 25 (0, 0)) (wx : World) (hb : Mid (w.heap.size + 2) g kids.length vc' k cs (wr.alloc o) wx) :
    wx.cell? ⟨w.heap.size, 4, none⟩ = some (.slice (some ⟨g, 0, none⟩) kids.length vc') ∧ wx.cell? ⟨wr.heap.size, 0, none⟩ = some q0 ∧ wx.cell? ⟨wr.heap.size, 1, none⟩ = some q1 ∧ wx.cell? ⟨wr.heap.size, 2, none⟩ = some q2 ∧ wx.cell? ⟨wr.heap.size, 3, none⟩ = some q3 ∧ wx.cell? ⟨wr.heap.size, 4, none⟩ = some q4 ∧ Mid (w.heap.size + 2) g kids.length vc' k cs (wr.alloc o) wx := by
  have hs := h.size
  have hg := h.row_lt
  have h1 := (hb.block (by omega) (by omega)).trans h.box
  have h2 : wx.heap[wr.heap.size]? = some (.cells #[q0, q1, q2, q3, q4] 25 (0, 0)) := by rw [hb.1.block _ (by simp) (by simp; omega), heap_alloc_new, ho]
  obtain ⟨⟨_, _, _, _, c4⟩, _⟩ := five_all h1
  obtain ⟨⟨d0, d1, d2, d3, d4⟩, _⟩ := five_all h2
  exact ⟨c4, d0, d1, d2, d3, d4, hb⟩

theorem Mid.old {w wr wx : World} {g n vc k : Nat} {cs : List Value} {o : Obj} (hw : Below w.heap.size w wr) (hg : w.heap.size + 2 ≤ g) (h : Mid (w.heap.size + 2) g n vc k cs (wr.alloc o) wx) : Same w wx := fun a ha => by
  have := hw.size
  rw [World.cell?_of_block (w := wr) (h.block (by omega) (by omega))]
  exact hw.cell ha

/-- The copy of a kid. -/
theorem Cl.call {w : World} {kd n : Int} {s : ByteArray} {keys : List Int} {kids : List T} {ka' : Option Addr} {kc' g vc' : Nat} {k : Nat} {cs : List Value} {wr : World} (h : Cl w kd n s keys kids ka' kc' g vc' k cs wr) (hk : k < kids.length)
    {q0 q1 q2 q3 q4 : Value} (o : Obj) (_ : o = .cells #[q0, q1, q2, q3, q4] 25 (0, 0)) (hrep : Rep w kids[k] (.agg #[q0, q1, q2, q3, q4]))
    (ih : ∀ j, (h : j < kids.length) → ∀ (v : Value) (w : World), Rep w kids[j] v → Calls Tryd.prog 49 #[v] w (Cloned kids[j] w)) (wx : World) (hb : Mid (w.heap.size + 2) g kids.length vc' k cs (wr.alloc o) wx) :
    Calls Tryd.prog 49 #[.agg #[q0, q1, q2, q3, q4]] wx fun e w' => ∃ rk rn rs ra rb rc rd re rf x0 x1 x2 x3 x4, e = .returned (.agg #[.int .i64 rk, .int .i64 rn, .string rs, .slice ra rb rc, .slice rd re rf]) ∧
      OwnP (fun b => (wr.alloc o).heap.size ≤ b) w' kids[k] (.agg #[.int .i64 rk, .int .i64 rn, .string rs, .slice ra rb rc, .slice rd re rf]) ∧ Mid (w.heap.size + 2) g kids.length vc' k cs (wr.alloc o) w' ∧
      w'.frozen? ⟨g, k * 5, none⟩ = false ∧ w'.frozen? ⟨g, k * 5 + 1, none⟩ = false ∧ w'.frozen? ⟨g, k * 5 + 2, none⟩ = false ∧ w'.frozen? ⟨g, k * 5 + 3, none⟩ = false ∧ w'.frozen? ⟨g, k * 5 + 4, none⟩ = false ∧
      w'.cell? ⟨g, k * 5, none⟩ = some x0 ∧ w'.cell? ⟨g, k * 5 + 1, none⟩ = some x1 ∧ w'.cell? ⟨g, k * 5 + 2, none⟩ = some x2 ∧ w'.cell? ⟨g, k * 5 + 3, none⟩ = some x3 ∧ w'.cell? ⟨g, k * 5 + 4, none⟩ = some x4 := by
  have hg := h.row_lt
  refine (ih k hk _ wx (Rep.mono (hb.old h.below hg.1) _ _ hrep)).mono ?_
  rintro e w' ⟨v', rfl, hown, hb1⟩
  have hr := hown.rep
  obtain ⟨ra, rd, rc, rf, rfl, _⟩ := rep_agg hr
  have hb2 := hb.call hb1
  have hsz := hb.1.size
  obtain ⟨_, cs', hrow, _⟩ := hb2
  have hlen := hrow.1
  have hfz : ∀ j, w'.frozen? ⟨g, j, none⟩ = false := fun j => by
    rcases hrow.2 with ⟨hh, _⟩ | ⟨g', cap, cur, hv, hg', hh, _⟩
    · cases hh
    · injection hv with e1
      simp only [Option.some.injEq, Addr.mk.injEq, and_true] at e1
      subst e1
      exact frozen_of_row w' g j cur 25 hh
  have hcl : ∀ j, j < 5 → w'.cell? ⟨g, k * 5 + j, none⟩ = some (cs'.getD (k * 5 + j) (.bool false)) := fun j hj => by
    rw [hrow.cellAt _ (by omega)]
    simp [List.getD, List.getElem?_eq_getElem (show k * 5 + j < cs'.length by omega)]
  exact ⟨_, _, _, _, _, _, _, _, _, _, _, _, _, _, rfl, hown.weaken (fun b hb' => by omega), hb.call hb1, hfz _, hfz _, hfz _, hfz _, hfz _, hcl 0 (by omega), hcl 1 (by omega), hcl 2 (by omega), hcl 3 (by omega), hcl 4 (by omega)⟩

/-- A round: the kid is boxed, copied, and stored. -/
theorem Cl.round {w : World} {kd n : Int} {s : ByteArray} {keys : List Int} {kids : List T} {ka' : Option Addr} {kc' g vc' k : Nat} {cs : List Value} {wr w1 : World} (h : Cl w kd n s keys kids ka' kc' g vc' k cs wr) (hk : k < kids.length)
    (o : Obj) (hb : Mid (w.heap.size + 2) g kids.length vc' k cs (wr.alloc o) w1) {u0 u1 u2 u3 u4 : Value} (hc : OwnP (fun b => (wr.alloc o).heap.size ≤ b) w1 kids[k] (.agg #[u0, u1, u2, u3, u4])) :
    ∃ cs', Cl w kd n s keys kids ka' kc' g vc' (k + 1) cs' (store5 w1 g (k * 5) u0 u1 u2 u3 u4) := by
  obtain ⟨hg1, hg2⟩ := h.row_lt
  have hsz : (wr.alloc o).heap.size = wr.heap.size + 1 := by simp
  have hs1 := hb.1.size
  have hblk := fun b h1 h2 => hb.block (b := b) h1 h2
  obtain ⟨hgr, cs', hrow, hoff⟩ := hb
  have hlen := hrow.1
  have hnot : ¬ But (w.heap.size + 2) g g := fun x => x.2 rfl
  have hk1 : Keeps (But (w.heap.size + 2) g) wr w1 := fun a u hS hc' => by
    rw [← hc']; exact World.cell?_of_block (hblk _ (cell_lt hc') hS.2)
  have hkeep : Keeps (But (w.heap.size + 2) g) wr (store5 w1 g (k * 5) u0 u1 u2 u3 u4) := hk1.trans (store5_keeps _ _ _ _ _ _ _ _ hnot)
  have hs := h.size
  have hbel : Below w.heap.size w w1 := ⟨hgr.os.trans h.below.os, hgr.tape.trans h.below.tape, hgr.output.trans h.below.output, by have := h.below.size; omega, fun b hb => (hblk b (by omega) (by omega)).trans (h.below.block b hb)⟩
  refine ⟨set5 cs' k u0 u1 u2 u3 u4, store5_below hbel _ _ _ _ _ _ _ (by omega), ?_, ?_, ?_, store5_row hrow _ _ _ _ _, ?_, ?_, ?_⟩
  · rw [store5_size]; omega
  · rw [store5_block _ _ _ _ _ _ _ _ _ (by omega), hblk _ (by omega) (by omega)]; exact h.box
  · rw [store5_block _ _ _ _ _ _ _ _ _ (by omega), hblk _ (by omega) (by omega)]; exact h.out
  · intro w'' hw; exact h.keys w'' (hkeep.trans hw)
  · intro j hj hjk
    by_cases e : j = k
    · subst e
      rw [five_same _ _ _ _ _ _ _ (by omega)]
      intro w'' hw
      refine hc w'' fun a u hS hcell => ?_
      have hne : a.block ≠ g := by omega
      refine hw a u ⟨by omega, hne⟩ ?_
      exact store5_keeps (S := fun b => b ≠ g) w1 g (j * 5) u0 u1 u2 u3 u4 (fun x => x rfl) a u hne hcell
    · rw [five_other _ _ _ _ _ _ _ _ e, hoff j e]
      exact (h.did j hj (by omega)).move hkeep
  · intro j hj hjk
    rw [five_other _ _ _ _ _ _ _ _ (by omega), hoff j (by omega)]
    exact h.todo j hj (by omega)

end Go.Proofs.YtfbeeaibejggdaaDoor
/- value.clone: a copy of a value is the value, in memory of its own. -/
namespace Go.Proofs.YtfbeeaibejggdaaDoor
open Go.RowKit Go.Lib

set_option maxRecDepth 100000 in
set_option maxHeartbeats 1600000 in
theorem clone_some (kd n : Int) (s : ByteArray) (keys : List Int) (kids : List T) (v : Value) (w : World) (hr : Rep w (.mk kd n s keys kids) v) (hk0 : 0 < kids.length) (hkl : keys.length ≤ 1000000) (hvl : kids.length ≤ 1000000)
    (ih : ∀ j, (h : j < kids.length) → ∀ (v : Value) (w : World), Rep w kids[j] v → Calls Tryd.prog 49 #[v] w (Cloned kids[j] w)) :
    Calls Tryd.prog 49 #[v] w (Cloned (.mk kd n s keys kids) w) := by
  unfold Rep at hr
  obtain ⟨ka, va, kc, vc, rfl, hI1, hI2, hI3, hI4, hI5, hkeys, hkids⟩ := hr
  have h86 := Lib.hid fun (wr : World) (h : Same w wr) => cloneKeys_any ka kc keys wr (hkeys.mono h) hkl
  have h87 := Lib.hid fun (wr : World) (h : Same w wr) => cloneKids_any va vc kids w wr h hkids hvl
  have IH := Lib.hid ih
  clear ih hkeys hkids
  have hs1 : Same w (((w.alloc (.cells #[.int .i64 kd, .int .i64 n, .string s, .slice ka keys.length kc, .slice va kids.length vc] 25)).alloc (.cells #[.int .i64 0, .int .i64 0, .string ⟨#[]⟩, .slice none 0 0, .slice none 0 0] 25))) :=
    Same.of_below (((Below.refl _ w).alloc (Nat.le_refl _) _).alloc (by simp) _)
  go_enter Tryd.func49, Tryd.ntmps49
  go_wp2_with (first
    | (go_at_call 86; (with_reducible refine (h86.out _ hs1).mono ?_); rintro e w1 ⟨ka', kc', rfl, hk1, hb1⟩; obtain ⟨x1, y1, hw1, hz1⟩ := two_boxes hb1; obtain ⟨⟨c0, c1, c2, c3, c4⟩, f0, f1, f2, f3, f4⟩ := five_all x1; have hs2 := Same.of_below (hw1.setCell (p := ⟨w.heap.size, 3, none⟩) (Nat.le_refl _) (.slice ka' keys.length kc')); have X1 := Lib.hid x1; have Y1 := Lib.hid y1; have K1 := Lib.hid hk1; clear x1 y1 hk1)
    | (go_at_call 87; (with_reducible refine (h87.out _ hs2).mono ?_); rintro e w2 ⟨va', vc', cs, rfl, hrow, htodo, hb2⟩; obtain ⟨x2, _, _, _⟩ := Cl.behind hw1 hz1 X1.out Y1.out hb2; obtain ⟨g, rfl⟩ := row_some hk0 hrow; have hCl := Cl.start hw1 hz1 X1.out Y1.out (fun w'' h => K1.out w'' (by simpa using h)) hb2 hrow htodo; clear c0 c1 c2 c3 c4 f0 f1 f2 f3 f4; obtain ⟨⟨c0, c1, c2, c3, c4⟩, f0, f1, f2, f3, f4⟩ := five_all x2; clear x2))
  clear c0 c1 c2 c3 c4 f0 f1 f2 f3 f4 hs1 hs2 X1 Y1 K1 hrow htodo h86 h87 hw1 hz1 hb1 hb2
  go_loopw [16] (fun i wr => ∃ (k : Nat) (cs : List Value), i = .int .i64 k ∧ k ≤ kids.length ∧ Cl w kd n s keys kids ka' kc' g vc' k cs wr) (fun i _ => kids.length - (intOf i).toNat)
  case atStart => exact ⟨0, cs, rfl, Nat.zero_le _, hCl⟩
  case round =>
    clear hCl
    obtain ⟨k, cs, rfl, hk, hCl⟩ := hrel
    obtain ⟨⟨c0, c1, c2, c3, c4⟩, f0, f1, f2, f3, f4⟩ := five_all hCl.box
    by_cases hlt : k < kids.length
    · have hrep := hCl.todo k hlt (Nat.le_refl _)
      have hrow := hCl.row
      have hlen := hrow.1
      have HC := Lib.hid hCl
      have hat : ∀ j, j < 5 → wr.cell? ⟨g, k * 5 + j, none⟩ = some (cs.getD (k * 5 + j) (.bool false)) := fun j hj => by
        rw [hrow.cellAt _ (by omega)]
        simp [List.getD, List.getElem?_eq_getElem (show k * 5 + j < cs.length by omega)]
      have g0 := hat 0 (by omega)
      have g1 := hat 1 (by omega)
      have g2 := hat 2 (by omega)
      have g3 := hat 3 (by omega)
      have g4 := hat 4 (by omega)
      unfold five at hrep
      rw [Nat.add_zero] at g0
      obtain ⟨qk, qn, qs, qa, qb, qc, qd, qe, qf, e0, e1, e2, e3, e4⟩ := rep_fields hrep
      rw [e0, e1, e2, e3, e4] at hrep
      rw [e0] at g0
      rw [e1] at g1
      rw [e2] at g2
      rw [e3] at g3
      rw [e4] at g4
      clear hat e0 e1 e2 e3 e4 hrow hlen
      obtain ⟨o, ho⟩ : ∃ o : Obj, o = .cells #[.int .i64 qk, .int .i64 qn, .string qs, .slice qa qb qc, .slice qd qe qf] 25 (0, 0) := ⟨_, rfl⟩
      have hcall := Lib.hid (Cl.call HC.out hlt o ho hrep IH.out)
      have hS := Lib.hid (Cl.seen HC.out hlt o ho)
      have hM := Mid.first (k := k) o hCl.row
      have h0 := hS.out _ hM
      rw [ho] at h0
      clear hCl
      clear hrep c0 c1 c2 c3 f0 f1 f2 f3 f4
      go_upto_region 6 with fail
      rw [← ho] at h0 ⊢
      have Ho := Lib.hid ho
      clear ho
      clear c4 g0 g1 g2 g3 g4
      go_region_held3 (fun wx => wx.cell? ⟨w.heap.size, 4, none⟩ = some (.slice (some ⟨g, 0, none⟩) kids.length vc') ∧ wx.cell? ⟨wr.heap.size, 0, none⟩ = some (.int .i64 qk) ∧ wx.cell? ⟨wr.heap.size, 1, none⟩ = some (.int .i64 qn) ∧ wx.cell? ⟨wr.heap.size, 2, none⟩ = some (.string qs) ∧ wx.cell? ⟨wr.heap.size, 3, none⟩ = some (.slice qa qb qc) ∧ wx.cell? ⟨wr.heap.size, 4, none⟩ = some (.slice qd qe qf) ∧ Mid (w.heap.size + 2) g kids.length vc' k cs (wr.alloc o) wx)
        (first
          | exact hS.out _ (Mid.drew hM)
          | (go_split_ands; exact hS.out _ (by assumption))
          | exact hS.out _ hk1
          | exact hS.out _ (Mid.store hk1 _ _ _ _ _))
        (first
          | (go_at_call 49; (with_reducible refine (hcall.out _ (by go_split_ands; assumption)).mono ?_); rintro e wk ⟨rk, rn, rs, ra, rb, rc, rd, re, rf, z0, z1, z2, z3, z4, rfl, hown, hk1, r0, r1, r2, r3, r4, t0, t1, t2, t3, t4⟩; have HO := Lib.hid (And.intro hown hk1); clear hown; skip))
      go_wp2_with fail
      obtain ⟨cs', hCl'⟩ := Cl.round HC.out hlt o HO.out.2 HO.out.1
      have HC' := Lib.hid hCl'
      clear hCl'
      go_roundw
      case rel => exact ⟨k + 1, cs', by go_num, by omega, HC'.out⟩
      case measure => simp [intOf]; omega
    · obtain rfl : k = kids.length := by omega
      obtain ⟨⟨b0, b1, b2, b3, b4⟩, d0, d1, d2, d3, d4⟩ := five_all hCl.out
      have HC := Lib.hid hCl
      clear hCl
      go_wp2_with fail
      refine bodyPost_ret (v := .agg #[.int .i64 kd, .int .i64 n, .string s, .slice ka' keys.length kc', .slice (some ⟨g, 0, none⟩) kids.length vc']) (by simp [results, Tryd.results49, go_sem, b0, b1, b2, b3, b4]) rfl ⟨_, rfl, ?_, ?_⟩
      · refine Cl.finish HC.out ⟨hI1, hI2, hI3, hI4, hI5⟩ (.cells #[] 25) _ fun b hb => ?_
        rw [heap_setCell_other _ _ _ _ hb, heap_setCell_other _ _ _ _ hb, heap_setCell_other _ _ _ _ hb, heap_setCell_other _ _ _ _ hb, heap_setCell_other _ _ _ _ hb]
      · exact ((((HC.out.below.setCell (by simp) _).setCell (by simp) _).setCell (by simp) _).setCell (by simp) _).setCell (by simp) _
end Go.Proofs.YtfbeeaibejggdaaDoor
/- value.clone at a value without kids; and at any value. -/
namespace Go.Proofs.YtfbeeaibejggdaaDoor
open Go.RowKit Go.Lib

structure Cl0 (w : World) (kd n : Int) (s : ByteArray) (keys : List Int) (ka' : Option Addr) (kc' : Nat) (va' : Option Addr) (vc' : Nat) (wr : World) : Prop where
  below : Below w.heap.size w wr
  box : wr.heap[w.heap.size]? = some (.cells #[.int .i64 kd, .int .i64 n, .string s, .slice ka' keys.length kc', .slice va' 0 vc'] 25 (0, 0))
  out : wr.heap[w.heap.size + 1]? = some (.cells zero25 25 (0, 0))
  keys : ∀ w'' : World, Keeps (fun b => w.heap.size + 2 ≤ b) wr w'' → KeysIn w'' ka' keys

theorem Cl0.start {w w1 w2 : World} {kd n : Int} {s : ByteArray} {keys : List Int} {ka va : Option Addr} {kc vc : Nat} {ka' va' : Option Addr} {kc' vc' : Nat}
    (hw1 : Below w.heap.size w w1) (hz1 : w.heap.size + 2 ≤ w1.heap.size)
    (x1 : w1.heap[w.heap.size]? = some (.cells #[.int .i64 kd, .int .i64 n, .string s, .slice ka keys.length kc, .slice va 0 vc] 25 (0, 0)))
    (y1 : w1.heap[w.heap.size + 1]? = some (.cells zero25 25 (0, 0)))
    (hk1 : ∀ w'' : World, (∀ (a : Addr) (u : Value), w.heap.size + 2 ≤ a.block → w1.cell? a = some u → w''.cell? a = some u) → KeysIn w'' ka' keys)
    (hb2 : Below (w1.setCell ⟨w.heap.size, 3, none⟩ (.slice ka' keys.length kc')).heap.size (w1.setCell ⟨w.heap.size, 3, none⟩ (.slice ka' keys.length kc')) w2) :
    Cl0 w kd n s keys ka' kc' va' vc' (w2.setCell ⟨w.heap.size, 4, none⟩ (.slice va' 0 vc')) := by
  obtain ⟨x2, y2, hw2, hz2⟩ := Cl.behind (kids := []) hw1 hz1 x1 y1 hb2
  refine ⟨hw2.setCell (by simp) _, ?_, ?_, ?_⟩
  · rw [heap_setCell_same _ _ _ _ _ _ x2]; rfl
  · rw [heap_setCell_other _ _ _ _ (by simp), y2]
  · intro w'' hw''
    refine hk1 w'' fun a u ha hc => hw'' a u ha ?_
    have hlt := cell_lt hc
    rw [World.cell?_of_block (w := w2) (heap_setCell_other _ _ _ _ (by show a.block ≠ w.heap.size; omega)), hb2.cell (by rw [size_setCell]; exact hlt), World.cell?_of_block (w := w1) (heap_setCell_other _ _ _ _ (by show a.block ≠ w.heap.size; omega)), hc]

theorem Cl0.finish {w : World} {kd n : Int} {s : ByteArray} {keys : List Int} {ka' va' : Option Addr} {kc' vc' : Nat} {wr : World} (h : Cl0 w kd n s keys ka' kc' va' vc' wr) (hI : I64 kd ∧ I64 n ∧ s.size ≤ 140737488355328 ∧ keys.length ≤ 17592186044416)
    (w2 : World) (hw2 : ∀ b, b ≠ w.heap.size + 1 → w2.heap[b]? = wr.heap[b]?) : OwnP (fun b => w.heap.size ≤ b) w2 (.mk kd n s keys []) (.agg #[.int .i64 kd, .int .i64 n, .string s, .slice ka' keys.length kc', .slice va' 0 vc']) := by
  intro w'' hw
  unfold Rep
  refine ⟨ka', va', kc', vc', rfl, hI.1, hI.2.1, hI.2.2.1, hI.2.2.2, by simp, h.keys w'' ?_, by unfold KidsIn; trivial⟩
  intro a u hS hc
  refine hw a u (by show w.heap.size ≤ a.block; omega) ?_
  rw [← hc]; exact World.cell?_of_block (hw2 _ (by show a.block ≠ w.heap.size + 1; omega))

set_option maxRecDepth 100000 in
set_option maxHeartbeats 1600000 in
theorem clone_none (kd n : Int) (s : ByteArray) (keys : List Int) (v : Value) (w : World) (hr : Rep w (.mk kd n s keys []) v) (hkl : keys.length ≤ 1000000) :
    Calls Tryd.prog 49 #[v] w (Cloned (.mk kd n s keys []) w) := by
  unfold Rep at hr
  simp only [List.length_nil] at hr
  obtain ⟨ka, va, kc, vc, rfl, hI1, hI2, hI3, hI4, hI5, hkeys, hkids⟩ := hr
  have h86 := Lib.hid fun (wr : World) (h : Same w wr) => cloneKeys_any ka kc keys wr (hkeys.mono h) hkl
  have h87 := Lib.hid fun (wr : World) (h : Same w wr) => cloneKids_any va vc [] w wr h hkids (by simp)
  simp only [List.length_nil] at h87
  clear hkeys hkids
  have hs1 : Same w (((w.alloc (.cells #[.int .i64 kd, .int .i64 n, .string s, .slice ka keys.length kc, .slice va 0 vc] 25)).alloc (.cells #[.int .i64 0, .int .i64 0, .string ⟨#[]⟩, .slice none 0 0, .slice none 0 0] 25))) :=
    Same.of_below (((Below.refl _ w).alloc (Nat.le_refl _) _).alloc (by simp) _)
  go_enter Tryd.func49, Tryd.ntmps49
  go_wp2_with (first
    | (go_at_call 86; (with_reducible refine (h86.out _ hs1).mono ?_); rintro e w1 ⟨ka', kc', rfl, hk1, hb1⟩; obtain ⟨x1, y1, hw1, hz1⟩ := two_boxes hb1; obtain ⟨⟨c0, c1, c2, c3, c4⟩, f0, f1, f2, f3, f4⟩ := five_all x1; have hs2 := Same.of_below (hw1.setCell (p := ⟨w.heap.size, 3, none⟩) (Nat.le_refl _) (.slice ka' keys.length kc')); have X1 := Lib.hid x1; have Y1 := Lib.hid y1; have K1 := Lib.hid hk1; clear x1 y1 hk1)
    | (go_at_call 87; (with_reducible refine (h87.out _ hs2).mono ?_); rintro e w2 ⟨va', vc', cs, rfl, hrow, htodo, hb2⟩; simp only [List.length_nil]; obtain ⟨x2, _, _, _⟩ := Cl.behind (kids := []) hw1 hz1 X1.out Y1.out hb2; have hCl := Cl0.start (va' := va') (vc' := vc') hw1 hz1 X1.out Y1.out (fun w'' h => K1.out w'' (by simpa using h)) hb2; clear c0 c1 c2 c3 c4 f0 f1 f2 f3 f4; obtain ⟨⟨c0, c1, c2, c3, c4⟩, f0, f1, f2, f3, f4⟩ := five_all x2; clear x2))
  clear c0 c1 c2 c3 c4 f0 f1 f2 f3 f4 hs1 hs2 X1 Y1 K1 hrow htodo h86 h87 hw1 hz1 hb1 hb2
  go_loopw [16] (fun i wr => i = .int .i64 0 ∧ Cl0 w kd n s keys ka' kc' va' vc' wr) (fun _ _ => 0)
  case atStart => exact ⟨rfl, hCl⟩
  case round =>
    clear hCl
    obtain ⟨rfl, hCl⟩ := hrel
    obtain ⟨⟨c0, c1, c2, c3, c4⟩, f0, f1, f2, f3, f4⟩ := five_all hCl.box
    obtain ⟨⟨b0, b1, b2, b3, b4⟩, d0, d1, d2, d3, d4⟩ := five_all hCl.out
    have HC := Lib.hid hCl
    clear hCl
    go_wp2_with fail
    refine bodyPost_ret (v := .agg #[.int .i64 kd, .int .i64 n, .string s, .slice ka' keys.length kc', .slice va' 0 vc']) (by simp [results, Tryd.results49, go_sem, b0, b1, b2, b3, b4]) rfl ⟨_, rfl, ?_, ?_⟩
    · refine Cl0.finish HC.out ⟨hI1, hI2, hI3, hI4⟩ _ fun b hb => ?_
      rw [heap_setCell_other _ _ _ _ hb, heap_setCell_other _ _ _ _ hb, heap_setCell_other _ _ _ _ hb, heap_setCell_other _ _ _ _ hb, heap_setCell_other _ _ _ _ hb]
    · exact ((((HC.out.below.setCell (by simp) _).setCell (by simp) _).setCell (by simp) _).setCell (by simp) _).setCell (by simp) _

theorem costT_kid {kd n : Int} {s : ByteArray} {keys : List Int} {kids : List T} {j : Nat} (h : j < kids.length) : costT kids[j] ≤ costT (.mk kd n s keys kids) := by
  have h1 := costL_take kids j h
  have h2 := costL_le kids (j + 1)
  rw [costT]
  omega

theorem clone_all (N : Nat) : ∀ (t : T) (v : Value) (w : World), SizeOf.sizeOf t ≤ N → Rep w t v → costT t ≤ 3000 → Calls Tryd.prog 49 #[v] w (Cloned t w) := by
  induction N with
  | zero => intro t; cases t; intro _ _ h; simp at h
  | succ N ih =>
    rintro ⟨kd, n, s, keys, kids⟩ v w hN hr hc
    obtain ⟨c1, c2, _⟩ := cost_bounds (.mk kd n s keys kids)
    simp only [T.kids, T.keys] at c1 c2
    cases kids with
    | nil => exact clone_none kd n s keys v w hr (by omega)
    | cons t r => exact clone_some kd n s keys (t :: r) v w hr (by simp) (by omega) (by omega) fun j hj v w hr' => ih _ v w (kid_size hN hj) hr' (by have := costT_kid (kd := kd) (n := n) (s := s) (keys := keys) hj; omega)

theorem clone_any (t : T) (v : Value) (w : World) (hr : Rep w t v) (hc : costT t ≤ 3000) : Calls Tryd.prog 49 #[v] w (Cloned t w) := clone_all _ t v w (Nat.le_refl _) hr hc
end Go.Proofs.YtfbeeaibejggdaaDoor
