import Derived.Test.YtfbeeaibejggdaaDoorAB
import Derived.Deep.AppendLies
import Derived.Deep.RegionLaw
import Derived.Deep.RegionHeld3
import Derived.RangeFuncBox
import Derived.StillTailTactics
import Derived.Lib.AppendStr
namespace Go.Proofs.YtfbeeaibejggdaaDoor
open Go.RowKit

/-- A writer in memory: its bytes so far. -/
def Wr (W : World) (bw bb B : Nat) (xs : List Int) : Prop :=
  bw < B ∧ ∃ v : Value, W.heap[bw]? = some (.cells #[v, .slice (some ⟨bb, 0, none⟩) 11 11] 54 (0, 0)) ∧ W.ownsRow B 5 1 v xs.length (xs.map (Value.int .u8))

/-- What the writer leaves: all but its own block and the rows of bytes past B. -/
structure Fr (B bw : Nat) (W W' : World) : Prop where
  os : W'.os = W.os
  tape : W'.tape = W.tape
  output : W'.output = W.output
  size : W.heap.size ≤ W'.heap.size
  block : ∀ k, k < W.heap.size → k ≠ bw → (k < B ∨ ∀ c, W.heap[k]? ≠ some (.cells c 5 (0, 0))) → W'.heap[k]? = W.heap[k]?

theorem Fr.refl (B bw : Nat) (W : World) : Fr B bw W W := ⟨rfl, rfl, rfl, Nat.le_refl _, fun _ _ _ _ => rfl⟩
theorem Fr.trans {B bw : Nat} {W W1 W2 : World} (h : Fr B bw W W1) (g : Fr B bw W1 W2) : Fr B bw W W2 :=
  ⟨g.os.trans h.os, g.tape.trans h.tape, g.output.trans h.output, Nat.le_trans h.size g.size, fun k hk hne hc => by
    have h1 := h.block k hk hne hc
    exact (g.block k (Nat.lt_of_lt_of_le hk h.size) hne (by rw [h1]; exact hc)).trans h1⟩

theorem Fr.grow {B bw L : Nat} {W wr w1 : World} {v u : Value} {o : Obj} {xs : List Value} (h : Fr B bw W wr) (hown : wr.ownsRow B 5 1 v L xs)
    (hgrow : (wr.alloc o).drew.grownBy w1 v.ownBlock) : Fr B bw W (w1.setCell ⟨bw, 0, none⟩ u) := by
  have hs : (wr.alloc o).drew.heap.size = wr.heap.size + 1 := by rw [heap_drew]; simp
  refine ⟨hgrow.os.trans h.os, hgrow.tape.trans h.tape, hgrow.output.trans h.output, ?_, ?_⟩
  · have h1 := hgrow.size
    have h2 := h.size
    rw [hs] at h1
    have : (w1.setCell ⟨bw, 0, none⟩ u).heap.size = w1.heap.size := by simp [World.setCell]
    omega
  · intro k hk hne hc
    have h1 := h.block k hk hne hc
    have h2 := h.size
    have hk2 : k < wr.heap.size := by omega
    rw [heap_setCell_other _ _ _ _ hne, hgrow.block k (by rw [hs]; omega) ?_, ← h1]
    · rw [heap_drew]; simp only [World.alloc]; rw [Array.getElem?_push_lt hk2]; simp [Array.getElem?_eq_getElem hk2]
    · rcases hown.2 with ⟨e, _⟩ | ⟨g, cap, cur, e, hb, hg, _⟩
      · rw [e]; simp [Value.ownBlock]
      · rw [e]; simp only [Value.ownBlock]
        intro hh
        have hkg : k = g := by simpa using hh
        subst hkg
        rcases hc with hc | hc
        · omega
        · exact hc cur (by rw [← h1]; exact hg)

theorem wr_cells {W : World} {bw : Nat} {v u : Value} {t : TypeId} (h : W.heap[bw]? = some (.cells #[v, u] t (0, 0))) :
    W.cell? ⟨bw, 0, none⟩ = some v ∧ W.cell? ⟨bw, 1, none⟩ = some u ∧ W.frozen? ⟨bw, 0, none⟩ = false := by
  refine ⟨?_, ?_, ?_⟩ <;> simp [World.cell?, World.frozen?, h]

theorem heap_alloc_old {W : World} {k : Nat} (o : Obj) (hk : k < W.heap.size) : (W.alloc o).heap[k]? = W.heap[k]? := by
  simp only [World.alloc]; rw [Array.getElem?_push_lt hk]; simp [Array.getElem?_eq_getElem hk]

theorem own_not {W : World} {B bw L : Nat} {v : Value} {xs : List Value} (hown : W.ownsRow B 5 1 v L xs) (hb : bw < B) : v.ownBlock ≠ some bw := by
  intro h
  rcases hown.2 with ⟨h1, _⟩ | ⟨g, cap, cur, hv, hb, _⟩
  · rw [h1] at h; simp [Value.ownBlock] at h
  · rw [hv] at h; simp [Value.ownBlock] at h; omega

/-- The writer behind an append and the store. -/
theorem wr_grown {W w1 : World} {bw bb B L gg cap : Nat} {v : Value} {o : Obj} {xs ys : List Int} (hbw : bw < B) (hh : W.heap[bw]? = some (.cells #[v, .slice (some ⟨bb, 0, none⟩) 11 11] 54 (0, 0)))
    (hown : W.ownsRow B 5 1 v L (xs.map (Value.int .u8))) (hgrow : (W.alloc o).drew.grownBy w1 v.ownBlock) (hB : B ≤ W.heap.size)
    (hown1 : w1.ownsRow B 5 1 (.slice (some ⟨gg, 0, none⟩) ys.length cap) ys.length (ys.map (Value.int .u8))) :
    Wr (w1.setCell ⟨bw, 0, none⟩ (.slice (some ⟨gg, 0, none⟩) ys.length cap)) bw bb B ys := by
  have h1 : w1.heap[bw]? = some (.cells #[v, .slice (some ⟨bb, 0, none⟩) 11 11] 54 (0, 0)) := by
    rw [hgrow.block bw (by rw [heap_drew]; simp; omega) (Ne.symm (own_not hown hbw)), heap_drew, heap_alloc_old _ (by omega), hh]
  refine ⟨hbw, .slice (some ⟨gg, 0, none⟩) ys.length cap, ?_, ?_⟩
  · rw [heap_setCell_same _ _ _ _ _ _ h1]; rfl
  · exact ownsRow_setCell_below hown1 hbw _

theorem wrap8_dig (n : Int) (k : Nat) (hk : k < 8) : IntKind.u8.wrap (n / 2 ^ (8 * (k : Int)).toNat) = IntKind.u64.wrap n / 256 ^ k % 256 := by
  have e : (8 * (k : Int)).toNat = 8 * k := by omega
  rw [e]
  have h1 : IntKind.u8.wrap (n / 2 ^ (8 * k)) = n / 2 ^ (8 * k) % 256 := by simp [IntKind.wrap, IntKind.bits, IntKind.signed]
  have h2 : IntKind.u64.wrap n = n % 18446744073709551616 := by simp [IntKind.wrap, IntKind.bits, IntKind.signed]
  rw [h1, h2]
  match k, hk with
  | 0, _ => simp
  | 1, _ => simp; omega
  | 2, _ => simp; omega
  | 3, _ => simp; omega
  | 4, _ => simp; omega
  | 5, _ => simp; omega
  | 6, _ => simp; omega
  | 7, _ => simp; omega

theorem void_end {P : Program} {fn : Func} {R : Ending → World → Prop} {a : Act} {w : World} (hr : fn.results = #[]) (hd : a.defers = []) (hR : R (.returned (.tuple #[])) w) : bodyPost P fn R .normal a w :=
  bodyPost_end (results_none hr _ _ _) hd hR
theorem Tryd.res52 : Tryd.f52.results = #[] := by kernel_rfl

set_option maxRecDepth 100000 in
set_option maxHeartbeats 1600000 in
theorem number_any (n : Int) (bytes : Nat) (bw bb B : Nat) (xs : List Int) (W : World) (hW : Wr W bw bb B xs) (hx : xs.length ≤ 1000000) (hb : bytes ≤ 8) (hB : B ≤ W.heap.size) :
    Calls Tryd.prog 52 #[.pointer (some ⟨bw, 0, none⟩), .int .i64 n, .int .i64 bytes] W fun e W' => e = .returned (.tuple #[]) ∧ Wr W' bw bb B (xs ++ digs (IntKind.u64.wrap n) bytes) ∧ Fr B bw W W' := by
  obtain ⟨i0, hi, hz0, hz1, hz2⟩ := info_parts Tryd.info5
  go_enter Tryd.func52, Tryd.ntmps52
  go_wp2_with fail
  go_loopw [8] (fun i wr => ∃ k : Nat, i = .int .i64 k ∧ k ≤ bytes ∧ Wr wr bw bb B (xs ++ digs (IntKind.u64.wrap n) k) ∧ Fr B bw W wr) (fun i _ => bytes - (intOf i).toNat)
  case atStart => exact ⟨0, rfl, Nat.zero_le _, by simpa [digs] using hW, Fr.refl _ _ _⟩
  case round =>
    obtain ⟨k, rfl, hk, hWr, hfr⟩ := hrel
    obtain ⟨hbw, v, hh, hown⟩ := id hWr
    have hBr := Nat.le_trans hB hfr.size
    obtain ⟨c0, c1, f0⟩ := wr_cells hh
    by_cases hlt : k < bytes
    · have hln : (xs ++ digs (IntKind.u64.wrap n) k).length = xs.length + k := by rw [List.length_append, digs_len]
      have m1 : IntKind.i64.wrap (8 * (k : Int)) = 8 * (k : Int) := IntWalk.i64_in _ (by omega)
      have m2 : (0 : Int) ≤ 8 * (k : Int) := by omega
      have m3 : 8 * (k : Int) < 64 := by omega
      have hd := wrap8_dig n k (by omega)
      have hsucc : xs ++ digs (IntKind.u64.wrap n) (k + 1) = xs ++ digs (IntKind.u64.wrap n) k ++ [IntKind.u8.wrap (n / 2 ^ (8 * (k : Int)).toNat)] := by
        rw [digs_succ, ← List.append_assoc, hd]
      obtain ⟨L, hL⟩ : ∃ L, (xs ++ digs (IntKind.u64.wrap n) k).length = L := ⟨_, rfl⟩
      rw [hL] at hown
      have hL2 : L ≤ 1000008 := by omega
      have hL3 : (xs ++ digs (IntKind.u64.wrap n) (k + 1)).length = L + 1 := by rw [hsucc, List.length_append, hL]; rfl
      have hne := own_not hown hbw
      have ha : ∀ o, (wr.alloc o).cell? ⟨bw, 0, none⟩ = some v ∧ (wr.alloc o).frozen? ⟨bw, 0, none⟩ = false := by
        intro o
        have h1 := (heap_alloc_old (W := wr) o (show bw < wr.heap.size by omega)).trans hh
        exact ⟨(wr_cells h1).1, (wr_cells h1).2.2⟩
      have cA : ∀ o, (wr.alloc o).cell? ⟨bw, 0, none⟩ = some v := fun o => (ha o).1
      have fA : ∀ o, (wr.alloc o).frozen? ⟨bw, 0, none⟩ = false := fun o => (ha o).2
      have Hfr := Lib.hid hfr
      have Hs := Lib.hid hsucc
      have Hd := Lib.hid hd
      have HW := Lib.hid hWr
      clear hfr hsucc hd hWr ha hW hln
      go_wp2_with fail
      go_region_law (first
        | (refine step_append_lies _ (by rfl) _ _ _ (by rfl) B 5 i0 (.int .u8 0) 1 1 Tryd.underlying52 hi hz0 hz1 hz2 rfl (by decide) v L _ (by rfl) ((hown.alloc _).drew)
            ⟨wr.heap.size, 0, none⟩ 1 1 [_] (by rfl) (by rfl) (World.news_of_block (t := 5) (fr := (0, 0)) (heap_alloc_new wr _)) (by simp [Value.oneCell'])
            (by decide) (by unfold maxLen; omega) (by omega) (by simp; omega) (wr.heap.size + 1) (by simp) ?_
           intro gg cap w1 hown1 hgrow hat hlt2
           have c3 : w1.cell? ⟨bw, 0, none⟩ = some v := (hgrow.cell_far ⟨bw, 0, none⟩ (by simp; omega) (Ne.symm hne)).trans (cA _)
           have f3 : w1.frozen? ⟨bw, 0, none⟩ = false := (hgrow.frozen_far ⟨bw, 0, none⟩ (by simp; omega) (Ne.symm hne)).trans (fA _)))
      all_goals go_wp2_with fail
      all_goals
        refine ⟨⟨k + 1, rfl, by omega, ?_, ?_⟩, by simp [intOf]; omega⟩
        · have h1 := wr_grown (bb := bb) (ys := xs ++ digs (IntKind.u64.wrap n) (k + 1)) hbw hh hown hgrow hBr (by
            rw [hL3, Hs.out, List.map_append]; exact hown1)
          rw [hL3] at h1; exact h1
        · exact Hfr.out.grow hown hgrow
    · obtain rfl : k = bytes := by omega
      have Hfr := Lib.hid hfr
      have HW := Lib.hid hWr
      clear hfr hWr
      go_wp2_with fail
      exact void_end Tryd.res52 rfl ⟨rfl, HW.out, Hfr.out⟩
end Go.Proofs.YtfbeeaibejggdaaDoor
namespace Go.Proofs.YtfbeeaibejggdaaDoor
open Go.RowKit

/-- The k lesser bytes of c in the place of xs's bytes from f on. -/
def put (xs : List Int) (f : Nat) (c : Int) (k : Nat) : List Int := xs.take f ++ digs c k ++ xs.drop (f + k)
theorem put_len (xs : List Int) (f : Nat) (c : Int) (k : Nat) (h : f + k ≤ xs.length) : (put xs f c k).length = xs.length := by
  simp [put, digs_len]; omega
theorem put_zero (xs : List Int) (f : Nat) (c : Int) : put xs f c 0 = xs := by simp [put, digs]
theorem put_succ (xs : List Int) (f : Nat) (c : Int) (k : Nat) (h : f + k < xs.length) : put xs f c (k + 1) = (put xs f c k).set (f + k) (c / 256 ^ k % 256) := by
  unfold put
  rw [List.drop_eq_getElem_cons h, digs_succ]
  have hl : (xs.take f ++ digs c k).length = f + k := by simp [digs_len]; omega
  rw [List.set_append_right _ _ (by omega), hl]
  simp [Nat.add_assoc]

theorem Fr.put {B bw L g cap : Nat} {W wr : World} {j : Nat} {u : Value} {xs : List Value} (h : Fr B bw W wr) (hown : wr.ownsRow B 5 1 (.slice (some ⟨g, 0, none⟩) L cap) L xs) (hL : 0 < L) :
    Fr B bw W (wr.setCell ⟨g, j, none⟩ u) := by
  refine ⟨h.os, h.tape, h.output, by have := h.size; simpa [World.setCell] using this, ?_⟩
  intro k hk hne hc
  have h1 := h.block k hk hne hc
  rw [← h1]
  apply heap_setCell_other
  intro e
  simp only at e
  rcases hown.2 with ⟨e2, _⟩ | ⟨g', cap', cur, e2, hb, hg, _⟩
  · simp at e2
  · simp only [Value.slice.injEq, Option.some.injEq, Addr.mk.injEq, and_true, true_and] at e2
    obtain ⟨rfl, _⟩ := e2
    rcases hc with hc | hc
    · omega
    · exact hc cur (by rw [← h1, e]; exact hg)

theorem wr_put {W : World} {bw bb B g cap j L : Nat} {x : Int} {xs : List Int} (hbw : bw < B) (hL : xs.length = L)
    (hh : W.heap[bw]? = some (.cells #[.slice (some ⟨g, 0, none⟩) L cap, .slice (some ⟨bb, 0, none⟩) 11 11] 54 (0, 0)))
    (hown : W.ownsRow B 5 1 (.slice (some ⟨g, 0, none⟩) L cap) L (xs.map (Value.int .u8))) (hg : B ≤ g) :
    Wr (W.setCell ⟨g, j, none⟩ (.int .u8 x)) bw bb B (xs.set j x) := by
  refine ⟨hbw, .slice (some ⟨g, 0, none⟩) L cap, ?_, ?_⟩
  · rw [heap_setCell_other _ _ _ _ (by simp; omega)]; exact hh
  · rw [List.length_set, hL, List.map_set]; exact (hown.stored j _).1

theorem Tryd.res59 : Tryd.f59.results = #[] := by kernel_rfl

set_option maxRecDepth 100000 in
set_option maxHeartbeats 1600000 in
theorem setLength_any (f : Nat) (bw bb B : Nat) (xs : List Int) (W : World) (hW : Wr W bw bb B xs) (hx : xs.length ≤ 2000000) (hf : f + 8 ≤ xs.length) (hB : B ≤ W.heap.size) :
    Calls Tryd.prog 59 #[.pointer (some ⟨bw, 0, none⟩), .int .i64 f] W fun e W' => e = .returned (.tuple #[]) ∧ Wr W' bw bb B (put xs f ((xs.length : Int) - f - 8) 4) ∧ Fr B bw W W' := by
  obtain ⟨hbw0, v0, hh0, hown0⟩ := id hW
  obtain ⟨c0, c1, f0⟩ := wr_cells hh0
  obtain ⟨g0, cap0, rfl, hc1, hc2⟩ := own_shape hown0 (by omega)
  obtain ⟨c, hc⟩ : ∃ c : Int, (xs.length : Int) - f - 8 = c := ⟨_, rfl⟩
  have e1 : IntKind.i64.wrap ((xs.length : Int) - f) = (xs.length : Int) - f := IntWalk.i64_in _ (by omega)
  have e2 : IntKind.i64.wrap ((xs.length : Int) - f - 8) = c := by rw [hc]; exact IntWalk.i64_in _ (by omega)
  have hc3 : 0 ≤ c := by omega
  have hc4 : c ≤ 2000000 := by omega
  have HW := Lib.hid hW
  clear hW hown0 hh0 f0 c1
  have hwc : IntKind.u64.wrap c = c := by simp [IntKind.wrap, IntKind.bits, IntKind.signed]; omega
  rw [hc]
  go_enter Tryd.func59, Tryd.ntmps59
  go_wp2_with fail
  go_loopw [14] (fun i wr => ∃ k : Nat, i = .int .i64 k ∧ k ≤ 4 ∧ Wr wr bw bb B (put xs f c k) ∧ Fr B bw W wr) (fun i _ => 4 - (intOf i).toNat)
  case atStart => exact ⟨0, rfl, Nat.zero_le _, by rw [put_zero]; exact HW.out, Fr.refl _ _ _⟩
  case round =>
    obtain ⟨k, rfl, hk, hWr, hfr⟩ := hrel
    by_cases hlt : k < 4
    · have hpl := put_len xs f c k (by omega)
      have hps := put_succ xs f c k (by omega)
      obtain ⟨hbw, v, hh, hown⟩ := hWr
      obtain ⟨c0, c1, f0⟩ := wr_cells hh
      rw [hpl] at hown
      obtain ⟨g, cap, rfl, hcl, hcm⟩ := own_shape hown (by omega)
      have hg : B ≤ g := (hown.lt g (by simp [Value.ownBlock])).1
      have m1 : IntKind.i64.wrap (8 * (k : Int)) = 8 * (k : Int) := IntWalk.i64_in _ (by omega)
      have m2 : (0 : Int) ≤ 8 * (k : Int) := by omega
      have m3 : 8 * (k : Int) < 64 := by omega
      have m4 : IntKind.i64.wrap ((f : Int) + k) = (f : Int) + k := IntWalk.i64_in _ (by omega)
      have m5 : (0 : Int) ≤ (f : Int) + (k : Int) := by omega
      have m6 : (f : Int) + (k : Int) < (xs.length : Int) := by omega
      have m7 : ((f : Int) + (k : Int)).toNat = f + k := by omega
      have fz := hown.frozenAt (f + k)
      have hpw : c / 2 ^ (8 * k) % 256 = c / 256 ^ k % 256 := by rw [show (256 : Int) ^ k = 2 ^ (8 * k) by rw [Int.pow_mul]; rfl]
      have w1 := wr_put (x := c / 256 ^ k % 256) (j := f + k) (bb := bb) hbw hpl hh hown hg
      rw [← hps] at w1
      have w2 := hfr.put (j := f + k) (u := .int .u8 (c / 256 ^ k % 256)) hown (by omega)
      have W1 := Lib.hid w1
      have W2 := Lib.hid w2
      have cg : wr.cell? ⟨g, f + k, none⟩ = some (.int .u8 ((put xs f c k).getD (f + k) 0)) := by
        rw [hown.cellAt _ (by omega)]
        simp [List.getElem?_eq_getElem (show f + k < (put xs f c k).length by omega), List.getD]
      clear w1 w2 hown hh hfr hps
      go_wp2_with fail
      go_still_tail 13, (by kernel_rfl)
      change wpList _ _ _ _ _ wr.drew
      go_wp2_with fail
      refine ⟨⟨k + 1, rfl, by omega, ?_, ?_⟩, by simp [intOf]; omega⟩
      · exact W1.out
      · exact (W2.out.trans ⟨rfl, rfl, rfl, Nat.le_refl _, fun _ _ _ _ => rfl⟩ : Fr B bw W (wr.setCell ⟨g, f + k, none⟩ (.int .u8 (c / 256 ^ k % 256))).drew)
    · obtain rfl : k = 4 := by omega
      have HW1 := Lib.hid hWr
      have Hfr := Lib.hid hfr
      clear hWr hfr
      go_wp2_with fail
      exact void_end Tryd.res59 rfl ⟨rfl, HW1.out, Hfr.out⟩
end Go.Proofs.YtfbeeaibejggdaaDoor
namespace Go.Proofs.YtfbeeaibejggdaaDoor
open Go.RowKit

/-- A string's bytes as numbers. -/
def byt (s : ByteArray) : List Int := s.data.toList.map fun b => (b.toNat : Int)
theorem byt_len (s : ByteArray) : (byt s).length = s.size := by
  unfold byt; rw [List.length_map, Array.length_toList]; rfl
theorem byt_cells (s : ByteArray) : Go.Lib.strCells s = (byt s).map (Value.int .u8) := by simp [Go.Lib.strCells, byt]
theorem byt_app (a b : ByteArray) : byt (a ++ b) = byt a ++ byt b := by
  unfold byt; rw [ByteArray.data_append, Array.toList_append, List.map_append]

/-- Appending a string's bytes, at a step of a region that draws its order. -/
theorem step_append_str {P : Program} (w : World) {ops : Array Oper} {o : Oper} {a : Act} {K : Act → World → Prop} {Q : Exit → Act → World → Prop} {E : Prop} (hgd : o.guard = none) (sl x : Operand) (t u : TypeId)
    (ho : o.op = .call { callee := .builtin .append, args := #[sl, x], argTypes := #[t, u] })
    (base : Nat) (e : TypeId) (i : TypeInfo) (ht : P.underlying t = some (.slice e)) (hu : P.underlying u = some .string) (hi : P.info? e = some i) (hz : i.zero = some (.int .u8 0))
    (hsize : i.size = 1) (hby : i.bytes = 1)
    (v : Value) (n : Nat) (xs : List Value) (hs : a.eval sl = v) (hown : w.ownsRow base e 1 v n xs) (s : ByteArray) (hx : a.eval x = .string s)
    (h63 : n + s.size ≤ maxLen) (hbytes : n + s.size ≤ 140737488355328) (hbase : base ≤ w.heap.size)
    (h : ∀ v' w', w'.ownsRow base e 1 v' (n + s.size) (xs ++ Go.Lib.strCells s) → w.grownBy w' v.ownBlock → K (a.put o.dst v') w') :
    if Region.wanted o (yielded ops a.tmps) = true then Oper.wp P o a w K Q else E := by
  have hw : Region.wanted o (yielded ops a.tmps) = true := by simp [Region.wanted, hgd]
  rw [if_pos hw]
  obtain ⟨v', w', hr, h2, h3, _⟩ := Go.Lib.run_append_own_string (P := P) w base t u o.type e i ht hu hi hz hsize hby v n xs hown s h63 hbytes hbase
  unfold Oper.wp execOp
  simp only [ho, resolve, invoke, builtin, Sem.run_bind, Sem.run_pure, Result.andThen_ok, List.map_toArray, List.map_cons, List.map_nil, hs, hx, hr]
  exact h v' w' h2 h3

theorem wr_grown2 {W w1 : World} {bw bb B L n : Nat} {v v' : Value} {o : Obj} {xs ys : List Int} (hbw : bw < B) (hh : W.heap[bw]? = some (.cells #[v, .slice (some ⟨bb, 0, none⟩) 11 11] 54 (0, 0)))
    (hown : W.ownsRow B 5 1 v L (xs.map (Value.int .u8))) (hgrow : (W.alloc o).drew.grownBy w1 v.ownBlock) (hB : B ≤ W.heap.size) (hn : ys.length = n)
    (hown1 : w1.ownsRow B 5 1 v' n (ys.map (Value.int .u8))) :
    Wr (w1.setCell ⟨bw, 0, none⟩ v') bw bb B ys := by
  have h1 : w1.heap[bw]? = some (.cells #[v, .slice (some ⟨bb, 0, none⟩) 11 11] 54 (0, 0)) := by
    rw [hgrow.block bw (by rw [heap_drew]; simp; omega) (Ne.symm (own_not hown hbw)), heap_drew, heap_alloc_old _ (by omega), hh]
  refine ⟨hbw, v', ?_, ?_⟩
  · rw [heap_setCell_same _ _ _ _ _ _ h1]; rfl
  · rw [hn]; exact ownsRow_setCell_below hown1 hbw _

theorem own_form {w : World} {B e sz n : Nat} {v : Value} {xs : List Value} (h : w.ownsRow B e sz v n xs) : ∃ a k c, v = .slice a k c := by
  rcases h.2 with ⟨h1, _⟩ | ⟨g, cap, cur, hv, _⟩
  · exact ⟨_, _, _, h1⟩
  · exact ⟨_, _, _, hv⟩

theorem Tryd.res54 : Tryd.f54.results = #[] := by kernel_rfl

set_option maxRecDepth 100000 in
set_option maxHeartbeats 1600000 in
theorem text_any (kd n : Int) (s : ByteArray) (keys : List Int) (kids : List T) (v : Value) (bw bb B : Nat) (xs : List Int) (W : World) (hr : Rep W (.mk kd n s keys kids) v)
    (hW : Wr W bw bb B xs) (hx : xs.length ≤ 1000000) (hs : s.size ≤ 1000000) (hB : B ≤ W.heap.size) :
    Calls Tryd.prog 54 #[.pointer (some ⟨bw, 0, none⟩), v] W fun e W' => e = .returned (.tuple #[]) ∧ Wr W' bw bb B (xs ++ byt s) ∧ Fr B bw W W' := by
  obtain ⟨i0, hi, hz0, hz1, hz2⟩ := info_parts Tryd.info5
  unfold Rep at hr
  obtain ⟨ka, va, kc, vc, rfl, _⟩ := hr
  obtain ⟨hbw, v, hh, hown⟩ := id hW
  obtain ⟨L, hL⟩ : ∃ L, xs.length = L := ⟨_, rfl⟩
  rw [hL] at hown
  have hne := own_not hown hbw
  have ha : ∀ o, (W.alloc o).cell? ⟨bw, 0, none⟩ = some v ∧ (W.alloc o).frozen? ⟨bw, 0, none⟩ = false := by
    intro o
    have h1 := (heap_alloc_old (W := W) o (show bw < W.heap.size by omega)).trans hh
    exact ⟨(wr_cells h1).1, (wr_cells h1).2.2⟩
  have cA : ∀ o, (W.alloc o).cell? ⟨bw, 0, none⟩ = some v := fun o => (ha o).1
  have fA : ∀ o, (W.alloc o).frozen? ⟨bw, 0, none⟩ = false := fun o => (ha o).2
  have HW := Lib.hid hW
  clear hW ha
  go_enter Tryd.func54, Tryd.ntmps54
  go_wp2_with fail
  go_region_law (first
    | (refine step_append_str _ (by rfl) _ _ _ _ (by rfl) B 5 i0 Tryd.underlying52 Tryd.underlying9 hi hz0 hz1 hz2 v L _ (by rfl) ((hown.alloc _).drew) s (by rfl)
        (by unfold maxLen; omega) (by omega) (by simp; omega) ?_
       intro v2 w1 hown1 hgrow
       obtain ⟨oa, nn, cc, rfl⟩ := own_form hown1
       have c3 : w1.cell? ⟨bw, 0, none⟩ = some v := (hgrow.cell_far ⟨bw, 0, none⟩ (by simp; omega) (Ne.symm hne)).trans (cA _)
       have f3 : w1.frozen? ⟨bw, 0, none⟩ = false := (hgrow.frozen_far ⟨bw, 0, none⟩ (by simp; omega) (Ne.symm hne)).trans (fA _)))
  all_goals go_wp2_with fail
  all_goals
    refine void_end Tryd.res54 rfl ⟨rfl, ?_, (Fr.refl B bw W).grow hown hgrow⟩
    refine wr_grown2 (n := L + s.size) hbw hh hown hgrow hB (by rw [List.length_append, byt_len, hL]) ?_
    rw [List.map_append, ← byt_cells]; exact hown1
end Go.Proofs.YtfbeeaibejggdaaDoor
namespace Go.Proofs.YtfbeeaibejggdaaDoor
open Go.RowKit

theorem Wr.alloc {W : World} {bw bb B : Nat} {xs : List Int} (h : Wr W bw bb B xs) (hB : B ≤ W.heap.size) (o : Obj) : Wr (W.alloc o) bw bb B xs := by
  obtain ⟨hb, v, hh, hown⟩ := h
  exact ⟨hb, v, (heap_alloc_old o (by omega)).trans hh, hown.alloc _⟩
theorem Fr.alloc (B bw : Nat) (W : World) (o : Obj) : Fr B bw W (W.alloc o) :=
  ⟨rfl, rfl, rfl, by simp, fun _ hk _ _ => heap_alloc_old o hk⟩
theorem Same.fr {W0 W W' : World} {B bw : Nat} (h : Same W0 W) (hf : Fr B bw W W') (h0 : W0.heap.size ≤ bw) (hb : bw < B) (hB : B ≤ W.heap.size) : Same W0 W' := fun a ha => by
  rw [← h a ha]
  exact World.cell?_of_block (hf.block a.block (by omega) (by omega) (.inl (by omega)))
theorem Fr.old {B bw k : Nat} {W W' : World} {o : Obj} (h : Fr B bw W W') (hk : k < B) (hne : k ≠ bw) (hh : W.heap[k]? = some o) : W'.heap[k]? = some o :=
  (h.block k (Array.getElem?_eq_some_iff.1 hh).1 hne (.inl hk)).trans hh
theorem Fr.boxed {B bw k : Nat} {W W' : World} {cs : Array Value} (h : Fr B bw W W') (hne : k ≠ bw) (hh : W.heap[k]? = some (.cells cs 25 (0, 0))) : W'.heap[k]? = some (.cells cs 25 (0, 0)) :=
  (h.block k (Array.getElem?_eq_some_iff.1 hh).1 hne (.inr fun c e => by rw [hh] at e; simp at e)).trans hh

/-- What the writer does at a value. -/
def WroteAt (tb : Obj) (t : T) : Prop := ∀ (v : Value) (W0 W : World) (bw bb B : Nat) (xs : List Int), Rep W0 t v → Same W0 W → W0.heap.size ≤ bw → bb < B → bb ≠ bw → W.heap[bb]? = some tb →
  Wr W bw bb B xs → xs.length % 8 = 0 → xs.length + (byt (writtenT t)).length ≤ 1000000 → B ≤ W.heap.size →
  Calls Tryd.prog 35 #[.pointer (some ⟨bw, 0, none⟩), v] W fun e W' => e = .returned (.tuple #[]) ∧ Wr W' bw bb B (xs ++ byt (writtenT t)) ∧ Fr B bw W W'

def kidsOut (l : List T) : List Int := (l.map fun t => byt (writtenT t)).flatten
theorem kidsOut_snoc (l : List T) (t : T) : kidsOut (l ++ [t]) = kidsOut l ++ byt (writtenT t) := by simp [kidsOut]
theorem kidsOut_take (l : List T) (k : Nat) : (kidsOut (l.take k)).length ≤ (kidsOut l).length := by
  conv => rhs; rw [← List.take_append_drop k l]
  simp only [kidsOut, List.map_append, List.flatten_append, List.length_append]; omega
theorem kidsOut_eight (l : List T) (h : ∀ t ∈ l, (byt (writtenT t)).length % 8 = 0) : (kidsOut l).length % 8 = 0 := by
  induction l with
  | nil => rfl
  | cons t r ih =>
    have h1 := h t (by simp)
    have h2 := ih fun x hx => h x (by simp [hx])
    simp only [kidsOut, List.map_cons, List.flatten_cons, List.length_append] at *
    omega

theorem rep_fields {w : World} {t : T} {v0 v1 v2 v3 v4 : Value} (h : Rep w t (.agg #[v0, v1, v2, v3, v4])) :
    ∃ k n s a b c d e f, v0 = .int .i64 k ∧ v1 = .int .i64 n ∧ v2 = .string s ∧ v3 = .slice a b c ∧ v4 = .slice d e f := by
  obtain ⟨kd, n, s, keys, kids⟩ := t
  unfold Rep at h
  obtain ⟨ka, va, kc, vc, hv, _⟩ := h
  injection hv with hv
  have e0 : v0 = .int .i64 kd := by have := congrArg (fun x : Array Value => x[0]!) hv; simpa using this
  have e1 : v1 = .int .i64 n := by have := congrArg (fun x : Array Value => x[1]!) hv; simpa using this
  have e2 : v2 = .string s := by have := congrArg (fun x : Array Value => x[2]!) hv; simpa using this
  have e3 : v3 = .slice ka keys.length kc := by have := congrArg (fun x : Array Value => x[3]!) hv; simpa using this
  have e4 : v4 = .slice va kids.length vc := by have := congrArg (fun x : Array Value => x[4]!) hv; simpa using this
  exact ⟨_, _, _, _, _, _, _, _, _, e0, e1, e2, e3, e4⟩

theorem Tryd.res55 : Tryd.f55.results = #[] := by kernel_rfl

set_option maxRecDepth 100000 in
set_option maxHeartbeats 1600000 in
theorem kids_any (tb : Obj) (kd n : Int) (s : ByteArray) (keys : List Int) (kids : List T) (v : Value) (W0 W : World) (bw bb B : Nat) (xs : List Int) (hr : Rep W0 (.mk kd n s keys kids) v) (hsm : Same W0 W) (h0 : W0.heap.size ≤ bw)
    (hbb : bb < B) (hbn : bb ≠ bw) (htb : W.heap[bb]? = some tb)
    (hW : Wr W bw bb B xs) (hx : xs.length % 8 = 0) (h8 : ∀ t ∈ kids, (byt (writtenT t)).length % 8 = 0) (hl : xs.length + (kidsOut kids).length ≤ 1000000) (hB : B ≤ W.heap.size)
    (ih : ∀ j, (h : j < kids.length) → WroteAt tb kids[j]) :
    Calls Tryd.prog 55 #[.pointer (some ⟨bw, 0, none⟩), v] W fun e W' => e = .returned (.tuple #[]) ∧ Wr W' bw bb B (xs ++ kidsOut kids) ∧ Fr B bw W W' := by
  unfold Rep at hr
  obtain ⟨ka, va, kc, vc, rfl, _, _, _, _, hvl, _, hkids⟩ := hr
  have hbw := hW.1
  obtain ⟨box, hbox⟩ : ∃ box, box = Obj.cells #[.int .i64 kd, .int .i64 n, .string s, .slice ka keys.length kc, .slice va kids.length vc] 25 (0, 0) := ⟨_, rfl⟩
  have hnew := heap_alloc_new W box
  have hW1 := Lib.hid (hW.alloc hB box)
  have HF := Lib.hid (Fr.alloc B bw W box)
  have HI := Lib.hid ih
  have HT := Lib.hid htb
  have HS := Lib.hid hsm
  have H8 := Lib.hid h8
  clear hW ih htb hsm h8
  go_enter Tryd.func55, Tryd.ntmps55
  go_wp2_with fail
  go_loopw [9] (fun i wr => ∃ k : Nat, i = .int .i64 k ∧ k ≤ kids.length ∧ Wr wr bw bb B (xs ++ kidsOut (kids.take k)) ∧ Fr B bw (W.alloc box) wr) (fun i _ => kids.length - (intOf i).toNat)
  case atStart => exact ⟨0, rfl, Nat.zero_le _, by subst hbox; simpa [kidsOut] using hW1.out, by subst hbox; exact Fr.refl _ _ _⟩
  case round =>
    obtain ⟨k, rfl, hk, hWr, hfr⟩ := hrel
    have hBr : B ≤ wr.heap.size := by have := hfr.size; simp at this; omega
    by_cases hlt : k < kids.length
    · have hfr2 := HF.out.trans hfr
      obtain ⟨b, off, v0, v1, v2, v3, v4, rfl, g0, g1, g2, g3, g4, hrk⟩ := KidsIn.at kids 0 k hlt hkids
      simp only [Nat.zero_add] at g0 g1 g2 g3 g4
      obtain ⟨kk, kn, ks, sa, sb, sc, ta, tb', tc, rfl, rfl, rfl, rfl, rfl⟩ := rep_fields hrk
      have hsw : Same W0 wr := HS.out.fr hfr2 h0 hbw hB
      have q0 := hsw.cell g0
      have q1 := hsw.cell g1
      have q2 := hsw.cell g2
      have q3 := hsw.cell g3
      have q4 := hsw.cell g4
      have hsn := kidsOut_snoc (kids.take k) kids[k]
      rw [← take_next kids k hlt] at hsn
      have hlk := kidsOut_take kids (k + 1)
      have h8k := kidsOut_eight (kids.take k) fun t ht => H8.out t (List.mem_of_mem_take ht)
      have htb2 := hfr2.old hbb hbn HT.out
      have hcall := HI.out k hlt _ W0 (wr.alloc (.cells #[.int .i64 kk, .int .i64 kn, .string ks, .slice sa sb sc, .slice ta tb' tc] 25)) bw bb B (xs ++ kidsOut (kids.take k)) hrk
        (fun a ha => by rw [← hsw a ha]; exact World.cell?_of_block (heap_alloc_old _ (by have := hfr2.size; have := hfr2.block; omega))) h0 hbb hbn
        ((heap_alloc_old _ (by omega)).trans htb2) (hWr.alloc hBr _) (by rw [List.length_append]; omega) (by rw [List.length_append, Nat.add_assoc, ← List.length_append, ← hsn]; omega) (by simp; omega)
      have Hsn := Lib.hid hsn
      have Hfr := Lib.hid hfr
      clear hsn hfr hfr2 hsw hWr hlk h8k htb2
      go_wp2_with (go_at_call 35; refine hcall.mono ?_; rintro e w1 ⟨rfl, hw1, hf1⟩)
      exact ⟨⟨k + 1, rfl, by omega, by rw [Hsn.out, ← List.append_assoc]; exact hw1, Hfr.out.trans ((Fr.alloc B bw wr _).trans hf1)⟩, by simp [intOf]; omega⟩
    · obtain rfl : k = kids.length := by omega
      rw [List.take_length] at hWr
      have H1 := Lib.hid hWr
      have H2 := Lib.hid (HF.out.trans hfr)
      clear hWr hfr
      go_wp2_with fail
      exact void_end Tryd.res55 rfl ⟨rfl, H1.out, H2.out⟩
end Go.Proofs.YtfbeeaibejggdaaDoor
namespace Go.Proofs.YtfbeeaibejggdaaDoor
open Go.RowKit

/-- What the writer does at the first k kids that have keys. -/
def keyedOut (keys : List Int) (kids : List T) : Nat → List Int
  | 0 => []
  | k + 1 => keyedOut keys kids k ++ (digs (IntKind.u64.wrap (keys.getD k 0)) 8 ++ (match kids[k]? with | some t => byt (writtenT t) | none => []))
theorem keyedOut_next (keys : List Int) (kids : List T) (k : Nat) (h : k < kids.length) :
    keyedOut keys kids (k + 1) = keyedOut keys kids k ++ digs (IntKind.u64.wrap (keys.getD k 0)) 8 ++ byt (writtenT kids[k]) := by
  rw [keyedOut, List.getElem?_eq_getElem h, List.append_assoc]
theorem keyedOut_mono (keys : List Int) (kids : List T) (j : Nat) : ∀ k, j ≤ k → (keyedOut keys kids j).length ≤ (keyedOut keys kids k).length := by
  intro k
  induction k with
  | zero => intro h; obtain rfl : j = 0 := by omega
            exact Nat.le_refl _
  | succ k ih =>
    intro h
    by_cases e : j = k + 1
    · subst e; exact Nat.le_refl _
    · have := ih (by omega)
      rw [keyedOut, List.length_append]; omega
theorem keyedOut_eight (keys : List Int) (kids : List T) (h : ∀ t ∈ kids, (byt (writtenT t)).length % 8 = 0) : ∀ k, k ≤ kids.length → (keyedOut keys kids k).length % 8 = 0 := by
  intro k
  induction k with
  | zero => intro _; rfl
  | succ k ih =>
    intro hk
    have h1 := ih (by omega)
    have h2 := h _ (List.getElem_mem (show k < kids.length by omega))
    rw [keyedOut_next keys kids k (by omega), List.length_append, List.length_append, digs_len]; omega

theorem Tryd.res58 : Tryd.f58.results = #[] := by kernel_rfl

theorem five_cells {w : World} {k : Nat} {c0 c1 c2 c3 c4 : Value} {t : TypeId} (h : w.heap[k]? = some (.cells #[c0, c1, c2, c3, c4] t (0, 0))) :
    w.cell? ⟨k, 0, none⟩ = some c0 ∧ w.cell? ⟨k, 1, none⟩ = some c1 ∧ w.cell? ⟨k, 2, none⟩ = some c2 ∧ w.cell? ⟨k, 3, none⟩ = some c3 ∧ w.cell? ⟨k, 4, none⟩ = some c4 := by
  refine ⟨?_, ?_, ?_, ?_, ?_⟩ <;> simp [World.cell?, h]

set_option maxRecDepth 100000 in
set_option maxHeartbeats 1600000 in
theorem keyed_any (tb : Obj) (kd n : Int) (s : ByteArray) (keys : List Int) (kids : List T) (v : Value) (W0 W : World) (bw bb B : Nat) (xs : List Int) (hr : Rep W0 (.mk kd n s keys kids) v) (hsm : Same W0 W) (h0 : W0.heap.size ≤ bw)
    (hbb : bb < B) (hbn : bb ≠ bw) (htb : W.heap[bb]? = some tb)
    (hW : Wr W bw bb B xs) (hx : xs.length % 8 = 0) (h8 : ∀ t ∈ kids, (byt (writtenT t)).length % 8 = 0) (hl : xs.length + (keyedOut keys kids kids.length).length ≤ 1000000) (hB : B ≤ W.heap.size)
    (hkk : keys.length = kids.length) (ih : ∀ j, (h : j < kids.length) → WroteAt tb kids[j]) :
    Calls Tryd.prog 58 #[.pointer (some ⟨bw, 0, none⟩), v] W fun e W' => e = .returned (.tuple #[]) ∧ Wr W' bw bb B (xs ++ keyedOut keys kids kids.length) ∧ Fr B bw W W' := by
  unfold Rep at hr
  obtain ⟨ka, va, kc, vc, rfl, _, _, _, _, hvl, hkeys, hkids⟩ := hr
  have hbw := hW.1
  have HKK := Lib.hid hkk
  clear hkk
  obtain ⟨box, hbox⟩ : ∃ box, box = Obj.cells #[.int .i64 kd, .int .i64 n, .string s, .slice ka keys.length kc, .slice va kids.length vc] 25 (0, 0) := ⟨_, rfl⟩
  have hnew := heap_alloc_new W box
  have hW1 := Lib.hid (hW.alloc hB box)
  have HF := Lib.hid (Fr.alloc B bw W box)
  have HI := Lib.hid ih
  have HT := Lib.hid htb
  have HS := Lib.hid hsm
  have H8 := Lib.hid h8
  clear hW ih htb hsm h8
  go_enter Tryd.func58, Tryd.ntmps58
  go_wp2_with fail
  go_loopw [9] (fun i wr => ∃ k : Nat, i = .int .i64 k ∧ k ≤ kids.length ∧ Wr wr bw bb B (xs ++ keyedOut keys kids k) ∧ Fr B bw (W.alloc box) wr) (fun i _ => kids.length - (intOf i).toNat)
  case atStart => exact ⟨0, rfl, Nat.zero_le _, by subst hbox; simpa [keyedOut] using hW1.out, by subst hbox; exact Fr.refl _ _ _⟩
  case round =>
    obtain ⟨k, rfl, hk, hWr, hfr⟩ := hrel
    have hBr : B ≤ wr.heap.size := by have := hfr.size; simp at this; omega
    by_cases hlt : k < kids.length
    · have hfr2 := HF.out.trans hfr
      obtain ⟨b, off, v0, v1, v2, v3, v4, rfl, g0, g1, g2, g3, g4, hrk⟩ := KidsIn.at kids 0 k hlt hkids
      simp only [Nat.zero_add] at g0 g1 g2 g3 g4
      obtain ⟨kk, kn, ks, sa, sb, sc, ta, tb', tc, rfl, rfl, rfl, rfl, rfl⟩ := rep_fields hrk
      have hsw : Same W0 wr := HS.out.fr hfr2 h0 hbw hB
      have q0 := hsw.cell g0
      have q1 := hsw.cell g1
      have q2 := hsw.cell g2
      have q3 := hsw.cell g3
      have q4 := hsw.cell g4
      have hsn := keyedOut_next keys kids k hlt
      obtain ⟨key, hkey⟩ : ∃ x, keys.getD k 0 = x := ⟨_, rfl⟩
      rw [hkey] at hsn
      have hlk := keyedOut_mono keys kids (k + 1) kids.length (by omega)
      have hl3 : (keyedOut keys kids (k + 1)).length = (keyedOut keys kids k).length + 8 + (byt (writtenT kids[k])).length := by rw [hsn, List.length_append, List.length_append, digs_len]
      have h8k := keyedOut_eight keys kids H8.out k hk
      have htb2 := hfr2.old hbb hbn HT.out
      obtain ⟨bk, ok, rfl, kc0, kI⟩ := hkeys k (by rw [HKK.out]; exact hlt)
      rw [hkey] at kc0 kI
      have kc1 := hsw.cell kc0
      have kcA : ∀ o, (wr.alloc o).cell? ⟨bk, ok + k, none⟩ = some (.int .i64 key) := fun o => (World.cell?_of_block (heap_alloc_old _ (World.block_lt_of_cell? wr _ kc1))).trans kc1
      have hbx : wr.heap[W.heap.size]? = some box := by subst hbox; exact hfr.boxed (by omega) hnew
      have hszb : W.heap.size < wr.heap.size := (Array.getElem?_eq_some_iff.1 hbx).1
      have c3 : wr.cell? ⟨W.heap.size, 3, none⟩ = some (.slice (some ⟨bk, ok, none⟩) keys.length kc) := by subst hbox; simp [World.cell?, hbx]
      have cA3 : ∀ o, (wr.alloc o).cell? ⟨W.heap.size, 3, none⟩ = some (.slice (some ⟨bk, ok, none⟩) keys.length kc) := fun o => (World.cell?_of_block (heap_alloc_old _ hszb)).trans c3
      have hkb := heap_alloc_new wr (.cells #[.int .i64 kk, .int .i64 kn, .string ks, .slice sa sb sc, .slice ta tb' tc] 25)
      have hnum := number_any key 8 bw bb B (xs ++ keyedOut keys kids k) (wr.alloc (.cells #[.int .i64 kk, .int .i64 kn, .string ks, .slice sa sb sc, .slice ta tb' tc] 25)) (hWr.alloc hBr _) (by rw [List.length_append]; omega) (by omega) (by simp; omega)
      have hsA : Same W0 (wr.alloc (.cells #[.int .i64 kk, .int .i64 kn, .string ks, .slice sa sb sc, .slice ta tb' tc] 25)) := fun a ha => by rw [← hsw a ha]; exact World.cell?_of_block (heap_alloc_old _ (by have := hfr2.size; omega))
      have htA := (heap_alloc_old (.cells #[.int .i64 kk, .int .i64 kn, .string ks, .slice sa sb sc, .slice ta tb' tc] 25) (show bb < wr.heap.size by omega)).trans htb2
      have hcall : ∀ w1, Wr w1 bw bb B (xs ++ keyedOut keys kids k ++ digs (IntKind.u64.wrap key) 8) → Fr B bw (wr.alloc (.cells #[.int .i64 kk, .int .i64 kn, .string ks, .slice sa sb sc, .slice ta tb' tc] 25)) w1 →
          Calls Tryd.prog 35 #[.pointer (some ⟨bw, 0, none⟩), .agg #[.int .i64 kk, .int .i64 kn, .string ks, .slice sa sb sc, .slice ta tb' tc]] w1 fun e w2 => e = .returned (.tuple #[]) ∧ Wr w2 bw bb B (xs ++ keyedOut keys kids (k + 1)) ∧ Fr B bw (W.alloc box) w2 := by
        intro w1 hw1 hf1
        refine (HI.out k hlt _ W0 w1 bw bb B _ hrk (hsA.fr hf1 h0 hbw (by simp; omega)) h0 hbb hbn (hf1.old hbb hbn htA) hw1 (by rw [List.length_append, List.length_append, digs_len]; omega)
          (by rw [List.length_append, List.length_append, digs_len]; omega) (by have := hf1.size; simp at this; omega)).mono ?_
        rintro e w2 ⟨rfl, g1, g2⟩
        refine ⟨rfl, ?_, hfr.trans ((Fr.alloc B bw wr _).trans (hf1.trans g2))⟩
        rw [hsn, ← List.append_assoc, ← List.append_assoc]; exact g1
      have hkv := Nat.lt_of_lt_of_eq hlt HKK.out.symm
      have hne2 : wr.heap.size ≠ bw := by omega
      clear hsn hfr hfr2 hsw hWr hlk h8k htb2 hsA htA hl3 hl
      go_wp2_with (first
        | (go_at_call 52; refine hnum.mono ?_; rintro e w1 ⟨rfl, hw1, hf1⟩; obtain ⟨z0, z1, z2, z3, z4⟩ := five_cells (hf1.boxed hne2 hkb))
        | (go_at_call 35; refine (hcall _ hw1 hf1).mono ?_; rintro e w2 ⟨rfl, hw2, hf2⟩))
      exact ⟨⟨k + 1, rfl, by omega, hw2, hf2⟩, by simp [intOf]; omega⟩
    · obtain rfl : k = kids.length := by omega
      have H1 := Lib.hid hWr
      have H2 := Lib.hid (HF.out.trans hfr)
      clear hWr hfr
      go_wp2_with fail
      exact void_end Tryd.res58 rfl ⟨rfl, H1.out, H2.out⟩
end Go.Proofs.YtfbeeaibejggdaaDoor
