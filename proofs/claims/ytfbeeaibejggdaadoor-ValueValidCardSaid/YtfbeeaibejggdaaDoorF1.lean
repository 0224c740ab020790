import Derived.Test.YtfbeeaibejggdaaDoorA7
import Derived.Deep.AppendLies
import Derived.Deep.RegionLaw
import Derived.Deep.RegionHeld3
import Derived.RangeFuncBox
namespace Go.Proofs.YtfbeeaibejggdaaDoor
open Go.RowKit

/-- A writer in memory: its bytes so far. -/
def Wr (W : World) (bw bb B : Nat) (xs : List Int) : Prop :=
  bw < B ∧ ∃ v : Value, W.heap[bw]? = some (.cells #[v, .slice (some ⟨bb, 0, none⟩) 11 11] 54 (0, 0)) ∧ W.ownsRow B 5 1 v xs.length (xs.map (Value.int .u8))

/-- What the writer leaves: all but its own block and the rows of bytes past B. -/
structure Fr (B bw : Nat) (W W' : World) : Prop where
  os : W'.os = W.os
  tape : W'.tape = W.tape
  output : W'.output = W.output
  size : W.heap.size ≤ W'.heap.size
  block : ∀ k, k < W.heap.size → k ≠ bw → (k < B ∨ ∀ c, W.heap[k]? ≠ some (.cells c 5 (0, 0))) → W'.heap[k]? = W.heap[k]?

theorem Fr.refl (B bw : Nat) (W : World) : Fr B bw W W := ⟨rfl, rfl, rfl, Nat.le_refl _, fun _ _ _ _ => rfl⟩
theorem Fr.trans {B bw : Nat} {W W1 W2 : World} (h : Fr B bw W W1) (g : Fr B bw W1 W2) : Fr B bw W W2 :=
  ⟨g.os.trans h.os, g.tape.trans h.tape, g.output.trans h.output, Nat.le_trans h.size g.size, fun k hk hne hc => by
    have h1 := h.block k hk hne hc
    exact (g.block k (Nat.lt_of_lt_of_le hk h.size) hne (by rw [h1]; exact hc)).trans h1⟩

theorem Fr.grow {B bw L : Nat} {W wr w1 : World} {v u : Value} {o : Obj} {xs : List Value} (h : Fr B bw W wr) (hown : wr.ownsRow B 5 1 v L xs)
    (hgrow : (wr.alloc o).drew.grownBy w1 v.ownBlock) : Fr B bw W (w1.setCell ⟨bw, 0, none⟩ u) := by
  have hs : (wr.alloc o).drew.heap.size = wr.heap.size + 1 := by rw [heap_drew]; simp
  refine ⟨hgrow.os.trans h.os, hgrow.tape.trans h.tape, hgrow.output.trans h.output, ?_, ?_⟩
  · have h1 := hgrow.size
    have h2 := h.size
    rw [hs] at h1
    have : (w1.setCell ⟨bw, 0, none⟩ u).heap.size = w1.heap.size := by simp [World.setCell]
    omega
  · intro k hk hne hc
    have h1 := h.block k hk hne hc
    have h2 := h.size
    have hk2 : k < wr.heap.size := by omega
    rw [heap_setCell_other _ _ _ _ hne, hgrow.block k (by rw [hs]; omega) ?_, ← h1]
    · rw [heap_drew]; simp only [World.alloc]; rw [Array.getElem?_push_lt hk2]; simp [Array.getElem?_eq_getElem hk2]
    · rcases hown.2 with ⟨e, _⟩ | ⟨g, cap, cur, e, hb, hg, _⟩
      · rw [e]; simp [Value.ownBlock]
      · rw [e]; simp only [Value.ownBlock]
        intro hh
        have hkg : k = g := by simpa using hh
        subst hkg
        rcases hc with hc | hc
        · omega
        · exact hc cur (by rw [← h1]; exact hg)

theorem wr_cells {W : World} {bw : Nat} {v u : Value} {t : TypeId} (h : W.heap[bw]? = some (.cells #[v, u] t (0, 0))) :
    W.cell? ⟨bw, 0, none⟩ = some v ∧ W.cell? ⟨bw, 1, none⟩ = some u ∧ W.frozen? ⟨bw, 0, none⟩ = false := by
  refine ⟨?_, ?_, ?_⟩ <;> simp [World.cell?, World.frozen?, h]

theorem heap_alloc_old {W : World} {k : Nat} (o : Obj) (hk : k < W.heap.size) : (W.alloc o).heap[k]? = W.heap[k]? := by
  simp only [World.alloc]; rw [Array.getElem?_push_lt hk]; simp [Array.getElem?_eq_getElem hk]

theorem own_not {W : World} {B bw L : Nat} {v : Value} {xs : List Value} (hown : W.ownsRow B 5 1 v L xs) (hb : bw < B) : v.ownBlock ≠ some bw := by
  intro h
  rcases hown.2 with ⟨h1, _⟩ | ⟨g, cap, cur, hv, hb, _⟩
  · rw [h1] at h; simp [Value.ownBlock] at h
  · rw [hv] at h; simp [Value.ownBlock] at h; omega

/-- The writer behind an append and the store. -/
theorem wr_grown {W w1 : World} {bw bb B L gg cap : Nat} {v : Value} {o : Obj} {xs ys : List Int} (hbw : bw < B) (hh : W.heap[bw]? = some (.cells #[v, .slice (some ⟨bb, 0, none⟩) 11 11] 54 (0, 0)))
    (hown : W.ownsRow B 5 1 v L (xs.map (Value.int .u8))) (hgrow : (W.alloc o).drew.grownBy w1 v.ownBlock) (hB : B ≤ W.heap.size)
    (hown1 : w1.ownsRow B 5 1 (.slice (some ⟨gg, 0, none⟩) ys.length cap) ys.length (ys.map (Value.int .u8))) :
    Wr (w1.setCell ⟨bw, 0, none⟩ (.slice (some ⟨gg, 0, none⟩) ys.length cap)) bw bb B ys := by
  have h1 : w1.heap[bw]? = some (.cells #[v, .slice (some ⟨bb, 0, none⟩) 11 11] 54 (0, 0)) := by
    rw [hgrow.block bw (by rw [heap_drew]; simp; omega) (Ne.symm (own_not hown hbw)), heap_drew, heap_alloc_old _ (by omega), hh]
  refine ⟨hbw, .slice (some ⟨gg, 0, none⟩) ys.length cap, ?_, ?_⟩
  · rw [heap_setCell_same _ _ _ _ _ _ h1]; rfl
  · exact ownsRow_setCell_below hown1 hbw _

theorem wrap8_dig (n : Int) (k : Nat) (hk : k < 8) : IntKind.u8.wrap (n / 2 ^ (8 * (k : Int)).toNat) = IntKind.u64.wrap n / 256 ^ k % 256 := by
  have e : (8 * (k : Int)).toNat = 8 * k := by omega
  rw [e]
  have h1 : IntKind.u8.wrap (n / 2 ^ (8 * k)) = n / 2 ^ (8 * k) % 256 := by simp [IntKind.wrap, IntKind.bits, IntKind.signed]
  have h2 : IntKind.u64.wrap n = n % 18446744073709551616 := by simp [IntKind.wrap, IntKind.bits, IntKind.signed]
  rw [h1, h2]
  match k, hk with
  | 0, _ => simp
  | 1, _ => simp; omega
  | 2, _ => simp; omega
  | 3, _ => simp; omega
  | 4, _ => simp; omega
  | 5, _ => simp; omega
  | 6, _ => simp; omega
  | 7, _ => simp; omega

theorem void_end {P : Program} {fn : Func} {R : Ending → World → Prop} {a : Act} {w : World} (hr : fn.results = #[]) (hd : a.defers = []) (hR : R (.returned (.tuple #[])) w) : bodyPost P fn R .normal a w :=
  bodyPost_end (results_none hr _ _ _) hd hR
theorem Tryd.res52 : Tryd.f52.results = #[] := by kernel_rfl

set_option maxRecDepth 100000 in
set_option maxHeartbeats 1600000 in
theorem number_any (n : Int) (bytes : Nat) (bw bb B : Nat) (xs : List Int) (W : World) (hW : Wr W bw bb B xs) (hx : xs.length ≤ 1000000) (hb : bytes ≤ 8) (hB : B ≤ W.heap.size) :
    Calls Tryd.prog 52 #[.pointer (some ⟨bw, 0, none⟩), .int .i64 n, .int .i64 bytes] W fun e W' => e = .returned (.tuple #[]) ∧ Wr W' bw bb B (xs ++ digs (IntKind.u64.wrap n) bytes) ∧ Fr B bw W W' := by
  obtain ⟨i0, hi, hz0, hz1, hz2⟩ := info_parts Tryd.info5
  go_enter Tryd.func52, Tryd.ntmps52
  go_wp2_with fail
  go_loopw [8] (fun i wr => ∃ k : Nat, i = .int .i64 k ∧ k ≤ bytes ∧ Wr wr bw bb B (xs ++ digs (IntKind.u64.wrap n) k) ∧ Fr B bw W wr) (fun i _ => bytes - (intOf i).toNat)
  case atStart => exact ⟨0, rfl, Nat.zero_le _, by simpa [digs] using hW, Fr.refl _ _ _⟩
  case round =>
    obtain ⟨k, rfl, hk, hWr, hfr⟩ := hrel
    obtain ⟨hbw, v, hh, hown⟩ := id hWr
    have hBr := Nat.le_trans hB hfr.size
    obtain ⟨c0, c1, f0⟩ := wr_cells hh
    by_cases hlt : k < bytes
    · have hln : (xs ++ digs (IntKind.u64.wrap n) k).length = xs.length + k := by rw [List.length_append, digs_len]
      have m1 : IntKind.i64.wrap (8 * (k : Int)) = 8 * (k : Int) := IntWalk.i64_in _ (by omega)
      have m2 : (0 : Int) ≤ 8 * (k : Int) := by omega
      have m3 : 8 * (k : Int) < 64 := by omega
      have hd := wrap8_dig n k (by omega)
      have hsucc : xs ++ digs (IntKind.u64.wrap n) (k + 1) = xs ++ digs (IntKind.u64.wrap n) k ++ [IntKind.u8.wrap (n / 2 ^ (8 * (k : Int)).toNat)] := by
        rw [digs_succ, ← List.append_assoc, hd]
      obtain ⟨L, hL⟩ : ∃ L, (xs ++ digs (IntKind.u64.wrap n) k).length = L := ⟨_, rfl⟩
      rw [hL] at hown
      have hL2 : L ≤ 1000008 := by omega
      have hL3 : (xs ++ digs (IntKind.u64.wrap n) (k + 1)).length = L + 1 := by rw [hsucc, List.length_append, hL]; rfl
      have hne := own_not hown hbw
      have ha : ∀ o, (wr.alloc o).cell? ⟨bw, 0, none⟩ = some v ∧ (wr.alloc o).frozen? ⟨bw, 0, none⟩ = false := by
        intro o
        have h1 := (heap_alloc_old (W := wr) o (show bw < wr.heap.size by omega)).trans hh
        exact ⟨(wr_cells h1).1, (wr_cells h1).2.2⟩
      have cA : ∀ o, (wr.alloc o).cell? ⟨bw, 0, none⟩ = some v := fun o => (ha o).1
      have fA : ∀ o, (wr.alloc o).frozen? ⟨bw, 0, none⟩ = false := fun o => (ha o).2
      have Hfr := Lib.hid hfr
      have Hs := Lib.hid hsucc
      have Hd := Lib.hid hd
      have HW := Lib.hid hWr
      clear hfr hsucc hd hWr ha hW hln
      go_wp2_with fail
      go_region_law (first
        | (refine step_append_lies _ (by rfl) _ _ _ (by rfl) B 5 i0 (.int .u8 0) 1 1 Tryd.underlying52 hi hz0 hz1 hz2 rfl (by decide) v L _ (by rfl) ((hown.alloc _).drew)
            ⟨wr.heap.size, 0, none⟩ 1 1 [_] (by rfl) (by rfl) (World.news_of_block (t := 5) (fr := (0, 0)) (heap_alloc_new wr _)) (by simp [Value.oneCell'])
            (by decide) (by unfold maxLen; omega) (by omega) (by simp; omega) (wr.heap.size + 1) (by simp) ?_
           intro gg cap w1 hown1 hgrow hat hlt2
           have c3 : w1.cell? ⟨bw, 0, none⟩ = some v := (hgrow.cell_far ⟨bw, 0, none⟩ (by simp; omega) (Ne.symm hne)).trans (cA _)
           have f3 : w1.frozen? ⟨bw, 0, none⟩ = false := (hgrow.frozen_far ⟨bw, 0, none⟩ (by simp; omega) (Ne.symm hne)).trans (fA _)))
      all_goals go_wp2_with fail
      all_goals
        refine ⟨⟨k + 1, rfl, by omega, ?_, ?_⟩, by simp [intOf]; omega⟩
        · have h1 := wr_grown (bb := bb) (ys := xs ++ digs (IntKind.u64.wrap n) (k + 1)) hbw hh hown hgrow hBr (by
            rw [hL3, Hs.out, List.map_append]; exact hown1)
          rw [hL3] at h1; exact h1
        · exact Hfr.out.grow hown hgrow
    · obtain rfl : k = bytes := by omega
      have Hfr := Lib.hid hfr
      have HW := Lib.hid hWr
      clear hfr hWr
      go_wp2_with fail
      exact void_end Tryd.res52 rfl ⟨rfl, HW.out, Hfr.out⟩
end Go.Proofs.YtfbeeaibejggdaaDoor
