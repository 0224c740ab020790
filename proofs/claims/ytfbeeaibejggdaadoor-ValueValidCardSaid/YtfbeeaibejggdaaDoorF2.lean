import Derived.Test.YtfbeeaibejggdaaDoorF1
import Derived.StillTailTactics
namespace Go.Proofs.YtfbeeaibejggdaaDoor
open Go.RowKit

/-- The k lesser bytes of c in the place of xs's bytes from f on. -/
def put (xs : List Int) (f : Nat) (c : Int) (k : Nat) : List Int := xs.take f ++ digs c k ++ xs.drop (f + k)
theorem put_len (xs : List Int) (f : Nat) (c : Int) (k : Nat) (h : f + k ≤ xs.length) : (put xs f c k).length = xs.length := by
  simp [put, digs_len]; omega
theorem put_zero (xs : List Int) (f : Nat) (c : Int) : put xs f c 0 = xs := by simp [put, digs]
theorem put_succ (xs : List Int) (f : Nat) (c : Int) (k : Nat) (h : f + k < xs.length) : put xs f c (k + 1) = (put xs f c k).set (f + k) (c / 256 ^ k % 256) := by
  unfold put
  rw [List.drop_eq_getElem_cons h, digs_succ]
  have hl : (xs.take f ++ digs c k).length = f + k := by simp [digs_len]; omega
  rw [List.set_append_right _ _ (by omega), hl]
  simp [Nat.add_assoc]

theorem Fr.put {B bw L g cap : Nat} {W wr : World} {j : Nat} {u : Value} {xs : List Value} (h : Fr B bw W wr) (hown : wr.ownsRow B 5 1 (.slice (some ⟨g, 0, none⟩) L cap) L xs) (hL : 0 < L) :
    Fr B bw W (wr.setCell ⟨g, j, none⟩ u) := by
  refine ⟨h.os, h.tape, h.output, by have := h.size; simpa [World.setCell] using this, ?_⟩
  intro k hk hne hc
  have h1 := h.block k hk hne hc
  rw [← h1]
  apply heap_setCell_other
  intro e
  simp only at e
  rcases hown.2 with ⟨e2, _⟩ | ⟨g', cap', cur, e2, hb, hg, _⟩
  · simp at e2
  · simp only [Value.slice.injEq, Option.some.injEq, Addr.mk.injEq, and_true, true_and] at e2
    obtain ⟨rfl, _⟩ := e2
    rcases hc with hc | hc
    · omega
    · exact hc cur (by rw [← h1, e]; exact hg)

theorem wr_put {W : World} {bw bb B g cap j L : Nat} {x : Int} {xs : List Int} (hbw : bw < B) (hL : xs.length = L)
    (hh : W.heap[bw]? = some (.cells #[.slice (some ⟨g, 0, none⟩) L cap, .slice (some ⟨bb, 0, none⟩) 11 11] 54 (0, 0)))
    (hown : W.ownsRow B 5 1 (.slice (some ⟨g, 0, none⟩) L cap) L (xs.map (Value.int .u8))) (hg : B ≤ g) :
    Wr (W.setCell ⟨g, j, none⟩ (.int .u8 x)) bw bb B (xs.set j x) := by
  refine ⟨hbw, .slice (some ⟨g, 0, none⟩) L cap, ?_, ?_⟩
  · rw [heap_setCell_other _ _ _ _ (by simp; omega)]; exact hh
  · rw [List.length_set, hL, List.map_set]; exact (hown.stored j _).1

theorem Tryd.res59 : Tryd.f59.results = #[] := by kernel_rfl

set_option maxRecDepth 100000 in
set_option maxHeartbeats 1600000 in
theorem setLength_any (f : Nat) (bw bb B : Nat) (xs : List Int) (W : World) (hW : Wr W bw bb B xs) (hx : xs.length ≤ 2000000) (hf : f + 8 ≤ xs.length) (hB : B ≤ W.heap.size) :
    Calls Tryd.prog 59 #[.pointer (some ⟨bw, 0, none⟩), .int .i64 f] W fun e W' => e = .returned (.tuple #[]) ∧ Wr W' bw bb B (put xs f ((xs.length : Int) - f - 8) 4) ∧ Fr B bw W W' := by
  obtain ⟨hbw0, v0, hh0, hown0⟩ := id hW
  obtain ⟨c0, c1, f0⟩ := wr_cells hh0
  obtain ⟨g0, cap0, rfl, hc1, hc2⟩ := own_shape hown0 (by omega)
  obtain ⟨c, hc⟩ : ∃ c : Int, (xs.length : Int) - f - 8 = c := ⟨_, rfl⟩
  have e1 : IntKind.i64.wrap ((xs.length : Int) - f) = (xs.length : Int) - f := IntWalk.i64_in _ (by omega)
  have e2 : IntKind.i64.wrap ((xs.length : Int) - f - 8) = c := by rw [hc]; exact IntWalk.i64_in _ (by omega)
  have hc3 : 0 ≤ c := by omega
  have hc4 : c ≤ 2000000 := by omega
  have HW := Lib.hid hW
  clear hW hown0 hh0 f0 c1
  have hwc : IntKind.u64.wrap c = c := by simp [IntKind.wrap, IntKind.bits, IntKind.signed]; omega
  rw [hc]
  go_enter Tryd.func59, Tryd.ntmps59
  go_wp2_with fail
  go_loopw [14] (fun i wr => ∃ k : Nat, i = .int .i64 k ∧ k ≤ 4 ∧ Wr wr bw bb B (put xs f c k) ∧ Fr B bw W wr) (fun i _ => 4 - (intOf i).toNat)
  case atStart => exact ⟨0, rfl, Nat.zero_le _, by rw [put_zero]; exact HW.out, Fr.refl _ _ _⟩
  case round =>
    obtain ⟨k, rfl, hk, hWr, hfr⟩ := hrel
    by_cases hlt : k < 4
    · have hpl := put_len xs f c k (by omega)
      have hps := put_succ xs f c k (by omega)
      obtain ⟨hbw, v, hh, hown⟩ := hWr
      obtain ⟨c0, c1, f0⟩ := wr_cells hh
      rw [hpl] at hown
      obtain ⟨g, cap, rfl, hcl, hcm⟩ := own_shape hown (by omega)
      have hg : B ≤ g := (hown.lt g (by simp [Value.ownBlock])).1
      have m1 : IntKind.i64.wrap (8 * (k : Int)) = 8 * (k : Int) := IntWalk.i64_in _ (by omega)
      have m2 : (0 : Int) ≤ 8 * (k : Int) := by omega
      have m3 : 8 * (k : Int) < 64 := by omega
      have m4 : IntKind.i64.wrap ((f : Int) + k) = (f : Int) + k := IntWalk.i64_in _ (by omega)
      have m5 : (0 : Int) ≤ (f : Int) + (k : Int) := by omega
      have m6 : (f : Int) + (k : Int) < (xs.length : Int) := by omega
      have m7 : ((f : Int) + (k : Int)).toNat = f + k := by omega
      have fz := hown.frozenAt (f + k)
      have hpw : c / 2 ^ (8 * k) % 256 = c / 256 ^ k % 256 := by rw [show (256 : Int) ^ k = 2 ^ (8 * k) by rw [Int.pow_mul]; rfl]
      have w1 := wr_put (x := c / 256 ^ k % 256) (j := f + k) (bb := bb) hbw hpl hh hown hg
      rw [← hps] at w1
      have w2 := hfr.put (j := f + k) (u := .int .u8 (c / 256 ^ k % 256)) hown (by omega)
      have W1 := Lib.hid w1
      have W2 := Lib.hid w2
      have cg : wr.cell? ⟨g, f + k, none⟩ = some (.int .u8 ((put xs f c k).getD (f + k) 0)) := by
        rw [hown.cellAt _ (by omega)]
        simp [List.getElem?_eq_getElem (show f + k < (put xs f c k).length by omega), List.getD]
      clear w1 w2 hown hh hfr hps
      go_wp2_with fail
      go_still_tail 13, (by kernel_rfl)
      change wpList _ _ _ _ _ wr.drew
      go_wp2_with fail
      refine ⟨⟨k + 1, rfl, by omega, ?_, ?_⟩, by simp [intOf]; omega⟩
      · exact W1.out
      · exact (W2.out.trans ⟨rfl, rfl, rfl, Nat.le_refl _, fun _ _ _ _ => rfl⟩ : Fr B bw W (wr.setCell ⟨g, f + k, none⟩ (.int .u8 (c / 256 ^ k % 256))).drew)
    · obtain rfl : k = 4 := by omega
      have HW1 := Lib.hid hWr
      have Hfr := Lib.hid hfr
      clear hWr hfr
      go_wp2_with fail
      exact void_end Tryd.res59 rfl ⟨rfl, HW1.out, Hfr.out⟩
end Go.Proofs.YtfbeeaibejggdaaDoor
