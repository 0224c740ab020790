/- The example at the end of each statement. -/
import Derived.Test.YtinlcgcnjlifkaaQA
import Derived.Test.YtinlcgcnjlifkaaAB
namespace Go.Proofs.Ytinlcgcnjlifkaa
open Go.RowKit Go.Shelf Go.Deep

theorem row_one (n : Int) (hn : I64 n) (x : World) : RowIn (x.alloc (.cells #[.int .i64 n] 3)) [n] (.slice (some ⟨x.heap.size, 0, none⟩) 1 1) :=
  ⟨_, 1, rfl, fun i hi => ⟨x.heap.size, 0, rfl, by
    obtain rfl : i = 0 := by simpa using hi
    exact cell1 (blk_alloc_new _ _), by
    obtain rfl : i = 0 := by simpa using hi
    exact hn⟩, by simp, by simp⟩
set_option maxHeartbeats 1000000 in
set_option maxRecDepth 100000 in
theorem awake_any (w : World) : Calls Try.prog 13 #[] w fun e w' => e = .returned (.bool true) ∧ Below w.heap.size w w' := by
  have h0 := lay_any 2 1 12 4 8 0 0
  have hd : dealB 2 1 12 4 8 0 = true := by decide
  have ha : inB 0 0 1000000000 = true := by decide
  have he : endK 0 12 8 ((2 : Int).toNat * (1 : Int).toNat) = 28 := by decide
  have hl : laidTo 0 12 8 (1 : Int).toNat (2 : Int).toNat = [[0], [16]] := by decide
  have H : Hid (∀ x, Calls Try.prog 8 #[.agg #[.int .i64 2, .int .i64 1, .int .i64 12, .int .i64 4, .int .i64 8, .int .i64 0], .int .i64 0] x fun e w' => Below x.heap.size x w' ∧ ∃ v, e = .returned (.tuple #[v, .int .i64 28, .int .i64 0]) ∧ MatIn w' [[0], [16]] v) := Lib.hid fun x => by
    have := h0 x
    unfold LayAns at this
    rw [hd, ha, he, hl] at this
    exact this
  clear h0 hd ha he hl
  have HS := Lib.hid sameRow_any
  go_enter Try.func13, Try.ntmps13
  go_upto_region 2 with (go_at_call 8; (with_reducible refine (H.out _).mono ?_); rintro e w1 ⟨hb, v, rfl, hm⟩; have HB := Lib.hid hb; have HM := Lib.hid hm; clear hb hm)
  obtain ⟨pa, cap, rfl, hr, _, _⟩ := HM.out
  obtain ⟨mb, mo, v1, rfl, hc1, hrow⟩ := hr 1 (by decide)
  have HR := Lib.hid hrow
  clear hr hrow
  have ho : ∀ x : World, RowIn (x.alloc (.cells #[.int .i64 16] 3)) [16] (.slice (some ⟨x.heap.size, 0, none⟩) 1 1) := row_one 16 (by unfold I64; omega)
  go_wp2_with (go_at_call 36; (with_reducible refine (HS.out [16] [16] _ _ _ (RowIn.mono (Same.alloc _ _) HR.out) (ho _)).mono ?_); rintro e w2 ⟨rfl, hb2⟩; have HB2 := Lib.hid hb2; clear hb2)
  go_ret
  exact ⟨by simp, HB.out.trans (Below.then ((below_box w1 _).mono HB.out.size) HB.out.size HB2.out)⟩
end Go.Proofs.Ytinlcgcnjlifkaa
