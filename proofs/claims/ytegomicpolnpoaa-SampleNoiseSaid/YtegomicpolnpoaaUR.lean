/- The grid that bytes fill; an iterator over spots, no round leaving early. -/
import Derived.Test.YtegomicpolnpoaaUQ
namespace Go.Proofs.Ytegomicpolnpoaa
open Go.RowKit Go.Deep Go.Shelf

set_option maxRecDepth 100000 in
theorem gridIn_yes (r c k : Nat) (hr1 : 1 ≤ r) (hr8 : r ≤ 8) (hc : c ≤ 4096) (hk1 : 1 ≤ k) (hk4 : k ≤ 4) (s : ByteArray) (hs : s.size = r * c * k) (w : World) :
    Calls Try.prog 79 #[.string s, .int .i64 r, .int .i64 k] w fun e w' => e = .returned (.agg #[.int .i64 r, .int .i64 c]) ∧ Below w.heap.size w w' := by
  have hfr := fr_any c (w.alloc (.cells #[.int .i64 0, .int .i64 0] 87))
  rw [show frB c = true by simp [frB]; omega] at hfr
  have hmu := must_yes 11 (w.alloc (.cells #[.int .i64 0, .int .i64 0] 87))
  have p1 : 1 ≤ r * k ∧ r * k ≤ 32 := ⟨Nat.mul_pos hr1 hk1, Nat.mul_le_mul hr8 hk4⟩
  have p2 : c * r ≤ 32768 := by rw [Nat.mul_comm]; exact mul_le8 hr8 (Nat.le_refl _) hc
  have p3 : c * r * k ≤ 131072 := by
    calc c * r * k ≤ 32768 * k := Nat.mul_le_mul_right _ p2
      _ ≤ 32768 * 4 := Nat.mul_le_mul_left _ hk4
  have hs2 : s.size = c * (r * k) := by rw [hs, Nat.mul_comm r c, Nat.mul_assoc]
  have hs3 : s.size = c * r * k := by rw [hs, Nat.mul_comm r c]
  have q1 : IntKind.i64.wrap ((r : Int) * (k : Int)) = ((r * k : Nat) : Int) := by rw [← Int.natCast_mul]; exact IntWalk.i64_in _ (by omega)
  have q2 : wrap64 (((c * r * k : Nat) : Int) / ((r * k : Nat) : Int)) = (c : Int) := by
    rw [show c * r * k = c * (r * k) from Nat.mul_assoc _ _ _, Int.natCast_mul c, Int.mul_ediv_cancel _ (by omega)]
    exact w64n (by omega)
  have q3 : wrap64 ((c : Int) * (r : Int)) = ((c * r : Nat) : Int) := by rw [← Int.natCast_mul]; exact w64n (by omega)
  have q4 : wrap64 (((c * r : Nat) : Int) * (k : Int)) = ((c * r * k : Nat) : Int) := by rw [← Int.natCast_mul]; exact w64n (by omega)
  generalize r * k = D at *
  generalize c * r = E at *
  generalize E * k = G at *
  clear hs hs2
  go_enter Try.func79, Try.ntmps79
  go_wp2_with (first
    | (go_at_call 63; (with_reducible refine hfr.mono ?_); rintro e w1 ⟨rfl, rfl⟩)
    | (go_at_call 53; (with_reducible refine hmu.mono ?_); rintro e w1 ⟨rfl, rfl⟩))
  have q9 : (w.alloc (.cells #[.int .i64 r, .int .i64 c] 87)).heap[w.heap.size]? = some (.cells #[.int .i64 r, .int .i64 c] 87) := blk_alloc_new _ _
  refine bodyPost_ret (results_cell_row (P := Try.prog) rfl _ _ w.heap.size 87 _ (0, 0) _ rfl q9 Try.underlying87 rfl Try.siz87) rfl ?_
  exact ⟨rfl, (Below.refl _ w).alloc (Nat.le_refl _) _⟩

/-- The iterator over spots, as one that goes over all. -/
theorem spots_seq (n : Nat) (hn : 1 ≤ n) (Bg r T : Nat) (hr8 : r ≤ 8) (hT : T ≤ 4096) (Kp : World → World → Prop) (hKc : ∀ X Y i v, Kp X Y → X.cell? ⟨Bg, i, none⟩ = some v → Y.cell? ⟨Bg, i, none⟩ = some v)
    (W : World) (hBg : Bg < W.heap.size) (k0 : W.cell? ⟨Bg, 0, none⟩ = some (.int .i64 r)) (k1 : W.cell? ⟨Bg, 1, none⟩ = some (.int .i64 T)) :
    SeqAll Fence.wide n Try.prog 116 #[.pointer (some ⟨Bg, 0, none⟩)] (fun x : GoodSpot r T => spotVals x.1) Kp (fun ys => ys.map Subtype.val = spTo r T) 40000 W := by
  intro l J W1 hW1 _ hY h0
  refine (spots1_in Fence.wide n trivial rfl hn l Bg r T hr8 hT Kp hKc (fun pre X => ∃ q : List (GoodSpot r T), q.map Subtype.val = pre ∧ J q X) (fun _ _ => False) ?_ W1
    ((hW1.cell (p := ⟨Bg, 0, none⟩) hBg).trans k0) ((hW1.cell (p := ⟨Bg, 1, none⟩) hBg).trans k1) ⟨[], rfl, h0⟩).mono ?_
  · rintro pre x X ⟨q, rfl, hq⟩ hlen hx1 hx2
    refine (hY q ⟨x, hx1, hx2⟩ X hq (by simpa using hlen)).mono ?_
    rintro e X' ⟨he, hj, hk, _⟩
    exact .inl ⟨he, ⟨_, by simp, hj⟩, hk⟩
  · rintro e X' ⟨hv, ⟨ys, hys, q, hq, hj⟩ | ⟨pre, _, hf⟩⟩
    · exact ⟨hv, q, hq.trans hys, hj⟩
    · exact hf.elim
end Go.Proofs.Ytegomicpolnpoaa
