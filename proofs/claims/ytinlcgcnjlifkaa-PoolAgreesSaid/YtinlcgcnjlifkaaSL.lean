/- Does a deal fit a wish: the document's side. -/
import Derived.Test.YtinlcgcnjlifkaaFD
namespace Go.Proofs.Ytinlcgcnjlifkaa
open Go.RowKit Go.Shelf Go.Deep

def fitsB (c b z s a : Int) (k : Nat) (d : Wish) : Bool := inB c d.least d.most && (decide (b = d.blocks) && (decide (s = d.stride) && (decide (d.size ≤ z) && (decide (d.align ≤ a) && bitB d.kinds k))))
def BothA (v : Bool) (f : Bool) (w : World) (e : Ending) (w' : World) : Prop := e = .returned (.tuple #[.bool (v && f), .int .i64 (if v then 0 else 1)]) ∧ Below w.heap.size w w'
theorem cells13 (c b z s a : Int) (k : Nat) (a1 a2 a3 a4 a5 a6 a7 : Int) (w w3 : World) (h : Below ((w.alloc (.cells #[.int .i64 c, .int .i64 b, .int .i64 z, .int .i64 s, .int .i64 a, .int .i64 (k : Nat)] 25)).alloc (.cells #[.int .i64 a1, .int .i64 a2, .int .i64 a3, .int .i64 a4, .int .i64 a5, .int .i64 a6, .int .i64 a7] 23)).heap.size ((w.alloc (.cells #[.int .i64 c, .int .i64 b, .int .i64 z, .int .i64 s, .int .i64 a, .int .i64 (k : Nat)] 25)).alloc (.cells #[.int .i64 a1, .int .i64 a2, .int .i64 a3, .int .i64 a4, .int .i64 a5, .int .i64 a6, .int .i64 a7] 23)) w3) :
    (w3.cell? ⟨w.heap.size, 0, none⟩ = some (.int .i64 c) ∧ w3.cell? ⟨w.heap.size, 1, none⟩ = some (.int .i64 b) ∧ w3.cell? ⟨w.heap.size, 2, none⟩ = some (.int .i64 z) ∧ w3.cell? ⟨w.heap.size, 3, none⟩ = some (.int .i64 s) ∧ w3.cell? ⟨w.heap.size, 4, none⟩ = some (.int .i64 a) ∧ w3.cell? ⟨w.heap.size, 5, none⟩ = some (.int .i64 (k : Nat))) ∧
    (w3.cell? ⟨w.heap.size + 1, 0, none⟩ = some (.int .i64 a1) ∧ w3.cell? ⟨w.heap.size + 1, 1, none⟩ = some (.int .i64 a2) ∧ w3.cell? ⟨w.heap.size + 1, 2, none⟩ = some (.int .i64 a3) ∧ w3.cell? ⟨w.heap.size + 1, 3, none⟩ = some (.int .i64 a4) ∧ w3.cell? ⟨w.heap.size + 1, 4, none⟩ = some (.int .i64 a5) ∧ w3.cell? ⟨w.heap.size + 1, 5, none⟩ = some (.int .i64 a6) ∧ w3.cell? ⟨w.heap.size + 1, 6, none⟩ = some (.int .i64 a7)) := by
  have h1 : w3.heap[w.heap.size]? = some (.cells #[.int .i64 c, .int .i64 b, .int .i64 z, .int .i64 s, .int .i64 a, .int .i64 (k : Nat)] 25) := by
    rw [h.block _ (by simp; omega), Below.heap_alloc _ _ _ (by simp)]
    exact blk_alloc_new _ _
  have h2 : w3.heap[w.heap.size + 1]? = some (.cells #[.int .i64 a1, .int .i64 a2, .int .i64 a3, .int .i64 a4, .int .i64 a5, .int .i64 a6, .int .i64 a7] 23) := by
    rw [h.block _ (by simp)]
    have := blk_alloc_new (w.alloc (.cells #[.int .i64 c, .int .i64 b, .int .i64 z, .int .i64 s, .int .i64 a, .int .i64 (k : Nat)] 25)) (.cells #[.int .i64 a1, .int .i64 a2, .int .i64 a3, .int .i64 a4, .int .i64 a5, .int .i64 a6, .int .i64 a7] 23)
    simpa using this
  refine ⟨⟨?_, ?_, ?_, ?_, ?_, ?_⟩, ⟨?_, ?_, ?_, ?_, ?_, ?_, ?_⟩⟩
  all_goals (unfold World.cell?; first | (rw [h1]; rfl) | (rw [h2]; rfl))
set_option maxHeartbeats 4000000 in
set_option maxRecDepth 100000 in
theorem refFits_any (c b z s a : Int) (k : Nat) (d : Wish) (hk : k ≤ 7) (w : World) : Calls Try.prog 7 #[.agg #[.int .i64 c, .int .i64 b, .int .i64 z, .int .i64 s, .int .i64 a, .int .i64 (k : Nat)], d.v] w (BothA (dealB c b z s a (k : Nat) && d.ok) (fitsB c b z s a k d) w) := by
  have HV := Lib.hid (refValid23_any c b z s a (k : Nat))
  have HW := Lib.hid (refValid_any d)
  have H := Lib.hid in_any
  have HB7 : d.ok = true → Hid (∀ x, Calls Try.prog 21 #[.int .i64 d.kinds, .int .i64 (k : Nat)] x fun e w' => e = .returned (.bool (bitB d.kinds k)) ∧ x = w') := fun h => Lib.hid fun x => by
    simp only [Wish.ok, Bool.and_eq_true] at h
    have := inB_t h.2.2.2.2
    exact refBit_any d.kinds k (by omega) (by omega) (by omega) x
  clear hk
  obtain ⟨vd, hvd⟩ : ∃ vd, dealB c b z s a (k : Nat) = vd := ⟨_, rfl⟩
  obtain ⟨vw, hvw⟩ : ∃ vw, d.ok = vw := ⟨_, rfl⟩
  rw [hvd] at HV ⊢
  rw [hvw] at HW HB7 ⊢
  clear hvd hvw
  obtain ⟨a1, a2, a3, a4, a5, a6, a7⟩ := d
  show Calls Try.prog 7 #[.agg #[.int .i64 c, .int .i64 b, .int .i64 z, .int .i64 s, .int .i64 a, .int .i64 (k : Nat)], .agg #[.int .i64 a1, .int .i64 a2, .int .i64 a3, .int .i64 a4, .int .i64 a5, .int .i64 a6, .int .i64 a7]] w _
  replace HW : Hid (∀ x, Calls Try.prog 11 #[.agg #[.int .i64 a1, .int .i64 a2, .int .i64 a3, .int .i64 a4, .int .i64 a5, .int .i64 a6, .int .i64 a7]] x (BoolB vw x)) := HW
  unfold fitsB
  dsimp only at HB7 ⊢
  cases vd with
  | false =>
    clear HB7
    go_enter Try.func7, Try.ntmps7
    go_wp2_with (go_at_call 23; (with_reducible refine (HV.out _).mono ?_); rintro e w1 ⟨rfl, hb⟩; have HB := Lib.hid hb; clear hb)
    go_ret2
    exact ⟨rfl, Below.then ((below_box w _).alloc (below_box w _).size _) (Nat.le_refl _) (HB.out.mono (by simp))⟩
  | true =>
    cases vw with
    | false =>
      clear HB7
      go_enter Try.func7, Try.ntmps7
      go_wp2_with (first
        | (go_at_call 23; (with_reducible refine (HV.out _).mono ?_); rintro e w1 ⟨rfl, hb⟩; have HB := Lib.hid hb; have m5 := (cells13 _ _ _ _ _ _ _ _ _ _ _ _ _ _ _ hb); obtain ⟨⟨d0, d1, d2, d3, d4, d5⟩, ⟨f0, f1, f2, f3, f4, f5, f6⟩⟩ := m5; clear hb)
        | (go_at_call 11; (with_reducible refine (HW.out _).mono ?_); rintro e w2 ⟨rfl, hb⟩; have HB2 := Lib.hid hb; clear hb))
      go_ret2
      exact ⟨rfl, Below.then ((below_box w _).alloc (below_box w _).size _) (Nat.le_refl _) ((HB.out.trans (HB2.out.mono HB.out.size)).mono (by simp))⟩
    | true =>
      replace HB7 := HB7 rfl
      cases h1 : inB c a1 a2 with
      | false =>
        go_enter Try.func7, Try.ntmps7
        go_wp2_with (first
          | (go_at_call 23; (with_reducible refine (HV.out _).mono ?_); rintro e w1 ⟨rfl, hb⟩; have HB := Lib.hid hb; have m5 := (cells13 _ _ _ _ _ _ _ _ _ _ _ _ _ _ _ hb); obtain ⟨⟨d0, d1, d2, d3, d4, d5⟩, ⟨f0, f1, f2, f3, f4, f5, f6⟩⟩ := m5; clear hb)
          | (go_at_call 11; (with_reducible refine (HW.out _).mono ?_); rintro e w2 ⟨rfl, hb⟩; have HB2 := Lib.hid hb; clear d0 d1 d2 d3 d4 d5 f0 f1 f2 f3 f4 f5 f6; have m5 := (cells13 _ _ _ _ _ _ _ _ _ _ _ _ _ _ _ (HB.out.trans (hb.mono HB.out.size))); obtain ⟨⟨d0, d1, d2, d3, d4, d5⟩, ⟨f0, f1, f2, f3, f4, f5, f6⟩⟩ := m5; clear hb)
          | (go_at_call 20; (with_reducible refine (H.out _ _ _ _).mono ?_); rintro e w3 ⟨rfl, rfl⟩)
          | (go_at_call 21; (with_reducible refine (HB7.out _).mono ?_); rintro e w3 ⟨rfl, rfl⟩))
        go_ret2
        exact ⟨by (simp [h1]; try (intros; omega)), Below.then ((below_box w _).alloc (below_box w _).size _) (Nat.le_refl _) ((HB.out.trans (HB2.out.mono HB.out.size)).mono (by simp))⟩
      | true =>
        by_cases h2 : b = a3
        rotate_left
        · have h2f : (b == a3) = false := by simpa using h2
          go_enter Try.func7, Try.ntmps7
          go_wp2_with (first
            | (go_at_call 23; (with_reducible refine (HV.out _).mono ?_); rintro e w1 ⟨rfl, hb⟩; have HB := Lib.hid hb; have m5 := (cells13 _ _ _ _ _ _ _ _ _ _ _ _ _ _ _ hb); obtain ⟨⟨d0, d1, d2, d3, d4, d5⟩, ⟨f0, f1, f2, f3, f4, f5, f6⟩⟩ := m5; clear hb)
            | (go_at_call 11; (with_reducible refine (HW.out _).mono ?_); rintro e w2 ⟨rfl, hb⟩; have HB2 := Lib.hid hb; clear d0 d1 d2 d3 d4 d5 f0 f1 f2 f3 f4 f5 f6; have m5 := (cells13 _ _ _ _ _ _ _ _ _ _ _ _ _ _ _ (HB.out.trans (hb.mono HB.out.size))); obtain ⟨⟨d0, d1, d2, d3, d4, d5⟩, ⟨f0, f1, f2, f3, f4, f5, f6⟩⟩ := m5; clear hb)
            | (go_at_call 20; (with_reducible refine (H.out _ _ _ _).mono ?_); rintro e w3 ⟨rfl, rfl⟩)
            | (go_at_call 21; (with_reducible refine (HB7.out _).mono ?_); rintro e w3 ⟨rfl, rfl⟩))
          go_ret2
          exact ⟨by (simp [h1, h2]; try (intros; omega)), Below.then ((below_box w _).alloc (below_box w _).size _) (Nat.le_refl _) ((HB.out.trans (HB2.out.mono HB.out.size)).mono (by simp))⟩
        have h2t : (b == a3) = true := by simpa using h2
        have Gh2 := Lib.hid h2
        clear h2
        by_cases h3 : s = a5
        rotate_left
        · have h3f : (s == a5) = false := by simpa using h3
          go_enter Try.func7, Try.ntmps7
          go_wp2_with (first
            | (go_at_call 23; (with_reducible refine (HV.out _).mono ?_); rintro e w1 ⟨rfl, hb⟩; have HB := Lib.hid hb; have m5 := (cells13 _ _ _ _ _ _ _ _ _ _ _ _ _ _ _ hb); obtain ⟨⟨d0, d1, d2, d3, d4, d5⟩, ⟨f0, f1, f2, f3, f4, f5, f6⟩⟩ := m5; clear hb)
            | (go_at_call 11; (with_reducible refine (HW.out _).mono ?_); rintro e w2 ⟨rfl, hb⟩; have HB2 := Lib.hid hb; clear d0 d1 d2 d3 d4 d5 f0 f1 f2 f3 f4 f5 f6; have m5 := (cells13 _ _ _ _ _ _ _ _ _ _ _ _ _ _ _ (HB.out.trans (hb.mono HB.out.size))); obtain ⟨⟨d0, d1, d2, d3, d4, d5⟩, ⟨f0, f1, f2, f3, f4, f5, f6⟩⟩ := m5; clear hb)
            | (go_at_call 20; (with_reducible refine (H.out _ _ _ _).mono ?_); rintro e w3 ⟨rfl, rfl⟩)
            | (go_at_call 21; (with_reducible refine (HB7.out _).mono ?_); rintro e w3 ⟨rfl, rfl⟩))
          go_ret2
          exact ⟨by (simp [h1, Gh2.out, h3]; try (intros; omega)), Below.then ((below_box w _).alloc (below_box w _).size _) (Nat.le_refl _) ((HB.out.trans (HB2.out.mono HB.out.size)).mono (by simp))⟩
        have h3t : (s == a5) = true := by simpa using h3
        have Gh3 := Lib.hid h3
        clear h3
        by_cases h4 : a4 ≤ z
        rotate_left
        · skip
          go_enter Try.func7, Try.ntmps7
          go_wp2_with (first
            | (go_at_call 23; (with_reducible refine (HV.out _).mono ?_); rintro e w1 ⟨rfl, hb⟩; have HB := Lib.hid hb; have m5 := (cells13 _ _ _ _ _ _ _ _ _ _ _ _ _ _ _ hb); obtain ⟨⟨d0, d1, d2, d3, d4, d5⟩, ⟨f0, f1, f2, f3, f4, f5, f6⟩⟩ := m5; clear hb)
            | (go_at_call 11; (with_reducible refine (HW.out _).mono ?_); rintro e w2 ⟨rfl, hb⟩; have HB2 := Lib.hid hb; clear d0 d1 d2 d3 d4 d5 f0 f1 f2 f3 f4 f5 f6; have m5 := (cells13 _ _ _ _ _ _ _ _ _ _ _ _ _ _ _ (HB.out.trans (hb.mono HB.out.size))); obtain ⟨⟨d0, d1, d2, d3, d4, d5⟩, ⟨f0, f1, f2, f3, f4, f5, f6⟩⟩ := m5; clear hb)
            | (go_at_call 20; (with_reducible refine (H.out _ _ _ _).mono ?_); rintro e w3 ⟨rfl, rfl⟩)
            | (go_at_call 21; (with_reducible refine (HB7.out _).mono ?_); rintro e w3 ⟨rfl, rfl⟩))
          go_ret2
          exact ⟨by (simp [h1, Gh2.out, Gh3.out, h4]; try (intros; omega)), Below.then ((below_box w _).alloc (below_box w _).size _) (Nat.le_refl _) ((HB.out.trans (HB2.out.mono HB.out.size)).mono (by simp))⟩
        by_cases h5 : a6 ≤ a
        rotate_left
        · skip
          go_enter Try.func7, Try.ntmps7
          go_wp2_with (first
            | (go_at_call 23; (with_reducible refine (HV.out _).mono ?_); rintro e w1 ⟨rfl, hb⟩; have HB := Lib.hid hb; have m5 := (cells13 _ _ _ _ _ _ _ _ _ _ _ _ _ _ _ hb); obtain ⟨⟨d0, d1, d2, d3, d4, d5⟩, ⟨f0, f1, f2, f3, f4, f5, f6⟩⟩ := m5; clear hb)
            | (go_at_call 11; (with_reducible refine (HW.out _).mono ?_); rintro e w2 ⟨rfl, hb⟩; have HB2 := Lib.hid hb; clear d0 d1 d2 d3 d4 d5 f0 f1 f2 f3 f4 f5 f6; have m5 := (cells13 _ _ _ _ _ _ _ _ _ _ _ _ _ _ _ (HB.out.trans (hb.mono HB.out.size))); obtain ⟨⟨d0, d1, d2, d3, d4, d5⟩, ⟨f0, f1, f2, f3, f4, f5, f6⟩⟩ := m5; clear hb)
            | (go_at_call 20; (with_reducible refine (H.out _ _ _ _).mono ?_); rintro e w3 ⟨rfl, rfl⟩)
            | (go_at_call 21; (with_reducible refine (HB7.out _).mono ?_); rintro e w3 ⟨rfl, rfl⟩))
          go_ret2
          exact ⟨by (simp [h1, Gh2.out, Gh3.out, h4, h5]; try (intros; omega)), Below.then ((below_box w _).alloc (below_box w _).size _) (Nat.le_refl _) ((HB.out.trans (HB2.out.mono HB.out.size)).mono (by simp))⟩
        go_enter Try.func7, Try.ntmps7
        go_wp2_with (first
          | (go_at_call 23; (with_reducible refine (HV.out _).mono ?_); rintro e w1 ⟨rfl, hb⟩; have HB := Lib.hid hb; have m5 := (cells13 _ _ _ _ _ _ _ _ _ _ _ _ _ _ _ hb); obtain ⟨⟨d0, d1, d2, d3, d4, d5⟩, ⟨f0, f1, f2, f3, f4, f5, f6⟩⟩ := m5; clear hb)
          | (go_at_call 11; (with_reducible refine (HW.out _).mono ?_); rintro e w2 ⟨rfl, hb⟩; have HB2 := Lib.hid hb; clear d0 d1 d2 d3 d4 d5 f0 f1 f2 f3 f4 f5 f6; have m5 := (cells13 _ _ _ _ _ _ _ _ _ _ _ _ _ _ _ (HB.out.trans (hb.mono HB.out.size))); obtain ⟨⟨d0, d1, d2, d3, d4, d5⟩, ⟨f0, f1, f2, f3, f4, f5, f6⟩⟩ := m5; clear hb)
          | (go_at_call 20; (with_reducible refine (H.out _ _ _ _).mono ?_); rintro e w3 ⟨rfl, rfl⟩)
          | (go_at_call 21; (with_reducible refine (HB7.out _).mono ?_); rintro e w3 ⟨rfl, rfl⟩))
        go_ret2
        exact ⟨by (simp [h1, Gh2.out, Gh3.out, h4, h5]; try (intros; omega)), Below.then ((below_box w _).alloc (below_box w _).size _) (Nat.le_refl _) ((HB.out.trans (HB2.out.mono HB.out.size)).mono (by simp))⟩
end Go.Proofs.Ytinlcgcnjlifkaa
