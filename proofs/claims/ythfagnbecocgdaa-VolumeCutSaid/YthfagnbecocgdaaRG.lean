/- Blocks that fit; ramps made. -/
import Derived.Test.YthfagnbecocgdaaRF
import Derived.Test.YthfagnbecocgdaaHC
import Derived.Test.YthfagnbecocgdaaEC
namespace Go.Proofs.Ythfagnbecocgdaa
open Go.RowKit Go.Shelf Go.Deep

/-- A list of blocks. -/
def BlksIn (w : World) (l : List (List (List Int))) (v : Value) : Prop := ∃ a cap, v = .slice a l.length cap ∧ (∀ i, i < l.length → ∃ b off u, a = some ⟨b, off, none⟩ ∧ w.cell? ⟨b, off + i, none⟩ = some u ∧ MatIn w (l.getD i []) u) ∧ l.length ≤ 17592186044416 ∧ l.length ≤ cap
theorem BlksIn.mono {w w' : World} (h : Same w w') {l : List (List (List Int))} {v : Value} (hb : BlksIn w l v) : BlksIn w' l v := by
  obtain ⟨a, cap, h1, h2, h3, h4⟩ := hb
  refine ⟨a, cap, h1, fun i hi => ?_, h3, h4⟩
  obtain ⟨b, off, u, ha, hc, hm⟩ := h2 i hi
  exact ⟨b, off, u, ha, h.cell hc, hm.mono h⟩
theorem blk_new (w : World) (b : List (List Int)) (v : Value) (h : MatIn w b v) : BlksIn (w.alloc (.cells #[v] 34)) [b] (.slice (some ⟨w.heap.size, 0, none⟩) 1 1) := by
  refine ⟨some ⟨w.heap.size, 0, none⟩, 1, rfl, fun i hi => ?_, by simp, by simp⟩
  simp at hi; subst hi
  exact ⟨w.heap.size, 0, v, rfl, by simp [go_sem], h.mono (Same.alloc _ _)⟩
theorem blk_new2 (w : World) (b c : List (List Int)) (v u : Value) (h : MatIn w b v) (k : MatIn w c u) : BlksIn (w.alloc (.cells #[v, u] 34)) [b, c] (.slice (some ⟨w.heap.size, 0, none⟩) 2 2) := by
  refine ⟨some ⟨w.heap.size, 0, none⟩, 2, rfl, fun i hi => ?_, by simp, by simp⟩
  simp at hi
  have : i = 0 ∨ i = 1 := by omega
  rcases this with rfl | rfl
  · exact ⟨w.heap.size, 0, v, rfl, by simp [go_sem], h.mono (Same.alloc _ _)⟩
  · exact ⟨w.heap.size, 0, u, rfl, by simp [go_sem], k.mono (Same.alloc _ _)⟩
theorem row_new2 (w : World) (a b : Int) (ha : I64 a) (hb : I64 b) : RowIn (w.alloc (.cells #[.int .i64 a, .int .i64 b] 3)) [a, b] (.slice (some ⟨w.heap.size, 0, none⟩) 2 2) := by
  refine ⟨some ⟨w.heap.size, 0, none⟩, 2, rfl, fun i hi => ?_, by simp, by simp⟩
  simp at hi
  have : i = 0 ∨ i = 1 := by omega
  rcases this with rfl | rfl
  · exact ⟨w.heap.size, 0, rfl, by simp [go_sem], ha⟩
  · exact ⟨w.heap.size, 0, rfl, by simp [go_sem], hb⟩

def allV (l : List (List (List Int))) : Bool := l.all validB
set_option maxHeartbeats 1000000 in
set_option maxRecDepth 100000 in
theorem blocks_any (l : List (List (List Int))) (v : Value) (w : World) (hv : BlksIn w l v) : Calls Try.prog 55 #[v] w fun e w' => ((allV l = true ∧ e = .returned (.tuple #[])) ∨ (allV l = false ∧ e = .panicked (misfit 1))) ∧ w = w' := by
  obtain ⟨a, ca, rfl, hin, hal, _⟩ := hv
  have hy := must_yes 1 w
  have hn := must_no 1 w
  go_enter Try.func55, Try.ntmps55
  go_wp2_with fail
  go_loop [6] (fun i => ∃ j : Nat, i = .int .i64 j ∧ j ≤ l.length ∧ ∀ k, k < j → validB (l.getD k []) = true) (fun i => l.length - (intOf i).toNat)
  case atStart => exact ⟨0, rfl, Nat.zero_le _, fun k hk => absurd hk (Nat.not_lt_zero _)⟩
  case round =>
    obtain ⟨j, rfl, hj, hok⟩ := hrel
    have HOK := Lib.hid hok
    clear hok
    by_cases hlt : j < l.length
    · have w4 : (j : Int) < (l.length : Int) := by omega
      obtain ⟨ba, off, u, rfl, hc, hu⟩ := hin j hlt
      have h107 := validBlock_any _ u w hu
      have hsl : ∃ p n c, u = .slice p n c := by obtain ⟨p, c, h, _⟩ := hu; exact ⟨p, _, c, h⟩
      obtain ⟨p, n, c, rfl⟩ := hsl
      cases hgv : validB (l.getD j []) with
      | true =>
        rw [hgv] at h107
        have HGB := Lib.hid hgv
        clear hgv hu
        go_wp2_with (first | (go_at_call 107; (with_reducible refine h107.mono ?_); rintro e w1 ⟨rfl, rfl⟩) | (go_at_call 50; (with_reducible refine hy.mono ?_); rintro e w1 ⟨rfl, rfl⟩))
        go_round
        case rel =>
          refine ⟨j + 1, by go_num, by omega, fun k hk => ?_⟩
          by_cases e : k = j
          · subst e; exact HGB.out
          · exact HOK.out k (by omega)
        case measure => simp [intOf]; omega
      | false =>
        rw [hgv] at h107
        have HGB := Lib.hid hgv
        clear hgv hu
        go_wp2_with (first | (go_at_call 107; (with_reducible refine h107.mono ?_); rintro e w1 ⟨rfl, rfl⟩) | (go_at_call 50; (with_reducible refine hn.mono ?_); rintro e w1 ⟨rfl, rfl⟩))
        exact ⟨rfl, .inr ⟨all_no_at' hlt HGB.out, rfl⟩, rfl⟩
    · have w4 : ¬ (j : Int) < (l.length : Int) := by omega
      obtain rfl : j = l.length := by omega
      go_wp2_with fail
      go_end0
      exact ⟨.inl ⟨all_yes_of' HOK.out, rfl⟩, rfl⟩
theorem blocks_yes {l : List (List (List Int))} (h : allV l = true) (v : Value) (w : World) (hv : BlksIn w l v) : Calls Try.prog 55 #[v] w fun e w' => e = .returned (.tuple #[]) ∧ w = w' :=
  (blocks_any l v w hv).mono fun e w' ⟨h1, h2⟩ => ⟨h1.elim (fun p => p.2) (fun p => by have := p.1; rw [h] at this; cases this), h2⟩
theorem blocks_no {l : List (List (List Int))} (h : allV l = false) (v : Value) (w : World) (hv : BlksIn w l v) : Calls Try.prog 55 #[v] w fun e w' => e = .panicked (misfit 1) ∧ w = w' :=
  (blocks_any l v w hv).mono fun e w' ⟨h1, h2⟩ => ⟨h1.elim (fun p => by have := p.1; rw [h] at this; cases this) (fun p => p.2), h2⟩

theorem Try.size77 : (Try.prog.info? 77).map (·.size) = some 4 := by kernel_rfl
set_option maxRecDepth 100000 in
theorem steady_any (g : Int) (w : World) : Calls Try.prog 51 #[.int .i64 g] w fun e w' => e = .returned (rampV 0 g 0 0) ∧ Below w.heap.size w w' := by
  unfold rampV
  go_enter Try.func51, Try.ntmps51
  go_wp2_with fail
  have q1 : (w.alloc (.cells #[.int .i64 0, .int .i64 g, .int .i64 0, .int .i64 0] 77)).heap[w.heap.size]? = some (.cells #[.int .i64 0, .int .i64 g, .int .i64 0, .int .i64 0] 77) := blk_alloc_new _ _
  refine bodyPost_ret (results_cell_row (P := Try.prog) rfl _ _ w.heap.size 77 _ (0, 0) _ rfl q1 Try.underlying77 rfl Try.size77) rfl ?_
  exact ⟨rfl, (Below.refl _ w).alloc (Nat.le_refl _) _⟩

def rampB (f t n : Int) : Bool := (gainB f && gainB t) && timeB n
set_option maxRecDepth 100000 in
theorem rampOf_yes {f t n : Int} (h : rampB f t n = true) (w : World) : Calls Try.prog 83 #[.int .i64 f, .int .i64 t, .int .i64 n] w fun e w' => e = .returned (rampV f t n 0) ∧ Below w.heap.size w w' := by
  unfold rampB at h
  rw [Bool.and_eq_true, Bool.and_eq_true] at h
  obtain ⟨⟨hf, ht⟩, hn⟩ := h
  have HG := Lib.hid (fun (x : World) => gains_yes (l := [f, t]) (show allG [f, t] = true by simp [allG, hf, ht]) _ _ (row_new2 x f t (by have := gainB_t hf; unfold I64; omega) (by have := gainB_t ht; unfold I64; omega)))
  have HT := Lib.hid (fun (x : World) => time_yes hn x)
  have hg := HG.out (w.alloc (.cells #[.int .i64 0, .int .i64 0, .int .i64 0, .int .i64 0] 77))
  rw [World.size_alloc] at hg
  unfold rampV
  clear hf ht hn HG
  go_enter Try.func83, Try.ntmps83
  go_wp2_with (first | (go_at_call 61; (with_reducible refine hg.mono ?_); rintro e w1 ⟨rfl, rfl⟩) | (go_at_call 62; (with_reducible refine (HT.out _).mono ?_); rintro e w1 ⟨rfl, rfl⟩))
  have q1 : ((w.alloc (.cells #[.int .i64 f, .int .i64 t, .int .i64 n, .int .i64 0] 77)).alloc (.cells #[.int .i64 f, .int .i64 t] 3)).heap[w.heap.size]? = some (.cells #[.int .i64 f, .int .i64 t, .int .i64 n, .int .i64 0] 77) :=
    (Below.heap_alloc _ _ _ (by simp)).trans (blk_alloc_new _ _)
  refine bodyPost_ret (results_cell_row (P := Try.prog) rfl _ _ w.heap.size 77 _ (0, 0) _ rfl q1 Try.underlying77 rfl Try.size77) rfl ?_
  exact ⟨rfl, ((Below.refl _ w).alloc (Nat.le_refl _) _).alloc (by simp) _⟩
set_option maxRecDepth 100000 in
theorem rampOf_no {f t n : Int} (hIf : I64 f) (hIt : I64 t) (h : rampB f t n = false) (w : World) : Calls Try.prog 83 #[.int .i64 f, .int .i64 t, .int .i64 n] w (LeavesX 7 w) := by
  cases hg : gainB f && gainB t with
  | false =>
    have hg2 := gains_no (l := [f, t]) (show allG [f, t] = false by simpa [allG] using hg) _ _ (row_new2 (w.alloc (.cells #[.int .i64 0, .int .i64 0, .int .i64 0, .int .i64 0] 77)) f t hIf hIt)
    rw [World.size_alloc] at hg2
    clear h hg hIf hIt
    go_enter Try.func83, Try.ntmps83
    go_wp2_with (go_at_call 61; (with_reducible refine hg2.mono ?_); rintro e w1 ⟨rfl, rfl⟩)
    exact ⟨rfl, rfl, ((Below.refl _ w).alloc (Nat.le_refl _) _).alloc (by simp) _⟩
  | true =>
    have hg2 := gains_yes (l := [f, t]) (show allG [f, t] = true by simpa [allG] using hg) _ _ (row_new2 (w.alloc (.cells #[.int .i64 0, .int .i64 0, .int .i64 0, .int .i64 0] 77)) f t hIf hIt)
    rw [World.size_alloc] at hg2
    have HT := Lib.hid (fun (x : World) => time_no (n := n) (by unfold rampB at h; rw [hg] at h; simpa using h) x)
    clear h hg hIf hIt
    go_enter Try.func83, Try.ntmps83
    go_wp2_with (first | (go_at_call 61; (with_reducible refine hg2.mono ?_); rintro e w1 ⟨rfl, rfl⟩) | (go_at_call 62; (with_reducible refine (HT.out _).mono ?_); rintro e w1 ⟨rfl, rfl⟩))
    exact ⟨rfl, rfl, ((Below.refl _ w).alloc (Nat.le_refl _) _).alloc (by simp) _⟩
end Go.Proofs.Ythfagnbecocgdaa
