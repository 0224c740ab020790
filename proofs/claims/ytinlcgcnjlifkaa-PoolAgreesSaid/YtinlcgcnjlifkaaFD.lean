/- A call whose closure answers or does not fit, all below as it was: of a bool, of nothing. -/
import Derived.Test.YtinlcgcnjlifkaaFC
import Derived.Test.YtinlcgcnjlifkaaSK
import Derived.Laws.Rows
namespace Go.Proofs.Ytinlcgcnjlifkaa
open Go.RowKit Go.Shelf Go.Deep

theorem below_near {w w1 w' : World} {o : Obj} (h : Below (w.alloc o).heap.size (w.alloc o) w1) (hn : Near w.heap.size w1 w') : Below w.heap.size w w' :=
  ⟨hn.1.1.trans h.os, hn.1.2.1.trans h.tape, hn.1.2.2.trans h.output, Nat.le_trans (by have := h.size; simp at this; omega) hn.2.1, fun k hk => (hn.2.2 k (by omega) (by have := h.size; simp at this; omega)).trans ((h.block k (by simp; omega)).trans (Below.heap_alloc _ _ k hk))⟩
theorem keeps_below {w w1 : World} {o : Obj} (h : Below (w.alloc o).heap.size (w.alloc o) w1) : Keeps w.heap.size (w.alloc o) w1 :=
  ⟨h.block _ (by simp), by have := h.size; simp at this; omega⟩
/-- A closure's end: its answer, or what does not fit. -/
def endOf (u : Value) (k : Int) : Ending := if k = 0 then .returned u else .panicked (misfit k)
theorem endOf_yes (u : Value) : endOf u 0 = .returned u := rfl
theorem endOf_no (u : Value) {k : Int} (h : ¬ k = 0) : endOf u k = .panicked (misfit k) := by simp [endOf, h]
theorem out_of {u z : Value} {k : Int} {Q : Value → Int → World → Prop} {w : World} (h1 : k = 0 → Q u 0 w) (h2 : ¬ k = 0 → Q z k w) : Out z Q (endOf u k) w := by
  by_cases h : k = 0
  · subst h; exact .inl ⟨u, rfl, h1 rfl⟩
  · exact .inr ⟨k, endOf_no u h, h2 h⟩
def ClosB (u : Value) (k : Int) (w : World) (e : Ending) (w' : World) : Prop := e = endOf u k ∧ Below w.heap.size w w'
theorem fit24_below {u : Value} {k : Int} (f : FuncId) (caps : Array Value) (w : World) (hk : k ≠ 0 → u = .bool false)
    (hcf : ∀ w : World, (callFunc f caps).run Try.prog w = .ok (.enter f caps) w)
    (hc : ∀ x, Below w.heap.size w x → Calls Try.prog f caps x (ClosB u k x)) : Calls Try.prog 24 #[.func (.func f) #[] caps] w fun e w' => e = .returned (.tuple #[u, .int .i64 k]) ∧ Below w.heap.size w w' := by
  refine (fitted24_any f caps w (fun v j w1 => v = u ∧ j = k ∧ Below (w.alloc (.cells #[.int .i64 0] 26)).heap.size (w.alloc (.cells #[.int .i64 0] 26)) w1) hcf ((hc _ ((Below.refl _ w).alloc (Nat.le_refl _) _)).mono ?_)).mono ?_
  · rintro e w1 ⟨rfl, h2⟩
    exact ⟨keeps_below h2, out_of (fun h0 => ⟨rfl, h0.symm, h2⟩) fun h0 => ⟨(hk h0).symm, rfl, h2⟩⟩
  · rintro e w' ⟨v, j, w1, rfl, ⟨rfl, rfl, h2⟩, _, hn⟩
    exact ⟨rfl, below_near h2 hn⟩

set_option maxRecDepth 100000 in
theorem done49_below {k : Int} (f : FuncId) (caps : Array Value) (N : Nat) (w : World) (hN : w.cell? ⟨N, 0, none⟩ = some (.func (.func f) #[] caps))
    (hcf : ∀ w : World, (callFunc f caps).run Try.prog w = .ok (.enter f caps) w)
    (hc : Calls Try.prog f caps (w.alloc (.cells #[] 73)) (ClosB (.tuple #[]) k (w.alloc (.cells #[] 73)))) :
    Calls Try.prog 49 #[at0 N] w (ClosB (.agg #[]) k w) := by
  have hN2 := (Same.alloc w (.cells #[] 73)).cell hN
  by_cases hk : k = 0
  · subst hk
    go_enter Try.func49, Try.ntmps49
    go_wp2_with fail
    refine hc.mono ?_
    rintro e w1 ⟨rfl, hb⟩
    have q1 : w1.heap[w.heap.size]? = some (.cells #[] 73) := by rw [hb.block w.heap.size (by simp)]; exact blk_alloc_new _ _
    have HU := Lib.hid (Below.then (below_box _ _) (Nat.le_refl _) hb)
    clear hb hc
    rw [endOf_yes]
    go_wp2_with fail
    refine bodyPost_ret (results_cell_row (P := Try.prog) rfl _ _ w.heap.size 73 _ (0, 0) _ rfl q1 Try.underlying73 rfl Try.size73) rfl ?_
    exact ⟨rfl, HU.out⟩
  · go_enter Try.func49, Try.ntmps49
    go_wp2_with fail
    refine hc.mono ?_
    rintro e w1 ⟨rfl, hb⟩
    have HU := Lib.hid (Below.then (below_box _ _) (Nat.le_refl _) hb)
    have HK := Lib.hid hk
    clear hb hc
    rw [endOf_no _ hk]
    clear hk
    go_wp2_with fail
    exact ⟨rfl, (endOf_no _ HK.out).symm, HU.out⟩
theorem below_near2 {w w1 w' : World} {B : Nat} (h : Below B w w1) (hB : B ≤ w.heap.size) (hn : Near (w.heap.size + 1) w1 w') : Below B w w' :=
  ⟨hn.1.1.trans h.os, hn.1.2.1.trans h.tape, hn.1.2.2.trans h.output, Nat.le_trans h.size hn.2.1, fun k hk => (hn.2.2 k (by omega) (Nat.lt_of_lt_of_le (Nat.lt_of_lt_of_le hk hB) h.size)).trans (h.block k hk)⟩
set_option maxRecDepth 100000 in
theorem done_below {k : Int} (f : FuncId) (caps : Array Value) (w : World)
    (hcf : ∀ w : World, (callFunc f caps).run Try.prog w = .ok (.enter f caps) w)
    (hc : ∀ x, Below w.heap.size w x → Calls Try.prog f caps x (ClosB (.tuple #[]) k x)) :
    Calls Try.prog 29 #[.func (.func f) #[] caps] w fun e w' => e = .returned (.int .i64 k) ∧ Below w.heap.size w w' := by
  have hmf := makes
  obtain ⟨X, hX⟩ : ∃ X, w.alloc (.cells #[.func (.func f) #[] caps] 1) = X := ⟨_, rfl⟩
  have hb0 : Below w.heap.size w X := by rw [← hX]; exact (Below.refl _ w).alloc (Nat.le_refl _) _
  have hs0 : X.heap.size = w.heap.size + 1 := by rw [← hX]; simp
  have hcell : X.cell? ⟨w.heap.size, 0, none⟩ = some (.func (.func f) #[] caps) := by rw [← hX]; simp [go_sem]
  have he := enters_of Try.func49 (by kernel_rfl) rfl
  have hb1 : Below w.heap.size w ((X.alloc (.cells #[] 73)).alloc (.cells #[.int .i64 0] 26)) := (hb0.alloc (by omega) _).alloc (by simp; omega) _
  have h98 := fitted48_any 49 #[at0 w.heap.size] X (fun j x => j = k ∧ Below X.heap.size X x) (he _)
    ((done49_below (k := k) f caps w.heap.size _ ((Same.alloc _ _).cell ((Same.alloc _ _).cell hcell)) hcf (hc _ (hb1.alloc (by simp; omega) _))).mono (by
      rintro e w1 ⟨rfl, h2⟩
      have e0 : w1.heap[X.heap.size]? = some (.cells #[] 73) := by
        rw [h2.block X.heap.size (by simp; omega), Below.heap_alloc _ _ _ (by simp)]
        exact blk_alloc_new _ _
      have e1 : w1.heap[X.heap.size + 1]? = some (.cells #[.int .i64 0] 26) := by
        rw [h2.block (X.heap.size + 1) (by simp)]
        have := blk_alloc_new (X.alloc (.cells #[] 73)) (.cells #[.int .i64 0] 26)
        simpa using this
      have h3 : Below X.heap.size X w1 := (((Below.refl _ X).alloc (Nat.le_refl _) _).alloc (by simp) _).trans (h2.mono (by simp; omega))
      refine ⟨⟨⟨e0, e1⟩, by have := h2.size; simp at this; omega⟩, out_of (fun h0 => ⟨rfl, h0.symm, h3⟩) fun h0 => ⟨rfl, rfl, h3⟩⟩))
  have HB0 := Lib.hid hb0
  clear hc hcell hb1 hb0 hs0
  subst hX
  go_enter Try.func29, Try.ntmps29
  go_wp2_with (go_at_call 48; (with_reducible refine h98.mono ?_); rintro e w2 ⟨j, w1, rfl, ⟨rfl, h2⟩, hn⟩; have HG := Lib.hid (Below.then HB0.out (Nat.le_refl _) (below_near2 h2 (Nat.le_refl _) hn)); clear h2 hn)
  go_ret
  exact ⟨rfl, HG.out.alloc HG.out.size _⟩
end Go.Proofs.Ytinlcgcnjlifkaa
