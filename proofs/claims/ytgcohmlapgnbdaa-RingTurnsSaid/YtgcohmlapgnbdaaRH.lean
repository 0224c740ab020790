/- done, whole; See, Look, Claim, Take. -/
import Derived.Test.YtgcohmlapgnbdaaRG
namespace Go.Proofs.Ytgcohmlapgnbdaa
open Go.RowKit Go.Shelf Go.Deep

set_option maxRecDepth 100000 in
theorem done99_ring {P R : Nat} {g : Rg} {k : Int} (f : FuncId) (caps : Array Value) (N : Nat) (w : World) (hP : P < w.heap.size) (hR : R < w.heap.size) (hN : w.cell? ⟨N, 0, none⟩ = some (.func (.func f) #[] caps))
    (hcf : ∀ w : World, (callFunc f caps).run Try.prog w = .ok (.enter f caps) w)
    (hc : Calls Try.prog f caps (w.alloc (.cells #[] 128)) (Clos P R g (.tuple #[]) k (w.alloc (.cells #[] 128)))) :
    Calls Try.prog 99 #[at0 N] w (Clos P R g (.agg #[]) k w) := by
  have hN2 := (Same.alloc w (.cells #[] 128)).cell hN
  by_cases hk : k = 0
  · subst hk
    go_enter Try.func99, Try.ntmps99
    go_wp2_with fail
    refine hc.mono ?_
    rintro e w1 ⟨rfl, hu, hb⟩
    have hblk0 : w1.heap[w.heap.size]? = (w.alloc (.cells #[] 128)).heap[w.heap.size]? := hb.block _ (by simp) (by omega) (by omega)
    have hgb : Gw P R w w1 := (gw_below ((Below.refl _ w).alloc (Nat.le_refl _) _)).trans hb
    have HU := Lib.hid (And.intro hu hgb)
    clear hu hb hgb hc
    have q1 : w1.heap[w.heap.size]? = some (.cells #[] 128) := by rw [hblk0]; exact blk_alloc_new _ _
    clear hblk0
    rw [endOf_yes]
    go_wp2_with fail
    refine bodyPost_ret (results_cell_row (P := Try.prog) rfl _ _ w.heap.size 128 _ (0, 0) _ rfl q1 Try.underlying128 rfl Try.size128) rfl ?_
    exact ⟨rfl, HU.out⟩
  · go_enter Try.func99, Try.ntmps99
    go_wp2_with fail
    refine hc.mono ?_
    rintro e w1 ⟨rfl, hu, hb⟩
    have hgb : Gw P R w w1 := (gw_below ((Below.refl _ w).alloc (Nat.le_refl _) _)).trans hb
    have HU := Lib.hid (And.intro hu hgb)
    have HK := Lib.hid hk
    clear hu hb hgb hc
    rw [endOf_no _ hk]
    clear hk
    go_wp2_with fail
    exact ⟨rfl, (endOf_no _ HK.out).symm, HU.out⟩
theorem gw_near2 {P R : Nat} {w w1 w' : World} (h : Gw P R w w1) (hn : Near (w.heap.size + 1) w1 w') : Gw P R w w' :=
  ⟨hn.1.1.trans h.os, hn.1.2.1.trans h.tape, hn.1.2.2.trans h.output, Nat.le_trans h.size hn.2.1, fun k hk h1 h2 => (hn.2.2 k (by omega) (Nat.lt_of_lt_of_le hk h.size)).trans (h.block k hk h1 h2)⟩
set_option maxRecDepth 100000 in
theorem done_ring {P R : Nat} {g : Rg} {k : Int} (f : FuncId) (caps : Array Value) (w : World) (hP : P < w.heap.size) (hR : R < w.heap.size)
    (hcf : ∀ w : World, (callFunc f caps).run Try.prog w = .ok (.enter f caps) w)
    (hc : ∀ x, Below w.heap.size w x → Calls Try.prog f caps x (Clos P R g (.tuple #[]) k x)) :
    Calls Try.prog 57 #[.func (.func f) #[] caps] w fun e w' => e = .returned (.int .i64 k) ∧ RingAt P R g w' ∧ Gw P R w w' := by
  have hmf := makes
  obtain ⟨X, hX⟩ : ∃ X, w.alloc (.cells #[.func (.func f) #[] caps] 1) = X := ⟨_, rfl⟩
  have hb0 : Below w.heap.size w X := by rw [← hX]; exact (Below.refl _ w).alloc (Nat.le_refl _) _
  have hs0 : X.heap.size = w.heap.size + 1 := by rw [← hX]; simp
  have hcell : X.cell? ⟨w.heap.size, 0, none⟩ = some (.func (.func f) #[] caps) := by rw [← hX]; simp [go_sem]
  have he := enters_of Try.func99 (by kernel_rfl) rfl
  have hb1 : Below w.heap.size w ((X.alloc (.cells #[] 128)).alloc (.cells #[.int .i64 0] 26)) := (hb0.alloc (by omega) _).alloc (by simp; omega) _
  have h98 := fitted98_any 99 #[at0 w.heap.size] X (fun j x => j = k ∧ RingAt P R g x ∧ Gw P R X x) (he _)
    ((done99_ring (P := P) (R := R) (g := g) (k := k) f caps w.heap.size _ (by simp; omega) (by simp; omega) ((Same.alloc _ _).cell ((Same.alloc _ _).cell hcell)) hcf (hc _ (hb1.alloc (by simp; omega) _))).mono (by
      rintro e w1 ⟨rfl, h1, h2⟩
      have e0 : w1.heap[X.heap.size]? = some (.cells #[] 128) := by
        rw [h2.block X.heap.size (by simp; omega) (by omega) (by omega), Below.heap_alloc _ _ _ (by simp)]
        exact blk_alloc_new _ _
      have e1 : w1.heap[X.heap.size + 1]? = some (.cells #[.int .i64 0] 26) := by
        rw [h2.block (X.heap.size + 1) (by simp) (by omega) (by omega)]
        have := blk_alloc_new (X.alloc (.cells #[] 128)) (.cells #[.int .i64 0] 26)
        simpa using this
      refine ⟨⟨⟨e0, e1⟩, by have := h2.size; simp at this; omega⟩, out_of (fun h0 => ⟨rfl, h0.symm, h1, ?_⟩) fun h0 => ⟨rfl, rfl, h1, ?_⟩⟩
      all_goals exact (gw_below (((Below.refl _ X).alloc (Nat.le_refl _) _).alloc (by simp) _)).trans h2))
  have HB0 := Lib.hid (gw_below (P := P) (R := R) hb0)
  have HSZ := Lib.hid (And.intro hs0 (And.intro hP hR))
  clear hc hcell hb1 hb0 hs0
  subst hX
  go_enter Try.func57, Try.ntmps57
  go_wp2_with (go_at_call 98; (with_reducible refine h98.mono ?_); rintro e w2 ⟨j, w1, rfl, ⟨rfl, h1, h2⟩, hn⟩; have HR := Lib.hid (ring_near h1 (by have := HSZ.out; omega) (by have := HSZ.out; omega) hn); have HG := Lib.hid (HB0.out.trans (gw_near2 h2 hn)); clear h1 h2 hn)
  go_ret
  exact ⟨rfl, HR.out.below ((Below.refl _ _).alloc (Nat.le_refl _) _), HG.out.alloc _⟩
end Go.Proofs.Ytgcohmlapgnbdaa
