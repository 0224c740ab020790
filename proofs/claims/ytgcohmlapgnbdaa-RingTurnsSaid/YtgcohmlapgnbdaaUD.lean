/- Play that fails; the turn see. -/
import Derived.Test.YtgcohmlapgnbdaaUC
namespace Go.Proofs.Ytgcohmlapgnbdaa
open Go.RowKit Go.Shelf Go.Deep

set_option maxHeartbeats 2000000 in
set_option maxRecDepth 100000 in
theorem play_no (sz ch fi : Int) (l : List (List Int)) (lv : Value) (ps : List Pass) (pv : Value) (w : World) (hM : MatIn w l lv) (hP : PassIn w ps pv) (hk : playK sz ch fi l ps ≠ 0) :
    Calls Try.prog 26 #[.int .i64 sz, .int .i64 ch, .int .i64 fi, lv, pv] w fun e w' => e = .returned (.tuple #[.slice none 0 0, .int .i64 0, .int .i64 (playK sz ch fi l ps)]) ∧ Below w.heap.size w w' := by
  have hmf := makes
  obtain ⟨O1, hO1⟩ : ∃ O1, Obj.cells #[.int .i64 sz] 3 = O1 := ⟨_, rfl⟩
  obtain ⟨O2, hO2⟩ : ∃ O2, Obj.cells #[.int .i64 ch] 3 = O2 := ⟨_, rfl⟩
  obtain ⟨O3, hO3⟩ : ∃ O3, Obj.cells #[.int .i64 fi] 3 = O3 := ⟨_, rfl⟩
  obtain ⟨O4, hO4⟩ : ∃ O4, Obj.cells #[lv] 29 = O4 := ⟨_, rfl⟩
  obtain ⟨O5, hO5⟩ : ∃ O5, Obj.cells #[pv] 54 = O5 := ⟨_, rfl⟩
  have hlv1 : lv.oneCell' = true := by obtain ⟨a, ca, rfl, _⟩ := hM; rfl
  have hpv1 : pv.oneCell' = true := by obtain ⟨a, ca, rfl, _⟩ := hP; rfl
  have hbel : Below w.heap.size w (((((w.alloc O1).alloc O2).alloc O3).alloc O4).alloc O5) := ((((((Below.refl _ w).alloc (Nat.le_refl _) _).alloc (by simp) _).alloc (by simp <;> omega) _).alloc (by simp <;> omega) _).alloc (by simp <;> omega) _)
  have hsz : (((((w.alloc O1).alloc O2).alloc O3).alloc O4).alloc O5).heap.size = w.heap.size + 1 + 1 + 1 + 1 + 1 := by simp
  have c1 : (((((w.alloc O1).alloc O2).alloc O3).alloc O4).alloc O5).cell? ⟨w.heap.size, 0, none⟩ = some (.int .i64 sz) := by
    refine (Same.alloc _ O5).cell ((Same.alloc _ O4).cell ((Same.alloc _ O3).cell ((Same.alloc _ O2).cell ?_))); rw [← hO1]; simp [go_sem]
  have c2 : (((((w.alloc O1).alloc O2).alloc O3).alloc O4).alloc O5).cell? ⟨w.heap.size + 1, 0, none⟩ = some (.int .i64 ch) := by
    refine (Same.alloc _ O5).cell ((Same.alloc _ O4).cell ((Same.alloc _ O3).cell ?_)); rw [← hO2]; simp [go_sem]
  have c3 : (((((w.alloc O1).alloc O2).alloc O3).alloc O4).alloc O5).cell? ⟨w.heap.size + 1 + 1, 0, none⟩ = some (.int .i64 fi) := by
    refine (Same.alloc _ O5).cell ((Same.alloc _ O4).cell ?_); rw [← hO3]; simp [go_sem]
  have c4 : (((((w.alloc O1).alloc O2).alloc O3).alloc O4).alloc O5).cell? ⟨w.heap.size + 1 + 1 + 1, 0, none⟩ = some lv := by
    refine (Same.alloc _ O5).cell ?_; rw [← hO4]; simp [go_sem]
  have c5 : (((((w.alloc O1).alloc O2).alloc O3).alloc O4).alloc O5).cell? ⟨w.heap.size + 1 + 1 + 1 + 1, 0, none⟩ = some pv := by rw [← hO5]; simp [go_sem]
  obtain ⟨Z, hZ⟩ : ∃ Z, ((((w.alloc O1).alloc O2).alloc O3).alloc O4).alloc O5 = Z := ⟨_, rfl⟩
  rw [hZ] at hbel hsz c1 c2 c3 c4 c5
  have hb0 : Below Z.heap.size Z (Z.alloc (.cells #[.int .i64 0] 26)) := (Below.refl _ Z).alloc (Nat.le_refl _) _
  have hb1 : Below w.heap.size w (Z.alloc (.cells #[.int .i64 0] 26)) := Below.then hbel (Nat.le_refl _) hb0
  have s0 := Same.of_below hb0
  have h78 := play78_no (w.heap.size + 1) (w.heap.size + 1 + 1 + 1) w.heap.size (w.heap.size + 1 + 1) (w.heap.size + 1 + 1 + 1 + 1) sz ch fi l lv ps pv _ (s0.cell c2) (s0.cell c4) (s0.cell c1) (s0.cell c3) (s0.cell c5) (hM.mono (Same.of_below hb1)) (hP.mono (Same.of_below hb1)) hk
  obtain ⟨k, hkk⟩ : ∃ k, playK sz ch fi l ps = k := ⟨_, rfl⟩
  rw [hkk] at hk h78 ⊢
  have hf77 : Calls Try.prog 77 #[.func (.func 78) #[] #[at0 (w.heap.size + 1), at0 (w.heap.size + 1 + 1 + 1), at0 w.heap.size, at0 (w.heap.size + 1 + 1), at0 (w.heap.size + 1 + 1 + 1 + 1)]] Z fun e w' => e = .returned (.tuple #[.pointer none, .int .i64 k]) ∧ Below w.heap.size w w' := by
    refine (fitted77_any 78 _ Z (fun u j x => u = .pointer none ∧ j = k ∧ Below w.heap.size w x) (enters_of Try.func78 (by kernel_rfl) rfl _) ?_).mono ?_
    · refine h78.mono ?_
      rintro e w1 ⟨rfl, hb⟩
      exact ⟨keeps_below hb, .inr ⟨k, rfl, rfl, rfl, Below.then hb1 (Nat.le_refl _) hb⟩⟩
    · rintro e w' ⟨u, j, w1, rfl, ⟨rfl, rfl, hb⟩, _, hn⟩
      exact ⟨rfl, ⟨hn.1.1.trans hb.os, hn.1.2.1.trans hb.tape, hn.1.2.2.trans hb.output, Nat.le_trans hb.size hn.2.1, fun q hq => (hn.2.2 q (by rw [hsz]; omega) (by have := hb.size; omega)).trans (hb.block q hq)⟩⟩
  have hne : (k != 0) = true := by simpa using hk
  obtain ⟨al, cl, rfl, _, _, _⟩ := hM
  obtain ⟨ap, cp, rfl, _, _, _⟩ := hP
  clear h78 hb0 hb1 s0 hbel hsz c1 c2 c3 c4 c5 hkk hk hlv1 hpv1
  subst hZ
  subst hO1
  subst hO2
  subst hO3
  subst hO4
  subst hO5
  go_enter Try.func26, Try.ntmps26
  go_wp2_with (go_at_call 77; (with_reducible refine hf77.mono ?_); rintro e w1 ⟨rfl, hb⟩)
  go_ret3
  exact ⟨rfl, hb⟩

/-- The writer's turn see. -/
theorem see106 (P R P0 : Nat) (g : Rg) (n : Int) (w : World) (h : RingAt P R g w) (hs : g.sz ≤ 1024) (c0 : w.cell? ⟨P0, 0, none⟩ = some (.pointer (some ⟨P, 0, none⟩))) :
    Calls Try.prog 106 #[.pointer (some ⟨P0, 0, none⟩), .int .i64 n] w fun e w' => e = .returned (.tuple #[]) ∧ RingAt P R g.seen w' ∧ Gw P R w w' := by
  have hse := seeM_any P R g w h hs
  go_enter Try.func106, Try.ntmps106
  go_wp2_with (go_at_call 12; (with_reducible refine hse.mono ?_); rintro e w1 ⟨rfl, hr, hg⟩)
  go_end0
  exact ⟨rfl, hr, hg⟩
theorem gw_k115 {P R : Nat} {g : Rg} {w w' : World} (h : RingAt P R g w) (hg : Gw P R w w') : K115 w w' := by
  intro b c hb
  have hlt : b < w.heap.size := (Array.getElem?_eq_some_iff.1 hb).1
  refine (hg.block b hlt (fun e => ?_) (fun e => ?_)).trans hb
  · obtain ⟨cap, _, c', h1, _⟩ := h.cap
    rw [← e, hb] at h1
    cases h1
  · obtain ⟨N, G, ⟨c', h1, _⟩, _⟩ := h.row
    rw [← e, hb] at h1
    cases h1
/-- Turns that do nothing to a new ring. -/
def SeesI (sz ch : Nat) (fi : Int) (lv : Value) (w0 : World) : PlI := fun P R P0 _ x => Below w0.heap.size w0 x ∧ (w0.heap.size ≤ P ∧ w0.heap.size ≤ R ∧ w0.heap.size ≤ P0) ∧ (P ≠ P0 ∧ R ≠ P0) ∧ RingAt P R (newG sz ch fi) x ∧ x.rowIs P0 112 5 (plVal P lv 0 nilS nilS)
theorem pAt_zeros (n i : Nat) : pAt (List.replicate n Pass.zero) i = Pass.zero := by
  unfold pAt
  by_cases h : i < n
  · simp [List.getD, h]
  · simp [List.getD, h]
theorem sees_ok (sz ch : Nat) (fi : Int) (lv : Value) (n : Nat) (hs : sz ≤ 1024) (w0 : World) : PlayOk sz ch fi lv (List.replicate n Pass.zero) w0 (SeesI sz ch fi lv w0) where
  start P R P0 x hb h1 h2 hr hp := ⟨hb, h1, h2, hr, hp⟩
  step P R P0 j x hj h := by
    obtain ⟨hb, h1, h2, hr, hp⟩ := h
    rw [pAt_zeros]
    refine (see106 P R P0 _ _ x hr hs (hp.cell (i := 0) (by decide))).mono ?_
    rintro e w' ⟨rfl, hr', hg⟩
    refine ⟨rfl, ⟨⟨hg.os.trans hb.os, hg.tape.trans hb.tape, hg.output.trans hb.output, Nat.le_trans hb.size hg.size, fun k hk => (hg.block k (by have := hb.size; omega) (by omega) (by omega)).trans (hb.block k hk)⟩, h1, h2, hr', hp.of_block (hg.block P0 hp.lt (fun e => h2.1 e.symm) (fun e => h2.2 e.symm))⟩, gw_k115 hr hg⟩
  keep P R P0 j x y h hy := by
    obtain ⟨hb, h1, h2, hr, hp⟩ := h
    exact ⟨Below.then hb (Nat.le_refl _) hy, h1, h2, hr.below hy, hp.of_block (hy.block P0 hp.lt)⟩
  below P R P0 j x h := h.1
theorem sees_end (sz ch : Nat) (fi : Int) (lv : Value) (n : Nat) (w0 : World) : PlayEnd (SeesI sz ch fi lv w0) n w0 where
  fin P R P0 x h := ⟨newG sz ch fi, nilS, h.2.2.2.1, h.2.2.2.2.cell (i := 0) (by decide), h.2.2.2.2.cell (i := 4) (by decide), h.2.1⟩
end Go.Proofs.Ytgcohmlapgnbdaa
