/- Commit, Done, Get. -/
import Derived.Test.YtgcohmlapgnbdaaRJ
namespace Go.Proofs.Ytgcohmlapgnbdaa
open Go.RowKit Go.Shelf Go.Deep

def MethE (P R : Nat) (g : Rg) (k : Int) (w : World) (e : Ending) (w' : World) : Prop := e = .returned (.int .i64 k) ∧ RingAt P R g w' ∧ Gw P R w w'

def Rg.commitd (g : Rg) (n : Int) : Rg := { g with wc := (g.wc + n) % 65536, wh := false, wn := 0 }
def commitK (g : Rg) (n : Int) : Int := endK n g.wh g.wn
def commitR (g : Rg) (n : Int) : Rg := if commitK g n = 0 then g.commitd n else g
theorem RingAt.commitd {P R : Nat} {g : Rg} {w : World} (h : RingAt P R g w) (n : Int) : RingAt P R (g.commitd n) (((w.setCell ⟨P, 3, none⟩ (.int .u16 ((g.wc + n) % 65536))).setCell ⟨P, 3 + 2, none⟩ (.bool false)).setCell ⟨P, 3 + 3, none⟩ (.int .i64 0)) := by
  have h0 := h.put { g with wc := (g.wc + n) % 65536 } 3 (.int .u16 ((g.wc + n) % 65536)) rfl rfl rfl rfl (by decide) fun j hj hne => by
    match j with
    | 0 => first | rfl | exact absurd rfl hne
    | 1 => first | rfl | exact absurd rfl hne
    | 2 => first | rfl | exact absurd rfl hne
    | 3 => first | rfl | exact absurd rfl hne
    | 4 => first | rfl | exact absurd rfl hne
    | 5 => first | rfl | exact absurd rfl hne
    | 6 => first | rfl | exact absurd rfl hne
    | 7 => first | rfl | exact absurd rfl hne
    | 8 => first | rfl | exact absurd rfl hne
    | 9 => first | rfl | exact absurd rfl hne
    | 10 => first | rfl | exact absurd rfl hne
    | j + 11 => omega
  have h1 := h0.put { g with wc := (g.wc + n) % 65536, wh := false } (3 + 2) (.bool false) rfl rfl rfl rfl (by decide) fun j hj hne => by
    match j with
    | 0 => first | rfl | exact absurd rfl hne
    | 1 => first | rfl | exact absurd rfl hne
    | 2 => first | rfl | exact absurd rfl hne
    | 3 => first | rfl | exact absurd rfl hne
    | 4 => first | rfl | exact absurd rfl hne
    | 5 => first | rfl | exact absurd rfl hne
    | 6 => first | rfl | exact absurd rfl hne
    | 7 => first | rfl | exact absurd rfl hne
    | 8 => first | rfl | exact absurd rfl hne
    | 9 => first | rfl | exact absurd rfl hne
    | 10 => first | rfl | exact absurd rfl hne
    | j + 11 => omega
  exact h1.put (g.commitd n) (3 + 3) _ rfl rfl rfl rfl (by decide) fun j hj hne => by
    match j with
    | 0 => first | rfl | exact absurd rfl hne
    | 1 => first | rfl | exact absurd rfl hne
    | 2 => first | rfl | exact absurd rfl hne
    | 3 => first | rfl | exact absurd rfl hne
    | 4 => first | rfl | exact absurd rfl hne
    | 5 => first | rfl | exact absurd rfl hne
    | 6 => first | rfl | exact absurd rfl hne
    | 7 => first | rfl | exact absurd rfl hne
    | 8 => first | rfl | exact absurd rfl hne
    | 9 => first | rfl | exact absurd rfl hne
    | 10 => first | rfl | exact absurd rfl hne
    | j + 11 => omega
set_option maxHeartbeats 2000000 in
set_option maxRecDepth 100000 in
theorem commit58_any (P R Bv Bn : Nat) (g : Rg) (n : Int) (w : World) (h : RingAt P R g w) (k0 : w.cell? ⟨Bv, 0, none⟩ = some (.pointer (some ⟨P, 0, none⟩))) (k1 : w.cell? ⟨Bn, 0, none⟩ = some (.int .i64 n)) :
    Calls Try.prog 58 #[at0 Bv, at0 Bn] w (Clos P R (commitR g n) (.tuple #[]) (commitK g n) w) := by
  have hm1 := must_yes 1 w
  have HR := Lib.hid (h.below (below_drewN (Below.refl _ w) 1))
  by_cases hk : commitK g n = 0
  · have he := end_yes P 3 n g.wn g.wc g.wh _ hk (HR.out.c (k := 3) (by decide) (by decide)) (HR.out.c (k := 3 + 2) (by decide) (by decide)) (HR.out.c (k := 3 + 3) (by decide) (by decide)) HR.out.frozen
    have HRR := Lib.hid (HR.out.commitd n)
    rw [show commitR g n = g.commitd n by unfold commitR; rw [if_pos hk], hk]
    have HG : Hid (Gw P R w (w.drewN 1)) := Lib.hid (gw_below (below_drewN (Below.refl _ w) 1))
    clear hk h
    go_enter Try.func58, Try.ntmps58
    go_upto_region 1 with (go_at_call 38; (with_reducible refine hm1.mono ?_); rintro e w1 ⟨rfl, rfl⟩)
    go_still_tail 5, (by kernel_rfl)
    change wpList _ _ _ _ _ (w.drewN 1)
    generalize w.drewN 1 = W at *
    go_wp2_with (go_at_call 49; (with_reducible refine he.mono ?_); rintro e w2 ⟨rfl, hw2⟩; have HF := Lib.hid (And.intro (show RingAt P R (g.commitd n) w2 by rw [hw2]; exact HRR.out) (show Gw P R w w2 by rw [hw2]; exact ((HG.out.setP _ _).setP _ _).setP _ _)); clear hw2)
    go_end0
    exact ⟨rfl, HF.out.1, HF.out.2⟩
  · have he := end_no P 3 n g.wn g.wh (w.drewN 1) hk (HR.out.c (k := 3 + 2) (by decide) (by decide)) (HR.out.c (k := 3 + 3) (by decide) (by decide))
    rw [show commitR g n = g by unfold commitR; rw [if_neg hk], show commitK g n = endK n g.wh g.wn from rfl] at *
    have HG : Hid (Gw P R w (w.drewN 1)) := Lib.hid (gw_below (below_drewN (Below.refl _ w) 1))
    have HK := Lib.hid hk
    clear hk h
    generalize endK n g.wh g.wn = k at *
    go_enter Try.func58, Try.ntmps58
    go_upto_region 1 with (go_at_call 38; (with_reducible refine hm1.mono ?_); rintro e w1 ⟨rfl, rfl⟩)
    go_still_tail 5, (by kernel_rfl)
    change wpList _ _ _ _ _ (w.drewN 1)
    generalize w.drewN 1 = W at *
    go_wp2_with (go_at_call 49; (with_reducible refine he.mono ?_); rintro e w2 ⟨rfl, hw2⟩; have HF := Lib.hid (show RingAt P R g w2 ∧ Gw P R w w2 by rw [hw2]; exact ⟨HR.out, HG.out⟩); clear hw2)
    exact ⟨rfl, (endOf_no _ HK.out).symm, HF.out⟩
set_option maxRecDepth 100000 in
theorem commit_any (P R : Nat) (g : Rg) (n : Int) (w : World) (h : RingAt P R g w) : Calls Try.prog 16 #[.pointer (some ⟨P, 0, none⟩), .int .i64 n] w (MethE P R (commitR g n) (commitK g n) w) := by
  have hmf := makes
  obtain ⟨hP, hR⟩ := h.lt
  obtain ⟨X, hX⟩ : ∃ X, Obj.cells #[.pointer (some ⟨P, 0, none⟩)] 25 = X := ⟨_, rfl⟩
  obtain ⟨Y, hY⟩ : ∃ Y, Obj.cells #[.int .i64 n] 3 = Y := ⟨_, rfl⟩
  have hbel : Below w.heap.size w ((w.alloc X).alloc Y) := (((Below.refl _ w).alloc (Nat.le_refl _) _).alloc (by simp) _)
  have c0 : ((w.alloc X).alloc Y).cell? ⟨w.heap.size, 0, none⟩ = some (.pointer (some ⟨P, 0, none⟩)) := by
    refine (Same.alloc _ Y).cell ?_; rw [← hX]; simp [go_sem]
  have c1 : ((w.alloc X).alloc Y).cell? ⟨w.heap.size + 1, 0, none⟩ = some (.int .i64 n) := by rw [← hY]; simp [go_sem]
  obtain ⟨Z, hZ⟩ : ∃ Z, (w.alloc X).alloc Y = Z := ⟨_, rfl⟩
  rw [hZ] at hbel c0 c1
  have hf := done_ring (P := P) (R := R) (g := commitR g n) (k := commitK g n) 58 #[at0 w.heap.size, at0 (w.heap.size + 1)] Z (Nat.lt_of_lt_of_le hP hbel.size) (Nat.lt_of_lt_of_le hR hbel.size) (enters_of Try.func58 (by kernel_rfl) rfl _)
    (fun x hx => commit58_any P R _ _ g n x ((h.below hbel).below hx) ((Same.of_below hx).cell c0) ((Same.of_below hx).cell c1))
  have HB := Lib.hid (gw_below (P := P) (R := R) hbel)
  generalize commitR g n = g2 at *
  generalize commitK g n = k at *
  clear hbel c0 c1 h
  subst hZ
  subst hX
  subst hY
  go_enter Try.func16, Try.ntmps16
  go_wp2_with (go_at_call 57; (with_reducible refine hf.mono ?_); rintro e w1 ⟨rfl, h1, h2⟩; have HH := Lib.hid (And.intro h1 (HB.out.trans h2)); clear h1 h2)
  go_ret
  exact ⟨rfl, HH.out.1, HH.out.2⟩

def Rg.doned (g : Rg) (n : Int) : Rg := { g with rc := (g.rc + n) % 65536, rh := false, rn := 0 }
def doneK (g : Rg) (n : Int) : Int := endK n g.rh g.rn
def doneR (g : Rg) (n : Int) : Rg := if doneK g n = 0 then g.doned n else g
theorem RingAt.doned {P R : Nat} {g : Rg} {w : World} (h : RingAt P R g w) (n : Int) : RingAt P R (g.doned n) (((w.setCell ⟨P, 7, none⟩ (.int .u16 ((g.rc + n) % 65536))).setCell ⟨P, 7 + 2, none⟩ (.bool false)).setCell ⟨P, 7 + 3, none⟩ (.int .i64 0)) := by
  have h0 := h.put { g with rc := (g.rc + n) % 65536 } 7 (.int .u16 ((g.rc + n) % 65536)) rfl rfl rfl rfl (by decide) fun j hj hne => by
    match j with
    | 0 => first | rfl | exact absurd rfl hne
    | 1 => first | rfl | exact absurd rfl hne
    | 2 => first | rfl | exact absurd rfl hne
    | 3 => first | rfl | exact absurd rfl hne
    | 4 => first | rfl | exact absurd rfl hne
    | 5 => first | rfl | exact absurd rfl hne
    | 6 => first | rfl | exact absurd rfl hne
    | 7 => first | rfl | exact absurd rfl hne
    | 8 => first | rfl | exact absurd rfl hne
    | 9 => first | rfl | exact absurd rfl hne
    | 10 => first | rfl | exact absurd rfl hne
    | j + 11 => omega
  have h1 := h0.put { g with rc := (g.rc + n) % 65536, rh := false } (7 + 2) (.bool false) rfl rfl rfl rfl (by decide) fun j hj hne => by
    match j with
    | 0 => first | rfl | exact absurd rfl hne
    | 1 => first | rfl | exact absurd rfl hne
    | 2 => first | rfl | exact absurd rfl hne
    | 3 => first | rfl | exact absurd rfl hne
    | 4 => first | rfl | exact absurd rfl hne
    | 5 => first | rfl | exact absurd rfl hne
    | 6 => first | rfl | exact absurd rfl hne
    | 7 => first | rfl | exact absurd rfl hne
    | 8 => first | rfl | exact absurd rfl hne
    | 9 => first | rfl | exact absurd rfl hne
    | 10 => first | rfl | exact absurd rfl hne
    | j + 11 => omega
  exact h1.put (g.doned n) (7 + 3) _ rfl rfl rfl rfl (by decide) fun j hj hne => by
    match j with
    | 0 => first | rfl | exact absurd rfl hne
    | 1 => first | rfl | exact absurd rfl hne
    | 2 => first | rfl | exact absurd rfl hne
    | 3 => first | rfl | exact absurd rfl hne
    | 4 => first | rfl | exact absurd rfl hne
    | 5 => first | rfl | exact absurd rfl hne
    | 6 => first | rfl | exact absurd rfl hne
    | 7 => first | rfl | exact absurd rfl hne
    | 8 => first | rfl | exact absurd rfl hne
    | 9 => first | rfl | exact absurd rfl hne
    | 10 => first | rfl | exact absurd rfl hne
    | j + 11 => omega
set_option maxHeartbeats 2000000 in
set_option maxRecDepth 100000 in
theorem done59_any (P R Bv Bn : Nat) (g : Rg) (n : Int) (w : World) (h : RingAt P R g w) (k0 : w.cell? ⟨Bv, 0, none⟩ = some (.pointer (some ⟨P, 0, none⟩))) (k1 : w.cell? ⟨Bn, 0, none⟩ = some (.int .i64 n)) :
    Calls Try.prog 59 #[at0 Bv, at0 Bn] w (Clos P R (doneR g n) (.tuple #[]) (doneK g n) w) := by
  have hm1 := must_yes 1 w
  have HR := Lib.hid (h.below (below_drewN (Below.refl _ w) 1))
  by_cases hk : doneK g n = 0
  · have he := end_yes P 7 n g.rn g.rc g.rh _ hk (HR.out.c (k := 7) (by decide) (by decide)) (HR.out.c (k := 7 + 2) (by decide) (by decide)) (HR.out.c (k := 7 + 3) (by decide) (by decide)) HR.out.frozen
    have HRR := Lib.hid (HR.out.doned n)
    rw [show doneR g n = g.doned n by unfold doneR; rw [if_pos hk], hk]
    have HG : Hid (Gw P R w (w.drewN 1)) := Lib.hid (gw_below (below_drewN (Below.refl _ w) 1))
    clear hk h
    go_enter Try.func59, Try.ntmps59
    go_upto_region 1 with (go_at_call 38; (with_reducible refine hm1.mono ?_); rintro e w1 ⟨rfl, rfl⟩)
    go_still_tail 5, (by kernel_rfl)
    change wpList _ _ _ _ _ (w.drewN 1)
    generalize w.drewN 1 = W at *
    go_wp2_with (go_at_call 49; (with_reducible refine he.mono ?_); rintro e w2 ⟨rfl, hw2⟩; have HF := Lib.hid (And.intro (show RingAt P R (g.doned n) w2 by rw [hw2]; exact HRR.out) (show Gw P R w w2 by rw [hw2]; exact ((HG.out.setP _ _).setP _ _).setP _ _)); clear hw2)
    go_end0
    exact ⟨rfl, HF.out.1, HF.out.2⟩
  · have he := end_no P 7 n g.rn g.rh (w.drewN 1) hk (HR.out.c (k := 7 + 2) (by decide) (by decide)) (HR.out.c (k := 7 + 3) (by decide) (by decide))
    rw [show doneR g n = g by unfold doneR; rw [if_neg hk], show doneK g n = endK n g.rh g.rn from rfl] at *
    have HG : Hid (Gw P R w (w.drewN 1)) := Lib.hid (gw_below (below_drewN (Below.refl _ w) 1))
    have HK := Lib.hid hk
    clear hk h
    generalize endK n g.rh g.rn = k at *
    go_enter Try.func59, Try.ntmps59
    go_upto_region 1 with (go_at_call 38; (with_reducible refine hm1.mono ?_); rintro e w1 ⟨rfl, rfl⟩)
    go_still_tail 5, (by kernel_rfl)
    change wpList _ _ _ _ _ (w.drewN 1)
    generalize w.drewN 1 = W at *
    go_wp2_with (go_at_call 49; (with_reducible refine he.mono ?_); rintro e w2 ⟨rfl, hw2⟩; have HF := Lib.hid (show RingAt P R g w2 ∧ Gw P R w w2 by rw [hw2]; exact ⟨HR.out, HG.out⟩); clear hw2)
    exact ⟨rfl, (endOf_no _ HK.out).symm, HF.out⟩
set_option maxRecDepth 100000 in
theorem done_any (P R : Nat) (g : Rg) (n : Int) (w : World) (h : RingAt P R g w) : Calls Try.prog 17 #[.pointer (some ⟨P, 0, none⟩), .int .i64 n] w (MethE P R (doneR g n) (doneK g n) w) := by
  have hmf := makes
  obtain ⟨hP, hR⟩ := h.lt
  obtain ⟨X, hX⟩ : ∃ X, Obj.cells #[.pointer (some ⟨P, 0, none⟩)] 25 = X := ⟨_, rfl⟩
  obtain ⟨Y, hY⟩ : ∃ Y, Obj.cells #[.int .i64 n] 3 = Y := ⟨_, rfl⟩
  have hbel : Below w.heap.size w ((w.alloc X).alloc Y) := (((Below.refl _ w).alloc (Nat.le_refl _) _).alloc (by simp) _)
  have c0 : ((w.alloc X).alloc Y).cell? ⟨w.heap.size, 0, none⟩ = some (.pointer (some ⟨P, 0, none⟩)) := by
    refine (Same.alloc _ Y).cell ?_; rw [← hX]; simp [go_sem]
  have c1 : ((w.alloc X).alloc Y).cell? ⟨w.heap.size + 1, 0, none⟩ = some (.int .i64 n) := by rw [← hY]; simp [go_sem]
  obtain ⟨Z, hZ⟩ : ∃ Z, (w.alloc X).alloc Y = Z := ⟨_, rfl⟩
  rw [hZ] at hbel c0 c1
  have hf := done_ring (P := P) (R := R) (g := doneR g n) (k := doneK g n) 59 #[at0 w.heap.size, at0 (w.heap.size + 1)] Z (Nat.lt_of_lt_of_le hP hbel.size) (Nat.lt_of_lt_of_le hR hbel.size) (enters_of Try.func59 (by kernel_rfl) rfl _)
    (fun x hx => done59_any P R _ _ g n x ((h.below hbel).below hx) ((Same.of_below hx).cell c0) ((Same.of_below hx).cell c1))
  have HB := Lib.hid (gw_below (P := P) (R := R) hbel)
  generalize doneR g n = g2 at *
  generalize doneK g n = k at *
  clear hbel c0 c1 h
  subst hZ
  subst hX
  subst hY
  go_enter Try.func17, Try.ntmps17
  go_wp2_with (go_at_call 57; (with_reducible refine hf.mono ?_); rintro e w1 ⟨rfl, h1, h2⟩; have HH := Lib.hid (And.intro h1 (HB.out.trans h2)); clear h1 h2)
  go_ret
  exact ⟨rfl, HH.out.1, HH.out.2⟩

/-- What Get gives: a frame of new memory, or nothing. -/
def getK (g : Rg) (i : Int) : Int := atK i g.rh g.rn
def getL (g : Rg) (i : Int) : List Int := if getK g i = 0 then g.frame ((g.rc + i) % 65536) else []
def GetM (l : List Int) (k : Int) (w : World) (e : Ending) (w' : World) : Prop := ∃ u, e = .returned (.tuple #[u, .int .i64 k]) ∧ RowNew w.heap.size w' l u ∧ Below w.heap.size w w'
theorem okRow_nil : okRow [] := ⟨by simp, fun i hi => by simp at hi⟩
theorem rowNew_nil (B : Nat) (w : World) : RowNew B w [] (.slice none 0 0) := ⟨World.ownsRow_nil _ _ _ _, okRow_nil⟩
theorem rowNew_near {n : Nat} {w1 w' : World} {l : List Int} {u : Value} (h : RowNew (n + 1) w1 l u) (hn : Near n w1 w') : RowNew n w' l u :=
  ⟨owns_base (owns_grown h.1 (near_grown hn) (fun g hg e => by have := (h.1.lt g hg).1; cases e; omega)) (by omega), h.2⟩
set_option maxRecDepth 100000 in
theorem get55_any (P R Bv Bn : Nat) (g : Rg) (i : Int) (w : World) (h : RingAt P R g w) (hok : g.Ok) (k0 : w.cell? ⟨Bv, 0, none⟩ = some (.pointer (some ⟨P, 0, none⟩))) (k1 : w.cell? ⟨Bn, 0, none⟩ = some (.int .i64 i)) :
    Calls Try.prog 55 #[at0 Bv, at0 Bn] w fun e w' => ∃ u, e = endOf u (getK g i) ∧ (getK g i = 0 → RowNew w.heap.size w' (getL g i) u) ∧ Below w.heap.size w w' := by
  have hm1 := must_yes 1 w
  by_cases hk : getK g i = 0
  · have hg := get_yes P R g i w h hok hk
    rw [show getL g i = g.frame ((g.rc + i) % 65536) by unfold getL; rw [if_pos hk], hk]
    generalize g.frame ((g.rc + i) % 65536) = F at *
    clear hk h hok
    go_enter Try.func55, Try.ntmps55
    go_wp2_with (first | (go_at_call 38; (with_reducible refine hm1.mono ?_); rintro e w1 ⟨rfl, rfl⟩) | (go_at_call 56; (with_reducible refine hg.mono ?_); rintro e w1 ⟨u, rfl, h1, h2⟩; have HH := Lib.hid (And.intro h1 h2); clear h1 h2))
    go_ret
    exact ⟨_, rfl, fun _ => HH.out.1, HH.out.2⟩
  · have hg := get_no P R g i w h hk
    have HK := Lib.hid hk
    rw [show atK i g.rh g.rn = getK g i from rfl] at hg
    generalize getL g i = F at *
    generalize getK g i = k at *
    clear hk h hok
    go_enter Try.func55, Try.ntmps55
    go_wp2_with (first | (go_at_call 38; (with_reducible refine hm1.mono ?_); rintro e w1 ⟨rfl, rfl⟩) | (go_at_call 56; (with_reducible refine hg.mono ?_); rintro e w1 ⟨rfl, h2⟩; have HH := Lib.hid h2; clear h2))
    exact ⟨rfl, undef, (endOf_no _ HK.out).symm, fun h => absurd h HK.out, HH.out⟩
set_option maxRecDepth 100000 in
theorem getM_any (P R : Nat) (g : Rg) (i : Int) (w : World) (h : RingAt P R g w) (hok : g.Ok) : Calls Try.prog 15 #[.pointer (some ⟨P, 0, none⟩), .int .i64 i] w (GetM (getL g i) (getK g i) w) := by
  have hmf := makes
  obtain ⟨X, hX⟩ : ∃ X, Obj.cells #[.pointer (some ⟨P, 0, none⟩)] 25 = X := ⟨_, rfl⟩
  obtain ⟨Y, hY⟩ : ∃ Y, Obj.cells #[.int .i64 i] 3 = Y := ⟨_, rfl⟩
  have hbel : Below w.heap.size w ((w.alloc X).alloc Y) := (((Below.refl _ w).alloc (Nat.le_refl _) _).alloc (by simp) _)
  have c0 : ((w.alloc X).alloc Y).cell? ⟨w.heap.size, 0, none⟩ = some (.pointer (some ⟨P, 0, none⟩)) := by
    refine (Same.alloc _ Y).cell ?_; rw [← hX]; simp [go_sem]
  have c1 : ((w.alloc X).alloc Y).cell? ⟨w.heap.size + 1, 0, none⟩ = some (.int .i64 i) := by rw [← hY]; simp [go_sem]
  obtain ⟨Z, hZ⟩ : ∃ Z, (w.alloc X).alloc Y = Z := ⟨_, rfl⟩
  rw [hZ] at hbel c0 c1
  have hb0 : Below Z.heap.size Z (Z.alloc (.cells #[.int .i64 0] 26)) := (Below.refl _ Z).alloc (Nat.le_refl _) _
  have hf := (fitted54_any 55 #[at0 w.heap.size, at0 (w.heap.size + 1)] Z (fun u k x => k = getK g i ∧ RowNew (Z.heap.size + 1) x (getL g i) u ∧ Below (Z.alloc (.cells #[.int .i64 0] 26)).heap.size (Z.alloc (.cells #[.int .i64 0] 26)) x) (enters_of Try.func55 (by kernel_rfl) rfl _)
    ((get55_any P R _ _ g i _ ((h.below hbel).below hb0) hok ((Same.of_below hb0).cell c0) ((Same.of_below hb0).cell c1)).mono (by
      rintro e w1 ⟨u, rfl, h1, h2⟩
      exact ⟨keeps_below h2, out_of (fun h0 => ⟨h0.symm, by simpa using h1 h0, h2⟩) (fun h0 => ⟨rfl, by unfold getL; rw [if_neg h0]; exact rowNew_nil _ _, h2⟩)⟩))).mono (R' := fun e w' => ∃ u, e = .returned (.tuple #[u, .int .i64 (getK g i)]) ∧ RowNew Z.heap.size w' (getL g i) u ∧ Below Z.heap.size Z w') (by
      rintro e w' ⟨u, k, w1, rfl, ⟨rfl, h1, h2⟩, _, hn⟩
      exact ⟨u, rfl, rowNew_near h1 hn, below_near h2 hn⟩)
  have HB := Lib.hid hbel
  generalize getL g i = F at *
  generalize getK g i = k at *
  clear hbel c0 c1 h hok hb0
  subst hZ
  subst hX
  subst hY
  go_enter Try.func15, Try.ntmps15
  go_wp2_with (go_at_call 54; (with_reducible refine hf.mono ?_); rintro e w1 ⟨u, rfl, h1, h2⟩; have HH := Lib.hid (And.intro (show RowNew w.heap.size w1 F u from ⟨owns_base h1.1 HB.out.size, h1.2⟩) (Below.then HB.out (Nat.le_refl _) h2)); clear h1 h2)
  go_ret2
  exact ⟨_, rfl, HH.out.1, HH.out.2⟩
end Go.Proofs.Ytgcohmlapgnbdaa
