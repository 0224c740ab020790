/- takeNow, Skip. -/
import Derived.Test.YtgcohmlapgnbdaaRO
namespace Go.Proofs.Ytgcohmlapgnbdaa
open Go.RowKit Go.Shelf Go.Deep

def Rg.fill (g : Rg) : Int := aheadI g.wc g.rc
def skipK (g : Rg) (n : Int) : Int := if n < 0 then 7 else if g.rh = true then 9 else 0
def Rg.tn (g : Rg) (n : Int) : Rg := g.looked.take n
def tnR (g : Rg) (n : Int) : Rg := if skipK g n = 0 then g.tn n else g
def skipU (g : Rg) (n : Int) : Int := if skipK g n = 0 then min n g.fill else 0
def skipR (g : Rg) (n : Int) : Rg := if skipK g n = 0 then (g.tn n).doned (min n g.fill) else g
set_option maxHeartbeats 2000000 in
set_option maxRecDepth 100000 in
theorem takeNow_any (P R : Nat) (g : Rg) (n : Int) (w : World) (h : RingAt P R g w) : Calls Try.prog 47 #[.pointer (some ⟨P, 0, none⟩), .int .i64 n] w (Clos P R (tnR g n) (.int .i64 (skipU g n)) (skipK g n) w) := by
  have hm1 := must_yes 1 w
  have hm7 := must_yes 7 w
  have hm9 := must_yes 9 w
  have hn7 := must_no 7 w
  have hn9 := must_no 9 w
  have c9 : w.cell? ⟨P, 9, none⟩ = some (.bool g.rh) := h.c (k := 9) (by decide) (by decide)
  have HR := Lib.hid h
  by_cases hn : n < 0
  · have e1 : skipK g n = 7 := by simp [skipK, hn]
    rw [show tnR g n = g by unfold tnR; rw [e1]; rfl, e1]
    have hn2 : decide (0 ≤ n) = false := decide_eq_false (by omega)
    generalize skipU g n = u
    clear e1 h hn
    go_enter Try.func47, Try.ntmps47
    go_wp2_with (first | (go_at_call 38; (with_reducible refine hm1.mono ?_); rintro e w1 ⟨rfl, rfl⟩) | (go_at_call 38; (with_reducible refine hn7.mono ?_); rintro e w1 ⟨rfl, rfl⟩))
    exact ⟨rfl, rfl, HR.out, Gw.refl _ _ _⟩
  · have hn0 : 0 ≤ n := by omega
    cases hh : g.rh with
    | true =>
      have e1 : skipK g n = 9 := by simp [skipK, hn, hh]
      rw [show tnR g n = g by unfold tnR; rw [e1]; rfl, e1]
      rw [hh] at c9
      generalize skipU g n = u
      clear e1 h hh hn
      go_enter Try.func47, Try.ntmps47
      go_wp2_with (first | (go_at_call 38; (with_reducible refine hm1.mono ?_); rintro e w1 ⟨rfl, rfl⟩) | (go_at_call 38; (with_reducible refine hm7.mono ?_); rintro e w1 ⟨rfl, rfl⟩) | (go_at_call 38; (with_reducible refine hn9.mono ?_); rintro e w1 ⟨rfl, rfl⟩))
      exact ⟨rfl, rfl, HR.out, Gw.refl _ _ _⟩
    | false =>
      have e1 : skipK g n = 0 := by simp [skipK, hn, hh]
      rw [show tnR g n = g.tn n by unfold tnR; rw [e1]; rfl, show skipU g n = min n g.fill by unfold skipU; rw [e1]; rfl, e1]
      rw [hh] at c9
      have HH := Lib.hid hh
      clear e1 h hh hn
      go_enter Try.func47, Try.ntmps47
      go_upto_region 4 with (first | (go_at_call 38; (with_reducible refine hm1.mono ?_); rintro e w1 ⟨rfl, rfl⟩) | (go_at_call 38; (with_reducible refine hm7.mono ?_); rintro e w1 ⟨rfl, rfl⟩) | (go_at_call 38; (with_reducible refine hm9.mono ?_); rintro e w1 ⟨rfl, rfl⟩))
      clear c9
      refine region_T (S := fun _ => True) [7, 8] (by kernel_rfl) trivial (fun _ => ?_)
      have HR2 : Hid (RingAt P R g w.drew) := Lib.hid (HR.out.below (below_drewN (Below.refl _ w) 1))
      have HG2 : Hid (Gw P R w w.drew) := Lib.hid ((Gw.refl P R w).drewN 1)
      generalize w.drew = W at *
      refine anyT_take (i := 0) (v := ?_) rfl (by kernel_rfl) (by kernel_rfl) (by kernel_rfl) (by kernel_rfl) (fun _ _ _ h => h) (Or.inl ⟨by rfl, ?_⟩) trivial ?_
      rotate_left
      focus ((intro wq hSw; go_simp); try with_reducible rfl)
      try simp only [Act.put, List.getElem_toArray, List.getElem_cons_succ, List.getElem_cons_zero, List.setIfInBounds_toArray, List.set_cons_zero, List.set_cons_succ]
      refine anyT_take (i := 1) (v := ?_) rfl (by kernel_rfl) (by kernel_rfl) (by kernel_rfl) (by kernel_rfl) (fun _ _ _ h => h) (Or.inl ⟨by rfl, ?_⟩) trivial ?_
      rotate_left
      focus ((intro wq hSw; go_simp); try with_reducible rfl)
      try simp only [Act.put, List.getElem_toArray, List.getElem_cons_succ, List.getElem_cons_zero, List.setIfInBounds_toArray, List.set_cons_zero, List.set_cons_succ]
      refine anyT_take (i := 2) (v := ?_) rfl (by kernel_rfl) (by kernel_rfl) (by kernel_rfl) (by kernel_rfl) (fun _ _ _ h => h) (Or.inl ⟨by rfl, ?_⟩) trivial ?_
      rotate_left
      focus ((intro wq hSw; go_simp); try with_reducible rfl)
      try simp only [Act.put, List.getElem_toArray, List.getElem_cons_succ, List.getElem_cons_zero, List.setIfInBounds_toArray, List.set_cons_zero, List.set_cons_succ]
      refine anyT_take (i := 3) (v := ?_) rfl (by kernel_rfl) (by kernel_rfl) (by kernel_rfl) (by kernel_rfl) (fun _ _ _ h => h) (Or.inl ⟨by rfl, ?_⟩) trivial ?_
      rotate_left
      focus ((intro wq hSw; go_simp); try with_reducible rfl)
      try simp only [Act.put, List.getElem_toArray, List.getElem_cons_succ, List.getElem_cons_zero, List.setIfInBounds_toArray, List.set_cons_zero, List.set_cons_succ]
      refine anyT_take (i := 4) (v := ?_) rfl (by kernel_rfl) (by kernel_rfl) (by kernel_rfl) (by kernel_rfl) (fun _ _ _ h => h) (Or.inl ⟨by rfl, ?_⟩) trivial ?_
      rotate_left
      focus ((intro wq hSw; go_simp); try with_reducible rfl)
      try simp only [Act.put, List.getElem_toArray, List.getElem_cons_succ, List.getElem_cons_zero, List.setIfInBounds_toArray, List.set_cons_zero, List.set_cons_succ]
      refine anyT_take (i := 5) (v := ?_) rfl (by kernel_rfl) (by kernel_rfl) (by kernel_rfl) (by kernel_rfl) (fun _ _ _ h => h) (Or.inl ⟨by rfl, ?_⟩) trivial ?_
      rotate_left
      focus ((intro wq hSw; go_simp); try with_reducible rfl)
      try simp only [Act.put, List.getElem_toArray, List.getElem_cons_succ, List.getElem_cons_zero, List.setIfInBounds_toArray, List.set_cons_zero, List.set_cons_succ]
      refine anyT_one (i := 6) (by kernel_rfl) rfl (fun K hK => ?_)
      go_simp
      refine (look_any P R g W HR2.out).mono ?_
      rintro e wk ⟨rfl, hr3, hg3⟩
      have HR3 := Lib.hid hr3
      have HG3 := Lib.hid (HG2.out.trans hg3)
      clear hr3 hg3
      go_simp
      refine hK.out _ _ (fun _ => trivial) ?_
      clear hK K
      try simp only [Act.put, List.getElem_toArray, List.getElem_cons_succ, List.getElem_cons_zero, List.setIfInBounds_toArray, List.set_cons_zero, List.set_cons_succ]
      refine anyT_one (i := 7) (by kernel_rfl) rfl (fun K hK => ?_)
      go_simp
      refine (begin_yes P 7 n g.looked.filled g.rn wk hn0 (by rw [HR3.out.c (k := 9) (by decide) (by decide), show g.looked.val 0 0 9 = .bool g.rh from rfl, HH.out]) (HR3.out.c (k := 10) (by decide) (by decide)) HR3.out.frozen).mono ?_
      rintro e wj ⟨rfl, hwj⟩
      have HR4 : Hid (RingAt P R (g.tn n) wj ∧ Gw P R w wj) := Lib.hid (by
        have h1 := HR3.out.take n
        rw [hwj]
        exact ⟨h1, (HG3.out.setP _ _).setP _ _⟩)
      clear hwj
      rw [show g.looked.filled = g.fill from rfl]
      go_simp
      refine hK.out _ _ (fun h => by cases h) ?_
      clear hK K
      try simp only [Act.put, List.getElem_toArray, List.getElem_cons_succ, List.getElem_cons_zero, List.setIfInBounds_toArray, List.set_cons_zero, List.set_cons_succ]
      refine anyT_one (i := 8) (by kernel_rfl) rfl (fun K hK => ?_)
      go_simp
      refine hK.out _ _ (fun h => by cases h) ?_
      clear hK K
      refine anyT_done (by kernel_rfl) ?_ _
      go_wp2_with fail
      go_ret
      exact ⟨rfl, HR4.out.1, HR4.out.2⟩
set_option maxHeartbeats 1000000 in
set_option maxRecDepth 100000 in
theorem skip104_any (P R Bv Bn : Nat) (g : Rg) (n : Int) (w : World) (h : RingAt P R g w) (n0 : Bv ≠ P) (n1 : Bv ≠ R) (k0 : w.cell? ⟨Bv, 0, none⟩ = some (.pointer (some ⟨P, 0, none⟩))) (k1 : w.cell? ⟨Bn, 0, none⟩ = some (.int .i64 n)) :
    Calls Try.prog 104 #[at0 Bv, at0 Bn] w (Clos P R (skipR g n) (.int .i64 (skipU g n)) (skipK g n) w) := by
  have ht := takeNow_any P R g n w h
  by_cases hk : skipK g n = 0
  · rw [show skipR g n = (g.tn n).doned (min n g.fill) by unfold skipR; rw [if_pos hk], show skipU g n = min n g.fill by unfold skipU; rw [if_pos hk], hk]
    rw [show tnR g n = g.tn n by unfold tnR; rw [if_pos hk], show skipU g n = min n g.fill by unfold skipU; rw [if_pos hk], hk] at ht
    have hn0 : 0 ≤ n := by
      unfold skipK at hk
      split at hk
      · cases hk
      · omega
    have hf0 := (ahead_bd g.wc g.rc).1
    have HT : Hid (∀ x, RingAt P R (g.tn n) x → Calls Try.prog 49 #[.pointer (some ⟨P, 7, none⟩), .int .i64 (min n g.fill)] x fun e w' => e = .returned (.tuple #[]) ∧ RingAt P R ((g.tn n).doned (min n g.fill)) w' ∧ Gw P R x w') := Lib.hid fun x hx =>
      (end_yes P 7 (min n g.fill) (min n g.fill) g.rc true x (by unfold endK; rw [if_neg (by unfold Rg.fill; omega)]; simp) (hx.c (k := 7) (by decide) (by decide)) (hx.c (k := 9) (by decide) (by decide)) (hx.c (k := 10) (by decide) (by decide)) hx.frozen).mono (by
        rintro e w' ⟨rfl, rfl⟩
        exact ⟨rfl, hx.doned (min n g.fill), (((Gw.refl _ _ _).setP _ _).setP _ _).setP _ _⟩)
    have HC : Hid (∀ x, Gw P R w x → x.cell? ⟨Bv, 0, none⟩ = some (.pointer (some ⟨P, 0, none⟩))) := Lib.hid fun x hx => hx.cell k0 n0 n1
    generalize min n g.fill = u at *
    clear h hk hf0
    go_enter Try.func104, Try.ntmps104
    go_wp2_with (first
      | (go_at_call 47; (with_reducible refine ht.mono ?_); rintro e w1 ⟨rfl, h1, h2⟩; have h49 := HT.out w1 h1; have m0 := HC.out w1 h2; have HG := Lib.hid h2; clear h1 h2; rw [endOf_yes])
      | (go_at_call 49; (with_reducible refine h49.mono ?_); rintro e w2 ⟨rfl, h1, h2⟩; have HH := Lib.hid (And.intro h1 (HG.out.trans h2)); clear h1 h2))
    go_ret
    exact ⟨rfl, HH.out.1, HH.out.2⟩
  · rw [show skipR g n = g by unfold skipR; rw [if_neg hk]]
    rw [show tnR g n = g by unfold tnR; rw [if_neg hk]] at ht
    have HK := Lib.hid hk
    generalize skipU g n = u at *
    generalize skipK g n = k at *
    clear h hk
    go_enter Try.func104, Try.ntmps104
    go_wp2_with (go_at_call 47; (with_reducible refine ht.mono ?_); rintro e w1 ⟨rfl, h1, h2⟩; have HH := Lib.hid (And.intro h1 h2); clear h1 h2; rw [endOf_no _ HK.out])
    exact ⟨rfl, (endOf_no _ HK.out).symm, HH.out.1, HH.out.2⟩
set_option maxRecDepth 100000 in
theorem skip_any (P R : Nat) (g : Rg) (n : Int) (w : World) (h : RingAt P R g w)  : Calls Try.prog 71 #[.pointer (some ⟨P, 0, none⟩), .int .i64 n] w (Meth P R (skipR g n) (.int .i64 (skipU g n)) (skipK g n) w) := by
  have hmf := makes
  obtain ⟨hP, hR⟩ := h.lt
  obtain ⟨X, hX⟩ : ∃ X, Obj.cells #[.pointer (some ⟨P, 0, none⟩)] 25 = X := ⟨_, rfl⟩
  obtain ⟨Y, hY⟩ : ∃ Y, Obj.cells #[.int .i64 n] 3 = Y := ⟨_, rfl⟩
  have hbel : Below w.heap.size w ((w.alloc X).alloc Y) := (((Below.refl _ w).alloc (Nat.le_refl _) _).alloc (by simp) _)
  have c0 : ((w.alloc X).alloc Y).cell? ⟨w.heap.size, 0, none⟩ = some (.pointer (some ⟨P, 0, none⟩)) := by
    refine (Same.alloc _ Y).cell ?_; rw [← hX]; simp [go_sem]
  have c1 : ((w.alloc X).alloc Y).cell? ⟨w.heap.size + 1, 0, none⟩ = some (.int .i64 n) := by rw [← hY]; simp [go_sem]
  obtain ⟨Z, hZ⟩ : ∃ Z, (w.alloc X).alloc Y = Z := ⟨_, rfl⟩
  rw [hZ] at hbel c0 c1
  have hf := fit42_ring (P := P) (R := R) (g := skipR g n) (u := .int .i64 (skipU g n)) (k := skipK g n) 104 #[at0 w.heap.size, at0 (w.heap.size + 1)] Z (Nat.lt_of_lt_of_le hP hbel.size) (Nat.lt_of_lt_of_le hR hbel.size) (fun hk => by unfold skipU; rw [if_neg hk]) (enters_of Try.func104 (by kernel_rfl) rfl _)
    (fun x hx => skip104_any P R _ _ g n x ((h.below hbel).below hx) (by omega) (by omega) ((Same.of_below hx).cell c0) ((Same.of_below hx).cell c1))
  have HB := Lib.hid (gw_below (P := P) (R := R) hbel)
  generalize skipR g n = g2 at *
  generalize skipU g n = u at *
  generalize skipK g n = k at *
  clear hbel c0 c1 h
  subst hZ
  subst hX
  subst hY
  go_enter Try.func71, Try.ntmps71
  go_wp2_with (go_at_call 42; (with_reducible refine hf.mono ?_); rintro e w1 ⟨rfl, h1, h2⟩; have HH := Lib.hid (And.intro h1 (HB.out.trans h2)); clear h1 h2)
  go_ret2
  exact ⟨rfl, HH.out.1, HH.out.2⟩
end Go.Proofs.Ytgcohmlapgnbdaa
