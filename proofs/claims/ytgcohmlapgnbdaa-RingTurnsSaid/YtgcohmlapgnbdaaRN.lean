/- Write. -/
import Derived.Test.YtgcohmlapgnbdaaRM
namespace Go.Proofs.Ytgcohmlapgnbdaa
open Go.RowKit Go.Shelf Go.Deep

theorem slice_pre {a : Option Addr} {L cap n : Nat} (h : n ≤ cap) (w : World) : (Instr.sliceAt 29 (.slice a L cap) none (some (.int .i64 n)) none).run Try.prog w = .ok (.slice a n cap) w := by
  have h2 := run_slice_h (P := Try.prog) (w := w) 29 a L cap (by kernel_rfl) .i64 n (by omega) (by omega)
  rw [run_sliceAt_slice _ _ _ _ _ _ (by kernel_rfl), h2]
  have hs : (sizeOf (Try.prog.elem 29)).run Try.prog w = .ok 1 w := by kernel_rfl
  rw [hs]
  have ha : a.map (fun x => x.add 0) = a := by cases a <;> simp [Addr.add]
  simp [Result.andThen, sliced, ha]
/-- A list of frames that a write to a ring's blocks does not touch. -/
def MatOff (P R : Nat) (w : World) (l : List (List Int)) (v : Value) : Prop := ∀ x, Gw P R w x → MatIn x l v
theorem MatOff.goes {P R : Nat} {w x : World} {l : List (List Int)} {v : Value} (h : MatOff P R w l v) (hg : Gw P R w x) : MatOff P R x l v := fun y hy => h y (hg.trans hy)

/-- The frames when j of the list were put from the writer's counter on. -/
def putsM (g : Rg) (l : List (List Int)) : Nat → List (List Int)
  | 0 => g.m
  | j + 1 => (putsM g l j).set (plp g ((g.wc + j) % 65536)) (l.getD j [])
def Rg.room' (g : Rg) : Int := g.sz - aheadI g.wc g.rc
def wrN (g : Rg) (l : List (List Int)) : Nat := min l.length g.room'.toNat
/-- In the middle of a Write. -/
def wrG (g : Rg) (l : List (List Int)) (n j : Nat) : Rg := { g with wv := g.rc, wh := true, wn := n, m := putsM g l j }
def writeK (g : Rg) (l : List (List Int)) : Int := if frms g.ch l = false then 1 else if g.wh = true then 9 else 0
def Rg.wrote (g : Rg) (l : List (List Int)) : Rg := { g with wv := g.rc, wc := (g.wc + wrN g l) % 65536, wh := false, wn := 0, m := putsM g l (wrN g l) }
def writeR (g : Rg) (l : List (List Int)) : Rg := if writeK g l = 0 then g.wrote l else g
def writeU (g : Rg) (l : List (List Int)) : Int := if writeK g l = 0 then wrN g l else 0
theorem wrG_next (g : Rg) (l : List (List Int)) (n j : Nat) : (wrG g l n j).put (((wrG g l n j).wc + j) % 65536) (l.getD j []) = wrG g l n (j + 1) := rfl
theorem putsM_get {g : Rg} {l : List (List Int)} (P : List Int → Prop) (h0 : ∀ p, P (g.m.getD p [])) (h1 : ∀ j, P (l.getD j [])) (hn : P []) : ∀ j p, P ((putsM g l j).getD p [])
  | 0, p => h0 p
  | j + 1, p => by
    show P (((putsM g l j).set (plp g ((g.wc + j) % 65536)) (l.getD j [])).getD p [])
    rw [List.getD_eq_getElem?_getD, List.getElem?_set]
    by_cases e : plp g ((g.wc + j) % 65536) = p
    · rw [if_pos e]
      by_cases e2 : p < (putsM g l j).length
      · rw [if_pos (by rw [e]; exact e2)]; exact h1 j
      · rw [if_neg (by rw [e]; exact e2)]; exact hn
    · rw [if_neg e, ← List.getD_eq_getElem?_getD]; exact putsM_get P h0 h1 hn j p
theorem frms_vals {ch : Int} {l : List (List Int)} (h : frms ch l = true) (j i : Nat) : smB ((l.getD j []).getD i 0) = true := by
  by_cases hj : j < l.length
  · have h1 := all_at' (d := []) h hj
    unfold frm at h1
    rw [Bool.and_eq_true] at h1
    by_cases hi : i < (l.getD j []).length
    · exact all_at' (d := 0) h1.2 hi
    · have : (l.getD j []).getD i 0 = 0 := by simp [List.getD] at hi ⊢; rw [List.getElem?_eq_none (by omega)]; rfl
      rw [this]; decide
  · have : l.getD j [] = [] := by simp [List.getD]; rw [List.getElem?_eq_none (by omega)]; rfl
    rw [this]; simp [smB]
theorem sm_I64 {n : Int} (h : smB n = true) : I64 n := by obtain ⟨a, b⟩ := smB_t h; unfold I64; omega
theorem wrG_ok {g : Rg} {l : List (List Int)} (h : g.Ok) (hf : frms g.ch l = true) (n j : Nat) : (wrG g l n j).Ok :=
  ⟨h.s1, h.s2, h.c1, h.c2, h.wc, h.rc, fun p i => putsM_get (fun r => ∀ i, I64 (r.getD i 0)) (fun p i => h.vals p i) (fun j i => sm_I64 (frms_vals hf j i)) (fun i => by simp; unfold I64; omega) j p i⟩
set_option maxHeartbeats 4000000 in
set_option maxRecDepth 100000 in
theorem write50_yes (P R Bv Bf : Nat) (g : Rg) (l : List (List Int)) (v : Value) (w : World) (h : RingAt P R g w) (hok : g.Ok) (hM : MatOff P R w l v) (hf : frms g.ch l = true) (hh : g.wh = false) (hroom : 0 ≤ g.room')
    (k0 : w.cell? ⟨Bv, 0, none⟩ = some (.pointer (some ⟨P, 0, none⟩))) (k1 : w.cell? ⟨Bf, 0, none⟩ = some v) (n0 : Bv ≠ P) (n1 : Bv ≠ R) (n2 : Bf ≠ P) (n3 : Bf ≠ R) :
    Calls Try.prog 50 #[at0 Bv, at0 Bf] w (Clos P R (g.wrote l) (.int .i64 (wrN g l)) 0 w) := by
  have HM1 := Lib.hid (must_yes 1)
  have HM9 := Lib.hid (must_yes 9)
  have HM := Lib.hid hM
  have hlen : l.length ≤ 17592186044416 := by obtain ⟨_, _, _, _, h2, _⟩ := hM w (Gw.refl _ _ _); exact h2
  have H51 : Hid (∀ x, Gw P R w x → Calls Try.prog 51 #[.int .i64 g.ch, v] x fun e w' => e = .returned (.tuple #[]) ∧ x = w') := Lib.hid fun x hx => (frames_any g.ch l v x (hM x hx)).mono (by
    rintro e w' ⟨⟨_, rfl⟩ | ⟨h1, _⟩, rfl⟩
    · exact ⟨rfl, rfl⟩
    · rw [hf] at h1; cases h1)
  obtain ⟨av, cv, rfl, _, _, hcv⟩ := hM w (Gw.refl _ _ _)
  have HX : Hid (∀ x, Gw P R w x → x.cell? ⟨Bv, 0, none⟩ = some (.pointer (some ⟨P, 0, none⟩)) ∧ x.cell? ⟨Bf, 0, none⟩ = some (.slice av l.length cv)) := Lib.hid fun x hx => ⟨hx.cell k0 n0 n1, hx.cell k1 n2 n3⟩
  have HR := Lib.hid h
  have HOK := Lib.hid hok
  have HF := Lib.hid hf
  have HH := Lib.hid hh
  have HL := Lib.hid hlen
  obtain ⟨n, hn⟩ : ∃ n, wrN g l = n := ⟨_, rfl⟩
  have hmin : min (l.length : Int) g.room' = (n : Int) := by rw [← hn]; unfold wrN; omega
  have hnl : n ≤ l.length := by rw [← hn]; exact Nat.min_le_left _ _
  have HMIN := Lib.hid hmin
  have HFIN : Hid (∀ x, RingAt P R ((wrG g l n n).commitd n) x → RingAt P R (g.wrote l) x) := Lib.hid fun x hx => by
    have e : (wrG g l n n).commitd n = g.wrote l := by unfold Rg.wrote Rg.commitd wrG; rw [hn]
    rwa [e] at hx
  have hsl := fun w => slice_pre (a := av) (L := l.length) (cap := cv) (n := n) (by omega) w
  have HNL := Lib.hid hnl
  have hP := h.c (k := 1) (by decide) (by decide)
  have c1 : w.cell? ⟨P, 1, none⟩ = some (.int .i64 g.ch) := hP
  rw [hn]
  have hnb : n ≤ 17592186044416 := by omega
  clear hM h hok hf hh hlen hroom hmin hnl hP hn
  go_enter Try.func50, Try.ntmps50
  go_upto_region 2 with (go_at_call 38; (with_reducible refine (HM1.out _).mono ?_); rintro e w1 ⟨rfl, rfl⟩)
  go_still_tail 5, (by kernel_rfl)
  change wpList _ _ _ _ _ (w.drewN 1)
  have HG1 := Lib.hid ((Gw.refl P R w).drewN 1)
  have HR1 := Lib.hid (HR.out.below (below_drewN (Below.refl _ w) 1))
  have h51 := H51.out _ HG1.out
  obtain ⟨m0, m1⟩ := HX.out _ HG1.out
  have c5 : (w.drewN 1).cell? ⟨P, 5, none⟩ = some (.bool false) := by rw [HR1.out.c (k := 5) (by decide) (by decide), ← HH.out]; rfl
  clear k0 k1 c1
  generalize w.drewN 1 = W1 at *
  go_upto_region 4 with (first | (go_at_call 51; (with_reducible refine h51.mono ?_); rintro e w1 ⟨rfl, rfl⟩) | (go_at_call 38; (with_reducible refine (HM9.out _).mono ?_); rintro e w1 ⟨rfl, rfl⟩))
  clear h51 c5
  refine region_T (S := fun wx => wx.cell? ⟨Bv, 0, none⟩ = some (.pointer (some ⟨P, 0, none⟩)) ∧ wx.cell? ⟨Bf, 0, none⟩ = some (.slice av l.length cv)) [8, 9] (by kernel_rfl) (HX.out _ (HG1.out.drewN 1)) (fun _ => ?_)
  have HG2 : Hid (Gw P R w W1.drew) := Lib.hid (HG1.out.drewN 1)
  have HR2 : Hid (RingAt P R g W1.drew) := Lib.hid (HR1.out.below (below_drewN (Below.refl _ W1) 1))
  have hS0 := HX.out _ HG2.out
  clear m0 m1
  generalize W1.drew = W at *
  refine anyT_take (i := 0) (v := ?_) rfl (by kernel_rfl) (by kernel_rfl) (by kernel_rfl) (by kernel_rfl) (fun _ _ _ h => h) (Or.inl ⟨by rfl, ?_⟩) (by assumption) ?_
  rotate_left
  focus ((intro wq hSw; (try dsimp only at hSw); go_simp); try with_reducible rfl)
  try simp only [Act.put, List.getElem_toArray, List.getElem_cons_succ, List.getElem_cons_zero, List.setIfInBounds_toArray, List.set_cons_zero, List.set_cons_succ]
  refine anyT_take (i := 1) (v := ?_) rfl (by kernel_rfl) (by kernel_rfl) (by kernel_rfl) (by kernel_rfl) (fun _ _ _ h => h) (Or.inl ⟨by rfl, ?_⟩) (by assumption) ?_
  rotate_left
  focus ((intro wq hSw; (try dsimp only at hSw); go_simp); try with_reducible rfl)
  try simp only [Act.put, List.getElem_toArray, List.getElem_cons_succ, List.getElem_cons_zero, List.setIfInBounds_toArray, List.set_cons_zero, List.set_cons_succ]
  refine anyT_take (i := 2) (v := ?_) rfl (by kernel_rfl) (by kernel_rfl) (by kernel_rfl) (by kernel_rfl) (fun _ _ _ h => h) (Or.inl ⟨by rfl, ?_⟩) (by assumption) ?_
  rotate_left
  focus ((intro wq hSw; (try dsimp only at hSw); go_simp); try with_reducible rfl)
  try simp only [Act.put, List.getElem_toArray, List.getElem_cons_succ, List.getElem_cons_zero, List.setIfInBounds_toArray, List.set_cons_zero, List.set_cons_succ]
  refine anyT_take (i := 3) (v := ?_) rfl (by kernel_rfl) (by kernel_rfl) (by kernel_rfl) (by kernel_rfl) (fun _ _ _ h => h) (Or.inl ⟨by rfl, ?_⟩) (by assumption) ?_
  rotate_left
  focus ((intro wq hSw; (try dsimp only at hSw); go_simp); try with_reducible rfl)
  try simp only [Act.put, List.getElem_toArray, List.getElem_cons_succ, List.getElem_cons_zero, List.setIfInBounds_toArray, List.set_cons_zero, List.set_cons_succ]
  refine anyT_take (i := 4) (v := ?_) rfl (by kernel_rfl) (by kernel_rfl) (by kernel_rfl) (by kernel_rfl) (fun _ _ _ h => h) (Or.inl ⟨by rfl, ?_⟩) (by assumption) ?_
  rotate_left
  focus ((intro wq hSw; (try dsimp only at hSw); go_simp); try with_reducible rfl)
  try simp only [Act.put, List.getElem_toArray, List.getElem_cons_succ, List.getElem_cons_zero, List.setIfInBounds_toArray, List.set_cons_zero, List.set_cons_succ]
  refine anyT_take (i := 5) (v := ?_) rfl (by kernel_rfl) (by kernel_rfl) (by kernel_rfl) (by kernel_rfl) (fun _ _ _ h => h) (Or.inl ⟨by rfl, ?_⟩) (by assumption) ?_
  rotate_left
  focus ((intro wq hSw; (try dsimp only at hSw); go_simp); try with_reducible rfl)
  try simp only [Act.put, List.getElem_toArray, List.getElem_cons_succ, List.getElem_cons_zero, List.setIfInBounds_toArray, List.set_cons_zero, List.set_cons_succ]
  refine anyT_take (i := 6) (v := ?_) rfl (by kernel_rfl) (by kernel_rfl) (by kernel_rfl) (by kernel_rfl) (fun _ _ _ h => h) (Or.inl ⟨by rfl, ?_⟩) (by assumption) ?_
  rotate_left
  focus ((intro wq hSw; (try dsimp only at hSw); go_simp); try with_reducible rfl)
  try simp only [Act.put, List.getElem_toArray, List.getElem_cons_succ, List.getElem_cons_zero, List.setIfInBounds_toArray, List.set_cons_zero, List.set_cons_succ]
  refine anyT_one (i := 7) (by kernel_rfl) rfl (fun K hK => ?_)
  go_simp
  refine (see_any P R g W HR2.out HOK.out.s2).mono ?_
  rintro e wk ⟨rfl, hr3, hg3⟩
  go_simp
  have HR3 := Lib.hid hr3
  have HG3 := Lib.hid (HG2.out.trans hg3)
  clear hr3 hg3
  refine hK.out _ _ (fun _ => HX.out _ HG3.out) ?_
  clear hK K
  try simp only [Act.put, List.getElem_toArray, List.getElem_cons_succ, List.getElem_cons_zero, List.setIfInBounds_toArray, List.set_cons_zero, List.set_cons_succ]
  refine anyT_one (i := 8) (by kernel_rfl) rfl (fun K hK => ?_)
  go_simp
  refine (begin_yes P 3 l.length g.room' g.wn wk (by omega) (by rw [HR3.out.c (k := 5) (by decide) (by decide), show g.seen.val 0 0 5 = .bool g.wh from rfl, HH.out]) (HR3.out.c (k := 6) (by decide) (by decide)) HR3.out.frozen).mono ?_
  rintro e wj ⟨rfl, hwj⟩
  have HR4 : Hid (RingAt P R (wrG g l n 0) wj ∧ Gw P R w wj) := Lib.hid (by
    have h1 := HR3.out.claim (l.length : Int)
    have h2 := HMIN.out
    rw [show (g.seen.claim (l.length : Int)) = wrG g l n 0 by unfold Rg.claim wrG; rw [show g.seen.room = g.room' from rfl, HMIN.out]; rfl, show g.seen.room = g.room' from rfl] at h1
    rw [hwj]
    exact ⟨h1, (HG3.out.setP _ _).setP _ _⟩)
  clear hwj
  rw [HMIN.out]
  go_simp
  refine hK.out _ _ (fun h => by cases h) ?_
  clear hK K
  try simp only [Act.put, List.getElem_toArray, List.getElem_cons_succ, List.getElem_cons_zero, List.setIfInBounds_toArray, List.set_cons_zero, List.set_cons_succ]
  refine anyT_one (i := 9) (by kernel_rfl) rfl (fun K hK => ?_)
  go_simp
  refine hK.out _ _ (fun h => by cases h) ?_
  clear hK K
  refine anyT_done (by kernel_rfl) ?_ _
  obtain ⟨m0, m1⟩ := HX.out _ HR4.out.2
  clear hS0
  go_upto_region 6 with fail
  go_loopw [36] (fun i wr => ∃ j : Nat, i = .int .i64 j ∧ j ≤ n ∧ RingAt P R (wrG g l n j) wr ∧ Gw P R w wr) (fun i _ => n - (intOf i).toNat)
  case atStart => exact ⟨0, rfl, Nat.zero_le _, HR4.out.1, HR4.out.2⟩
  case round =>
    clear m0 m1
    obtain ⟨j, rfl, hj, hr, hg⟩ := hrel
    obtain ⟨m0, m1⟩ := HX.out _ hg
    have HRJ := Lib.hid hr
    have HGJ := Lib.hid hg
    clear hr hg
    by_cases hlt : j < n
    · have w4 : (j : Int) < (n : Int) := by omega
      obtain ⟨a2, ca2, e2, hin2, _, _⟩ := HM.out wr HGJ.out
      simp only [Value.slice.injEq, true_and] at e2
      obtain ⟨rfl, rfl⟩ := e2
      obtain ⟨bb, ob, u, rfl, hcj, hu⟩ := hin2 j (by have := HNL.out; omega)
      have hfl : (l.getD j []).length = g.ch := frm_len (all_at' (d := []) HF.out (by have := HNL.out; omega))
      have h53 := put_yes P R (wrG g l n j) j (l.getD j []) u wr HRJ.out (wrG_ok HOK.out HF.out n j) (by show atK (j : Int) true (n : Int) = 0; simp [atK]; omega) hfl hu
      rw [wrG_next] at h53
      obtain ⟨av2, cv2, rfl, _, _, _⟩ := hu
      generalize (l.getD j []).length = fl at *
      clear hin2 hfl
      go_wp2_with (go_at_call 53; (with_reducible refine h53.mono ?_); rintro e w2 ⟨rfl, hr2, hg2⟩; have HN := Lib.hid (And.intro hr2 (HGJ.out.trans hg2)); clear hr2 hg2)
      go_roundw
      case rel => exact ⟨j + 1, by go_num, by omega, HN.out.1, HN.out.2⟩
      case measure => simp [intOf]; omega
    · have w4 : ¬ (j : Int) < (n : Int) := by omega
      obtain rfl : j = n := by omega
      have h49 := end_yes P 3 j j g.wc true wr (by simp [endK]) (HRJ.out.c (k := 3) (by decide) (by decide)) (HRJ.out.c (k := 5) (by decide) (by decide)) (HRJ.out.c (k := 6) (by decide) (by decide)) HRJ.out.frozen
      go_wp2_with (go_at_call 49; (with_reducible refine h49.mono ?_); rintro e w2 ⟨rfl, hw2⟩; have HN : Hid (RingAt P R (g.wrote l) w2 ∧ Gw P R w w2) := Lib.hid (by rw [hw2]; exact ⟨HFIN.out _ (HRJ.out.commitd j), ((HGJ.out.setP _ _).setP _ _).setP _ _⟩); clear hw2)
      go_ret
      exact ⟨rfl, HN.out.1, HN.out.2⟩
end Go.Proofs.Ytgcohmlapgnbdaa
