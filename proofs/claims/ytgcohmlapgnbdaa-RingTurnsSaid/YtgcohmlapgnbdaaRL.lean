/- Put; Counters, Claimed, filled. -/
import Derived.Test.YtgcohmlapgnbdaaRK
namespace Go.Proofs.Ytgcohmlapgnbdaa
open Go.RowKit Go.Shelf Go.Deep

def putK (g : Rg) (i : Int) (f : List Int) : Int := if frm g.ch f = false then 1 else atK i g.wh g.wn
def putR (g : Rg) (i : Int) (f : List Int) : Rg := if putK g i f = 0 then g.put ((g.wc + i) % 65536) f else g
theorem mat_one {w : World} {f : List Int} {v : Value} (h : RowIn w f v) : MatIn (w.alloc (.cells #[v] 39)) [f] (.slice (some ⟨w.heap.size, 0, none⟩) 1 1) := by
  refine ⟨some ⟨w.heap.size, 0, none⟩, 1, rfl, fun i hi => ?_, by simp, by simp⟩
  simp at hi; subst hi
  exact ⟨w.heap.size, 0, v, rfl, by obtain ⟨a, ca, rfl, _⟩ := h; simp [go_sem], h.mono (Same.alloc _ _)⟩
theorem frms_one (ch : Int) (f : List Int) : frms ch [f] = frm ch f := by simp [frms]
theorem frm_len {ch : Nat} {f : List Int} (h : frm ch f = true) : f.length = ch := by
  simp [frm] at h
  omega
set_option maxHeartbeats 2000000 in
set_option maxRecDepth 100000 in
theorem put85_any (P R Bv Bf Bn : Nat) (g : Rg) (n : Int) (f : List Int) (v : Value) (w : World) (h : RingAt P R g w) (hok : g.Ok) (hv : RowIn w f v) (k0 : w.cell? ⟨Bv, 0, none⟩ = some (.pointer (some ⟨P, 0, none⟩))) (k1 : w.cell? ⟨Bn, 0, none⟩ = some (.int .i64 n)) (k2 : w.cell? ⟨Bf, 0, none⟩ = some v) :
    Calls Try.prog 85 #[at0 Bv, at0 Bf, at0 Bn] w (Clos P R (putR g n f) (.tuple #[]) (putK g n f) w) := by
  have hm1 := must_yes 1 w
  have HX : Hid (∀ x, Below w.heap.size w x → (x.cell? ⟨Bv, 0, none⟩ = some (.pointer (some ⟨P, 0, none⟩)) ∧ x.cell? ⟨Bn, 0, none⟩ = some (.int .i64 n)) ∧ x.cell? ⟨Bf, 0, none⟩ = some v ∧ x.cell? ⟨P, 1, none⟩ = some (.int .i64 g.ch)) := Lib.hid fun x hx => ⟨⟨(Same.of_below hx).cell k0, (Same.of_below hx).cell k1⟩, (Same.of_below hx).cell k2, (h.below hx).c (k := 1) (by decide) (by decide)⟩
  have HR := Lib.hid h
  have HV : Hid (∀ x, Below w.heap.size w x → RowIn x f v) := Lib.hid fun x hx => hv.mono (Same.of_below hx)
  have H51 : Hid (∀ x, Below w.heap.size w x → Calls Try.prog 51 #[.int .i64 g.ch, .slice (some ⟨x.heap.size, 0, none⟩) 1 1] (x.alloc (.cells #[v] 39)) fun e w' => ((frm g.ch f = true ∧ e = .returned (.tuple #[])) ∨ (frm g.ch f = false ∧ e = .panicked (misfit 1))) ∧ x.alloc (.cells #[v] 39) = w') := Lib.hid fun x hx => by
    have := frames_any g.ch [f] _ _ (mat_one (hv.mono (Same.of_below hx)))
    unfold FramesEnd at this
    rwa [frms_one] at this
  have h53 : Hid (∀ x, Below w.heap.size w x → frm g.ch f = true → Calls Try.prog 53 #[.pointer (some ⟨P, 0, none⟩), .int .i64 n, v] x (Clos P R (putR g n f) (.tuple #[]) (putK g n f) x)) := Lib.hid fun x hx hf => by
    have hk1 : putK g n f = atK n g.wh g.wn := by unfold putK; rw [if_neg (by rw [hf]; decide)]
    by_cases hk : atK n g.wh g.wn = 0
    · rw [show putR g n f = g.put ((g.wc + n) % 65536) f by unfold putR; rw [if_pos (by rw [hk1]; exact hk)], hk1, hk]
      exact put_yes P R g n f v x (h.below hx) hok hk (frm_len hf) (hv.mono (Same.of_below hx))
    · rw [show putR g n f = g by unfold putR; rw [if_neg (by rw [hk1]; exact hk)], hk1]
      refine (put_no P R g n v x (h.below hx) hk).mono ?_
      rintro e w' ⟨rfl, hb⟩
      exact ⟨(endOf_no _ hk).symm, (h.below hx).below hb, gw_below hb⟩
  have HK1 : Hid (frm g.ch f = false → putK g n f = 1 ∧ putR g n f = g) := Lib.hid fun hf => by
    have : putK g n f = 1 := by unfold putK; rw [if_pos hf]
    exact ⟨this, by unfold putR; rw [this]; rfl⟩
  obtain ⟨av, cv, rfl, _, _, _⟩ := hv
  clear h hok
  go_enter Try.func85, Try.ntmps85
  go_upto_region 1 with (go_at_call 38; (with_reducible refine hm1.mono ?_); rintro e w1 ⟨rfl, rfl⟩)
  refine region_T (S := fun wx => (wx.cell? ⟨Bv, 0, none⟩ = some (.pointer (some ⟨P, 0, none⟩)) ∧ wx.cell? ⟨Bn, 0, none⟩ = some (.int .i64 n)) ∧ wx.cell? ⟨Bf, 0, none⟩ = some (Value.slice av f.length cv) ∧ wx.cell? ⟨P, 1, none⟩ = some (.int .i64 g.ch)) [6] (by kernel_rfl) (HX.out _ (below_drew (Below.refl _ w))) (fun _ => ?_)
  have hS0 := HX.out _ (below_drew (Below.refl _ w))
  obtain ⟨W, hW⟩ : ∃ W, w.drew = W := ⟨_, rfl⟩
  have hB : Below w.heap.size w W := by rw [← hW]; exact below_drew (Below.refl _ w)
  rw [hW] at hS0 ⊢
  clear hW
  refine anyT_take (i := 0) (v := ?_) rfl (by kernel_rfl) (by kernel_rfl) (by kernel_rfl) (by kernel_rfl) (fun _ _ _ h => h) (Or.inl ⟨by rfl, ?_⟩) (by assumption) ?_
  rotate_left
  focus ((intro wq hSw; (try dsimp only at hSw); go_simp); try with_reducible rfl)
  try simp only [Act.put, List.getElem_toArray, List.getElem_cons_succ, List.getElem_cons_zero, List.setIfInBounds_toArray, List.set_cons_zero, List.set_cons_succ]
  refine anyT_take (i := 1) (v := ?_) rfl (by kernel_rfl) (by kernel_rfl) (by kernel_rfl) (by kernel_rfl) (fun _ _ _ h => h) (Or.inl ⟨by rfl, ?_⟩) (by assumption) ?_
  rotate_left
  focus ((intro wq hSw; (try dsimp only at hSw); go_simp); try with_reducible rfl)
  try simp only [Act.put, List.getElem_toArray, List.getElem_cons_succ, List.getElem_cons_zero, List.setIfInBounds_toArray, List.set_cons_zero, List.set_cons_succ]
  refine anyT_take (i := 2) (v := ?_) rfl (by kernel_rfl) (by kernel_rfl) (by kernel_rfl) (by kernel_rfl) (fun _ _ _ h => h) (Or.inl ⟨by rfl, ?_⟩) (by assumption) ?_
  rotate_left
  focus ((intro wq hSw; (try dsimp only at hSw); go_simp); try with_reducible rfl)
  try simp only [Act.put, List.getElem_toArray, List.getElem_cons_succ, List.getElem_cons_zero, List.setIfInBounds_toArray, List.set_cons_zero, List.set_cons_succ]
  refine anyT_take (i := 3) (v := ?_) rfl (by kernel_rfl) (by kernel_rfl) (by kernel_rfl) (by kernel_rfl) (fun _ _ _ h => h) (Or.inl ⟨by rfl, ?_⟩) (by assumption) ?_
  rotate_left
  focus ((intro wq hSw; (try dsimp only at hSw); go_simp); try with_reducible rfl)
  try simp only [Act.put, List.getElem_toArray, List.getElem_cons_succ, List.getElem_cons_zero, List.setIfInBounds_toArray, List.set_cons_zero, List.set_cons_succ]
  refine anyT_take (i := 4) (v := ?_) rfl (by kernel_rfl) (by kernel_rfl) (by kernel_rfl) (by kernel_rfl) (fun _ _ _ h => h) (Or.inl ⟨by rfl, ?_⟩) (by assumption) ?_
  rotate_left
  focus ((intro wq hSw; (try dsimp only at hSw); go_simp); try with_reducible rfl)
  try simp only [Act.put, List.getElem_toArray, List.getElem_cons_succ, List.getElem_cons_zero, List.setIfInBounds_toArray, List.set_cons_zero, List.set_cons_succ]
  refine anyT_one (i := 5) (by kernel_rfl) rfl (fun K hK => ?_)
  go_simp
  refine hK.out _ _ (fun _ => HX.out _ (hB.alloc hB.size _)) ?_
  clear hK K
  try simp only [Act.put, List.getElem_toArray, List.getElem_cons_succ, List.getElem_cons_zero, List.setIfInBounds_toArray, List.set_cons_zero, List.set_cons_succ]
  refine anyT_one (i := 6) (by kernel_rfl) rfl (fun K hK => ?_)
  go_simp
  refine (H51.out _ hB).mono ?_
  rintro e wk ⟨⟨hf, rfl⟩ | ⟨hf, rfl⟩, rfl⟩
  · go_simp
    have hB1 := hB.alloc hB.size (.cells #[Value.slice av f.length cv] 39)
    have HB1 := Lib.hid hB1
    have h53' := h53.out _ hB1 hf
    obtain ⟨⟨m0, m1⟩, m2, _⟩ := HX.out _ hB1
    refine hK.out _ _ (fun h => by cases h) ?_
    clear hK K hB1 hS0
    try simp only [Act.put, List.getElem_toArray, List.getElem_cons_succ, List.getElem_cons_zero, List.setIfInBounds_toArray, List.set_cons_zero, List.set_cons_succ]
    refine anyT_done (by kernel_rfl) ?_ _
    generalize W.alloc (.cells #[Value.slice av f.length cv] 39) = W1 at *
    generalize putR g n f = g2 at *
    by_cases hk : putK g n f = 0
    · rw [hk] at h53'
      have HK0 := Lib.hid hk
      clear hk hf
      go_wp2_with (go_at_call 53; (with_reducible refine h53'.mono ?_); rintro e w2 ⟨rfl, h1, h2⟩; have HF := Lib.hid (And.intro h1 ((gw_below HB1.out).trans h2)); clear h1 h2; rw [endOf_yes])
      go_end0
      exact ⟨by rw [HK0.out]; rfl, HF.out.1, HF.out.2⟩
    · have HK := Lib.hid hk
      generalize putK g n f = k at *
      clear hk hf
      go_wp2_with (go_at_call 53; (with_reducible refine h53'.mono ?_); rintro e w2 ⟨rfl, h1, h2⟩; have HF := Lib.hid (And.intro h1 ((gw_below HB1.out).trans h2)); clear h1 h2; rw [endOf_no _ HK.out])
      exact ⟨rfl, (endOf_no _ HK.out).symm, HF.out.1, HF.out.2⟩
  · go_simp
    obtain ⟨e1, e2⟩ := HK1.out hf
    rw [e1, e2]
    have hB1 := hB.alloc hB.size (.cells #[Value.slice av f.length cv] 39)
    exact ⟨rfl, rfl, HR.out.below hB1, gw_below hB1⟩
set_option maxRecDepth 100000 in
theorem putM_any (P R : Nat) (g : Rg) (n : Int) (f : List Int) (v : Value) (w : World) (h : RingAt P R g w) (hok : g.Ok) (hv : RowIn w f v) : Calls Try.prog 30 #[.pointer (some ⟨P, 0, none⟩), .int .i64 n, v] w (MethE P R (putR g n f) (putK g n f) w) := by
  have hmf := makes
  obtain ⟨hP, hR⟩ := h.lt
  obtain ⟨X, hX⟩ : ∃ X, Obj.cells #[.pointer (some ⟨P, 0, none⟩)] 25 = X := ⟨_, rfl⟩
  obtain ⟨Y, hY⟩ : ∃ Y, Obj.cells #[.int .i64 n] 3 = Y := ⟨_, rfl⟩
  obtain ⟨U, hU⟩ : ∃ U, Obj.cells #[v] 39 = U := ⟨_, rfl⟩
  have hbel : Below w.heap.size w (((w.alloc X).alloc Y).alloc U) := ((((Below.refl _ w).alloc (Nat.le_refl _) _).alloc (by simp) _).alloc (by simp <;> omega) _)
  have hv1 : v.oneCell' = true := by obtain ⟨a, ca, rfl, _⟩ := hv; rfl
  have c0 : (((w.alloc X).alloc Y).alloc U).cell? ⟨w.heap.size, 0, none⟩ = some (.pointer (some ⟨P, 0, none⟩)) := by
    refine ((Same.alloc _ U).cell ((Same.alloc _ Y).cell ?_)); rw [← hX]; simp [go_sem]
  have c1 : (((w.alloc X).alloc Y).alloc U).cell? ⟨w.heap.size + 1, 0, none⟩ = some (.int .i64 n) := by
    refine ((Same.alloc _ U).cell ?_); rw [← hY]; simp [go_sem]
  have c2 : (((w.alloc X).alloc Y).alloc U).cell? ⟨w.heap.size + 1 + 1, 0, none⟩ = some v := by rw [← hU]; simp [go_sem]
  obtain ⟨Z, hZ⟩ : ∃ Z, ((w.alloc X).alloc Y).alloc U = Z := ⟨_, rfl⟩
  rw [hZ] at hbel c0 c1 c2
  have hf := done_ring (P := P) (R := R) (g := putR g n f) (k := putK g n f) 85 #[at0 w.heap.size, at0 (w.heap.size + 1 + 1), at0 (w.heap.size + 1)] Z (Nat.lt_of_lt_of_le hP hbel.size) (Nat.lt_of_lt_of_le hR hbel.size) (enters_of Try.func85 (by kernel_rfl) rfl _)
    (fun x hx => put85_any P R _ _ _ g n f v x ((h.below hbel).below hx) hok ((hv.mono (Same.of_below hbel)).mono (Same.of_below hx)) ((Same.of_below hx).cell c0) ((Same.of_below hx).cell c1) ((Same.of_below hx).cell c2))
  have HB := Lib.hid (gw_below (P := P) (R := R) hbel)
  obtain ⟨av, cv, rfl, _, _, _⟩ := hv
  generalize putR g n f = g2 at *
  generalize putK g n f = k at *
  clear hbel c0 c1 c2 h hok
  subst hZ
  subst hX
  subst hY
  subst hU
  go_enter Try.func30, Try.ntmps30
  go_wp2_with (go_at_call 57; (with_reducible refine hf.mono ?_); rintro e w1 ⟨rfl, h1, h2⟩; have HH := Lib.hid (And.intro h1 (HB.out.trans h2)); clear h1 h2)
  go_ret
  exact ⟨rfl, HH.out.1, HH.out.2⟩
end Go.Proofs.Ytgcohmlapgnbdaa
