/- Take. -/
import Derived.Test.YtgcohmlapgnbdaaRI
namespace Go.Proofs.Ytgcohmlapgnbdaa
open Go.RowKit Go.Shelf Go.Deep

def Rg.take (g : Rg) (n : Int) : Rg := { g with rh := true, rn := min n g.filled }
def takeK (g : Rg) (n : Int) : Int := if n < 0 then 7 else if g.rh = true then 9 else 0
def takeR (g : Rg) (n : Int) : Rg := if takeK g n = 0 then g.take n else g
def takeU (g : Rg) (n : Int) : Int := if takeK g n = 0 then min n g.filled else 0
theorem RingAt.take {P R : Nat} {g : Rg} {w : World} (h : RingAt P R g w) (n : Int) : RingAt P R (g.take n) ((w.setCell ⟨P, 7 + 2, none⟩ (.bool true)).setCell ⟨P, 7 + 3, none⟩ (.int .i64 (min n g.filled))) := by
  have h1 := h.put { g with rh := true } (7 + 2) (.bool true) rfl rfl rfl rfl (by decide) fun j hj hne => by
    match j with
    | 0 => first | rfl | exact absurd rfl hne
    | 1 => first | rfl | exact absurd rfl hne
    | 2 => first | rfl | exact absurd rfl hne
    | 3 => first | rfl | exact absurd rfl hne
    | 4 => first | rfl | exact absurd rfl hne
    | 5 => first | rfl | exact absurd rfl hne
    | 6 => first | rfl | exact absurd rfl hne
    | 7 => first | rfl | exact absurd rfl hne
    | 8 => first | rfl | exact absurd rfl hne
    | 9 => first | rfl | exact absurd rfl hne
    | 10 => first | rfl | exact absurd rfl hne
    | j + 11 => omega
  exact h1.put (g.take n) (7 + 3) _ rfl rfl rfl rfl (by decide) fun j hj hne => by
    match j with
    | 0 => first | rfl | exact absurd rfl hne
    | 1 => first | rfl | exact absurd rfl hne
    | 2 => first | rfl | exact absurd rfl hne
    | 3 => first | rfl | exact absurd rfl hne
    | 4 => first | rfl | exact absurd rfl hne
    | 5 => first | rfl | exact absurd rfl hne
    | 6 => first | rfl | exact absurd rfl hne
    | 7 => first | rfl | exact absurd rfl hne
    | 8 => first | rfl | exact absurd rfl hne
    | 9 => first | rfl | exact absurd rfl hne
    | 10 => first | rfl | exact absurd rfl hne
    | j + 11 => omega
set_option maxHeartbeats 2000000 in
set_option maxRecDepth 100000 in
theorem take88_any (P R Bv Bn : Nat) (g : Rg) (n : Int) (w : World) (h : RingAt P R g w) (hs : g.sz ≤ 1024) (k0 : w.cell? ⟨Bv, 0, none⟩ = some (.pointer (some ⟨P, 0, none⟩))) (k1 : w.cell? ⟨Bn, 0, none⟩ = some (.int .i64 n)) :
    Calls Try.prog 88 #[at0 Bv, at0 Bn] w (Clos P R (takeR g n) (.int .i64 (takeU g n)) (takeK g n) w) := by
  have hm1 := must_yes 1 w
  have HX : Hid (∀ x, Below w.heap.size w x → x.cell? ⟨Bv, 0, none⟩ = some (.pointer (some ⟨P, 0, none⟩)) ∧ x.cell? ⟨Bn, 0, none⟩ = some (.int .i64 n)) := Lib.hid fun x hx => ⟨(Same.of_below hx).cell k0, (Same.of_below hx).cell k1⟩
  have HR := Lib.hid h
  have HC : Hid (∀ x, Below w.heap.size w x → Calls Try.prog 89 #[.pointer (some ⟨P, 7, none⟩)] x fun e w' => e = .returned (.int .i64 g.filled) ∧ ∃ m, w' = x.drewN m) := Lib.hid fun x hx => filled89_any P 7 g.rc g.rv x ((h.below hx).c (k := 7) (by decide) (by decide)) ((h.below hx).c (k := 7 + 1) (by decide) (by decide))
  have HF : Hid (∀ x, Below w.heap.size w x → x.cell? ⟨P, 7 + 2, none⟩ = some (.bool g.rh) ∧ x.cell? ⟨P, 7 + 3, none⟩ = some (.int .i64 g.rn)) := Lib.hid fun x hx => ⟨(h.below hx).c (k := 7 + 2) (by decide) (by decide), (h.below hx).c (k := 7 + 3) (by decide) (by decide)⟩
  obtain ⟨T, hT⟩ : ∃ T, g.filled = T := ⟨_, rfl⟩
  rw [hT] at HC
  have HT := Lib.hid hT
  clear h hT
  by_cases hn : n < 0
  · rw [show takeR g n = g by simp [takeR, takeK, hn], show takeK g n = 7 by simp [takeK, hn]]
    generalize takeU g n = u
    go_enter Try.func88, Try.ntmps88
    go_upto_region 2 with (go_at_call 38; (with_reducible refine hm1.mono ?_); rintro e w1 ⟨rfl, rfl⟩)
    refine region_T (S := fun wx => wx.cell? ⟨Bv, 0, none⟩ = some (.pointer (some ⟨P, 0, none⟩)) ∧ wx.cell? ⟨Bn, 0, none⟩ = some (.int .i64 n)) [9, 10] (by kernel_rfl) ⟨k0, k1⟩ (fun _ => ?_)
    have hS0 := HX.out _ (below_drew (Below.refl _ w))
    obtain ⟨W, hW⟩ : ∃ W, w.drew = W := ⟨_, rfl⟩
    have hB : Below w.heap.size w W := by rw [← hW]; exact below_drew (Below.refl _ w)
    rw [hW] at hS0 ⊢
    clear hW
    refine anyT_take (i := 0) (v := ?_) rfl (by kernel_rfl) (by kernel_rfl) (by kernel_rfl) (by kernel_rfl) (fun _ _ _ h => h) (Or.inl ⟨by rfl, ?_⟩) (by assumption) ?_
    rotate_left
    focus ((intro wq hSw; (try dsimp only at hSw); go_simp); try with_reducible rfl)
    try simp only [Act.put, List.getElem_toArray, List.getElem_cons_succ, List.getElem_cons_zero, List.setIfInBounds_toArray, List.set_cons_zero, List.set_cons_succ]
    refine anyT_take (i := 1) (v := ?_) rfl (by kernel_rfl) (by kernel_rfl) (by kernel_rfl) (by kernel_rfl) (fun _ _ _ h => h) (Or.inl ⟨by rfl, ?_⟩) (by assumption) ?_
    rotate_left
    focus ((intro wq hSw; (try dsimp only at hSw); go_simp); try with_reducible rfl)
    try simp only [Act.put, List.getElem_toArray, List.getElem_cons_succ, List.getElem_cons_zero, List.setIfInBounds_toArray, List.set_cons_zero, List.set_cons_succ]
    refine anyT_take (i := 2) (v := ?_) rfl (by kernel_rfl) (by kernel_rfl) (by kernel_rfl) (by kernel_rfl) (fun _ _ _ h => h) (Or.inl ⟨by rfl, ?_⟩) (by assumption) ?_
    rotate_left
    focus ((intro wq hSw; (try dsimp only at hSw); go_simp); try with_reducible rfl)
    try simp only [Act.put, List.getElem_toArray, List.getElem_cons_succ, List.getElem_cons_zero, List.setIfInBounds_toArray, List.set_cons_zero, List.set_cons_succ]
    refine anyT_take (i := 3) (v := ?_) rfl (by kernel_rfl) (by kernel_rfl) (by kernel_rfl) (by kernel_rfl) (fun _ _ _ h => h) (Or.inl ⟨by rfl, ?_⟩) (by assumption) ?_
    rotate_left
    focus ((intro wq hSw; (try dsimp only at hSw); go_simp); try with_reducible rfl)
    try simp only [Act.put, List.getElem_toArray, List.getElem_cons_succ, List.getElem_cons_zero, List.setIfInBounds_toArray, List.set_cons_zero, List.set_cons_succ]
    refine anyT_take (i := 4) (v := ?_) rfl (by kernel_rfl) (by kernel_rfl) (by kernel_rfl) (by kernel_rfl) (fun _ _ _ h => h) (Or.inl ⟨by rfl, ?_⟩) (by assumption) ?_
    rotate_left
    focus ((intro wq hSw; (try dsimp only at hSw); go_simp); try with_reducible rfl)
    try simp only [Act.put, List.getElem_toArray, List.getElem_cons_succ, List.getElem_cons_zero, List.setIfInBounds_toArray, List.set_cons_zero, List.set_cons_succ]
    refine anyT_take (i := 5) (v := ?_) rfl (by kernel_rfl) (by kernel_rfl) (by kernel_rfl) (by kernel_rfl) (fun _ _ _ h => h) (Or.inl ⟨by rfl, ?_⟩) (by assumption) ?_
    rotate_left
    focus ((intro wq hSw; (try dsimp only at hSw); go_simp); try with_reducible rfl)
    try simp only [Act.put, List.getElem_toArray, List.getElem_cons_succ, List.getElem_cons_zero, List.setIfInBounds_toArray, List.set_cons_zero, List.set_cons_succ]
    refine anyT_take (i := 6) (v := ?_) rfl (by kernel_rfl) (by kernel_rfl) (by kernel_rfl) (by kernel_rfl) (fun _ _ _ h => h) (Or.inl ⟨by rfl, ?_⟩) (by assumption) ?_
    rotate_left
    focus ((intro wq hSw; (try dsimp only at hSw); go_simp); try with_reducible rfl)
    try simp only [Act.put, List.getElem_toArray, List.getElem_cons_succ, List.getElem_cons_zero, List.setIfInBounds_toArray, List.set_cons_zero, List.set_cons_succ]
    refine anyT_take (i := 7) (v := ?_) rfl (by kernel_rfl) (by kernel_rfl) (by kernel_rfl) (by kernel_rfl) (fun _ _ _ h => h) (Or.inl ⟨by rfl, ?_⟩) (by assumption) ?_
    rotate_left
    focus ((intro wq hSw; (try dsimp only at hSw); go_simp); try with_reducible rfl)
    try simp only [Act.put, List.getElem_toArray, List.getElem_cons_succ, List.getElem_cons_zero, List.setIfInBounds_toArray, List.set_cons_zero, List.set_cons_succ]
    refine anyT_one (i := 8) (by kernel_rfl) rfl (fun K hK => ?_)
    go_simp
    refine (HC.out _ hB).mono ?_
    rintro e wk ⟨rfl, m, rfl⟩
    go_simp
    have hB1 := below_drewN hB m
    refine hK.out _ _ (fun _ => HX.out _ hB1) ?_
    clear hK K
    generalize W.drewN m = W1 at *
    try simp only [Act.put, List.getElem_toArray, List.getElem_cons_succ, List.getElem_cons_zero, List.setIfInBounds_toArray, List.set_cons_zero, List.set_cons_succ]
    refine anyT_one (i := 9) (by kernel_rfl) rfl (fun K hK => ?_)
    go_simp
    refine (begin_neg ⟨P, 7, none⟩ n T _ hn).mono ?_
    rintro e wk ⟨rfl, rfl⟩
    go_simp
    exact ⟨rfl, rfl, HR.out.below hB1, gw_below hB1⟩
  · have hn0 : 0 ≤ n := by omega
    by_cases hh : g.rh = true
    · rw [show takeR g n = g by simp [takeR, takeK, hn, hh], show takeK g n = 9 by simp [takeK, hn, hh]]
      generalize takeU g n = u
      have HH := Lib.hid hh
      clear hh
      go_enter Try.func88, Try.ntmps88
      go_upto_region 2 with (go_at_call 38; (with_reducible refine hm1.mono ?_); rintro e w1 ⟨rfl, rfl⟩)
      refine region_T (S := fun wx => wx.cell? ⟨Bv, 0, none⟩ = some (.pointer (some ⟨P, 0, none⟩)) ∧ wx.cell? ⟨Bn, 0, none⟩ = some (.int .i64 n)) [9, 10] (by kernel_rfl) ⟨k0, k1⟩ (fun _ => ?_)
      have hS0 := HX.out _ (below_drew (Below.refl _ w))
      obtain ⟨W, hW⟩ : ∃ W, w.drew = W := ⟨_, rfl⟩
      have hB : Below w.heap.size w W := by rw [← hW]; exact below_drew (Below.refl _ w)
      rw [hW] at hS0 ⊢
      clear hW
      refine anyT_take (i := 0) (v := ?_) rfl (by kernel_rfl) (by kernel_rfl) (by kernel_rfl) (by kernel_rfl) (fun _ _ _ h => h) (Or.inl ⟨by rfl, ?_⟩) (by assumption) ?_
      rotate_left
      focus ((intro wq hSw; (try dsimp only at hSw); go_simp); try with_reducible rfl)
      try simp only [Act.put, List.getElem_toArray, List.getElem_cons_succ, List.getElem_cons_zero, List.setIfInBounds_toArray, List.set_cons_zero, List.set_cons_succ]
      refine anyT_take (i := 1) (v := ?_) rfl (by kernel_rfl) (by kernel_rfl) (by kernel_rfl) (by kernel_rfl) (fun _ _ _ h => h) (Or.inl ⟨by rfl, ?_⟩) (by assumption) ?_
      rotate_left
      focus ((intro wq hSw; (try dsimp only at hSw); go_simp); try with_reducible rfl)
      try simp only [Act.put, List.getElem_toArray, List.getElem_cons_succ, List.getElem_cons_zero, List.setIfInBounds_toArray, List.set_cons_zero, List.set_cons_succ]
      refine anyT_take (i := 2) (v := ?_) rfl (by kernel_rfl) (by kernel_rfl) (by kernel_rfl) (by kernel_rfl) (fun _ _ _ h => h) (Or.inl ⟨by rfl, ?_⟩) (by assumption) ?_
      rotate_left
      focus ((intro wq hSw; (try dsimp only at hSw); go_simp); try with_reducible rfl)
      try simp only [Act.put, List.getElem_toArray, List.getElem_cons_succ, List.getElem_cons_zero, List.setIfInBounds_toArray, List.set_cons_zero, List.set_cons_succ]
      refine anyT_take (i := 3) (v := ?_) rfl (by kernel_rfl) (by kernel_rfl) (by kernel_rfl) (by kernel_rfl) (fun _ _ _ h => h) (Or.inl ⟨by rfl, ?_⟩) (by assumption) ?_
      rotate_left
      focus ((intro wq hSw; (try dsimp only at hSw); go_simp); try with_reducible rfl)
      try simp only [Act.put, List.getElem_toArray, List.getElem_cons_succ, List.getElem_cons_zero, List.setIfInBounds_toArray, List.set_cons_zero, List.set_cons_succ]
      refine anyT_take (i := 4) (v := ?_) rfl (by kernel_rfl) (by kernel_rfl) (by kernel_rfl) (by kernel_rfl) (fun _ _ _ h => h) (Or.inl ⟨by rfl, ?_⟩) (by assumption) ?_
      rotate_left
      focus ((intro wq hSw; (try dsimp only at hSw); go_simp); try with_reducible rfl)
      try simp only [Act.put, List.getElem_toArray, List.getElem_cons_succ, List.getElem_cons_zero, List.setIfInBounds_toArray, List.set_cons_zero, List.set_cons_succ]
      refine anyT_take (i := 5) (v := ?_) rfl (by kernel_rfl) (by kernel_rfl) (by kernel_rfl) (by kernel_rfl) (fun _ _ _ h => h) (Or.inl ⟨by rfl, ?_⟩) (by assumption) ?_
      rotate_left
      focus ((intro wq hSw; (try dsimp only at hSw); go_simp); try with_reducible rfl)
      try simp only [Act.put, List.getElem_toArray, List.getElem_cons_succ, List.getElem_cons_zero, List.setIfInBounds_toArray, List.set_cons_zero, List.set_cons_succ]
      refine anyT_take (i := 6) (v := ?_) rfl (by kernel_rfl) (by kernel_rfl) (by kernel_rfl) (by kernel_rfl) (fun _ _ _ h => h) (Or.inl ⟨by rfl, ?_⟩) (by assumption) ?_
      rotate_left
      focus ((intro wq hSw; (try dsimp only at hSw); go_simp); try with_reducible rfl)
      try simp only [Act.put, List.getElem_toArray, List.getElem_cons_succ, List.getElem_cons_zero, List.setIfInBounds_toArray, List.set_cons_zero, List.set_cons_succ]
      refine anyT_take (i := 7) (v := ?_) rfl (by kernel_rfl) (by kernel_rfl) (by kernel_rfl) (by kernel_rfl) (fun _ _ _ h => h) (Or.inl ⟨by rfl, ?_⟩) (by assumption) ?_
      rotate_left
      focus ((intro wq hSw; (try dsimp only at hSw); go_simp); try with_reducible rfl)
      try simp only [Act.put, List.getElem_toArray, List.getElem_cons_succ, List.getElem_cons_zero, List.setIfInBounds_toArray, List.set_cons_zero, List.set_cons_succ]
      refine anyT_one (i := 8) (by kernel_rfl) rfl (fun K hK => ?_)
      go_simp
      refine (HC.out _ hB).mono ?_
      rintro e wk ⟨rfl, m, rfl⟩
      go_simp
      have hB1 := below_drewN hB m
      refine hK.out _ _ (fun _ => HX.out _ hB1) ?_
      clear hK K
      generalize W.drewN m = W1 at *
      try simp only [Act.put, List.getElem_toArray, List.getElem_cons_succ, List.getElem_cons_zero, List.setIfInBounds_toArray, List.set_cons_zero, List.set_cons_succ]
      refine anyT_one (i := 9) (by kernel_rfl) rfl (fun K hK => ?_)
      go_simp
      refine (begin_held P 7 n T W1 hn0 (by rw [(HF.out W1 hB1).1, HH.out])).mono ?_
      rintro e wk ⟨rfl, rfl⟩
      go_simp
      exact ⟨rfl, rfl, HR.out.below hB1, gw_below hB1⟩
    · have hh0 : g.rh = false := by simpa using hh
      rw [show takeR g n = g.take n by simp [takeR, takeK, hn, hh0], show takeK g n = 0 by simp [takeK, hn, hh0], show takeU g n = min n g.filled by simp [takeU, takeK, hn, hh0], HT.out]
      have HH := Lib.hid hh0
      clear hh hh0
      go_enter Try.func88, Try.ntmps88
      go_upto_region 2 with (go_at_call 38; (with_reducible refine hm1.mono ?_); rintro e w1 ⟨rfl, rfl⟩)
      refine region_T (S := fun wx => wx.cell? ⟨Bv, 0, none⟩ = some (.pointer (some ⟨P, 0, none⟩)) ∧ wx.cell? ⟨Bn, 0, none⟩ = some (.int .i64 n)) [9, 10] (by kernel_rfl) ⟨k0, k1⟩ (fun _ => ?_)
      have hS0 := HX.out _ (below_drew (Below.refl _ w))
      obtain ⟨W, hW⟩ : ∃ W, w.drew = W := ⟨_, rfl⟩
      have hB : Below w.heap.size w W := by rw [← hW]; exact below_drew (Below.refl _ w)
      rw [hW] at hS0 ⊢
      clear hW
      refine anyT_take (i := 0) (v := ?_) rfl (by kernel_rfl) (by kernel_rfl) (by kernel_rfl) (by kernel_rfl) (fun _ _ _ h => h) (Or.inl ⟨by rfl, ?_⟩) (by assumption) ?_
      rotate_left
      focus ((intro wq hSw; (try dsimp only at hSw); go_simp); try with_reducible rfl)
      try simp only [Act.put, List.getElem_toArray, List.getElem_cons_succ, List.getElem_cons_zero, List.setIfInBounds_toArray, List.set_cons_zero, List.set_cons_succ]
      refine anyT_take (i := 1) (v := ?_) rfl (by kernel_rfl) (by kernel_rfl) (by kernel_rfl) (by kernel_rfl) (fun _ _ _ h => h) (Or.inl ⟨by rfl, ?_⟩) (by assumption) ?_
      rotate_left
      focus ((intro wq hSw; (try dsimp only at hSw); go_simp); try with_reducible rfl)
      try simp only [Act.put, List.getElem_toArray, List.getElem_cons_succ, List.getElem_cons_zero, List.setIfInBounds_toArray, List.set_cons_zero, List.set_cons_succ]
      refine anyT_take (i := 2) (v := ?_) rfl (by kernel_rfl) (by kernel_rfl) (by kernel_rfl) (by kernel_rfl) (fun _ _ _ h => h) (Or.inl ⟨by rfl, ?_⟩) (by assumption) ?_
      rotate_left
      focus ((intro wq hSw; (try dsimp only at hSw); go_simp); try with_reducible rfl)
      try simp only [Act.put, List.getElem_toArray, List.getElem_cons_succ, List.getElem_cons_zero, List.setIfInBounds_toArray, List.set_cons_zero, List.set_cons_succ]
      refine anyT_take (i := 3) (v := ?_) rfl (by kernel_rfl) (by kernel_rfl) (by kernel_rfl) (by kernel_rfl) (fun _ _ _ h => h) (Or.inl ⟨by rfl, ?_⟩) (by assumption) ?_
      rotate_left
      focus ((intro wq hSw; (try dsimp only at hSw); go_simp); try with_reducible rfl)
      try simp only [Act.put, List.getElem_toArray, List.getElem_cons_succ, List.getElem_cons_zero, List.setIfInBounds_toArray, List.set_cons_zero, List.set_cons_succ]
      refine anyT_take (i := 4) (v := ?_) rfl (by kernel_rfl) (by kernel_rfl) (by kernel_rfl) (by kernel_rfl) (fun _ _ _ h => h) (Or.inl ⟨by rfl, ?_⟩) (by assumption) ?_
      rotate_left
      focus ((intro wq hSw; (try dsimp only at hSw); go_simp); try with_reducible rfl)
      try simp only [Act.put, List.getElem_toArray, List.getElem_cons_succ, List.getElem_cons_zero, List.setIfInBounds_toArray, List.set_cons_zero, List.set_cons_succ]
      refine anyT_take (i := 5) (v := ?_) rfl (by kernel_rfl) (by kernel_rfl) (by kernel_rfl) (by kernel_rfl) (fun _ _ _ h => h) (Or.inl ⟨by rfl, ?_⟩) (by assumption) ?_
      rotate_left
      focus ((intro wq hSw; (try dsimp only at hSw); go_simp); try with_reducible rfl)
      try simp only [Act.put, List.getElem_toArray, List.getElem_cons_succ, List.getElem_cons_zero, List.setIfInBounds_toArray, List.set_cons_zero, List.set_cons_succ]
      refine anyT_take (i := 6) (v := ?_) rfl (by kernel_rfl) (by kernel_rfl) (by kernel_rfl) (by kernel_rfl) (fun _ _ _ h => h) (Or.inl ⟨by rfl, ?_⟩) (by assumption) ?_
      rotate_left
      focus ((intro wq hSw; (try dsimp only at hSw); go_simp); try with_reducible rfl)
      try simp only [Act.put, List.getElem_toArray, List.getElem_cons_succ, List.getElem_cons_zero, List.setIfInBounds_toArray, List.set_cons_zero, List.set_cons_succ]
      refine anyT_take (i := 7) (v := ?_) rfl (by kernel_rfl) (by kernel_rfl) (by kernel_rfl) (by kernel_rfl) (fun _ _ _ h => h) (Or.inl ⟨by rfl, ?_⟩) (by assumption) ?_
      rotate_left
      focus ((intro wq hSw; (try dsimp only at hSw); go_simp); try with_reducible rfl)
      try simp only [Act.put, List.getElem_toArray, List.getElem_cons_succ, List.getElem_cons_zero, List.setIfInBounds_toArray, List.set_cons_zero, List.set_cons_succ]
      refine anyT_one (i := 8) (by kernel_rfl) rfl (fun K hK => ?_)
      go_simp
      refine (HC.out _ hB).mono ?_
      rintro e wk ⟨rfl, m, rfl⟩
      go_simp
      have hB1 := below_drewN hB m
      refine hK.out _ _ (fun _ => HX.out _ hB1) ?_
      clear hK K
      generalize W.drewN m = W1 at *
      try simp only [Act.put, List.getElem_toArray, List.getElem_cons_succ, List.getElem_cons_zero, List.setIfInBounds_toArray, List.set_cons_zero, List.set_cons_succ]
      refine anyT_one (i := 9) (by kernel_rfl) rfl (fun K hK => ?_)
      go_simp
      refine (begin_yes P 7 n T g.rn W1 hn0 (by rw [(HF.out W1 hB1).1, HH.out]) (HF.out W1 hB1).2 (HR.out.below hB1).frozen).mono ?_
      rintro e wk ⟨rfl, hwk⟩
      have HFIN : Hid (RingAt P R (g.take n) wk ∧ Gw P R w wk) := Lib.hid (by
        have h1 := (HR.out.below hB1).take n
        rw [HT.out] at h1
        rw [hwk]
        exact ⟨h1, ((gw_below hB1).setP _ _).setP _ _⟩)
      clear hwk
      go_simp
      refine hK.out _ _ (fun h => by cases h) ?_
      clear hK K
      try simp only [Act.put, List.getElem_toArray, List.getElem_cons_succ, List.getElem_cons_zero, List.setIfInBounds_toArray, List.set_cons_zero, List.set_cons_succ]
      refine anyT_one (i := 10) (by kernel_rfl) rfl (fun K hK => ?_)
      go_simp
      refine hK.out _ _ (fun h => by cases h) ?_
      clear hK K
      refine anyT_done (by kernel_rfl) ?_ _
      go_wp2_with fail
      go_ret
      exact ⟨rfl, HFIN.out.1, HFIN.out.2⟩
set_option maxRecDepth 100000 in
theorem take_any (P R : Nat) (g : Rg) (n : Int) (w : World) (h : RingAt P R g w) (hs : g.sz ≤ 1024) : Calls Try.prog 32 #[.pointer (some ⟨P, 0, none⟩), .int .i64 n] w (Meth P R (takeR g n) (.int .i64 (takeU g n)) (takeK g n) w) := by
  have hmf := makes
  obtain ⟨hP, hR⟩ := h.lt
  obtain ⟨X, hX⟩ : ∃ X, Obj.cells #[.pointer (some ⟨P, 0, none⟩)] 25 = X := ⟨_, rfl⟩
  obtain ⟨Y, hY⟩ : ∃ Y, Obj.cells #[.int .i64 n] 3 = Y := ⟨_, rfl⟩
  have hbel : Below w.heap.size w ((w.alloc X).alloc Y) := (((Below.refl _ w).alloc (Nat.le_refl _) _).alloc (by simp) _)
  have c0 : ((w.alloc X).alloc Y).cell? ⟨w.heap.size, 0, none⟩ = some (.pointer (some ⟨P, 0, none⟩)) := by
    refine (Same.alloc _ Y).cell ?_; rw [← hX]; simp [go_sem]
  have c1 : ((w.alloc X).alloc Y).cell? ⟨w.heap.size + 1, 0, none⟩ = some (.int .i64 n) := by rw [← hY]; simp [go_sem]
  obtain ⟨Z, hZ⟩ : ∃ Z, (w.alloc X).alloc Y = Z := ⟨_, rfl⟩
  rw [hZ] at hbel c0 c1
  have hf := fit42_ring (P := P) (R := R) (g := takeR g n) (u := .int .i64 (takeU g n)) (k := takeK g n) 88 #[at0 w.heap.size, at0 (w.heap.size + 1)] Z (Nat.lt_of_lt_of_le hP hbel.size) (Nat.lt_of_lt_of_le hR hbel.size) (fun hk => by unfold takeU; rw [if_neg hk]) (enters_of Try.func88 (by kernel_rfl) rfl _)
    (fun x hx => take88_any P R _ _ g n x ((h.below hbel).below hx) hs ((Same.of_below hx).cell c0) ((Same.of_below hx).cell c1))
  have HB := Lib.hid (gw_below (P := P) (R := R) hbel)
  generalize takeR g n = g2 at *
  generalize takeU g n = u at *
  generalize takeK g n = k at *
  clear hbel c0 c1 h
  subst hZ
  subst hX
  subst hY
  go_enter Try.func32, Try.ntmps32
  go_wp2_with (go_at_call 42; (with_reducible refine hf.mono ?_); rintro e w1 ⟨rfl, h1, h2⟩; have HH := Lib.hid (And.intro h1 (HB.out.trans h2)); clear h1 h2)
  go_ret2
  exact ⟨rfl, HH.out.1, HH.out.2⟩
end Go.Proofs.Ytgcohmlapgnbdaa
