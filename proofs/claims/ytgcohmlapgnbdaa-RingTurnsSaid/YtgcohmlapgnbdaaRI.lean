/- See, Look, Claim, Take. -/
import Derived.Test.YtgcohmlapgnbdaaRH
import Derived.Test.YtgcohmlapgnbdaaNB
namespace Go.Proofs.Ytgcohmlapgnbdaa
open Go.RowKit Go.Shelf Go.Deep

theorem below_drew {B : Nat} {w wr : World} (h : Below B w wr) : Below B w wr.drew := h.drew
set_option maxRecDepth 100000 in
theorem see43_any (P R Bv : Nat) (g : Rg) (w : World) (h : RingAt P R g w) (hs : g.sz ≤ 1024) (k0 : w.cell? ⟨Bv, 0, none⟩ = some (.pointer (some ⟨P, 0, none⟩))) : Calls Try.prog 43 #[at0 Bv] w (Clos P R g.seen (.int .i64 g.seen.room) 0 w) := by
  have hm1 := must_yes 1 w
  have hi := see_any P R g w h hs
  unfold DoesInt at hi
  generalize g.seen.room = U at *
  clear h
  go_enter Try.func43, Try.ntmps43
  go_wp2_with (first | (go_at_call 38; (with_reducible refine hm1.mono ?_); rintro e w1 ⟨rfl, rfl⟩) | (go_at_call 44; (with_reducible refine hi.mono ?_); rintro e w1 ⟨rfl, h1, h2⟩; have HH := Lib.hid (And.intro h1 h2); clear h1 h2))
  go_ret
  exact ⟨rfl, HH.out.1, HH.out.2⟩
set_option maxRecDepth 100000 in
theorem seeM_any (P R : Nat) (g : Rg) (w : World) (h : RingAt P R g w) (hs : g.sz ≤ 1024) : Calls Try.prog 12 #[.pointer (some ⟨P, 0, none⟩)] w (Meth P R g.seen (.int .i64 g.seen.room) 0 w) := by
  have hmf := makes
  obtain ⟨hP, hR⟩ := h.lt
  obtain ⟨X, hX⟩ : ∃ X, Obj.cells #[.pointer (some ⟨P, 0, none⟩)] 25 = X := ⟨_, rfl⟩
  have hbel : Below w.heap.size w (w.alloc X) := (Below.refl _ w).alloc (Nat.le_refl _) _
  have c0 : (w.alloc X).cell? ⟨w.heap.size, 0, none⟩ = some (.pointer (some ⟨P, 0, none⟩)) := by rw [← hX]; simp [go_sem]
  obtain ⟨Z, hZ⟩ : ∃ Z, w.alloc X = Z := ⟨_, rfl⟩
  rw [hZ] at hbel c0
  have hf := fit42_ring (P := P) (R := R) (g := g.seen) (u := .int .i64 g.seen.room) (k := 0) 43 #[at0 w.heap.size] Z (Nat.lt_of_lt_of_le hP hbel.size) (Nat.lt_of_lt_of_le hR hbel.size) (fun hk => absurd rfl hk) (enters_of Try.func43 (by kernel_rfl) rfl _)
    (fun x hx => see43_any P R _ g x ((h.below hbel).below hx) hs ((Same.of_below hx).cell c0))
  have HB := Lib.hid (gw_below (P := P) (R := R) hbel)
  generalize g.seen.room = U at *
  clear hbel c0 h
  subst hZ
  subst hX
  go_enter Try.func12, Try.ntmps12
  go_wp2_with (go_at_call 42; (with_reducible refine hf.mono ?_); rintro e w1 ⟨rfl, h1, h2⟩; have HH := Lib.hid (And.intro h1 (HB.out.trans h2)); clear h1 h2)
  go_ret2
  exact ⟨rfl, HH.out.1, HH.out.2⟩
set_option maxRecDepth 100000 in
theorem look86_any (P R Bv : Nat) (g : Rg) (w : World) (h : RingAt P R g w)  (k0 : w.cell? ⟨Bv, 0, none⟩ = some (.pointer (some ⟨P, 0, none⟩))) : Calls Try.prog 86 #[at0 Bv] w (Clos P R g.looked (.int .i64 g.looked.filled) 0 w) := by
  have hm1 := must_yes 1 w
  have hi := look_any P R g w h 
  unfold DoesInt at hi
  generalize g.looked.filled = U at *
  clear h
  go_enter Try.func86, Try.ntmps86
  go_wp2_with (first | (go_at_call 38; (with_reducible refine hm1.mono ?_); rintro e w1 ⟨rfl, rfl⟩) | (go_at_call 87; (with_reducible refine hi.mono ?_); rintro e w1 ⟨rfl, h1, h2⟩; have HH := Lib.hid (And.intro h1 h2); clear h1 h2))
  go_ret
  exact ⟨rfl, HH.out.1, HH.out.2⟩
set_option maxRecDepth 100000 in
theorem lookM_any (P R : Nat) (g : Rg) (w : World) (h : RingAt P R g w)  : Calls Try.prog 31 #[.pointer (some ⟨P, 0, none⟩)] w (Meth P R g.looked (.int .i64 g.looked.filled) 0 w) := by
  have hmf := makes
  obtain ⟨hP, hR⟩ := h.lt
  obtain ⟨X, hX⟩ : ∃ X, Obj.cells #[.pointer (some ⟨P, 0, none⟩)] 25 = X := ⟨_, rfl⟩
  have hbel : Below w.heap.size w (w.alloc X) := (Below.refl _ w).alloc (Nat.le_refl _) _
  have c0 : (w.alloc X).cell? ⟨w.heap.size, 0, none⟩ = some (.pointer (some ⟨P, 0, none⟩)) := by rw [← hX]; simp [go_sem]
  obtain ⟨Z, hZ⟩ : ∃ Z, w.alloc X = Z := ⟨_, rfl⟩
  rw [hZ] at hbel c0
  have hf := fit42_ring (P := P) (R := R) (g := g.looked) (u := .int .i64 g.looked.filled) (k := 0) 86 #[at0 w.heap.size] Z (Nat.lt_of_lt_of_le hP hbel.size) (Nat.lt_of_lt_of_le hR hbel.size) (fun hk => absurd rfl hk) (enters_of Try.func86 (by kernel_rfl) rfl _)
    (fun x hx => look86_any P R _ g x ((h.below hbel).below hx)  ((Same.of_below hx).cell c0))
  have HB := Lib.hid (gw_below (P := P) (R := R) hbel)
  generalize g.looked.filled = U at *
  clear hbel c0 h
  subst hZ
  subst hX
  go_enter Try.func31, Try.ntmps31
  go_wp2_with (go_at_call 42; (with_reducible refine hf.mono ?_); rintro e w1 ⟨rfl, h1, h2⟩; have HH := Lib.hid (And.intro h1 (HB.out.trans h2)); clear h1 h2)
  go_ret2
  exact ⟨rfl, HH.out.1, HH.out.2⟩

def Rg.claim (g : Rg) (n : Int) : Rg := { g with wh := true, wn := min n g.room }
def claimK (g : Rg) (n : Int) : Int := if n < 0 then 7 else if g.wh = true then 9 else 0
def claimR (g : Rg) (n : Int) : Rg := if claimK g n = 0 then g.claim n else g
def claimU (g : Rg) (n : Int) : Int := if claimK g n = 0 then min n g.room else 0
theorem RingAt.claim {P R : Nat} {g : Rg} {w : World} (h : RingAt P R g w) (n : Int) : RingAt P R (g.claim n) ((w.setCell ⟨P, 3 + 2, none⟩ (.bool true)).setCell ⟨P, 3 + 3, none⟩ (.int .i64 (min n g.room))) := by
  have h1 := h.put { g with wh := true } (3 + 2) (.bool true) rfl rfl rfl rfl (by decide) fun j hj hne => by
    match j with
    | 0 => first | rfl | exact absurd rfl hne
    | 1 => first | rfl | exact absurd rfl hne
    | 2 => first | rfl | exact absurd rfl hne
    | 3 => first | rfl | exact absurd rfl hne
    | 4 => first | rfl | exact absurd rfl hne
    | 5 => first | rfl | exact absurd rfl hne
    | 6 => first | rfl | exact absurd rfl hne
    | 7 => first | rfl | exact absurd rfl hne
    | 8 => first | rfl | exact absurd rfl hne
    | 9 => first | rfl | exact absurd rfl hne
    | 10 => first | rfl | exact absurd rfl hne
    | j + 11 => omega
  exact h1.put (g.claim n) (3 + 3) _ rfl rfl rfl rfl (by decide) fun j hj hne => by
    match j with
    | 0 => first | rfl | exact absurd rfl hne
    | 1 => first | rfl | exact absurd rfl hne
    | 2 => first | rfl | exact absurd rfl hne
    | 3 => first | rfl | exact absurd rfl hne
    | 4 => first | rfl | exact absurd rfl hne
    | 5 => first | rfl | exact absurd rfl hne
    | 6 => first | rfl | exact absurd rfl hne
    | 7 => first | rfl | exact absurd rfl hne
    | 8 => first | rfl | exact absurd rfl hne
    | 9 => first | rfl | exact absurd rfl hne
    | 10 => first | rfl | exact absurd rfl hne
    | j + 11 => omega
set_option maxHeartbeats 2000000 in
set_option maxRecDepth 100000 in
theorem claim83_any (P R Bv Bn : Nat) (g : Rg) (n : Int) (w : World) (h : RingAt P R g w) (hs : g.sz ≤ 1024) (k0 : w.cell? ⟨Bv, 0, none⟩ = some (.pointer (some ⟨P, 0, none⟩))) (k1 : w.cell? ⟨Bn, 0, none⟩ = some (.int .i64 n)) :
    Calls Try.prog 83 #[at0 Bv, at0 Bn] w (Clos P R (claimR g n) (.int .i64 (claimU g n)) (claimK g n) w) := by
  have hm1 := must_yes 1 w
  have HX : Hid (∀ x, Below w.heap.size w x → x.cell? ⟨Bv, 0, none⟩ = some (.pointer (some ⟨P, 0, none⟩)) ∧ x.cell? ⟨Bn, 0, none⟩ = some (.int .i64 n)) := Lib.hid fun x hx => ⟨(Same.of_below hx).cell k0, (Same.of_below hx).cell k1⟩
  have HR := Lib.hid h
  have HC : Hid (∀ x, Below w.heap.size w x → Calls Try.prog 84 #[.pointer (some ⟨P, 0, none⟩)] x fun e w' => e = .returned (.int .i64 g.room) ∧ ∃ m, w' = x.drewN m) := Lib.hid fun x hx => room_any P R g x (h.below hx) hs
  have HF : Hid (∀ x, Below w.heap.size w x → x.cell? ⟨P, 3 + 2, none⟩ = some (.bool g.wh) ∧ x.cell? ⟨P, 3 + 3, none⟩ = some (.int .i64 g.wn)) := Lib.hid fun x hx => ⟨(h.below hx).c (k := 3 + 2) (by decide) (by decide), (h.below hx).c (k := 3 + 3) (by decide) (by decide)⟩
  obtain ⟨T, hT⟩ : ∃ T, g.room = T := ⟨_, rfl⟩
  rw [hT] at HC
  have HT := Lib.hid hT
  clear h hT
  by_cases hn : n < 0
  · rw [show claimR g n = g by simp [claimR, claimK, hn], show claimK g n = 7 by simp [claimK, hn]]
    generalize claimU g n = u
    go_enter Try.func83, Try.ntmps83
    go_upto_region 2 with (go_at_call 38; (with_reducible refine hm1.mono ?_); rintro e w1 ⟨rfl, rfl⟩)
    refine region_T (S := fun wx => wx.cell? ⟨Bv, 0, none⟩ = some (.pointer (some ⟨P, 0, none⟩)) ∧ wx.cell? ⟨Bn, 0, none⟩ = some (.int .i64 n)) [7, 8] (by kernel_rfl) ⟨k0, k1⟩ (fun _ => ?_)
    have hS0 := HX.out _ (below_drew (Below.refl _ w))
    obtain ⟨W, hW⟩ : ∃ W, w.drew = W := ⟨_, rfl⟩
    have hB : Below w.heap.size w W := by rw [← hW]; exact below_drew (Below.refl _ w)
    rw [hW] at hS0 ⊢
    clear hW
    refine anyT_take (i := 0) (v := ?_) rfl (by kernel_rfl) (by kernel_rfl) (by kernel_rfl) (by kernel_rfl) (fun _ _ _ h => h) (Or.inl ⟨by rfl, ?_⟩) (by assumption) ?_
    rotate_left
    focus ((intro wq hSw; (try dsimp only at hSw); go_simp); try with_reducible rfl)
    try simp only [Act.put, List.getElem_toArray, List.getElem_cons_succ, List.getElem_cons_zero, List.setIfInBounds_toArray, List.set_cons_zero, List.set_cons_succ]
    refine anyT_take (i := 1) (v := ?_) rfl (by kernel_rfl) (by kernel_rfl) (by kernel_rfl) (by kernel_rfl) (fun _ _ _ h => h) (Or.inl ⟨by rfl, ?_⟩) (by assumption) ?_
    rotate_left
    focus ((intro wq hSw; (try dsimp only at hSw); go_simp); try with_reducible rfl)
    try simp only [Act.put, List.getElem_toArray, List.getElem_cons_succ, List.getElem_cons_zero, List.setIfInBounds_toArray, List.set_cons_zero, List.set_cons_succ]
    refine anyT_take (i := 2) (v := ?_) rfl (by kernel_rfl) (by kernel_rfl) (by kernel_rfl) (by kernel_rfl) (fun _ _ _ h => h) (Or.inl ⟨by rfl, ?_⟩) (by assumption) ?_
    rotate_left
    focus ((intro wq hSw; (try dsimp only at hSw); go_simp); try with_reducible rfl)
    try simp only [Act.put, List.getElem_toArray, List.getElem_cons_succ, List.getElem_cons_zero, List.setIfInBounds_toArray, List.set_cons_zero, List.set_cons_succ]
    refine anyT_take (i := 3) (v := ?_) rfl (by kernel_rfl) (by kernel_rfl) (by kernel_rfl) (by kernel_rfl) (fun _ _ _ h => h) (Or.inl ⟨by rfl, ?_⟩) (by assumption) ?_
    rotate_left
    focus ((intro wq hSw; (try dsimp only at hSw); go_simp); try with_reducible rfl)
    try simp only [Act.put, List.getElem_toArray, List.getElem_cons_succ, List.getElem_cons_zero, List.setIfInBounds_toArray, List.set_cons_zero, List.set_cons_succ]
    refine anyT_take (i := 4) (v := ?_) rfl (by kernel_rfl) (by kernel_rfl) (by kernel_rfl) (by kernel_rfl) (fun _ _ _ h => h) (Or.inl ⟨by rfl, ?_⟩) (by assumption) ?_
    rotate_left
    focus ((intro wq hSw; (try dsimp only at hSw); go_simp); try with_reducible rfl)
    try simp only [Act.put, List.getElem_toArray, List.getElem_cons_succ, List.getElem_cons_zero, List.setIfInBounds_toArray, List.set_cons_zero, List.set_cons_succ]
    refine anyT_take (i := 5) (v := ?_) rfl (by kernel_rfl) (by kernel_rfl) (by kernel_rfl) (by kernel_rfl) (fun _ _ _ h => h) (Or.inl ⟨by rfl, ?_⟩) (by assumption) ?_
    rotate_left
    focus ((intro wq hSw; (try dsimp only at hSw); go_simp); try with_reducible rfl)
    try simp only [Act.put, List.getElem_toArray, List.getElem_cons_succ, List.getElem_cons_zero, List.setIfInBounds_toArray, List.set_cons_zero, List.set_cons_succ]
    refine anyT_one (i := 6) (by kernel_rfl) rfl (fun K hK => ?_)
    go_simp
    refine (HC.out _ hB).mono ?_
    rintro e wk ⟨rfl, m, rfl⟩
    go_simp
    have hB1 := below_drewN hB m
    refine hK.out _ _ (fun _ => HX.out _ hB1) ?_
    clear hK K
    generalize W.drewN m = W1 at *
    try simp only [Act.put, List.getElem_toArray, List.getElem_cons_succ, List.getElem_cons_zero, List.setIfInBounds_toArray, List.set_cons_zero, List.set_cons_succ]
    refine anyT_one (i := 7) (by kernel_rfl) rfl (fun K hK => ?_)
    go_simp
    refine (begin_neg ⟨P, 3, none⟩ n T _ hn).mono ?_
    rintro e wk ⟨rfl, rfl⟩
    go_simp
    exact ⟨rfl, rfl, HR.out.below hB1, gw_below hB1⟩
  · have hn0 : 0 ≤ n := by omega
    by_cases hh : g.wh = true
    · rw [show claimR g n = g by simp [claimR, claimK, hn, hh], show claimK g n = 9 by simp [claimK, hn, hh]]
      generalize claimU g n = u
      have HH := Lib.hid hh
      clear hh
      go_enter Try.func83, Try.ntmps83
      go_upto_region 2 with (go_at_call 38; (with_reducible refine hm1.mono ?_); rintro e w1 ⟨rfl, rfl⟩)
      refine region_T (S := fun wx => wx.cell? ⟨Bv, 0, none⟩ = some (.pointer (some ⟨P, 0, none⟩)) ∧ wx.cell? ⟨Bn, 0, none⟩ = some (.int .i64 n)) [7, 8] (by kernel_rfl) ⟨k0, k1⟩ (fun _ => ?_)
      have hS0 := HX.out _ (below_drew (Below.refl _ w))
      obtain ⟨W, hW⟩ : ∃ W, w.drew = W := ⟨_, rfl⟩
      have hB : Below w.heap.size w W := by rw [← hW]; exact below_drew (Below.refl _ w)
      rw [hW] at hS0 ⊢
      clear hW
      refine anyT_take (i := 0) (v := ?_) rfl (by kernel_rfl) (by kernel_rfl) (by kernel_rfl) (by kernel_rfl) (fun _ _ _ h => h) (Or.inl ⟨by rfl, ?_⟩) (by assumption) ?_
      rotate_left
      focus ((intro wq hSw; (try dsimp only at hSw); go_simp); try with_reducible rfl)
      try simp only [Act.put, List.getElem_toArray, List.getElem_cons_succ, List.getElem_cons_zero, List.setIfInBounds_toArray, List.set_cons_zero, List.set_cons_succ]
      refine anyT_take (i := 1) (v := ?_) rfl (by kernel_rfl) (by kernel_rfl) (by kernel_rfl) (by kernel_rfl) (fun _ _ _ h => h) (Or.inl ⟨by rfl, ?_⟩) (by assumption) ?_
      rotate_left
      focus ((intro wq hSw; (try dsimp only at hSw); go_simp); try with_reducible rfl)
      try simp only [Act.put, List.getElem_toArray, List.getElem_cons_succ, List.getElem_cons_zero, List.setIfInBounds_toArray, List.set_cons_zero, List.set_cons_succ]
      refine anyT_take (i := 2) (v := ?_) rfl (by kernel_rfl) (by kernel_rfl) (by kernel_rfl) (by kernel_rfl) (fun _ _ _ h => h) (Or.inl ⟨by rfl, ?_⟩) (by assumption) ?_
      rotate_left
      focus ((intro wq hSw; (try dsimp only at hSw); go_simp); try with_reducible rfl)
      try simp only [Act.put, List.getElem_toArray, List.getElem_cons_succ, List.getElem_cons_zero, List.setIfInBounds_toArray, List.set_cons_zero, List.set_cons_succ]
      refine anyT_take (i := 3) (v := ?_) rfl (by kernel_rfl) (by kernel_rfl) (by kernel_rfl) (by kernel_rfl) (fun _ _ _ h => h) (Or.inl ⟨by rfl, ?_⟩) (by assumption) ?_
      rotate_left
      focus ((intro wq hSw; (try dsimp only at hSw); go_simp); try with_reducible rfl)
      try simp only [Act.put, List.getElem_toArray, List.getElem_cons_succ, List.getElem_cons_zero, List.setIfInBounds_toArray, List.set_cons_zero, List.set_cons_succ]
      refine anyT_take (i := 4) (v := ?_) rfl (by kernel_rfl) (by kernel_rfl) (by kernel_rfl) (by kernel_rfl) (fun _ _ _ h => h) (Or.inl ⟨by rfl, ?_⟩) (by assumption) ?_
      rotate_left
      focus ((intro wq hSw; (try dsimp only at hSw); go_simp); try with_reducible rfl)
      try simp only [Act.put, List.getElem_toArray, List.getElem_cons_succ, List.getElem_cons_zero, List.setIfInBounds_toArray, List.set_cons_zero, List.set_cons_succ]
      refine anyT_take (i := 5) (v := ?_) rfl (by kernel_rfl) (by kernel_rfl) (by kernel_rfl) (by kernel_rfl) (fun _ _ _ h => h) (Or.inl ⟨by rfl, ?_⟩) (by assumption) ?_
      rotate_left
      focus ((intro wq hSw; (try dsimp only at hSw); go_simp); try with_reducible rfl)
      try simp only [Act.put, List.getElem_toArray, List.getElem_cons_succ, List.getElem_cons_zero, List.setIfInBounds_toArray, List.set_cons_zero, List.set_cons_succ]
      refine anyT_one (i := 6) (by kernel_rfl) rfl (fun K hK => ?_)
      go_simp
      refine (HC.out _ hB).mono ?_
      rintro e wk ⟨rfl, m, rfl⟩
      go_simp
      have hB1 := below_drewN hB m
      refine hK.out _ _ (fun _ => HX.out _ hB1) ?_
      clear hK K
      generalize W.drewN m = W1 at *
      try simp only [Act.put, List.getElem_toArray, List.getElem_cons_succ, List.getElem_cons_zero, List.setIfInBounds_toArray, List.set_cons_zero, List.set_cons_succ]
      refine anyT_one (i := 7) (by kernel_rfl) rfl (fun K hK => ?_)
      go_simp
      refine (begin_held P 3 n T W1 hn0 (by rw [(HF.out W1 hB1).1, HH.out])).mono ?_
      rintro e wk ⟨rfl, rfl⟩
      go_simp
      exact ⟨rfl, rfl, HR.out.below hB1, gw_below hB1⟩
    · have hh0 : g.wh = false := by simpa using hh
      rw [show claimR g n = g.claim n by simp [claimR, claimK, hn, hh0], show claimK g n = 0 by simp [claimK, hn, hh0], show claimU g n = min n g.room by simp [claimU, claimK, hn, hh0], HT.out]
      have HH := Lib.hid hh0
      clear hh hh0
      go_enter Try.func83, Try.ntmps83
      go_upto_region 2 with (go_at_call 38; (with_reducible refine hm1.mono ?_); rintro e w1 ⟨rfl, rfl⟩)
      refine region_T (S := fun wx => wx.cell? ⟨Bv, 0, none⟩ = some (.pointer (some ⟨P, 0, none⟩)) ∧ wx.cell? ⟨Bn, 0, none⟩ = some (.int .i64 n)) [7, 8] (by kernel_rfl) ⟨k0, k1⟩ (fun _ => ?_)
      have hS0 := HX.out _ (below_drew (Below.refl _ w))
      obtain ⟨W, hW⟩ : ∃ W, w.drew = W := ⟨_, rfl⟩
      have hB : Below w.heap.size w W := by rw [← hW]; exact below_drew (Below.refl _ w)
      rw [hW] at hS0 ⊢
      clear hW
      refine anyT_take (i := 0) (v := ?_) rfl (by kernel_rfl) (by kernel_rfl) (by kernel_rfl) (by kernel_rfl) (fun _ _ _ h => h) (Or.inl ⟨by rfl, ?_⟩) (by assumption) ?_
      rotate_left
      focus ((intro wq hSw; (try dsimp only at hSw); go_simp); try with_reducible rfl)
      try simp only [Act.put, List.getElem_toArray, List.getElem_cons_succ, List.getElem_cons_zero, List.setIfInBounds_toArray, List.set_cons_zero, List.set_cons_succ]
      refine anyT_take (i := 1) (v := ?_) rfl (by kernel_rfl) (by kernel_rfl) (by kernel_rfl) (by kernel_rfl) (fun _ _ _ h => h) (Or.inl ⟨by rfl, ?_⟩) (by assumption) ?_
      rotate_left
      focus ((intro wq hSw; (try dsimp only at hSw); go_simp); try with_reducible rfl)
      try simp only [Act.put, List.getElem_toArray, List.getElem_cons_succ, List.getElem_cons_zero, List.setIfInBounds_toArray, List.set_cons_zero, List.set_cons_succ]
      refine anyT_take (i := 2) (v := ?_) rfl (by kernel_rfl) (by kernel_rfl) (by kernel_rfl) (by kernel_rfl) (fun _ _ _ h => h) (Or.inl ⟨by rfl, ?_⟩) (by assumption) ?_
      rotate_left
      focus ((intro wq hSw; (try dsimp only at hSw); go_simp); try with_reducible rfl)
      try simp only [Act.put, List.getElem_toArray, List.getElem_cons_succ, List.getElem_cons_zero, List.setIfInBounds_toArray, List.set_cons_zero, List.set_cons_succ]
      refine anyT_take (i := 3) (v := ?_) rfl (by kernel_rfl) (by kernel_rfl) (by kernel_rfl) (by kernel_rfl) (fun _ _ _ h => h) (Or.inl ⟨by rfl, ?_⟩) (by assumption) ?_
      rotate_left
      focus ((intro wq hSw; (try dsimp only at hSw); go_simp); try with_reducible rfl)
      try simp only [Act.put, List.getElem_toArray, List.getElem_cons_succ, List.getElem_cons_zero, List.setIfInBounds_toArray, List.set_cons_zero, List.set_cons_succ]
      refine anyT_take (i := 4) (v := ?_) rfl (by kernel_rfl) (by kernel_rfl) (by kernel_rfl) (by kernel_rfl) (fun _ _ _ h => h) (Or.inl ⟨by rfl, ?_⟩) (by assumption) ?_
      rotate_left
      focus ((intro wq hSw; (try dsimp only at hSw); go_simp); try with_reducible rfl)
      try simp only [Act.put, List.getElem_toArray, List.getElem_cons_succ, List.getElem_cons_zero, List.setIfInBounds_toArray, List.set_cons_zero, List.set_cons_succ]
      refine anyT_take (i := 5) (v := ?_) rfl (by kernel_rfl) (by kernel_rfl) (by kernel_rfl) (by kernel_rfl) (fun _ _ _ h => h) (Or.inl ⟨by rfl, ?_⟩) (by assumption) ?_
      rotate_left
      focus ((intro wq hSw; (try dsimp only at hSw); go_simp); try with_reducible rfl)
      try simp only [Act.put, List.getElem_toArray, List.getElem_cons_succ, List.getElem_cons_zero, List.setIfInBounds_toArray, List.set_cons_zero, List.set_cons_succ]
      refine anyT_one (i := 6) (by kernel_rfl) rfl (fun K hK => ?_)
      go_simp
      refine (HC.out _ hB).mono ?_
      rintro e wk ⟨rfl, m, rfl⟩
      go_simp
      have hB1 := below_drewN hB m
      refine hK.out _ _ (fun _ => HX.out _ hB1) ?_
      clear hK K
      generalize W.drewN m = W1 at *
      try simp only [Act.put, List.getElem_toArray, List.getElem_cons_succ, List.getElem_cons_zero, List.setIfInBounds_toArray, List.set_cons_zero, List.set_cons_succ]
      refine anyT_one (i := 7) (by kernel_rfl) rfl (fun K hK => ?_)
      go_simp
      refine (begin_yes P 3 n T g.wn W1 hn0 (by rw [(HF.out W1 hB1).1, HH.out]) (HF.out W1 hB1).2 (HR.out.below hB1).frozen).mono ?_
      rintro e wk ⟨rfl, hwk⟩
      have HFIN : Hid (RingAt P R (g.claim n) wk ∧ Gw P R w wk) := Lib.hid (by
        have h1 := (HR.out.below hB1).claim n
        rw [HT.out] at h1
        rw [hwk]
        exact ⟨h1, ((gw_below hB1).setP _ _).setP _ _⟩)
      clear hwk
      go_simp
      refine hK.out _ _ (fun h => by cases h) ?_
      clear hK K
      try simp only [Act.put, List.getElem_toArray, List.getElem_cons_succ, List.getElem_cons_zero, List.setIfInBounds_toArray, List.set_cons_zero, List.set_cons_succ]
      refine anyT_one (i := 8) (by kernel_rfl) rfl (fun K hK => ?_)
      go_simp
      refine hK.out _ _ (fun h => by cases h) ?_
      clear hK K
      refine anyT_done (by kernel_rfl) ?_ _
      go_wp2_with fail
      go_ret
      exact ⟨rfl, HFIN.out.1, HFIN.out.2⟩
set_option maxRecDepth 100000 in
theorem claim_any (P R : Nat) (g : Rg) (n : Int) (w : World) (h : RingAt P R g w) (hs : g.sz ≤ 1024) : Calls Try.prog 29 #[.pointer (some ⟨P, 0, none⟩), .int .i64 n] w (Meth P R (claimR g n) (.int .i64 (claimU g n)) (claimK g n) w) := by
  have hmf := makes
  obtain ⟨hP, hR⟩ := h.lt
  obtain ⟨X, hX⟩ : ∃ X, Obj.cells #[.pointer (some ⟨P, 0, none⟩)] 25 = X := ⟨_, rfl⟩
  obtain ⟨Y, hY⟩ : ∃ Y, Obj.cells #[.int .i64 n] 3 = Y := ⟨_, rfl⟩
  have hbel : Below w.heap.size w ((w.alloc X).alloc Y) := (((Below.refl _ w).alloc (Nat.le_refl _) _).alloc (by simp) _)
  have c0 : ((w.alloc X).alloc Y).cell? ⟨w.heap.size, 0, none⟩ = some (.pointer (some ⟨P, 0, none⟩)) := by
    refine (Same.alloc _ Y).cell ?_; rw [← hX]; simp [go_sem]
  have c1 : ((w.alloc X).alloc Y).cell? ⟨w.heap.size + 1, 0, none⟩ = some (.int .i64 n) := by rw [← hY]; simp [go_sem]
  obtain ⟨Z, hZ⟩ : ∃ Z, (w.alloc X).alloc Y = Z := ⟨_, rfl⟩
  rw [hZ] at hbel c0 c1
  have hf := fit42_ring (P := P) (R := R) (g := claimR g n) (u := .int .i64 (claimU g n)) (k := claimK g n) 83 #[at0 w.heap.size, at0 (w.heap.size + 1)] Z (Nat.lt_of_lt_of_le hP hbel.size) (Nat.lt_of_lt_of_le hR hbel.size) (fun hk => by unfold claimU; rw [if_neg hk]) (enters_of Try.func83 (by kernel_rfl) rfl _)
    (fun x hx => claim83_any P R _ _ g n x ((h.below hbel).below hx) hs ((Same.of_below hx).cell c0) ((Same.of_below hx).cell c1))
  have HB := Lib.hid (gw_below (P := P) (R := R) hbel)
  generalize claimR g n = g2 at *
  generalize claimU g n = u at *
  generalize claimK g n = k at *
  clear hbel c0 c1 h
  subst hZ
  subst hX
  subst hY
  go_enter Try.func29, Try.ntmps29
  go_wp2_with (go_at_call 42; (with_reducible refine hf.mono ?_); rintro e w1 ⟨rfl, h1, h2⟩; have HH := Lib.hid (And.intro h1 (HB.out.trans h2)); clear h1 h2)
  go_ret2
  exact ⟨rfl, HH.out.1, HH.out.2⟩
end Go.Proofs.Ytgcohmlapgnbdaa
