/- Join: the program's answer. -/
import Derived.Test.YtpjmiiejmkgmdaaRA
import Derived.Test.YtpjmiiejmkgmdaaJA
import Derived.Test.YtpjmiiejmkgmdaaNB
import Derived.Deep.DeepCutAuto
namespace Go.Proofs.Ytpjmiiejmkgmdaa
open Go.RowKit Go.Deep

section
variable {P : Program} {ops : Array Oper} {Q : Exit → Act → World → Prop} {md : Region.Mode} {S : World → Prop} {tl : List Nat}
/-- Three may come up. -/
theorem anyT_three {i j l : Nat} {oi oj ol : Oper} {fuel : Nat} {listed : Array Bool} {a : Act} {w : World} (hr : Region.ready md ops listed = [i, j, l]) (hi : ops[i]? = some oi) (hj : ops[j]? = some oj) (hl : ops[l]? = some ol)
    (h1 : ∀ K' : Act → World → Prop, Shut (∀ a w, (tl.contains i = false → S w) → anyT P md ops Q S tl fuel (listed.setIfInBounds i true) a w → K' a w) → if Region.wanted oi (yielded ops a.tmps) = true then Oper.wp P oi a w K' Q else K' (a.put oi.dst undef) w)
    (h2 : ∀ K' : Act → World → Prop, Shut (∀ a w, (tl.contains j = false → S w) → anyT P md ops Q S tl fuel (listed.setIfInBounds j true) a w → K' a w) → if Region.wanted oj (yielded ops a.tmps) = true then Oper.wp P oj a w K' Q else K' (a.put oj.dst undef) w)
    (h3 : ∀ K' : Act → World → Prop, Shut (∀ a w, (tl.contains l = false → S w) → anyT P md ops Q S tl fuel (listed.setIfInBounds l true) a w → K' a w) → if Region.wanted ol (yielded ops a.tmps) = true then Oper.wp P ol a w K' Q else K' (a.put ol.dst undef) w) :
    anyT P md ops Q S tl (fuel + 1) listed a w := by
  refine ⟨fun h0 => (by rw [hr] at h0; cases h0), fun k hk => ?_⟩
  rw [hr] at hk
  rcases List.mem_cons.1 hk with rfl | hk
  · exact wpOp_step hi (fun K' hK => h1 K' (fun a w hS hW => hK a w ⟨hS, hW⟩))
  · rcases List.mem_cons.1 hk with rfl | hk
    · exact wpOp_step hj (fun K' hK => h2 K' (fun a w hS hW => hK a w ⟨hS, hW⟩))
    · obtain rfl : k = l := by simpa using hk
      exact wpOp_step hl (fun K' hK => h3 K' (fun a w hS hW => hK a w ⟨hS, hW⟩))
end

set_option maxHeartbeats 4000000 in
set_option maxRecDepth 100000 in
theorem join1_noA (a s : List (List Int)) (va vs : Value) (Ba Bs : Nat) (w : World) (ha : MatIn w a va) (hs : MatIn w s vs) (hca : w.cell? ⟨Ba, 0, none⟩ = some va) (hcs : w.cell? ⟨Bs, 0, none⟩ = some vs) (hva : validM a = false) :
    Calls Try.prog 67 #[.pointer (some ⟨Ba, 0, none⟩), .pointer (some ⟨Bs, 0, none⟩)] w (Leaves96 1 w) := by
  obtain ⟨a0, ca, rfl, hina, _, _⟩ := id ha
  obtain ⟨s0, cs, rfl, hins, _, _⟩ := id hs
  have HA55 := Lib.hid (fun (x : World) (hx : Below w.drew.heap.size w.drew x) => matrixOf_no a _ x ((ha.mono (Same.of_below ((Below.refl w.heap.size w).drew))).mono (Same.of_below hx)) hva)
  have HS55 := Lib.hid (fun (x : World) (hx : Below w.drew.heap.size w.drew x) => (trivial : True))
  have HW := Lib.hid (show Below w.heap.size w w.drew from (Below.refl _ w).drew)
  have hS0 : w.drew.cell? ⟨Ba, 0, none⟩ = some (.slice a0 a.length ca) ∧ w.drew.cell? ⟨Bs, 0, none⟩ = some (.slice s0 s.length cs) ∧ Below w.drew.heap.size w.drew w.drew := ⟨hca, hcs, Below.refl _ _⟩
  have HS := Lib.hid (fun (x : World) (hx : Below w.drew.heap.size w.drew x) => show x.cell? ⟨Ba, 0, none⟩ = some (.slice a0 a.length ca) ∧ x.cell? ⟨Bs, 0, none⟩ = some (.slice s0 s.length cs) ∧ Below w.drew.heap.size w.drew x from
    ⟨(Same.of_below hx).cell hS0.1, (Same.of_below hx).cell hS0.2.1, hx⟩)
  clear ha hs hina hins hca hcs hva
  go_enter Try.func67, Try.ntmps67
  go_wp2_with fail
  refine region_T (S := fun wx => wx.cell? ⟨Ba, 0, none⟩ = some (.slice a0 a.length ca) ∧ wx.cell? ⟨Bs, 0, none⟩ = some (.slice s0 s.length cs) ∧ Below w.drew.heap.size w.drew wx) [6, 7] (by kernel_rfl) hS0 (fun _ => ?_)
  obtain ⟨W, hW⟩ : ∃ W, w.drew = W := ⟨_, rfl⟩
  rw [hW] at hS0 HS HW HA55 HS55 ⊢
  clear hW
  refine anyT_take (i := 0) (v := ?_) rfl (by kernel_rfl) (by kernel_rfl) (by kernel_rfl) (by kernel_rfl) (fun _ _ _ h => h) (Or.inl ⟨by rfl, ?_⟩) (by assumption) ?_
  rotate_left
  focus ((intro wq hSw; (try dsimp only at hSw); go_simp); try with_reducible rfl)
  try simp only [Act.put, List.setIfInBounds_toArray, List.set_cons_zero, List.set_cons_succ]
  refine anyT_take (i := 2) (v := ?_) rfl (by kernel_rfl) (by kernel_rfl) (by kernel_rfl) (by kernel_rfl) (fun _ _ _ h => h) (Or.inl ⟨by rfl, ?_⟩) (by assumption) ?_
  rotate_left
  focus ((intro wq hSw; (try dsimp only at hSw); go_simp); try with_reducible rfl)
  try simp only [Act.put, List.setIfInBounds_toArray, List.set_cons_zero, List.set_cons_succ]
  refine anyT_three (i := 1) (j := 4) (l := 5) (by kernel_rfl) rfl rfl rfl (fun K hK => ?_) (fun K hK => ?_) (fun K hK => ?_)
  · go_simp
    refine (HA55.out _ (Below.refl W.heap.size W)).mono ?_
    rintro e wq ⟨rfl, hb⟩
    exact ⟨rfl, rfl, (HW.out.trans ((Below.refl W.heap.size W).mono HW.out.size)).trans (hb.mono (by have := HW.out.size; simp; omega))⟩
  · go_simp
    refine hK.out _ _ (fun _ => HS.out _ ((Below.refl W.heap.size W).alloc (by simp <;> omega) _)) ?_
    clear hK K
    try simp only [Act.put, List.setIfInBounds_toArray, List.set_cons_zero, List.set_cons_succ]
    refine anyT_two (i := 1) (j := 5) (by kernel_rfl) rfl rfl (fun K hK => ?_) (fun K hK => ?_)
    · go_simp
      refine (HA55.out _ ((Below.refl W.heap.size W).alloc (by simp <;> omega) _)).mono ?_
      rintro e wq ⟨rfl, hb⟩
      exact ⟨rfl, rfl, (HW.out.trans (((Below.refl W.heap.size W).alloc (by simp <;> omega) _).mono HW.out.size)).trans (hb.mono (by have := HW.out.size; simp; omega))⟩
    · go_simp
      refine hK.out _ _ (fun _ => HS.out _ (((Below.refl W.heap.size W).alloc (by simp <;> omega) _).alloc (by simp <;> omega) _)) ?_
      clear hK K
      try simp only [Act.put, List.setIfInBounds_toArray, List.set_cons_zero, List.set_cons_succ]
      refine anyT_one (i := 1) (by kernel_rfl) rfl (fun K hK => ?_)
      · go_simp
        refine (HA55.out _ (((Below.refl W.heap.size W).alloc (by simp <;> omega) _).alloc (by simp <;> omega) _)).mono ?_
        rintro e wq ⟨rfl, hb⟩
        exact ⟨rfl, rfl, (HW.out.trans ((((Below.refl W.heap.size W).alloc (by simp <;> omega) _).alloc (by simp <;> omega) _).mono HW.out.size)).trans (hb.mono (by have := HW.out.size; simp; omega))⟩
  · go_simp
    refine hK.out _ _ (fun _ => HS.out _ ((Below.refl W.heap.size W).alloc (by simp <;> omega) _)) ?_
    clear hK K
    try simp only [Act.put, List.setIfInBounds_toArray, List.set_cons_zero, List.set_cons_succ]
    refine anyT_two (i := 1) (j := 4) (by kernel_rfl) rfl rfl (fun K hK => ?_) (fun K hK => ?_)
    · go_simp
      refine (HA55.out _ ((Below.refl W.heap.size W).alloc (by simp <;> omega) _)).mono ?_
      rintro e wq ⟨rfl, hb⟩
      exact ⟨rfl, rfl, (HW.out.trans (((Below.refl W.heap.size W).alloc (by simp <;> omega) _).mono HW.out.size)).trans (hb.mono (by have := HW.out.size; simp; omega))⟩
    · go_simp
      refine hK.out _ _ (fun _ => HS.out _ (((Below.refl W.heap.size W).alloc (by simp <;> omega) _).alloc (by simp <;> omega) _)) ?_
      clear hK K
      try simp only [Act.put, List.setIfInBounds_toArray, List.set_cons_zero, List.set_cons_succ]
      refine anyT_one (i := 1) (by kernel_rfl) rfl (fun K hK => ?_)
      · go_simp
        refine (HA55.out _ (((Below.refl W.heap.size W).alloc (by simp <;> omega) _).alloc (by simp <;> omega) _)).mono ?_
        rintro e wq ⟨rfl, hb⟩
        exact ⟨rfl, rfl, (HW.out.trans ((((Below.refl W.heap.size W).alloc (by simp <;> omega) _).alloc (by simp <;> omega) _).mono HW.out.size)).trans (hb.mono (by have := HW.out.size; simp; omega))⟩

set_option maxHeartbeats 4000000 in
set_option maxRecDepth 100000 in
theorem join1_noS (a s : List (List Int)) (va vs : Value) (Ba Bs : Nat) (w : World) (ha : MatIn w a va) (hs : MatIn w s vs) (hca : w.cell? ⟨Ba, 0, none⟩ = some va) (hcs : w.cell? ⟨Bs, 0, none⟩ = some vs) (hva : validM a = true) (hvs : validM s = false) :
    Calls Try.prog 67 #[.pointer (some ⟨Ba, 0, none⟩), .pointer (some ⟨Bs, 0, none⟩)] w (Leaves96 1 w) := by
  obtain ⟨a0, ca, rfl, hina, _, _⟩ := id ha
  obtain ⟨s0, cs, rfl, hins, _, _⟩ := id hs
  have HA55 := Lib.hid (fun (x : World) (hx : Below w.drew.heap.size w.drew x) => matrixOf_ok a a0 ca x ((ha.mono (Same.of_below ((Below.refl w.heap.size w).drew))).mono (Same.of_below hx)) hva)
  have HS55 := Lib.hid (fun (x : World) (hx : Below w.drew.heap.size w.drew x) => matrixOf_no s _ x ((hs.mono (Same.of_below ((Below.refl w.heap.size w).drew))).mono (Same.of_below hx)) hvs)
  have HW := Lib.hid (show Below w.heap.size w w.drew from (Below.refl _ w).drew)
  have hS0 : w.drew.cell? ⟨Ba, 0, none⟩ = some (.slice a0 a.length ca) ∧ w.drew.cell? ⟨Bs, 0, none⟩ = some (.slice s0 s.length cs) ∧ Below w.drew.heap.size w.drew w.drew := ⟨hca, hcs, Below.refl _ _⟩
  have HS := Lib.hid (fun (x : World) (hx : Below w.drew.heap.size w.drew x) => show x.cell? ⟨Ba, 0, none⟩ = some (.slice a0 a.length ca) ∧ x.cell? ⟨Bs, 0, none⟩ = some (.slice s0 s.length cs) ∧ Below w.drew.heap.size w.drew x from
    ⟨(Same.of_below hx).cell hS0.1, (Same.of_below hx).cell hS0.2.1, hx⟩)
  clear ha hs hina hins hca hcs hva hvs
  go_enter Try.func67, Try.ntmps67
  go_wp2_with fail
  refine region_T (S := fun wx => wx.cell? ⟨Ba, 0, none⟩ = some (.slice a0 a.length ca) ∧ wx.cell? ⟨Bs, 0, none⟩ = some (.slice s0 s.length cs) ∧ Below w.drew.heap.size w.drew wx) [6, 7] (by kernel_rfl) hS0 (fun _ => ?_)
  obtain ⟨W, hW⟩ : ∃ W, w.drew = W := ⟨_, rfl⟩
  rw [hW] at hS0 HS HW HA55 HS55 ⊢
  clear hW
  refine anyT_take (i := 0) (v := ?_) rfl (by kernel_rfl) (by kernel_rfl) (by kernel_rfl) (by kernel_rfl) (fun _ _ _ h => h) (Or.inl ⟨by rfl, ?_⟩) (by assumption) ?_
  rotate_left
  focus ((intro wq hSw; (try dsimp only at hSw); go_simp); try with_reducible rfl)
  try simp only [Act.put, List.setIfInBounds_toArray, List.set_cons_zero, List.set_cons_succ]
  refine anyT_take (i := 2) (v := ?_) rfl (by kernel_rfl) (by kernel_rfl) (by kernel_rfl) (by kernel_rfl) (fun _ _ _ h => h) (Or.inl ⟨by rfl, ?_⟩) (by assumption) ?_
  rotate_left
  focus ((intro wq hSw; (try dsimp only at hSw); go_simp); try with_reducible rfl)
  try simp only [Act.put, List.setIfInBounds_toArray, List.set_cons_zero, List.set_cons_succ]
  refine anyT_three (i := 1) (j := 4) (l := 5) (by kernel_rfl) rfl rfl rfl (fun K hK => ?_) (fun K hK => ?_) (fun K hK => ?_)
  · go_simp
    refine (HA55.out _ (Below.refl W.heap.size W)).mono ?_
    rintro e wq ⟨rfl, rfl⟩
    refine hK.out _ _ (fun _ => HS.out _ ((Below.refl W.heap.size W).alloc (by simp <;> omega) _)) ?_
    clear hK K
    try simp only [Act.put, List.setIfInBounds_toArray, List.set_cons_zero, List.set_cons_succ]
    refine anyT_three (i := 3) (j := 4) (l := 5) (by kernel_rfl) rfl rfl rfl (fun K hK => ?_) (fun K hK => ?_) (fun K hK => ?_)
    · go_simp
      refine (HS55.out _ ((Below.refl W.heap.size W).alloc (by simp <;> omega) _)).mono ?_
      rintro e wq ⟨rfl, hb⟩
      exact ⟨rfl, rfl, (HW.out.trans (((Below.refl W.heap.size W).alloc (by simp <;> omega) _).mono HW.out.size)).trans (hb.mono (by have := HW.out.size; simp; omega))⟩
    · go_simp
      refine hK.out _ _ (fun _ => HS.out _ (((Below.refl W.heap.size W).alloc (by simp <;> omega) _).alloc (by simp <;> omega) _)) ?_
      clear hK K
      try simp only [Act.put, List.setIfInBounds_toArray, List.set_cons_zero, List.set_cons_succ]
      refine anyT_two (i := 3) (j := 5) (by kernel_rfl) rfl rfl (fun K hK => ?_) (fun K hK => ?_)
      · go_simp
        refine (HS55.out _ (((Below.refl W.heap.size W).alloc (by simp <;> omega) _).alloc (by simp <;> omega) _)).mono ?_
        rintro e wq ⟨rfl, hb⟩
        exact ⟨rfl, rfl, (HW.out.trans ((((Below.refl W.heap.size W).alloc (by simp <;> omega) _).alloc (by simp <;> omega) _).mono HW.out.size)).trans (hb.mono (by have := HW.out.size; simp; omega))⟩
      · go_simp
        refine hK.out _ _ (fun _ => HS.out _ ((((Below.refl W.heap.size W).alloc (by simp <;> omega) _).alloc (by simp <;> omega) _).alloc (by simp <;> omega) _)) ?_
        clear hK K
        try simp only [Act.put, List.setIfInBounds_toArray, List.set_cons_zero, List.set_cons_succ]
        refine anyT_one (i := 3) (by kernel_rfl) rfl (fun K hK => ?_)
        · go_simp
          refine (HS55.out _ ((((Below.refl W.heap.size W).alloc (by simp <;> omega) _).alloc (by simp <;> omega) _).alloc (by simp <;> omega) _)).mono ?_
          rintro e wq ⟨rfl, hb⟩
          exact ⟨rfl, rfl, (HW.out.trans (((((Below.refl W.heap.size W).alloc (by simp <;> omega) _).alloc (by simp <;> omega) _).alloc (by simp <;> omega) _).mono HW.out.size)).trans (hb.mono (by have := HW.out.size; simp; omega))⟩
    · go_simp
      refine hK.out _ _ (fun _ => HS.out _ (((Below.refl W.heap.size W).alloc (by simp <;> omega) _).alloc (by simp <;> omega) _)) ?_
      clear hK K
      try simp only [Act.put, List.setIfInBounds_toArray, List.set_cons_zero, List.set_cons_succ]
      refine anyT_two (i := 3) (j := 4) (by kernel_rfl) rfl rfl (fun K hK => ?_) (fun K hK => ?_)
      · go_simp
        refine (HS55.out _ (((Below.refl W.heap.size W).alloc (by simp <;> omega) _).alloc (by simp <;> omega) _)).mono ?_
        rintro e wq ⟨rfl, hb⟩
        exact ⟨rfl, rfl, (HW.out.trans ((((Below.refl W.heap.size W).alloc (by simp <;> omega) _).alloc (by simp <;> omega) _).mono HW.out.size)).trans (hb.mono (by have := HW.out.size; simp; omega))⟩
      · go_simp
        refine hK.out _ _ (fun _ => HS.out _ ((((Below.refl W.heap.size W).alloc (by simp <;> omega) _).alloc (by simp <;> omega) _).alloc (by simp <;> omega) _)) ?_
        clear hK K
        try simp only [Act.put, List.setIfInBounds_toArray, List.set_cons_zero, List.set_cons_succ]
        refine anyT_one (i := 3) (by kernel_rfl) rfl (fun K hK => ?_)
        · go_simp
          refine (HS55.out _ ((((Below.refl W.heap.size W).alloc (by simp <;> omega) _).alloc (by simp <;> omega) _).alloc (by simp <;> omega) _)).mono ?_
          rintro e wq ⟨rfl, hb⟩
          exact ⟨rfl, rfl, (HW.out.trans (((((Below.refl W.heap.size W).alloc (by simp <;> omega) _).alloc (by simp <;> omega) _).alloc (by simp <;> omega) _).mono HW.out.size)).trans (hb.mono (by have := HW.out.size; simp; omega))⟩
  · go_simp
    refine hK.out _ _ (fun _ => HS.out _ ((Below.refl W.heap.size W).alloc (by simp <;> omega) _)) ?_
    clear hK K
    try simp only [Act.put, List.setIfInBounds_toArray, List.set_cons_zero, List.set_cons_succ]
    refine anyT_two (i := 1) (j := 5) (by kernel_rfl) rfl rfl (fun K hK => ?_) (fun K hK => ?_)
    · go_simp
      refine (HA55.out _ ((Below.refl W.heap.size W).alloc (by simp <;> omega) _)).mono ?_
      rintro e wq ⟨rfl, rfl⟩
      refine hK.out _ _ (fun _ => HS.out _ (((Below.refl W.heap.size W).alloc (by simp <;> omega) _).alloc (by simp <;> omega) _)) ?_
      clear hK K
      try simp only [Act.put, List.setIfInBounds_toArray, List.set_cons_zero, List.set_cons_succ]
      refine anyT_two (i := 3) (j := 5) (by kernel_rfl) rfl rfl (fun K hK => ?_) (fun K hK => ?_)
      · go_simp
        refine (HS55.out _ (((Below.refl W.heap.size W).alloc (by simp <;> omega) _).alloc (by simp <;> omega) _)).mono ?_
        rintro e wq ⟨rfl, hb⟩
        exact ⟨rfl, rfl, (HW.out.trans ((((Below.refl W.heap.size W).alloc (by simp <;> omega) _).alloc (by simp <;> omega) _).mono HW.out.size)).trans (hb.mono (by have := HW.out.size; simp; omega))⟩
      · go_simp
        refine hK.out _ _ (fun _ => HS.out _ ((((Below.refl W.heap.size W).alloc (by simp <;> omega) _).alloc (by simp <;> omega) _).alloc (by simp <;> omega) _)) ?_
        clear hK K
        try simp only [Act.put, List.setIfInBounds_toArray, List.set_cons_zero, List.set_cons_succ]
        refine anyT_one (i := 3) (by kernel_rfl) rfl (fun K hK => ?_)
        · go_simp
          refine (HS55.out _ ((((Below.refl W.heap.size W).alloc (by simp <;> omega) _).alloc (by simp <;> omega) _).alloc (by simp <;> omega) _)).mono ?_
          rintro e wq ⟨rfl, hb⟩
          exact ⟨rfl, rfl, (HW.out.trans (((((Below.refl W.heap.size W).alloc (by simp <;> omega) _).alloc (by simp <;> omega) _).alloc (by simp <;> omega) _).mono HW.out.size)).trans (hb.mono (by have := HW.out.size; simp; omega))⟩
    · go_simp
      refine hK.out _ _ (fun _ => HS.out _ (((Below.refl W.heap.size W).alloc (by simp <;> omega) _).alloc (by simp <;> omega) _)) ?_
      clear hK K
      try simp only [Act.put, List.setIfInBounds_toArray, List.set_cons_zero, List.set_cons_succ]
      refine anyT_one (i := 1) (by kernel_rfl) rfl (fun K hK => ?_)
      · go_simp
        refine (HA55.out _ (((Below.refl W.heap.size W).alloc (by simp <;> omega) _).alloc (by simp <;> omega) _)).mono ?_
        rintro e wq ⟨rfl, rfl⟩
        refine hK.out _ _ (fun _ => HS.out _ ((((Below.refl W.heap.size W).alloc (by simp <;> omega) _).alloc (by simp <;> omega) _).alloc (by simp <;> omega) _)) ?_
        clear hK K
        try simp only [Act.put, List.setIfInBounds_toArray, List.set_cons_zero, List.set_cons_succ]
        refine anyT_one (i := 3) (by kernel_rfl) rfl (fun K hK => ?_)
        · go_simp
          refine (HS55.out _ ((((Below.refl W.heap.size W).alloc (by simp <;> omega) _).alloc (by simp <;> omega) _).alloc (by simp <;> omega) _)).mono ?_
          rintro e wq ⟨rfl, hb⟩
          exact ⟨rfl, rfl, (HW.out.trans (((((Below.refl W.heap.size W).alloc (by simp <;> omega) _).alloc (by simp <;> omega) _).alloc (by simp <;> omega) _).mono HW.out.size)).trans (hb.mono (by have := HW.out.size; simp; omega))⟩
  · go_simp
    refine hK.out _ _ (fun _ => HS.out _ ((Below.refl W.heap.size W).alloc (by simp <;> omega) _)) ?_
    clear hK K
    try simp only [Act.put, List.setIfInBounds_toArray, List.set_cons_zero, List.set_cons_succ]
    refine anyT_two (i := 1) (j := 4) (by kernel_rfl) rfl rfl (fun K hK => ?_) (fun K hK => ?_)
    · go_simp
      refine (HA55.out _ ((Below.refl W.heap.size W).alloc (by simp <;> omega) _)).mono ?_
      rintro e wq ⟨rfl, rfl⟩
      refine hK.out _ _ (fun _ => HS.out _ (((Below.refl W.heap.size W).alloc (by simp <;> omega) _).alloc (by simp <;> omega) _)) ?_
      clear hK K
      try simp only [Act.put, List.setIfInBounds_toArray, List.set_cons_zero, List.set_cons_succ]
      refine anyT_two (i := 3) (j := 4) (by kernel_rfl) rfl rfl (fun K hK => ?_) (fun K hK => ?_)
      · go_simp
        refine (HS55.out _ (((Below.refl W.heap.size W).alloc (by simp <;> omega) _).alloc (by simp <;> omega) _)).mono ?_
        rintro e wq ⟨rfl, hb⟩
        exact ⟨rfl, rfl, (HW.out.trans ((((Below.refl W.heap.size W).alloc (by simp <;> omega) _).alloc (by simp <;> omega) _).mono HW.out.size)).trans (hb.mono (by have := HW.out.size; simp; omega))⟩
      · go_simp
        refine hK.out _ _ (fun _ => HS.out _ ((((Below.refl W.heap.size W).alloc (by simp <;> omega) _).alloc (by simp <;> omega) _).alloc (by simp <;> omega) _)) ?_
        clear hK K
        try simp only [Act.put, List.setIfInBounds_toArray, List.set_cons_zero, List.set_cons_succ]
        refine anyT_one (i := 3) (by kernel_rfl) rfl (fun K hK => ?_)
        · go_simp
          refine (HS55.out _ ((((Below.refl W.heap.size W).alloc (by simp <;> omega) _).alloc (by simp <;> omega) _).alloc (by simp <;> omega) _)).mono ?_
          rintro e wq ⟨rfl, hb⟩
          exact ⟨rfl, rfl, (HW.out.trans (((((Below.refl W.heap.size W).alloc (by simp <;> omega) _).alloc (by simp <;> omega) _).alloc (by simp <;> omega) _).mono HW.out.size)).trans (hb.mono (by have := HW.out.size; simp; omega))⟩
    · go_simp
      refine hK.out _ _ (fun _ => HS.out _ (((Below.refl W.heap.size W).alloc (by simp <;> omega) _).alloc (by simp <;> omega) _)) ?_
      clear hK K
      try simp only [Act.put, List.setIfInBounds_toArray, List.set_cons_zero, List.set_cons_succ]
      refine anyT_one (i := 1) (by kernel_rfl) rfl (fun K hK => ?_)
      · go_simp
        refine (HA55.out _ (((Below.refl W.heap.size W).alloc (by simp <;> omega) _).alloc (by simp <;> omega) _)).mono ?_
        rintro e wq ⟨rfl, rfl⟩
        refine hK.out _ _ (fun _ => HS.out _ ((((Below.refl W.heap.size W).alloc (by simp <;> omega) _).alloc (by simp <;> omega) _).alloc (by simp <;> omega) _)) ?_
        clear hK K
        try simp only [Act.put, List.setIfInBounds_toArray, List.set_cons_zero, List.set_cons_succ]
        refine anyT_one (i := 3) (by kernel_rfl) rfl (fun K hK => ?_)
        · go_simp
          refine (HS55.out _ ((((Below.refl W.heap.size W).alloc (by simp <;> omega) _).alloc (by simp <;> omega) _).alloc (by simp <;> omega) _)).mono ?_
          rintro e wq ⟨rfl, hb⟩
          exact ⟨rfl, rfl, (HW.out.trans (((((Below.refl W.heap.size W).alloc (by simp <;> omega) _).alloc (by simp <;> omega) _).alloc (by simp <;> omega) _).mono HW.out.size)).trans (hb.mono (by have := HW.out.size; simp; omega))⟩

/-- Both matrices lie with their sizes. -/
structure Mk (w : World) (a s : List (List Int)) (a0 s0 : Option Addr) (ca cs b3 b4 : Nat) (x : World) : Prop where
  c30 : x.cell? ⟨b3, 0, none⟩ = some (.int .i64 a.length)
  c31 : x.cell? ⟨b3, 1, none⟩ = some (.int .i64 (cols a))
  c32 : x.cell? ⟨b3, 2, none⟩ = some (.slice a0 a.length ca)
  c40 : x.cell? ⟨b4, 0, none⟩ = some (.int .i64 s.length)
  c41 : x.cell? ⟨b4, 1, none⟩ = some (.int .i64 (cols s))
  c42 : x.cell? ⟨b4, 2, none⟩ = some (.slice s0 s.length cs)
  below : Below w.heap.size w x
end Go.Proofs.Ytpjmiiejmkgmdaa
