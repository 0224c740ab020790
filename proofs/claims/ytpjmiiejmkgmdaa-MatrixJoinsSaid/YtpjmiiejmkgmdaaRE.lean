/- Join's inner function, both matrices valid. -/
import Derived.Test.YtpjmiiejmkgmdaaRC
namespace Go.Proofs.Ytpjmiiejmkgmdaa
open Go.RowKit Go.Deep
theorem at0 (W : World) (A B C D : Obj) : ((((W.alloc A).alloc B).alloc C).alloc D).heap[W.heap.size]? = some A :=
  (blk_alloc_lt _ _ _ (by simp; omega)).trans ((blk_alloc_lt _ _ _ (by simp; omega)).trans ((blk_alloc_lt _ _ _ (by simp)).trans (blk_alloc_new W A)))
theorem at1 (W : World) (A B C D : Obj) : ((((W.alloc A).alloc B).alloc C).alloc D).heap[W.heap.size + 1]? = some B := by
  have h0 := blk_alloc_new (W.alloc A) B
  rw [World.size_alloc] at h0
  exact (blk_alloc_lt _ D _ (by simp <;> omega)).trans ((blk_alloc_lt _ C _ (by simp <;> omega)).trans h0)
theorem at2 (W : World) (A B C D : Obj) : ((((W.alloc A).alloc B).alloc C).alloc D).heap[W.heap.size + 1 + 1]? = some C :=
  (blk_alloc_lt _ _ _ (by simp)).trans (by have := blk_alloc_new ((W.alloc A).alloc B) C; simp only [World.size_alloc] at this; exact this)
theorem at3 (W : World) (A B C D : Obj) : ((((W.alloc A).alloc B).alloc C).alloc D).heap[W.heap.size + 1 + 1 + 1]? = some D := by
  have := blk_alloc_new (((W.alloc A).alloc B).alloc C) D; simp only [World.size_alloc] at this; exact this
theorem Mk.of {w : World} {a s : List (List Int)} {a0 s0 : Option Addr} {ca cs b3 b4 : Nat} {x : World} (h3 : x.heap[b3]? = some (.cells #[.int .i64 a.length, .int .i64 (cols a), .slice a0 a.length ca] 79))
    (h4 : x.heap[b4]? = some (.cells #[.int .i64 s.length, .int .i64 (cols s), .slice s0 s.length cs] 79)) (hb : Below w.heap.size w x) : Mk w a s a0 s0 ca cs b3 b4 x :=
  ⟨by simp [World.cell?, h3], by simp [World.cell?, h3], by simp [World.cell?, h3], by simp [World.cell?, h4], by simp [World.cell?, h4], by simp [World.cell?, h4], hb⟩

set_option maxHeartbeats 4000000 in
set_option maxRecDepth 100000 in
theorem join1_va (a s : List (List Int)) (va vs : Value) (Ba Bs : Nat) (w : World) (ha : MatIn w a va) (hs : MatIn w s vs) (hca : w.cell? ⟨Ba, 0, none⟩ = some va) (hcs : w.cell? ⟨Bs, 0, none⟩ = some vs) (hva : validM a = true) (hvs : validM s = true) :
    Calls Try.prog 67 #[.pointer (some ⟨Ba, 0, none⟩), .pointer (some ⟨Bs, 0, none⟩)] w (fun e w' => (a.length = cols s ∧ Gives (fun u w => MatIn w (joinM a s) u) w e w') ∨ (a.length ≠ cols s ∧ Leaves96 11 w e w')) := by
  obtain ⟨a0, ca, rfl, hina, _, _⟩ := id ha
  obtain ⟨s0, cs, rfl, hins, _, _⟩ := id hs
  have HA55 := Lib.hid (fun (x : World) (hx : Below w.drew.heap.size w.drew x) => matrixOf_ok a a0 ca x ((ha.mono (Same.of_below ((Below.refl w.heap.size w).drew))).mono (Same.of_below hx)) hva)
  have HS55 := Lib.hid (fun (x : World) (hx : Below w.drew.heap.size w.drew x) => matrixOf_ok s s0 cs x ((hs.mono (Same.of_below ((Below.refl w.heap.size w).drew))).mono (Same.of_below hx)) hvs)
  have HW := Lib.hid (show Below w.heap.size w w.drew from (Below.refl _ w).drew)
  have hS0 : w.drew.cell? ⟨Ba, 0, none⟩ = some (.slice a0 a.length ca) ∧ w.drew.cell? ⟨Bs, 0, none⟩ = some (.slice s0 s.length cs) ∧ Below w.drew.heap.size w.drew w.drew := ⟨hca, hcs, Below.refl _ _⟩
  have HS := Lib.hid (fun (x : World) (hx : Below w.drew.heap.size w.drew x) => show x.cell? ⟨Ba, 0, none⟩ = some (.slice a0 a.length ca) ∧ x.cell? ⟨Bs, 0, none⟩ = some (.slice s0 s.length cs) ∧ Below w.drew.heap.size w.drew x from
    ⟨(Same.of_below hx).cell hS0.1, (Same.of_below hx).cell hS0.2.1, hx⟩)
  have HAI := Lib.hid ha
  have HSI := Lib.hid hs
  have HVA := Lib.hid hva
  have HVS := Lib.hid hvs
  clear ha hs hina hins hca hcs hva hvs
  go_enter Try.func67, Try.ntmps67
  go_upto_region 1 with fail
  go_cut [3, 4] (fun p q wx => ∃ b3 b4 : Nat, p = .pointer (some ⟨b3, 0, none⟩) ∧ q = .pointer (some ⟨b4, 0, none⟩) ∧ Mk w a s a0 s0 ca cs b3 b4 wx)
  case first =>
    refine region_T (S := fun wx => wx.cell? ⟨Ba, 0, none⟩ = some (.slice a0 a.length ca) ∧ wx.cell? ⟨Bs, 0, none⟩ = some (.slice s0 s.length cs) ∧ Below w.drew.heap.size w.drew wx) [6, 7] (by kernel_rfl) hS0 (fun _ => ?_)
    obtain ⟨W, hW⟩ : ∃ W, w.drew = W := ⟨_, rfl⟩
    rw [hW] at hS0 HS HW HA55 HS55 ⊢
    clear hW
    refine anyT_take (i := 0) (v := ?_) rfl (by kernel_rfl) (by kernel_rfl) (by kernel_rfl) (by kernel_rfl) (fun _ _ _ h => h) (Or.inl ⟨by rfl, ?_⟩) (by assumption) ?_
    rotate_left
    focus ((intro wq hSw; (try dsimp only at hSw); go_simp); try with_reducible rfl)
    try simp only [Act.put, List.setIfInBounds_toArray, List.set_cons_zero, List.set_cons_succ]
    refine anyT_take (i := 2) (v := ?_) rfl (by kernel_rfl) (by kernel_rfl) (by kernel_rfl) (by kernel_rfl) (fun _ _ _ h => h) (Or.inl ⟨by rfl, ?_⟩) (by assumption) ?_
    rotate_left
    focus ((intro wq hSw; (try dsimp only at hSw); go_simp); try with_reducible rfl)
    try simp only [Act.put, List.setIfInBounds_toArray, List.set_cons_zero, List.set_cons_succ]
    refine anyT_three (i := 1) (j := 4) (l := 5) (by kernel_rfl) rfl rfl rfl (fun K hK => ?_) (fun K hK => ?_) (fun K hK => ?_)
    · go_simp
      refine (HA55.out _ (Below.refl W.heap.size W)).mono ?_
      rintro e wq ⟨rfl, rfl⟩
      refine hK.out _ _ (fun _ => HS.out _ ((Below.refl W.heap.size W).alloc (by simp <;> omega) _)) ?_
      clear hK K
      try simp only [Act.put, List.setIfInBounds_toArray, List.set_cons_zero, List.set_cons_succ]
      refine anyT_three (i := 3) (j := 4) (l := 5) (by kernel_rfl) rfl rfl rfl (fun K hK => ?_) (fun K hK => ?_) (fun K hK => ?_)
      · go_simp
        refine (HS55.out _ ((Below.refl W.heap.size W).alloc (by simp <;> omega) _)).mono ?_
        rintro e wq ⟨rfl, rfl⟩
        refine hK.out _ _ (fun _ => HS.out _ (((Below.refl W.heap.size W).alloc (by simp <;> omega) _).alloc (by simp <;> omega) _)) ?_
        clear hK K
        try simp only [Act.put, List.setIfInBounds_toArray, List.set_cons_zero, List.set_cons_succ]
        refine anyT_two (i := 4) (j := 5) (by kernel_rfl) rfl rfl (fun K hK => ?_) (fun K hK => ?_)
        · go_simp
          refine hK.out _ _ (fun _ => HS.out _ ((((Below.refl W.heap.size W).alloc (by simp <;> omega) _).alloc (by simp <;> omega) _).alloc (by simp <;> omega) _)) ?_
          clear hK K
          try simp only [Act.put, List.setIfInBounds_toArray, List.set_cons_zero, List.set_cons_succ]
          refine anyT_one (i := 5) (by kernel_rfl) rfl (fun K hK => ?_)
          · go_simp
            refine hK.out _ _ (fun _ => HS.out _ (((((Below.refl W.heap.size W).alloc (by simp <;> omega) _).alloc (by simp <;> omega) _).alloc (by simp <;> omega) _).alloc (by simp <;> omega) _)) ?_
            clear hK K
            try simp only [Act.put, List.setIfInBounds_toArray, List.set_cons_zero, List.set_cons_succ]
            refine anyT_one (i := 6) (by kernel_rfl) rfl (fun K hK => ?_)
            go_simp
            refine hK.out _ _ (fun h => by cases h) ?_
            clear hK K
            try simp only [Act.put, List.setIfInBounds_toArray, List.set_cons_zero, List.set_cons_succ]
            refine anyT_one (i := 7) (by kernel_rfl) rfl (fun K hK => ?_)
            go_simp
            refine hK.out _ _ (fun h => by cases h) ?_
            clear hK K
            try simp only [Act.put, List.setIfInBounds_toArray, List.set_cons_zero, List.set_cons_succ]
            refine anyT_done (by kernel_rfl) ?_ _
            go_wp2_with fail
            go_meet
            exact ⟨_, _, rfl, rfl, Mk.of (at2 _ _ _ _ _) (at3 _ _ _ _ _) (HW.out.trans ((((((Below.refl W.heap.size W).alloc (by simp <;> omega) _).alloc (by simp <;> omega) _).alloc (by simp <;> omega) _).alloc (by simp <;> omega) _).mono HW.out.size))⟩
        · go_simp
          refine hK.out _ _ (fun _ => HS.out _ ((((Below.refl W.heap.size W).alloc (by simp <;> omega) _).alloc (by simp <;> omega) _).alloc (by simp <;> omega) _)) ?_
          clear hK K
          try simp only [Act.put, List.setIfInBounds_toArray, List.set_cons_zero, List.set_cons_succ]
          refine anyT_one (i := 4) (by kernel_rfl) rfl (fun K hK => ?_)
          · go_simp
            refine hK.out _ _ (fun _ => HS.out _ (((((Below.refl W.heap.size W).alloc (by simp <;> omega) _).alloc (by simp <;> omega) _).alloc (by simp <;> omega) _).alloc (by simp <;> omega) _)) ?_
            clear hK K
            try simp only [Act.put, List.setIfInBounds_toArray, List.set_cons_zero, List.set_cons_succ]
            refine anyT_one (i := 6) (by kernel_rfl) rfl (fun K hK => ?_)
            go_simp
            refine hK.out _ _ (fun h => by cases h) ?_
            clear hK K
            try simp only [Act.put, List.setIfInBounds_toArray, List.set_cons_zero, List.set_cons_succ]
            refine anyT_one (i := 7) (by kernel_rfl) rfl (fun K hK => ?_)
            go_simp
            refine hK.out _ _ (fun h => by cases h) ?_
            clear hK K
            try simp only [Act.put, List.setIfInBounds_toArray, List.set_cons_zero, List.set_cons_succ]
            refine anyT_done (by kernel_rfl) ?_ _
            go_wp2_with fail
            go_meet
            exact ⟨_, _, rfl, rfl, Mk.of (at3 _ _ _ _ _) (at2 _ _ _ _ _) (HW.out.trans ((((((Below.refl W.heap.size W).alloc (by simp <;> omega) _).alloc (by simp <;> omega) _).alloc (by simp <;> omega) _).alloc (by simp <;> omega) _).mono HW.out.size))⟩
      · go_simp
        refine hK.out _ _ (fun _ => HS.out _ (((Below.refl W.heap.size W).alloc (by simp <;> omega) _).alloc (by simp <;> omega) _)) ?_
        clear hK K
        try simp only [Act.put, List.setIfInBounds_toArray, List.set_cons_zero, List.set_cons_succ]
        refine anyT_two (i := 3) (j := 5) (by kernel_rfl) rfl rfl (fun K hK => ?_) (fun K hK => ?_)
        · go_simp
          refine (HS55.out _ (((Below.refl W.heap.size W).alloc (by simp <;> omega) _).alloc (by simp <;> omega) _)).mono ?_
          rintro e wq ⟨rfl, rfl⟩
          refine hK.out _ _ (fun _ => HS.out _ ((((Below.refl W.heap.size W).alloc (by simp <;> omega) _).alloc (by simp <;> omega) _).alloc (by simp <;> omega) _)) ?_
          clear hK K
          try simp only [Act.put, List.setIfInBounds_toArray, List.set_cons_zero, List.set_cons_succ]
          refine anyT_one (i := 5) (by kernel_rfl) rfl (fun K hK => ?_)
          · go_simp
            refine hK.out _ _ (fun _ => HS.out _ (((((Below.refl W.heap.size W).alloc (by simp <;> omega) _).alloc (by simp <;> omega) _).alloc (by simp <;> omega) _).alloc (by simp <;> omega) _)) ?_
            clear hK K
            try simp only [Act.put, List.setIfInBounds_toArray, List.set_cons_zero, List.set_cons_succ]
            refine anyT_one (i := 6) (by kernel_rfl) rfl (fun K hK => ?_)
            go_simp
            refine hK.out _ _ (fun h => by cases h) ?_
            clear hK K
            try simp only [Act.put, List.setIfInBounds_toArray, List.set_cons_zero, List.set_cons_succ]
            refine anyT_one (i := 7) (by kernel_rfl) rfl (fun K hK => ?_)
            go_simp
            refine hK.out _ _ (fun h => by cases h) ?_
            clear hK K
            try simp only [Act.put, List.setIfInBounds_toArray, List.set_cons_zero, List.set_cons_succ]
            refine anyT_done (by kernel_rfl) ?_ _
            go_wp2_with fail
            go_meet
            exact ⟨_, _, rfl, rfl, Mk.of (at1 _ _ _ _ _) (at3 _ _ _ _ _) (HW.out.trans ((((((Below.refl W.heap.size W).alloc (by simp <;> omega) _).alloc (by simp <;> omega) _).alloc (by simp <;> omega) _).alloc (by simp <;> omega) _).mono HW.out.size))⟩
        · go_simp
          refine hK.out _ _ (fun _ => HS.out _ ((((Below.refl W.heap.size W).alloc (by simp <;> omega) _).alloc (by simp <;> omega) _).alloc (by simp <;> omega) _)) ?_
          clear hK K
          try simp only [Act.put, List.setIfInBounds_toArray, List.set_cons_zero, List.set_cons_succ]
          refine anyT_one (i := 3) (by kernel_rfl) rfl (fun K hK => ?_)
          · go_simp
            refine (HS55.out _ ((((Below.refl W.heap.size W).alloc (by simp <;> omega) _).alloc (by simp <;> omega) _).alloc (by simp <;> omega) _)).mono ?_
            rintro e wq ⟨rfl, rfl⟩
            refine hK.out _ _ (fun _ => HS.out _ (((((Below.refl W.heap.size W).alloc (by simp <;> omega) _).alloc (by simp <;> omega) _).alloc (by simp <;> omega) _).alloc (by simp <;> omega) _)) ?_
            clear hK K
            try simp only [Act.put, List.setIfInBounds_toArray, List.set_cons_zero, List.set_cons_succ]
            refine anyT_one (i := 6) (by kernel_rfl) rfl (fun K hK => ?_)
            go_simp
            refine hK.out _ _ (fun h => by cases h) ?_
            clear hK K
            try simp only [Act.put, List.setIfInBounds_toArray, List.set_cons_zero, List.set_cons_succ]
            refine anyT_one (i := 7) (by kernel_rfl) rfl (fun K hK => ?_)
            go_simp
            refine hK.out _ _ (fun h => by cases h) ?_
            clear hK K
            try simp only [Act.put, List.setIfInBounds_toArray, List.set_cons_zero, List.set_cons_succ]
            refine anyT_done (by kernel_rfl) ?_ _
            go_wp2_with fail
            go_meet
            exact ⟨_, _, rfl, rfl, Mk.of (at1 _ _ _ _ _) (at2 _ _ _ _ _) (HW.out.trans ((((((Below.refl W.heap.size W).alloc (by simp <;> omega) _).alloc (by simp <;> omega) _).alloc (by simp <;> omega) _).alloc (by simp <;> omega) _).mono HW.out.size))⟩
      · go_simp
        refine hK.out _ _ (fun _ => HS.out _ (((Below.refl W.heap.size W).alloc (by simp <;> omega) _).alloc (by simp <;> omega) _)) ?_
        clear hK K
        try simp only [Act.put, List.setIfInBounds_toArray, List.set_cons_zero, List.set_cons_succ]
        refine anyT_two (i := 3) (j := 4) (by kernel_rfl) rfl rfl (fun K hK => ?_) (fun K hK => ?_)
        · go_simp
          refine (HS55.out _ (((Below.refl W.heap.size W).alloc (by simp <;> omega) _).alloc (by simp <;> omega) _)).mono ?_
          rintro e wq ⟨rfl, rfl⟩
          refine hK.out _ _ (fun _ => HS.out _ ((((Below.refl W.heap.size W).alloc (by simp <;> omega) _).alloc (by simp <;> omega) _).alloc (by simp <;> omega) _)) ?_
          clear hK K
          try simp only [Act.put, List.setIfInBounds_toArray, List.set_cons_zero, List.set_cons_succ]
          refine anyT_one (i := 4) (by kernel_rfl) rfl (fun K hK => ?_)
          · go_simp
            refine hK.out _ _ (fun _ => HS.out _ (((((Below.refl W.heap.size W).alloc (by simp <;> omega) _).alloc (by simp <;> omega) _).alloc (by simp <;> omega) _).alloc (by simp <;> omega) _)) ?_
            clear hK K
            try simp only [Act.put, List.setIfInBounds_toArray, List.set_cons_zero, List.set_cons_succ]
            refine anyT_one (i := 6) (by kernel_rfl) rfl (fun K hK => ?_)
            go_simp
            refine hK.out _ _ (fun h => by cases h) ?_
            clear hK K
            try simp only [Act.put, List.setIfInBounds_toArray, List.set_cons_zero, List.set_cons_succ]
            refine anyT_one (i := 7) (by kernel_rfl) rfl (fun K hK => ?_)
            go_simp
            refine hK.out _ _ (fun h => by cases h) ?_
            clear hK K
            try simp only [Act.put, List.setIfInBounds_toArray, List.set_cons_zero, List.set_cons_succ]
            refine anyT_done (by kernel_rfl) ?_ _
            go_wp2_with fail
            go_meet
            exact ⟨_, _, rfl, rfl, Mk.of (at3 _ _ _ _ _) (at1 _ _ _ _ _) (HW.out.trans ((((((Below.refl W.heap.size W).alloc (by simp <;> omega) _).alloc (by simp <;> omega) _).alloc (by simp <;> omega) _).alloc (by simp <;> omega) _).mono HW.out.size))⟩
        · go_simp
          refine hK.out _ _ (fun _ => HS.out _ ((((Below.refl W.heap.size W).alloc (by simp <;> omega) _).alloc (by simp <;> omega) _).alloc (by simp <;> omega) _)) ?_
          clear hK K
          try simp only [Act.put, List.setIfInBounds_toArray, List.set_cons_zero, List.set_cons_succ]
          refine anyT_one (i := 3) (by kernel_rfl) rfl (fun K hK => ?_)
          · go_simp
            refine (HS55.out _ ((((Below.refl W.heap.size W).alloc (by simp <;> omega) _).alloc (by simp <;> omega) _).alloc (by simp <;> omega) _)).mono ?_
            rintro e wq ⟨rfl, rfl⟩
            refine hK.out _ _ (fun _ => HS.out _ (((((Below.refl W.heap.size W).alloc (by simp <;> omega) _).alloc (by simp <;> omega) _).alloc (by simp <;> omega) _).alloc (by simp <;> omega) _)) ?_
            clear hK K
            try simp only [Act.put, List.setIfInBounds_toArray, List.set_cons_zero, List.set_cons_succ]
            refine anyT_one (i := 6) (by kernel_rfl) rfl (fun K hK => ?_)
            go_simp
            refine hK.out _ _ (fun h => by cases h) ?_
            clear hK K
            try simp only [Act.put, List.setIfInBounds_toArray, List.set_cons_zero, List.set_cons_succ]
            refine anyT_one (i := 7) (by kernel_rfl) rfl (fun K hK => ?_)
            go_simp
            refine hK.out _ _ (fun h => by cases h) ?_
            clear hK K
            try simp only [Act.put, List.setIfInBounds_toArray, List.set_cons_zero, List.set_cons_succ]
            refine anyT_done (by kernel_rfl) ?_ _
            go_wp2_with fail
            go_meet
            exact ⟨_, _, rfl, rfl, Mk.of (at2 _ _ _ _ _) (at1 _ _ _ _ _) (HW.out.trans ((((((Below.refl W.heap.size W).alloc (by simp <;> omega) _).alloc (by simp <;> omega) _).alloc (by simp <;> omega) _).alloc (by simp <;> omega) _).mono HW.out.size))⟩
    · go_simp
      refine hK.out _ _ (fun _ => HS.out _ ((Below.refl W.heap.size W).alloc (by simp <;> omega) _)) ?_
      clear hK K
      try simp only [Act.put, List.setIfInBounds_toArray, List.set_cons_zero, List.set_cons_succ]
      refine anyT_two (i := 1) (j := 5) (by kernel_rfl) rfl rfl (fun K hK => ?_) (fun K hK => ?_)
      · go_simp
        refine (HA55.out _ ((Below.refl W.heap.size W).alloc (by simp <;> omega) _)).mono ?_
        rintro e wq ⟨rfl, rfl⟩
        refine hK.out _ _ (fun _ => HS.out _ (((Below.refl W.heap.size W).alloc (by simp <;> omega) _).alloc (by simp <;> omega) _)) ?_
        clear hK K
        try simp only [Act.put, List.setIfInBounds_toArray, List.set_cons_zero, List.set_cons_succ]
        refine anyT_two (i := 3) (j := 5) (by kernel_rfl) rfl rfl (fun K hK => ?_) (fun K hK => ?_)
        · go_simp
          refine (HS55.out _ (((Below.refl W.heap.size W).alloc (by simp <;> omega) _).alloc (by simp <;> omega) _)).mono ?_
          rintro e wq ⟨rfl, rfl⟩
          refine hK.out _ _ (fun _ => HS.out _ ((((Below.refl W.heap.size W).alloc (by simp <;> omega) _).alloc (by simp <;> omega) _).alloc (by simp <;> omega) _)) ?_
          clear hK K
          try simp only [Act.put, List.setIfInBounds_toArray, List.set_cons_zero, List.set_cons_succ]
          refine anyT_one (i := 5) (by kernel_rfl) rfl (fun K hK => ?_)
          · go_simp
            refine hK.out _ _ (fun _ => HS.out _ (((((Below.refl W.heap.size W).alloc (by simp <;> omega) _).alloc (by simp <;> omega) _).alloc (by simp <;> omega) _).alloc (by simp <;> omega) _)) ?_
            clear hK K
            try simp only [Act.put, List.setIfInBounds_toArray, List.set_cons_zero, List.set_cons_succ]
            refine anyT_one (i := 6) (by kernel_rfl) rfl (fun K hK => ?_)
            go_simp
            refine hK.out _ _ (fun h => by cases h) ?_
            clear hK K
            try simp only [Act.put, List.setIfInBounds_toArray, List.set_cons_zero, List.set_cons_succ]
            refine anyT_one (i := 7) (by kernel_rfl) rfl (fun K hK => ?_)
            go_simp
            refine hK.out _ _ (fun h => by cases h) ?_
            clear hK K
            try simp only [Act.put, List.setIfInBounds_toArray, List.set_cons_zero, List.set_cons_succ]
            refine anyT_done (by kernel_rfl) ?_ _
            go_wp2_with fail
            go_meet
            exact ⟨_, _, rfl, rfl, Mk.of (at0 _ _ _ _ _) (at3 _ _ _ _ _) (HW.out.trans ((((((Below.refl W.heap.size W).alloc (by simp <;> omega) _).alloc (by simp <;> omega) _).alloc (by simp <;> omega) _).alloc (by simp <;> omega) _).mono HW.out.size))⟩
        · go_simp
          refine hK.out _ _ (fun _ => HS.out _ ((((Below.refl W.heap.size W).alloc (by simp <;> omega) _).alloc (by simp <;> omega) _).alloc (by simp <;> omega) _)) ?_
          clear hK K
          try simp only [Act.put, List.setIfInBounds_toArray, List.set_cons_zero, List.set_cons_succ]
          refine anyT_one (i := 3) (by kernel_rfl) rfl (fun K hK => ?_)
          · go_simp
            refine (HS55.out _ ((((Below.refl W.heap.size W).alloc (by simp <;> omega) _).alloc (by simp <;> omega) _).alloc (by simp <;> omega) _)).mono ?_
            rintro e wq ⟨rfl, rfl⟩
            refine hK.out _ _ (fun _ => HS.out _ (((((Below.refl W.heap.size W).alloc (by simp <;> omega) _).alloc (by simp <;> omega) _).alloc (by simp <;> omega) _).alloc (by simp <;> omega) _)) ?_
            clear hK K
            try simp only [Act.put, List.setIfInBounds_toArray, List.set_cons_zero, List.set_cons_succ]
            refine anyT_one (i := 6) (by kernel_rfl) rfl (fun K hK => ?_)
            go_simp
            refine hK.out _ _ (fun h => by cases h) ?_
            clear hK K
            try simp only [Act.put, List.setIfInBounds_toArray, List.set_cons_zero, List.set_cons_succ]
            refine anyT_one (i := 7) (by kernel_rfl) rfl (fun K hK => ?_)
            go_simp
            refine hK.out _ _ (fun h => by cases h) ?_
            clear hK K
            try simp only [Act.put, List.setIfInBounds_toArray, List.set_cons_zero, List.set_cons_succ]
            refine anyT_done (by kernel_rfl) ?_ _
            go_wp2_with fail
            go_meet
            exact ⟨_, _, rfl, rfl, Mk.of (at0 _ _ _ _ _) (at2 _ _ _ _ _) (HW.out.trans ((((((Below.refl W.heap.size W).alloc (by simp <;> omega) _).alloc (by simp <;> omega) _).alloc (by simp <;> omega) _).alloc (by simp <;> omega) _).mono HW.out.size))⟩
      · go_simp
        refine hK.out _ _ (fun _ => HS.out _ (((Below.refl W.heap.size W).alloc (by simp <;> omega) _).alloc (by simp <;> omega) _)) ?_
        clear hK K
        try simp only [Act.put, List.setIfInBounds_toArray, List.set_cons_zero, List.set_cons_succ]
        refine anyT_one (i := 1) (by kernel_rfl) rfl (fun K hK => ?_)
        · go_simp
          refine (HA55.out _ (((Below.refl W.heap.size W).alloc (by simp <;> omega) _).alloc (by simp <;> omega) _)).mono ?_
          rintro e wq ⟨rfl, rfl⟩
          refine hK.out _ _ (fun _ => HS.out _ ((((Below.refl W.heap.size W).alloc (by simp <;> omega) _).alloc (by simp <;> omega) _).alloc (by simp <;> omega) _)) ?_
          clear hK K
          try simp only [Act.put, List.setIfInBounds_toArray, List.set_cons_zero, List.set_cons_succ]
          refine anyT_one (i := 3) (by kernel_rfl) rfl (fun K hK => ?_)
          · go_simp
            refine (HS55.out _ ((((Below.refl W.heap.size W).alloc (by simp <;> omega) _).alloc (by simp <;> omega) _).alloc (by simp <;> omega) _)).mono ?_
            rintro e wq ⟨rfl, rfl⟩
            refine hK.out _ _ (fun _ => HS.out _ (((((Below.refl W.heap.size W).alloc (by simp <;> omega) _).alloc (by simp <;> omega) _).alloc (by simp <;> omega) _).alloc (by simp <;> omega) _)) ?_
            clear hK K
            try simp only [Act.put, List.setIfInBounds_toArray, List.set_cons_zero, List.set_cons_succ]
            refine anyT_one (i := 6) (by kernel_rfl) rfl (fun K hK => ?_)
            go_simp
            refine hK.out _ _ (fun h => by cases h) ?_
            clear hK K
            try simp only [Act.put, List.setIfInBounds_toArray, List.set_cons_zero, List.set_cons_succ]
            refine anyT_one (i := 7) (by kernel_rfl) rfl (fun K hK => ?_)
            go_simp
            refine hK.out _ _ (fun h => by cases h) ?_
            clear hK K
            try simp only [Act.put, List.setIfInBounds_toArray, List.set_cons_zero, List.set_cons_succ]
            refine anyT_done (by kernel_rfl) ?_ _
            go_wp2_with fail
            go_meet
            exact ⟨_, _, rfl, rfl, Mk.of (at0 _ _ _ _ _) (at1 _ _ _ _ _) (HW.out.trans ((((((Below.refl W.heap.size W).alloc (by simp <;> omega) _).alloc (by simp <;> omega) _).alloc (by simp <;> omega) _).alloc (by simp <;> omega) _).mono HW.out.size))⟩
    · go_simp
      refine hK.out _ _ (fun _ => HS.out _ ((Below.refl W.heap.size W).alloc (by simp <;> omega) _)) ?_
      clear hK K
      try simp only [Act.put, List.setIfInBounds_toArray, List.set_cons_zero, List.set_cons_succ]
      refine anyT_two (i := 1) (j := 4) (by kernel_rfl) rfl rfl (fun K hK => ?_) (fun K hK => ?_)
      · go_simp
        refine (HA55.out _ ((Below.refl W.heap.size W).alloc (by simp <;> omega) _)).mono ?_
        rintro e wq ⟨rfl, rfl⟩
        refine hK.out _ _ (fun _ => HS.out _ (((Below.refl W.heap.size W).alloc (by simp <;> omega) _).alloc (by simp <;> omega) _)) ?_
        clear hK K
        try simp only [Act.put, List.setIfInBounds_toArray, List.set_cons_zero, List.set_cons_succ]
        refine anyT_two (i := 3) (j := 4) (by kernel_rfl) rfl rfl (fun K hK => ?_) (fun K hK => ?_)
        · go_simp
          refine (HS55.out _ (((Below.refl W.heap.size W).alloc (by simp <;> omega) _).alloc (by simp <;> omega) _)).mono ?_
          rintro e wq ⟨rfl, rfl⟩
          refine hK.out _ _ (fun _ => HS.out _ ((((Below.refl W.heap.size W).alloc (by simp <;> omega) _).alloc (by simp <;> omega) _).alloc (by simp <;> omega) _)) ?_
          clear hK K
          try simp only [Act.put, List.setIfInBounds_toArray, List.set_cons_zero, List.set_cons_succ]
          refine anyT_one (i := 4) (by kernel_rfl) rfl (fun K hK => ?_)
          · go_simp
            refine hK.out _ _ (fun _ => HS.out _ (((((Below.refl W.heap.size W).alloc (by simp <;> omega) _).alloc (by simp <;> omega) _).alloc (by simp <;> omega) _).alloc (by simp <;> omega) _)) ?_
            clear hK K
            try simp only [Act.put, List.setIfInBounds_toArray, List.set_cons_zero, List.set_cons_succ]
            refine anyT_one (i := 6) (by kernel_rfl) rfl (fun K hK => ?_)
            go_simp
            refine hK.out _ _ (fun h => by cases h) ?_
            clear hK K
            try simp only [Act.put, List.setIfInBounds_toArray, List.set_cons_zero, List.set_cons_succ]
            refine anyT_one (i := 7) (by kernel_rfl) rfl (fun K hK => ?_)
            go_simp
            refine hK.out _ _ (fun h => by cases h) ?_
            clear hK K
            try simp only [Act.put, List.setIfInBounds_toArray, List.set_cons_zero, List.set_cons_succ]
            refine anyT_done (by kernel_rfl) ?_ _
            go_wp2_with fail
            go_meet
            exact ⟨_, _, rfl, rfl, Mk.of (at3 _ _ _ _ _) (at0 _ _ _ _ _) (HW.out.trans ((((((Below.refl W.heap.size W).alloc (by simp <;> omega) _).alloc (by simp <;> omega) _).alloc (by simp <;> omega) _).alloc (by simp <;> omega) _).mono HW.out.size))⟩
        · go_simp
          refine hK.out _ _ (fun _ => HS.out _ ((((Below.refl W.heap.size W).alloc (by simp <;> omega) _).alloc (by simp <;> omega) _).alloc (by simp <;> omega) _)) ?_
          clear hK K
          try simp only [Act.put, List.setIfInBounds_toArray, List.set_cons_zero, List.set_cons_succ]
          refine anyT_one (i := 3) (by kernel_rfl) rfl (fun K hK => ?_)
          · go_simp
            refine (HS55.out _ ((((Below.refl W.heap.size W).alloc (by simp <;> omega) _).alloc (by simp <;> omega) _).alloc (by simp <;> omega) _)).mono ?_
            rintro e wq ⟨rfl, rfl⟩
            refine hK.out _ _ (fun _ => HS.out _ (((((Below.refl W.heap.size W).alloc (by simp <;> omega) _).alloc (by simp <;> omega) _).alloc (by simp <;> omega) _).alloc (by simp <;> omega) _)) ?_
            clear hK K
            try simp only [Act.put, List.setIfInBounds_toArray, List.set_cons_zero, List.set_cons_succ]
            refine anyT_one (i := 6) (by kernel_rfl) rfl (fun K hK => ?_)
            go_simp
            refine hK.out _ _ (fun h => by cases h) ?_
            clear hK K
            try simp only [Act.put, List.setIfInBounds_toArray, List.set_cons_zero, List.set_cons_succ]
            refine anyT_one (i := 7) (by kernel_rfl) rfl (fun K hK => ?_)
            go_simp
            refine hK.out _ _ (fun h => by cases h) ?_
            clear hK K
            try simp only [Act.put, List.setIfInBounds_toArray, List.set_cons_zero, List.set_cons_succ]
            refine anyT_done (by kernel_rfl) ?_ _
            go_wp2_with fail
            go_meet
            exact ⟨_, _, rfl, rfl, Mk.of (at2 _ _ _ _ _) (at0 _ _ _ _ _) (HW.out.trans ((((((Below.refl W.heap.size W).alloc (by simp <;> omega) _).alloc (by simp <;> omega) _).alloc (by simp <;> omega) _).alloc (by simp <;> omega) _).mono HW.out.size))⟩
      · go_simp
        refine hK.out _ _ (fun _ => HS.out _ (((Below.refl W.heap.size W).alloc (by simp <;> omega) _).alloc (by simp <;> omega) _)) ?_
        clear hK K
        try simp only [Act.put, List.setIfInBounds_toArray, List.set_cons_zero, List.set_cons_succ]
        refine anyT_one (i := 1) (by kernel_rfl) rfl (fun K hK => ?_)
        · go_simp
          refine (HA55.out _ (((Below.refl W.heap.size W).alloc (by simp <;> omega) _).alloc (by simp <;> omega) _)).mono ?_
          rintro e wq ⟨rfl, rfl⟩
          refine hK.out _ _ (fun _ => HS.out _ ((((Below.refl W.heap.size W).alloc (by simp <;> omega) _).alloc (by simp <;> omega) _).alloc (by simp <;> omega) _)) ?_
          clear hK K
          try simp only [Act.put, List.setIfInBounds_toArray, List.set_cons_zero, List.set_cons_succ]
          refine anyT_one (i := 3) (by kernel_rfl) rfl (fun K hK => ?_)
          · go_simp
            refine (HS55.out _ ((((Below.refl W.heap.size W).alloc (by simp <;> omega) _).alloc (by simp <;> omega) _).alloc (by simp <;> omega) _)).mono ?_
            rintro e wq ⟨rfl, rfl⟩
            refine hK.out _ _ (fun _ => HS.out _ (((((Below.refl W.heap.size W).alloc (by simp <;> omega) _).alloc (by simp <;> omega) _).alloc (by simp <;> omega) _).alloc (by simp <;> omega) _)) ?_
            clear hK K
            try simp only [Act.put, List.setIfInBounds_toArray, List.set_cons_zero, List.set_cons_succ]
            refine anyT_one (i := 6) (by kernel_rfl) rfl (fun K hK => ?_)
            go_simp
            refine hK.out _ _ (fun h => by cases h) ?_
            clear hK K
            try simp only [Act.put, List.setIfInBounds_toArray, List.set_cons_zero, List.set_cons_succ]
            refine anyT_one (i := 7) (by kernel_rfl) rfl (fun K hK => ?_)
            go_simp
            refine hK.out _ _ (fun h => by cases h) ?_
            clear hK K
            try simp only [Act.put, List.setIfInBounds_toArray, List.set_cons_zero, List.set_cons_succ]
            refine anyT_done (by kernel_rfl) ?_ _
            go_wp2_with fail
            go_meet
            exact ⟨_, _, rfl, rfl, Mk.of (at1 _ _ _ _ _) (at0 _ _ _ _ _) (HW.out.trans ((((((Below.refl W.heap.size W).alloc (by simp <;> omega) _).alloc (by simp <;> omega) _).alloc (by simp <;> omega) _).alloc (by simp <;> omega) _).mono HW.out.size))⟩
  case rest =>
    obtain ⟨b3, b4, rfl, rfl, c30, c31, c32, c40, c41, c42, hbl⟩ := hcut
    obtain ⟨pa1, pa2, pa3, pa4⟩ := validM_parts HVA.out
    obtain ⟨ps1, ps2, ps3, ps4⟩ := validM_parts HVS.out
    by_cases hsz : a.length = cols s
    · have hbb : ∀ k f, (cellM a k f).natAbs ≤ 8388607 := fun k f => Nat.le_trans (pa4 k f) (by omega)
      have h43 := must_yes 11 wc
      have h63 := times_any s a s0 a0 cs ca (cols a) wc ps1.2 (by omega) (HSI.out.mono (Same.of_below hbl)) (HAI.out.mono (Same.of_below hbl)) pa1.2 (fun j hj => by rw [ps3 j hj, hsz]) (fun j hj => pa3 j hj) ps4 hbb
      have h64 := fun w' hg => reduce_any (wc.heap.size + 1 + 1) s.length (cols a) _ 655360 w' ps1.2 (by omega) hg (by omega) (by omega) fun j f hj _ => dot_bd ps4 hbb (fun j hj => by rw [ps3 j hj]; omega) j f hj
      have hfin : ∀ w', Gr (wc.heap.size + 1 + 1) s.length (cols a) (fun j f => clipI 655360 (dotTo (s.getD j []) a f (s.getD j []).length)) w' → MatIn w' (joinM a s) (.slice (some ⟨wc.heap.size + 1 + 1, 0, none⟩) s.length s.length) := fun w' hg =>
        hg.mat ps1.2 (by omega) fun j f _ _ => by have := clipI_bd (k := 655360) (by omega) (dotTo (s.getD j []) a f (s.getD j []).length); unfold I64; omega
      rw [← hsz] at c41
      have HSZ := Lib.hid hsz
      have H64 := Lib.hid h64
      have HFIN := Lib.hid hfin
      have HBL := Lib.hid hbl
      clear hsz h64 hfin hbl hbb pa1 pa2 pa3 pa4 ps1 ps2 ps3 ps4
      go_wp2_with (first | (go_at_call 43; (with_reducible refine h43.mono ?_); rintro e w1 ⟨rfl, rfl⟩) | (go_at_call 63; (with_reducible refine h63.mono ?_); rintro e w1 ⟨rfl, hg, hb1⟩; have HGR := Lib.hid hg; have HB1 := Lib.hid hb1; clear hg hb1 h63) | (go_at_call 64; (with_reducible refine (H64.out _ HGR.out).mono ?_); rintro e w2 ⟨rfl, hg2, hb2⟩))
      go_ret
      refine .inl ⟨HSZ.out, _, rfl, HFIN.out _ hg2, ?_⟩
      have hsd := HBL.out.size
      have hbA : Below w.heap.size w w1 := HBL.out.trans (HB1.out.mono hsd)
      exact hbA.trans (hb2.mono (by omega))
    · have e1 : ((cols s : Int) == (a.length : Int)) = false := by rw [beq_eq_false_iff_ne]; omega
      have h43 := must_no 11 wc
      have HSZ := Lib.hid hsz
      have HBL := Lib.hid hbl
      clear hsz hbl pa1 pa2 pa3 pa4 ps1 ps2 ps3 ps4
      go_wp2_with (go_at_call 43; (with_reducible refine h43.mono ?_); rintro e w1 ⟨rfl, rfl⟩)
      exact ⟨rfl, .inr ⟨HSZ.out, rfl, HBL.out⟩⟩
end Go.Proofs.Ytpjmiiejmkgmdaa
