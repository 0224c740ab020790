/- The closure that settles a deal. -/
import Derived.Test.YtinlcgcnjlifkaaSS
namespace Go.Proofs.Ytinlcgcnjlifkaa
open Go.RowKit Go.Shelf Go.Deep

set_option maxHeartbeats 8000000 in
set_option maxRecDepth 100000 in
theorem agree15_any (a b : Wish) (p : Int) (N0 N1 N2 : Nat) (w : World) (h0 : w.heap[N0]? = some (.cells a.c 23)) (h1 : w.heap[N1]? = some (.cells b.c 23)) (h2 : w.heap[N2]? = some (.cells #[.int .i64 p] 3)) :
    Calls Try.prog 15 #[at0 N0, at0 N1, at0 N2] w (ClosB (dlJ a b p 6).v (agreeE a b p) w) := by
  have HW0A := mustWish_any a
  have HW0B := mustWish_any b
  have HI := Lib.hid within_any
  have HMU := Lib.hid must_b
  have q0 : A4 w N0 N1 N2 a b p (w.alloc (.cells #[.int .i64 0, .int .i64 0, .int .i64 0, .int .i64 0, .int .i64 0, .int .i64 0] 25)) :=
    ⟨keep_blk (below_box _ _) h0, keep_blk (below_box _ _) h1, keep_blk (below_box _ _) h2, blk_alloc_new _ _, below_box _ _, (Array.getElem?_eq_some_iff.1 h0).1, (Array.getElem?_eq_some_iff.1 h1).1, (Array.getElem?_eq_some_iff.1 h2).1⟩
  obtain ⟨Z, hZ⟩ : ∃ Z, w.alloc (.cells #[.int .i64 0, .int .i64 0, .int .i64 0, .int .i64 0, .int .i64 0, .int .i64 0] 25) = Z := ⟨_, rfl⟩
  rw [hZ] at q0
  obtain ⟨d0, d1, d2, d3, d4, d5, d6⟩ := cells7 q0.h0; obtain ⟨f0, f1, f2, f3, f4, f5, f6⟩ := cells7 q0.h1; have pc := cell1 q0.h2
  have HQ0 := Lib.hid q0
  clear q0 h0 h1 h2
  cases hao : a.ok with
  | false =>
    have HWA : Hid (∀ x, Calls Try.prog 16 #[a.v] x fun e w' => e = .panicked (misfit 1) ∧ Below x.heap.size x w') := Lib.hid (by rw [hao] at HW0A; exact HW0A)
    have HE : Hid (agreeE a b p = 1) := Lib.hid (by simp [agreeE, hao])
    clear HW0A HW0B hao
    go_enter Try.func15, Try.ntmps15
    go_wp2_with (go_at_call 16; (with_reducible refine (HWA.out _).mono ?_); rintro e w1 ⟨rfl, hb⟩; have HB := Lib.hid hb; clear hb)
    exact ⟨rfl, by rw [HE.out]; rfl, (HQ0.out.below HB.out).bel⟩
  | true =>
    have HWA : Hid (∀ x, Calls Try.prog 16 #[a.v] x fun e w' => e = .returned (.tuple #[]) ∧ Below x.heap.size x w') := Lib.hid (by rw [hao] at HW0A; exact HW0A)
    clear HW0A
    cases hbo : b.ok with
    | false =>
      have HWB : Hid (∀ x, Calls Try.prog 16 #[b.v] x fun e w' => e = .panicked (misfit 1) ∧ Below x.heap.size x w') := Lib.hid (by rw [hbo] at HW0B; exact HW0B)
      have HE : Hid (agreeE a b p = 1) := Lib.hid (by simp [agreeE, hao, hbo])
      clear HW0B hao hbo
      go_enter Try.func15, Try.ntmps15
      go_upto_region 2 with (go_at_call 16; (with_reducible refine (HWA.out _).mono ?_); rintro e w1 ⟨rfl, hb⟩; have HQ1 := Lib.hid (HQ0.out.below hb); clear hb)
      clear d0 d1 d2 d3 d4 d5 d6 f0 f1 f2 f3 f4 f5 f6 pc
      obtain ⟨d0, d1, d2, d3, d4, d5, d6⟩ := cells7 HQ1.out.h0; obtain ⟨f0, f1, f2, f3, f4, f5, f6⟩ := cells7 HQ1.out.h1; have pc := cell1 HQ1.out.h2
      go_wp2_with (go_at_call 16; (with_reducible refine (HWB.out _).mono ?_); rintro e w2 ⟨rfl, hb⟩; have HB := Lib.hid hb; clear hb)
      exact ⟨rfl, by rw [HE.out]; rfl, (HQ1.out.below HB.out).bel⟩
    | true =>
      have HWB : Hid (∀ x, Calls Try.prog 16 #[b.v] x fun e w' => e = .returned (.tuple #[]) ∧ Below x.heap.size x w') := Lib.hid (by rw [hbo] at HW0B; exact HW0B)
      clear HW0B
      have HAB := Lib.hid (And.intro hao hbo)
      cases hp : inB p 0 64 with
      | false =>
        have HE : Hid (agreeE a b p = 7) := Lib.hid (by simp [agreeE, hao, hbo, hp])
        clear hao hbo
        go_enter Try.func15, Try.ntmps15
        go_upto_region 2 with (go_at_call 16; (with_reducible refine (HWA.out _).mono ?_); rintro e w1 ⟨rfl, hb⟩; have HQ1 := Lib.hid (HQ0.out.below hb); clear hb)
        clear d0 d1 d2 d3 d4 d5 d6 f0 f1 f2 f3 f4 f5 f6 pc
        obtain ⟨d0, d1, d2, d3, d4, d5, d6⟩ := cells7 HQ1.out.h0; obtain ⟨f0, f1, f2, f3, f4, f5, f6⟩ := cells7 HQ1.out.h1; have pc := cell1 HQ1.out.h2
        go_upto_region 3 with (go_at_call 16; (with_reducible refine (HWB.out _).mono ?_); rintro e w2 ⟨rfl, hb⟩; have HQ2 := Lib.hid (HQ1.out.below hb); clear hb)
        clear d0 d1 d2 d3 d4 d5 d6 f0 f1 f2 f3 f4 f5 f6 pc
        obtain ⟨d0, d1, d2, d3, d4, d5, d6⟩ := cells7 HQ2.out.h0; obtain ⟨f0, f1, f2, f3, f4, f5, f6⟩ := cells7 HQ2.out.h1; have pc := cell1 HQ2.out.h2
        go_wp2_with (first
          | (go_at_call 18; (with_reducible refine (HI.out _ _ _ _).mono ?_); rintro e w3 ⟨rfl, rfl⟩; rw [hp])
          | (go_at_call 17; (with_reducible refine (HMU.out _ _ _).mono ?_); rintro e w3 ⟨rfl, rfl⟩; simp only [Bool.false_eq_true, if_false]))
        exact ⟨rfl, by rw [HE.out]; rfl, HQ2.out.bel⟩
      | true =>
        have HE : Hid (agreeE a b p = agreeK a b p) := Lib.hid (by simp [agreeE, hao, hbo, hp])
        have HP := Lib.hid points_any
        clear hao hbo
        go_enter Try.func15, Try.ntmps15
        go_upto_region 2 with (go_at_call 16; (with_reducible refine (HWA.out _).mono ?_); rintro e w1 ⟨rfl, hb⟩; have HQ1 := Lib.hid (HQ0.out.below hb); clear hb)
        clear d0 d1 d2 d3 d4 d5 d6 f0 f1 f2 f3 f4 f5 f6 pc
        obtain ⟨d0, d1, d2, d3, d4, d5, d6⟩ := cells7 HQ1.out.h0; obtain ⟨f0, f1, f2, f3, f4, f5, f6⟩ := cells7 HQ1.out.h1; have pc := cell1 HQ1.out.h2
        go_upto_region 3 with (go_at_call 16; (with_reducible refine (HWB.out _).mono ?_); rintro e w2 ⟨rfl, hb⟩; have HQ2 := Lib.hid (HQ1.out.below hb); clear hb)
        clear d0 d1 d2 d3 d4 d5 d6 f0 f1 f2 f3 f4 f5 f6 pc
        obtain ⟨d0, d1, d2, d3, d4, d5, d6⟩ := cells7 HQ2.out.h0; obtain ⟨f0, f1, f2, f3, f4, f5, f6⟩ := cells7 HQ2.out.h1; have pc := cell1 HQ2.out.h2
        go_upto_region 4 with (first
          | (go_at_call 18; (with_reducible refine (HI.out _ _ _ _).mono ?_); rintro e w3 ⟨rfl, rfl⟩; rw [hp])
          | (go_at_call 17; (with_reducible refine (HMU.out _ _ _).mono ?_); rintro e w3 ⟨rfl, rfl⟩; simp only [if_true]))
        clear d0 d1 d2 d3 d4 d5 d6 f0 f1 f2 f3 f4 f5 f6 pc
        obtain ⟨Y, hY⟩ : ∃ Y, w2.alloc (dlJ a b p 0).o = Y := ⟨_, rfl⟩
        have hYs : Y.heap.size = w2.heap.size + 1 := by rw [← hY]; simp
        have qy : A4 w N0 N1 N2 a b p Y := by rw [← hY]; exact HQ2.out.below (below_box _ _)
        have qd : Y.heap[w2.heap.size]? = some (dlJ a b p 0).o := by rw [← hY]; exact blk_alloc_new _ _
        have HLT : Hid (w.heap.size < w2.heap.size) := Lib.hid (Array.getElem?_eq_some_iff.1 HQ2.out.hr).1
        replace hY : w2.alloc (.cells #[.int .i64 0, .int .i64 0, .int .i64 0, .int .i64 0, .int .i64 0, .int .i64 0] 43) = Y := hY
        obtain ⟨Bd, hBd⟩ : ∃ Bd, w2.heap.size = Bd := ⟨_, rfl⟩
        obtain ⟨d0, d1, d2, d3, d4, d5, d6⟩ := cells7 qy.h0; obtain ⟨f0, f1, f2, f3, f4, f5, f6⟩ := cells7 qy.h1; have pc := cell1 qy.h2
        have HQY := Lib.hid qy
        have HQD := Lib.hid qd
        have HYS := Lib.hid hYs
        clear qy qd hYs
        go_wp2_with (go_at_call 19; (with_reducible refine (HP.out _ _).mono ?_); rintro e w4 ⟨rfl, hb, hpp⟩; unfold ptsC; have HQ4 := Lib.hid (HQY.out.below hb); have HD4 := Lib.hid (keep_blk hb HQD.out); have HPP := Lib.hid hpp; clear hb hpp)
        clear d0 d1 d2 d3 d4 d5 d6 f0 f1 f2 f3 f4 f5 f6 pc
        clear hY hZ
        obtain ⟨P, hP⟩ : ∃ P, Y.heap.size = P := ⟨_, rfl⟩
        have hPB : P ≠ Bd := by rw [← hP, ← hBd]; have := HYS.out; omega
        have HPB := Lib.hid hPB
        try rw [hP]
        rw [hP] at HPP
        rw [hBd] at HLT HD4
        clear hP hBd hPB
        go_loopw [16] (fun i wr => ∃ j : Nat, i = .int .i64 j ∧ j ≤ 6 ∧ (∀ q, q < j → okJ a b p q = true) ∧ A4 w N0 N1 N2 a b p wr ∧ wr.heap[Bd]? = some (dlJ a b p j).o ∧ wr.heap[P]? = some (.cells #[.int .i64 p] 3)) (fun i _ => 6 - (intOf i).toNat)
        case atStart => exact ⟨0, rfl, by decide, fun q hq => absurd hq (Nat.not_lt_zero _), HQ4.out, HD4.out, HPP.out⟩
        case round =>
          obtain ⟨j, rfl, hj, hok, hqa, hqd, hqp⟩ := hrel
          have HOK := Lib.hid hok
          have HA := Lib.hid hqa
          have HD := Lib.hid hqd
          have HPW := Lib.hid hqp
          clear hok hqa hqd hqp HQ4 HD4 HPP
          obtain rfl | rfl | rfl | rfl | rfl | rfl | rfl : j = 0 ∨ j = 1 ∨ j = 2 ∨ j = 3 ∨ j = 4 ∨ j = 5 ∨ j = 6 := by omega
          all_goals clear hj
          · have HT0 : Hid (∀ y : World, y.heap[Bd]? = some (dlJ a b p 0).o → y.heap[P]? = some (.cells #[.int .i64 p] 3) → Calls Try.prog 38 #[at0 Bd, a.v, b.v] y (SetA Bd (okJ a b p 0) (dlJ a b p 1) y)) := Lib.hid fun y hy hpy => settle38_any Bd (dlJ a b p 0) a b y hy
            obtain ⟨t, ht⟩ : ∃ t, okJ a b p 0 = t := ⟨_, rfl⟩
            rw [ht] at HT0
            have HT := Lib.hid ht
            clear ht
            have hix : ∀ w : World, (Instr.index 47 (.agg #[.func (.func 38) #[] #[], .int .i64 10, .func (.func 39) #[] #[], .int .i64 10, .func (.func 40) #[] #[], .int .i64 10, .func (.func 41) #[] #[at0 P], .int .i64 11, .func (.func 43) #[] #[], .int .i64 4, .func (.func 44) #[] #[], .int .i64 4]) (.int .i64 0)).run Try.prog w = .ok (.agg #[.func (.func 38) #[] #[], .int .i64 10]) w := fun _ => by kernel_rfl
            go_upto_region 8 with fail
            clear hix
            obtain ⟨X0, hX0⟩ : ∃ X0, wr.alloc (.cells #[.func (.func 38) #[] #[], .int .i64 10] 46) = X0 := ⟨_, rfl⟩
            have hG : X0.heap[wr.heap.size]? = some (.cells #[.func (.func 38) #[] #[], .int .i64 10] 46) := by rw [← hX0]; exact blk_alloc_new _ _
            have hA0 : A4 w N0 N1 N2 a b p X0 := by rw [← hX0]; exact HA.out.below (below_box _ _)
            have hD0 : X0.heap[Bd]? = some (dlJ a b p 0).o := by rw [← hX0]; exact keep_blk (below_box _ _) HD.out
            have hP0 : X0.heap[P]? = some (.cells #[.int .i64 p] 3) := by rw [← hX0]; exact keep_blk (below_box _ _) HPW.out
            have hGB : wr.heap.size ≠ Bd := by have := (Array.getElem?_eq_some_iff.1 HD.out).1; omega
            try rw [hX0]
            clear hX0
            refine region_T (S := fun wx => wx.heap[N0]? = some (.cells a.c 23) ∧ wx.heap[N1]? = some (.cells b.c 23) ∧ wx.heap[wr.heap.size]? = some (.cells #[.func (.func 38) #[] #[], .int .i64 10] 46)) [] (by kernel_rfl) ⟨hA0.h0, hA0.h1, hG⟩ (fun _ => ?_)
            have hdr : Below X0.heap.size X0 X0.drew := ⟨rfl, rfl, rfl, Nat.le_refl _, fun _ _ => rfl⟩
            obtain ⟨X, hX⟩ : ∃ X, X0.drew = X := ⟨_, rfl⟩
            rw [hX] at hdr ⊢
            have hA1 := hA0.below hdr
            have hD1 := keep_blk hdr hD0
            have hP1 := keep_blk hdr hP0
            have hG1 := keep_blk hdr hG
            clear hA0 hD0 hP0 hG hdr hX
            refine anyT_take (i := 0) (v := ?_) rfl (by kernel_rfl) (by kernel_rfl) (by kernel_rfl) (by kernel_rfl) (fun _ _ _ h => h) (Or.inl ⟨by rfl, ?_⟩) ⟨hA1.h0, hA1.h1, hG1⟩ ?_
            rotate_left
            focus ((intro wq hSw; have m1 := cells2 hSw.2.2; have m5 := cells7 hSw.1; have m7 := cells7 hSw.2.1; obtain ⟨e0, e1⟩ := m1; obtain ⟨d0, d1, d2, d3, d4, d5, d6⟩ := m5; obtain ⟨f0, f1, f2, f3, f4, f5, f6⟩ := m7; go_simp); try with_reducible rfl)
            try simp only [Act.put, List.getElem_toArray, List.getElem_cons_succ, List.getElem_cons_zero, List.setIfInBounds_toArray, List.set_cons_zero, List.set_cons_succ]
            refine anyT_take (i := 1) (v := ?_) rfl (by kernel_rfl) (by kernel_rfl) (by kernel_rfl) (by kernel_rfl) (fun _ _ _ h => h) (Or.inl ⟨by rfl, ?_⟩) ⟨hA1.h0, hA1.h1, hG1⟩ ?_
            rotate_left
            focus ((intro wq hSw; have m1 := cells2 hSw.2.2; have m5 := cells7 hSw.1; have m7 := cells7 hSw.2.1; obtain ⟨e0, e1⟩ := m1; obtain ⟨d0, d1, d2, d3, d4, d5, d6⟩ := m5; obtain ⟨f0, f1, f2, f3, f4, f5, f6⟩ := m7; go_simp); try with_reducible rfl)
            try simp only [Act.put, List.getElem_toArray, List.getElem_cons_succ, List.getElem_cons_zero, List.setIfInBounds_toArray, List.set_cons_zero, List.set_cons_succ]
            refine anyT_take (i := 2) (v := ?_) rfl (by kernel_rfl) (by kernel_rfl) (by kernel_rfl) (by kernel_rfl) (fun _ _ _ h => h) (Or.inl ⟨by rfl, ?_⟩) ⟨hA1.h0, hA1.h1, hG1⟩ ?_
            rotate_left
            focus ((intro wq hSw; have m1 := cells2 hSw.2.2; have m5 := cells7 hSw.1; have m7 := cells7 hSw.2.1; obtain ⟨e0, e1⟩ := m1; obtain ⟨d0, d1, d2, d3, d4, d5, d6⟩ := m5; obtain ⟨f0, f1, f2, f3, f4, f5, f6⟩ := m7; go_simp); try with_reducible rfl)
            try simp only [Act.put, List.getElem_toArray, List.getElem_cons_succ, List.getElem_cons_zero, List.setIfInBounds_toArray, List.set_cons_zero, List.set_cons_succ]
            refine anyT_take (i := 3) (v := ?_) rfl (by kernel_rfl) (by kernel_rfl) (by kernel_rfl) (by kernel_rfl) (fun _ _ _ h => h) (Or.inl ⟨by rfl, ?_⟩) ⟨hA1.h0, hA1.h1, hG1⟩ ?_
            rotate_left
            focus ((intro wq hSw; have m1 := cells2 hSw.2.2; have m5 := cells7 hSw.1; have m7 := cells7 hSw.2.1; obtain ⟨e0, e1⟩ := m1; obtain ⟨d0, d1, d2, d3, d4, d5, d6⟩ := m5; obtain ⟨f0, f1, f2, f3, f4, f5, f6⟩ := m7; go_simp); try with_reducible rfl)
            try simp only [Act.put, List.getElem_toArray, List.getElem_cons_succ, List.getElem_cons_zero, List.setIfInBounds_toArray, List.set_cons_zero, List.set_cons_succ]
            refine anyT_take (i := 5) (v := ?_) rfl (by kernel_rfl) (by kernel_rfl) (by kernel_rfl) (by kernel_rfl) (fun _ _ _ h => h) (Or.inl ⟨by rfl, ?_⟩) ⟨hA1.h0, hA1.h1, hG1⟩ ?_
            rotate_left
            focus ((intro wq hSw; have m1 := cells2 hSw.2.2; have m5 := cells7 hSw.1; have m7 := cells7 hSw.2.1; obtain ⟨e0, e1⟩ := m1; obtain ⟨d0, d1, d2, d3, d4, d5, d6⟩ := m5; obtain ⟨f0, f1, f2, f3, f4, f5, f6⟩ := m7; go_simp); try with_reducible rfl)
            try simp only [Act.put, List.getElem_toArray, List.getElem_cons_succ, List.getElem_cons_zero, List.setIfInBounds_toArray, List.set_cons_zero, List.set_cons_succ]
            refine anyT_take (i := 6) (v := ?_) rfl (by kernel_rfl) (by kernel_rfl) (by kernel_rfl) (by kernel_rfl) (fun _ _ _ h => h) (Or.inl ⟨by rfl, ?_⟩) ⟨hA1.h0, hA1.h1, hG1⟩ ?_
            rotate_left
            focus ((intro wq hSw; have m1 := cells2 hSw.2.2; have m5 := cells7 hSw.1; have m7 := cells7 hSw.2.1; obtain ⟨e0, e1⟩ := m1; obtain ⟨d0, d1, d2, d3, d4, d5, d6⟩ := m5; obtain ⟨f0, f1, f2, f3, f4, f5, f6⟩ := m7; go_simp); try with_reducible rfl)
            try simp only [Act.put, List.getElem_toArray, List.getElem_cons_succ, List.getElem_cons_zero, List.setIfInBounds_toArray, List.set_cons_zero, List.set_cons_succ]
            refine anyT_one (i := 4) (by kernel_rfl) rfl (fun K hK => ?_)
            go_simp
            refine (HT0.out _ hD1 hP1).mono ?_
            rintro e w5 ⟨rfl, hn5, hd5⟩
            have hA5 := hA1.near hn5 HLT.out
            have hG5 := (hn5.2.2 _ hGB (Array.getElem?_eq_some_iff.1 hG1).1).trans hG1
            have hP5 := (hn5.2.2 _ HPB.out (Array.getElem?_eq_some_iff.1 hP1).1).trans hP1
            go_simp
            refine hK.out _ _ (fun _ => ⟨hA5.h0, hA5.h1, hG5⟩) ?_
            clear hK K hA1 hD1 hP1 hG1 hn5
            try simp only [Act.put, List.getElem_toArray, List.getElem_cons_succ, List.getElem_cons_zero, List.setIfInBounds_toArray, List.set_cons_zero, List.set_cons_succ]
            refine anyT_one (i := 7) (by kernel_rfl) rfl (fun K hK => ?_)
            go_simp
            refine (HMU.out _ _ _).mono ?_
            rintro e w6 ⟨rfl, rfl⟩
            cases t with
            | false =>
              simp only [Bool.false_eq_true, if_false]
              go_simp
              have HK : Hid (agreeE a b p = 10) := Lib.hid (by rw [HE.out]; unfold agreeK; simp [HT.out])
              exact ⟨rfl, by rw [HK.out]; rfl, hA5.bel⟩
            | true =>
              simp only [if_true]
              go_simp
              refine hK.out _ _ (fun _ => ⟨hA5.h0, hA5.h1, hG5⟩) ?_
              clear hK K
              try simp only [Act.put, List.getElem_toArray, List.getElem_cons_succ, List.getElem_cons_zero, List.setIfInBounds_toArray, List.set_cons_zero, List.set_cons_succ]
              refine anyT_done (by kernel_rfl) ?_ _
              have HA5 := Lib.hid hA5
              have HD5 := Lib.hid hd5
              have HP5 := Lib.hid hP5
              clear hA5 hd5 hP5 hG5
              go_wp2_with fail
              go_roundw
              case rel => exact ⟨1, rfl, by decide, fun q hq => by rcases Nat.lt_succ_iff_lt_or_eq.1 hq with h | rfl; exact HOK.out q h; exact HT.out, HA5.out, HD5.out, HP5.out⟩
              case measure => decide
          · have HT0 : Hid (∀ y : World, y.heap[Bd]? = some (dlJ a b p 1).o → y.heap[P]? = some (.cells #[.int .i64 p] 3) → Calls Try.prog 39 #[at0 Bd, a.v, b.v] y (SetA Bd (okJ a b p 1) (dlJ a b p 2) y)) := Lib.hid fun y hy hpy => settle39_any Bd (dlJ a b p 1) a b y hy
            obtain ⟨t, ht⟩ : ∃ t, okJ a b p 1 = t := ⟨_, rfl⟩
            rw [ht] at HT0
            have HT := Lib.hid ht
            clear ht
            have hix : ∀ w : World, (Instr.index 47 (.agg #[.func (.func 38) #[] #[], .int .i64 10, .func (.func 39) #[] #[], .int .i64 10, .func (.func 40) #[] #[], .int .i64 10, .func (.func 41) #[] #[at0 P], .int .i64 11, .func (.func 43) #[] #[], .int .i64 4, .func (.func 44) #[] #[], .int .i64 4]) (.int .i64 1)).run Try.prog w = .ok (.agg #[.func (.func 39) #[] #[], .int .i64 10]) w := fun _ => by kernel_rfl
            go_upto_region 8 with fail
            clear hix
            obtain ⟨X0, hX0⟩ : ∃ X0, wr.alloc (.cells #[.func (.func 39) #[] #[], .int .i64 10] 46) = X0 := ⟨_, rfl⟩
            have hG : X0.heap[wr.heap.size]? = some (.cells #[.func (.func 39) #[] #[], .int .i64 10] 46) := by rw [← hX0]; exact blk_alloc_new _ _
            have hA0 : A4 w N0 N1 N2 a b p X0 := by rw [← hX0]; exact HA.out.below (below_box _ _)
            have hD0 : X0.heap[Bd]? = some (dlJ a b p 1).o := by rw [← hX0]; exact keep_blk (below_box _ _) HD.out
            have hP0 : X0.heap[P]? = some (.cells #[.int .i64 p] 3) := by rw [← hX0]; exact keep_blk (below_box _ _) HPW.out
            have hGB : wr.heap.size ≠ Bd := by have := (Array.getElem?_eq_some_iff.1 HD.out).1; omega
            try rw [hX0]
            clear hX0
            refine region_T (S := fun wx => wx.heap[N0]? = some (.cells a.c 23) ∧ wx.heap[N1]? = some (.cells b.c 23) ∧ wx.heap[wr.heap.size]? = some (.cells #[.func (.func 39) #[] #[], .int .i64 10] 46)) [] (by kernel_rfl) ⟨hA0.h0, hA0.h1, hG⟩ (fun _ => ?_)
            have hdr : Below X0.heap.size X0 X0.drew := ⟨rfl, rfl, rfl, Nat.le_refl _, fun _ _ => rfl⟩
            obtain ⟨X, hX⟩ : ∃ X, X0.drew = X := ⟨_, rfl⟩
            rw [hX] at hdr ⊢
            have hA1 := hA0.below hdr
            have hD1 := keep_blk hdr hD0
            have hP1 := keep_blk hdr hP0
            have hG1 := keep_blk hdr hG
            clear hA0 hD0 hP0 hG hdr hX
            refine anyT_take (i := 0) (v := ?_) rfl (by kernel_rfl) (by kernel_rfl) (by kernel_rfl) (by kernel_rfl) (fun _ _ _ h => h) (Or.inl ⟨by rfl, ?_⟩) ⟨hA1.h0, hA1.h1, hG1⟩ ?_
            rotate_left
            focus ((intro wq hSw; have m1 := cells2 hSw.2.2; have m5 := cells7 hSw.1; have m7 := cells7 hSw.2.1; obtain ⟨e0, e1⟩ := m1; obtain ⟨d0, d1, d2, d3, d4, d5, d6⟩ := m5; obtain ⟨f0, f1, f2, f3, f4, f5, f6⟩ := m7; go_simp); try with_reducible rfl)
            try simp only [Act.put, List.getElem_toArray, List.getElem_cons_succ, List.getElem_cons_zero, List.setIfInBounds_toArray, List.set_cons_zero, List.set_cons_succ]
            refine anyT_take (i := 1) (v := ?_) rfl (by kernel_rfl) (by kernel_rfl) (by kernel_rfl) (by kernel_rfl) (fun _ _ _ h => h) (Or.inl ⟨by rfl, ?_⟩) ⟨hA1.h0, hA1.h1, hG1⟩ ?_
            rotate_left
            focus ((intro wq hSw; have m1 := cells2 hSw.2.2; have m5 := cells7 hSw.1; have m7 := cells7 hSw.2.1; obtain ⟨e0, e1⟩ := m1; obtain ⟨d0, d1, d2, d3, d4, d5, d6⟩ := m5; obtain ⟨f0, f1, f2, f3, f4, f5, f6⟩ := m7; go_simp); try with_reducible rfl)
            try simp only [Act.put, List.getElem_toArray, List.getElem_cons_succ, List.getElem_cons_zero, List.setIfInBounds_toArray, List.set_cons_zero, List.set_cons_succ]
            refine anyT_take (i := 2) (v := ?_) rfl (by kernel_rfl) (by kernel_rfl) (by kernel_rfl) (by kernel_rfl) (fun _ _ _ h => h) (Or.inl ⟨by rfl, ?_⟩) ⟨hA1.h0, hA1.h1, hG1⟩ ?_
            rotate_left
            focus ((intro wq hSw; have m1 := cells2 hSw.2.2; have m5 := cells7 hSw.1; have m7 := cells7 hSw.2.1; obtain ⟨e0, e1⟩ := m1; obtain ⟨d0, d1, d2, d3, d4, d5, d6⟩ := m5; obtain ⟨f0, f1, f2, f3, f4, f5, f6⟩ := m7; go_simp); try with_reducible rfl)
            try simp only [Act.put, List.getElem_toArray, List.getElem_cons_succ, List.getElem_cons_zero, List.setIfInBounds_toArray, List.set_cons_zero, List.set_cons_succ]
            refine anyT_take (i := 3) (v := ?_) rfl (by kernel_rfl) (by kernel_rfl) (by kernel_rfl) (by kernel_rfl) (fun _ _ _ h => h) (Or.inl ⟨by rfl, ?_⟩) ⟨hA1.h0, hA1.h1, hG1⟩ ?_
            rotate_left
            focus ((intro wq hSw; have m1 := cells2 hSw.2.2; have m5 := cells7 hSw.1; have m7 := cells7 hSw.2.1; obtain ⟨e0, e1⟩ := m1; obtain ⟨d0, d1, d2, d3, d4, d5, d6⟩ := m5; obtain ⟨f0, f1, f2, f3, f4, f5, f6⟩ := m7; go_simp); try with_reducible rfl)
            try simp only [Act.put, List.getElem_toArray, List.getElem_cons_succ, List.getElem_cons_zero, List.setIfInBounds_toArray, List.set_cons_zero, List.set_cons_succ]
            refine anyT_take (i := 5) (v := ?_) rfl (by kernel_rfl) (by kernel_rfl) (by kernel_rfl) (by kernel_rfl) (fun _ _ _ h => h) (Or.inl ⟨by rfl, ?_⟩) ⟨hA1.h0, hA1.h1, hG1⟩ ?_
            rotate_left
            focus ((intro wq hSw; have m1 := cells2 hSw.2.2; have m5 := cells7 hSw.1; have m7 := cells7 hSw.2.1; obtain ⟨e0, e1⟩ := m1; obtain ⟨d0, d1, d2, d3, d4, d5, d6⟩ := m5; obtain ⟨f0, f1, f2, f3, f4, f5, f6⟩ := m7; go_simp); try with_reducible rfl)
            try simp only [Act.put, List.getElem_toArray, List.getElem_cons_succ, List.getElem_cons_zero, List.setIfInBounds_toArray, List.set_cons_zero, List.set_cons_succ]
            refine anyT_take (i := 6) (v := ?_) rfl (by kernel_rfl) (by kernel_rfl) (by kernel_rfl) (by kernel_rfl) (fun _ _ _ h => h) (Or.inl ⟨by rfl, ?_⟩) ⟨hA1.h0, hA1.h1, hG1⟩ ?_
            rotate_left
            focus ((intro wq hSw; have m1 := cells2 hSw.2.2; have m5 := cells7 hSw.1; have m7 := cells7 hSw.2.1; obtain ⟨e0, e1⟩ := m1; obtain ⟨d0, d1, d2, d3, d4, d5, d6⟩ := m5; obtain ⟨f0, f1, f2, f3, f4, f5, f6⟩ := m7; go_simp); try with_reducible rfl)
            try simp only [Act.put, List.getElem_toArray, List.getElem_cons_succ, List.getElem_cons_zero, List.setIfInBounds_toArray, List.set_cons_zero, List.set_cons_succ]
            refine anyT_one (i := 4) (by kernel_rfl) rfl (fun K hK => ?_)
            go_simp
            refine (HT0.out _ hD1 hP1).mono ?_
            rintro e w5 ⟨rfl, hn5, hd5⟩
            have hA5 := hA1.near hn5 HLT.out
            have hG5 := (hn5.2.2 _ hGB (Array.getElem?_eq_some_iff.1 hG1).1).trans hG1
            have hP5 := (hn5.2.2 _ HPB.out (Array.getElem?_eq_some_iff.1 hP1).1).trans hP1
            go_simp
            refine hK.out _ _ (fun _ => ⟨hA5.h0, hA5.h1, hG5⟩) ?_
            clear hK K hA1 hD1 hP1 hG1 hn5
            try simp only [Act.put, List.getElem_toArray, List.getElem_cons_succ, List.getElem_cons_zero, List.setIfInBounds_toArray, List.set_cons_zero, List.set_cons_succ]
            refine anyT_one (i := 7) (by kernel_rfl) rfl (fun K hK => ?_)
            go_simp
            refine (HMU.out _ _ _).mono ?_
            rintro e w6 ⟨rfl, rfl⟩
            cases t with
            | false =>
              simp only [Bool.false_eq_true, if_false]
              go_simp
              have HK : Hid (agreeE a b p = 10) := Lib.hid (by rw [HE.out]; unfold agreeK; simp [HOK.out 0 (by decide), HT.out])
              exact ⟨rfl, by rw [HK.out]; rfl, hA5.bel⟩
            | true =>
              simp only [if_true]
              go_simp
              refine hK.out _ _ (fun _ => ⟨hA5.h0, hA5.h1, hG5⟩) ?_
              clear hK K
              try simp only [Act.put, List.getElem_toArray, List.getElem_cons_succ, List.getElem_cons_zero, List.setIfInBounds_toArray, List.set_cons_zero, List.set_cons_succ]
              refine anyT_done (by kernel_rfl) ?_ _
              have HA5 := Lib.hid hA5
              have HD5 := Lib.hid hd5
              have HP5 := Lib.hid hP5
              clear hA5 hd5 hP5 hG5
              go_wp2_with fail
              go_roundw
              case rel => exact ⟨2, rfl, by decide, fun q hq => by rcases Nat.lt_succ_iff_lt_or_eq.1 hq with h | rfl; exact HOK.out q h; exact HT.out, HA5.out, HD5.out, HP5.out⟩
              case measure => decide
          · have HT0 : Hid (∀ y : World, y.heap[Bd]? = some (dlJ a b p 2).o → y.heap[P]? = some (.cells #[.int .i64 p] 3) → Calls Try.prog 40 #[at0 Bd, a.v, b.v] y (SetA Bd (okJ a b p 2) (dlJ a b p 3) y)) := Lib.hid fun y hy hpy => settle40_any Bd (dlJ a b p 2) a b (by have := Wish.ok_t HAB.out.1; omega) (by have := Wish.ok_t HAB.out.2; omega) y hy
            obtain ⟨t, ht⟩ : ∃ t, okJ a b p 2 = t := ⟨_, rfl⟩
            rw [ht] at HT0
            have HT := Lib.hid ht
            clear ht
            have hix : ∀ w : World, (Instr.index 47 (.agg #[.func (.func 38) #[] #[], .int .i64 10, .func (.func 39) #[] #[], .int .i64 10, .func (.func 40) #[] #[], .int .i64 10, .func (.func 41) #[] #[at0 P], .int .i64 11, .func (.func 43) #[] #[], .int .i64 4, .func (.func 44) #[] #[], .int .i64 4]) (.int .i64 2)).run Try.prog w = .ok (.agg #[.func (.func 40) #[] #[], .int .i64 10]) w := fun _ => by kernel_rfl
            go_upto_region 8 with fail
            clear hix
            obtain ⟨X0, hX0⟩ : ∃ X0, wr.alloc (.cells #[.func (.func 40) #[] #[], .int .i64 10] 46) = X0 := ⟨_, rfl⟩
            have hG : X0.heap[wr.heap.size]? = some (.cells #[.func (.func 40) #[] #[], .int .i64 10] 46) := by rw [← hX0]; exact blk_alloc_new _ _
            have hA0 : A4 w N0 N1 N2 a b p X0 := by rw [← hX0]; exact HA.out.below (below_box _ _)
            have hD0 : X0.heap[Bd]? = some (dlJ a b p 2).o := by rw [← hX0]; exact keep_blk (below_box _ _) HD.out
            have hP0 : X0.heap[P]? = some (.cells #[.int .i64 p] 3) := by rw [← hX0]; exact keep_blk (below_box _ _) HPW.out
            have hGB : wr.heap.size ≠ Bd := by have := (Array.getElem?_eq_some_iff.1 HD.out).1; omega
            try rw [hX0]
            clear hX0
            refine region_T (S := fun wx => wx.heap[N0]? = some (.cells a.c 23) ∧ wx.heap[N1]? = some (.cells b.c 23) ∧ wx.heap[wr.heap.size]? = some (.cells #[.func (.func 40) #[] #[], .int .i64 10] 46)) [] (by kernel_rfl) ⟨hA0.h0, hA0.h1, hG⟩ (fun _ => ?_)
            have hdr : Below X0.heap.size X0 X0.drew := ⟨rfl, rfl, rfl, Nat.le_refl _, fun _ _ => rfl⟩
            obtain ⟨X, hX⟩ : ∃ X, X0.drew = X := ⟨_, rfl⟩
            rw [hX] at hdr ⊢
            have hA1 := hA0.below hdr
            have hD1 := keep_blk hdr hD0
            have hP1 := keep_blk hdr hP0
            have hG1 := keep_blk hdr hG
            clear hA0 hD0 hP0 hG hdr hX
            refine anyT_take (i := 0) (v := ?_) rfl (by kernel_rfl) (by kernel_rfl) (by kernel_rfl) (by kernel_rfl) (fun _ _ _ h => h) (Or.inl ⟨by rfl, ?_⟩) ⟨hA1.h0, hA1.h1, hG1⟩ ?_
            rotate_left
            focus ((intro wq hSw; have m1 := cells2 hSw.2.2; have m5 := cells7 hSw.1; have m7 := cells7 hSw.2.1; obtain ⟨e0, e1⟩ := m1; obtain ⟨d0, d1, d2, d3, d4, d5, d6⟩ := m5; obtain ⟨f0, f1, f2, f3, f4, f5, f6⟩ := m7; go_simp); try with_reducible rfl)
            try simp only [Act.put, List.getElem_toArray, List.getElem_cons_succ, List.getElem_cons_zero, List.setIfInBounds_toArray, List.set_cons_zero, List.set_cons_succ]
            refine anyT_take (i := 1) (v := ?_) rfl (by kernel_rfl) (by kernel_rfl) (by kernel_rfl) (by kernel_rfl) (fun _ _ _ h => h) (Or.inl ⟨by rfl, ?_⟩) ⟨hA1.h0, hA1.h1, hG1⟩ ?_
            rotate_left
            focus ((intro wq hSw; have m1 := cells2 hSw.2.2; have m5 := cells7 hSw.1; have m7 := cells7 hSw.2.1; obtain ⟨e0, e1⟩ := m1; obtain ⟨d0, d1, d2, d3, d4, d5, d6⟩ := m5; obtain ⟨f0, f1, f2, f3, f4, f5, f6⟩ := m7; go_simp); try with_reducible rfl)
            try simp only [Act.put, List.getElem_toArray, List.getElem_cons_succ, List.getElem_cons_zero, List.setIfInBounds_toArray, List.set_cons_zero, List.set_cons_succ]
            refine anyT_take (i := 2) (v := ?_) rfl (by kernel_rfl) (by kernel_rfl) (by kernel_rfl) (by kernel_rfl) (fun _ _ _ h => h) (Or.inl ⟨by rfl, ?_⟩) ⟨hA1.h0, hA1.h1, hG1⟩ ?_
            rotate_left
            focus ((intro wq hSw; have m1 := cells2 hSw.2.2; have m5 := cells7 hSw.1; have m7 := cells7 hSw.2.1; obtain ⟨e0, e1⟩ := m1; obtain ⟨d0, d1, d2, d3, d4, d5, d6⟩ := m5; obtain ⟨f0, f1, f2, f3, f4, f5, f6⟩ := m7; go_simp); try with_reducible rfl)
            try simp only [Act.put, List.getElem_toArray, List.getElem_cons_succ, List.getElem_cons_zero, List.setIfInBounds_toArray, List.set_cons_zero, List.set_cons_succ]
            refine anyT_take (i := 3) (v := ?_) rfl (by kernel_rfl) (by kernel_rfl) (by kernel_rfl) (by kernel_rfl) (fun _ _ _ h => h) (Or.inl ⟨by rfl, ?_⟩) ⟨hA1.h0, hA1.h1, hG1⟩ ?_
            rotate_left
            focus ((intro wq hSw; have m1 := cells2 hSw.2.2; have m5 := cells7 hSw.1; have m7 := cells7 hSw.2.1; obtain ⟨e0, e1⟩ := m1; obtain ⟨d0, d1, d2, d3, d4, d5, d6⟩ := m5; obtain ⟨f0, f1, f2, f3, f4, f5, f6⟩ := m7; go_simp); try with_reducible rfl)
            try simp only [Act.put, List.getElem_toArray, List.getElem_cons_succ, List.getElem_cons_zero, List.setIfInBounds_toArray, List.set_cons_zero, List.set_cons_succ]
            refine anyT_take (i := 5) (v := ?_) rfl (by kernel_rfl) (by kernel_rfl) (by kernel_rfl) (by kernel_rfl) (fun _ _ _ h => h) (Or.inl ⟨by rfl, ?_⟩) ⟨hA1.h0, hA1.h1, hG1⟩ ?_
            rotate_left
            focus ((intro wq hSw; have m1 := cells2 hSw.2.2; have m5 := cells7 hSw.1; have m7 := cells7 hSw.2.1; obtain ⟨e0, e1⟩ := m1; obtain ⟨d0, d1, d2, d3, d4, d5, d6⟩ := m5; obtain ⟨f0, f1, f2, f3, f4, f5, f6⟩ := m7; go_simp); try with_reducible rfl)
            try simp only [Act.put, List.getElem_toArray, List.getElem_cons_succ, List.getElem_cons_zero, List.setIfInBounds_toArray, List.set_cons_zero, List.set_cons_succ]
            refine anyT_take (i := 6) (v := ?_) rfl (by kernel_rfl) (by kernel_rfl) (by kernel_rfl) (by kernel_rfl) (fun _ _ _ h => h) (Or.inl ⟨by rfl, ?_⟩) ⟨hA1.h0, hA1.h1, hG1⟩ ?_
            rotate_left
            focus ((intro wq hSw; have m1 := cells2 hSw.2.2; have m5 := cells7 hSw.1; have m7 := cells7 hSw.2.1; obtain ⟨e0, e1⟩ := m1; obtain ⟨d0, d1, d2, d3, d4, d5, d6⟩ := m5; obtain ⟨f0, f1, f2, f3, f4, f5, f6⟩ := m7; go_simp); try with_reducible rfl)
            try simp only [Act.put, List.getElem_toArray, List.getElem_cons_succ, List.getElem_cons_zero, List.setIfInBounds_toArray, List.set_cons_zero, List.set_cons_succ]
            refine anyT_one (i := 4) (by kernel_rfl) rfl (fun K hK => ?_)
            go_simp
            refine (HT0.out _ hD1 hP1).mono ?_
            rintro e w5 ⟨rfl, hn5, hd5⟩
            have hA5 := hA1.near hn5 HLT.out
            have hG5 := (hn5.2.2 _ hGB (Array.getElem?_eq_some_iff.1 hG1).1).trans hG1
            have hP5 := (hn5.2.2 _ HPB.out (Array.getElem?_eq_some_iff.1 hP1).1).trans hP1
            go_simp
            refine hK.out _ _ (fun _ => ⟨hA5.h0, hA5.h1, hG5⟩) ?_
            clear hK K hA1 hD1 hP1 hG1 hn5
            try simp only [Act.put, List.getElem_toArray, List.getElem_cons_succ, List.getElem_cons_zero, List.setIfInBounds_toArray, List.set_cons_zero, List.set_cons_succ]
            refine anyT_one (i := 7) (by kernel_rfl) rfl (fun K hK => ?_)
            go_simp
            refine (HMU.out _ _ _).mono ?_
            rintro e w6 ⟨rfl, rfl⟩
            cases t with
            | false =>
              simp only [Bool.false_eq_true, if_false]
              go_simp
              have HK : Hid (agreeE a b p = 10) := Lib.hid (by rw [HE.out]; unfold agreeK; simp [HOK.out 0 (by decide), HOK.out 1 (by decide), HT.out])
              exact ⟨rfl, by rw [HK.out]; rfl, hA5.bel⟩
            | true =>
              simp only [if_true]
              go_simp
              refine hK.out _ _ (fun _ => ⟨hA5.h0, hA5.h1, hG5⟩) ?_
              clear hK K
              try simp only [Act.put, List.getElem_toArray, List.getElem_cons_succ, List.getElem_cons_zero, List.setIfInBounds_toArray, List.set_cons_zero, List.set_cons_succ]
              refine anyT_done (by kernel_rfl) ?_ _
              have HA5 := Lib.hid hA5
              have HD5 := Lib.hid hd5
              have HP5 := Lib.hid hP5
              clear hA5 hd5 hP5 hG5
              go_wp2_with fail
              go_roundw
              case rel => exact ⟨3, rfl, by decide, fun q hq => by rcases Nat.lt_succ_iff_lt_or_eq.1 hq with h | rfl; exact HOK.out q h; exact HT.out, HA5.out, HD5.out, HP5.out⟩
              case measure => decide
          · have HT0 : Hid (∀ y : World, y.heap[Bd]? = some (dlJ a b p 3).o → y.heap[P]? = some (.cells #[.int .i64 p] 3) → Calls Try.prog 41 #[at0 Bd, a.v, b.v, at0 P] y (SetA Bd (okJ a b p 3) (dlJ a b p 4) y)) := Lib.hid fun y hy hpy => settle41_any Bd P (dlJ a b p 3) a b p (Wish.ok_t HAB.out.1).1 (Wish.ok_t HAB.out.2).1 y hy hpy
            obtain ⟨t, ht⟩ : ∃ t, okJ a b p 3 = t := ⟨_, rfl⟩
            rw [ht] at HT0
            have HT := Lib.hid ht
            clear ht
            have hix : ∀ w : World, (Instr.index 47 (.agg #[.func (.func 38) #[] #[], .int .i64 10, .func (.func 39) #[] #[], .int .i64 10, .func (.func 40) #[] #[], .int .i64 10, .func (.func 41) #[] #[at0 P], .int .i64 11, .func (.func 43) #[] #[], .int .i64 4, .func (.func 44) #[] #[], .int .i64 4]) (.int .i64 3)).run Try.prog w = .ok (.agg #[.func (.func 41) #[] #[at0 P], .int .i64 11]) w := fun _ => by kernel_rfl
            go_upto_region 8 with fail
            clear hix
            obtain ⟨X0, hX0⟩ : ∃ X0, wr.alloc (.cells #[.func (.func 41) #[] #[at0 P], .int .i64 11] 46) = X0 := ⟨_, rfl⟩
            have hG : X0.heap[wr.heap.size]? = some (.cells #[.func (.func 41) #[] #[at0 P], .int .i64 11] 46) := by rw [← hX0]; exact blk_alloc_new _ _
            have hA0 : A4 w N0 N1 N2 a b p X0 := by rw [← hX0]; exact HA.out.below (below_box _ _)
            have hD0 : X0.heap[Bd]? = some (dlJ a b p 3).o := by rw [← hX0]; exact keep_blk (below_box _ _) HD.out
            have hP0 : X0.heap[P]? = some (.cells #[.int .i64 p] 3) := by rw [← hX0]; exact keep_blk (below_box _ _) HPW.out
            have hGB : wr.heap.size ≠ Bd := by have := (Array.getElem?_eq_some_iff.1 HD.out).1; omega
            try rw [hX0]
            clear hX0
            refine region_T (S := fun wx => wx.heap[N0]? = some (.cells a.c 23) ∧ wx.heap[N1]? = some (.cells b.c 23) ∧ wx.heap[wr.heap.size]? = some (.cells #[.func (.func 41) #[] #[at0 P], .int .i64 11] 46)) [] (by kernel_rfl) ⟨hA0.h0, hA0.h1, hG⟩ (fun _ => ?_)
            have hdr : Below X0.heap.size X0 X0.drew := ⟨rfl, rfl, rfl, Nat.le_refl _, fun _ _ => rfl⟩
            obtain ⟨X, hX⟩ : ∃ X, X0.drew = X := ⟨_, rfl⟩
            rw [hX] at hdr ⊢
            have hA1 := hA0.below hdr
            have hD1 := keep_blk hdr hD0
            have hP1 := keep_blk hdr hP0
            have hG1 := keep_blk hdr hG
            clear hA0 hD0 hP0 hG hdr hX
            refine anyT_take (i := 0) (v := ?_) rfl (by kernel_rfl) (by kernel_rfl) (by kernel_rfl) (by kernel_rfl) (fun _ _ _ h => h) (Or.inl ⟨by rfl, ?_⟩) ⟨hA1.h0, hA1.h1, hG1⟩ ?_
            rotate_left
            focus ((intro wq hSw; have m1 := cells2 hSw.2.2; have m5 := cells7 hSw.1; have m7 := cells7 hSw.2.1; obtain ⟨e0, e1⟩ := m1; obtain ⟨d0, d1, d2, d3, d4, d5, d6⟩ := m5; obtain ⟨f0, f1, f2, f3, f4, f5, f6⟩ := m7; go_simp); try with_reducible rfl)
            try simp only [Act.put, List.getElem_toArray, List.getElem_cons_succ, List.getElem_cons_zero, List.setIfInBounds_toArray, List.set_cons_zero, List.set_cons_succ]
            refine anyT_take (i := 1) (v := ?_) rfl (by kernel_rfl) (by kernel_rfl) (by kernel_rfl) (by kernel_rfl) (fun _ _ _ h => h) (Or.inl ⟨by rfl, ?_⟩) ⟨hA1.h0, hA1.h1, hG1⟩ ?_
            rotate_left
            focus ((intro wq hSw; have m1 := cells2 hSw.2.2; have m5 := cells7 hSw.1; have m7 := cells7 hSw.2.1; obtain ⟨e0, e1⟩ := m1; obtain ⟨d0, d1, d2, d3, d4, d5, d6⟩ := m5; obtain ⟨f0, f1, f2, f3, f4, f5, f6⟩ := m7; go_simp); try with_reducible rfl)
            try simp only [Act.put, List.getElem_toArray, List.getElem_cons_succ, List.getElem_cons_zero, List.setIfInBounds_toArray, List.set_cons_zero, List.set_cons_succ]
            refine anyT_take (i := 2) (v := ?_) rfl (by kernel_rfl) (by kernel_rfl) (by kernel_rfl) (by kernel_rfl) (fun _ _ _ h => h) (Or.inl ⟨by rfl, ?_⟩) ⟨hA1.h0, hA1.h1, hG1⟩ ?_
            rotate_left
            focus ((intro wq hSw; have m1 := cells2 hSw.2.2; have m5 := cells7 hSw.1; have m7 := cells7 hSw.2.1; obtain ⟨e0, e1⟩ := m1; obtain ⟨d0, d1, d2, d3, d4, d5, d6⟩ := m5; obtain ⟨f0, f1, f2, f3, f4, f5, f6⟩ := m7; go_simp); try with_reducible rfl)
            try simp only [Act.put, List.getElem_toArray, List.getElem_cons_succ, List.getElem_cons_zero, List.setIfInBounds_toArray, List.set_cons_zero, List.set_cons_succ]
            refine anyT_take (i := 3) (v := ?_) rfl (by kernel_rfl) (by kernel_rfl) (by kernel_rfl) (by kernel_rfl) (fun _ _ _ h => h) (Or.inl ⟨by rfl, ?_⟩) ⟨hA1.h0, hA1.h1, hG1⟩ ?_
            rotate_left
            focus ((intro wq hSw; have m1 := cells2 hSw.2.2; have m5 := cells7 hSw.1; have m7 := cells7 hSw.2.1; obtain ⟨e0, e1⟩ := m1; obtain ⟨d0, d1, d2, d3, d4, d5, d6⟩ := m5; obtain ⟨f0, f1, f2, f3, f4, f5, f6⟩ := m7; go_simp); try with_reducible rfl)
            try simp only [Act.put, List.getElem_toArray, List.getElem_cons_succ, List.getElem_cons_zero, List.setIfInBounds_toArray, List.set_cons_zero, List.set_cons_succ]
            refine anyT_take (i := 5) (v := ?_) rfl (by kernel_rfl) (by kernel_rfl) (by kernel_rfl) (by kernel_rfl) (fun _ _ _ h => h) (Or.inl ⟨by rfl, ?_⟩) ⟨hA1.h0, hA1.h1, hG1⟩ ?_
            rotate_left
            focus ((intro wq hSw; have m1 := cells2 hSw.2.2; have m5 := cells7 hSw.1; have m7 := cells7 hSw.2.1; obtain ⟨e0, e1⟩ := m1; obtain ⟨d0, d1, d2, d3, d4, d5, d6⟩ := m5; obtain ⟨f0, f1, f2, f3, f4, f5, f6⟩ := m7; go_simp); try with_reducible rfl)
            try simp only [Act.put, List.getElem_toArray, List.getElem_cons_succ, List.getElem_cons_zero, List.setIfInBounds_toArray, List.set_cons_zero, List.set_cons_succ]
            refine anyT_take (i := 6) (v := ?_) rfl (by kernel_rfl) (by kernel_rfl) (by kernel_rfl) (by kernel_rfl) (fun _ _ _ h => h) (Or.inl ⟨by rfl, ?_⟩) ⟨hA1.h0, hA1.h1, hG1⟩ ?_
            rotate_left
            focus ((intro wq hSw; have m1 := cells2 hSw.2.2; have m5 := cells7 hSw.1; have m7 := cells7 hSw.2.1; obtain ⟨e0, e1⟩ := m1; obtain ⟨d0, d1, d2, d3, d4, d5, d6⟩ := m5; obtain ⟨f0, f1, f2, f3, f4, f5, f6⟩ := m7; go_simp); try with_reducible rfl)
            try simp only [Act.put, List.getElem_toArray, List.getElem_cons_succ, List.getElem_cons_zero, List.setIfInBounds_toArray, List.set_cons_zero, List.set_cons_succ]
            refine anyT_one (i := 4) (by kernel_rfl) rfl (fun K hK => ?_)
            go_simp
            refine (HT0.out _ hD1 hP1).mono ?_
            rintro e w5 ⟨rfl, hn5, hd5⟩
            have hA5 := hA1.near hn5 HLT.out
            have hG5 := (hn5.2.2 _ hGB (Array.getElem?_eq_some_iff.1 hG1).1).trans hG1
            have hP5 := (hn5.2.2 _ HPB.out (Array.getElem?_eq_some_iff.1 hP1).1).trans hP1
            go_simp
            refine hK.out _ _ (fun _ => ⟨hA5.h0, hA5.h1, hG5⟩) ?_
            clear hK K hA1 hD1 hP1 hG1 hn5
            try simp only [Act.put, List.getElem_toArray, List.getElem_cons_succ, List.getElem_cons_zero, List.setIfInBounds_toArray, List.set_cons_zero, List.set_cons_succ]
            refine anyT_one (i := 7) (by kernel_rfl) rfl (fun K hK => ?_)
            go_simp
            refine (HMU.out _ _ _).mono ?_
            rintro e w6 ⟨rfl, rfl⟩
            cases t with
            | false =>
              simp only [Bool.false_eq_true, if_false]
              go_simp
              have HK : Hid (agreeE a b p = 11) := Lib.hid (by rw [HE.out]; unfold agreeK; simp [HOK.out 0 (by decide), HOK.out 1 (by decide), HOK.out 2 (by decide), HT.out])
              exact ⟨rfl, by rw [HK.out]; rfl, hA5.bel⟩
            | true =>
              simp only [if_true]
              go_simp
              refine hK.out _ _ (fun _ => ⟨hA5.h0, hA5.h1, hG5⟩) ?_
              clear hK K
              try simp only [Act.put, List.getElem_toArray, List.getElem_cons_succ, List.getElem_cons_zero, List.setIfInBounds_toArray, List.set_cons_zero, List.set_cons_succ]
              refine anyT_done (by kernel_rfl) ?_ _
              have HA5 := Lib.hid hA5
              have HD5 := Lib.hid hd5
              have HP5 := Lib.hid hP5
              clear hA5 hd5 hP5 hG5
              go_wp2_with fail
              go_roundw
              case rel => exact ⟨4, rfl, by decide, fun q hq => by rcases Nat.lt_succ_iff_lt_or_eq.1 hq with h | rfl; exact HOK.out q h; exact HT.out, HA5.out, HD5.out, HP5.out⟩
              case measure => decide
          · have HT0 : Hid (∀ y : World, y.heap[Bd]? = some (dlJ a b p 4).o → y.heap[P]? = some (.cells #[.int .i64 p] 3) → Calls Try.prog 43 #[at0 Bd, a.v, b.v] y (SetA Bd (okJ a b p 4) (dlJ a b p 5) y)) := Lib.hid fun y hy hpy => point4 HAB.out.1 HAB.out.2 Bd y hy
            obtain ⟨t, ht⟩ : ∃ t, okJ a b p 4 = t := ⟨_, rfl⟩
            rw [ht] at HT0
            have HT := Lib.hid ht
            clear ht
            have hix : ∀ w : World, (Instr.index 47 (.agg #[.func (.func 38) #[] #[], .int .i64 10, .func (.func 39) #[] #[], .int .i64 10, .func (.func 40) #[] #[], .int .i64 10, .func (.func 41) #[] #[at0 P], .int .i64 11, .func (.func 43) #[] #[], .int .i64 4, .func (.func 44) #[] #[], .int .i64 4]) (.int .i64 4)).run Try.prog w = .ok (.agg #[.func (.func 43) #[] #[], .int .i64 4]) w := fun _ => by kernel_rfl
            go_upto_region 8 with fail
            clear hix
            obtain ⟨X0, hX0⟩ : ∃ X0, wr.alloc (.cells #[.func (.func 43) #[] #[], .int .i64 4] 46) = X0 := ⟨_, rfl⟩
            have hG : X0.heap[wr.heap.size]? = some (.cells #[.func (.func 43) #[] #[], .int .i64 4] 46) := by rw [← hX0]; exact blk_alloc_new _ _
            have hA0 : A4 w N0 N1 N2 a b p X0 := by rw [← hX0]; exact HA.out.below (below_box _ _)
            have hD0 : X0.heap[Bd]? = some (dlJ a b p 4).o := by rw [← hX0]; exact keep_blk (below_box _ _) HD.out
            have hP0 : X0.heap[P]? = some (.cells #[.int .i64 p] 3) := by rw [← hX0]; exact keep_blk (below_box _ _) HPW.out
            have hGB : wr.heap.size ≠ Bd := by have := (Array.getElem?_eq_some_iff.1 HD.out).1; omega
            try rw [hX0]
            clear hX0
            refine region_T (S := fun wx => wx.heap[N0]? = some (.cells a.c 23) ∧ wx.heap[N1]? = some (.cells b.c 23) ∧ wx.heap[wr.heap.size]? = some (.cells #[.func (.func 43) #[] #[], .int .i64 4] 46)) [] (by kernel_rfl) ⟨hA0.h0, hA0.h1, hG⟩ (fun _ => ?_)
            have hdr : Below X0.heap.size X0 X0.drew := ⟨rfl, rfl, rfl, Nat.le_refl _, fun _ _ => rfl⟩
            obtain ⟨X, hX⟩ : ∃ X, X0.drew = X := ⟨_, rfl⟩
            rw [hX] at hdr ⊢
            have hA1 := hA0.below hdr
            have hD1 := keep_blk hdr hD0
            have hP1 := keep_blk hdr hP0
            have hG1 := keep_blk hdr hG
            clear hA0 hD0 hP0 hG hdr hX
            refine anyT_take (i := 0) (v := ?_) rfl (by kernel_rfl) (by kernel_rfl) (by kernel_rfl) (by kernel_rfl) (fun _ _ _ h => h) (Or.inl ⟨by rfl, ?_⟩) ⟨hA1.h0, hA1.h1, hG1⟩ ?_
            rotate_left
            focus ((intro wq hSw; have m1 := cells2 hSw.2.2; have m5 := cells7 hSw.1; have m7 := cells7 hSw.2.1; obtain ⟨e0, e1⟩ := m1; obtain ⟨d0, d1, d2, d3, d4, d5, d6⟩ := m5; obtain ⟨f0, f1, f2, f3, f4, f5, f6⟩ := m7; go_simp); try with_reducible rfl)
            try simp only [Act.put, List.getElem_toArray, List.getElem_cons_succ, List.getElem_cons_zero, List.setIfInBounds_toArray, List.set_cons_zero, List.set_cons_succ]
            refine anyT_take (i := 1) (v := ?_) rfl (by kernel_rfl) (by kernel_rfl) (by kernel_rfl) (by kernel_rfl) (fun _ _ _ h => h) (Or.inl ⟨by rfl, ?_⟩) ⟨hA1.h0, hA1.h1, hG1⟩ ?_
            rotate_left
            focus ((intro wq hSw; have m1 := cells2 hSw.2.2; have m5 := cells7 hSw.1; have m7 := cells7 hSw.2.1; obtain ⟨e0, e1⟩ := m1; obtain ⟨d0, d1, d2, d3, d4, d5, d6⟩ := m5; obtain ⟨f0, f1, f2, f3, f4, f5, f6⟩ := m7; go_simp); try with_reducible rfl)
            try simp only [Act.put, List.getElem_toArray, List.getElem_cons_succ, List.getElem_cons_zero, List.setIfInBounds_toArray, List.set_cons_zero, List.set_cons_succ]
            refine anyT_take (i := 2) (v := ?_) rfl (by kernel_rfl) (by kernel_rfl) (by kernel_rfl) (by kernel_rfl) (fun _ _ _ h => h) (Or.inl ⟨by rfl, ?_⟩) ⟨hA1.h0, hA1.h1, hG1⟩ ?_
            rotate_left
            focus ((intro wq hSw; have m1 := cells2 hSw.2.2; have m5 := cells7 hSw.1; have m7 := cells7 hSw.2.1; obtain ⟨e0, e1⟩ := m1; obtain ⟨d0, d1, d2, d3, d4, d5, d6⟩ := m5; obtain ⟨f0, f1, f2, f3, f4, f5, f6⟩ := m7; go_simp); try with_reducible rfl)
            try simp only [Act.put, List.getElem_toArray, List.getElem_cons_succ, List.getElem_cons_zero, List.setIfInBounds_toArray, List.set_cons_zero, List.set_cons_succ]
            refine anyT_take (i := 3) (v := ?_) rfl (by kernel_rfl) (by kernel_rfl) (by kernel_rfl) (by kernel_rfl) (fun _ _ _ h => h) (Or.inl ⟨by rfl, ?_⟩) ⟨hA1.h0, hA1.h1, hG1⟩ ?_
            rotate_left
            focus ((intro wq hSw; have m1 := cells2 hSw.2.2; have m5 := cells7 hSw.1; have m7 := cells7 hSw.2.1; obtain ⟨e0, e1⟩ := m1; obtain ⟨d0, d1, d2, d3, d4, d5, d6⟩ := m5; obtain ⟨f0, f1, f2, f3, f4, f5, f6⟩ := m7; go_simp); try with_reducible rfl)
            try simp only [Act.put, List.getElem_toArray, List.getElem_cons_succ, List.getElem_cons_zero, List.setIfInBounds_toArray, List.set_cons_zero, List.set_cons_succ]
            refine anyT_take (i := 5) (v := ?_) rfl (by kernel_rfl) (by kernel_rfl) (by kernel_rfl) (by kernel_rfl) (fun _ _ _ h => h) (Or.inl ⟨by rfl, ?_⟩) ⟨hA1.h0, hA1.h1, hG1⟩ ?_
            rotate_left
            focus ((intro wq hSw; have m1 := cells2 hSw.2.2; have m5 := cells7 hSw.1; have m7 := cells7 hSw.2.1; obtain ⟨e0, e1⟩ := m1; obtain ⟨d0, d1, d2, d3, d4, d5, d6⟩ := m5; obtain ⟨f0, f1, f2, f3, f4, f5, f6⟩ := m7; go_simp); try with_reducible rfl)
            try simp only [Act.put, List.getElem_toArray, List.getElem_cons_succ, List.getElem_cons_zero, List.setIfInBounds_toArray, List.set_cons_zero, List.set_cons_succ]
            refine anyT_take (i := 6) (v := ?_) rfl (by kernel_rfl) (by kernel_rfl) (by kernel_rfl) (by kernel_rfl) (fun _ _ _ h => h) (Or.inl ⟨by rfl, ?_⟩) ⟨hA1.h0, hA1.h1, hG1⟩ ?_
            rotate_left
            focus ((intro wq hSw; have m1 := cells2 hSw.2.2; have m5 := cells7 hSw.1; have m7 := cells7 hSw.2.1; obtain ⟨e0, e1⟩ := m1; obtain ⟨d0, d1, d2, d3, d4, d5, d6⟩ := m5; obtain ⟨f0, f1, f2, f3, f4, f5, f6⟩ := m7; go_simp); try with_reducible rfl)
            try simp only [Act.put, List.getElem_toArray, List.getElem_cons_succ, List.getElem_cons_zero, List.setIfInBounds_toArray, List.set_cons_zero, List.set_cons_succ]
            refine anyT_one (i := 4) (by kernel_rfl) rfl (fun K hK => ?_)
            go_simp
            refine (HT0.out _ hD1 hP1).mono ?_
            rintro e w5 ⟨rfl, hn5, hd5⟩
            have hA5 := hA1.near hn5 HLT.out
            have hG5 := (hn5.2.2 _ hGB (Array.getElem?_eq_some_iff.1 hG1).1).trans hG1
            have hP5 := (hn5.2.2 _ HPB.out (Array.getElem?_eq_some_iff.1 hP1).1).trans hP1
            go_simp
            refine hK.out _ _ (fun _ => ⟨hA5.h0, hA5.h1, hG5⟩) ?_
            clear hK K hA1 hD1 hP1 hG1 hn5
            try simp only [Act.put, List.getElem_toArray, List.getElem_cons_succ, List.getElem_cons_zero, List.setIfInBounds_toArray, List.set_cons_zero, List.set_cons_succ]
            refine anyT_one (i := 7) (by kernel_rfl) rfl (fun K hK => ?_)
            go_simp
            refine (HMU.out _ _ _).mono ?_
            rintro e w6 ⟨rfl, rfl⟩
            cases t with
            | false =>
              simp only [Bool.false_eq_true, if_false]
              go_simp
              have HK : Hid (agreeE a b p = 4) := Lib.hid (by rw [HE.out]; unfold agreeK; simp [HOK.out 0 (by decide), HOK.out 1 (by decide), HOK.out 2 (by decide), HOK.out 3 (by decide), HT.out])
              exact ⟨rfl, by rw [HK.out]; rfl, hA5.bel⟩
            | true =>
              simp only [if_true]
              go_simp
              refine hK.out _ _ (fun _ => ⟨hA5.h0, hA5.h1, hG5⟩) ?_
              clear hK K
              try simp only [Act.put, List.getElem_toArray, List.getElem_cons_succ, List.getElem_cons_zero, List.setIfInBounds_toArray, List.set_cons_zero, List.set_cons_succ]
              refine anyT_done (by kernel_rfl) ?_ _
              have HA5 := Lib.hid hA5
              have HD5 := Lib.hid hd5
              have HP5 := Lib.hid hP5
              clear hA5 hd5 hP5 hG5
              go_wp2_with fail
              go_roundw
              case rel => exact ⟨5, rfl, by decide, fun q hq => by rcases Nat.lt_succ_iff_lt_or_eq.1 hq with h | rfl; exact HOK.out q h; exact HT.out, HA5.out, HD5.out, HP5.out⟩
              case measure => decide
          · have HT0 : Hid (∀ y : World, y.heap[Bd]? = some (dlJ a b p 5).o → y.heap[P]? = some (.cells #[.int .i64 p] 3) → Calls Try.prog 44 #[at0 Bd, a.v, b.v] y (SetA Bd (okJ a b p 5) (dlJ a b p 6) y)) := Lib.hid fun y hy hpy => point5 HAB.out.1 HAB.out.2 (HOK.out 3 (by decide)) (HOK.out 4 (by decide)) Bd y hy
            obtain ⟨t, ht⟩ : ∃ t, okJ a b p 5 = t := ⟨_, rfl⟩
            rw [ht] at HT0
            have HT := Lib.hid ht
            clear ht
            have hix : ∀ w : World, (Instr.index 47 (.agg #[.func (.func 38) #[] #[], .int .i64 10, .func (.func 39) #[] #[], .int .i64 10, .func (.func 40) #[] #[], .int .i64 10, .func (.func 41) #[] #[at0 P], .int .i64 11, .func (.func 43) #[] #[], .int .i64 4, .func (.func 44) #[] #[], .int .i64 4]) (.int .i64 5)).run Try.prog w = .ok (.agg #[.func (.func 44) #[] #[], .int .i64 4]) w := fun _ => by kernel_rfl
            go_upto_region 8 with fail
            clear hix
            obtain ⟨X0, hX0⟩ : ∃ X0, wr.alloc (.cells #[.func (.func 44) #[] #[], .int .i64 4] 46) = X0 := ⟨_, rfl⟩
            have hG : X0.heap[wr.heap.size]? = some (.cells #[.func (.func 44) #[] #[], .int .i64 4] 46) := by rw [← hX0]; exact blk_alloc_new _ _
            have hA0 : A4 w N0 N1 N2 a b p X0 := by rw [← hX0]; exact HA.out.below (below_box _ _)
            have hD0 : X0.heap[Bd]? = some (dlJ a b p 5).o := by rw [← hX0]; exact keep_blk (below_box _ _) HD.out
            have hP0 : X0.heap[P]? = some (.cells #[.int .i64 p] 3) := by rw [← hX0]; exact keep_blk (below_box _ _) HPW.out
            have hGB : wr.heap.size ≠ Bd := by have := (Array.getElem?_eq_some_iff.1 HD.out).1; omega
            try rw [hX0]
            clear hX0
            refine region_T (S := fun wx => wx.heap[N0]? = some (.cells a.c 23) ∧ wx.heap[N1]? = some (.cells b.c 23) ∧ wx.heap[wr.heap.size]? = some (.cells #[.func (.func 44) #[] #[], .int .i64 4] 46)) [] (by kernel_rfl) ⟨hA0.h0, hA0.h1, hG⟩ (fun _ => ?_)
            have hdr : Below X0.heap.size X0 X0.drew := ⟨rfl, rfl, rfl, Nat.le_refl _, fun _ _ => rfl⟩
            obtain ⟨X, hX⟩ : ∃ X, X0.drew = X := ⟨_, rfl⟩
            rw [hX] at hdr ⊢
            have hA1 := hA0.below hdr
            have hD1 := keep_blk hdr hD0
            have hP1 := keep_blk hdr hP0
            have hG1 := keep_blk hdr hG
            clear hA0 hD0 hP0 hG hdr hX
            refine anyT_take (i := 0) (v := ?_) rfl (by kernel_rfl) (by kernel_rfl) (by kernel_rfl) (by kernel_rfl) (fun _ _ _ h => h) (Or.inl ⟨by rfl, ?_⟩) ⟨hA1.h0, hA1.h1, hG1⟩ ?_
            rotate_left
            focus ((intro wq hSw; have m1 := cells2 hSw.2.2; have m5 := cells7 hSw.1; have m7 := cells7 hSw.2.1; obtain ⟨e0, e1⟩ := m1; obtain ⟨d0, d1, d2, d3, d4, d5, d6⟩ := m5; obtain ⟨f0, f1, f2, f3, f4, f5, f6⟩ := m7; go_simp); try with_reducible rfl)
            try simp only [Act.put, List.getElem_toArray, List.getElem_cons_succ, List.getElem_cons_zero, List.setIfInBounds_toArray, List.set_cons_zero, List.set_cons_succ]
            refine anyT_take (i := 1) (v := ?_) rfl (by kernel_rfl) (by kernel_rfl) (by kernel_rfl) (by kernel_rfl) (fun _ _ _ h => h) (Or.inl ⟨by rfl, ?_⟩) ⟨hA1.h0, hA1.h1, hG1⟩ ?_
            rotate_left
            focus ((intro wq hSw; have m1 := cells2 hSw.2.2; have m5 := cells7 hSw.1; have m7 := cells7 hSw.2.1; obtain ⟨e0, e1⟩ := m1; obtain ⟨d0, d1, d2, d3, d4, d5, d6⟩ := m5; obtain ⟨f0, f1, f2, f3, f4, f5, f6⟩ := m7; go_simp); try with_reducible rfl)
            try simp only [Act.put, List.getElem_toArray, List.getElem_cons_succ, List.getElem_cons_zero, List.setIfInBounds_toArray, List.set_cons_zero, List.set_cons_succ]
            refine anyT_take (i := 2) (v := ?_) rfl (by kernel_rfl) (by kernel_rfl) (by kernel_rfl) (by kernel_rfl) (fun _ _ _ h => h) (Or.inl ⟨by rfl, ?_⟩) ⟨hA1.h0, hA1.h1, hG1⟩ ?_
            rotate_left
            focus ((intro wq hSw; have m1 := cells2 hSw.2.2; have m5 := cells7 hSw.1; have m7 := cells7 hSw.2.1; obtain ⟨e0, e1⟩ := m1; obtain ⟨d0, d1, d2, d3, d4, d5, d6⟩ := m5; obtain ⟨f0, f1, f2, f3, f4, f5, f6⟩ := m7; go_simp); try with_reducible rfl)
            try simp only [Act.put, List.getElem_toArray, List.getElem_cons_succ, List.getElem_cons_zero, List.setIfInBounds_toArray, List.set_cons_zero, List.set_cons_succ]
            refine anyT_take (i := 3) (v := ?_) rfl (by kernel_rfl) (by kernel_rfl) (by kernel_rfl) (by kernel_rfl) (fun _ _ _ h => h) (Or.inl ⟨by rfl, ?_⟩) ⟨hA1.h0, hA1.h1, hG1⟩ ?_
            rotate_left
            focus ((intro wq hSw; have m1 := cells2 hSw.2.2; have m5 := cells7 hSw.1; have m7 := cells7 hSw.2.1; obtain ⟨e0, e1⟩ := m1; obtain ⟨d0, d1, d2, d3, d4, d5, d6⟩ := m5; obtain ⟨f0, f1, f2, f3, f4, f5, f6⟩ := m7; go_simp); try with_reducible rfl)
            try simp only [Act.put, List.getElem_toArray, List.getElem_cons_succ, List.getElem_cons_zero, List.setIfInBounds_toArray, List.set_cons_zero, List.set_cons_succ]
            refine anyT_take (i := 5) (v := ?_) rfl (by kernel_rfl) (by kernel_rfl) (by kernel_rfl) (by kernel_rfl) (fun _ _ _ h => h) (Or.inl ⟨by rfl, ?_⟩) ⟨hA1.h0, hA1.h1, hG1⟩ ?_
            rotate_left
            focus ((intro wq hSw; have m1 := cells2 hSw.2.2; have m5 := cells7 hSw.1; have m7 := cells7 hSw.2.1; obtain ⟨e0, e1⟩ := m1; obtain ⟨d0, d1, d2, d3, d4, d5, d6⟩ := m5; obtain ⟨f0, f1, f2, f3, f4, f5, f6⟩ := m7; go_simp); try with_reducible rfl)
            try simp only [Act.put, List.getElem_toArray, List.getElem_cons_succ, List.getElem_cons_zero, List.setIfInBounds_toArray, List.set_cons_zero, List.set_cons_succ]
            refine anyT_take (i := 6) (v := ?_) rfl (by kernel_rfl) (by kernel_rfl) (by kernel_rfl) (by kernel_rfl) (fun _ _ _ h => h) (Or.inl ⟨by rfl, ?_⟩) ⟨hA1.h0, hA1.h1, hG1⟩ ?_
            rotate_left
            focus ((intro wq hSw; have m1 := cells2 hSw.2.2; have m5 := cells7 hSw.1; have m7 := cells7 hSw.2.1; obtain ⟨e0, e1⟩ := m1; obtain ⟨d0, d1, d2, d3, d4, d5, d6⟩ := m5; obtain ⟨f0, f1, f2, f3, f4, f5, f6⟩ := m7; go_simp); try with_reducible rfl)
            try simp only [Act.put, List.getElem_toArray, List.getElem_cons_succ, List.getElem_cons_zero, List.setIfInBounds_toArray, List.set_cons_zero, List.set_cons_succ]
            refine anyT_one (i := 4) (by kernel_rfl) rfl (fun K hK => ?_)
            go_simp
            refine (HT0.out _ hD1 hP1).mono ?_
            rintro e w5 ⟨rfl, hn5, hd5⟩
            have hA5 := hA1.near hn5 HLT.out
            have hG5 := (hn5.2.2 _ hGB (Array.getElem?_eq_some_iff.1 hG1).1).trans hG1
            have hP5 := (hn5.2.2 _ HPB.out (Array.getElem?_eq_some_iff.1 hP1).1).trans hP1
            go_simp
            refine hK.out _ _ (fun _ => ⟨hA5.h0, hA5.h1, hG5⟩) ?_
            clear hK K hA1 hD1 hP1 hG1 hn5
            try simp only [Act.put, List.getElem_toArray, List.getElem_cons_succ, List.getElem_cons_zero, List.setIfInBounds_toArray, List.set_cons_zero, List.set_cons_succ]
            refine anyT_one (i := 7) (by kernel_rfl) rfl (fun K hK => ?_)
            go_simp
            refine (HMU.out _ _ _).mono ?_
            rintro e w6 ⟨rfl, rfl⟩
            cases t with
            | false =>
              simp only [Bool.false_eq_true, if_false]
              go_simp
              have HK : Hid (agreeE a b p = 4) := Lib.hid (by rw [HE.out]; unfold agreeK; simp [HOK.out 0 (by decide), HOK.out 1 (by decide), HOK.out 2 (by decide), HOK.out 3 (by decide), HOK.out 4 (by decide), HT.out])
              exact ⟨rfl, by rw [HK.out]; rfl, hA5.bel⟩
            | true =>
              simp only [if_true]
              go_simp
              refine hK.out _ _ (fun _ => ⟨hA5.h0, hA5.h1, hG5⟩) ?_
              clear hK K
              try simp only [Act.put, List.getElem_toArray, List.getElem_cons_succ, List.getElem_cons_zero, List.setIfInBounds_toArray, List.set_cons_zero, List.set_cons_succ]
              refine anyT_done (by kernel_rfl) ?_ _
              have HA5 := Lib.hid hA5
              have HD5 := Lib.hid hd5
              have HP5 := Lib.hid hP5
              clear hA5 hd5 hP5 hG5
              go_wp2_with fail
              go_roundw
              case rel => exact ⟨6, rfl, by decide, fun q hq => by rcases Nat.lt_succ_iff_lt_or_eq.1 hq with h | rfl; exact HOK.out q h; exact HT.out, HA5.out, HD5.out, HP5.out⟩
              case measure => decide
          · have m1 := cells6 HD.out
            have m2 := cells6 HA.out.hr
            obtain ⟨e0, e1, e2, e3, e4, e5⟩ := m1
            obtain ⟨r0, r1, r2, r3, r4, r5⟩ := m2
            have z0 := frozen_blk (off := 0) HA.out.hr
            have z1 := frozen_blk (off := 1) HA.out.hr
            have z2 := frozen_blk (off := 2) HA.out.hr
            have z3 := frozen_blk (off := 3) HA.out.hr
            have z4 := frozen_blk (off := 4) HA.out.hr
            have z5 := frozen_blk (off := 5) HA.out.hr
            go_wp2_with fail
            have hR6 : ((((((wr.setCell ⟨w.heap.size, 0, none⟩ (.int .i64 (dlJ a b p 6).c)).setCell ⟨w.heap.size, 1, none⟩ (.int .i64 (dlJ a b p 6).b)).setCell ⟨w.heap.size, 2, none⟩ (.int .i64 (dlJ a b p 6).z)).setCell ⟨w.heap.size, 3, none⟩ (.int .i64 (dlJ a b p 6).s)).setCell ⟨w.heap.size, 4, none⟩ (.int .i64 (dlJ a b p 6).a)).setCell ⟨w.heap.size, 5, none⟩ (.int .i64 (dlJ a b p 6).k)).heap[w.heap.size]? = some (.cells #[.int .i64 (dlJ a b p 6).c, .int .i64 (dlJ a b p 6).b, .int .i64 (dlJ a b p 6).z, .int .i64 (dlJ a b p 6).s, .int .i64 (dlJ a b p 6).a, .int .i64 (dlJ a b p 6).k] 25) := blk_set (blk_set (blk_set (blk_set (blk_set (blk_set HA.out.hr)))))
            have HK : Hid (agreeE a b p = 0) := Lib.hid (by rw [HE.out]; unfold agreeK; simp [HOK.out 0 (by decide), HOK.out 1 (by decide), HOK.out 2 (by decide), HOK.out 3 (by decide), HOK.out 4 (by decide), HOK.out 5 (by decide)])
            refine bodyPost_ret (results_cell_row (P := Try.prog) rfl _ _ w.heap.size 25 _ (0, 0) _ rfl hR6 Try.underlying25 rfl Try.size25) rfl ?_
            exact ⟨by rw [HK.out]; rfl, Below.setCell (Below.setCell (Below.setCell (Below.setCell (Below.setCell (Below.setCell (HA.out.bel) (Nat.le_refl _) _) (Nat.le_refl _) _) (Nat.le_refl _) _) (Nat.le_refl _) _) (Nat.le_refl _) _) (Nat.le_refl _) _⟩
end Go.Proofs.Ytinlcgcnjlifkaa
