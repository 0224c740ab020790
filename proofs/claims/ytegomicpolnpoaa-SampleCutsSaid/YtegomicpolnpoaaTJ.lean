/- Join: the program's; the grid of the whole. -/
import Derived.Test.YtegomicpolnpoaaTI
namespace Go.Proofs.Ytegomicpolnpoaa
open Go.RowKit Go.Shelf Go.Deep

/-- The grid of the whole, or the panic of what does not fit. -/
def JoinedP (w : World) (l : List (List (List Int))) (e : Ending) (w' : World) : Prop :=
  (joinK l = 0 → e = .returned (.agg #[.int .i64 ((l.getD 0 []).length : Nat), .int .i64 (sumTo l l.length : Nat)])) ∧ (joinK l ≠ 0 → e = .panicked (misfit (joinK l))) ∧ Below w.heap.size w w'
theorem joinedP_no {w w' : World} {l : List (List (List Int))} {k : Int} (hk : joinK l = k) (h0 : k ≠ 0) (hb : Below w.heap.size w w') : JoinedP w l (.panicked (misfit k)) w' :=
  ⟨fun h => absurd (hk.symm.trans h) h0, fun _ => by rw [hk], hb⟩

theorem Try.size87 : (Try.prog.info? 87).map (·.size) = some 2 := by kernel_rfl
def twoF (x y : Int) : Nat → Value := fun j => if j = 0 then .int .i64 x else .int .i64 y

theorem rowIs_two' (W : World) (x y : Int) (t : TypeId) : (W.alloc (.cells #[.int .i64 x, .int .i64 y] t)).rowIs W.heap.size t 2 (twoF x y) := by
  refine World.rowIs_alloc W #[.int .i64 x, .int .i64 y] t _ fun i hi => ?_
  match i, hi with
  | 0, _ => rfl
  | 1, _ => rfl

set_option maxHeartbeats 8000000 in
set_option maxRecDepth 100000 in
theorem joined_any (l : List (List (List Int))) (v : Value) (w : World) (hL : BlksIn w l v) : Calls Try.prog 98 #[v] w (JoinedP w l) := by
  obtain ⟨a, ca, rfl, hin, hal, _⟩ := id hL
  have HX : Hid (∀ x, Below w.heap.size w x → BlksIn x l (.slice a l.length ca)) := Lib.hid fun x hx => hL.mono (Same.of_below hx)
  have HMY := Lib.hid must_yes
  have HMN := Lib.hid must_no
  clear hin hL
  go_enter Try.func98, Try.ntmps98
  go_wp2_with fail
  have hb0 : Below w.heap.size w (w.alloc (.cells #[.int .i64 0, .int .i64 0] 87)) := (Below.refl _ w).alloc (Nat.le_refl _) _
  have hR0 : (w.alloc (.cells #[.int .i64 0, .int .i64 0] 87)).rowIs w.heap.size 87 2 (twoF 0 0) := rowIs_two' w _ _ _
  obtain ⟨W, hW⟩ : ∃ W, w.alloc (.cells #[.int .i64 0, .int .i64 0] 87) = W := ⟨_, rfl⟩
  have hWs : W.heap.size = w.heap.size + 1 := by rw [← hW]; simp
  rw [hW] at hb0 hR0 ⊢
  have HB0 := Lib.hid hb0
  have HR0 := Lib.hid hR0
  have HWS := Lib.hid hWs
  clear hW hb0 hR0 hWs
  go_loopw [10] (fun i wr => ∃ k : Nat, i = .int .i64 k ∧ k ≤ l.length ∧ (∀ q, q < k → validB (l.getD q []) = true) ∧ wr = W) (fun i _ => l.length - (RowKit.intOf i).toNat)
  case atStart => exact ⟨0, rfl, Nat.zero_le _, fun _ h => absurd h (Nat.not_lt_zero _), rfl⟩
  case round =>
    obtain ⟨k, rfl, hk, hok, rfl⟩ := hrel
    have Hok := Lib.hid hok
    clear hok
    by_cases hlt : k < l.length
    · obtain ⟨bb, ob, u, rfl, hcj, hu⟩ := blks_at (HX.out _ HB0.out) hlt
      have h68 := validBlock_any _ u wr hu
      obtain ⟨sb, hsb⟩ : ∃ sb, validB (l.getD k []) = sb := ⟨_, rfl⟩
      rw [hsb] at h68
      have HSB := Lib.hid hsb
      clear hsb
      generalize l.getD k [] = p at hu
      obtain ⟨au, cu, rfl, _, _, _⟩ := hu
      have w4 : (k : Int) < (l.length : Int) := by omega
      cases sb with
      | false =>
        go_wp2_with (first
          | (go_at_call 68; (with_reducible refine h68.mono ?_); rintro e w1 ⟨rfl, rfl⟩)
          | (go_at_call 53; (with_reducible refine (HMN.out 1 _).mono ?_); rintro e w1 ⟨rfl, rfl⟩))
        have hv : okV l = false := all_no_at (d := []) hlt HSB.out
        have hK : joinK l = 1 := by unfold joinK; rw [if_pos hv]
        exact ⟨rfl, joinedP_no hK (by decide) HB0.out⟩
      | true =>
        go_wp2_with (first
          | (go_at_call 68; (with_reducible refine h68.mono ?_); rintro e w1 ⟨rfl, rfl⟩)
          | (go_at_call 53; (with_reducible refine (HMY.out 1 _).mono ?_); rintro e w1 ⟨rfl, rfl⟩))
        go_roundw
        case rel =>
          refine ⟨k + 1, by go_num, by omega, fun q hq => ?_, by trivial⟩
          by_cases e : q = k
          · subst e; exact HSB.out
          · exact Hok.out q (by omega)
        case measure => simp [RowKit.intOf]; omega
    · have w4 : ¬ (k : Int) < (l.length : Int) := by omega
      have hv : okV l = true := all_yes_of (d := []) fun q hq => Hok.out q (by omega)
      have HV := Lib.hid hv
      clear hv
      by_cases h0 : l.length = 0
      · have e0 : decide (0 < l.length) = false := by simp only [decide_eq_false_iff_not]; omega
        have H0 := Lib.hid h0
        clear h0
        go_wp2_with (go_at_call 53; (with_reducible refine (HMN.out 11 _).mono ?_); rintro e w1 ⟨rfl, rfl⟩)
        have hK : joinK l = 11 := by unfold joinK; rw [if_neg (by rw [HV.out]; decide), if_pos H0.out]
        exact ⟨rfl, joinedP_no hK (by decide) HB0.out⟩
      · have hpos : 0 < l.length := by omega
        have hposI : (0 : Int) < (l.length : Int) := by omega
        have e0 : decide (0 < l.length) = true := by simp only [decide_eq_true_eq]; omega
        have H0 := Lib.hid h0
        clear h0
        obtain ⟨bb, ob, u0, rfl, hc0, hu0⟩ := blks_at (HX.out _ HB0.out) hpos
        simp only [Nat.add_zero] at hc0
        obtain ⟨n0, hn0⟩ : ∃ n0, (l.getD 0 []).length = n0 := ⟨_, rfl⟩
        obtain ⟨a0, c0, rfl, _, _, _⟩ := hu0
        rw [hn0] at hc0
        have HN0 := Lib.hid hn0
        clear hn0
        go_wp2_with (go_at_call 53; (with_reducible refine (HMY.out 11 _).mono ?_); rintro e w1 ⟨rfl, rfl⟩)
        have hb1 : Below w.heap.size w (wr.alloc (.cells #[.int .i64 n0, .int .i64 0] 87)) := HB0.out.alloc HB0.out.size _
        have hG : (wr.alloc (.cells #[.int .i64 n0, .int .i64 0] 87)).rowIs wr.heap.size 87 2 (twoF n0 (sumTo l 0 : Nat)) := rowIs_two' wr n0 0 87
        have hR : (wr.alloc (.cells #[.int .i64 n0, .int .i64 0] 87)).rowIs w.heap.size 87 2 (twoF 0 0) := HR0.out.alloc _
        obtain ⟨W2, hW2⟩ : ∃ W2, wr.alloc (.cells #[.int .i64 n0, .int .i64 0] 87) = W2 := ⟨_, rfl⟩
        obtain ⟨G, hGG⟩ : ∃ G, wr.heap.size = G := ⟨_, rfl⟩
        rw [hW2] at hb1 hG hR ⊢
        rw [hGG] at hG ⊢
        have HWG : Hid (G = w.heap.size + 1) := Lib.hid (by rw [← hGG]; exact HWS.out)
        have HB1 := Lib.hid hb1
        have HG := Lib.hid hG
        have HR := Lib.hid hR
        clear hW2 hGG hb1 hG hR hc0 HB0 HR0 HWS Hok
        go_loopw [29] (fun i wr => ∃ k : Nat, i = .int .i64 k ∧ k ≤ l.length ∧ (∀ q, q < k → (l.getD q []).length = n0) ∧ wr.rowIs G 87 2 (twoF n0 (sumTo l k : Nat)) ∧ wr.rowIs w.heap.size 87 2 (twoF 0 0) ∧ Below w.heap.size w wr) (fun i _ => l.length - (RowKit.intOf i).toNat)
        case atStart => exact ⟨0, rfl, Nat.zero_le _, fun _ h => absurd h (Nat.not_lt_zero _), HG.out, HR.out, HB1.out⟩
        case round =>
          clear HB1 HG HR
          obtain ⟨k, rfl, hk, hok, hg, hr, hb⟩ := hrel
          have Hok := Lib.hid hok
          clear hok
          by_cases hlt : k < l.length
          · obtain ⟨_, _, u, e9, hcj, hu⟩ := blks_at (HX.out _ hb) hlt
            simp only [Option.some.injEq, Addr.mk.injEq, and_true] at e9
            obtain ⟨rfl, rfl⟩ := e9
            obtain ⟨g1, g2, g3, g4⟩ := validB_parts (all_at (d := []) HV.out hlt)
            have hsb := sumTo_bd HV.out (n := k) (by omega)
            have hss := sumTo_succ l k
            obtain ⟨au, cu, rfl, hrin, _, _⟩ := hu
            obtain ⟨b9, o9, u9, rfl, hc9, a9, c9, rfl, _, _, _⟩ := hrin 0 (by omega)
            simp only [Nat.add_zero] at hc9
            change wr.cell? _ = some (Value.slice a9 (cols (l.getD k [])) c9) at hc9
            clear hrin g4
            obtain ⟨C, hC⟩ : ∃ C, cols (l.getD k []) = C := ⟨_, rfl⟩
            obtain ⟨n, hn⟩ : ∃ n, (l.getD k []).length = n := ⟨_, rfl⟩
            obtain ⟨sq, hsq⟩ : ∃ sq, sumTo l k = sq := ⟨_, rfl⟩
            rw [hC] at hc9 g3 hss
            rw [hn] at hcj g1 g2
            rw [hsq] at hsb hss hg
            have HSS := Lib.hid hss
            have HN := Lib.hid hn
            have kg0 : wr.cell? ⟨G, 0, none⟩ = some (.int .i64 n0) := hg.cell (i := 0) (by omega)
            have kg1 : wr.cell? ⟨G, 1, none⟩ = some (.int .i64 sq) := hg.cell (i := 1) (by omega)
            have kf1 := hg.frozen 1
            have w4 : (k : Int) < (l.length : Int) := by omega
            have hposn : 0 < n := by omega
            have hposnI : (0 : Int) < (n : Int) := by omega
            have HGR := Lib.hid hg
            have HRR := Lib.hid hr
            have HB := Lib.hid hb
            clear hC hn hsq hss hg hr hb
            by_cases hne : n = n0
            · subst hne
              go_wp2_with (go_at_call 53; (with_reducible refine (HMY.out 11 _).mono ?_); rintro e w1 ⟨rfl, rfl⟩)
              have HWR : Hid (IntKind.i64.wrap ((sq : Int) + C) = (sq : Int) + C) := Lib.hid (IntWalk.i64_in _ (by omega))
              refine region_T (S := fun wx => wx.cell? ⟨G, 1, none⟩ = some (.int .i64 sq) ∧ wx.cell? ⟨b9, o9, none⟩ = some (.slice a9 C c9)) [8] (by kernel_rfl) ⟨kg1, hc9⟩ (fun _ => ?_)
              have hS0 : wr.drew.cell? ⟨G, 1, none⟩ = some (.int .i64 sq) ∧ wr.drew.cell? ⟨b9, o9, none⟩ = some (.slice a9 C c9) := ⟨kg1, hc9⟩
              have hf1 : wr.drew.frozen? ⟨G, 1, none⟩ = false := kf1
              have hGr : wr.drew.rowIs G 87 2 (twoF n sq) := HGR.out.drew
              have hRr : wr.drew.rowIs w.heap.size 87 2 (twoF 0 0) := HRR.out.drew
              have hBr : Below w.heap.size w wr.drew := HB.out.drew
              obtain ⟨W, hW⟩ : ∃ W, wr.drew = W := ⟨_, rfl⟩
              rw [hW] at hS0 hf1 hGr hRr hBr ⊢
              have HGR2 := Lib.hid hGr
              have HRR2 := Lib.hid hRr
              have HBR2 := Lib.hid hBr
              clear hW kg0 kg1 kf1 hcj hc9 hGr hRr hBr HGR HRR HB
              refine anyT_take (i := 0) (v := ?_) rfl (by kernel_rfl) (by kernel_rfl) (by kernel_rfl) (by kernel_rfl) (fun _ _ _ h => h) (Or.inl ⟨by rfl, ?_⟩) (by assumption) ?_
              rotate_left
              focus ((intro wq hSw; (try dsimp only at hSw); go_simp); try with_reducible rfl)
              simp only [Act.put, List.getElem_toArray, List.getElem_cons_succ, List.getElem_cons_zero, List.setIfInBounds_toArray, List.set_cons_zero, List.set_cons_succ]
              refine anyT_take (i := 1) (v := ?_) rfl (by kernel_rfl) (by kernel_rfl) (by kernel_rfl) (by kernel_rfl) (fun _ _ _ h => h) (Or.inl ⟨by rfl, ?_⟩) (by assumption) ?_
              rotate_left
              focus ((intro wq hSw; (try dsimp only at hSw); go_simp); try with_reducible rfl)
              simp only [Act.put, List.getElem_toArray, List.getElem_cons_succ, List.getElem_cons_zero, List.setIfInBounds_toArray, List.set_cons_zero, List.set_cons_succ]
              refine anyT_take (i := 2) (v := ?_) rfl (by kernel_rfl) (by kernel_rfl) (by kernel_rfl) (by kernel_rfl) (fun _ _ _ h => h) (Or.inl ⟨by rfl, ?_⟩) (by assumption) ?_
              rotate_left
              focus ((intro wq hSw; (try dsimp only at hSw); go_simp); try with_reducible rfl)
              simp only [Act.put, List.getElem_toArray, List.getElem_cons_succ, List.getElem_cons_zero, List.setIfInBounds_toArray, List.set_cons_zero, List.set_cons_succ]
              refine anyT_take (i := 3) (v := ?_) rfl (by kernel_rfl) (by kernel_rfl) (by kernel_rfl) (by kernel_rfl) (fun _ _ _ h => h) (Or.inl ⟨by rfl, ?_⟩) (by assumption) ?_
              rotate_left
              focus ((intro wq hSw; (try dsimp only at hSw); go_simp); try with_reducible rfl)
              simp only [Act.put, List.getElem_toArray, List.getElem_cons_succ, List.getElem_cons_zero, List.setIfInBounds_toArray, List.set_cons_zero, List.set_cons_succ]
              refine anyT_take (i := 4) (v := ?_) rfl (by kernel_rfl) (by kernel_rfl) (by kernel_rfl) (by kernel_rfl) (fun _ _ _ h => h) (Or.inl ⟨by rfl, ?_⟩) (by assumption) ?_
              rotate_left
              focus ((intro wq hSw; (try dsimp only at hSw); go_simp); try with_reducible rfl)
              simp only [Act.put, List.getElem_toArray, List.getElem_cons_succ, List.getElem_cons_zero, List.setIfInBounds_toArray, List.set_cons_zero, List.set_cons_succ]
              refine anyT_take (i := 5) (v := ?_) rfl (by kernel_rfl) (by kernel_rfl) (by kernel_rfl) (by kernel_rfl) (fun _ _ _ h => h) (Or.inl ⟨by rfl, ?_⟩) (by assumption) ?_
              rotate_left
              focus ((intro wq hSw; (try dsimp only at hSw); go_simp); try with_reducible rfl)
              simp only [Act.put, List.getElem_toArray, List.getElem_cons_succ, List.getElem_cons_zero, List.setIfInBounds_toArray, List.set_cons_zero, List.set_cons_succ]
              have hq0 : (0 : Int) ≤ (sq : Int) := by omega
              have hq1 : (sq : Int) ≤ 72057594037927936 := by omega
              have hq2 : (C : Int) ≤ 4096 := by omega
              refine anyT_take (i := 6) (v := ?_) rfl (by kernel_rfl) (by kernel_rfl) (by kernel_rfl) (by kernel_rfl) (fun _ _ _ h => h) (Or.inl ⟨by rfl, ?_⟩) (by assumption) ?_
              rotate_left
              focus ((intro wq hSw; (try dsimp only at hSw); go_simp); try with_reducible rfl)
              simp only [Act.put, List.getElem_toArray, List.getElem_cons_succ, List.getElem_cons_zero, List.setIfInBounds_toArray, List.set_cons_zero, List.set_cons_succ]
              refine anyT_take (i := 7) (v := ?_) rfl (by kernel_rfl) (by kernel_rfl) (by kernel_rfl) (by kernel_rfl) (fun _ _ _ h => h) (Or.inl ⟨by rfl, ?_⟩) (by assumption) ?_
              rotate_left
              focus ((intro wq hSw; (try dsimp only at hSw); go_simp); try with_reducible rfl)
              simp only [Act.put, List.getElem_toArray, List.getElem_cons_succ, List.getElem_cons_zero, List.setIfInBounds_toArray, List.set_cons_zero, List.set_cons_succ]
              refine anyT_one (i := 8) (by kernel_rfl) rfl (fun K hK => ?_)
              obtain ⟨hs1, hs2⟩ := hS0
              go_simp
              refine hK.out _ _ (fun h => by cases h) ?_
              clear hK K hs1 hs2
              try simp only [Act.put, List.getElem_toArray, List.getElem_cons_succ, List.getElem_cons_zero, List.setIfInBounds_toArray, List.set_cons_zero, List.set_cons_succ]
              refine anyT_done (by kernel_rfl) ?_ _
              have hG2 := HGR2.out.set 1 (.int .i64 ((sq : Int) + C))
              have hR2 := HRR2.out.setOther (a := ⟨G, 1, none⟩) (by have := HWG.out; show w.heap.size ≠ G; omega) (.int .i64 ((sq : Int) + C))
              have hB2 := HBR2.out.setCell (p := ⟨G, 1, none⟩) (by have := HWG.out; show w.heap.size ≤ G; omega) (.int .i64 ((sq : Int) + C))
              have hG3 := hG2.congr (g := twoF n (sumTo l (k + 1) : Nat)) fun i hi => by
                rw [HSS.out]
                by_cases e : i = 1
                · subst e; simp [twoF]
                · obtain rfl : i = 0 := by omega
                  simp [twoF]
              have HG3 := Lib.hid hG3
              have HR2 := Lib.hid hR2
              have HB2 := Lib.hid hB2
              clear hG2 hR2 hB2 hG3
              go_wp2_with fail
              go_roundw
              case rel =>
                refine ⟨k + 1, by go_num, by omega, fun q hq => ?_, HG3.out, HR2.out, HB2.out⟩
                by_cases e : q = k
                · subst e; exact HN.out
                · exact Hok.out q (by omega)
              case measure => simp [RowKit.intOf]; omega
            · have e1 : ((n : Int) == (n0 : Int)) = false := by rw [beq_eq_false_iff_ne]; omega
              have HNE := Lib.hid hne
              clear hne
              go_wp2_with (go_at_call 53; (with_reducible refine (HMN.out 11 _).mono ?_); rintro e w1 ⟨rfl, rfl⟩)
              have hc : okC l = false := all_no_at (d := []) hlt (by rw [HN.out, HN0.out]; simpa using HNE.out)
              have hK : joinK l = 11 := by unfold joinK; rw [if_neg (by rw [HV.out]; decide), if_neg H0.out, if_pos hc]
              exact ⟨rfl, joinedP_no hK (by decide) HB.out⟩
          · have w4 : ¬ (k : Int) < (l.length : Int) := by omega
            obtain rfl : k = l.length := by omega
            have hc : okC l = true := all_yes_of (d := []) fun q hq => by rw [HN0.out]; simpa using Hok.out q hq
            have HC := Lib.hid hc
            have hsb := sumTo_bd HV.out (n := l.length) (Nat.le_refl _)
            obtain ⟨T, hT⟩ : ∃ T, sumTo l l.length = T := ⟨_, rfl⟩
            rw [hT] at hsb hg
            have HT := Lib.hid hT
            have kg0 : wr.cell? ⟨G, 0, none⟩ = some (.int .i64 n0) := hg.cell (i := 0) (by omega)
            have kg1 : wr.cell? ⟨G, 1, none⟩ = some (.int .i64 T) := hg.cell (i := 1) (by omega)
            have kr0 : wr.cell? ⟨w.heap.size, 0, none⟩ = some (.int .i64 0) := hr.cell (i := 0) (by omega)
            have kr1 : wr.cell? ⟨w.heap.size, 1, none⟩ = some (.int .i64 0) := hr.cell (i := 1) (by omega)
            have kz0 := hr.frozen 0
            have kz1 := hr.frozen 1
            have h63 := fr_any (T : Int) wr
            have HB := Lib.hid hb
            have HRR := Lib.hid hr
            clear hc hT hb hg hr
            by_cases hbig : 4096 < T
            · rw [show frB (T : Int) = false by simp [frB]; omega] at h63
              have hK : joinK l = 4 := by unfold joinK; rw [if_neg (by rw [HV.out]; decide), if_neg H0.out, if_neg (by rw [HC.out]; decide), if_pos (by rw [HT.out]; exact hbig)]
              have HK := Lib.hid hK
              clear hbig hK
              go_wp2_with (first
                | (go_at_call 63; (with_reducible refine h63.mono ?_); rintro e w1 ⟨rfl, rfl⟩)
                | (go_at_call 53; (with_reducible refine (HMN.out 4 _).mono ?_); rintro e w1 ⟨rfl, rfl⟩))
              exact ⟨rfl, joinedP_no HK.out (by decide) HB.out⟩
            · rw [show frB (T : Int) = true by simp [frB]; omega] at h63
              have hK : joinK l = 0 := by unfold joinK; rw [if_neg (by rw [HV.out]; decide), if_neg H0.out, if_neg (by rw [HC.out]; decide), if_neg (by rw [HT.out]; exact hbig)]
              have HK := Lib.hid hK
              clear hbig hK
              go_wp2_with (first
                | (go_at_call 63; (with_reducible refine h63.mono ?_); rintro e w1 ⟨rfl, rfl⟩)
                | (go_at_call 53; (with_reducible refine (HMY.out 4 _).mono ?_); rintro e w1 ⟨rfl, rfl⟩))
              have hr2 := (HRR.out.set 0 (.int .i64 n0)).set 1 (.int .i64 T)
              obtain ⟨c, q1, q2, q3⟩ := hr2
              have hcc : c = #[.int .i64 n0, .int .i64 T] := by
                apply Array.ext_getElem?
                intro i
                by_cases hi : i < 2
                · rw [q3 i hi]
                  match i, hi with
                  | 0, _ => rfl
                  | 1, _ => rfl
                · rw [Array.getElem?_eq_none (by omega), Array.getElem?_eq_none (by simp; omega)]
              subst hcc
              refine bodyPost_ret (results_cell_row (P := Try.prog) rfl _ _ w.heap.size 87 _ (0, 0) _ rfl q1 Try.underlying87 rfl Try.size87) rfl ?_
              exact ⟨fun _ => by rw [HN0.out, HT.out], fun h => absurd HK.out h, (HB.out.setCell (Nat.le_refl _) _).setCell (Nat.le_refl _) _⟩
end Go.Proofs.Ytegomicpolnpoaa
