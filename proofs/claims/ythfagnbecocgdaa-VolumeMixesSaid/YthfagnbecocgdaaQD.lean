/- Mix: the document's. -/
import Derived.Test.YthfagnbecocgdaaQC
namespace Go.Proofs.Ythfagnbecocgdaa
open Go.RowKit Go.Shelf Go.Deep

set_option maxHeartbeats 8000000 in
set_option maxRecDepth 100000 in
theorem refMix_any (l : List (List (List Int))) (v : Value) (w : World) (hv : BlksIn w l v) : Calls Try.prog 41 #[v] w (MatAns w (mixR l) (mixK l)) := by
  obtain ⟨a, ca, rfl, hin0, hal, _⟩ := hv
  have HIN := Lib.hid (fun (x : World) (hx : Below w.heap.size w x) (i : Nat) (hi : i < l.length) => show ∃ b off u, a = some ⟨b, off, none⟩ ∧ x.cell? ⟨b, off + i, none⟩ = some u ∧ MatIn x (l.getD i []) u from by
    obtain ⟨b, off, u, h1, h2, h3⟩ := hin0 i hi
    exact ⟨b, off, u, h1, (Same.of_below hx).cell h2, h3.mono (Same.of_below hx)⟩)
  have HINV : Hid (∀ k, k < l.length → validB (l.getD k []) = false → mixR l = [] ∧ mixK l = 1) := Lib.hid fun k hk h => by
    have hV : allV l = false := all_no_at' hk h
    have hk : mixK l = 1 := by simp [mixK, hV]
    exact ⟨by simp [mixR, hk], hk⟩
  have HUN : Hid (allV l = true → ∀ k, k < l.length → likeB l (l.getD k []) = false → mixR l = [] ∧ mixK l = 11) := Lib.hid fun hV k hk h => by
    have hA : alike l = false := all_no_at' hk h
    have hk : mixK l = 11 := by simp [mixK, hV, hA]
    exact ⟨by simp [mixR, hk], hk⟩
  have HNO : Hid (l.length = 0 → mixR l = [] ∧ mixK l = 8) := Lib.hid fun h0 => by
    obtain rfl : l = [] := List.eq_nil_of_length_eq_zero h0
    have hk : mixK [] = 8 := by simp [mixK, allV, alike]
    exact ⟨by simp [mixR, hk], hk⟩
  have HMANY : Hid (allV l = true → alike l = true → 40 < l.length → mixR l = [] ∧ mixK l = 4) := Lib.hid fun hV hA h40 => by
    have hk : mixK l = 4 := by unfold mixK; rw [hV, hA, if_neg (by simp), if_neg (by simp), if_neg (by omega), if_pos h40]
    exact ⟨by simp [mixR, hk], hk⟩
  have HOK : Hid (allV l = true → alike l = true → 0 < l.length → l.length ≤ 40 → mixR l = mixM l ∧ mixK l = 0) := Lib.hid fun hV hA h0 h40 => by
    have hk : mixK l = 0 := by unfold mixK; rw [hV, hA, if_neg (by simp), if_neg (by simp), if_neg (by omega), if_neg (by omega)]
    exact ⟨by simp [mixR, hk], hk⟩
  generalize mixR l = MR at *
  generalize mixK l = MK at *
  clear hin0
  go_enter Try.func41, Try.ntmps41
  go_wp2_with fail
  go_loopw [4] (fun p wr => ∃ k : Nat, p = .int .i64 k ∧ k ≤ l.length ∧ (∀ j, j < k → validB (l.getD j []) = true) ∧ Below w.heap.size w wr) (fun p _ => l.length - (intOf p).toNat)
  case atStart => exact ⟨0, rfl, Nat.zero_le _, fun j hj => absurd hj (Nat.not_lt_zero _), Below.refl _ _⟩
  case round =>
    obtain ⟨k, rfl, hk, hok, hbl⟩ := hrel
    have HV0 := Lib.hid hok
    clear hok
    by_cases hlt : k < l.length
    · have wk : (k : Int) < (l.length : Int) := by omega
      obtain ⟨bb, ob, u, rfl, hck, hu⟩ := HIN.out wr hbl k hlt
      have h44 := refValidBlock_any _ u wr hu
      have hsl : ∃ p n c, u = .slice p n c := by obtain ⟨p, c, h, _⟩ := hu; exact ⟨p, _, c, h⟩
      obtain ⟨p, n, c, rfl⟩ := hsl
      have HB := Lib.hid hbl
      cases hvb : validB (l.getD k []) with
      | false =>
        rw [hvb] at h44
        obtain ⟨rfl, rfl⟩ := HINV.out k hlt hvb
        clear hvb hu hbl
        go_wp2_with (go_at_call 44; (with_reducible refine h44.mono ?_); rintro e w1 ⟨rfl, b1⟩)
        go_ret2
        exact ⟨_, rfl, mat_nil _, Below.then HB.out (Nat.le_refl _) b1⟩
      | true =>
        rw [hvb] at h44
        have HVB := Lib.hid hvb
        clear hvb hu hbl
        go_wp2_with (go_at_call 44; (with_reducible refine h44.mono ?_); rintro e w1 ⟨rfl, b1⟩)
        go_roundw
        case rel =>
          refine ⟨k + 1, by go_num, by omega, fun j hj => ?_, Below.then HB.out (Nat.le_refl _) b1⟩
          by_cases e : j = k
          · subst e; exact HVB.out
          · exact HV0.out j (by omega)
        case measure => simp [intOf]; omega
    · have wk : ¬ (k : Int) < (l.length : Int) := by omega
      obtain rfl : k = l.length := by omega
      have HV : Hid (allV l = true) := Lib.hid (all_yes_of' HV0.out)
      go_wp2_with fail
      obtain ⟨wo, rfl⟩ : ∃ wo : World, wo = wr := ⟨_, rfl⟩
      go_loopw [5] (fun p wr => ∃ k : Nat, p = .int .i64 k ∧ k ≤ l.length ∧ (∀ j, j < k → likeB l (l.getD j []) = true) ∧ Below w.heap.size w wr) (fun p _ => l.length - (intOf p).toNat)
      case atStart => exact ⟨0, rfl, Nat.zero_le _, fun j hj => absurd hj (Nat.not_lt_zero _), hbl⟩
      case round =>
        clear hbl
        obtain ⟨k, rfl, hk, hok, hbl⟩ := hrel
        have HA0 := Lib.hid hok
        clear hok
        by_cases hlt : k < l.length
        · have wk : (k : Int) < (l.length : Int) := by omega
          have w5 : (0 : Int) < (l.length : Int) := by omega
          have w6 : 0 < l.length := by omega
          obtain ⟨bb, ob, u, rfl, hcj, hu⟩ := HIN.out wr hbl k hlt
          obtain ⟨_, _, u0, e0, hc0, hu0⟩ := HIN.out wr hbl 0 (by omega)
          simp only [Option.some.injEq, Addr.mk.injEq, and_true] at e0
          obtain ⟨rfl, rfl⟩ := e0
          obtain ⟨p1, _, _, _⟩ := validB_parts (HV0.out k hlt)
          obtain ⟨p0, _, _, _⟩ := validB_parts (HV0.out 0 (by omega))
          have hlk : likeB l (l.getD k []) = (decide ((l.getD k []).length = (l.getD 0 []).length) && decide (cols (l.getD k []) = cols (l.getD 0 []))) := rfl
          obtain ⟨q, hq⟩ : ∃ q, l.getD k [] = q := ⟨_, rfl⟩
          obtain ⟨q0, hq0⟩ : ∃ q0, l.getD 0 [] = q0 := ⟨_, rfl⟩
          have HQ := Lib.hid hq
          rw [hq] at hu p1 hlk
          rw [hq0] at hu0 p0 hlk
          obtain ⟨au, cu, rfl, hinu, _, _⟩ := hu
          obtain ⟨a0, c0, rfl, hin0, _, _⟩ := hu0
          obtain ⟨b1, o1, u1, rfl, hc1, hu1⟩ := hinu 0 (by omega)
          obtain ⟨b2, o2, u2, rfl, hc2, hu2⟩ := hin0 0 (by omega)
          obtain ⟨a3, c3, rfl, _, _, _⟩ := hu1
          obtain ⟨a4, c4, rfl, _, _, _⟩ := hu2
          change wr.cell? _ = some (.slice a3 (cols q) c3) at hc1
          change wr.cell? _ = some (.slice a4 (cols q0) c4) at hc2
          simp only [Nat.add_zero] at hc0 hc1 hc2
          have i1 : (0 : Int) < (q.length : Int) := by omega
          have i0 : (0 : Int) < (q0.length : Int) := by omega
          have i1N : 0 < q.length := by omega
          have i0N : 0 < q0.length := by omega
          generalize cols q = C1 at *
          generalize cols q0 = C0 at *
          have HB := Lib.hid hbl
          clear hq hq0 hinu hin0 hbl
          by_cases e1 : q.length = q0.length
          · have t1 : ((q.length : Int) != (q0.length : Int)) = false := by simp; omega
            by_cases e2 : C1 = C0
            · have t2 : ((C1 : Int) != (C0 : Int)) = false := by simp; omega
              have hl2 : likeB l q = true := by rw [hlk]; simp [e1, e2]
              have HL := Lib.hid hl2
              clear e1 e2 hl2 hlk
              go_wp2_with fail
              go_quiet (fail)
              go_wp2_with fail
              go_roundw
              case rel =>
                refine ⟨k + 1, by go_num, by omega, fun j hj => ?_, below_drewN HB.out _⟩
                by_cases e : j = k
                · subst e; rw [HQ.out]; exact HL.out
                · exact HA0.out j (by omega)
              case measure => simp [intOf]; omega
            · have t2 : ((C1 : Int) != (C0 : Int)) = true := by simp; omega
              have hl2 : likeB l q = false := by rw [hlk]; simp [e2]
              obtain ⟨rfl, rfl⟩ := HUN.out HV.out k hlt (by rw [HQ.out]; exact hl2)
              clear e1 e2 hl2 hlk
              go_wp2_with fail
              go_quiet (fail)
              go_wp2_with fail
              go_ret2
              exact ⟨_, rfl, mat_nil _, below_drewN HB.out _⟩
          · have t1 : ((q.length : Int) != (q0.length : Int)) = true := by simp; omega
            have hl2 : likeB l q = false := by rw [hlk]; simp [e1]
            obtain ⟨rfl, rfl⟩ := HUN.out HV.out k hlt (by rw [HQ.out]; exact hl2)
            clear e1 hl2 hlk
            go_wp2_with fail
            go_quiet (fail)
            go_wp2_with fail
            go_ret2
            exact ⟨_, rfl, mat_nil _, below_drewN HB.out _⟩
        · have wk : ¬ (k : Int) < (l.length : Int) := by omega
          obtain rfl : k = l.length := by omega
          have HA : Hid (alike l = true) := Lib.hid (all_yes_of' HA0.out)
          have HB := Lib.hid hbl
          clear hbl
          by_cases h0 : l.length = 0
          · obtain ⟨rfl, rfl⟩ := HNO.out h0
            have z1 : ((l.length : Int) == 0) = true := by simp; exact List.eq_nil_of_length_eq_zero h0
            have z2 : (l.length : Int) = 0 := by omega
            clear h0
            go_wp2_with fail
            go_ret2
            exact ⟨_, rfl, mat_nil _, HB.out⟩
          · by_cases h40 : 40 < l.length
            · obtain ⟨rfl, rfl⟩ := HMANY.out HV.out HA.out h40
              have z2 : ¬ (l.length : Int) = 0 := by omega
              have z3 : (40 : Int) < (l.length : Int) := by omega
              clear h0 h40
              go_wp2_with fail
              go_ret2
              exact ⟨_, rfl, mat_nil _, HB.out⟩
            · obtain ⟨rfl, rfl⟩ := HOK.out HV.out HA.out (by omega) (by omega)
              have z2 : ¬ (l.length : Int) = 0 := by omega
              have z3 : ¬ (40 : Int) < (l.length : Int) := by omega
              have i0 : (0 : Int) < (l.length : Int) := by omega
              have h0N : 0 < l.length := by omega
              have h40N : l.length ≤ 40 := by omega
              have HSZ : Hid (∀ k, k < l.length → (l.getD k []).length = (l.getD 0 []).length ∧ ∀ c, c < (l.getD 0 []).length → ((l.getD k []).getD c []).length = cols (l.getD 0 [])) := Lib.hid fun k hk => by
                obtain ⟨e1, e2⟩ := alike_at HA.out hk
                obtain ⟨_, _, _, hrow⟩ := validB_parts (all_at' (d := []) HV.out hk)
                exact ⟨e1, fun c hc => by rw [hrow c (by omega), e2]⟩
              obtain ⟨p1, p8, pc, _⟩ := validB_parts (all_at' (d := []) HV.out h0N)
              have HSB : Hid (∀ c i k, k ≤ l.length → -335544280 ≤ sumL (placeL l c i) k ∧ sumL (placeL l c i) k ≤ 335544280) := Lib.hid fun c i k hk => by
                have := sumL_bd (B := 8388607) (by decide) (placeL_bd HV.out c i) k
                omega
              have HST : Hid (∀ c i k, k < l.length → sumL (placeL l c i) (k + 1) = sumL (placeL l c i) k + cellM (l.getD k []) c i ∧ (-8388607 ≤ cellM (l.getD k []) c i ∧ cellM (l.getD k []) c i ≤ 8388607)) := Lib.hid fun c i k hk => by
                have h1 := placeL_at (c := c) (i := i) hk
                have h2 := placeL_bd HV.out c i k
                rw [h1] at h2
                exact ⟨by show sumL _ k + (placeL l c i).getD k 0 = _; rw [h1], h2⟩
              have HZ : Hid (∀ c i, sumL (placeL l c i) 0 = 0) := Lib.hid fun _ _ => rfl
              have HCL : Hid (∀ c i x, Calls Try.prog 100 #[.int .i64 (sumL (placeL l c i) l.length)] x fun e w' => e = .returned (.int .i64 (mixV l c i)) ∧ x = w') := Lib.hid fun c i x => clip_any _ x
              have HFIN : Hid (∀ (g cap N : Nat) (gs : Nat → Nat) (W : World), (l.getD 0 []).length ≤ cap → Gn N g gs (l.getD 0 []).length (cols (l.getD 0 [])) (mixV l) W → MatIn W (mixM l) (.slice (some ⟨g, 0, none⟩) (l.getD 0 []).length cap)) := Lib.hid fun g cap N gs W hcap hg =>
                hg.mat p8 pc hcap fun j x _ _ => by unfold mixV bnd I64; omega
              generalize mixM l = M at *
              generalize mixV l = V at *
              generalize hS : (fun c i => sumL (placeL l c i)) = S at *
              have HSB' : Hid (∀ c i k, k ≤ l.length → -335544280 ≤ S c i k ∧ S c i k ≤ 335544280) := Lib.hid fun c i k hk => by rw [← hS]; exact HSB.out c i k hk
              have HST' : Hid (∀ c i k, k < l.length → S c i (k + 1) = S c i k + cellM (l.getD k []) c i ∧ (-8388607 ≤ cellM (l.getD k []) c i ∧ cellM (l.getD k []) c i ≤ 8388607)) := Lib.hid fun c i k hk => by rw [← hS]; exact HST.out c i k hk
              have HZ' : Hid (∀ c i, S c i 0 = 0) := Lib.hid fun c i => by rw [← hS]; exact HZ.out c i
              have HCL' : Hid (∀ c i x, Calls Try.prog 100 #[.int .i64 (S c i l.length)] x fun e w' => e = .returned (.int .i64 (V c i)) ∧ x = w') := Lib.hid fun c i x => by rw [← hS]; exact HCL.out c i x
              clear HSB HST HZ HCL hS
              obtain ⟨b0, o0, u0, rfl, hc0, hu0⟩ := HIN.out wr HB.out 0 h0N
              obtain ⟨m0, hm0⟩ : ∃ m0, l.getD 0 [] = m0 := ⟨_, rfl⟩
              rw [hm0] at HSZ HFIN p1 p8 pc hu0
              obtain ⟨a1, c1, rfl, hin1, _, _⟩ := hu0
              obtain ⟨b2, o2, u2, rfl, hc2, hu2⟩ := hin1 0 (by omega)
              obtain ⟨a3, c3, rfl, _, _, _⟩ := hu2
              change wr.cell? _ = some (.slice a3 (cols m0) c3) at hc2
              simp only [Nat.add_zero] at hc0 hc2
              obtain ⟨C, hC⟩ : ∃ C, cols m0 = C := ⟨_, rfl⟩
              obtain ⟨R, hR⟩ : ∃ R, m0.length = R := ⟨_, rfl⟩
              rw [hC] at HSZ HFIN pc hc2
              rw [hR] at HSZ HFIN p1 p8 hc0
              have H47 := Lib.hid (fun x => nothing_gn R C p1 p8 pc x)
              have HS : Hid (∀ x, Below wr.heap.size wr x → (x.cell? ⟨b0, o0, none⟩ = some (.slice (some ⟨b2, o2, none⟩) R c1) ∧ x.cell? ⟨b2, o2, none⟩ = some (.slice a3 C c3)) ∧ Below wr.heap.size wr x) := Lib.hid fun x hx => ⟨⟨(Same.of_below hx).cell hc0, (Same.of_below hx).cell hc2⟩, hx⟩
              have iR : (0 : Int) < (R : Int) := by omega
              have iRN : 0 < R := by omega
              clear hin1 hm0 hC hR hc0 hc2 h0 h40
              go_wp2_with fail
              refine region_T (S := fun x => (x.cell? ⟨b0, o0, none⟩ = some (.slice (some ⟨b2, o2, none⟩) R c1) ∧ x.cell? ⟨b2, o2, none⟩ = some (.slice a3 C c3)) ∧ Below wr.heap.size wr x) [] (by kernel_rfl) (HS.out _ (Below.refl _ _).drew) (fun _ => ?_)
              have hS0 := HS.out _ (Below.drew (Below.refl wr.heap.size wr))
              have hWs : wr.heap.size ≤ wr.drew.heap.size := Nat.le_refl _
              obtain ⟨W, hW⟩ : ∃ W, wr.drew = W := ⟨_, rfl⟩
              rw [hW] at hS0 hWs ⊢
              clear hW
              refine anyT_take (i := 0) (v := ?_) rfl (by kernel_rfl) (by kernel_rfl) (by kernel_rfl) (by kernel_rfl) (fun _ _ _ h => h) (Or.inl ⟨by rfl, ?_⟩) hS0 ?_
              rotate_left
              focus ((intro wq hSw; obtain ⟨⟨q0, q1⟩, _⟩ := hSw; go_simp); try with_reducible rfl)
              try simp only [Act.put, List.getElem_toArray, List.getElem_cons_succ, List.getElem_cons_zero, List.setIfInBounds_toArray, List.set_cons_zero, List.set_cons_succ]
              refine anyT_take (i := 1) (v := ?_) rfl (by kernel_rfl) (by kernel_rfl) (by kernel_rfl) (by kernel_rfl) (fun _ _ _ h => h) (Or.inl ⟨by rfl, ?_⟩) hS0 ?_
              rotate_left
              focus ((intro wq hSw; obtain ⟨⟨q0, q1⟩, _⟩ := hSw; go_simp); try with_reducible rfl)
              try simp only [Act.put, List.getElem_toArray, List.getElem_cons_succ, List.getElem_cons_zero, List.setIfInBounds_toArray, List.set_cons_zero, List.set_cons_succ]
              refine anyT_take (i := 2) (v := ?_) rfl (by kernel_rfl) (by kernel_rfl) (by kernel_rfl) (by kernel_rfl) (fun _ _ _ h => h) (Or.inl ⟨by rfl, ?_⟩) hS0 ?_
              rotate_left
              focus ((intro wq hSw; obtain ⟨⟨q0, q1⟩, _⟩ := hSw; go_simp); try with_reducible rfl)
              try simp only [Act.put, List.getElem_toArray, List.getElem_cons_succ, List.getElem_cons_zero, List.setIfInBounds_toArray, List.set_cons_zero, List.set_cons_succ]
              refine anyT_take (i := 3) (v := ?_) rfl (by kernel_rfl) (by kernel_rfl) (by kernel_rfl) (by kernel_rfl) (fun _ _ _ h => h) (Or.inl ⟨by rfl, ?_⟩) hS0 ?_
              rotate_left
              focus ((intro wq hSw; obtain ⟨⟨q0, q1⟩, _⟩ := hSw; go_simp); try with_reducible rfl)
              try simp only [Act.put, List.getElem_toArray, List.getElem_cons_succ, List.getElem_cons_zero, List.setIfInBounds_toArray, List.set_cons_zero, List.set_cons_succ]
              refine anyT_take (i := 4) (v := ?_) rfl (by kernel_rfl) (by kernel_rfl) (by kernel_rfl) (by kernel_rfl) (fun _ _ _ h => h) (Or.inl ⟨by rfl, ?_⟩) hS0 ?_
              rotate_left
              focus ((intro wq hSw; obtain ⟨⟨q0, q1⟩, _⟩ := hSw; go_simp); try with_reducible rfl)
              try simp only [Act.put, List.getElem_toArray, List.getElem_cons_succ, List.getElem_cons_zero, List.setIfInBounds_toArray, List.set_cons_zero, List.set_cons_succ]
              refine anyT_take (i := 5) (v := ?_) rfl (by kernel_rfl) (by kernel_rfl) (by kernel_rfl) (by kernel_rfl) (fun _ _ _ h => h) (Or.inl ⟨by rfl, ?_⟩) hS0 ?_
              rotate_left
              focus ((intro wq hSw; obtain ⟨⟨q0, q1⟩, _⟩ := hSw; go_simp); try with_reducible rfl)
              try simp only [Act.put, List.getElem_toArray, List.getElem_cons_succ, List.getElem_cons_zero, List.setIfInBounds_toArray, List.set_cons_zero, List.set_cons_succ]
              refine anyT_take (i := 6) (v := ?_) rfl (by kernel_rfl) (by kernel_rfl) (by kernel_rfl) (by kernel_rfl) (fun _ _ _ h => h) (Or.inl ⟨by rfl, ?_⟩) hS0 ?_
              rotate_left
              focus ((intro wq hSw; obtain ⟨⟨q0, q1⟩, _⟩ := hSw; go_simp); try with_reducible rfl)
              try simp only [Act.put, List.getElem_toArray, List.getElem_cons_succ, List.getElem_cons_zero, List.setIfInBounds_toArray, List.set_cons_zero, List.set_cons_succ]
              refine anyT_take (i := 7) (v := ?_) rfl (by kernel_rfl) (by kernel_rfl) (by kernel_rfl) (by kernel_rfl) (fun _ _ _ h => h) (Or.inl ⟨by rfl, ?_⟩) hS0 ?_
              rotate_left
              focus ((intro wq hSw; obtain ⟨⟨q0, q1⟩, _⟩ := hSw; go_simp); try with_reducible rfl)
              try simp only [Act.put, List.getElem_toArray, List.getElem_cons_succ, List.getElem_cons_zero, List.setIfInBounds_toArray, List.set_cons_zero, List.set_cons_succ]
              refine anyT_take (i := 8) (v := ?_) rfl (by kernel_rfl) (by kernel_rfl) (by kernel_rfl) (by kernel_rfl) (fun _ _ _ h => h) (Or.inl ⟨by rfl, ?_⟩) hS0 ?_
              rotate_left
              focus ((intro wq hSw; obtain ⟨⟨q0, q1⟩, _⟩ := hSw; go_simp); try with_reducible rfl)
              try simp only [Act.put, List.getElem_toArray, List.getElem_cons_succ, List.getElem_cons_zero, List.setIfInBounds_toArray, List.set_cons_zero, List.set_cons_succ]
              refine anyT_take (i := 9) (v := ?_) rfl (by kernel_rfl) (by kernel_rfl) (by kernel_rfl) (by kernel_rfl) (fun _ _ _ h => h) (Or.inl ⟨by rfl, ?_⟩) hS0 ?_
              rotate_left
              focus ((intro wq hSw; obtain ⟨⟨q0, q1⟩, _⟩ := hSw; go_simp); try with_reducible rfl)
              try simp only [Act.put, List.getElem_toArray, List.getElem_cons_succ, List.getElem_cons_zero, List.setIfInBounds_toArray, List.set_cons_zero, List.set_cons_succ]
              refine anyT_one (i := 10) (by kernel_rfl) rfl (fun K hK => ?_)
              go_simp
              refine (H47.out _).mono ?_
              rintro e w1 ⟨g, cap, gs, rfl, hcap, hgn, hb⟩
              have hS1 := HS.out _ (Below.then hS0.2 (Nat.le_refl _) hb)
              have HG := Lib.hid hgn
              have hN : w.heap.size ≤ W.heap.size := Nat.le_trans HB.out.size hWs
              obtain ⟨N, hNe⟩ : ∃ N, W.heap.size = N := ⟨_, rfl⟩
              rw [hNe] at HG hN
              clear hgn hb hNe hS0 hWs
              refine hK.out _ _ (fun _ => hS1) ?_
              clear hK K
              try simp only [Act.put, List.getElem_toArray, List.getElem_cons_succ, List.getElem_cons_zero, List.setIfInBounds_toArray, List.set_cons_zero, List.set_cons_succ]
              refine anyT_take (i := 11) (v := ?_) rfl (by kernel_rfl) (by kernel_rfl) (by kernel_rfl) (by kernel_rfl) (fun _ _ _ h => h) (Or.inl ⟨by rfl, ?_⟩) hS1 ?_
              rotate_left
              focus ((intro wq hSw; obtain ⟨⟨q0, q1⟩, _⟩ := hSw; go_simp); try with_reducible rfl)
              try simp only [Act.put, List.getElem_toArray, List.getElem_cons_succ, List.getElem_cons_zero, List.setIfInBounds_toArray, List.set_cons_zero, List.set_cons_succ]
              refine anyT_done (by kernel_rfl) ?_ _
              have HB1 := Lib.hid (Below.then HB.out (Nat.le_refl _) hS1.2)
              clear hS1
              go_wp2_with fail
              go_loopw [7] (fun p wr => ∃ c : Nat, p = .int .i64 c ∧ c ≤ R ∧ Gn N g gs R C (rdF V c 0) wr ∧ Below w.heap.size w wr) (fun p _ => R - (intOf p).toNat)
              case atStart => exact ⟨0, rfl, Nat.zero_le _, HG.out.congr fun j x _ _ => by simp [rdF], HB1.out⟩
              case round =>
                clear HG HB1 HB HS
                obtain ⟨c, rfl, hc, hgn, hbl⟩ := hrel
                by_cases hlt : c < R
                · have wc : (c : Int) < (R : Int) := by omega
                  go_wp2_with fail
                  obtain ⟨wo, rfl⟩ : ∃ wo : World, wo = wr := ⟨_, rfl⟩
                  go_loopw [8] (fun p wr => ∃ f : Nat, p = .int .i64 f ∧ f ≤ C ∧ Gn N g gs R C (rdF V c f) wr ∧ Below w.heap.size w wr) (fun p _ => C - (intOf p).toNat)
                  case atStart => exact ⟨0, rfl, Nat.zero_le _, hgn, hbl⟩
                  case round =>
                    clear hgn hbl
                    obtain ⟨f, rfl, hf, hgn, hbl⟩ := hrel
                    have hct := hgn.top c hlt
                    by_cases hltf : f < C
                    · have wf : (f : Int) < (C : Int) := by omega
                      go_wp2_with fail
                      obtain ⟨wo2, rfl⟩ : ∃ wo2 : World, wo2 = wr := ⟨_, rfl⟩
                      go_loopw [9, 10] (fun s p wr => ∃ k : Nat, p = .int .i64 k ∧ k ≤ l.length ∧ s = .int .i64 (S c f k) ∧ Gn N g gs R C (rdF V c f) wr ∧ Below w.heap.size w wr) (fun _ p _ => l.length - (intOf p).toNat)
                      case atStart => exact ⟨0, rfl, Nat.zero_le _, by rw [HZ'.out], hgn, hbl⟩
                      case round =>
                        clear hgn hbl hct
                        obtain ⟨k, rfl, hk, rfl, hgn, hbl⟩ := hrel
                        by_cases hltk : k < l.length
                        · have wk : (k : Int) < (l.length : Int) := by omega
                          obtain ⟨_, _, uk, e1, hck, huk⟩ := HIN.out wr hbl k hltk
                          simp only [Option.some.injEq, Addr.mk.injEq, and_true] at e1
                          obtain ⟨rfl, rfl⟩ := e1
                          obtain ⟨s1, s2⟩ := HSZ.out k hltk
                          have s2 := s2 c hlt
                          obtain ⟨st1, st2⟩ := HST'.out c f k hltk
                          have sb := HSB'.out c f k (by omega)
                          have hval : (((l.getD k []).getD c []).getD f 0) = cellM (l.getD k []) c f := rfl
                          obtain ⟨mk, hmk⟩ : ∃ mk, l.getD k [] = mk := ⟨_, rfl⟩
                          rw [hmk] at huk s1 s2 hval st1 st2
                          obtain ⟨ak, ck, rfl, hink, _, _⟩ := huk
                          obtain ⟨bk, ok, uc, rfl, hcc, huc⟩ := hink c (by omega)
                          obtain ⟨rc, hrc⟩ : ∃ rc, mk.getD c [] = rc := ⟨_, rfl⟩
                          rw [hrc] at huc s2 hval
                          obtain ⟨ac, cc, rfl, hinc, _, _⟩ := huc
                          obtain ⟨bc, oc, rfl, hcf2, _⟩ := hinc f (by omega)
                          rw [s1] at hck
                          rw [s2] at hcc
                          obtain ⟨s, hs⟩ : ∃ s, rc.getD f 0 = s := ⟨_, rfl⟩
                          rw [hs] at hcf2 hval
                          rw [← hval] at st1 st2
                          obtain ⟨y, hy⟩ : ∃ y, S c f k = y := ⟨_, rfl⟩
                          rw [hy] at st1 sb ⊢
                          obtain ⟨sb1, sb2⟩ := sb
                          obtain ⟨sc1, sc2⟩ := st2
                          have HF := Lib.hid (And.intro hgn (And.intro hbl st1))
                          clear hval hs hmk hrc hink hinc s1 s2 hgn hbl st1 hy
                          go_wp2_with fail
                          go_roundw
                          case rel => exact ⟨k + 1, by go_num, by omega, by rw [HF.out.2.2], HF.out.1, HF.out.2.1⟩
                          case measure => simp [intOf]; omega
                        · have wk : ¬ (k : Int) < (l.length : Int) := by omega
                          obtain rfl : k = l.length := by omega
                          have h100 := HCL'.out c f
                          have hct := hgn.top c hlt
                          have hlo := hgn.lo c hlt
                          have HAP := Lib.hid (fun (x : World) (hx : Gn N g gs R C (rdF V c f) x) => And.intro ((hx.rows c hlt).cell hltf) (And.intro ((hx.rows c hlt).frozen f) (hx.rd hlt)))
                          obtain ⟨y, hy⟩ : ∃ y, S c f l.length = y := ⟨_, rfl⟩
                          rw [hy] at h100 ⊢
                          obtain ⟨vv, hvv⟩ : ∃ vv, V c f = vv := ⟨_, rfl⟩
                          rw [hvv] at HAP h100
                          have H100 := Lib.hid h100
                          have hS0 : wr.drew.cell? ⟨g, c, none⟩ = some (.slice (some ⟨gs c, 0, none⟩) C C) ∧ (Gn N g gs R C (rdF V c f) wr.drew ∧ Below w.heap.size w wr.drew) := ⟨hct, hgn.drew, hbl.drew⟩
                          clear hy hvv hgn hbl h100 hct
                          go_wp2_with fail
                          refine region_T (S := fun x => x.cell? ⟨g, c, none⟩ = some (.slice (some ⟨gs c, 0, none⟩) C C) ∧ (Gn N g gs R C (rdF V c f) x ∧ Below w.heap.size w x)) [8] (by kernel_rfl) hS0 (fun _ => ?_)
                          obtain ⟨W3, hW3⟩ : ∃ W3, wr.drew = W3 := ⟨_, rfl⟩
                          rw [hW3] at hS0 ⊢
                          clear hW3
                          refine anyT_take (i := 0) (v := ?_) rfl (by kernel_rfl) (by kernel_rfl) (by kernel_rfl) (by kernel_rfl) (fun _ _ _ h => h) (Or.inl ⟨by rfl, ?_⟩) hS0 ?_
                          rotate_left
                          focus ((intro wq hSw; obtain ⟨q0, _⟩ := hSw; go_simp); try with_reducible rfl)
                          try simp only [Act.put, List.getElem_toArray, List.getElem_cons_succ, List.getElem_cons_zero, List.setIfInBounds_toArray, List.set_cons_zero, List.set_cons_succ]
                          refine anyT_take (i := 1) (v := ?_) rfl (by kernel_rfl) (by kernel_rfl) (by kernel_rfl) (by kernel_rfl) (fun _ _ _ h => h) (Or.inl ⟨by rfl, ?_⟩) hS0 ?_
                          rotate_left
                          focus ((intro wq hSw; obtain ⟨q0, _⟩ := hSw; go_simp); try with_reducible rfl)
                          try simp only [Act.put, List.getElem_toArray, List.getElem_cons_succ, List.getElem_cons_zero, List.setIfInBounds_toArray, List.set_cons_zero, List.set_cons_succ]
                          refine anyT_take (i := 2) (v := ?_) rfl (by kernel_rfl) (by kernel_rfl) (by kernel_rfl) (by kernel_rfl) (fun _ _ _ h => h) (Or.inl ⟨by rfl, ?_⟩) hS0 ?_
                          rotate_left
                          focus ((intro wq hSw; obtain ⟨q0, _⟩ := hSw; go_simp); try with_reducible rfl)
                          try simp only [Act.put, List.getElem_toArray, List.getElem_cons_succ, List.getElem_cons_zero, List.setIfInBounds_toArray, List.set_cons_zero, List.set_cons_succ]
                          refine anyT_take (i := 3) (v := ?_) rfl (by kernel_rfl) (by kernel_rfl) (by kernel_rfl) (by kernel_rfl) (fun _ _ _ h => h) (Or.inl ⟨by rfl, ?_⟩) hS0 ?_
                          rotate_left
                          focus ((intro wq hSw; obtain ⟨q0, _⟩ := hSw; go_simp); try with_reducible rfl)
                          try simp only [Act.put, List.getElem_toArray, List.getElem_cons_succ, List.getElem_cons_zero, List.setIfInBounds_toArray, List.set_cons_zero, List.set_cons_succ]
                          refine anyT_take (i := 4) (v := ?_) rfl (by kernel_rfl) (by kernel_rfl) (by kernel_rfl) (by kernel_rfl) (fun _ _ _ h => h) (Or.inl ⟨by rfl, ?_⟩) hS0 ?_
                          rotate_left
                          focus ((intro wq hSw; obtain ⟨q0, _⟩ := hSw; go_simp); try with_reducible rfl)
                          try simp only [Act.put, List.getElem_toArray, List.getElem_cons_succ, List.getElem_cons_zero, List.setIfInBounds_toArray, List.set_cons_zero, List.set_cons_succ]
                          refine anyT_take (i := 5) (v := ?_) rfl (by kernel_rfl) (by kernel_rfl) (by kernel_rfl) (by kernel_rfl) (fun _ _ _ h => h) (Or.inl ⟨by rfl, ?_⟩) hS0 ?_
                          rotate_left
                          focus ((intro wq hSw; obtain ⟨q0, _⟩ := hSw; go_simp); try with_reducible rfl)
                          try simp only [Act.put, List.getElem_toArray, List.getElem_cons_succ, List.getElem_cons_zero, List.setIfInBounds_toArray, List.set_cons_zero, List.set_cons_succ]
                          refine anyT_one (i := 6) (by kernel_rfl) rfl (fun K hK => ?_)
                          go_simp
                          refine (H100.out _).mono ?_
                          rintro e w5 ⟨rfl, rfl⟩
                          refine hK.out _ _ (fun _ => hS0) ?_
                          clear hK K
                          try simp only [Act.put, List.getElem_toArray, List.getElem_cons_succ, List.getElem_cons_zero, List.setIfInBounds_toArray, List.set_cons_zero, List.set_cons_succ]
                          refine anyT_take (i := 7) (v := ?_) rfl (by kernel_rfl) (by kernel_rfl) (by kernel_rfl) (by kernel_rfl) (fun _ _ _ h => h) (Or.inl ⟨by rfl, ?_⟩) hS0 ?_
                          rotate_left
                          focus ((intro wq hSw; obtain ⟨q0, _⟩ := hSw; go_simp); try with_reducible rfl)
                          try simp only [Act.put, List.getElem_toArray, List.getElem_cons_succ, List.getElem_cons_zero, List.setIfInBounds_toArray, List.set_cons_zero, List.set_cons_succ]
                          refine anyT_one (i := 8) (by kernel_rfl) rfl (fun K hK => ?_)
                          obtain ⟨f1, f2, hst⟩ := HAP.out _ hS0.2.1
                          have HST2 := Lib.hid hst
                          have HBL := Lib.hid hS0.2.2
                          clear hst hS0
                          go_simp
                          refine hK.out _ _ (fun h => by cases h) ?_
                          clear hK K
                          refine anyT_done (by kernel_rfl) ?_ _
                          go_wp2_with fail
                          go_roundw
                          case rel => exact ⟨f + 1, by go_num, by omega, HST2.out, HBL.out.setCell (Nat.le_trans hN hlo) _⟩
                          case measure => simp [intOf]; omega
                    · have wf : ¬ (f : Int) < (C : Int) := by omega
                      obtain rfl : f = C := by omega
                      have HF := Lib.hid (And.intro hgn hbl)
                      clear hgn hbl
                      go_wp2_with fail
                      go_roundw
                      case rel => exact ⟨c + 1, by go_num, by omega, HF.out.1.congr (fun j x _ hx => by
                        unfold rdF
                        by_cases e : j < c ∨ (j = c ∧ x < f)
                        · rw [if_pos e, if_pos (by omega)]
                        · rw [if_neg e, if_neg (by omega)]), HF.out.2⟩
                      case measure => simp [intOf]; omega
                · have wc : ¬ (c : Int) < (R : Int) := by omega
                  obtain rfl : c = R := by omega
                  have hm := HFIN.out g cap N gs wr hcap (hgn.congr fun j x hj _ => by unfold rdF; rw [if_pos (Or.inl hj)])
                  have HM := Lib.hid hm
                  have HBL := Lib.hid hbl
                  clear hm hgn hbl
                  go_wp2_with fail
                  go_ret2
                  exact ⟨_, rfl, HM.out, HBL.out⟩
end Go.Proofs.Ythfagnbecocgdaa
