/- The document's Normal, where the matrix is valid. -/
import Derived.Test.YtpjmiiejmkgmdaaLD
namespace Go.Proofs.Ytpjmiiejmkgmdaa
open Go.RowKit Go.Deep

theorem normalM_tab {m : List (List Int)} {c : Nat} (h : ∀ j, j < m.length → (m.getD j []).length = c) : tabM m.length c (fun j x => scaled (m.getD j []) ((m.getD j []).getD x 0)) = normalM m := by
  apply mat_eq_of (by simp [tabM, normalM])
  intro j hj
  rw [tabM_len] at hj
  rw [tabM_row _ hj, show (normalM m).getD j [] = normalR (m.getD j []) by simp [normalM, List.getD, hj]]
  apply list_eq_of (by rw [normalR_len, h j hj]; simp)
  intro x hx
  simp at hx
  rw [normalR_at (by rw [h j hj]; exact hx)]
  simp [List.getD, hx]

set_option maxHeartbeats 4000000 in
set_option maxRecDepth 100000 in
theorem refNormal_yes (m : List (List Int)) (va : Value) (w : World) (ha : MatIn w m va) (hvm : validM m = true) : Calls Try.prog 29 #[va] w (MatAns w (normalM m) 0) := by
  have h34 := refValidMatrix_any m va w ha
  rw [hvm] at h34
  obtain ⟨pm1, pm2, pm3, pm4⟩ := validM_parts hvm
  obtain ⟨a, ca, rfl, hin, _, _⟩ := id ha
  have H48 := Lib.hid (fun (x : World) => nothing_gn m.length (cols m) pm1.1 pm1.2 (by omega) x)
  obtain ⟨bq, oq, uq, hbq, hcq, hu⟩ := hin 0 (by omega)
  obtain ⟨au, cu, rfl, _, _, _⟩ := hu
  change w.cell? _ = some (Value.slice au (cols m) cu) at hcq
  simp only [Nat.add_zero] at hcq
  subst hbq
  have HSC := Lib.hid (fun (j x : Nat) => show I64 (scaled (m.getD j []) ((m.getD j []).getD x 0)) ∧ (scaled (m.getD j []) ((m.getD j []).getD x 0)).natAbs ≤ 655360 * 65536 from by
    have h1 := pm4 j x
    have h2 := abs_tdiv ((m.getD j []).getD x 0 * 65536) (sumA (m.getD j []))
    unfold scaled I64
    split <;> omega)
  have HFIN := Lib.hid (fun (B g cap : Nat) (gs : Nat → Nat) (W : World) (hcap : m.length ≤ cap) (hg : Gn B g gs m.length (cols m) (nmF m m.length 0) W) => show MatIn W (normalM m) (.slice (some ⟨g, 0, none⟩) m.length cap) from by
    have h1 := (hg.congr (G := fun j x => scaled (m.getD j []) ((m.getD j []).getD x 0)) fun j x hj _ => by unfold nmF; rw [if_pos (Or.inl hj)]).mat pm1.2 (by omega) hcap fun j x _ _ => (HSC.out j x).1
    rw [normalM_tab pm3] at h1
    exact h1)
  have HIM := Lib.hid (fun (x : World) (hx : Below w.heap.size w x) => hin.mono (Same.of_below hx))
  have HCQ := Lib.hid (fun (x : World) (hx : Below w.heap.size w x) => (Same.of_below hx).cell hcq)
  have HP3 := Lib.hid pm3
  have HP4 := Lib.hid pm4
  have hposI : (0 : Int) < (m.length : Int) := by omega
  have hposN : 0 < m.length := by omega
  have hm8 : m.length ≤ 8 := pm1.2
  obtain ⟨C, hC⟩ : ∃ C, cols m = C := ⟨_, rfl⟩
  rw [hC] at H48 HFIN HCQ HP3 pm2
  clear pm1 pm3 pm4 hin ha hvm hcq hC
  go_enter Try.func29, Try.ntmps29
  go_wp2_with (first
    | (go_at_call 34; (with_reducible refine h34.mono ?_); rintro e w1 ⟨rfl, b1⟩; have c1 := HCQ.out _ b1; have B1 := Lib.hid b1; clear b1)
    | (go_at_call 48; (with_reducible refine (H48.out _).mono ?_); rintro e w2 ⟨g, cap, gs, rfl, hcap, hgn, b2⟩; have B2 := Lib.hid (Below.then B1.out (Nat.le_refl _) b2); have HG2 := Lib.hid hgn; have hB : w.heap.size ≤ w1.heap.size := B1.out.size; clear b2 hgn c1))
  go_loopw [5] (fun p wr => ∃ i : Nat, p = .int .i64 i ∧ i ≤ m.length ∧ Gn w1.heap.size g gs m.length C (nmF m i 0) wr ∧ Below w.heap.size w wr) (fun p _ => m.length - (intOf p).toNat)
  case atStart => exact ⟨0, rfl, Nat.zero_le _, HG2.out.congr fun j x _ _ => by simp [nmF], B2.out⟩
  case round =>
    clear HG2 B2
    obtain ⟨i, rfl, hi, hgn, hbl⟩ := hrel
    by_cases hlti : i < m.length
    · have wi : (i : Int) < (m.length : Int) := by omega
      obtain ⟨bm, om, um, ebm, hcm, hum⟩ := (HIM.out wr hbl) i hlti
      simp only [Option.some.injEq, Addr.mk.injEq, and_true] at ebm
      obtain ⟨rfl, rfl⟩ := ebm
      have hl1 := HP3.out i hlti
      have hx4 := HP4.out i
      have HNM := Lib.hid (fun (x : World) (k : Nat) (y : Int) (hx : Gn w1.heap.size g gs m.length C (nmF m i k) x) hy => hx.nm (y := y) hlti hy)
      have HNM2 := Lib.hid (fun (x : World) (k : Nat) (x0 y : Int) (hx : Gn w1.heap.size g gs m.length C (nmF m i k) x) hy => hx.nm2 (x0 := x0) (y := y) hlti hy)
      obtain ⟨p, hp⟩ : ∃ p, m.getD i [] = p := ⟨_, rfl⟩
      rw [hp] at hum hl1 hx4 HNM HNM2
      have hsum := sum_any p um wr hum (by omega) hx4
      have hsb := sumTo_bd hx4 p.length
      obtain ⟨ap, cp, rfl, hpin, _, _⟩ := hum
      have hrow : ∀ x, Below w.heap.size w x → x.cell? ⟨bq, oq + i, none⟩ = some (.slice ap p.length cp) ∧ IntsIn x ap p := fun x hx => by
        obtain ⟨b2, o2, u2, e2, h2, h3⟩ := (HIM.out x hx) i hlti
        obtain ⟨b3, o3, u3, e3, h4, _⟩ := (HIM.out w (Below.refl _ _)) i hlti
        simp only [Option.some.injEq, Addr.mk.injEq, and_true] at e2 e3
        obtain ⟨rfl, rfl⟩ := e2
        obtain ⟨rfl, rfl⟩ := e3
        have k1 := (Same.of_below hx).cell h4
        have k2 := (Same.of_below hbl).cell h4
        rw [k1] at h2; cases h2
        rw [k2] at hcm; cases hcm
        rw [hp] at h3
        obtain ⟨a2, c2, e2, h5, _, _⟩ := h3
        simp only [Value.slice.injEq] at e2
        obtain ⟨rfl, _, rfl⟩ := e2
        exact ⟨k1, h5⟩
      change 0 ≤ sumA p ∧ sumA p ≤ 655360 * _ at hsb
      obtain ⟨S, hS⟩ : ∃ S, sumA p = S := ⟨_, rfl⟩
      rw [hS] at hsum hsb
      have HSS := Lib.hid hS
      have HPM := Lib.hid hp
      have HROW := Lib.hid hrow
      have HX4 := Lib.hid hx4
      have HL1 := Lib.hid hl1
      obtain ⟨s1, s2⟩ := hsb
      have s3 : S ≤ 5242880 := by omega
      have HGN := Lib.hid hgn
      have HBL := Lib.hid hbl
      clear hgn hbl hp hS hrow hx4 hl1 s2 hpin
      go_wp2_with (go_at_call 39; (with_reducible refine hsum.mono ?_); rintro e w3 ⟨rfl, rfl⟩)
      clear hcm hsum
      obtain ⟨wo, rfl⟩ : ∃ wo : World, wo = wr := ⟨_, rfl⟩
      go_loopw [7] (fun q wr => ∃ k : Nat, q = .int .i64 k ∧ k ≤ p.length ∧ Gn w1.heap.size g gs m.length C (nmF m i k) wr ∧ Below w.heap.size w wr) (fun q _ => p.length - (intOf q).toNat)
      case atStart => exact ⟨0, rfl, Nat.zero_le _, HGN.out, HBL.out⟩
      case round =>
        clear HGN HBL
        obtain ⟨k, rfl, hk, hgn, hbl⟩ := hrel
        obtain ⟨c1, hpi⟩ := HROW.out wr hbl
        by_cases hltk : k < p.length
        · obtain ⟨bp, op, rfl, hcp, _⟩ := hpi k hltk
          have hkC : k < C := by have := HL1.out; omega
          have wk : (k : Int) < (p.length : Int) := by omega
          have hx1 := HX4.out k
          have hnm := HNM.out
          have hnm2 := HNM2.out
          have hct := hgn.top i hlti
          have hcc := (hgn.rows i hlti).cell hkC
          have hcf := (hgn.rows i hlti).frozen k
          have hlo := hgn.lo i hlti
          obtain ⟨x, hx⟩ : ∃ x, p.getD k 0 = x := ⟨_, rfl⟩
          rw [hx] at hcp hx1
          have HX := Lib.hid hx
          have x1 : -655360 ≤ x := by omega
          have x2 : x ≤ 655360 := by omega
          have hkCI : (k : Int) < (C : Int) := by omega
          have HGN := Lib.hid hgn
          have HBL := Lib.hid hbl
          clear hx hx1 hgn hbl hnm hnm2 hpi
          have hlow : w.heap.size ≤ gs i := by omega
          by_cases hle : S ≤ 65536
          · have hle' : ¬ 65536 < S := by omega
            go_wp2_with fail
            go_still_tail 13, (by kernel_rfl)
            change wpList _ _ _ _ _ wr.drew
            obtain ⟨W2, hW2⟩ : ∃ W2, wr.drew = W2 := ⟨_, rfl⟩
            have hcc2 : W2.cell? ⟨gs i, k, none⟩ = some (.int .i64 (nmF m i k i k)) := by rw [← hW2]; exact hcc
            have hcf2 : W2.frozen? ⟨gs i, k, none⟩ = false := by rw [← hW2]; exact hcf
            have hg2 : Gn w1.heap.size g gs m.length C (nmF m i k) W2 := by rw [← hW2]; exact HGN.out.drew
            have hb2 : Below w.heap.size w W2 := by rw [← hW2]; exact HBL.out.drew
            have HST := Lib.hid (HNM.out W2 k x hg2 (by rw [HX.out]; unfold scaled; rw [HSS.out, if_pos hle]))
            have HB2 := Lib.hid hb2
            rw [hW2]
            clear hW2 hg2 hb2 hcc hcf hct hcp c1
            go_wp2_with fail
            go_roundw
            case rel => exact ⟨k + 1, by go_num, by omega, HST.out, HB2.out.setCell hlow _⟩
            case measure => simp [intOf]; omega
          · have hle' : 65536 < S := by omega
            go_wp2_with fail
            go_still_tail 13, (by kernel_rfl)
            change wpList _ _ _ _ _ wr.drew
            obtain ⟨W2, hW2⟩ : ∃ W2, wr.drew = W2 := ⟨_, rfl⟩
            have hcc2 : W2.cell? ⟨gs i, k, none⟩ = some (.int .i64 (nmF m i k i k)) := by rw [← hW2]; exact hcc
            have hcf2 : W2.frozen? ⟨gs i, k, none⟩ = false := by rw [← hW2]; exact hcf
            have hg2 : Gn w1.heap.size g gs m.length C (nmF m i k) W2 := by rw [← hW2]; exact HGN.out.drew
            have hb2 : Below w.heap.size w W2 := by rw [← hW2]; exact HBL.out.drew
            have HG2 := Lib.hid hg2
            have HB2 := Lib.hid hb2
            rw [hW2]
            clear hW2 hg2 hb2 hcc hcf hct hcp c1
            go_wp2_with fail
            have hb3 : Below w.heap.size w (W2.setCell ⟨gs i, k, none⟩ (.int .i64 x)) := HB2.out.setCell hlow _
            obtain ⟨c3, hp3⟩ := HROW.out _ hb3
            obtain ⟨bp3, op3, e3, hcp3, _⟩ := hp3 k hltk
            simp only [Option.some.injEq, Addr.mk.injEq, and_true] at e3
            obtain ⟨rfl, rfl⟩ := e3
            rw [HX.out] at hcp3
            have hg3 := HG2.out.set hlti k x
            have hct3 := hg3.top i hlti
            have hcc3 := (hg3.rows i hlti).cell hkC
            have hcf3 := (hg3.rows i hlti).frozen k
            have htd := abs_tdiv (x * 65536) S
            have t1 : -42949672960 ≤ (x * 65536).tdiv S := by omega
            have t2 : (x * 65536).tdiv S ≤ 42949672960 := by omega
            have hS0 : ¬ S = 0 := by omega
            have e1 : IntKind.i64.wrap (x * 65536) = x * 65536 := IntWalk.i64_in _ (by omega)
            have e2 : IntKind.i64.wrap ((x * 65536).tdiv S) = (x * 65536).tdiv S := IntWalk.i64_in _ (by omega)
            have HST := Lib.hid (fun (W : World) (hg : Gn w1.heap.size g gs m.length C (fun a b => if a = i ∧ b = k then x else nmF m i k a b) W) => show Gn w1.heap.size g gs m.length C (nmF m i (k + 1)) (W.setCell ⟨gs i, k, none⟩ (.int .i64 ((x * 65536).tdiv S))) from
              (hg.set hlti k _).congr fun j y hj hy => by
                unfold nmF
                by_cases e : j = i ∧ y = k
                · obtain ⟨rfl, rfl⟩ := e
                  rw [if_pos ⟨rfl, rfl⟩, if_pos (by omega)]
                  unfold scaled
                  have hpp : m.getD j [] = p := HPM.out
                  rw [hpp, HX.out, HSS.out, if_neg (show ¬ S ≤ 65536 by omega)]
                · rw [if_neg e, if_neg e]
                  by_cases e2 : j < i ∨ (j = i ∧ y < k)
                  · rw [if_pos e2, if_pos (by omega)]
                  · rw [if_neg e2, if_neg (by omega)])
            obtain ⟨W3, hW3⟩ : ∃ W3, W2.setCell ⟨gs i, k, none⟩ (.int .i64 x) = W3 := ⟨_, rfl⟩
            rw [hW3] at hb3 c3 hcp3 hg3 hct3 hcc3 hcf3 ⊢
            have HG3 := Lib.hid hg3
            have HB3 := Lib.hid hb3
            clear hW3 hg3 hb3 htd hp3 hcc2 hcf2
            go_still_tail 16, (by kernel_rfl)
            change wpList _ _ _ _ _ W3.drew
            obtain ⟨W4, hW4⟩ : ∃ W4, W3.drew = W4 := ⟨_, rfl⟩
            have hcc4 : W4.cell? ⟨gs i, k, none⟩ = some (.int .i64 (if i = i ∧ k = k then x else nmF m i k i k)) := by rw [← hW4]; exact hcc3
            have hcf4 : W4.frozen? ⟨gs i, k, none⟩ = false := by rw [← hW4]; exact hcf3
            have HB4 := Lib.hid (show Below w.heap.size w W4 by rw [← hW4]; exact HB3.out.drew)
            have HG4 := Lib.hid (HST.out W4 (by rw [← hW4]; exact HG3.out.drew))
            rw [hW4]
            clear hW4 hcc3 hcf3 hct3 hcp3 c3 e1 e2
            go_wp2_with fail
            go_roundw
            case rel => exact ⟨k + 1, by go_num, by omega, HG4.out, HB4.out.setCell hlow _⟩
            case measure => simp [intOf]; omega
        · have wk : ¬ (k : Int) < (p.length : Int) := by omega
          obtain rfl : k = p.length := by omega
          have hgf := hgn.congr (G := nmF m (i + 1) 0) fun j x hj hx => by
            unfold nmF
            have := HL1.out
            by_cases e : j < i ∨ (j = i ∧ x < p.length)
            · rw [if_pos e, if_pos (by omega)]
            · rw [if_neg e, if_neg (by omega)]
          have HGF := Lib.hid hgf
          have HBL := Lib.hid hbl
          clear hgn hbl hgf hpi
          go_wp2_with fail
          go_roundw
          case rel => exact ⟨i + 1, by go_num, by omega, HGF.out, HBL.out⟩
          case measure => simp [intOf]; omega
    · have wi : ¬ (i : Int) < (m.length : Int) := by omega
      obtain rfl : i = m.length := by omega
      have hm := HFIN.out _ _ _ _ _ hcap hgn
      have HM := Lib.hid hm
      have HBL := Lib.hid hbl
      clear hm hgn hbl
      go_wp2_with fail
      go_ret2
      exact ⟨_, rfl, HM.out, HBL.out⟩
end Go.Proofs.Ytpjmiiejmkgmdaa
