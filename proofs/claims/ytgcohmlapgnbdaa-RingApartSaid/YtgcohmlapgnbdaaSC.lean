/- RingApart's law. -/
import Derived.Test.YtgcohmlapgnbdaaSB
namespace Go.Proofs.Ytgcohmlapgnbdaa
open Go.RowKit Go.Shelf Go.Deep

theorem Try.underlying29' : Try.prog.underlying 29 = some (.slice 39) := by kernel_rfl
def xsOf (l : List (List Int)) (i : Nat) : Int := (l.getD i []).getD 0 0
theorem one_row {l : List (List Int)} {i : Nat} (h : frm 1 (l.getD i []) = true) : l.getD i [] = [xsOf l i] := by
  have h1 : (l.getD i []).length = 1 := frm_len (ch := 1) h
  unfold xsOf
  cases hl : l.getD i [] with
  | nil => rw [hl] at h1; cases h1
  | cons a r => rw [hl] at h1; simp at h1; subst h1; rfl
theorem mat_take {w : World} {l : List (List Int)} {a : Option Addr} {ca k : Nat} (h : MatIn w l (.slice a l.length ca)) (hk : k ≤ l.length) : MatIn w (l.take k) (.slice a k ca) := by
  obtain ⟨a2, c2, e, hin, h1, h2⟩ := h
  simp only [Value.slice.injEq, true_and] at e
  obtain ⟨rfl, rfl⟩ := e
  have hl : (l.take k).length = k := by rw [List.length_take]; omega
  refine ⟨a, ca, by rw [hl], fun i hi => ?_, by omega, by omega⟩
  rw [hl] at hi
  rw [show (l.take k).getD i [] = l.getD i [] by simp [List.getD, List.getElem?_take, hi]]
  exact hin i (by omega)
theorem off_low {P R : Nat} {w W : World} {l : List (List Int)} {v : Value} (h : MatIn w l v) (hb : Below w.heap.size w W) (hP : w.heap.size ≤ P) (hR : w.heap.size ≤ R) : MatOff P R W l v := fun x hx => h.mono (Same.of_below (Gw.to_below hb hx hb.size hP hR))

set_option maxHeartbeats 1000000 in
set_option maxRecDepth 100000 in
theorem apart_dark (fi n : Int) (l : List (List Int)) (lv : Value) (w : World) (hl : MatIn w l lv) (hd : 16 < l.length ∨ (l.length ≤ 16 ∧ (n < 0 ∨ 16 < n))) :
    Calls Try.prog 7 #[.int .i64 fi, lv, .int .i64 n] w fun e w' => e = .returned (.bool true) ∧ Below w.heap.size w w' := by
  have h25 := frames25_any l lv w hl
  have HAW := Lib.hid awake_any
  obtain ⟨a, ca, rfl, _, _, _⟩ := hl
  rcases hd with h | ⟨h, h2 | h2⟩
  · have e1 : (16 : Int) < (l.length : Int) := by omega
    clear h
    go_enter Try.func7, Try.ntmps7
    go_wp2_with (first
      | (go_at_call 25; (with_reducible refine h25.mono ?_); rintro e w0 ⟨b, rfl, hb, rfl⟩; clear hb h25; cases b)
      | (go_at_call 9; (with_reducible refine (HAW.out _).mono ?_); rintro e w9 ⟨rfl, b9⟩))
    all_goals
      go_ret
      exact ⟨rfl, b9⟩
  · have e1 : ¬ (16 : Int) < (l.length : Int) := by omega
    clear h
    go_enter Try.func7, Try.ntmps7
    go_wp2_with (first
      | (go_at_call 25; (with_reducible refine h25.mono ?_); rintro e w0 ⟨b, rfl, hb, rfl⟩; clear hb h25; cases b)
      | (go_at_call 9; (with_reducible refine (HAW.out _).mono ?_); rintro e w9 ⟨rfl, b9⟩))
    all_goals
      go_ret
      exact ⟨rfl, b9⟩
  · have e1 : ¬ (16 : Int) < (l.length : Int) := by omega
    have e2 : ¬ n < 0 := by omega
    clear h
    go_enter Try.func7, Try.ntmps7
    go_wp2_with (first
      | (go_at_call 25; (with_reducible refine h25.mono ?_); rintro e w0 ⟨b, rfl, hb, rfl⟩; clear hb h25; cases b)
      | (go_at_call 9; (with_reducible refine (HAW.out _).mono ?_); rintro e w9 ⟨rfl, b9⟩))
    all_goals
      go_ret
      exact ⟨rfl, b9⟩

set_option maxHeartbeats 16000000 in
set_option maxRecDepth 100000 in
theorem apart_main (fi n : Int) (l : List (List Int)) (lv : Value) (w : World) (hl : MatIn w l lv) (h16 : l.length ≤ 16) (hn0 : 0 ≤ n) (hn16 : n ≤ 16) :
    Calls Try.prog 7 #[.int .i64 fi, lv, .int .i64 n] w fun e w' => e = .returned (.bool true) ∧ Below w.heap.size w w' := by
  have h25 := frames25_any l lv w hl
  have HAW := Lib.hid awake_any
  have HL := Lib.hid hl
  obtain ⟨i0, hi, hz0, hz1, hz2⟩ := info_parts Try.info3
  obtain ⟨i1, hi1, hy0, hy1, hy2⟩ := info_parts Try.info39
  have HNEW : Hid (∀ x, Calls Try.prog 10 #[.int .i64 16, .int .i64 1, .int .i64 (fi % 65536)] x fun e w' => ∃ P R, e = .returned (.tuple #[.pointer (some ⟨P, 0, none⟩), .int .i64 0]) ∧ RingAt P R (g16 fi) w' ∧ (x.heap.size ≤ P ∧ x.heap.size ≤ R) ∧ Below x.heap.size x w') := Lib.hid fun x => (new_any 16 1 (fi % 65536) x).mono (by
    rintro e w' (⟨_, h⟩ | ⟨h, _⟩)
    · exact h
    · rw [g16_new] at h; cases h)
  have hA := and16 fi
  obtain ⟨a, ca, rfl, _, _, _⟩ := hl
  have e1 : ¬ (16 : Int) < (l.length : Int) := by omega
  have e2 : ¬ n < 0 := by omega
  have e3 : ¬ (16 : Int) < n := by omega
  go_enter Try.func7, Try.ntmps7
  go_upto_region 3 with (first
    | (go_at_call 25; (with_reducible refine h25.mono ?_); rintro e w0 ⟨b, rfl, hb, rfl⟩; clear hb; cases b)
    | (go_at_call 9; (with_reducible refine (HAW.out _).mono ?_); rintro e w9 ⟨rfl, b9⟩))
  · go_ret
    exact ⟨rfl, b9⟩
  clear h25
  go_upto_region 4 with (go_at_call 10; (try rw [hA]); (with_reducible refine (HNEW.out _).mono ?_); rintro e w1 ⟨P1, R1, rfl, r1, l1, b1⟩; have HR1 := Lib.hid r1; have HL1 := Lib.hid l1; have B1 := Lib.hid b1; clear r1 l1 b1)
  go_upto_region 7 with (go_at_call 10; (try rw [hA]); (with_reducible refine (HNEW.out _).mono ?_); rintro e w2 ⟨P2, R2, rfl, r2, l2, b2⟩; have HR2 := Lib.hid r2; have HL2 := Lib.hid l2; have HR1b := Lib.hid (HR1.out.below b2); have B2 := Lib.hid (Below.then B1.out (Nat.le_refl _) b2); clear r2 l2 b2)
  have HNE := Lib.hid (show ((P1 < w1.heap.size ∧ R1 < w1.heap.size) ∧ (P2 < w2.heap.size ∧ R2 < w2.heap.size)) ∧ ((P1 ≠ P2 ∧ P1 ≠ R2) ∧ (R1 ≠ P2 ∧ R1 ≠ R2)) ∧ ((w.heap.size ≤ P1 ∧ w.heap.size ≤ R1) ∧ (w.heap.size ≤ P2 ∧ w.heap.size ≤ R2)) ∧ w1.heap.size ≤ w2.heap.size from by
    have q1 := HR1.out.lt; have q2 := HR2.out.lt; have q3 := HL2.out; have q4 := HL1.out; have q5 := B1.out.size; have q6 := HR1b.out.lt
    exact ⟨⟨q1, q2⟩, ⟨⟨by omega, by omega⟩, ⟨by omega, by omega⟩⟩, ⟨q4, ⟨by omega, by omega⟩⟩, by have := B2.out.size; have := q3.1; have := q3.2; omega⟩)
  clear hA HNEW HR1 HL1 HL2 B1
  go_upto_region 8 with fail
  go_loop [11] (fun i => ∃ j : Nat, i = .int .i64 j ∧ j ≤ l.length ∧ ∀ k, k < j → frm 1 (l.getD k []) = true) (fun i => l.length - (intOf i).toNat)
  case atStart => exact ⟨0, rfl, Nat.zero_le _, fun k hk => absurd hk (Nat.not_lt_zero _)⟩
  case round =>
    obtain ⟨j, rfl, hj, hok⟩ := hrel
    have HOK := Lib.hid hok
    clear hok
    by_cases hlt : j < l.length
    · have w4 : (j : Int) < (l.length : Int) := by omega
      obtain ⟨a2, ca2, e2', hin2, _, _⟩ := HL.out.mono (Same.of_below B2.out)
      simp only [Value.slice.injEq, true_and] at e2'
      obtain ⟨rfl, rfl⟩ := e2'
      obtain ⟨bb, ob, u, rfl, hcj, hu⟩ := hin2 j hlt
      obtain ⟨fa, fc, rfl, hfin, hfl, _⟩ := hu
      obtain ⟨f, hf⟩ : ∃ f, l.getD j [] = f := ⟨_, rfl⟩
      rw [hf] at hcj hfin hfl
      have HF := Lib.hid hf
      clear hin2 hf
      by_cases h1 : f.length = 1
      · obtain ⟨bf, of', rfl, hcx, _⟩ := hfin 0 (by omega)
        obtain ⟨x, hx⟩ : ∃ x, f.getD 0 0 = x := ⟨_, rfl⟩
        rw [hx] at hcx
        simp only [Nat.add_zero] at hcx
        have HX := Lib.hid hx
        have HF1 := Lib.hid h1
        rw [h1] at hcj
        clear hfin hx h1
        by_cases hhi : (8388607 : Int) < x
        · go_wp2_with (go_at_call 9; (with_reducible refine (HAW.out _).mono ?_); rintro e w9 ⟨rfl, b9⟩)
          go_ret
          exact ⟨rfl, Below.then B2.out (Nat.le_refl _) b9⟩
        · by_cases hlo : x < (-8388607 : Int)
          · go_wp2_with (go_at_call 9; (with_reducible refine (HAW.out _).mono ?_); rintro e w9 ⟨rfl, b9⟩)
            go_ret
            exact ⟨rfl, Below.then B2.out (Nat.le_refl _) b9⟩
          · go_wp2_with fail
            go_round
            case rel =>
              refine ⟨j + 1, by go_num, by omega, fun k hk => ?_⟩
              by_cases e : k = j
              · subst e; rw [HF.out]
                refine frm_yes (by rw [HF1.out]; rfl) fun q hq => ?_
                obtain rfl : q = 0 := by have := HF1.out; omega
                rw [HX.out]; simp [smB]; omega
              · exact HOK.out k (by omega)
            case measure => simp [intOf]; omega
      · have h1b : ((f.length : Int) != 1) = true := by simp; omega
        have h1c : (f.length != 1) = true := by simpa using h1
        clear hfin
        go_wp2_with (go_at_call 9; (with_reducible refine (HAW.out _).mono ?_); rintro e w9 ⟨rfl, b9⟩)
        go_ret
        exact ⟨rfl, Below.then B2.out (Nat.le_refl _) b9⟩
    · have w4 : ¬ (j : Int) < (l.length : Int) := by omega
      have hfr : frms 1 l = true := all_yes_of' (d := []) fun k hk => HOK.out k (by omega)
      have HFR := Lib.hid hfr
      clear hfr HOK hlt hj
      go_upto_region 14 with fail
      clear w4
      obtain ⟨B, hB⟩ : ∃ B, w2.heap.size = B := ⟨_, rfl⟩
      have HBN := Lib.hid (show w.heap.size ≤ B ∧ w2.heap.size = B from ⟨by rw [← hB]; exact B2.out.size, hB⟩)
      go_loopw [12, 13] (fun v i wr => ∃ (j : Nat) (gs : List (Nat × Nat)), i = .int .i64 j ∧ j ≤ l.length ∧ gs.length = j ∧ Mn B wr gs (xsOf l) v ∧ Below B w2 wr) (fun _ i _ => l.length - (intOf i).toNat)
      case atStart => exact ⟨0, [], rfl, Nat.zero_le _, rfl, Mn.start _ _ _, Below.refl _ _⟩
      case round =>
        obtain ⟨j, gs, rfl, hj, hgs, hmn, hbw⟩ := hrel
        by_cases hlt : j < l.length
        · have w4 : (j : Int) < (l.length : Int) := by omega
          obtain ⟨a2, ca2, e2', hin2, _, _⟩ := HL.out.mono (Same.of_below (Below.then B2.out (Nat.le_refl _) (by rw [HBN.out.2]; exact hbw)))
          simp only [Value.slice.injEq, true_and] at e2'
          obtain ⟨rfl, rfl⟩ := e2'
          obtain ⟨bb, ob, u, rfl, hcj, hu⟩ := hin2 j hlt
          rw [one_row (all_at' (d := []) HFR.out hlt)] at hu
          obtain ⟨fa, fc, rfl, hfin, hfl, hfc⟩ := hu
          obtain ⟨bf, of', rfl, hcx, hI⟩ := hfin 0 (by simp)
          simp only [List.length_singleton, List.length_cons, List.length_nil, Nat.zero_add] at hcj hfc
          simp only [Nat.add_zero, List.getD_cons_zero] at hcx hI
          have hnews : ∀ i u, [Value.int .i64 (xsOf l j)][i]? = some u → (wr.alloc (.cells #[] 3)).cell? ((⟨bf, of', none⟩ : Addr).add i) = some u := fun i u hu => by
            match i with
            | 0 =>
              simp at hu; subst hu
              have := (Same.alloc wr (.cells #[] 3)).cell hcx
              simpa [Addr.add] using this
            | i + 1 => simp at hu
          have hown : (wr.alloc (.cells #[] 3)).ownsRow wr.heap.size 3 1 (.slice (some ⟨wr.heap.size, 0, none⟩) 0 0) 0 [] := World.ownsRow_made wr #[] 0 (Nat.le_refl _) (by simp) (by simp)
          have hcj2 := (Same.alloc wr (.cells #[] 3)).cell hcj
          have HN := Lib.hid hnews
          have HO := Lib.hid hown
          have HMN := Lib.hid hmn
          have HBW := Lib.hid hbw
          have hgsI := Lib.hid (And.intro hgs (by omega : gs.length ≤ 16))
          clear hin2 hfin hnews hown hmn hbw hgs hI
          go_wp2_with (at_builtin; refine wpList_append_moves rfl (.tmp 97) (.tmp 101) 39 rfl wr.heap.size 3 i0 _ 1 8 Try.underlying39 hi hz0 hz1 hz2 rfl (by decide) _ _ _ rfl HO.out ⟨bf, of', none⟩ 1 fc [.int .i64 (xsOf l j)] rfl rfl HN.out (by simp [Value.oneCell']) ?c1 (by omega) (by simp) ?_)
          case c1 => unfold maxLen; omega
          intro v2 w3 o2 g2 m2
          have o2' : w3.ownsRow wr.heap.size 3 1 v2 1 ([xsOf l j].map (Value.int .i64)) := (by simpa using o2)
          obtain ⟨q, cq, rfl, hcq, hrn⟩ := own_cells o2' (by omega) rfl
          have HB3 : Hid (Below wr.heap.size wr w3) := Lib.hid (((Below.refl _ wr).alloc (Nat.le_refl _) _).grown g2 (by simp) (fun k e => by cases e; exact Nat.le_refl _))
          have HRN := Lib.hid hrn
          have hcq2 := Lib.hid hcq
          have hbig : B ≤ wr.heap.size := (by rw [← HBN.out.2]; exact HBW.out.size)
          have hown2 : (w3.alloc (.cells #[.slice (some ⟨q, 0, none⟩) 1 cq] 39)).ownsRow B 39 1 u12 gs.length (outsM gs) := (owns_below HMN.out.own HB3.out).alloc _
          have HO2 := Lib.hid hown2
          clear o2 g2 m2 o2' hrn hcq hown2
          go_wp2_with (at_builtin; refine wpList_append_moves rfl (.tmp 96) (.tmp 103) 29 rfl B 39 i1 _ 1 24 Try.underlying29' hi1 hy0 hy1 hy2 rfl (by decide) u12 gs.length (outsM gs) rfl HO2.out ⟨w3.heap.size, 0, none⟩ 1 1 [.slice (some ⟨q, 0, none⟩) 1 cq] rfl rfl (cell_one_new _ _ _) (by simp [Value.oneCell']) ?d1 (by have := hgsI.out; omega) (by have := HB3.out.size; simp; omega) ?_)
          case d1 => have := hgsI.out; unfold maxLen; omega
          intro v4 w4' o4 g4 m4
          have HM4 := Lib.hid (HMN.out.step hbig HB3.out (by rw [hgsI.out.1]; exact HRN.out.congr (fun i hi => by have e : i = 0 := (by omega); subst e; rfl)) hcq2.out o4 g4 m4)
          have HB4 : Hid (Below B w2 w4') := Lib.hid ((HBW.out.trans (HB3.out.mono hbig)).trans (((Below.refl _ w3).alloc (by have := HB3.out.size; omega) _).grown g4 (by have := HB3.out.size; simp; omega) (fun k e => (HMN.out.own.lt k e).1)))
          clear o4 g4 m4
          go_wp2_with fail
          go_roundw
          case rel => exact ⟨j + 1, gs ++ [(q, cq)], by go_num, by omega, by rw [List.length_append, hgsI.out.1]; rfl, HM4.out, HB4.out⟩
          case measure => simp [intOf]; omega
        · have w4 : ¬ (j : Int) < (l.length : Int) := by omega
          obtain rfl : j = l.length := by omega
          have hgl := hgs
          have HM := Lib.hid hmn
          have HB3 := Lib.hid (show Below w.heap.size w wr from Below.then B2.out (Nat.le_refl _) (by rw [HBN.out.2]; exact hbw))
          have HS3 := Lib.hid (show B ≤ wr.heap.size from by rw [← HBN.out.2]; exact hbw.size)
          have hbw2 : Below w2.heap.size w2 wr := by rw [HBN.out.2]; exact hbw
          have HR1c := Lib.hid (HR1b.out.below hbw2)
          have HR2c := Lib.hid (HR2.out.below hbw2)
          have HPB := Lib.hid (show ((P1 < B ∧ R1 < B) ∧ (P2 < B ∧ R2 < B)) from by have := HNE.out; have := HBN.out.2; exact ⟨⟨by omega, by omega⟩, ⟨by omega, by omega⟩⟩)
          have hX : ∀ i, i < l.length → l.getD i [] = [xsOf l i] ∧ I64 (xsOf l i) := fun i hi => by
            have h1 := all_at' (d := []) HFR.out hi
            exact ⟨one_row h1, sm_I64 (frms_vals HFR.out i 0)⟩
          have HX := Lib.hid hX
          have hoff : ∀ y, Gw P1 R1 wr y → MatIn y l u12 := fun y hy => (HM.out.keep hy HPB.out.1.1 HPB.out.1.2).mat hgs h16 hX
          have hwr := writeM_any P1 R1 (g16 fi) l u12 wr HR1c.out (g16_ok fi) hoff (by rw [g16_room]; omega)
          rw [show writeR (g16 fi) l = (g16 fi).wrote l by unfold writeR; rw [if_pos (g16_writeK fi HFR.out)], show writeU (g16 fi) l = l.length by unfold writeU; rw [if_pos (g16_writeK fi HFR.out), g16_wrN fi h16], g16_writeK fi HFR.out] at hwr
          obtain ⟨p, c, hv, hcv, _⟩ := HM.out.outer
          rw [hgs] at hv
          have HGS := Lib.hid hgs
          clear hmn hbw hbw2 hX hoff hgl hgs hj
          subst hv
          go_upto_region 20 with (go_at_call 14; (with_reducible refine hwr.mono ?_); rintro e y4 ⟨rfl, r1, g1⟩; have HR1d := Lib.hid r1; have HG1 := Lib.hid g1; clear r1 g1 hwr)
          have HM4 := Lib.hid (HM.out.keep HG1.out HPB.out.1.1 HPB.out.1.2)
          have HR2d := Lib.hid (HR2c.out.keep HG1.out HNE.out.2.1.1.1.symm HNE.out.2.1.2.1.symm HNE.out.2.1.1.2.symm HNE.out.2.1.2.2.symm)
          have HB4 := Lib.hid (show Below w.heap.size w y4 from Gw.to_below HB3.out HG1.out HB3.out.size HNE.out.2.2.1.1.1 HNE.out.2.2.1.1.2)
          have HS4 := Lib.hid (Nat.le_trans HS3.out HG1.out.size)
          have hse := seeM_any P2 R2 (g16 fi) y4 HR2d.out (by show 16 ≤ 1024; decide)
          rw [g16_seen] at hse
          clear HM HR1c HR2c HB3 HG1 HS3
          go_upto_region 21 with (go_at_call 12; (with_reducible refine hse.mono ?_); rintro e y5 ⟨rfl, r2, g2⟩; have HR2e := Lib.hid r2; have HG2 := Lib.hid g2; clear r2 g2 hse)
          have hcl := claim_any P2 R2 (g16 fi) l.length y5 HR2e.out (by show 16 ≤ 1024; decide)
          obtain ⟨k1, k2, k3⟩ := g16_claim fi h16
          rw [k1, k2, k3] at hcl
          clear k1 k2 k3
          go_upto_region 24 with (go_at_call 29; (with_reducible refine hcl.mono ?_); rintro e y6 ⟨rfl, r2, g2⟩; have HR2f := Lib.hid r2; have HG3 := Lib.hid (HG2.out.trans g2); clear r2 g2 hcl)
          have HM6 := Lib.hid (HM4.out.keep HG3.out HPB.out.2.1 HPB.out.2.2)
          have HR1e := Lib.hid (HR1d.out.keep HG3.out HNE.out.2.1.1.1 HNE.out.2.1.1.2 HNE.out.2.1.2.1 HNE.out.2.1.2.2)
          have HB6 := Lib.hid (show Below w.heap.size w y6 from Gw.to_below HB4.out HG3.out HB4.out.size HNE.out.2.2.1.2.1 HNE.out.2.2.1.2.2)
          have HS6 := Lib.hid (Nat.le_trans HS4.out HG3.out.size)
          clear HM4 HR2d HR2e HB4 HG2 HG3 HS4 HR1d
          go_upto_region 25 with fail
          go_loopw [18] (fun i wr => ∃ j : Nat, i = .int .i64 j ∧ j ≤ l.length ∧ (RingAt P2 R2 (wrG (g16 fi) l l.length j) wr ∧ RingAt P1 R1 ((g16 fi).wrote l) wr) ∧ Mn B wr gs (fun q => if q < j then 77 else xsOf l q) (.slice p l.length c) ∧ Below w.heap.size w wr ∧ B ≤ wr.heap.size) (fun i _ => l.length - (intOf i).toNat)
          case atStart => exact ⟨0, rfl, Nat.zero_le _, ⟨HR2f.out, HR1e.out⟩, (by simpa using HM6.out), HB6.out, HS6.out⟩
          case round =>
            clear HR2f HR1e HM6 HB6 HS6
            obtain ⟨j, rfl, hj, ⟨hr2, hr1⟩, hm, hb, hs⟩ := hrel
            by_cases hlt : j < l.length
            · have w4' : (j : Int) < (l.length : Int) := by omega
              obtain ⟨p', c', hv', _, ho⟩ := hm.outer
              rw [HGS.out] at hv'
              simp only [Value.slice.injEq, true_and] at hv'
              obtain ⟨rfl, rfl⟩ := hv'
              obtain ⟨bo, rfl, hcell⟩ := ho j (by rw [HGS.out]; exact hlt)
              have hrow := hm.at_ (i := j) (by rw [HGS.out]; exact hlt) (by simpa using (HX.out j hlt).2)
              simp only [Nat.lt_irrefl, if_false] at hrow
              rw [← (HX.out j hlt).1] at hrow
              obtain ⟨u1, u2⟩ := g16_put fi HFR.out hlt
              have hpm := putM_any P2 R2 (wrG (g16 fi) l l.length j) j (l.getD j []) _ wr hr2 (wrG_ok (g16_ok fi) HFR.out _ _) hrow
              rw [u1, u2] at hpm
              have HMj := Lib.hid hm
              have HR1j := Lib.hid hr1
              have HBj := Lib.hid hb
              have HSj := Lib.hid hs
              clear hm hr1 hr2 hb hs u1 u2 ho hrow
              go_upto_region 29 with (go_at_call 30; (with_reducible refine hpm.mono ?_); rintro e y7 ⟨rfl, r2, g2⟩; have HR2k := Lib.hid r2; have HGk := Lib.hid g2; clear r2 g2 hpm)
              have HMk := Lib.hid (HMj.out.keep HGk.out HPB.out.2.1 HPB.out.2.2)
              obtain ⟨hrw, _, _⟩ := HMk.out.row j (by rw [HGS.out]; exact hlt)
              have hcx := hrw.cell 0 (by omega)
              have hzx := hrw.free 0
              obtain ⟨p', c', hv', _, ho⟩ := HMk.out.outer
              rw [HGS.out] at hv'
              simp only [Value.slice.injEq, Option.some.injEq, true_and] at hv'
              obtain ⟨hv1, rfl⟩ := hv'
              obtain ⟨bo2, hv2, hcell2⟩ := ho j (by rw [HGS.out]; exact hlt)
              rw [← hv1] at hv2
              simp only [Option.some.injEq, Addr.mk.injEq, and_true] at hv2
              subst hv2
              have HMp := Lib.hid (HMk.out.put (i := j) (by rw [HGS.out]; exact hlt) 77)
              have hgl : B ≤ (gAt gs j).1 := hrw.lo
              have HR2p := Lib.hid (HR2k.out.of_blocks (w' := y7.setCell ⟨(gAt gs j).1, 0, none⟩ (.int .i64 77)) (blk_setCell_other _ _ _ _ (by have := HPB.out; show P2 ≠ (gAt gs j).1; omega)) (blk_setCell_other _ _ _ _ (by have := HPB.out; show R2 ≠ (gAt gs j).1; omega)))
              have HR1p := Lib.hid ((HR1j.out.keep HGk.out HNE.out.2.1.1.1 HNE.out.2.1.1.2 HNE.out.2.1.2.1 HNE.out.2.1.2.2).of_blocks (w' := y7.setCell ⟨(gAt gs j).1, 0, none⟩ (.int .i64 77)) (blk_setCell_other _ _ _ _ (by have := HPB.out; show P1 ≠ (gAt gs j).1; omega)) (blk_setCell_other _ _ _ _ (by have := HPB.out; show R1 ≠ (gAt gs j).1; omega)))
              have HBp := Lib.hid (show Below w.heap.size w (y7.setCell ⟨(gAt gs j).1, 0, none⟩ (.int .i64 77)) from (Gw.to_below HBj.out HGk.out HBj.out.size HNE.out.2.2.1.2.1 HNE.out.2.2.1.2.2).setCell (by have := HBN.out.1; show w.heap.size ≤ (gAt gs j).1; omega) _)
              have HSp := Lib.hid (show B ≤ (y7.setCell ⟨(gAt gs j).1, 0, none⟩ (.int .i64 77)).heap.size by have := HSj.out; have := HGk.out.size; simp; omega)
              generalize (gAt gs j).1 = q1 at *
              generalize (gAt gs j).2 = q2 at *
              clear hrw ho hv1 hcell
              go_wp2_with fail
              go_roundw
              case rel =>
                refine ⟨j + 1, by go_num, by omega, ⟨HR2p.out, HR1p.out⟩, ?_, HBp.out, HSp.out⟩
                have := HMp.out
                have e : (fun q => if q < j + 1 then (77 : Int) else xsOf l q) = fun q => if q = j then 77 else if q < j then 77 else xsOf l q := by
                  funext q
                  by_cases e1 : q = j
                  · subst e1; simp
                  · by_cases e2 : q < j
                    · rw [if_pos (by omega), if_neg e1, if_pos e2]
                    · rw [if_neg (by omega), if_neg e1, if_neg e2]
                rw [e]; exact this
              case measure => simp [intOf]; omega
            · have w4' : ¬ (j : Int) < (l.length : Int) := by omega
              obtain rfl : j = l.length := by omega
              have HR2g := Lib.hid hr2
              have HR1g := Lib.hid hr1
              have HBg := Lib.hid hb
              clear hm hs hr2 hr1 hb hj hlt
              have hco := commit_any P2 R2 (wrG (g16 fi) l l.length l.length) l.length wr HR2g.out
              obtain ⟨k1, k2⟩ := g16_commit fi h16
              rw [k1, k2] at hco
              clear k1 k2
              go_upto_region 32 with (go_at_call 16; (with_reducible refine hco.mono ?_); rintro e y8 ⟨rfl, r2, g2⟩; have HR2h := Lib.hid r2; have HG8 := Lib.hid g2; clear r2 g2 hco)
              have HR1h := Lib.hid (HR1g.out.keep HG8.out HNE.out.2.1.1.1 HNE.out.2.1.1.2 HNE.out.2.1.2.1 HNE.out.2.1.2.2)
              have HB8 := Lib.hid (show Below w.heap.size w y8 from Gw.to_below HBg.out HG8.out HBg.out.size HNE.out.2.2.1.2.1 HNE.out.2.2.1.2.2)
              obtain ⟨k, hk⟩ : ∃ k : Nat, min n (l.length : Int) = (k : Int) := ⟨(min n (l.length : Int)).toNat, by omega⟩
              have hkl : k ≤ l.length := by omega
              have hkn : (k : Int) ≤ n := by omega
              have HK := Lib.hid (And.intro hk hkl)
              have hfill := g16_fill fi h16
              have hok1 := g16_wok fi HFR.out
              have hre := readM_any P1 R1 ((g16 fi).wrote l) n y8 HR1h.out hok1
              have hsk : skipK ((g16 fi).wrote l) n = 0 := by unfold skipK; rw [if_neg (by omega), if_neg (by show ¬ false = true; decide)]
              have hrn : readN ((g16 fi).wrote l) n = k := by unfold readN; rw [hfill]; omega
              rw [show readL ((g16 fi).wrote l) n = l.take k by unfold readL; rw [if_pos hsk, hrn, g16_frL fi h16 hkl], hsk] at hre
              clear hsk hrn HR2g HR1g HBg HG8
              go_upto_region 33 with (go_at_call 13; (with_reducible refine hre.mono ?_); rintro e y9 ⟨u9, rfl, m9, r1, g1⟩; have HKEEP : Hid (∀ y, Gw P2 R2 y9 y → MatIn y (l.take k) u9) := Lib.hid (fun y hy => m9 y (fun b hb hlt => hy.block b hlt (by have := HR2h.out.lt; omega) (by have := HR2h.out.lt; omega))); have HG9 := Lib.hid g1; clear m9 r1 g1 hre)
              have HR2i := Lib.hid (HR2h.out.keep HG9.out HNE.out.2.1.1.1.symm HNE.out.2.1.2.1.symm HNE.out.2.1.1.2.symm HNE.out.2.1.2.2.symm)
              have HB9 := Lib.hid (show Below w.heap.size w y9 from Gw.to_below HB8.out HG9.out HB8.out.size HNE.out.2.2.1.1.1 HNE.out.2.2.1.1.2)
              have hlo := lookM_any P2 R2 ((g16 fi).wrote l) y9 HR2i.out
              have hlf : ((g16 fi).wrote l).looked.filled = l.length := hfill
              rw [hlf] at hlo
              clear hlf HR2h HB8 HR1h
              go_upto_region 34 with (go_at_call 31; (with_reducible refine hlo.mono ?_); rintro e y10 ⟨rfl, r2, g2⟩; have HR2j := Lib.hid r2; have HG10 := Lib.hid g2; clear r2 g2 hlo)
              have hta := take_any P2 R2 ((g16 fi).wrote l).looked n y10 HR2j.out (by show 16 ≤ 1024; decide)
              have htk : takeK ((g16 fi).wrote l).looked n = 0 := by unfold takeK; rw [if_neg (by omega), if_neg (by show ¬ false = true; decide)]
              have hg3 : takeR ((g16 fi).wrote l).looked n = ((g16 fi).wrote l).looked.take n := by unfold takeR; rw [if_pos htk]
              have htu : takeU ((g16 fi).wrote l).looked n = k := by
                unfold takeU; rw [if_pos htk, show ((g16 fi).wrote l).looked.filled = ((g16 fi).wrote l).fill from rfl, hfill, hk]
              rw [htk, hg3, htu] at hta
              have hrn3 : (((g16 fi).wrote l).looked.take n).rn = k := by
                show min n ((g16 fi).wrote l).looked.filled = k
                rw [show ((g16 fi).wrote l).looked.filled = ((g16 fi).wrote l).fill from rfl, hfill, hk]
              have hrh3 : (((g16 fi).wrote l).looked.take n).rh = true := rfl
              have hok3 : (((g16 fi).wrote l).looked.take n).Ok := ⟨hok1.s1, hok1.s2, hok1.c1, hok1.c2, hok1.wc, hok1.rc, hok1.vals⟩
              have hfr3 : ∀ j, j < l.length → (((g16 fi).wrote l).looked.take n).frame (((((g16 fi).wrote l).looked.take n).rc + (j : Int)) % 65536) = l.getD j [] := fun j hj => g16_frJ fi h16 hj
              generalize ((g16 fi).wrote l).looked.take n = g3 at *
              have HG3 := Lib.hid (And.intro (And.intro hrn3 hrh3) (And.intro hok3 hfr3))
              clear htk hg3 htu hrn3 hrh3 hok3 hfr3 hfill hok1 HR2i
              go_upto_region 35 with (go_at_call 32; (with_reducible refine hta.mono ?_); rintro e y11 ⟨rfl, r2, g2⟩; have HR2k := Lib.hid r2; have HG11 := Lib.hid (HG10.out.trans g2); clear r2 g2 hta)
              have HB11 := Lib.hid (show Below w.heap.size w y11 from Gw.to_below HB9.out HG11.out HB9.out.size HNE.out.2.2.1.2.1 HNE.out.2.2.1.2.2)
              have hM9 : MatIn y11 (l.take k) u9 := by
                exact HKEEP.out _ HG11.out
              clear HG10 HG11
              have hLk := mat_take (HL.out.mono (Same.of_below HB11.out)) HK.out.2
              have hsm := sameMatrix_any (l.take k) (l.take k) u9 _ y11 hM9 hLk
              rw [show decide (l.take k = l.take k) = true from decide_eq_true rfl] at hsm
              obtain ⟨a9, c9, rfl, _, _, _⟩ := hM9
              rw [show (l.take k).length = k by rw [List.length_take]; have := HK.out.2; omega] at hsm ⊢
              have hsl := fun w => slice_pre (a := a) (L := l.length) (cap := ca) (n := k) (by have := HK.out.2; omega) w
              have hmn : ((k : Int) != min n (l.length : Int)) = false := by rw [HK.out.1]; simp
              have hkk : ((k : Int) != (k : Int)) = false := by simp
              clear hLk HKEEP
              go_upto_region 37 with (go_at_call 28; (with_reducible refine hsm.mono ?_); rintro e y12 ⟨rfl, b12⟩; have HB12 := Lib.hid (Below.then HB11.out (Nat.le_refl _) b12); have HR2l := Lib.hid (HR2k.out.below b12); clear b12 hsm)
              clear hsl hmn hkk HB11
              go_upto_region 38 with fail
              go_loopw [21] (fun i wr => ∃ j : Nat, i = .int .i64 j ∧ j ≤ k ∧ RingAt P2 R2 g3 wr ∧ Below w.heap.size w wr) (fun i _ => k - (intOf i).toNat)
              case atStart => exact ⟨0, rfl, Nat.zero_le _, HR2l.out, HB12.out⟩
              case round =>
                clear HR2l HB12
                obtain ⟨j, rfl, hj, hr2, hb⟩ := hrel
                have HR2m := Lib.hid hr2
                have HBm := Lib.hid hb
                clear hr2 hb
                by_cases hlt : j < k
                · have x4 : (j : Int) < (k : Int) := by omega
                  have hjl : j < l.length := by have := HK.out.2; omega
                  have hgk : getK g3 j = 0 := by unfold getK atK; rw [HG3.out.1.1, HG3.out.1.2, if_neg (by omega), if_neg (by decide), if_pos x4]
                  have hgl : getL g3 j = [xsOf l j] := by unfold getL; rw [if_pos hgk, HG3.out.2.2 j hjl, (HX.out j hjl).1]
                  have HGET : Hid (∀ x, RingAt P2 R2 g3 x → Calls Try.prog 15 #[.pointer (some ⟨P2, 0, none⟩), .int .i64 j] x (GetM [xsOf l j] 0 x)) := Lib.hid fun x hx => by
                    have := getM_any P2 R2 g3 j x hx HG3.out.2.1
                    rwa [hgk, hgl] at this
                  have hg1 := HGET.out wr HR2m.out
                  clear hgk hgl
                  go_upto_region 41 with (go_at_call 15; (with_reducible refine hg1.mono ?_); rintro e z1 ⟨u, rfl, hu, hb1⟩; have HU := Lib.hid hu; have HZ1 := Lib.hid hb1; clear hu hb1 hg1)
                  have HBz1 := Lib.hid (Below.then HBm.out (Nat.le_refl _) HZ1.out)
                  obtain ⟨a2, ca2, e2', hin2, _, _⟩ := HL.out.mono (Same.of_below HBz1.out)
                  simp only [Value.slice.injEq, true_and] at e2'
                  obtain ⟨rfl, rfl⟩ := e2'
                  obtain ⟨bb, ob, ul, rfl, hcj, hul⟩ := hin2 j hjl
                  rw [(HX.out j hjl).1] at hul
                  have hsr := sameRow_any [xsOf l j] [xsOf l j] u ul z1 HU.out.here hul
                  rw [show decide ([xsOf l j] = [xsOf l j]) = true from decide_eq_true rfl] at hsr
                  obtain ⟨al, cl, rfl, _, _, _⟩ := hul
                  obtain ⟨q, cq, rfl, hcq, hrn⟩ := own_cells HU.out.1 (by simp) rfl
                  have hqz := hrn.lt
                  have hqlo := hrn.lo
                  have HRN := Lib.hid hrn
                  have hjI : (j : Int) < (l.length : Int) := by omega
                  simp only [List.length_singleton, List.length_cons, List.length_nil, Nat.zero_add] at hcj hsr hcq ⊢
                  clear hin2 hrn
                  go_upto_region 43 with (go_at_call 33; (with_reducible refine hsr.mono ?_); rintro e z2 ⟨rfl, hb2⟩; have HZ2 := Lib.hid hb2; clear hb2 hsr)
                  have hrn2 := HRN.out.of_block (HZ2.out.block q hqz) HZ2.out.size
                  have hcx := hrn2.cell 0 (by simp)
                  have hzx := hrn2.free 0
                  have HR2n := Lib.hid ((HR2m.out.below HZ1.out).below HZ2.out)
                  have HR2o : Hid (RingAt P2 R2 g3 (z2.setCell ⟨q, 0, none⟩ (.int .i64 78))) := Lib.hid (HR2n.out.of_blocks (blk_setCell_other _ _ _ _ (by have := HR2m.out.lt; show P2 ≠ q; omega)) (blk_setCell_other _ _ _ _ (by have := HR2m.out.lt; show R2 ≠ q; omega)))
                  have HBo : Hid (Below w.heap.size w (z2.setCell ⟨q, 0, none⟩ (.int .i64 78))) := Lib.hid ((Below.then HBz1.out (Nat.le_refl _) HZ2.out).setCell (by have := HBm.out.size; show w.heap.size ≤ q; omega) _)
                  have hg2 := HGET.out _ HR2o.out
                  clear hrn2 hcj
                  go_upto_region 45 with (go_at_call 15; (with_reducible refine hg2.mono ?_); rintro e z3 ⟨u3, rfl, hu, hb1⟩; have HU3 := Lib.hid hu; have HZ3 := Lib.hid hb1; clear hu hb1 hg2)
                  have HBz3 := Lib.hid (Below.then HBo.out (Nat.le_refl _) HZ3.out)
                  obtain ⟨a2, ca2, e2', hin2, _, _⟩ := HL.out.mono (Same.of_below HBz3.out)
                  simp only [Value.slice.injEq, Option.some.injEq, true_and] at e2'
                  obtain ⟨rfl, rfl⟩ := e2'
                  obtain ⟨bb2, ob2, ul, hbo, hcj, hul⟩ := hin2 j hjl
                  simp only [Option.some.injEq, Addr.mk.injEq, and_true] at hbo
                  obtain ⟨rfl, rfl⟩ := hbo
                  rw [(HX.out j hjl).1] at hul
                  have hsr := sameRow_any [xsOf l j] [xsOf l j] u3 ul z3 HU3.out.here hul
                  rw [show decide ([xsOf l j] = [xsOf l j]) = true from decide_eq_true rfl] at hsr
                  obtain ⟨al, cl, rfl, _, _, _⟩ := hul
                  obtain ⟨q3, cq3, rfl, hcq3, _⟩ := own_cells HU3.out.1 (by simp) rfl
                  simp only [List.length_singleton, List.length_cons, List.length_nil, Nat.zero_add] at hcj hsr hcq3 ⊢
                  clear hin2 hcx hzx
                  go_wp2_with (go_at_call 33; (with_reducible refine hsr.mono ?_); rintro e z4 ⟨rfl, hb2⟩; have HZ4 := Lib.hid hb2; clear hb2 hsr)
                  go_roundw
                  case rel => exact ⟨j + 1, by go_num, by omega, (HR2o.out.below HZ3.out).below HZ4.out, Below.then HBz3.out (Nat.le_refl _) HZ4.out⟩
                  case measure => simp [intOf]; omega
                · have x4 : ¬ (j : Int) < (k : Int) := by omega
                  have hdn := done_any P2 R2 g3 k wr HR2m.out
                  have hdk : doneK g3 k = 0 := by unfold doneK endK; rw [HG3.out.1.1, HG3.out.1.2, if_neg (by omega), if_neg (by decide), if_pos (by omega)]
                  rw [hdk] at hdn
                  clear hdk
                  go_wp2_with (first
                    | (go_at_call 17; (with_reducible refine hdn.mono ?_); rintro e z1 ⟨rfl, r2, g2⟩; have HBd := Lib.hid (show Below w.heap.size w z1 from Gw.to_below HBm.out g2 HBm.out.size HNE.out.2.2.1.2.1 HNE.out.2.2.1.2.2); clear r2 g2 hdn)
                    | (go_at_call 9; (with_reducible refine (HAW.out _).mono ?_); rintro e z9 ⟨rfl, b9⟩; have HB9' := Lib.hid (Below.then HBd.out (Nat.le_refl _) b9); clear b9))
                  go_ret
                  exact ⟨rfl, HB9'.out⟩
theorem apartLaw_any (fi n : Int) (l : List (List Int)) (lv : Value) (w : World) (hl : MatIn w l lv) :
    Calls Try.prog 7 #[.int .i64 fi, lv, .int .i64 n] w fun e w' => e = .returned (.bool true) ∧ Below w.heap.size w w' := by
  by_cases h : 16 < l.length
  · exact apart_dark fi n l lv w hl (.inl h)
  · by_cases h2 : n < 0 ∨ 16 < n
    · exact apart_dark fi n l lv w hl (.inr ⟨by omega, h2⟩)
    · exact apart_main fi n l lv w hl (by omega) (by omega) (by omega)
end Go.Proofs.Ytgcohmlapgnbdaa
