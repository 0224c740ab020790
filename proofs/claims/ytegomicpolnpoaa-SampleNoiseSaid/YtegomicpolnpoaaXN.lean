/- SampleNoise's law where all fits. -/
import Derived.Test.YtegomicpolnpoaaXM
import Derived.StillTailTactics
namespace Go.Proofs.Ytegomicpolnpoaa
open Go.RowKit Go.Deep Go.Shelf

set_option maxRecDepth 100000 in
theorem above_bigN (n : Int) (h1 : -1099511627776 ≤ n) (h2 : n ≤ 1099511627776) (w : World) : Calls Try.prog 28 #[.int .i64 n] w fun e w' => e = .returned (.int .i64 (max n (-n))) ∧ w = w' := by
  go_enter Try.func28, Try.ntmps28
  go_wp2_with fail
  go_ret
  exact ⟨rfl, rfl⟩

set_option maxHeartbeats 8000000 in
set_option maxRecDepth 100000 in
theorem noise_main (e : Nat) (h1 : 1 ≤ e) (h4 : e ≤ 4) (seed : Int) (m : List (List Int)) (v : Value) (w : World) (hM : MatIn w m v) (hv : validB m = true) (hK : dithE e seed m.length = 0) :
    Calls Try.prog 7 #[.int .i64 e, .int .i64 seed, v] w fun y w' => y = .returned (.bool true) ∧ Below w.heap.size w w' := by
  have h19 := light_any m v w hM
  have hva := refValidBlock_any m v w hM
  have HAW := Lib.hid awake_any
  obtain ⟨p1, p2, p3, p4⟩ := validB_parts hv
  have hsz := size_small (e := e) ⟨p1, p2, p3, p4⟩ h1 h4
  have HN1 := Lib.hid fun x => newD_zero (sh := false) hK x
  have HN2 := Lib.hid fun x => newD_zero (sh := true) hK x
  have HM := Lib.hid hM
  have HV := Lib.hid hv
  have HE := Lib.hid (And.intro h1 h4)
  rw [hv] at hva
  obtain ⟨r, hr⟩ : ∃ r, m.length = r := ⟨_, rfl⟩
  obtain ⟨c, hc⟩ : ∃ c, cols m = c := ⟨_, rfl⟩
  have HRC := Lib.hid (And.intro hr hc)
  obtain ⟨s0, hs0⟩ : ∃ s0 : Int × List Int, (seed, List.replicate r 0) = s0 := ⟨_, rfl⟩
  have hz0 : ∀ k, s0.2.getD k 0 = 0 := fun k => by rw [← hs0]; simp [List.getD, List.getElem?_replicate]; split <;> rfl
  obtain ⟨S, hS⟩ : ∃ S, dBytes e false false m s0 = S := ⟨_, rfl⟩
  obtain ⟨T, hT⟩ : ∃ T, bytesOf e false m = T := ⟨_, rfl⟩
  have hSs : S.size = c * r * wid e := by rw [← hS]; unfold dBytes; rw [laidL_size, hc, hr, Nat.mul_comm]
  have hTs : T.size = c * r * wid e := by rw [← hT, bytesOf_size, hc, hr, Nat.mul_comm r c]
  have hON : ∀ a b, a < r → b < c → -1 ≤ lvB e r S a b - lvB e r T a b ∧ lvB e r S a b - lvB e r T a b ≤ 1 := fun a b ha hb => by
    have := noise_one h1 h4 (m := m) hz0 p4 (a := a) (b := b) (by rw [hr]; exact ha) (by rw [hc]; exact hb)
    rw [hS, hT, hr] at this
    exact this
  have HEN := Lib.hid fun x (hx : MatIn x m v) => enc_as (n := e) (p := false) (m := m) (v := v) (S := T) (k := 0) (by unfold encA; rw [hv, if_pos rfl, if_pos (by simp [encB]; omega), Int.toNat_natCast, hT]) x hx
  have HL1 := Lib.hid fun x => levels_any (e := e) (r := r) (c := c) h1 (by omega) (by omega) (by omega) (by omega) S hSs x
  have HL2 := Lib.hid fun x => levels_any (e := e) (r := r) (c := c) h1 (by omega) (by omega) (by omega) (by omega) T hTs x
  have HF := Lib.hid fun a b => And.intro (lvlR_bd (e := e) h1 (by omega) (S.extract ((b * r + a) * wid e) ((b * r + a) * wid e + wid e))) (lvlR_bd (e := e) h1 (by omega) (T.extract ((b * r + a) * wid e) ((b * r + a) * wid e + wid e)))
  have HON := Lib.hid hON
  have HB8 := Lib.hid (show r ≤ 8 ∧ c ≤ 4096 ∧ 1 ≤ r by omega)
  have HSS := Lib.hid (And.intro hS hs0)
  obtain ⟨a, ca, rfl, _, _, _⟩ := id hM
  have e1 : ¬ (e : Int) < 1 := by omega
  have e2 : ¬ (4 : Int) < (e : Int) := by omega
  rw [hr] at hva h19 HN1 HN2 HEN HM ⊢
  rw [hs0] at HN1 HN2
  clear hM hv hK p1 p2 p3 p4 hsz hr hc hs0 hz0 hS hT hSs hTs hON h1 h4
  go_enter Try.func7, Try.ntmps7
  go_upto_region 3 with (first
    | (go_at_call 19; (with_reducible refine h19.mono ?_); rintro y w1 ⟨sb, rfl, rfl⟩; cases sb)
    | (go_at_call 42; (with_reducible refine hva.mono ?_); rintro y w1 ⟨rfl, hb1⟩; have HB1 := Lib.hid hb1; clear hb1)
    | (go_at_call 18; (with_reducible refine (HAW.out _).mono ?_); rintro y wz ⟨rfl, hbz⟩; have HZ := Lib.hid hbz; clear hbz))
  · go_wp2_with (go_at_call 18; (with_reducible refine (HAW.out _).mono ?_); rintro y wz ⟨rfl, hbz⟩; have HZ := Lib.hid hbz; clear hbz)
    go_ret
    exact ⟨rfl, HZ.out⟩
  · have HM1 : Hid (∀ X, Below w1.heap.size w1 X → MatIn X m (.slice a r ca)) := Lib.hid fun X hX => HM.out.mono (Same.of_below (HB1.out.trans (hX.mono HB1.out.size)))
    go_upto_region 9 with (first
      | (go_at_call 36; (with_reducible refine (HN1.out _).mono ?_); rintro y w2 ⟨D1, F1, rfl, ⟨g1, g2, hS1⟩, hb2⟩; have HD1 := Lib.hid (And.intro (And.intro g1 g2) hS1); have HB2 := Lib.hid hb2; clear hb2 g1 g2 hS1)
      | (go_at_call 36; (with_reducible refine (HN2.out _).mono ?_); rintro y w3 ⟨D2, F2, rfl, ⟨g1, g2, hS2⟩, hb3⟩; have HD2 := Lib.hid (And.intro (And.intro g1 g2) hS2); have HB3 := Lib.hid hb3; clear hb3 g1 g2 hS2))
    have HB13 : Hid (Below w1.heap.size w1 w3) := Lib.hid (HB2.out.trans (HB3.out.mono HB2.out.size))
    have hS13 : DS D1 F1 r e false s0 w3 := HD1.out.2.keep (HB3.out.block _ HD1.out.2.top.lt) (HB3.out.block _ HD1.out.2.row.lt)
    have hd1 := dencode_as HE.out.1 HE.out.2 hS13 HRC.out.1 (fun X hX => HM1.out X (HB13.out.trans hX)) HV.out ⟨HD1.out.1.1, HD1.out.2.top.lt⟩ ⟨HD1.out.1.2, HD1.out.2.row.lt⟩ HB3.out.size
    rw [HSS.out.1] at hd1
    clear hS13
    go_upto_region 10 with (go_at_call 38; (with_reducible refine hd1.mono ?_); rintro y w4 ⟨rfl, _, hk4⟩; have HK4 := Lib.hid hk4; clear hk4 hd1)
    have HB14 : Hid (Below w1.heap.size w1 w4) := Lib.hid (HB13.out.trans HK4.out.1)
    go_upto_region 11 with (go_at_call 20; (with_reducible refine (HEN.out _ (HM1.out _ HB14.out)).mono ?_); rintro y w5 ⟨rfl, hb5⟩; have HB5 := Lib.hid hb5; clear hb5)
    have HK5 : Hid (∀ k o, w2.heap.size ≤ k → w3.heap[k]? = some o → o.isCells = true → w5.heap[k]? = some o) := Lib.hid fun k o h1 h2 h3 => by
      have h9 := HK4.out.2 k o h1 h2 h3
      exact (HB5.out.block k (Array.getElem?_eq_some_iff.1 h9).1).trans h9
    have hS25 : DS D2 F2 r e true s0 w5 := by
      obtain ⟨o1, q1, q2⟩ := rowIs_cells HD2.out.2.top
      obtain ⟨o2, q3, q4⟩ := rowIs_cells HD2.out.2.row
      exact HD2.out.2.keep ((HK5.out _ o1 HD2.out.1.1 q1 q2).trans q1.symm) ((HK5.out _ o2 HD2.out.1.2 q3 q4).trans q3.symm)
    have HB15 : Hid (Below w1.heap.size w1 w5) := Lib.hid (HB14.out.trans (HB5.out.mono HB14.out.size))
    have hd2 := dencode_as (n0 := w2.heap.size) (Bd := w3.heap.size) HE.out.1 HE.out.2 hS25 HRC.out.1 (fun X hX => HM1.out X (HB15.out.trans (hX.mono HB2.out.size))) HV.out ⟨HD2.out.1.1, HD2.out.2.top.lt⟩ ⟨HD2.out.1.2, HD2.out.2.row.lt⟩ (Nat.le_trans HK4.out.1.size HB5.out.size)
    clear hS25
    go_upto_region 12 with (go_at_call 38; (with_reducible refine hd2.mono ?_); rintro y w6 ⟨rfl, hS6, hk6⟩; have HS6 := Lib.hid hS6; have HK6 := Lib.hid hk6; clear hk6 hd2 hS6)
    have HB16 : Hid (Below w1.heap.size w1 w6) := Lib.hid (HB15.out.trans (HK6.out.1.mono HB2.out.size))
    go_upto_region 18 with (first
      | (go_at_call 33; (with_reducible refine (HL1.out _).mono ?_); rintro y w7 ⟨px, cx, rfl, hx, hb7⟩; have HX := Lib.hid hx; have HB7 := Lib.hid hb7; clear hx hb7)
      | (go_at_call 33; (with_reducible refine (HL2.out _).mono ?_); rintro y w8 ⟨py, cy, rfl, hy, hb8⟩; have HY := Lib.hid hy; have HB8' := Lib.hid hb8; clear hy hb8))
    have HX8 : Hid (MatIn w8 (tabM r c (lvB e r S)) (.slice px r cx)) := Lib.hid (HX.out.mono (Same.of_below HB8'.out))
    have HD : Hid (∀ q k, q < r → k < c → (wrap64 (lvB e r S q k - lvB e r T q k) = lvB e r S q k - lvB e r T q k ∧ -1099511627776 ≤ lvB e r S q k - lvB e r T q k ∧ lvB e r S q k - lvB e r T q k ≤ 1099511627776) ∧ ¬ 1 < max (lvB e r S q k - lvB e r T q k) (-(lvB e r S q k - lvB e r T q k))) := Lib.hid fun q k hq hk => by
      have h := HON.out q k hq hk
      generalize lvB e r S q k - lvB e r T q k = d at *
      exact ⟨⟨by unfold wrap64; omega, by omega, by omega⟩, by omega⟩
    generalize lvB e r S = G1 at *
    generalize lvB e r T = G2 at *
    go_wp2_with fail
    go_loopw [17] (fun i wr => ∃ q : Nat, i = .int .i64 q ∧ q ≤ r ∧ Below w8.heap.size w8 wr) (fun i _ => r - (RowKit.intOf i).toNat)
    case atStart => exact ⟨0, rfl, Nat.zero_le _, Below.refl _ _⟩
    case round =>
      obtain ⟨q, rfl, hq, hb⟩ := hrel
      have HW := Lib.hid hb
      clear hb
      by_cases hlt : q < r
      · have w4 : (q : Int) < (r : Int) := Int.ofNat_lt.2 hlt
        have w5 : (0 : Int) ≤ (q : Int) := Int.natCast_nonneg _
        obtain ⟨b1, o1, ra1, rc1, rfl, k1, _⟩ := tab_row (HX8.out.mono (Same.of_below HW.out)) hlt
        obtain ⟨b2, o2, ra2, rc2, rfl, k2, _⟩ := tab_row (HY.out.mono (Same.of_below HW.out)) hlt
        obtain ⟨g5, g6, gm⟩ := step_w (E := r) hlt (by have := HB8.out; omega)
        have HG := Lib.hid (And.intro (And.intro g5 g6) gm)
        have HLT := Lib.hid hlt
        clear g5 g6 gm
        go_upto_region 21 with fail
        go_quiet (fail)
        go_upto_region 23 with fail
        obtain ⟨W9, hW9⟩ : ∃ W9, wr.drewN nq = W9 := ⟨_, rfl⟩
        have HW9 : Hid (Below w8.heap.size w8 W9) := Lib.hid (by rw [← hW9]; exact below_drewN HW.out nq)
        rw [hW9]
        clear hW9 k1 k2
        go_wp2_with fail
        go_loopw [18] (fun i wx => ∃ k : Nat, i = .int .i64 k ∧ k ≤ c ∧ Below w8.heap.size w8 wx) (fun i _ => c - (RowKit.intOf i).toNat)
        case atStart => exact ⟨0, rfl, Nat.zero_le _, HW9.out⟩
        case round =>
          obtain ⟨k, rfl, hk, hb⟩ := hrel
          have HWX := Lib.hid hb
          clear hb
          obtain ⟨b3, o3, ra3, rc3, e3, k3, f3⟩ := tab_row (HX8.out.mono (Same.of_below HWX.out)) HLT.out
          simp only [Option.some.injEq, Addr.mk.injEq, and_true] at e3
          obtain ⟨rfl, rfl⟩ := e3
          obtain ⟨b4, o4, ra4, rc4, e4, k4, f4⟩ := tab_row (HY.out.mono (Same.of_below HWX.out)) HLT.out
          simp only [Option.some.injEq, Addr.mk.injEq, and_true] at e4
          obtain ⟨rfl, rfl⟩ := e4
          by_cases hkc : k < c
          · have w6 : (k : Int) < (c : Int) := Int.ofNat_lt.2 hkc
            have w7 : (0 : Int) ≤ (k : Int) := Int.natCast_nonneg _
            obtain ⟨b5, o5, rfl, k5⟩ := f3 k hkc
            obtain ⟨b6, o6, rfl, k6⟩ := f4 k hkc
            obtain ⟨⟨d1, d2, d3⟩, d4⟩ := HD.out q k HLT.out hkc
            obtain ⟨x1, hx1⟩ : ∃ x1, G1 q k = x1 := ⟨_, rfl⟩
            obtain ⟨x2, hx2⟩ : ∃ x2, G2 q k = x2 := ⟨_, rfl⟩
            rw [hx1] at k5
            rw [hx2] at k6
            rw [hx1, hx2] at d1 d2 d3 d4
            have HAB := Lib.hid fun X => above_bigN (x1 - x2) d2 d3 X
            obtain ⟨g5, g6, gm⟩ := step_w (E := c) hkc (by have := HB8.out; omega)
            have HG2 := Lib.hid (And.intro (And.intro g5 g6) gm)
            have HLK := Lib.hid hkc
            have HD4 := Lib.hid d4
            clear g5 g6 gm f3 f4 hx1 hx2 d2 d3 d4
            go_upto_region 26 with fail
            go_still_tail 15, (by kernel_rfl)
            have d4 := HD4.out
            obtain ⟨⟨g5, g6⟩, _⟩ := HG2.out
            go_wp2_with (go_at_call 28; (with_reducible refine (HAB.out _).mono ?_); rintro y wq ⟨rfl, rfl⟩)
            go_roundw
            case rel => exact ⟨k + 1, by go_num, HLK.out, below_drewN HWX.out _⟩
            case measure => exact HG2.out.2
          · have w6 : ¬ (k : Int) < (c : Int) := by omega
            obtain ⟨⟨g5, g6⟩, _⟩ := HG.out
            go_wp2_with fail
            go_roundw
            case rel => exact ⟨q + 1, by go_num, HLT.out, HWX.out⟩
            case measure => exact HG.out.2
      · have w4 : ¬ (q : Int) < (r : Int) := by omega
        have HB68 : Hid (Below w6.heap.size w6 wr) := Lib.hid (HB7.out.trans ((HB8'.out.trans (HW.out.mono HB8'.out.size)).mono HB7.out.size))
        have hS8 : DS D2 F2 r e true (dEnd e true m s0) wr := HS6.out.keep (HB68.out.block _ HS6.out.top.lt) (HB68.out.block _ HS6.out.row.lt)
        have her := errors_any wr hS8 HB8.out.2.2 HB8.out.1
        obtain ⟨sE, hsE⟩ : ∃ sE, dEnd e true m s0 = sE := ⟨_, rfl⟩
        rw [hsE] at her hS8
        have HLE := Lib.hid hS8.len
        have HER : Hid (∀ k, k < sE.2.length → -(stepN e) ≤ sE.2.getD k 0 ∧ sE.2.getD k 0 ≤ stepN e) := Lib.hid fun k hk => hS8.errs k (by rw [← hS8.len]; exact hk)
        have hbd : sE.2.length ≤ 8 := by rw [hS8.len]; exact HB8.out.1
        have HBD := Lib.hid hbd
        clear hS8 hsE hbd
        obtain ⟨er, her2⟩ : ∃ er, sE.2 = er := ⟨_, rfl⟩
        rw [her2] at her HER HBD HLE
        clear her2
        go_wp2_with (go_at_call 40; (with_reducible refine her.mono ?_); rintro y wz ⟨u, rfl, hu, hb9⟩; have HU := Lib.hid hu; have HB9 := Lib.hid hb9; obtain ⟨ua, uc, rfl, _, _, _⟩ := hu; clear hb9 her)
        go_loopw [20] (fun i wx => ∃ k : Nat, i = .int .i64 k ∧ k ≤ er.length ∧ Below wz.heap.size wz wx) (fun i _ => er.length - (RowKit.intOf i).toNat)
        case atStart => exact ⟨0, rfl, Nat.zero_le _, Below.refl _ _⟩
        case round =>
          obtain ⟨k, rfl, hk, hb⟩ := hrel
          have HWX := Lib.hid hb
          clear hb
          by_cases hkc : k < er.length
          · have w6 : (k : Int) < (er.length : Int) := Int.ofNat_lt.2 hkc
            have w7 : (0 : Int) ≤ (k : Int) := Int.natCast_nonneg _
            obtain ⟨ua2, uc2, e5, hin, _, _⟩ := HU.out.mono (Same.of_below HWX.out)
            simp only [Value.slice.injEq, true_and] at e5
            obtain ⟨rfl, rfl⟩ := e5
            obtain ⟨b5, o5, rfl, k5, _⟩ := hin k hkc
            have hb5 := HER.out k hkc
            obtain ⟨ev, hev⟩ : ∃ ev, er.getD k 0 = ev := ⟨_, rfl⟩
            rw [hev] at k5 hb5
            have hst := stepN_two e
            have HAB := Lib.hid fun X => above_bigN ev (by omega) (by omega) X
            obtain ⟨g5, g6, gm⟩ := step_w (E := er.length) hkc (by have := HBD.out; omega)
            have HGM := Lib.hid gm
            have HLK := Lib.hid hkc
            by_cases he : e ≤ 2
            · have z1 : ¬ (2 : Int) < (e : Int) := by omega
              have z2 : ¬ (65536 : Int) < max ev (-ev) := by
                have : stepN e = 65536 := by unfold stepN; rw [if_pos he]
                omega
              clear hin hev hb5 hst gm he
              go_wp2_with (go_at_call 28; (with_reducible refine (HAB.out _).mono ?_); rintro y wq ⟨rfl, rfl⟩)
              go_roundw
              case rel => exact ⟨k + 1, by go_num, HLK.out, HWX.out⟩
              case measure => exact HGM.out
            · have z1 : (2 : Int) < (e : Int) := by omega
              have z2 : ¬ (256 : Int) < max ev (-ev) := by
                have : stepN e = 256 := by unfold stepN; rw [if_neg he]
                omega
              clear hin hev hb5 hst gm he
              go_wp2_with (go_at_call 28; (with_reducible refine (HAB.out _).mono ?_); rintro y wq ⟨rfl, rfl⟩)
              go_roundw
              case rel => exact ⟨k + 1, by go_num, HLK.out, HWX.out⟩
              case measure => exact HGM.out
          · have w6 : ¬ (k : Int) < (er.length : Int) := by omega
            go_wp2_with (go_at_call 18; (with_reducible refine (HAW.out _).mono ?_); rintro y wv ⟨rfl, hbz⟩; have HZ := Lib.hid hbz; clear hbz)
            go_ret
            exact ⟨rfl, Below.then (Below.then (Below.then (HB1.out.trans ((HB16.out.trans (HB68.out.mono HB16.out.size)).mono HB1.out.size)) (Nat.le_refl _) HB9.out) (Nat.le_refl _) HWX.out) (Nat.le_refl _) HZ.out⟩
theorem noiseLaw_any (n seed : Int) (m : List (List Int)) (v : Value) (w : World) (hM : MatIn w m v) :
    Calls Try.prog 7 #[.int .i64 n, .int .i64 seed, v] w fun y w' => y = .returned (.bool true) ∧ Below w.heap.size w w' := by
  cases hv : validB m with
  | false => exact noise_inv n seed m v w hM hv
  | true =>
    by_cases h1 : n < 1
    · exact noise_range n seed m v w hM hv (.inl h1)
    · by_cases h4 : 4 < n
      · exact noise_range n seed m v w hM hv (.inr ⟨h1, h4⟩)
      · by_cases hK : dithE n seed m.length = 0
        · obtain ⟨e, rfl⟩ : ∃ e : Nat, n = e := ⟨n.toNat, by omega⟩
          exact noise_main e (by omega) (by omega) seed m v w hM hv hK
        · exact noise_seed n seed m v w hM hv ⟨h1, h4⟩ _ rfl hK
end Go.Proofs.Ytegomicpolnpoaa
