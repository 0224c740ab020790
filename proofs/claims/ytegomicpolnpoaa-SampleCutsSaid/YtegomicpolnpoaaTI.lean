/- Join: the document's. -/
import Derived.Test.YtegomicpolnpoaaTH
namespace Go.Proofs.Ytegomicpolnpoaa
open Go.RowKit Go.Shelf Go.Deep

/-- A list of blocks. -/
def BlksIn (w : World) (l : List (List (List Int))) (v : Value) : Prop := ∃ a cap, v = .slice a l.length cap ∧ (∀ i, i < l.length → ∃ b off u, a = some ⟨b, off, none⟩ ∧ w.cell? ⟨b, off + i, none⟩ = some u ∧ MatIn w (l.getD i []) u) ∧ l.length ≤ 17592186044416 ∧ l.length ≤ cap
theorem BlksIn.mono {w w' : World} (h : Same w w') {l : List (List (List Int))} {v : Value} (hb : BlksIn w l v) : BlksIn w' l v := by
  obtain ⟨a, cap, h1, h2, h3, h4⟩ := hb
  refine ⟨a, cap, h1, fun i hi => ?_, h3, h4⟩
  obtain ⟨b, off, u, ha, hc, hm⟩ := h2 i hi
  exact ⟨b, off, u, ha, h.cell hc, hm.mono h⟩
theorem blks_at {w : World} {l : List (List (List Int))} {a : Option Addr} {cap : Nat} (hb : BlksIn w l (.slice a l.length cap)) {i : Nat} (hi : i < l.length) : ∃ b off u, a = some ⟨b, off, none⟩ ∧ w.cell? ⟨b, off + i, none⟩ = some u ∧ MatIn w (l.getD i []) u := by
  obtain ⟨a', cap', e, h2, _, _⟩ := hb
  simp only [Value.slice.injEq] at e
  obtain ⟨rfl, _, rfl⟩ := e
  exact h2 i hi

def okV (l : List (List (List Int))) : Bool := l.all validB
def okC (l : List (List (List Int))) : Bool := l.all fun b => decide (b.length = (l.getD 0 []).length)
def sumTo (l : List (List (List Int))) (n : Nat) : Nat := ((List.range n).map fun i => cols (l.getD i [])).sum
theorem sumTo_succ (l : List (List (List Int))) (n : Nat) : sumTo l (n + 1) = sumTo l n + cols (l.getD n []) := by simp [sumTo, List.range_succ]
theorem sumTo_mono (l : List (List (List Int))) {i n : Nat} (h : i ≤ n) : sumTo l i ≤ sumTo l n := by
  induction n with
  | zero => have : i = 0 := by omega
            subst this; exact Nat.le_refl _
  | succ n ih =>
    by_cases e : i = n + 1
    · subst e; exact Nat.le_refl _
    · rw [sumTo_succ]; have := ih (by omega); omega
theorem sumTo_bd {l : List (List (List Int))} (h : okV l = true) {n : Nat} (hn : n ≤ l.length) : sumTo l n ≤ 4096 * n := by
  induction n with
  | zero => simp [sumTo]
  | succ n ih =>
    have h1 := ih (by omega)
    have := (validB_parts (all_at (d := []) h (show n < l.length by omega))).2.2.1
    rw [sumTo_succ]; omega
def joinK (l : List (List (List Int))) : Int := if okV l = false then 1 else if l.length = 0 then 11 else if okC l = false then 11 else if 4096 < sumTo l l.length then 4 else 0
/-- The first n + 1 one behind the other. -/
def jn (l : List (List (List Int))) : Nat → List (List Int)
  | 0 => partM (l.getD 0 []) 0 (cols (l.getD 0 []))
  | n + 1 => behindM (jn l n) (l.getD (n + 1) [])
theorem jn_len (l : List (List (List Int))) : ∀ n, (jn l n).length = (l.getD 0 []).length
  | 0 => by simp [jn, partM_len]
  | n + 1 => by rw [jn, behindM_len, jn_len l n]
theorem jn_row {l : List (List (List Int))} (hv : okV l = true) (hc : okC l = true) {i : Nat} (hi : i < (l.getD 0 []).length) : ∀ n, n < l.length → ((jn l n).getD i []).length = sumTo l (n + 1)
  | 0, hn => by
    have h0 := validB_parts (all_at (d := []) hv hn)
    rw [jn, partM_at hi, List.length_take, List.drop_zero, h0.2.2.2 i hi]
    simp [sumTo]
  | n + 1, hn => by
    have h0 := validB_parts (all_at (d := []) hv hn)
    have hcn : (l.getD (n + 1) []).length = (l.getD 0 []).length := by have := all_at (d := []) hc hn; simpa using this
    rw [jn, behindM_at (by rw [jn_len]; exact hi), List.length_append, jn_row hv hc hi n (by omega), sumTo_succ l (n + 1), h0.2.2.2 i (by omega)]
def joinR (l : List (List (List Int))) : List (List Int) := if joinK l = 0 then jn l (l.length - 1) else []
theorem joinR_no {l : List (List (List Int))} (h : joinK l ≠ 0) : joinR l = [] := if_neg h

set_option maxHeartbeats 8000000 in
set_option maxRecDepth 100000 in
theorem refJoin_any (l : List (List (List Int))) (v : Value) (w : World) (hL : BlksIn w l v) : Calls Try.prog 46 #[v] w (NewAns w (joinR l) (joinK l)) := by
  obtain ⟨a, ca, rfl, hin, hal, _⟩ := id hL
  have HX : Hid (∀ x, Below w.heap.size w x → BlksIn x l (.slice a l.length ca)) := Lib.hid fun x hx => hL.mono (Same.of_below hx)
  clear hin hL
  go_enter Try.func46, Try.ntmps46
  go_wp2_with fail
  go_loopw [4] (fun i wr => ∃ k : Nat, i = .int .i64 k ∧ k ≤ l.length ∧ (∀ q, q < k → validB (l.getD q []) = true) ∧ Below w.heap.size w wr) (fun i _ => l.length - (RowKit.intOf i).toNat)
  case atStart => exact ⟨0, rfl, Nat.zero_le _, fun _ h => absurd h (Nat.not_lt_zero _), Below.refl _ _⟩
  case round =>
    obtain ⟨k, rfl, hk, hok, hb⟩ := hrel
    have Hok := Lib.hid hok
    clear hok
    by_cases hlt : k < l.length
    · obtain ⟨bb, ob, u, rfl, hcj, hu⟩ := blks_at (HX.out _ hb) hlt
      have h42 := refValidBlock_any _ u wr hu
      obtain ⟨sb, hsb⟩ : ∃ sb, validB (l.getD k []) = sb := ⟨_, rfl⟩
      rw [hsb] at h42
      have HSB := Lib.hid hsb
      clear hsb
      generalize l.getD k [] = p at hu
      obtain ⟨au, cu, rfl, _, _, _⟩ := hu
      have HB := Lib.hid hb
      have w4 : (k : Int) < (l.length : Int) := by omega
      clear hb
      cases sb with
      | false =>
        go_wp2_with (go_at_call 42; (with_reducible refine h42.mono ?_); rintro e w1 ⟨rfl, hb1⟩; have HB1 := Lib.hid hb1; clear hb1)
        go_ret2
        have hv : okV l = false := all_no_at (d := []) hlt HSB.out
        have hK : joinK l = 1 := by unfold joinK; rw [if_pos hv]
        rw [joinR_no (by rw [hK]; decide), hK]
        exact ⟨_, rfl, new_nil _ _, Below.then HB.out (Nat.le_refl _) HB1.out⟩
      | true =>
        go_wp2_with (go_at_call 42; (with_reducible refine h42.mono ?_); rintro e w1 ⟨rfl, hb1⟩; have HB1 := Lib.hid hb1; clear hb1)
        go_roundw
        case rel =>
          refine ⟨k + 1, by go_num, by omega, fun q hq => ?_, Below.then HB.out (Nat.le_refl _) HB1.out⟩
          by_cases e : q = k
          · subst e; exact HSB.out
          · exact Hok.out q (by omega)
        case measure => simp [RowKit.intOf]; omega
    · have w4 : ¬ (k : Int) < (l.length : Int) := by omega
      have hv : okV l = true := all_yes_of (d := []) fun q hq => Hok.out q (by omega)
      have HV := Lib.hid hv
      have HB := Lib.hid hb
      clear hb hv
      by_cases h0 : l.length = 0
      · have e0 : ((l.length : Int) == 0) = true := by rw [beq_iff_eq]; omega
        have H0 := Lib.hid h0
        clear h0
        go_wp2_with fail
        go_ret2
        have hK : joinK l = 11 := by unfold joinK; rw [if_neg (by rw [HV.out]; decide), if_pos H0.out]
        rw [joinR_no (by rw [hK]; decide), hK]
        exact ⟨_, rfl, new_nil _ _, HB.out⟩
      · have e0 : ((l.length : Int) == 0) = false := by rw [beq_eq_false_iff_ne]; omega
        have H0 := Lib.hid h0
        have hpos : 0 < l.length := by omega
        have hposI : (0 : Int) < (l.length : Int) := by omega
        clear h0
        go_wp2_with fail
        clear e0
        have hL0 := HX.out _ HB.out
        obtain ⟨wo, hwo⟩ : ∃ wo : World, wo = wr := ⟨_, rfl⟩
        subst hwo
        go_loopw [5, 6] (fun n i wr => ∃ k : Nat, i = .int .i64 k ∧ k ≤ l.length ∧ n = .int .i64 (sumTo l k) ∧ (∀ q, q < k → (l.getD q []).length = (l.getD 0 []).length) ∧ Below w.heap.size w wr) (fun _ i _ => l.length - (RowKit.intOf i).toNat)
        case atStart => exact ⟨0, rfl, Nat.zero_le _, by simp [sumTo], fun _ h => absurd h (Nat.not_lt_zero _), HB.out⟩
        case round =>
          clear HB hL0 Hok
          obtain ⟨k, rfl, hk, rfl, hok, hb⟩ := hrel
          have Hok := Lib.hid hok
          clear hok
          by_cases hlt : k < l.length
          · obtain ⟨bb, ob, u, rfl, hcj, hu⟩ := blks_at (HX.out _ hb) hlt
            obtain ⟨_, _, u0, e0, hc0, hu0⟩ := blks_at (HX.out _ hb) hpos
            simp only [Option.some.injEq, Addr.mk.injEq, and_true] at e0
            obtain ⟨rfl, rfl⟩ := e0
            simp only [Nat.add_zero] at hc0
            obtain ⟨g1, g2, g3, g4⟩ := validB_parts (all_at (d := []) HV.out hlt)
            have hsb := sumTo_bd HV.out (n := k) (by omega)
            have hss := sumTo_succ l k
            obtain ⟨au, cu, rfl, hrin, _, _⟩ := hu
            obtain ⟨az, cz, rfl, _, _, _⟩ := hu0
            obtain ⟨b9, o9, u9, rfl, hc9, a9, c9, rfl, _, _, _⟩ := hrin 0 (by omega)
            simp only [Nat.add_zero] at hc9
            change wr.cell? _ = some (Value.slice a9 (cols (l.getD k [])) c9) at hc9
            have HQ := Lib.hid (And.intro hss (show (l.getD k []).length = (l.getD k []).length from rfl))
            clear hrin hss g4
            obtain ⟨C, hC⟩ : ∃ C, cols (l.getD k []) = C := ⟨_, rfl⟩
            obtain ⟨n, hn⟩ : ∃ n, (l.getD k []).length = n := ⟨_, rfl⟩
            obtain ⟨n0, hn0⟩ : ∃ n0, (l.getD 0 []).length = n0 := ⟨_, rfl⟩
            obtain ⟨sq, hsq⟩ : ∃ sq, sumTo l k = sq := ⟨_, rfl⟩
            rw [hC] at hc9 g3 HQ
            rw [hn] at hcj g1 g2 HQ
            rw [hn0] at hc0 Hok
            rw [hsq] at hsb HQ ⊢
            have HN := Lib.hid (And.intro hn hn0)
            have HB := Lib.hid hb
            have w4 : (k : Int) < (l.length : Int) := by omega
            have hposn : 0 < n := by omega
            have hposnI : (0 : Int) < (n : Int) := by omega
            clear hb hC hn hn0 hsq
            by_cases hne : n = n0
            · have e1 : ((n : Int) != (n0 : Int)) = false := by simp; omega
              have HNE := Lib.hid hne
              clear hne
              go_wp2_with fail
              go_quiet (fail)
              go_wp2_with fail
              go_roundw
              case rel =>
                refine ⟨k + 1, by go_num, by omega, by rw [HQ.out.1]; go_num, fun q hq => ?_, below_drewN HB.out _⟩
                by_cases e : q = k
                · subst e; rw [HN.out.1, HN.out.2]; exact HNE.out
                · rw [HN.out.2]; exact Hok.out q (by omega)
              case measure => simp [RowKit.intOf]; omega
            · have e1 : ((n : Int) != (n0 : Int)) = true := by simp; omega
              have HNE := Lib.hid hne
              clear hne
              go_wp2_with fail
              go_quiet (fail)
              go_wp2_with fail
              go_ret2
              have hc : okC l = false := all_no_at (d := []) hlt (by rw [HN.out.1, HN.out.2]; simpa using HNE.out)
              have hK : joinK l = 11 := by unfold joinK; rw [if_neg (by rw [HV.out]; decide), if_neg H0.out, if_pos hc]
              rw [joinR_no (by rw [hK]; decide), hK]
              exact ⟨_, rfl, new_nil _ _, below_drewN HB.out _⟩
          · have w4 : ¬ (k : Int) < (l.length : Int) := by omega
            obtain rfl : k = l.length := by omega
            have hc : okC l = true := all_yes_of (d := []) fun q hq => by simpa using Hok.out q hq
            have HC := Lib.hid hc
            have hsb := sumTo_bd HV.out (n := l.length) (Nat.le_refl _)
            obtain ⟨T, hT⟩ : ∃ T, sumTo l l.length = T := ⟨_, rfl⟩
            rw [hT] at hsb ⊢
            have HT := Lib.hid hT
            have HB := Lib.hid hb
            clear hc hT hb
            by_cases hbig : 4096 < T
            · have hbI : (4096 : Int) < (T : Int) := by omega
              have HBIG := Lib.hid hbig
              clear hbig
              go_wp2_with fail
              go_ret2
              have hK : joinK l = 4 := by unfold joinK; rw [if_neg (by rw [HV.out]; decide), if_neg H0.out, if_neg (by rw [HC.out]; decide), if_pos (by rw [HT.out]; exact HBIG.out)]
              rw [joinR_no (by rw [hK]; decide), hK]
              exact ⟨_, rfl, new_nil _ _, HB.out⟩
            · have hbI : ¬ (4096 : Int) < (T : Int) := by omega
              have HBIG := Lib.hid hbig
              have hK : joinK l = 0 := by unfold joinK; rw [if_neg (by rw [HV.out]; decide), if_neg H0.out, if_neg (by rw [HC.out]; decide), if_neg (by rw [HT.out]; exact hbig)]
              have hR : joinR l = jn l (l.length - 1) := if_pos hK
              have HKR := Lib.hid (And.intro hR hK)
              obtain ⟨bb, ob, u0, rfl, hc0, hu0⟩ := blks_at (HX.out _ HB.out) hpos
              simp only [Nat.add_zero] at hc0
              obtain ⟨g1, g2, g3, g4⟩ := validB_parts (all_at (d := []) HV.out hpos)
              have HP : Hid (∀ x, Below w.heap.size w x → ∃ u0', x.cell? ⟨bb, ob, none⟩ = some u0' ∧ MatIn x (l.getD 0 []) u0') := Lib.hid fun x hx => by
                obtain ⟨_, _, u, e, h1, h2⟩ := blks_at (HX.out _ hx) hpos
                simp only [Option.some.injEq, Addr.mk.injEq, and_true] at e
                obtain ⟨rfl, rfl⟩ := e
                exact ⟨u, h1, h2⟩
              have hpart := fun (x : World) (hx : MatIn x (l.getD 0 []) u0) => part_any (l.getD 0 []) u0 x hx g2 0 (cols (l.getD 0 [])) (Nat.zero_le _) (fun q hq => by rw [g4 q hq]; exact Nat.le_refl _) g3
              rw [show partM (l.getD 0 []) 0 (cols (l.getD 0 [])) = jn l 0 from rfl] at hpart
              have hmu := hu0.mono (Same.of_below (Below.drew (Below.refl wr.heap.size wr)))
              have hpart2 := hpart wr.drew hmu
              rw [show ((0 : Nat) : Int) = 0 from rfl] at hpart2
              obtain ⟨a0, c0, rfl, hrin, _, _⟩ := hu0
              obtain ⟨b9, o9, u9, rfl, hc9, a9, c9, rfl, _, _, _⟩ := hrin 0 (by omega)
              simp only [Nat.add_zero] at hc9
              change wr.cell? _ = some (Value.slice a9 (cols (l.getD 0 [])) c9) at hc9
              clear hrin g4 hbig hpart hK hR hmu
              obtain ⟨C, hC⟩ : ∃ C, cols (l.getD 0 []) = C := ⟨_, rfl⟩
              obtain ⟨n0, hn0⟩ : ∃ n0, (l.getD 0 []).length = n0 := ⟨_, rfl⟩
              rw [hC] at hc9 g3 hpart2
              rw [hn0] at hc0 g1 g2 hpart2
              have HPART := Lib.hid hpart2
              have hposn : 0 < n0 := by omega
              have hposnI : (0 : Int) < (n0 : Int) := by omega
              have HN0 := Lib.hid hn0
              clear hC hn0 hpart2
              go_wp2_with fail
              go_still_tail 9, (by kernel_rfl)
              change wpList _ _ _ _ _ wr.drew
              go_wp2_with (go_at_call 48; (with_reducible refine HPART.out.mono ?_); rintro e w1 ⟨u1, rfl, hm1, hb1⟩; have HM1 := Lib.hid hm1; have HB1 := Lib.hid hb1; clear hm1 hb1)
              have hb2 : Below w.heap.size w w1 := HB.out.drew.trans (HB1.out.mono HB.out.size)
              have hm2 : MatNew w.heap.size w1 (jn l 0) u1 := HM1.out.mono HB.out.size (Nat.le_refl _) fun _ _ _ => rfl
              have HB2 := Lib.hid hb2
              have HM2 := Lib.hid hm2
              clear hb2 hm2 hc0 hc9 HM1 HB1 HPART
              obtain ⟨p1, hp1⟩ : ∃ p1, MatIn w1 (jn l 0) u1 ∧ p1 = u1 := ⟨u1, HM2.out.here, rfl⟩
              go_loopw [7, 8] (fun o i wx => ∃ k : Nat, i = .int .i64 ((k + 1 : Nat) : Int) ∧ k + 1 ≤ l.length ∧ MatNew w.heap.size wx (jn l k) o ∧ Below w.heap.size w wx) (fun _ i _ => l.length - (RowKit.intOf i).toNat)
              case atStart => exact ⟨0, rfl, by omega, HM2.out, HB2.out⟩
              case round =>
                clear HM2 HB2 hp1
                obtain ⟨k, rfl, hk, hm, hb⟩ := hrel
                by_cases hlt : k + 1 < l.length
                · have w4 : ((k + 1 : Nat) : Int) < (l.length : Int) := by omega
                  obtain ⟨_, _, u, e, hcj, hu⟩ := blks_at (HX.out _ hb) hlt
                  simp only [Option.some.injEq, Addr.mk.injEq, and_true] at e
                  obtain ⟨rfl, rfl⟩ := e
                  have hlk : (l.getD (k + 1) []).length = (l.getD 0 []).length := by have := all_at (d := []) HC.out hlt; simpa using this
                  have hbeh := fun (o : Value) (ho : MatIn wr (jn l k) o) => behind_any (jn l k) (l.getD (k + 1) []) o u wr ho hu (by rw [jn_len, HN0.out]; exact g2) (by rw [jn_len, hlk]; exact Nat.le_refl _) (fun q hq => by
                    rw [jn_len] at hq
                    have h1 := jn_row HV.out HC.out hq k (by omega)
                    have h2 := sumTo_mono l (show k + 1 ≤ l.length by omega)
                    have h3 := HBIG.out
                    rw [HT.out] at h2
                    obtain ⟨_, _, g5, g6⟩ := validB_parts (all_at (d := []) HV.out hlt)
                    rw [h1, g6 q (by omega)]; omega)
                  have hthis := hbeh _ hm.here
                  rw [show behindM (jn l k) (l.getD (k + 1) []) = jn l (k + 1) from rfl] at hthis
                  have HTH := Lib.hid hthis
                  have HB := Lib.hid hb
                  obtain ⟨p1, c1, hp1⟩ : ∃ p c, u = .slice p (l.getD (k + 1) []).length c := by obtain ⟨p, c, e, _⟩ := hu; exact ⟨p, c, e⟩
                  subst hp1
                  clear hbeh hthis hm hb hu hlk
                  generalize (l.getD (k + 1) []).length = nn at *
                  go_wp2_with (go_at_call 99; (with_reducible refine HTH.out.mono ?_); rintro e w2 ⟨u2, rfl, hm2, hb2⟩; have HM2 := Lib.hid hm2; have HB2 := Lib.hid hb2; clear hm2 hb2)
                  go_roundw
                  case rel => exact ⟨k + 1, by go_num, by omega, HM2.out.mono HB.out.size (Nat.le_refl _) (fun _ _ _ => rfl), Below.then HB.out (Nat.le_refl _) HB2.out⟩
                  case measure => simp [RowKit.intOf]; omega
                · have w4 : ¬ ((k + 1 : Nat) : Int) < (l.length : Int) := by omega
                  have hkl : k = l.length - 1 := by omega
                  rw [hkl] at hm
                  have HM := Lib.hid hm
                  have HB := Lib.hid hb
                  clear hm hb hkl
                  go_wp2_with fail
                  go_ret2
                  rw [HKR.out.1, HKR.out.2]
                  exact ⟨_, rfl, HM.out, HB.out⟩
end Go.Proofs.Ytegomicpolnpoaa
