/- Push's closure, where all fits. -/
import Derived.Test.YthfagnbecocgdaaSB
import Derived.Test.YthfagnbecocgdaaRF
namespace Go.Proofs.Ythfagnbecocgdaa
open Go.RowKit Go.Shelf Go.Deep

/-- A block that a write to block R does not touch. -/
def MatOff (R : Nat) (w : World) (b : List (List Int)) (v : Value) : Prop := ∀ x, w.grownBy x (some R) → MatIn x b v
theorem MatOff.goes {R : Nat} {w x : World} {b : List (List Int)} {v : Value} (h : MatOff R w b v) (hg : w.grownBy x (some R)) : MatOff R x b v := fun y hy => h y (gb_trans hg hy)
def PushRet (P R : Nat) (M : List (List Int)) (cs : List Ch) (w : World) (e : Ending) (w' : World) : Prop := ∃ u, e = .returned u ∧ MatNew w.heap.size w' M u ∧ VolAt P R cs w' ∧ w.grownBy w' (some R)

theorem VolAt.keepO {P R : Nat} {cs : List Ch} {w w' : World} {row : Option Nat} (h : VolAt P R cs w) (hg : w.grownBy w' row) (h1 : row ≠ some P) (h2 : row ≠ some R) : VolAt P R cs w' := by
  obtain ⟨N, G, r1, r2, r3⟩ := h.row
  obtain ⟨cap, ht⟩ := h.top
  exact ⟨⟨cap, by rw [World.cell?_of_block (hg.block P (cell_lt ht) (fun e => h1 e.symm))]; exact ht⟩, h.ne, N, G, r1.of_block (hg.block _ r1.lt (fun e => h2 e.symm)), r2, r3⟩
set_option maxHeartbeats 8000000 in
set_option maxRecDepth 100000 in
theorem push1_yes (b : List (List Int)) (cs : List Ch) (v : Value) (P R Bv Bb : Nat) (w : World) (hM : MatOff R w b v) (hv : validB b = true) (hl : cs.length = b.length) (hV : VolAt P R cs w) (hok : ∀ i, i < cs.length → (chAt cs i).Ok)
    (k0 : w.cell? ⟨Bv, 0, none⟩ = some (.pointer (some ⟨P, 0, none⟩))) (k1 : w.cell? ⟨Bb, 0, none⟩ = some v) (n0 : Bv ≠ R) (n1 : Bb ≠ R) :
    Calls Try.prog 54 #[at0 Bv, at0 Bb] w (PushRet P R (pushM cs b) (cs.map (goC (cols b))) w) := by
  have h55 := blocks_yes (l := [b]) (show allV [b] = true by simp [allV, hv]) _ _ (blk_new w b v (hM w (gb_refl _ _)))
  have HM1 := Lib.hid (must_yes 1)
  have HMU : Hid (∀ x, Calls Try.prog 50 #[.bool true, .int .i64 11] x fun e w' => e = .returned (.tuple #[]) ∧ w' = x) := Lib.hid fun x => (must_yes 11 x).mono fun e w' ⟨h1, h2⟩ => ⟨h1, h2.symm⟩
  obtain ⟨hr1, hr8, hc, hrow⟩ := validB_parts hv
  have hcab := cell_abs hv
  have HR := Lib.hid hrow
  have HBD := Lib.hid hcab
  have HMO := Lib.hid hM
  have HOKC := Lib.hid hok
  obtain ⟨C, hC⟩ : ∃ C, cols b = C := ⟨_, rfl⟩
  rw [hC] at hc HR ⊢
  obtain ⟨i1, hi1, hy0, hy1, hy2⟩ := info_parts Try.info40
  obtain ⟨cap, htop⟩ := hV.top
  rw [hl] at htop
  obtain ⟨hP, hRl⟩ := hV.lt
  have hne := hV.ne
  obtain ⟨a, ca, rfl, hin0, hal, _⟩ := hM w (gb_refl _ _)
  have HX : Hid (∀ x, w.grownBy x (some R) → (x.cell? ⟨Bv, 0, none⟩ = some (.pointer (some ⟨P, 0, none⟩)) ∧ x.cell? ⟨Bb, 0, none⟩ = some (.slice a b.length ca)) ∧ x.cell? ⟨P, 0, none⟩ = some (.slice (some ⟨R, 0, none⟩) b.length cap)) :=
    Lib.hid fun x hx => ⟨⟨gb_cell k0 hx n0, gb_cell k1 hx n1⟩, gb_cell htop hx hne⟩
  have hb0 : Below w.heap.size w (w.alloc (.cells #[.slice a b.length ca] 34)) := (Below.refl _ w).alloc (Nat.le_refl _) _
  obtain ⟨⟨m0, m1⟩, m2⟩ := HX.out _ (gb_below hb0)
  have HB0 := Lib.hid hb0
  have HV := Lib.hid hV
  have hnp : P < w.heap.size := hP
  have hblI : (0 : Int) < (b.length : Int) := by omega
  clear hM hv hok hin0 hrow hcab hC hV hb0 htop
  go_enter Try.func54, Try.ntmps54
  go_upto_region 3 with (first
    | (go_at_call 55; (with_reducible refine h55.mono ?_); rintro e w1 ⟨rfl, rfl⟩)
    | (go_at_call 50; (with_reducible refine (HM1.out _).mono ?_); rintro e w1 ⟨rfl, rfl⟩))
  go_quiet ((go_at_call 50; with_reducible exact Calls.quiet_of_same (HMU.out _)))
  clear h55 k0 k1 m0 m1 m2
  generalize hwx : (w.alloc (.cells #[.slice a b.length ca] 34)).drewN _ = wx
  have hb1 : Below w.heap.size w wx := by rw [← hwx]; exact below_drewN HB0.out _
  clear hwx HB0
  have HB1 := Lib.hid hb1
  obtain ⟨⟨m0, m1⟩, m2⟩ := HX.out _ (gb_below hb1)
  clear hb1
  go_upto_region 6 with fail
  go_loopw [3, 24] (fun s i wr => ∃ (j : Nat) (vals : List Value) (ds : List Ch), i = .int .i64 j ∧ j ≤ b.length ∧ Rq R w wr ((pushM cs b).take j) vals s ∧ GoneTo cs ds C j ∧ VolAt P R ds wr) (fun _ i _ => b.length - (RowKit.intOf i).toNat)
  case atStart => exact ⟨0, [], cs, rfl, Nat.zero_le _, (by simpa using (Rq.start hRl).goes (gb_below HB1.out)), GoneTo.start _ _, HV.out.below HB1.out⟩
  case round =>
    clear m0 m1 m2
    obtain ⟨j, vals, ds, rfl, hj, hz, hgo, hvol⟩ := hrel
    obtain ⟨⟨m0, m1⟩, m2⟩ := HX.out _ hz.frame
    have HZ := Lib.hid hz
    have HGO := Lib.hid hgo
    by_cases hlt : j < b.length
    · have w4 : (j : Int) < (b.length : Int) := by omega
      obtain ⟨a2, ca2, e2, hin2, _, _⟩ := HMO.out wr hz.frame
      simp only [Value.slice.injEq, true_and] at e2
      obtain ⟨rfl, rfl⟩ := e2
      obtain ⟨bb, ob, u, rfl, hcj, hu⟩ := hin2 j hlt
      have hrl := HR.out j hlt
      have hb0 := HBD.out j
      have hdj : chAt ds j = chAt cs j := by rw [hgo.2 j (by omega), if_neg (Nat.lt_irrefl _)]
      have hokj := HOKC.out j (by omega)
      have hramp := hvol.ramp (i := j) (by rw [hgo.1]; omega)
      rw [hdj] at hramp
      have HROW : Hid ((pushM cs b).take (j + 1) = (pushM cs b).take j ++ [scaledR (b.getD j []) (rampG (chAt cs j).f (chAt cs j).t (chAt cs j).n (chAt cs j).a)] ∧ ((pushM cs b).take j).length = j) := Lib.hid ⟨by
        rw [take_snocD _ j [] (by rw [pushM_len]; exact hlt), pushM_at hlt], by rw [List.length_take, pushM_len]; omega⟩
      have HPUT : Hid (∀ (x : World), VolAt P R ds x → VolAt P R (ds.set j (goC C (chAt cs j))) (x.setCell ⟨R, j * 6 + 3, none⟩ (.int .i64 ((chAt cs j).a + min (C : Int) ((chAt cs j).n - (chAt cs j).a))))) := Lib.hid fun x hx =>
        hx.put (by rw [hgo.1]; omega) (by omega) _ _ rfl fun k hk hk3 => by
          rw [hdj]
          match k with
          | 0 => rfl
          | 1 => rfl
          | 2 => rfl
          | 3 => exact absurd rfl hk3
          | 4 => rfl
          | 5 => rfl
          | k + 6 => omega
      have HNEXT := Lib.hid (hgo.step (by omega : j < cs.length))
      have HDJ := Lib.hid hdj
      obtain ⟨c, hcc⟩ : ∃ c, chAt cs j = c := ⟨_, rfl⟩
      rw [hcc] at hokj hramp HROW HPUT HNEXT HDJ
      obtain ⟨f, t, n, ra, g, mu⟩ := c
      dsimp only at hokj hramp HROW HPUT
      have hro := hokj.ramp
      dsimp only at hro
      have HRO := Lib.hid hro
      have HVOL := Lib.hid hvol
      obtain ⟨r0, r1, r2, r3⟩ := hramp
      obtain ⟨r, hr⟩ : ∃ r, b.getD j [] = r := ⟨_, rfl⟩
      rw [hr] at hu hrl hb0 HROW
      have hsc : ∀ (x : World) (N : Nat), w.grownBy x (some R) → RowIn x r u → RampAt N 0 f t n ra x → x.cell? ⟨N + 1, 0, none⟩ = some (.int .i64 C) → Calls Try.prog 56 #[u, .func (.func 108) #[] #[at0 N, at0 (N + 1)]] x fun e w' => ∃ u, e = .returned u ∧ w'.ownsRow x.heap.size 3 1 u r.length ((scaledR r (rampG f t n ra)).map (Value.int .i64)) ∧ Below x.heap.size x w' := fun x N hx hxr hR hK =>
        scaled_any r u 108 _ (rampG f t n ra) x hxr (fun i _ => hb0 i) (by rw [hrl]; exact hc) (by rw [hrl]; exact isGains_ramp HRO.out N (N + 1) C hc x hR hK)
      have HSC := Lib.hid hsc
      have HRW := Lib.hid (fun (x : World) (hx : Below wr.heap.size wr x) => hu.mono (Same.of_below hx))
      have h57 := gainsOf_any f t n ra C wr
      unfold rampV at h57
      have hok2 := scaled_ok (r := r) (G := rampG f t n ra) (by rw [hrl]; exact hc)
      have hlen := scaledR_len r (rampG f t n ra)
      obtain ⟨aj, cj, rfl, _, _, _⟩ := hu
      rw [hrl] at hlen hcj HSC HRW
      obtain ⟨q, hq⟩ : ∃ q, scaledR r (rampG f t n ra) = q := ⟨_, rfl⟩
      rw [hq] at HROW HSC hok2 hlen
      have HLEN := Lib.hid hlen
      have HOK := Lib.hid hok2
      clear hz hin2 hq hok2 hb0 hr hlen hsc hgo hvol hokj hcc hdj
      go_wp2_with (first
        | (go_at_call 57; (with_reducible refine h57.mono ?_); rintro e w1 ⟨rfl, rfl⟩
           have hbk : Below wr.heap.size wr ((wr.alloc (.cells #[.int .i64 f, .int .i64 t, .int .i64 n, .int .i64 ra] 77)).alloc (.cells #[.int .i64 C] 3)) := ((Below.refl _ _).alloc (Nat.le_refl _) _).alloc (by simp) _
           have h56 := HSC.out _ wr.heap.size (gb_trans HZ.out.frame (gb_below hbk)) (HRW.out _ hbk) ⟨by simp [go_sem], by simp [go_sem], by simp [go_sem], by simp [go_sem]⟩ (by simp [go_sem])
           have HBK := Lib.hid hbk
           clear hbk h57 r0 r1 r2 r3)
        | (go_at_call 56; (with_reducible refine h56.mono ?_); rintro e w1 ⟨u1, rfl, ho1, hb1⟩
           have ho2 := owns_base ho1 (B' := wr.heap.size) HBK.out.size
           rw [← HLEN.out] at ho2
           obtain ⟨p1, c1, rfl⟩ := slice_owns ho2
           have HO1 := Lib.hid ho2
           have HB2 := Lib.hid (Below.then HBK.out (Nat.le_refl _) hb1)
           have hown2 : (w1.alloc (.cells #[.slice p1 q.length c1] 40)).ownsRow w.heap.size 40 1 u3 j vals := (by
             have := owns_below (HZ.out.own) (HB2.out.alloc (by have := HB2.out.size; omega) (.cells #[.slice p1 q.length c1] 40))
             rwa [HROW.out.2] at this)
           clear ho1 ho2 hb1 h56)
        | (at_builtin; refine wpList_append_moves rfl (.tmp 35) (.tmp 45) 34 rfl w.heap.size 40 i1 _ 1 24 Try.underlying34 hi1 hy0 hy1 hy2 rfl (by decide) u3 j vals rfl hown2 ⟨w1.heap.size, 0, none⟩ 1 1 [.slice p1 q.length c1] rfl rfl ?c1 ?c2 ?c3 ?c4 ?c5 ?_))
      case c1 =>
        intro j x hx
        match j with
        | 0 => simp at hx; subst hx; simp [go_sem]
        | j + 1 => simp at hx
      case c2 => intro x hx; simp at hx; subst hx; rfl
      case c3 => unfold maxLen; omega
      case c4 => omega
      case c5 => have := HZ.out.frame.size; have := HB2.out.size; simp; omega
      intro v2 w2 h21 h22 h23
      have hbA := HB2.out.alloc (by have := HB2.out.size; omega) (.cells #[.slice p1 q.length c1] 40)
      have hz2 := HZ.out.step hbA (HO1.out.alloc _) (by rw [HROW.out.2]; exact h21) h22 h23 HOK.out
      rw [← HROW.out.1] at hz2
      have hv2 : VolAt P R ds w2 := (HVOL.out.below hbA).keepO h22 (fun e => by have := (HZ.out.own.lt P e).1; omega) (fun e => by have := (HZ.out.own.lt R e).1; omega)
      have hrp := hv2.ramp (i := j) (by rw [HGO.out.1]; omega)
      rw [HDJ.out] at hrp
      dsimp only at hrp
      have h58 := goOn_any HRO.out R (j * 6) C (by omega) w2 hrp (hv2.frozen _)
      obtain ⟨⟨m0, m1⟩, m2⟩ := HX.out _ hz2.frame
      have HZ2 := Lib.hid hz2
      have HV2 := Lib.hid hv2
      clear h21 h22 h23 hz2 hown2 hbA hv2 hrp
      go_wp2_with (go_at_call 58; (with_reducible refine h58.mono ?_); rintro e w3 ⟨rfl, W, hW, rfl⟩; have HW := Lib.hid hW; clear hW h58)
      have HV3 := Lib.hid (HPUT.out W (HV2.out.below HW.out))
      have HZ3 := Lib.hid ((HZ2.out.goes (gb_below HW.out)).goes (gb_set W R (j * 6 + 3) (.int .i64 (ra + min (C : Int) (n - ra)))))
      go_roundw
      case rel => exact ⟨j + 1, _, _, by go_num, by omega, HZ3.out, HNEXT.out, HV3.out⟩
      case measure => simp [RowKit.intOf]; omega
    · have w4 : ¬ (j : Int) < (b.length : Int) := by omega
      obtain rfl : j = b.length := by omega
      have hz2 := HZ.out
      rw [List.take_of_length_le (by rw [pushM_len]; exact Nat.le_refl _)] at hz2
      have hds : ds = cs.map (goC C) := GoneTo.done (by rw [hl]; exact hgo)
      subst hds
      have HZ2 := Lib.hid hz2
      have HVL := Lib.hid hvol
      clear hz hgo hvol hz2
      go_wp2_with fail
      go_ret
      exact ⟨_, rfl, HZ2.out.mat (by rw [pushM_len]; exact hal), HVL.out, HZ2.out.frame⟩
end Go.Proofs.Ythfagnbecocgdaa
