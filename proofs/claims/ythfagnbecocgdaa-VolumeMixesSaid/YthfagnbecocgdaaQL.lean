/- VolumeMixes' law. -/
import Derived.Test.YthfagnbecocgdaaQK
import Derived.Deep.Slices
namespace Go.Proofs.Ythfagnbecocgdaa
open Go.RowKit Go.Shelf Go.Deep

theorem Try.info34 : (Try.prog.info? 34).map (fun i => (i.zero, i.size, i.bytes)) = some (some (.slice none 0 0), 1, 24) := by kernel_rfl
theorem Try.underlying64 : Try.prog.underlying 64 = some (.slice 34) := by kernel_rfl
theorem BlksIn.later {w w' : World} {l : List (List (List Int))} {v : Value} (h : BlksIn w l v) (hb : Below w.heap.size w w') : BlksIn w' l v := h.mono (Same.of_below hb)

/-- The blocks from the last down to number p, in a row of the call's own. -/
structure BackAt (w W3 : World) (n : Nat) (U : Nat → Value) (p : Nat) (vals : List Value) (v : Value) (wr : World) : Prop where
  own : wr.ownsRow W3.heap.size 34 1 v (n - p) vals
  len : vals.length = n - p
  row : ∀ k, k < n - p → vals.getD k undef = U (n - 1 - k)
  base : w.heap.size ≤ W3.heap.size
  below : Below w.heap.size w wr
  since : Below W3.heap.size W3 wr
theorem BackAt.next {w W3 : World} {n p : Nat} {U : Nat → Value} {vals : List Value} {v : Value} {wr x : World} (h : BackAt w W3 n U p vals v wr) (hb : Below wr.heap.size wr x) : BackAt w W3 n U p vals v x :=
  ⟨owns_below h.own hb, h.len, h.row, h.base, h.below.next hb, h.since.next hb⟩
theorem BackAt.step {w W3 : World} {n j : Nat} {U : Nat → Value} {vals : List Value} {v v' u : Value} {wr w2 : World} {o : Obj} (h : BackAt w W3 n U (j + 1) vals v wr) (hj : j < n) (hu : U j = u) (own2 : w2.ownsRow W3.heap.size 34 1 v' (n - (j + 1) + 1) (vals ++ [u]))
    (hg : (wr.alloc o).grownBy w2 v.ownBlock) : BackAt w W3 n U j (vals ++ [u]) v' w2 := by
  have hs := h.since.size
  have hs2 := h.below.size
  refine ⟨by rw [show n - j = n - (j + 1) + 1 by omega]; exact own2, by simp [h.len]; omega, fun k hk => ?_, h.base, ?_, ?_⟩
  · by_cases e : k < n - (j + 1)
    · rw [getD_snoc_lt (by rw [h.len]; exact e)]; exact h.row k e
    · obtain rfl : k = vals.length := by rw [h.len]; omega
      rw [getD_snoc_eq, ← hu, h.len]
      congr 1
      omega
  · exact (h.below.alloc hs2 o).grown hg (by simp; omega) fun k hk => Nat.le_trans h.base (h.own.lt k hk).1
  · exact (h.since.alloc hs o).grown hg (by simp; omega) fun k hk => (h.own.lt k hk).1
theorem BackAt.blks {w W3 : World} {l : List (List (List Int))} {U : Nat → Value} {vals : List Value} {v : Value} {wr : World} (h : BackAt w W3 l.length U 0 vals v wr) (hl : l.length ≤ 17592186044416) (hU : ∀ j, j < l.length → MatIn wr (l.getD j []) (U j)) : BlksIn wr l.reverse v := by
  have h1 := h.own
  have h2 := h.len
  rw [Nat.sub_zero] at h1 h2
  refine blks_owns h1 (by simp) h2 hl fun k hk => ?_
  rw [h.row k (by omega), getD_rev hk]
  exact hU _ (by omega)

set_option maxHeartbeats 16000000 in
set_option maxRecDepth 100000 in
theorem mixesLaw_any (l : List (List (List Int))) (v : Value) (y : List (List Int)) (vy : Value) (bd g : Int) (hI : I64 g) (w : World) (hv : BlksIn w l v) (hMy : MatIn w y vy) :
    Calls Try.prog 6 #[v, vy, .int .i64 bd, .int .i64 g] w fun e w' => e = .returned (.bool true) ∧ Below w.heap.size w w' := by
  have h39 := lights_any l v w hv
  have H24 := Lib.hid (fun (x : World) (hx : Below w.heap.size w x) => light_any y vy x (hMy.later hx))
  have HY := Lib.hid (fun (x : World) (hx : Below w.heap.size w x) => hMy.later hx)
  have H44 := Lib.hid (fun (x : World) (hx : Below w.heap.size w x) => refValidBlock_any y vy x (hMy.later hx))
  have H40y : Hid (validB y = true → ∀ x, Below w.heap.size w x → Calls Try.prog 40 #[.slice (some ⟨x.heap.size, 0, none⟩) 1 1] (x.alloc (.cells #[vy] 34)) (NewAns (x.alloc (.cells #[vy] 34)) y 0)) := Lib.hid fun h x hx => by
    have := mix_any [y] _ _ (blk_new x y vy (hMy.later hx))
    rwa [(mix_alone h).1, (mix_alone h).2] at this
  obtain ⟨D, hD⟩ : ∃ D : Nat → List (List Int), D = fun j => duckR (l.getD j []) y bd g := ⟨_, rfl⟩
  obtain ⟨E, hE⟩ : ∃ E : Nat → Int, E = fun j => duckK (l.getD j []) y bd g := ⟨_, rfl⟩
  have H42 : Hid (∀ (j : Nat) (x : World) (u : Value), Below w.heap.size w x → MatIn x (l.getD j []) u → Calls Try.prog 42 #[u, vy, .int .i64 bd, .int .i64 g] x (NewAns x (D j) (E j))) := Lib.hid fun j x u hx hu => by
    rw [hD, hE]; exact duck_any _ y u vy bd g hI x hu (hMy.later hx)
  have H43 : Hid (∀ (j : Nat) (x : World) (u : Value), Below w.heap.size w x → MatIn x (l.getD j []) u → Calls Try.prog 43 #[u, vy, .int .i64 bd, .int .i64 g] x (MatAns x (D j) (E j))) := Lib.hid fun j x u hx hu => by
    rw [hD, hE]; exact refDuck_any _ y u vy bd g x hu (hMy.later hx)
  have P1 := Lib.hid (fun (x : World) (hx : Below w.heap.size w x) => mix_any l v x (hv.later hx))
  have P2 := Lib.hid (fun (x : World) (hx : Below w.heap.size w x) => refMix_any l v x (hv.later hx))
  have HREV : Hid (∀ (x : World) (u : Value), BlksIn x l.reverse u → Calls Try.prog 40 #[u] x (NewAns x (mixR l) (mixK l))) := Lib.hid fun x u hu => by
    have := mix_any l.reverse u x hu
    rwa [mixR_rev, mixK_rev] at this
  have HAW := Lib.hid awake_any
  obtain ⟨i1, hi1, hy0, hy1, hy2⟩ := info_parts Try.info34
  obtain ⟨a, ca, rfl, hin, hal, _⟩ := hv
  obtain ⟨ay, cy, rfl, _, _, _⟩ := hMy
  obtain ⟨U, hU⟩ := choose_lt (α := Value) (n := l.length) (p := fun i u => ∃ b off, a = some ⟨b, off, none⟩ ∧ w.cell? ⟨b, off + i, none⟩ = some u ∧ MatIn w (l.getD i []) u) fun i hi => by
    obtain ⟨b, off, u, h1, h2, h3⟩ := hin i hi
    exact ⟨u, b, off, h1, h2, h3⟩
  have HU := Lib.hid (fun (x : World) (hx : Below w.heap.size w x) (j : Nat) (hj : j < l.length) => show ∃ b off, a = some ⟨b, off, none⟩ ∧ x.cell? ⟨b, off + j, none⟩ = some (U j) ∧ MatIn x (l.getD j []) (U j) from by
    obtain ⟨b, off, h1, h2, h3⟩ := hU j hj
    exact ⟨b, off, h1, (Same.of_below hx).cell h2, h3.later hx⟩)
  generalize mixR l = MR at *
  generalize mixK l = MK at *
  clear hin hU hD hE hI
  by_cases hA : l.length ≤ 50 ∧ 30 < l.length
  · obtain ⟨hA1, hA2⟩ := hA
    have e1 : (l.length : Int) ≤ 50 := by omega
    have e2 : (30 : Int) < (l.length : Int) := by omega
    have e3 : decide ((l.length : Int) ≤ 50) = true := decide_eq_true e1
    have e4 : decide ((30 : Int) < (l.length : Int)) = true := decide_eq_true e2
    have e5 : decide (30 < l.length) = true := decide_eq_true hA2
    have e6 : decide (l.length ≤ 50) = true := decide_eq_true hA1
    go_enter Try.func6, Try.ntmps6
    go_wp2_with fail
    clear e3 e4 e5 e6
    go_loopw [9] (fun i wr => ∃ j : Nat, i = .int .i64 j ∧ j ≤ l.length ∧ w = wr) (fun i _ => l.length - (intOf i).toNat)
    case atStart => exact ⟨0, rfl, Nat.zero_le _, rfl⟩
    case round =>
      obtain ⟨j, rfl, hj, rfl⟩ := hrel
      by_cases hlt : j < l.length
      · have w4 : (j : Int) < (l.length : Int) := by omega
        obtain ⟨bb, ob, rfl, hcj, hu⟩ := HU.out w (Below.refl _ _) j hlt
        have h38 := frames_any _ _ w hu
        have h24 := light_any _ _ w hu
        obtain ⟨u, hue⟩ : ∃ u, U j = u := ⟨_, rfl⟩
        rw [hue] at hcj hu h38 h24
        obtain ⟨up, un, uc, rfl⟩ : ∃ p n c, u = .slice p n c := by obtain ⟨p, c, h, _⟩ := hu; exact ⟨p, _, c, h⟩
        clear hu hue
        go_wp2_with (first
          | (go_at_call 38; (with_reducible refine h38.mono ?_); rintro e w1 ⟨⟨n, rfl⟩, rfl⟩; by_cases h20 : (20 : Int) < (n : Int))
          | (go_at_call 24; (with_reducible refine h24.mono ?_); rintro e w0 ⟨sb, rfl, rfl⟩; cases sb)
          | (go_at_call 9; (with_reducible refine (HAW.out _).mono ?_); rintro e w9 ⟨rfl, b9⟩))
        · go_ret
          exact ⟨rfl, b9⟩
        · go_ret
          exact ⟨rfl, b9⟩
        go_roundw
        case rel => exact ⟨j + 1, by go_num, by omega, by first | rfl | trivial⟩
        case measure => simp [intOf]; omega
      · have w4 : ¬ (j : Int) < (l.length : Int) := by omega
        obtain rfl : j = l.length := by omega
        have HB0 := Lib.hid (Below.refl w.heap.size w)
        go_wp2_with (first
          | (go_at_call 24; (with_reducible refine (H24.out _ HB0.out).mono ?_); rintro e w0 ⟨sb, rfl, rfl⟩; cases sb)
          | (go_at_call 9; (with_reducible refine (HAW.out _).mono ?_); rintro e w9 ⟨rfl, b9⟩)
          | (go_at_call 40; (with_reducible refine (P1.out _ HB0.out).mono ?_); rintro e w1 ⟨u1, rfl, m1, b1⟩; have MM1 := Lib.hid m1.here; have B1 := Lib.hid b1; clear m1 b1)
          | (go_at_call 41; (with_reducible refine (P2.out _ (HB0.out.next B1.out)).mono ?_); rintro e w2 ⟨u2, rfl, m2, b2⟩; have MM2 := Lib.hid m2; have B2 := Lib.hid b2; clear m2 b2
             have S1 := Lib.hid (same_yes MR u1 u2 w2 (MM1.out.later B2.out) MM2.out))
          | (go_at_call 20; (with_reducible refine S1.out.mono ?_); rintro e w3 ⟨rfl, b3⟩; have B3 := Lib.hid b3; clear b3))
        · go_ret
          exact ⟨rfl, HB0.out.next b9⟩
        have R1 := Lib.hid (fun (x : World) (hx : Below w3.heap.size w3 x) => MM1.out.later ((B2.out.next B3.out).next hx))
        have HB3 := Lib.hid (((HB0.out.next B1.out).next B2.out).next B3.out)
        clear P1 P2 S1 MM1 MM2 B1 B2 B3 HB0 H24 h39
        go_loopw [14, 15] (fun s i wr => ∃ (p : Nat) (q : Int) (vals : List Value), i = .int .i64 q ∧ q = (p : Int) - 1 ∧ p ≤ l.length ∧ BackAt w w3 l.length U p vals s wr) (fun _ i _ => (intOf i + 1).toNat)
        case atStart => exact ⟨l.length, _, [], rfl, rfl, Nat.le_refl _, by rw [Nat.sub_self]; exact World.ownsRow_nil _ _ _ _, by simp, fun k hk => by omega, HB3.out.size, HB3.out, Below.refl _ _⟩
        case round =>
          obtain ⟨p, q, vals, rfl, hq, hp, hbk⟩ := hrel
          have HBK := Lib.hid hbk
          clear hbk
          cases p with
          | succ j =>
            obtain rfl : q = (j : Int) := by omega
            clear hq
            have w4 : (0 : Int) ≤ (j : Int) := by omega
            have w5 : (j : Int) < (l.length : Int) := by omega
            have w6 : j < l.length := by omega
            obtain ⟨bb, ob, rfl, hcj, hu⟩ := HU.out wr HBK.out.below j w6
            have HUJ := Lib.hid (fun (x : World) (hx : Below w.heap.size w x) => show (x.cell? ⟨bb, ob + j, none⟩ = some (U j) ∧ MatIn x (l.getD j []) (U j)) from by
              obtain ⟨_, _, e1, h2, h3⟩ := HU.out x hx j w6
              simp only [Option.some.injEq, Addr.mk.injEq, and_true] at e1
              obtain ⟨rfl, rfl⟩ := e1
              exact ⟨h2, h3⟩)
            obtain ⟨u, hue⟩ : ∃ u, U j = u := ⟨_, rfl⟩
            rw [hue] at hcj hu HUJ
            have HUE := Lib.hid hue
            obtain ⟨up, un, uc, rfl⟩ : ∃ p n c, u = .slice p n c := by obtain ⟨p, c, h, _⟩ := hu; exact ⟨p, _, c, h⟩
            clear hu hue
            have hcj2 := (Same.alloc wr (.cells #[.slice up un uc] 34)).cell hcj
            have hown2 : (wr.alloc (.cells #[.slice up un uc] 34)).ownsRow w3.heap.size 34 1 u14 (l.length - (j + 1)) vals := HBK.out.own.alloc _
            go_wp2_with (at_builtin; refine wpList_append_moves rfl (.tmp 85) (.tmp 90) 64 rfl w3.heap.size 34 i1 _ 1 24 Try.underlying64 hi1 hy0 hy1 hy2 rfl (by decide) u14 (l.length - (j + 1)) vals rfl hown2 ⟨wr.heap.size, 0, none⟩ 1 1 [.slice up un uc] rfl rfl ?c1 ?c2 ?c3 ?c4 ?c5 ?_)
            case c1 =>
              intro j x hx
              match j with
              | 0 => simp at hx; subst hx; simp [go_sem]
              | j + 1 => simp at hx
            case c2 =>
              intro x hx; simp at hx; subst hx; rfl
            case c3 => unfold maxLen; omega
            case c4 => omega
            case c5 => have := HBK.out.since.size; simp; omega
            intro v2 w4' h21 h22 h23
            have HST := Lib.hid (HBK.out.step w6 HUE.out h21 h22)
            clear h21 h22 h23 hown2 hcj2 hcj
            have hcj4 := (HUJ.out w4' HST.out.below).1
            go_wp2_with (first
              | (go_at_call 42; (with_reducible refine (H42.out j _ _ HST.out.below (HUJ.out _ HST.out.below).2).mono ?_); rintro e w5 ⟨u5, rfl, m5, b5⟩; have M5 := Lib.hid m5.here; have B5 := Lib.hid b5; have hcj5 := (Same.of_below b5).cell hcj4; clear m5 b5)
              | (go_at_call 43; (with_reducible refine (H43.out j _ _ (HST.out.below.next B5.out) (HUJ.out _ (HST.out.below.next B5.out)).2).mono ?_); rintro e w6' ⟨u6, rfl, m6, b6⟩; have B6 := Lib.hid b6; have S2 := Lib.hid (same_yes _ u5 u6 w6' (M5.out.later b6) m6); clear m6 b6)
              | (go_at_call 20; (with_reducible refine S2.out.mono ?_); rintro e w7 ⟨rfl, b7⟩; have B7 := Lib.hid b7; clear b7))
            go_roundw
            case rel => exact ⟨j, (j : Int) - 1, vals ++ [.slice up un uc], by go_num, rfl, by omega, HST.out.next ((B5.out.next B6.out).next B7.out)⟩
            case measure => simp [intOf] <;> omega
          | zero =>
            obtain rfl : q = -1 := by omega
            clear hq
            have HV14 := Lib.hid (HBK.out.blks hal fun j hj => by obtain ⟨_, _, _, _, h3⟩ := HU.out wr HBK.out.below j hj; exact h3)
            have P3 := Lib.hid (HREV.out _ _ HV14.out)
            go_upto_region 29 with (first
              | (go_at_call 40; (with_reducible refine P3.out.mono ?_); rintro e w4 ⟨u4, rfl, m4, b4⟩; have B4 := Lib.hid b4; have S3 := Lib.hid (same_yes MR u1 u4 w4 (R1.out _ (HBK.out.since.next b4)) m4.here); clear m4 b4)
              | (go_at_call 20; (with_reducible refine S3.out.mono ?_); rintro e w5 ⟨rfl, b5⟩; have B5 := Lib.hid ((HBK.out.below.next B4.out).next b5); clear b5)
              | (go_at_call 44; (with_reducible refine (H44.out _ B5.out).mono ?_); rintro e w6 ⟨rfl, b6⟩; have B6 := Lib.hid (B5.out.next b6); clear b6; cases hvy : validB y)
              | (go_at_call 9; (with_reducible refine (HAW.out _).mono ?_); rintro e w9 ⟨rfl, b9⟩))
            · go_ret
              exact ⟨rfl, B6.out.next b9⟩
            have P4 := Lib.hid (H40y.out hvy w6 B6.out)
            have BA := Lib.hid (B6.out.alloc B6.out.size (.cells #[.slice ay y.length cy] 34))
            go_wp2_with (first
              | (go_at_call 40; (with_reducible refine P4.out.mono ?_); rintro e w7 ⟨u7, rfl, m7, b7⟩; have B7 := Lib.hid (BA.out.next b7); have S4 := Lib.hid (same_yes y u7 _ w7 m7.here (HY.out _ B7.out)); clear m7 b7)
              | (go_at_call 20; (with_reducible refine S4.out.mono ?_); rintro e w8 ⟨rfl, b8⟩; have B8 := Lib.hid (B7.out.next b8); clear b8)
              | (go_at_call 9; (with_reducible refine (HAW.out _).mono ?_); rintro e w9 ⟨rfl, b9⟩))
            go_ret
            exact ⟨rfl, B8.out.next b9⟩
  · have e7 : ¬ ((l.length : Int) ≤ 50 ∧ (30 : Int) < (l.length : Int)) := by omega
    have HB0 := Lib.hid (Below.refl w.heap.size w)
    have hways : (¬ (l.length : Int) ≤ 50) ∨ ((l.length : Int) ≤ 50 ∧ ¬ (30 : Int) < (l.length : Int)) := by omega
    clear hA e7
    rcases hways with e1 | ⟨e1, e2⟩
    · have e3 : decide ((l.length : Int) ≤ 50) = false := decide_eq_false e1
      have e4 : decide (l.length ≤ 50) = false := decide_eq_false (by omega)
      go_enter Try.func6, Try.ntmps6
      go_upto_region 9 with (first
        | (go_at_call 39; (with_reducible refine h39.mono ?_); rintro e w0 ⟨sb, rfl, rfl, hsb⟩; cases sb)
        | (go_at_call 9; (with_reducible refine (HAW.out _).mono ?_); rintro e w9 ⟨rfl, b9⟩))
      · go_ret
        exact ⟨rfl, HB0.out.next b9⟩
      exact absurd (hsb (by first | trivial | rfl)) (by omega)
    · have e3 : decide ((l.length : Int) ≤ 50) = true := decide_eq_true e1
      have e4 : decide (l.length ≤ 50) = true := decide_eq_true (by omega)
      have e5 : decide ((30 : Int) < (l.length : Int)) = false := decide_eq_false e2
      have e6 : decide (30 < l.length) = false := decide_eq_false (by omega)
      go_enter Try.func6, Try.ntmps6
      go_upto_region 9 with (first
        | (go_at_call 39; (with_reducible refine h39.mono ?_); rintro e w0 ⟨sb, rfl, rfl, hsb⟩; cases sb)
        | (go_at_call 9; (with_reducible refine (HAW.out _).mono ?_); rintro e w9 ⟨rfl, b9⟩))
      · go_ret
        exact ⟨rfl, HB0.out.next b9⟩
      clear hsb e3 e4 e5 e6 h39
      go_wp2_with (first
        | (go_at_call 24; (with_reducible refine (H24.out _ HB0.out).mono ?_); rintro e w0 ⟨sb, rfl, rfl⟩; cases sb)
        | (go_at_call 9; (with_reducible refine (HAW.out _).mono ?_); rintro e w9 ⟨rfl, b9⟩)
        | (go_at_call 40; (with_reducible refine (P1.out _ HB0.out).mono ?_); rintro e w1 ⟨u1, rfl, m1, b1⟩; have MM1 := Lib.hid m1.here; have B1 := Lib.hid b1; clear m1 b1)
        | (go_at_call 41; (with_reducible refine (P2.out _ (HB0.out.next B1.out)).mono ?_); rintro e w2 ⟨u2, rfl, m2, b2⟩; have MM2 := Lib.hid m2; have B2 := Lib.hid b2; clear m2 b2
           have S1 := Lib.hid (same_yes MR u1 u2 w2 (MM1.out.later B2.out) MM2.out))
        | (go_at_call 20; (with_reducible refine S1.out.mono ?_); rintro e w3 ⟨rfl, b3⟩; have B3 := Lib.hid b3; clear b3))
      · go_ret
        exact ⟨rfl, HB0.out.next b9⟩
      have R1 := Lib.hid (fun (x : World) (hx : Below w3.heap.size w3 x) => MM1.out.later ((B2.out.next B3.out).next hx))
      have HB3 := Lib.hid (((HB0.out.next B1.out).next B2.out).next B3.out)
      clear P1 P2 S1 MM1 MM2 B1 B2 B3 HB0 H24
      go_loopw [14, 15] (fun s i wr => ∃ (p : Nat) (q : Int) (vals : List Value), i = .int .i64 q ∧ q = (p : Int) - 1 ∧ p ≤ l.length ∧ BackAt w w3 l.length U p vals s wr) (fun _ i _ => (intOf i + 1).toNat)
      case atStart => exact ⟨l.length, _, [], rfl, rfl, Nat.le_refl _, by rw [Nat.sub_self]; exact World.ownsRow_nil _ _ _ _, by simp, fun k hk => by omega, HB3.out.size, HB3.out, Below.refl _ _⟩
      case round =>
        obtain ⟨p, q, vals, rfl, hq, hp, hbk⟩ := hrel
        have HBK := Lib.hid hbk
        clear hbk
        cases p with
        | succ j =>
          obtain rfl : q = (j : Int) := by omega
          clear hq
          have w4 : (0 : Int) ≤ (j : Int) := by omega
          have w5 : (j : Int) < (l.length : Int) := by omega
          have w6 : j < l.length := by omega
          obtain ⟨bb, ob, rfl, hcj, hu⟩ := HU.out wr HBK.out.below j w6
          have HUJ := Lib.hid (fun (x : World) (hx : Below w.heap.size w x) => show (x.cell? ⟨bb, ob + j, none⟩ = some (U j) ∧ MatIn x (l.getD j []) (U j)) from by
            obtain ⟨_, _, e1, h2, h3⟩ := HU.out x hx j w6
            simp only [Option.some.injEq, Addr.mk.injEq, and_true] at e1
            obtain ⟨rfl, rfl⟩ := e1
            exact ⟨h2, h3⟩)
          obtain ⟨u, hue⟩ : ∃ u, U j = u := ⟨_, rfl⟩
          rw [hue] at hcj hu HUJ
          have HUE := Lib.hid hue
          obtain ⟨up, un, uc, rfl⟩ : ∃ p n c, u = .slice p n c := by obtain ⟨p, c, h, _⟩ := hu; exact ⟨p, _, c, h⟩
          clear hu hue
          have hcj2 := (Same.alloc wr (.cells #[.slice up un uc] 34)).cell hcj
          have hown2 : (wr.alloc (.cells #[.slice up un uc] 34)).ownsRow w3.heap.size 34 1 u14 (l.length - (j + 1)) vals := HBK.out.own.alloc _
          go_wp2_with (at_builtin; refine wpList_append_moves rfl (.tmp 85) (.tmp 90) 64 rfl w3.heap.size 34 i1 _ 1 24 Try.underlying64 hi1 hy0 hy1 hy2 rfl (by decide) u14 (l.length - (j + 1)) vals rfl hown2 ⟨wr.heap.size, 0, none⟩ 1 1 [.slice up un uc] rfl rfl ?c1 ?c2 ?c3 ?c4 ?c5 ?_)
          case c1 =>
            intro j x hx
            match j with
            | 0 => simp at hx; subst hx; simp [go_sem]
            | j + 1 => simp at hx
          case c2 =>
            intro x hx; simp at hx; subst hx; rfl
          case c3 => unfold maxLen; omega
          case c4 => omega
          case c5 => have := HBK.out.since.size; simp; omega
          intro v2 w4' h21 h22 h23
          have HST := Lib.hid (HBK.out.step w6 HUE.out h21 h22)
          clear h21 h22 h23 hown2 hcj2 hcj
          have hcj4 := (HUJ.out w4' HST.out.below).1
          go_wp2_with (first
            | (go_at_call 42; (with_reducible refine (H42.out j _ _ HST.out.below (HUJ.out _ HST.out.below).2).mono ?_); rintro e w5 ⟨u5, rfl, m5, b5⟩; have M5 := Lib.hid m5.here; have B5 := Lib.hid b5; have hcj5 := (Same.of_below b5).cell hcj4; clear m5 b5)
            | (go_at_call 43; (with_reducible refine (H43.out j _ _ (HST.out.below.next B5.out) (HUJ.out _ (HST.out.below.next B5.out)).2).mono ?_); rintro e w6' ⟨u6, rfl, m6, b6⟩; have B6 := Lib.hid b6; have S2 := Lib.hid (same_yes _ u5 u6 w6' (M5.out.later b6) m6); clear m6 b6)
            | (go_at_call 20; (with_reducible refine S2.out.mono ?_); rintro e w7 ⟨rfl, b7⟩; have B7 := Lib.hid b7; clear b7))
          go_roundw
          case rel => exact ⟨j, (j : Int) - 1, vals ++ [.slice up un uc], by go_num, rfl, by omega, HST.out.next ((B5.out.next B6.out).next B7.out)⟩
          case measure => simp [intOf] <;> omega
        | zero =>
          obtain rfl : q = -1 := by omega
          clear hq
          have HV14 := Lib.hid (HBK.out.blks hal fun j hj => by obtain ⟨_, _, _, _, h3⟩ := HU.out wr HBK.out.below j hj; exact h3)
          have P3 := Lib.hid (HREV.out _ _ HV14.out)
          go_upto_region 29 with (first
            | (go_at_call 40; (with_reducible refine P3.out.mono ?_); rintro e w4 ⟨u4, rfl, m4, b4⟩; have B4 := Lib.hid b4; have S3 := Lib.hid (same_yes MR u1 u4 w4 (R1.out _ (HBK.out.since.next b4)) m4.here); clear m4 b4)
            | (go_at_call 20; (with_reducible refine S3.out.mono ?_); rintro e w5 ⟨rfl, b5⟩; have B5 := Lib.hid ((HBK.out.below.next B4.out).next b5); clear b5)
            | (go_at_call 44; (with_reducible refine (H44.out _ B5.out).mono ?_); rintro e w6 ⟨rfl, b6⟩; have B6 := Lib.hid (B5.out.next b6); clear b6; cases hvy : validB y)
            | (go_at_call 9; (with_reducible refine (HAW.out _).mono ?_); rintro e w9 ⟨rfl, b9⟩))
          · go_ret
            exact ⟨rfl, B6.out.next b9⟩
          have P4 := Lib.hid (H40y.out hvy w6 B6.out)
          have BA := Lib.hid (B6.out.alloc B6.out.size (.cells #[.slice ay y.length cy] 34))
          go_wp2_with (first
            | (go_at_call 40; (with_reducible refine P4.out.mono ?_); rintro e w7 ⟨u7, rfl, m7, b7⟩; have B7 := Lib.hid (BA.out.next b7); have S4 := Lib.hid (same_yes y u7 _ w7 m7.here (HY.out _ B7.out)); clear m7 b7)
            | (go_at_call 20; (with_reducible refine S4.out.mono ?_); rintro e w8 ⟨rfl, b8⟩; have B8 := Lib.hid (B7.out.next b8); clear b8)
            | (go_at_call 9; (with_reducible refine (HAW.out _).mono ?_); rintro e w9 ⟨rfl, b9⟩))
          go_ret
          exact ⟨rfl, B8.out.next b9⟩
end Go.Proofs.Ythfagnbecocgdaa
