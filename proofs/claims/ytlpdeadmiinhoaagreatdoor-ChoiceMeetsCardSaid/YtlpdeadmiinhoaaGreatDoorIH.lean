/- Met of the document's answers: two ranges. -/
import Derived.Test.YtlpdeadmiinhoaaGreatDoorIG
import Derived.Deep.DeepCutAuto
import Derived.Deep.CutBlock
namespace Go.Proofs.YtlpdeadmiinhoaaGreatDoor
open Go.RowKit

set_option maxRecDepth 100000 in
set_option maxHeartbeats 6400000 in
theorem met_range (x y : Ch) (vx vy : Value) (w : World) (hx : ChIn w x vx) (hy : ChIn w y vy) (hvx : validC x = true) (hvy : validC y = true) (hlx : x.isList = false) (hly : y.isList = false)  :
    Calls Tryz.prog 56 #[vx, vy] w (MeetOut w (metC x y)) := by
  have hx0 := hx
  have hy0 := hy
  obtain ⟨ox, sx0⟩ := valid_sp hvx hlx
  obtain ⟨oy, sy0⟩ := valid_sp hvy hly
  have tx := top_spec x.sp ox
  have ty := top_spec y.sp oy
  obtain ⟨i0, hi0, hz0, hz1, hz2⟩ := info_parts Tryz.info3
  obtain ⟨a, ca, rfl, _, hdx, _, hina, _⟩ := hx
  obtain ⟨b, cb, rfl, _, hdy, _, hinb, _⟩ := hy
  obtain ⟨ba, oa, rfl, ga, _⟩ := hina 0 (by omega)
  obtain ⟨bb, ob, rfl, gb, _⟩ := hinb 0 (by omega)
  simp only [Nat.add_zero] at ga gb
  obtain ⟨X, hX⟩ : ∃ X : Obj, X = .cells #[.int .i64 x.kind, .int .i64 x.dflt, .slice (some ⟨ba, oa, none⟩) x.list.length ca] 24 := ⟨_, rfl⟩
  obtain ⟨Y, hY⟩ : ∃ Y : Obj, Y = .cells #[.int .i64 y.kind, .int .i64 y.dflt, .slice (some ⟨bb, ob, none⟩) y.list.length cb] 24 := ⟨_, rfl⟩
  obtain ⟨Z, hZ⟩ : ∃ Z : Obj, Z = .cells #[.int .i64 0, .int .i64 0, .slice none 0 0] 24 := ⟨_, rfl⟩
  have HF : In3 w X Y Z (((w.alloc (.cells #[.int .i64 x.kind, .int .i64 x.dflt, .slice (some ⟨ba, oa, none⟩) x.list.length ca] 24)).alloc (.cells #[.int .i64 y.kind, .int .i64 y.dflt, .slice (some ⟨bb, ob, none⟩) y.list.length cb] 24)).alloc (.cells #[.int .i64 0, .int .i64 0, .slice none 0 0] 24)) := hX ▸ hY ▸ hZ ▸ In3.first w X Y Z
  have HC := Lib.hid fun (wr : World) (h : In3 w X Y Z wr) => In3.cells (hX ▸ hY ▸ hZ ▸ h)
  have HFr := Lib.hid fun (wr : World) (o : Nat) (h : In3 w X Y Z wr) => In3.free hZ h o
  have HLx := Lib.hid fun (wr : World) (hi : In3 w X Y Z wr) => calls_in3 hi (listed_any x _ wr (hx0.mono hi.same))
  have HLy := Lib.hid fun (wr : World) (hi : In3 w X Y Z wr) => calls_in3 hi (listed_any y _ wr (hy0.mono hi.same))
  have HTx := Lib.hid fun (wr : World) (hi : In3 w X Y Z wr) => calls_in3 hi (step_any x _ wr (hx0.mono hi.same) (by omega))
  have HTy := Lib.hid fun (wr : World) (hi : In3 w X Y Z wr) => calls_in3 hi (step_any y _ wr (hy0.mono hi.same) (by omega))
  have HGx := Lib.hid fun (wr : World) (hi : In3 w X Y Z wr) => calls_in3 hi (greatest_any x _ wr (hx0.mono hi.same) hvx hlx)
  have HGy := Lib.hid fun (wr : World) (hi : In3 w X Y Z wr) => calls_in3 hi (greatest_any y _ wr (hy0.mono hi.same) hvy hly)
  have HHx := Lib.hid fun (wr : World) (n : Int) (hi : In3 w X Y Z wr) => calls_in3 hi (has_sp hlx n ▸ has1_any x _ n wr (hx0.mono hi.same) (hasOk_valid hvx))
  have HHy := Lib.hid fun (wr : World) (n : Int) (hi : In3 w X Y Z wr) => calls_in3 hi (has_sp hly n ▸ has1_any y _ n wr (hy0.mono hi.same) (hasOk_valid hvy))
  have HLc := Lib.hid fun (wr : World) => lcm_any x.sp.st y.sp.st wr ox.2.2.2.1 oy.2.2.2.1 ox.2.2.2.2 oy.2.2.2.2
  have HGa := Lib.hid fun (wr : World) (hi : In3 w X Y Z wr) => hi.same.cell ga
  have HGb := Lib.hid fun (wr : World) (hi : In3 w X Y Z wr) => hi.same.cell gb
  have hL1 := lcmI_pos ox.2.2.2.1 oy.2.2.2.1
  have hL2 := lcmI_le' ox.2.2.2.1 oy.2.2.2.1 ox.2.2.2.2 oy.2.2.2.2
  have HNone := Lib.hid fun (h : firstC x.sp y.sp = none) (m : Int) => range_none ox oy h m
  have HSome := Lib.hid fun (f : Int) (h : firstC x.sp y.sp = some f) => range_some ox oy h
  have HMet := Lib.hid fun (f : Int) (h : firstC x.sp y.sp = some f) => range_met hlx hly h
  have HMetN := Lib.hid fun (h : firstC x.sp y.sp = none) => range_met_none hlx hly h
  have HVal := Lib.hid fun (f : Int) (h : firstC x.sp y.sp = some f) => met_valid hvx hvy (range_met hlx hly h)
  obtain ⟨o, ho⟩ : ∃ o, metC x y = o := ⟨_, rfl⟩
  rw [ho] at HMet HMetN ⊢
  clear ho
  have HDD := Lib.hid (And.intro hdx hdy)
  have HWi := Lib.hid fun (P : List Int) (wr : World) (av : Option Addr) (cv : Nat) (hlen : 1 ≤ P.length) (hl2 : P.length ≤ 100) (hcap : P.length ≤ cv) (hk : Kin w X Y Z av P wr) => (wish_list96 P x y av cv _ _ wr hk.new.1 hlen hl2 hcap (hx0.mono hk.i3.same) (hy0.mono hk.i3.same)).mono fun e w' ⟨h1, h2⟩ => (⟨h1, hk.below h2⟩ : e = Ending.returned (.agg #[.int .i64 (ofList P).kind, .int .i64 (wishC (ofList P) x.dflt y.dflt), .slice av P.length cv]) ∧ Kin w X Y Z av P w')
  have HLi := Lib.hid fun (P : List Int) (wr : World) (av : Option Addr) (cv : Nat) (hl2 : P.length ≤ 100) (hk : Kin w X Y Z av P wr) => (list97_any P av cv wr (by omega)).mono fun e w' ⟨h1, h2⟩ => (⟨h1, hk.below h2⟩ : e = Ending.returned (.agg #[.int .i64 (ofList P).kind, .int .i64 0, .slice av P.length cv]) ∧ Kin w X Y Z av P w')
  have HWr := Lib.hid fun (C : Ch) (wr : World) (av : Option Addr) (cv : Nat) (hC : ChIn wr C (.agg #[.int .i64 C.kind, .int .i64 C.dflt, .slice av C.list.length cv])) (hok : HasOk C) (hlen : 1 ≤ C.list.length) (hk : Kin w X Y Z av C.list wr) => (wished_any C x y av cv _ _ wr hC (hx0.mono hk.i3.same) (hy0.mono hk.i3.same) hok hlen).mono fun e w' ⟨h1, h2⟩ => (⟨h1, hk.below h2⟩ : e = Ending.returned (.agg #[.int .i64 C.kind, .int .i64 (wishC C x.dflt y.dflt), .slice av C.list.length cv]) ∧ Kin w X Y Z av C.list w')
  rw [hlx] at HLx
  rw [hly] at HLy
  have exl : x.list.getD 0 0 = x.sp.lo := rfl
  have eyl : y.list.getD 0 0 = y.sp.lo := rfl
  rw [exl] at HGa
  rw [eyl] at HGb
  have bl : 0 ≤ x.sp.lo ∧ x.sp.lo ≤ 1000000000 ∧ 0 ≤ y.sp.lo ∧ y.sp.lo ≤ 1000000000 ∧ 0 ≤ x.sp.top ∧ x.sp.top ≤ 1000000000 ∧ 0 ≤ y.sp.top ∧ y.sp.top ≤ 1000000000 := by
    obtain ⟨a1, a2, a3, _⟩ := ox
    obtain ⟨b1, b2, b3, _⟩ := oy
    omega
  have hxn : 2 ≤ x.list.length ∧ x.list.length ≤ 3 := by omega
  have hyn : 2 ≤ y.list.length ∧ y.list.length ≤ 3 := by omega
  have HFF := Lib.hid HF
  obtain ⟨⟨p0, p1, p2⟩, ⟨q0, q1, q2⟩, _⟩ := HC.out _ HF
  clear hX hY hZ HF hx0 hy0 hvx hvy hlx hly hina hinb exl eyl ga gb tx ty ox oy sx0 sy0
  obtain ⟨L, hL⟩ : ∃ L, lcmI x.sp.st y.sp.st = L := ⟨_, rfl⟩
  rw [hL] at HLc hL1 hL2
  obtain ⟨sx, hsx⟩ : ∃ n, x.sp.st = n := ⟨_, rfl⟩
  obtain ⟨sy, hsy⟩ : ∃ n, y.sp.st = n := ⟨_, rfl⟩
  obtain ⟨xl, hxl⟩ : ∃ n, x.sp.lo = n := ⟨_, rfl⟩
  obtain ⟨yl, hyl⟩ : ∃ n, y.sp.lo = n := ⟨_, rfl⟩
  obtain ⟨xt, hxt⟩ : ∃ n, x.sp.top = n := ⟨_, rfl⟩
  obtain ⟨yt, hyt⟩ : ∃ n, y.sp.top = n := ⟨_, rfl⟩
  obtain ⟨xk, hxk⟩ : ∃ n, x.kind = n := ⟨_, rfl⟩
  obtain ⟨yk, hyk⟩ : ∃ n, y.kind = n := ⟨_, rfl⟩
  obtain ⟨xd, hxd⟩ : ∃ n, x.dflt = n := ⟨_, rfl⟩
  obtain ⟨yd, hyd⟩ : ∃ n, y.dflt = n := ⟨_, rfl⟩
  obtain ⟨xn, hxnn⟩ : ∃ n, x.list.length = n := ⟨_, rfl⟩
  obtain ⟨yn, hynn⟩ : ∃ n, y.list.length = n := ⟨_, rfl⟩
  have HEq := Lib.hid (And.intro hL (And.intro hsx (And.intro hsy (And.intro hxl (And.intro hyl (And.intro hxt (And.intro hyt (And.intro hxk (And.intro hyk (And.intro hxd hyd))))))))))
  simp only [hL, hsx, hsy, hxl, hyl, hxt, hyt, hxk, hyk, hxd, hyd, hxnn, hynn] at bl hL1 hL2 hxn hyn p0 p1 p2 q0 q1 q2 HFF HC HLx HLy HTx HTy HGx HGy HHx HHy HLc HGa HGb HWi HWr ⊢
  clear hL hsx hsy hxl hyl hxt hyt hxk hyk hxd hyd hxnn hynn
  obtain ⟨bl1, bl2, bl3, bl4, bl5, bl6, bl7, bl8⟩ := bl
  obtain ⟨hxn1, hxn2⟩ := hxn
  obtain ⟨hyn1, hyn2⟩ := hyn
  go_enter Tryz.func56, Tryz.ntmps56
  go_upto_region 14 with (first
    | (go_at_call 95; (with_reducible refine (HLx.out _ HFF.out).mono ?_); rintro e w0 ⟨rfl, hi00⟩; obtain ⟨⟨p0, p1, p2⟩, ⟨q0, q1, q2⟩, _⟩ := HC.out _ hi00)
    | (go_at_call 95; (with_reducible refine (HLy.out _ hi00).mono ?_); rintro e w1 ⟨rfl, hi1⟩; clear hi00))
  clear p0 p1 p2 q0 q1 q2
  have HI1 := Lib.hid hi1
  clear hi1
  have HS : Hid (∀ wx : World, In3 w X Y Z wx → wx.cell? ⟨w.heap.size, 0, none⟩ = some (.int .i64 xk) ∧ wx.cell? ⟨w.heap.size, 1, none⟩ = some (.int .i64 xd) ∧ wx.cell? ⟨w.heap.size, 2, none⟩ = some (.slice (some ⟨ba, oa, none⟩) xn ca) ∧ wx.cell? ⟨w.heap.size + 1, 0, none⟩ = some (.int .i64 yk) ∧ wx.cell? ⟨w.heap.size + 1, 1, none⟩ = some (.int .i64 yd) ∧ wx.cell? ⟨w.heap.size + 1, 2, none⟩ = some (.slice (some ⟨bb, ob, none⟩) yn cb) ∧ wx.cell? ⟨ba, oa, none⟩ = some (.int .i64 xl) ∧ wx.cell? ⟨bb, ob, none⟩ = some (.int .i64 yl) ∧ In3 w X Y Z wx) := Lib.hid fun wx h => by
    obtain ⟨⟨p0, p1, p2⟩, ⟨q0, q1, q2⟩, _⟩ := HC.out wx h
    exact ⟨p0, p1, p2, q0, q1, q2, HGa.out _ h, HGb.out _ h, h⟩
  go_region_held3 (fun wx => wx.cell? ⟨w.heap.size, 0, none⟩ = some (.int .i64 xk) ∧ wx.cell? ⟨w.heap.size, 1, none⟩ = some (.int .i64 xd) ∧ wx.cell? ⟨w.heap.size, 2, none⟩ = some (.slice (some ⟨ba, oa, none⟩) xn ca) ∧ wx.cell? ⟨w.heap.size + 1, 0, none⟩ = some (.int .i64 yk) ∧ wx.cell? ⟨w.heap.size + 1, 1, none⟩ = some (.int .i64 yd) ∧ wx.cell? ⟨w.heap.size + 1, 2, none⟩ = some (.slice (some ⟨bb, ob, none⟩) yn cb) ∧ wx.cell? ⟨ba, oa, none⟩ = some (.int .i64 xl) ∧ wx.cell? ⟨bb, ob, none⟩ = some (.int .i64 yl) ∧ In3 w X Y Z wx)
    (first
      | exact HS.out _ HI1.out.drew
      | exact HS.out _ hk4
      | exact HS.out _ hk
      | (go_split_ands; exact HS.out _ (by assumption)))
    (first
      | (go_at_call 57; (with_reducible refine (HTx.out _ (by go_split_ands; assumption)).mono ?_); rintro e wk ⟨rfl, hk⟩)
      | (go_at_call 57; (with_reducible refine (HTy.out _ (by go_split_ands; assumption)).mono ?_); rintro e wk ⟨rfl, hk⟩)
      | (go_at_call 98; (with_reducible refine (HLc.out _).mono ?_); rintro e wk2 ⟨rfl, rfl⟩))
  go_split_ands
  have hi2 := (by assumption : In3 w X Y Z _)
  have HI2 := Lib.hid hi2
  clear hi2
  have hxn0 : (0 : Int) < (xn : Int) := by omega
  have hyn0 : (0 : Int) < (yn : Int) := by omega
  have hxn3 : 0 < xn := by omega
  have hyn3 : 0 < yn := by omega
  go_upto_region 15 with fail
  obtain ⟨M, hM⟩ : ∃ M, max xl yl = M := ⟨_, rfl⟩
  obtain ⟨T, hT⟩ : ∃ T, min xt yt = T := ⟨_, rfl⟩
  have HMT := Lib.hid (And.intro hM hT)
  go_cut [11, 12] (fun s11 s12 wx => s11 = .int .i64 M ∧ s12 = .int .i64 T ∧ In3 w X Y Z wx)
  case first =>
    have c1 : (xl < yl ∧ M = yl) ∨ (¬ xl < yl ∧ M = xl) := by omega
    have c2 : (yt < xt ∧ T = yt) ∨ (¬ yt < xt ∧ T = xt) := by omega
    clear hM hT
    rcases c1 with ⟨hml, rfl⟩ | ⟨hml, rfl⟩ <;> rcases c2 with ⟨hmn, rfl⟩ | ⟨hmn, rfl⟩
    · go_region_held3 (fun wx => wx.cell? ⟨w.heap.size, 0, none⟩ = some (.int .i64 xk) ∧ wx.cell? ⟨w.heap.size, 1, none⟩ = some (.int .i64 xd) ∧ wx.cell? ⟨w.heap.size, 2, none⟩ = some (.slice (some ⟨ba, oa, none⟩) xn ca) ∧ wx.cell? ⟨w.heap.size + 1, 0, none⟩ = some (.int .i64 yk) ∧ wx.cell? ⟨w.heap.size + 1, 1, none⟩ = some (.int .i64 yd) ∧ wx.cell? ⟨w.heap.size + 1, 2, none⟩ = some (.slice (some ⟨bb, ob, none⟩) yn cb) ∧ wx.cell? ⟨ba, oa, none⟩ = some (.int .i64 xl) ∧ wx.cell? ⟨bb, ob, none⟩ = some (.int .i64 M) ∧ In3 w X Y Z wx)
        (first
          | exact HS.out _ HI2.out.drew
          | exact HS.out _ hk5
          | (go_split_ands; exact HS.out _ (by assumption)))
        (first
          | (go_at_call 99; (with_reducible refine (HGx.out _ (by go_split_ands; assumption)).mono ?_); rintro e wk3 ⟨rfl, hk5⟩)
          | (go_at_call 99; (with_reducible refine (HGy.out _ (by go_split_ands; assumption)).mono ?_); rintro e wk4 ⟨rfl, hk5⟩))
      all_goals
        go_split_ands
        have hi3 := (by assumption : In3 w X Y Z _)
        go_wp2_with fail
        go_meet
        exact ⟨rfl, rfl, hi3⟩
    · go_region_held3 (fun wx => wx.cell? ⟨w.heap.size, 0, none⟩ = some (.int .i64 xk) ∧ wx.cell? ⟨w.heap.size, 1, none⟩ = some (.int .i64 xd) ∧ wx.cell? ⟨w.heap.size, 2, none⟩ = some (.slice (some ⟨ba, oa, none⟩) xn ca) ∧ wx.cell? ⟨w.heap.size + 1, 0, none⟩ = some (.int .i64 yk) ∧ wx.cell? ⟨w.heap.size + 1, 1, none⟩ = some (.int .i64 yd) ∧ wx.cell? ⟨w.heap.size + 1, 2, none⟩ = some (.slice (some ⟨bb, ob, none⟩) yn cb) ∧ wx.cell? ⟨ba, oa, none⟩ = some (.int .i64 xl) ∧ wx.cell? ⟨bb, ob, none⟩ = some (.int .i64 M) ∧ In3 w X Y Z wx)
        (first
          | exact HS.out _ HI2.out.drew
          | exact HS.out _ hk5
          | (go_split_ands; exact HS.out _ (by assumption)))
        (first
          | (go_at_call 99; (with_reducible refine (HGx.out _ (by go_split_ands; assumption)).mono ?_); rintro e wk3 ⟨rfl, hk5⟩)
          | (go_at_call 99; (with_reducible refine (HGy.out _ (by go_split_ands; assumption)).mono ?_); rintro e wk4 ⟨rfl, hk5⟩))
      all_goals
        go_split_ands
        have hi3 := (by assumption : In3 w X Y Z _)
        go_wp2_with fail
        go_meet
        exact ⟨rfl, rfl, hi3⟩
    · go_region_held3 (fun wx => wx.cell? ⟨w.heap.size, 0, none⟩ = some (.int .i64 xk) ∧ wx.cell? ⟨w.heap.size, 1, none⟩ = some (.int .i64 xd) ∧ wx.cell? ⟨w.heap.size, 2, none⟩ = some (.slice (some ⟨ba, oa, none⟩) xn ca) ∧ wx.cell? ⟨w.heap.size + 1, 0, none⟩ = some (.int .i64 yk) ∧ wx.cell? ⟨w.heap.size + 1, 1, none⟩ = some (.int .i64 yd) ∧ wx.cell? ⟨w.heap.size + 1, 2, none⟩ = some (.slice (some ⟨bb, ob, none⟩) yn cb) ∧ wx.cell? ⟨ba, oa, none⟩ = some (.int .i64 M) ∧ wx.cell? ⟨bb, ob, none⟩ = some (.int .i64 yl) ∧ In3 w X Y Z wx)
        (first
          | exact HS.out _ HI2.out.drew
          | exact HS.out _ hk5
          | (go_split_ands; exact HS.out _ (by assumption)))
        (first
          | (go_at_call 99; (with_reducible refine (HGx.out _ (by go_split_ands; assumption)).mono ?_); rintro e wk3 ⟨rfl, hk5⟩)
          | (go_at_call 99; (with_reducible refine (HGy.out _ (by go_split_ands; assumption)).mono ?_); rintro e wk4 ⟨rfl, hk5⟩))
      all_goals
        go_split_ands
        have hi3 := (by assumption : In3 w X Y Z _)
        go_wp2_with fail
        go_meet
        exact ⟨rfl, rfl, hi3⟩
    · go_region_held3 (fun wx => wx.cell? ⟨w.heap.size, 0, none⟩ = some (.int .i64 xk) ∧ wx.cell? ⟨w.heap.size, 1, none⟩ = some (.int .i64 xd) ∧ wx.cell? ⟨w.heap.size, 2, none⟩ = some (.slice (some ⟨ba, oa, none⟩) xn ca) ∧ wx.cell? ⟨w.heap.size + 1, 0, none⟩ = some (.int .i64 yk) ∧ wx.cell? ⟨w.heap.size + 1, 1, none⟩ = some (.int .i64 yd) ∧ wx.cell? ⟨w.heap.size + 1, 2, none⟩ = some (.slice (some ⟨bb, ob, none⟩) yn cb) ∧ wx.cell? ⟨ba, oa, none⟩ = some (.int .i64 M) ∧ wx.cell? ⟨bb, ob, none⟩ = some (.int .i64 yl) ∧ In3 w X Y Z wx)
        (first
          | exact HS.out _ HI2.out.drew
          | exact HS.out _ hk5
          | (go_split_ands; exact HS.out _ (by assumption)))
        (first
          | (go_at_call 99; (with_reducible refine (HGx.out _ (by go_split_ands; assumption)).mono ?_); rintro e wk3 ⟨rfl, hk5⟩)
          | (go_at_call 99; (with_reducible refine (HGy.out _ (by go_split_ands; assumption)).mono ?_); rintro e wk4 ⟨rfl, hk5⟩))
      all_goals
        go_split_ands
        have hi3 := (by assumption : In3 w X Y Z _)
        go_wp2_with fail
        go_meet
        exact ⟨rfl, rfl, hi3⟩
  obtain ⟨rfl, rfl, hi3⟩ := hcut
  have HI3 := Lib.hid hi3
  clear hi3 HI2 HI1 HGx HGy HTx HTy HLc HLx HLy hM hT
  have HSome2 := HSome.out
  have ⟨hM, hT⟩ := HMT.out
  obtain ⟨e1, e2, e3, e4, e5, e6, e7, _⟩ := HEq.out
  rw [e1, e4, e5, e6, e7, hM, hT] at HSome2
  have HSm := Lib.hid HSome2
  have hML : 0 ≤ M ∧ M ≤ 1000000000 := by omega
  have hTL : 0 ≤ T ∧ T ≤ 1000000000 := by omega
  clear HSome HSome2 hM hT e1 e2 e3 e4 e5 e6 e7
  obtain ⟨hM1, hM2⟩ := hML
  obtain ⟨hT1, hT2⟩ := hTL
  cases hf : firstC x.sp y.sp with
  | none =>
    have HNo := Lib.hid (HNone.out hf)
    have HOO : Hid (o = none) := Lib.hid (HMetN.out hf)
    clear hf HSm HMet HMetN HVal HNone
    go_wp2_with fail
    go_loopw [13, 14] (fun fv v wr => fv = .int .i64 (-1) ∧ ∃ k : Nat, v = .int .i64 (M + k) ∧ (k : Int) ≤ L ∧ In3 w X Y Z wr) (fun _ v _ => (M + L - intOf v).toNat)
    case atStart => exact ⟨rfl, 0, by simp, by omega, HI3.out⟩
    case round =>
      obtain ⟨rfl, k, rfl, hk, hi4⟩ := hrel
      rename_i wr _
      obtain ⟨⟨p0, p1, p2⟩, ⟨q0, q1, q2⟩, r0, r1, r2⟩ := HC.out _ hi4
      have f0 := HFr.out _ 0 hi4
      have f1 := HFr.out _ 1 hi4
      have f2 := HFr.out _ 2 hi4
      by_cases h1 : M + (k : Int) ≤ T
      · by_cases h2 : (k : Int) < L
        · have h3 : M + (k : Int) < M + L := by omega
          have hh := HNo.out (M + k)
          have hx1 := HHx.out wr (M + k) hi4
          obtain ⟨B1, hB1⟩ : ∃ B, x.sp.has (M + k) = B := ⟨_, rfl⟩
          rw [hB1] at hh hx1
          clear hB1
          cases B1 with
          | false =>
            clear hh
            go_wp2_with (go_at_call 20; (with_reducible refine hx1.mono ?_); rintro e w5 ⟨rfl, hi5⟩)
            go_roundw
            case rel => exact ⟨rfl, k + 1, by go_num, by omega, hi5⟩
            case measure => simp [intOf]; omega
          | true =>
            have HB2 : Hid (y.sp.has (M + k) = false) := Lib.hid (by simpa using hh)
            clear hh
            go_wp2_with (first
              | (go_at_call 20; (with_reducible refine hx1.mono ?_); rintro e w5 ⟨rfl, hi5⟩; obtain ⟨⟨p0, p1, p2⟩, ⟨q0, q1, q2⟩, r0, r1, r2⟩ := HC.out _ hi5; have hy1 := HHy.out w5 (M + k) hi5; rw [HB2.out] at hy1)
              | (go_at_call 20; (with_reducible refine hy1.mono ?_); rintro e w6 ⟨rfl, hi6⟩))
            go_roundw
            case rel => exact ⟨rfl, k + 1, by go_num, by omega, hi6⟩
            case measure => simp [intOf]; omega
        · have h3 : ¬ M + (k : Int) < M + L := by omega
          go_wp2_with fail
          refine bodyPost_ret (v := .tuple #[.agg #[.int .i64 0, .int .i64 0, .slice none 0 0], .bool false]) (by simp [results, Tryz.results56, go_sem, r0, r1, r2]) rfl ?_
          rw [HOO.out]
          exact ⟨_, rfl, zCh_new _ _, ((hi4.out.setCell (by simp; omega) _).setCell (by simp; omega) _).setCell (by simp; omega) _⟩
      · go_wp2_with fail
        refine bodyPost_ret (v := .tuple #[.agg #[.int .i64 0, .int .i64 0, .slice none 0 0], .bool false]) (by simp [results, Tryz.results56, go_sem, r0, r1, r2]) rfl ?_
        rw [HOO.out]
        exact ⟨_, rfl, zCh_new _ _, ((hi4.out.setCell (by simp; omega) _).setCell (by simp; omega) _).setCell (by simp; omega) _⟩
  | some f =>
    obtain ⟨⟨g1, g2, g3, g4, _⟩, ⟨g6, g7⟩, g8, g9, g10, g11, g12⟩ := HSm.out f hf
    have HV := Lib.hid (HVal.out f hf)
    have HOO := Lib.hid (HMet.out f hf)
    have HFa := Lib.hid (And.intro (And.intro g6 g7) g8)
    have HFb := Lib.hid (And.intro g9 (And.intro g10 (And.intro g11 g12)))
    clear hf g6 g7 g8 g9 g10 g11 g12 HSm HMet HMetN HVal HNone
    go_upto_block 2 with fail
    go_cut [13, 14] (fun s13 s14 wx => s13 = .int .i64 f ∧ In3 w X Y Z wx)
    case first =>
      go_wp2_with fail
      go_loopw [13, 14] (fun fv v wr => ∃ k : Nat, v = .int .i64 (M + k) ∧ In3 w X Y Z wr ∧ ((fv = .int .i64 (-1) ∧ M + (k : Int) ≤ f) ∨ (fv = .int .i64 f ∧ M + (k : Int) = f + 1))) (fun _ v _ => (M + L + 1 - intOf v).toNat)
      case atStart => exact ⟨0, by simp, HI3.out, Or.inl ⟨rfl, by omega⟩⟩
      case round =>
        obtain ⟨k, rfl, hi4, hway⟩ := hrel
        rename_i wr _
        obtain ⟨⟨p0, p1, p2⟩, ⟨q0, q1, q2⟩, r0, r1, r2⟩ := HC.out _ hi4
        rcases hway with ⟨rfl, hle⟩ | ⟨rfl, heq⟩
        · have h1 : M + (k : Int) ≤ T := by omega
          have h3 : M + (k : Int) < M + L := by omega
          have hx1 := HHx.out wr (M + k) hi4
          have hy0 := fun w5 hi5 => HHy.out w5 (M + k) hi5
          by_cases he : M + (k : Int) = f
          · rw [he, HFa.out.1.1] at hx1
            rw [he, HFa.out.1.2] at hy0
            have HY := Lib.hid hy0
            clear hy0 hle
            have HE := Lib.hid he
            rw [he] at h1 h3 ⊢
            clear he
            go_wp2_with (first
              | (go_at_call 20; (with_reducible refine hx1.mono ?_); rintro e w5 ⟨rfl, hi5⟩; obtain ⟨⟨p0, p1, p2⟩, ⟨q0, q1, q2⟩, r0, r1, r2⟩ := HC.out _ hi5; have hy1 := HY.out w5 hi5)
              | (go_at_call 20; (with_reducible refine hy1.mono ?_); rintro e w6 ⟨rfl, hi6⟩))
            go_roundw
            case rel => exact ⟨k + 1, by rw [← HE.out]; go_num, hi6, Or.inr ⟨rfl, by have := HE.out; omega⟩⟩
            case measure => have := HE.out; simp [intOf]; omega
          · have hh := HFa.out.2 (M + k) (by omega)
            have HY := Lib.hid hy0
            have hlt : M + (k : Int) < f := by omega
            clear hy0 he hle
            obtain ⟨B1, hB1⟩ : ∃ B, x.sp.has (M + k) = B := ⟨_, rfl⟩
            rw [hB1] at hh hx1
            clear hB1
            cases B1 with
            | false =>
              clear hh HY
              go_wp2_with (go_at_call 20; (with_reducible refine hx1.mono ?_); rintro e w5 ⟨rfl, hi5⟩)
              go_roundw
              case rel => exact ⟨k + 1, by go_num, hi5, Or.inl ⟨rfl, by omega⟩⟩
              case measure => simp [intOf]; omega
            | true =>
              have HB2 : Hid (y.sp.has (M + k) = false) := Lib.hid (by simpa using hh)
              clear hh
              go_wp2_with (first
                | (go_at_call 20; (with_reducible refine hx1.mono ?_); rintro e w5 ⟨rfl, hi5⟩; obtain ⟨⟨p0, p1, p2⟩, ⟨q0, q1, q2⟩, r0, r1, r2⟩ := HC.out _ hi5; have hy1 := HY.out w5 hi5; rw [HB2.out] at hy1)
                | (go_at_call 20; (with_reducible refine hy1.mono ?_); rintro e w6 ⟨rfl, hi6⟩))
              go_roundw
              case rel => exact ⟨k + 1, by go_num, hi6, Or.inl ⟨rfl, by omega⟩⟩
              case measure => simp [intOf]; omega
        · rw [heq]
          clear heq
          have hf0 : ¬ f < 0 := by omega
          by_cases h1 : f + 1 ≤ T
          · by_cases h2 : f + 1 < M + L
            · go_wp2_with fail
              go_meet
              exact ⟨rfl, hi4⟩
            · go_wp2_with fail
              go_meet
              exact ⟨rfl, hi4⟩
          · go_wp2_with fail
            go_meet
            exact ⟨rfl, hi4⟩
    case rest =>
      obtain ⟨rfl, hi5⟩ := hcut
      have HI5 := Lib.hid hi5
      obtain ⟨⟨p0, p1, p2⟩, ⟨q0, q1, q2⟩, r0, r1, r2⟩ := HC.out _ hi5
      clear hi5 HI3
      rename_i wc _
      have hf0 : ¬ f < 0 := by omega
      have hw1 : 0 ≤ T - f := by omega
      have hw2 : (T - f).tdiv L = (T - f) / L := Int.tdiv_eq_ediv_of_nonneg (by omega)
      have hw3 := Int.ediv_nonneg hw1 (show 0 ≤ L by omega)
      have hw4 : (T - f) / L ≤ T - f := Int.ediv_le_self L hw1
      obtain ⟨Q, hQ⟩ : ∃ Q, (T - f) / L = Q := ⟨_, rfl⟩
      have HFc := HFb.out
      rw [hQ] at hw2 hw3 hw4 HFc
      have HFd := Lib.hid HFc
      have hL0 : ¬ L = 0 := by omega
      clear hQ HFc HFb
      go_upto_block 4 with fail
      have HSX : Hid (∀ wx : World, In3 w X Y Z wx → wx.cell? ⟨w.heap.size, 0, none⟩ = some (.int .i64 xk) ∧ wx.cell? ⟨w.heap.size, 1, none⟩ = some (.int .i64 xd) ∧ wx.cell? ⟨w.heap.size, 2, none⟩ = some (.slice (some ⟨ba, oa, none⟩) xn ca) ∧ wx.cell? ⟨w.heap.size + 1, 0, none⟩ = some (.int .i64 yk) ∧ wx.cell? ⟨w.heap.size + 1, 1, none⟩ = some (.int .i64 yd) ∧ wx.cell? ⟨w.heap.size + 1, 2, none⟩ = some (.slice (some ⟨bb, ob, none⟩) yn cb)) := Lib.hid fun wx h => by
        obtain ⟨⟨p0, p1, p2⟩, ⟨q0, q1, q2⟩, _⟩ := HC.out wx h
        exact ⟨p0, p1, p2, q0, q1, q2⟩
      have HSet : Hid (∀ (wx : World) (o : Nat) (v : Value), ((wx.cell? ⟨w.heap.size, 0, none⟩ = some (.int .i64 xk) ∧ wx.cell? ⟨w.heap.size, 1, none⟩ = some (.int .i64 xd) ∧ wx.cell? ⟨w.heap.size, 2, none⟩ = some (.slice (some ⟨ba, oa, none⟩) xn ca) ∧ wx.cell? ⟨w.heap.size + 1, 0, none⟩ = some (.int .i64 yk) ∧ wx.cell? ⟨w.heap.size + 1, 1, none⟩ = some (.int .i64 yd) ∧ wx.cell? ⟨w.heap.size + 1, 2, none⟩ = some (.slice (some ⟨bb, ob, none⟩) yn cb)) → (fun wx : World => wx.cell? ⟨w.heap.size, 0, none⟩ = some (.int .i64 xk) ∧ wx.cell? ⟨w.heap.size, 1, none⟩ = some (.int .i64 xd) ∧ wx.cell? ⟨w.heap.size, 2, none⟩ = some (.slice (some ⟨ba, oa, none⟩) xn ca) ∧ wx.cell? ⟨w.heap.size + 1, 0, none⟩ = some (.int .i64 yk) ∧ wx.cell? ⟨w.heap.size + 1, 1, none⟩ = some (.int .i64 yd) ∧ wx.cell? ⟨w.heap.size + 1, 2, none⟩ = some (.slice (some ⟨bb, ob, none⟩) yn cb)) (wx.setCell ⟨w.heap.size + 1 + 1, o, none⟩ v))) := Lib.hid fun wx o v h => by
        obtain ⟨a1, a2, a3, a4, a5, a6⟩ := h
        refine ⟨?_, ?_, ?_, ?_, ?_, ?_⟩ <;> (rw [World.cell?_setCell_far _ _ _ _ (by simp <;> omega)]; assumption)
      have hwc : w.heap.size + 3 ≤ wc.heap.size := HI5.out.size
      by_cases hmany : L ≤ 1000 ∧ 20 < Q + 1
      · obtain ⟨hm1, hm2⟩ := hmany
        have hb9 : f + Q * L ≤ 1000000000 := by
          have h1 := HFd.out
          have h2 := valid_bound HV.out
          have h3 : manyOrFew x y (outS x.sp y.sp f) = if x.kind = 3 ∧ y.kind = 3 then ⟨3, 0, [f, f + Q * L]⟩ else ⟨4, 0, [f, f + Q * L, L]⟩ := by
            by_cases hk : x.kind = 3 ∧ y.kind = 3
            · rw [if_pos hk]; exact many_range_eq h1.2.2.1 h1.2.2.2 h1.1 h1.2.1 ⟨hm1, hm2⟩ hk
            · rw [if_neg hk]; exact many_step_eq h1.2.2.1 h1.2.2.2 h1.1 h1.2.1 ⟨hm1, hm2⟩ hk
          have h4 : boundB (manyOrFew x y (outS x.sp y.sp f)).list = true := h2
          rw [h3] at h4
          have h5 : f + Q * L ∈ (if x.kind = 3 ∧ y.kind = 3 then (⟨3, 0, [f, f + Q * L]⟩ : Ch) else ⟨4, 0, [f, f + Q * L, L]⟩).list := by
            split <;> simp
          exact (boundB_mem h4 h5).2
        have hb8 : 0 ≤ Q * L := Int.mul_nonneg hw3 (by omega)
        have n1 : ¬ Q + 1 ≤ 20 := by omega
        have n2 : ¬ 1000 < L := by omega
        obtain ⟨_, _, _, _, _, _, _, ek1, ek2, _, _⟩ := HEq.out
        have HEk := Lib.hid (And.intro ek1 ek2)
        have hq9 : Q ≤ 1000000000 := by omega
        have hb7 : Q * L ≤ 1000000000 := by omega
        clear ek1 ek2 hw2 hw4
        by_cases hx3 : xk = 3
        · by_cases hy3 : yk = 3
          · have hkk : x.kind = 3 ∧ y.kind = 3 := by rw [HEk.out.1, HEk.out.2]; exact ⟨hx3, hy3⟩
            have x3 : (xk == 3) = true := by simpa using hx3
            have y3 : (yk == 3) = true := by simpa using hy3
            clear hx3 hy3
            have HP := many_range_eq (x := x) (y := y) HFd.out.2.2.1 HFd.out.2.2.2 HFd.out.1 HFd.out.2.1 ⟨hm1, hm2⟩ hkk
            have HOP : Hid (o = some ((Ch.mk 3 0 [f, f + Q * L]).wished xd yd)) := Lib.hid (by have h := HOO.out; rw [HP] at h; obtain ⟨_, _, _, _, _, _, _, _, _, e10, e11⟩ := HEq.out; rw [h, e10, e11])
            have hv := HV.out
            rw [HP] at hv
            obtain ⟨hok, hlen⟩ := wished_hasOk hv
            have hbd : boundB [f, f + Q * L] = true := valid_bound hv
            have hI := ints_of_bound hbd
            have hnew : NewIn (w.heap.size + 3) (wc.alloc (.cells #[.int .i64 f, .int .i64 (f + Q * L)] 3)) (some ⟨wc.heap.size, 0, none⟩) [f, f + Q * L] := row_ints (l := [f, f + Q * L]) (heap_alloc_new wc _) hwc (by simp) hI
            have hcall : Calls Tryz.prog 96 #[.agg #[.int .i64 3, .int .i64 0, .slice (some ⟨wc.heap.size, 0, none⟩) 2 2], .agg #[.int .i64 xk, .int .i64 xd, .slice (some ⟨ba, oa, none⟩) xn ca], .agg #[.int .i64 yk, .int .i64 yd, .slice (some ⟨bb, ob, none⟩) yn cb]] (wc.alloc (.cells #[.int .i64 f, .int .i64 (f + Q * L)] 3)) fun e w' => e = .returned (.agg #[.int .i64 3, .int .i64 (wishC ⟨3, 0, [f, f + Q * L]⟩ xd yd), .slice (some ⟨wc.heap.size, 0, none⟩) 2 2]) ∧ Kin w X Y Z (some ⟨wc.heap.size, 0, none⟩) [f, f + Q * L] w' :=
              HWr.out ⟨3, 0, [f, f + Q * L]⟩ _ _ 2 ⟨_, _, rfl, by unfold I64; simp, by unfold I64; simp, by simp, hnew.1, by simp⟩ hok hlen ⟨HI5.out.alloc _, hnew⟩
            have HCall := Lib.hid hcall
            have HBd := Lib.hid hbd
            clear HP hv hok hlen hbd hI hnew hcall hkk
            have hi6 := HI5.out.alloc (.cells #[.int .i64 f, .int .i64 (f + Q * L)] 3)
            obtain ⟨⟨p0, p1, p2⟩, ⟨q0, q1, q2⟩, r0, r1, r2⟩ := HC.out _ HI5.out
            obtain ⟨⟨p0', p1', p2'⟩, ⟨q0', q1', q2'⟩, _⟩ := HC.out _ hi6
            go_wp2_with (go_at_call 96; (with_reducible refine HCall.out.mono ?_); rintro e w6 ⟨rfl, hk6⟩; have f0 := HFr.out _ 0 hk6.i3; have f1 := HFr.out _ 1 hk6.i3; have f2 := HFr.out _ 2 hk6.i3; obtain ⟨_, _, r0, r1, r2⟩ := HC.out _ hk6.i3)
            refine bodyPost_ret (v := .tuple #[.agg #[.int .i64 3, .int .i64 (wishC ⟨3, 0, [f, f + Q * L]⟩ xd yd), .slice (some ⟨wc.heap.size, 0, none⟩) 2 2], .bool true]) (by simp [results, Tryz.results56, go_sem, r0, r1, r2]) rfl ?_
            have hnew2 := ((hk6.new.set (p := ⟨w.heap.size + 1 + 1, 0, none⟩) (by simp) (.int .i64 3)).set (p := ⟨w.heap.size + 1 + 1, 1, none⟩) (by simp) (.int .i64 (wishC ⟨3, 0, [f, f + Q * L]⟩ xd yd))).set (p := ⟨w.heap.size + 1 + 1, 2, none⟩) (by simp) (.slice (some ⟨wc.heap.size, 0, none⟩) 2 2)
            rw [HOP.out]
            obtain ⟨_, _, _, _, _, _, _, _, _, e10, e11⟩ := HEq.out
            have hd := HDD.out
            rw [e10, e11] at hd
            exact ⟨_, rfl, ⟨_, 2, rfl, by unfold I64 Ch.wished; simp, wish_num (C := ⟨3, 0, [f, f + Q * L]⟩) hd.1 hd.2 HBd.out, by unfold Ch.wished; simp, hnew2.weaken (by omega), by unfold Ch.wished; simp⟩, ((hk6.i3.out.setCell (by simp; omega) _).setCell (by simp; omega) _).setCell (by simp; omega) _⟩
          · have hkk : ¬ (x.kind = 3 ∧ y.kind = 3) := by rw [HEk.out.1, HEk.out.2]; exact fun h => hy3 h.2
            have x3 : (xk == 3) = true := by simpa using hx3
            have y3 : (yk == 3) = false := by simpa using hy3
            clear hx3 hy3
            have HP := many_step_eq (x := x) (y := y) HFd.out.2.2.1 HFd.out.2.2.2 HFd.out.1 HFd.out.2.1 ⟨hm1, hm2⟩ hkk
            have HOP : Hid (o = some ((Ch.mk 4 0 [f, f + Q * L, L]).wished xd yd)) := Lib.hid (by have h := HOO.out; rw [HP] at h; obtain ⟨_, _, _, _, _, _, _, _, _, e10, e11⟩ := HEq.out; rw [h, e10, e11])
            have hv := HV.out
            rw [HP] at hv
            obtain ⟨hok, hlen⟩ := wished_hasOk hv
            have hbd : boundB [f, f + Q * L, L] = true := valid_bound hv
            have hI := ints_of_bound hbd
            have hnew : NewIn (w.heap.size + 3) (wc.alloc (.cells #[.int .i64 f, .int .i64 (f + Q * L), .int .i64 L] 3)) (some ⟨wc.heap.size, 0, none⟩) [f, f + Q * L, L] := row_ints (l := [f, f + Q * L, L]) (heap_alloc_new wc _) hwc (by simp) hI
            have hcall : Calls Tryz.prog 96 #[.agg #[.int .i64 4, .int .i64 0, .slice (some ⟨wc.heap.size, 0, none⟩) 3 3], .agg #[.int .i64 xk, .int .i64 xd, .slice (some ⟨ba, oa, none⟩) xn ca], .agg #[.int .i64 yk, .int .i64 yd, .slice (some ⟨bb, ob, none⟩) yn cb]] (wc.alloc (.cells #[.int .i64 f, .int .i64 (f + Q * L), .int .i64 L] 3)) fun e w' => e = .returned (.agg #[.int .i64 4, .int .i64 (wishC ⟨4, 0, [f, f + Q * L, L]⟩ xd yd), .slice (some ⟨wc.heap.size, 0, none⟩) 3 3]) ∧ Kin w X Y Z (some ⟨wc.heap.size, 0, none⟩) [f, f + Q * L, L] w' :=
              HWr.out ⟨4, 0, [f, f + Q * L, L]⟩ _ _ 3 ⟨_, _, rfl, by unfold I64; simp, by unfold I64; simp, by simp, hnew.1, by simp⟩ hok hlen ⟨HI5.out.alloc _, hnew⟩
            have HCall := Lib.hid hcall
            have HBd := Lib.hid hbd
            clear HP hv hok hlen hbd hI hnew hcall hkk
            have hi6 := HI5.out.alloc (.cells #[.int .i64 f, .int .i64 (f + Q * L), .int .i64 L] 3)
            obtain ⟨⟨p0, p1, p2⟩, ⟨q0, q1, q2⟩, r0, r1, r2⟩ := HC.out _ HI5.out
            obtain ⟨⟨p0', p1', p2'⟩, ⟨q0', q1', q2'⟩, _⟩ := HC.out _ hi6
            go_wp2_with (go_at_call 96; (with_reducible refine HCall.out.mono ?_); rintro e w6 ⟨rfl, hk6⟩; have f0 := HFr.out _ 0 hk6.i3; have f1 := HFr.out _ 1 hk6.i3; have f2 := HFr.out _ 2 hk6.i3; obtain ⟨_, _, r0, r1, r2⟩ := HC.out _ hk6.i3)
            refine bodyPost_ret (v := .tuple #[.agg #[.int .i64 4, .int .i64 (wishC ⟨4, 0, [f, f + Q * L, L]⟩ xd yd), .slice (some ⟨wc.heap.size, 0, none⟩) 3 3], .bool true]) (by simp [results, Tryz.results56, go_sem, r0, r1, r2]) rfl ?_
            have hnew2 := ((hk6.new.set (p := ⟨w.heap.size + 1 + 1, 0, none⟩) (by simp) (.int .i64 4)).set (p := ⟨w.heap.size + 1 + 1, 1, none⟩) (by simp) (.int .i64 (wishC ⟨4, 0, [f, f + Q * L, L]⟩ xd yd))).set (p := ⟨w.heap.size + 1 + 1, 2, none⟩) (by simp) (.slice (some ⟨wc.heap.size, 0, none⟩) 3 3)
            rw [HOP.out]
            obtain ⟨_, _, _, _, _, _, _, _, _, e10, e11⟩ := HEq.out
            have hd := HDD.out
            rw [e10, e11] at hd
            exact ⟨_, rfl, ⟨_, 3, rfl, by unfold I64 Ch.wished; simp, wish_num (C := ⟨4, 0, [f, f + Q * L, L]⟩) hd.1 hd.2 HBd.out, by unfold Ch.wished; simp, hnew2.weaken (by omega), by unfold Ch.wished; simp⟩, ((hk6.i3.out.setCell (by simp; omega) _).setCell (by simp; omega) _).setCell (by simp; omega) _⟩
        · have hkk : ¬ (x.kind = 3 ∧ y.kind = 3) := by rw [HEk.out.1, HEk.out.2]; exact fun h => hx3 h.1
          have x3 : (xk == 3) = false := by simpa using hx3
          clear hx3
          have HP := many_step_eq (x := x) (y := y) HFd.out.2.2.1 HFd.out.2.2.2 HFd.out.1 HFd.out.2.1 ⟨hm1, hm2⟩ hkk
          have HOP : Hid (o = some ((Ch.mk 4 0 [f, f + Q * L, L]).wished xd yd)) := Lib.hid (by have h := HOO.out; rw [HP] at h; obtain ⟨_, _, _, _, _, _, _, _, _, e10, e11⟩ := HEq.out; rw [h, e10, e11])
          have hv := HV.out
          rw [HP] at hv
          obtain ⟨hok, hlen⟩ := wished_hasOk hv
          have hbd : boundB [f, f + Q * L, L] = true := valid_bound hv
          have hI := ints_of_bound hbd
          have hnew : NewIn (w.heap.size + 3) (wc.alloc (.cells #[.int .i64 f, .int .i64 (f + Q * L), .int .i64 L] 3)) (some ⟨wc.heap.size, 0, none⟩) [f, f + Q * L, L] := row_ints (l := [f, f + Q * L, L]) (heap_alloc_new wc _) hwc (by simp) hI
          have hcall : Calls Tryz.prog 96 #[.agg #[.int .i64 4, .int .i64 0, .slice (some ⟨wc.heap.size, 0, none⟩) 3 3], .agg #[.int .i64 xk, .int .i64 xd, .slice (some ⟨ba, oa, none⟩) xn ca], .agg #[.int .i64 yk, .int .i64 yd, .slice (some ⟨bb, ob, none⟩) yn cb]] (wc.alloc (.cells #[.int .i64 f, .int .i64 (f + Q * L), .int .i64 L] 3)) fun e w' => e = .returned (.agg #[.int .i64 4, .int .i64 (wishC ⟨4, 0, [f, f + Q * L, L]⟩ xd yd), .slice (some ⟨wc.heap.size, 0, none⟩) 3 3]) ∧ Kin w X Y Z (some ⟨wc.heap.size, 0, none⟩) [f, f + Q * L, L] w' :=
            HWr.out ⟨4, 0, [f, f + Q * L, L]⟩ _ _ 3 ⟨_, _, rfl, by unfold I64; simp, by unfold I64; simp, by simp, hnew.1, by simp⟩ hok hlen ⟨HI5.out.alloc _, hnew⟩
          have HCall := Lib.hid hcall
          have HBd := Lib.hid hbd
          clear HP hv hok hlen hbd hI hnew hcall hkk
          have hi6 := HI5.out.alloc (.cells #[.int .i64 f, .int .i64 (f + Q * L), .int .i64 L] 3)
          obtain ⟨⟨p0, p1, p2⟩, ⟨q0, q1, q2⟩, r0, r1, r2⟩ := HC.out _ HI5.out
          obtain ⟨⟨p0', p1', p2'⟩, ⟨q0', q1', q2'⟩, _⟩ := HC.out _ hi6
          go_wp2_with (go_at_call 96; (with_reducible refine HCall.out.mono ?_); rintro e w6 ⟨rfl, hk6⟩; have f0 := HFr.out _ 0 hk6.i3; have f1 := HFr.out _ 1 hk6.i3; have f2 := HFr.out _ 2 hk6.i3; obtain ⟨_, _, r0, r1, r2⟩ := HC.out _ hk6.i3)
          refine bodyPost_ret (v := .tuple #[.agg #[.int .i64 4, .int .i64 (wishC ⟨4, 0, [f, f + Q * L, L]⟩ xd yd), .slice (some ⟨wc.heap.size, 0, none⟩) 3 3], .bool true]) (by simp [results, Tryz.results56, go_sem, r0, r1, r2]) rfl ?_
          have hnew2 := ((hk6.new.set (p := ⟨w.heap.size + 1 + 1, 0, none⟩) (by simp) (.int .i64 4)).set (p := ⟨w.heap.size + 1 + 1, 1, none⟩) (by simp) (.int .i64 (wishC ⟨4, 0, [f, f + Q * L, L]⟩ xd yd))).set (p := ⟨w.heap.size + 1 + 1, 2, none⟩) (by simp) (.slice (some ⟨wc.heap.size, 0, none⟩) 3 3)
          rw [HOP.out]
          obtain ⟨_, _, _, _, _, _, _, _, _, e10, e11⟩ := HEq.out
          have hd := HDD.out
          rw [e10, e11] at hd
          exact ⟨_, rfl, ⟨_, 3, rfl, by unfold I64 Ch.wished; simp, wish_num (C := ⟨4, 0, [f, f + Q * L, L]⟩) hd.1 hd.2 HBd.out, by unfold Ch.wished; simp, hnew2.weaken (by omega), by unfold Ch.wished; simp⟩, ((hk6.i3.out.setCell (by simp; omega) _).setCell (by simp; omega) _).setCell (by simp; omega) _⟩
      · have HP := Lib.hid (many_few_eq (x := x) (y := y) HFd.out.2.2.1 HFd.out.2.2.2 HFd.out.1 hw3 hmany)
        obtain ⟨K, hK⟩ : ∃ K, min 20 (Q + 1).toNat = K := ⟨_, rfl⟩
        rw [hK] at HP
        have hK1 : 1 ≤ K ∧ K ≤ 20 ∧ (K : Int) ≤ Q + 1 ∧ ((K : Int) < Q + 1 → K = 20) := by omega
        have hcond : Q + 1 ≤ 20 ∨ (¬ Q + 1 ≤ 20 ∧ 1000 < L) := by omega
        obtain ⟨P, hP⟩ : ∃ P, upL f L K = P := ⟨_, rfl⟩
        rw [hP] at HP
        have HPe := Lib.hid hP
        have HOP : Hid (o = some ((ofList P).wished xd yd)) := Lib.hid (by have h := HOO.out; rw [HP.out] at h; obtain ⟨_, _, _, _, _, _, _, _, _, e10, e11⟩ := HEq.out; rw [h, e10, e11])
        have hv := HV.out
        rw [HP.out] at hv
        have hvl := valid_list hv (ofList_isList P)
        have hlen : P.length = K := by rw [← hP, upL_len]
        have hPb : boundB P = true := hvl.1
        have HPB := Lib.hid hPb
        have HLen := Lib.hid hlen
        have HKK := Lib.hid hK1
        clear hv hvl hP hK hlen hPb hmany hK1
        rcases hcond with hc1 | ⟨hc1, hc2⟩
        all_goals
          go_upto_block 5 with fail
          go_cut [16, 17] (fun s16 s17 wx => ∃ av cv, s16 = .slice av K cv ∧ Kin w X Y Z av P wx ∧ K ≤ cv)
          case first =>
            go_wp2_with fail
            go_loopw [16, 17] (fun v i wr => ∃ k : Nat, i = .int .i64 k ∧ k ≤ K ∧ Row wc.heap.size wr v (upL f L k) ∧ Below wc.heap.size wc wr) (fun _ i _ => K - (intOf i).toNat)
            case atStart => exact ⟨0, rfl, Nat.zero_le _, Row.nil _ _, Below.refl _ _⟩
            case round =>
              obtain ⟨k, rfl, hk, hrow, hbl⟩ := hrel
              rename_i wr _
              have hbs : wc.heap.size ≤ wr.heap.size := hbl.size
              obtain ⟨hK1, hK2, hK3, hK4⟩ := HKK.out
              by_cases hlt : k < K
              · have n1 : (k : Int) < Q + 1 := by omega
                have n2 : (k : Int) < 20 := by omega
                have m1 : 0 ≤ (k : Int) * L := Int.mul_nonneg (by omega) (by omega)
                have m2 : (k : Int) * L ≤ 20 * L := Int.mul_le_mul_of_nonneg_right (by omega) (by omega)
                have m3 : (k : Int) * L ≤ 20000000 := by omega
                have m4 : 0 ≤ (k : Int) := by omega
                clear m2
                have Hsn := Lib.hid (upL_snoc f L k)
                have Hlen : Hid ((upL f L k).length ≤ 100) := Lib.hid (by rw [upL_len]; omega)
                obtain ⟨R, hR⟩ : ∃ R, upL f L k = R := ⟨_, rfl⟩
                rw [hR] at hrow Hsn Hlen
                clear hR hK3 hK4
                have hcall : True := trivial
                go_wp2_with (at_builtin; refine wpList_append_own _ rfl _ _ 22 rfl wc.heap.size 3 i0 (.int .i64 0) 1 8 Tryz.underlying22 hi0 hz0 hz1 hz2 rfl (by decide) _ _ _ rfl (World.ownsRow.alloc hrow _) ⟨wr.heap.size, 0, none⟩ 1 1 [.int .i64 (f + (k : Int) * L)] rfl rfl ?c1 ?c2 ?c3 ?c4 ?c5 ?_)
                case c1 =>
                  intro j u hj
                  match j, hj with
                  | 0, hj => simp at hj; subst hj; simp [Addr.add]
                case c2 => intro u hu; simp at hu; subst hu; rfl
                case c3 => have := Hlen.out; unfold maxLen; omega
                case c4 => have := Hlen.out; omega
                case c5 => simp; omega
                · intro v' w5 hown' hgrow _
                  have hb1 := Row.grown hrow hbl hbs hgrow
                  have hr1 := Row.push hown'
                  clear hown' hgrow hrow hbl
                  go_wp2_with fail
                  go_roundw
                  case rel => exact ⟨k + 1, by go_num, by omega, by rw [Hsn.out]; exact hr1, hb1⟩
                  case measure => simp [intOf]; omega
              · have hkK : k = K := by omega
                obtain ⟨av, cv, rfl⟩ := hrow.slice
                have hrow' : Row wc.heap.size wr (.slice av P.length cv) P := by
                  have h := hrow
                  rw [hkK, HPe.out] at h
                  exact h
                rw [show (upL f L k).length = k from upL_len f L k]
                obtain ⟨hn1, hn2⟩ := hrow'.newin (ints_of_bound HPB.out) hwc
                have hkin : Kin w X Y Z av P wr := ⟨HI5.out.next hbl, hn1⟩
                have HKin := Lib.hid hkin
                have HCap : Hid (K ≤ cv) := Lib.hid (by have := HLen.out; omega)
                subst hkK
                by_cases e1 : (k : Int) < Q + 1
                · have e2 : ¬ (k : Int) < 20 := by have := hK4 e1; omega
                  clear hrow hrow' hn1 hn2 hkin hbl hK1 hK2 hK3 hK4
                  go_wp2_with fail
                  go_meet
                  exact ⟨av, cv, rfl, HKin.out, HCap.out⟩
                · clear hrow hrow' hn1 hn2 hkin hbl hK1 hK2 hK3 hK4
                  go_wp2_with fail
                  go_meet
                  exact ⟨av, cv, rfl, HKin.out, HCap.out⟩
          case rest =>
            obtain ⟨av, cv, rfl, hkin, hcap⟩ := hcut
            have HK := Lib.hid hkin
            have hK1 := HKK.out
            have hl1 := fun (wr : World) (hk : Kin w X Y Z av P wr) => HLi.out P wr av cv (by rw [HLen.out]; omega) hk
            have hl2 := fun (wr : World) (hk : Kin w X Y Z av P wr) => HWi.out P wr av cv (by rw [HLen.out]; omega) (by rw [HLen.out]; omega) (by rw [HLen.out]; exact hcap) hk
            rw [HLen.out] at hl1 hl2
            have HL1 := Lib.hid hl1
            have HL2 := Lib.hid hl2
            have HCap := Lib.hid hcap
            clear hkin hl1 hl2 hK1 hcap
            go_upto_region 31 with fail
            have HKd := Lib.hid (HK.out.below (drew_below _))
            go_region_held3 (fun wx => wx.cell? ⟨w.heap.size, 0, none⟩ = some (.int .i64 xk) ∧ wx.cell? ⟨w.heap.size, 1, none⟩ = some (.int .i64 xd) ∧ wx.cell? ⟨w.heap.size, 2, none⟩ = some (.slice (some ⟨ba, oa, none⟩) xn ca) ∧ wx.cell? ⟨w.heap.size + 1, 0, none⟩ = some (.int .i64 yk) ∧ wx.cell? ⟨w.heap.size + 1, 1, none⟩ = some (.int .i64 yd) ∧ wx.cell? ⟨w.heap.size + 1, 2, none⟩ = some (.slice (some ⟨bb, ob, none⟩) yn cb))
              (first
                | with_reducible exact HSX.out _ HKd.out.i3
                | with_reducible exact HSX.out _ hk2.i3
                | with_reducible exact HSX.out _ hk1.i3
                | exact HSet.out _ _ _ (HSet.out _ _ _ (HSet.out _ _ _ (HSX.out _ hk2.i3))))
              (first
                | (go_at_call 97; (with_reducible refine (HL1.out _ HKd.out).mono ?_); rintro e wl1 ⟨rfl, hk1⟩)
                | (go_at_call 96; (with_reducible refine (HL2.out _ hk1).mono ?_); rintro e wl2 ⟨rfl, hk2⟩; have f0 := HFr.out _ 0 hk2.i3; have f1 := HFr.out _ 1 hk2.i3; have f2 := HFr.out _ 2 hk2.i3; obtain ⟨_, _, r0, r1, r2⟩ := HC.out _ hk2.i3))
            go_wp2_with fail
            refine bodyPost_ret (v := .tuple #[.agg #[.int .i64 (ofList P).kind, .int .i64 (wishC (ofList P) xd yd), .slice av K cv], .bool true]) (by simp [results, Tryz.results56, go_sem, r0, r1, r2]) rfl ?_
            rw [← HLen.out]
            have hnew := ((hk2.new.set (p := ⟨w.heap.size + 1 + 1, 0, none⟩) (by simp) (.int .i64 (ofList P).kind)).set (p := ⟨w.heap.size + 1 + 1, 1, none⟩) (by simp) (.int .i64 (wishC (ofList P) xd yd))).set (p := ⟨w.heap.size + 1 + 1, 2, none⟩) (by simp) (.slice av P.length cv)
            have hOP := HOP.out
            obtain ⟨_, _, _, _, _, _, _, _, _, e10, e11⟩ := HEq.out
            have hd := HDD.out
            rw [← e10, ← e11] at hOP hnew ⊢
            obtain ⟨z1, z2⟩ := listOut hOP hd.1 hd.2 HPB.out (by rw [HLen.out]; have := HKK.out; omega) (hnew.weaken (show w.heap.size ≤ _ by omega)) (by rw [HLen.out]; exact HCap.out)
            exact ⟨_, by rw [z2], z1, ((hk2.i3.out.setCell (by simp; omega) _).setCell (by simp; omega) _).setCell (by simp; omega) _⟩

end Go.Proofs.YtlpdeadmiinhoaaGreatDoor
