/- Meet of the document's answers. -/
import Derived.Test.YtlpdeadmiinhoaaGreatDoorIH
namespace Go.Proofs.YtlpdeadmiinhoaaGreatDoor
open Go.RowKit

theorem met_any (x y : Ch) (vx vy : Value) (w : World) (hx : ChIn w x vx) (hy : ChIn w y vy) (hvx : validC x = true) (hvy : validC y = true) :
    Calls Tryz.prog 56 #[vx, vy] w (MeetOut w (metC x y)) := by
  cases lx : x.isList with
  | true =>
    refine met_list1 x y vx vy w hx hy hvx hvy lx _ rfl ?_
    unfold metC bareMet
    rw [if_pos lx]
    split <;> rfl
  | false =>
    cases ly : y.isList with
    | true =>
      refine met_list2 x y vx vy w hx hy hvx hvy lx ly _ rfl ?_
      unfold metC bareMet
      rw [if_neg (by rw [lx]; simp), if_pos ly]
      split <;> rfl
    | false => exact met_range x y vx vy w hx hy hvx hvy lx ly

set_option maxRecDepth 100000 in
set_option maxHeartbeats 3200000 in
theorem meet18_bad1 (x y : Ch) (vx vy : Value) (w : World) (hx : ChIn w x vx) (hy : ChIn w y vy) (hv : validC x = false) :
    Calls Tryz.prog 18 #[vx, vy] w (fun e w' => e = .returned (.tuple #[.agg #[.int .i64 0, .int .i64 0, .slice none 0 0], .bool false, .int .i64 1]) ∧ Below w.heap.size w w') := by
  have hx0 := hx
  have hy0 := hy
  obtain ⟨a, ca, rfl, _, _, _, _, _⟩ := hx
  obtain ⟨b, cb, rfl, _, _, _, _, _⟩ := hy
  obtain ⟨X, hX⟩ : ∃ X : Obj, X = .cells #[.int .i64 x.kind, .int .i64 x.dflt, .slice a x.list.length ca] 24 := ⟨_, rfl⟩
  obtain ⟨Y, hY⟩ : ∃ Y : Obj, Y = .cells #[.int .i64 y.kind, .int .i64 y.dflt, .slice b y.list.length cb] 24 := ⟨_, rfl⟩
  obtain ⟨Z, hZ⟩ : ∃ Z : Obj, Z = .cells #[.int .i64 0, .int .i64 0, .slice none 0 0] 24 := ⟨_, rfl⟩
  have HF : In3 w X Y Z (((w.alloc (.cells #[.int .i64 x.kind, .int .i64 x.dflt, .slice a x.list.length ca] 24)).alloc (.cells #[.int .i64 y.kind, .int .i64 y.dflt, .slice b y.list.length cb] 24)).alloc (.cells #[.int .i64 0, .int .i64 0, .slice none 0 0] 24)) := hX ▸ hY ▸ hZ ▸ In3.first w X Y Z
  have HC := Lib.hid fun (wr : World) (h : In3 w X Y Z wr) => In3.cells (hX ▸ hY ▸ hZ ▸ h)
  have HFr := Lib.hid fun (wr : World) (o : Nat) (h : In3 w X Y Z wr) => In3.free hZ h o
  have HV1 := Lib.hid fun (wr : World) (hi : In3 w X Y Z wr) => calls_in3 hi (refValid_any x _ wr (hx0.mono hi.same))
  have HV2 := Lib.hid fun (wr : World) (hi : In3 w X Y Z wr) => calls_in3 hi (refValid_any y _ wr (hy0.mono hi.same))
  rw [hv] at HV1
  clear hv HV2
  have HFF := Lib.hid HF
  obtain ⟨⟨p0, p1, p2⟩, ⟨q0, q1, q2⟩, _⟩ := HC.out _ HF
  clear hX hY hZ HF hx0 hy0
  go_enter Tryz.func18, Tryz.ntmps18
  go_wp2_with (go_at_call 15; (with_reducible refine (HV1.out _ HFF.out).mono ?_); rintro e w1 ⟨rfl, hi1⟩; obtain ⟨⟨p0, p1, p2⟩, ⟨q0, q1, q2⟩, r0, r1, r2⟩ := HC.out _ hi1; have f0 := HFr.out _ 0 hi1; have f1 := HFr.out _ 1 hi1; have f2 := HFr.out _ 2 hi1)
  refine bodyPost_ret (v := .tuple #[.agg #[.int .i64 0, .int .i64 0, .slice none 0 0], .bool false, .int .i64 1]) (by simp [results, Tryz.results18, go_sem, r0, r1, r2]) rfl ⟨rfl, ?_⟩
  exact ((hi1.out.setCell (by simp; omega) _).setCell (by simp; omega) _).setCell (by simp; omega) _

set_option maxRecDepth 100000 in
set_option maxHeartbeats 3200000 in
theorem meet18_bad2 (x y : Ch) (vx vy : Value) (w : World) (hx : ChIn w x vx) (hy : ChIn w y vy) (hv1 : validC x = true) (hv2 : validC y = false) :
    Calls Tryz.prog 18 #[vx, vy] w (fun e w' => e = .returned (.tuple #[.agg #[.int .i64 0, .int .i64 0, .slice none 0 0], .bool false, .int .i64 1]) ∧ Below w.heap.size w w') := by
  have hx0 := hx
  have hy0 := hy
  obtain ⟨a, ca, rfl, _, _, _, _, _⟩ := hx
  obtain ⟨b, cb, rfl, _, _, _, _, _⟩ := hy
  obtain ⟨X, hX⟩ : ∃ X : Obj, X = .cells #[.int .i64 x.kind, .int .i64 x.dflt, .slice a x.list.length ca] 24 := ⟨_, rfl⟩
  obtain ⟨Y, hY⟩ : ∃ Y : Obj, Y = .cells #[.int .i64 y.kind, .int .i64 y.dflt, .slice b y.list.length cb] 24 := ⟨_, rfl⟩
  obtain ⟨Z, hZ⟩ : ∃ Z : Obj, Z = .cells #[.int .i64 0, .int .i64 0, .slice none 0 0] 24 := ⟨_, rfl⟩
  have HF : In3 w X Y Z (((w.alloc (.cells #[.int .i64 x.kind, .int .i64 x.dflt, .slice a x.list.length ca] 24)).alloc (.cells #[.int .i64 y.kind, .int .i64 y.dflt, .slice b y.list.length cb] 24)).alloc (.cells #[.int .i64 0, .int .i64 0, .slice none 0 0] 24)) := hX ▸ hY ▸ hZ ▸ In3.first w X Y Z
  have HC := Lib.hid fun (wr : World) (h : In3 w X Y Z wr) => In3.cells (hX ▸ hY ▸ hZ ▸ h)
  have HFr := Lib.hid fun (wr : World) (o : Nat) (h : In3 w X Y Z wr) => In3.free hZ h o
  have HV1 := Lib.hid fun (wr : World) (hi : In3 w X Y Z wr) => calls_in3 hi (refValid_any x _ wr (hx0.mono hi.same))
  have HV2 := Lib.hid fun (wr : World) (hi : In3 w X Y Z wr) => calls_in3 hi (refValid_any y _ wr (hy0.mono hi.same))
  rw [hv1] at HV1
  rw [hv2] at HV2
  clear hv1 hv2
  have HFF := Lib.hid HF
  obtain ⟨⟨p0, p1, p2⟩, ⟨q0, q1, q2⟩, _⟩ := HC.out _ HF
  clear hX hY hZ HF hx0 hy0
  go_enter Tryz.func18, Tryz.ntmps18
  go_wp2_with (first
    | (go_at_call 15; (with_reducible refine (HV1.out _ HFF.out).mono ?_); rintro e w1 ⟨rfl, hi1⟩; obtain ⟨⟨p0, p1, p2⟩, ⟨q0, q1, q2⟩, r0, r1, r2⟩ := HC.out _ hi1; have f0 := HFr.out _ 0 hi1; have f1 := HFr.out _ 1 hi1; have f2 := HFr.out _ 2 hi1)
    | (go_at_call 15; (with_reducible refine (HV2.out _ hi1).mono ?_); rintro e w2 ⟨rfl, hi2⟩; obtain ⟨⟨p0, p1, p2⟩, ⟨q0, q1, q2⟩, r0, r1, r2⟩ := HC.out _ hi2; have f0 := HFr.out _ 0 hi2; have f1 := HFr.out _ 1 hi2; have f2 := HFr.out _ 2 hi2))
  refine bodyPost_ret (v := .tuple #[.agg #[.int .i64 0, .int .i64 0, .slice none 0 0], .bool false, .int .i64 1]) (by simp [results, Tryz.results18, go_sem, r0, r1, r2]) rfl ⟨rfl, ?_⟩
  exact ((hi2.out.setCell (by simp; omega) _).setCell (by simp; omega) _).setCell (by simp; omega) _

set_option maxRecDepth 100000 in
set_option maxHeartbeats 3200000 in
theorem meet18_ok (x y : Ch) (vx vy : Value) (w : World) (hx : ChIn w x vx) (hy : ChIn w y vy) (hv1 : validC x = true) (hv2 : validC y = true) :
    Calls Tryz.prog 18 #[vx, vy] w (Meet3 w (metC x y) 0) := by
  have hx0 := hx
  have hy0 := hy
  obtain ⟨a, ca, rfl, _, _, _, _, _⟩ := hx
  obtain ⟨b, cb, rfl, _, _, _, _, _⟩ := hy
  obtain ⟨X, hX⟩ : ∃ X : Obj, X = .cells #[.int .i64 x.kind, .int .i64 x.dflt, .slice a x.list.length ca] 24 := ⟨_, rfl⟩
  obtain ⟨Y, hY⟩ : ∃ Y : Obj, Y = .cells #[.int .i64 y.kind, .int .i64 y.dflt, .slice b y.list.length cb] 24 := ⟨_, rfl⟩
  obtain ⟨Z, hZ⟩ : ∃ Z : Obj, Z = .cells #[.int .i64 0, .int .i64 0, .slice none 0 0] 24 := ⟨_, rfl⟩
  have HF : In3 w X Y Z (((w.alloc (.cells #[.int .i64 x.kind, .int .i64 x.dflt, .slice a x.list.length ca] 24)).alloc (.cells #[.int .i64 y.kind, .int .i64 y.dflt, .slice b y.list.length cb] 24)).alloc (.cells #[.int .i64 0, .int .i64 0, .slice none 0 0] 24)) := hX ▸ hY ▸ hZ ▸ In3.first w X Y Z
  have HC := Lib.hid fun (wr : World) (h : In3 w X Y Z wr) => In3.cells (hX ▸ hY ▸ hZ ▸ h)
  have HFr := Lib.hid fun (wr : World) (o : Nat) (h : In3 w X Y Z wr) => In3.free hZ h o
  have HV1 := Lib.hid fun (wr : World) (hi : In3 w X Y Z wr) => calls_in3 hi (refValid_any x _ wr (hx0.mono hi.same))
  have HV2 := Lib.hid fun (wr : World) (hi : In3 w X Y Z wr) => calls_in3 hi (refValid_any y _ wr (hy0.mono hi.same))
  have HM := Lib.hid fun (wr : World) (hi : In3 w X Y Z wr) => (met_any x y _ _ wr (hx0.mono hi.same) (hy0.mono hi.same) hv1 hv2).mono fun e w' ⟨v, h1, h2, h3⟩ => (⟨v, h1, h2, hi.next h3, h3⟩ : ∃ v, e = Ending.returned (.tuple #[v, .bool (metC x y).isSome]) ∧ ChNew wr.heap.size w' ((metC x y).getD zCh) v ∧ In3 w X Y Z w' ∧ Below wr.heap.size wr w')
  rw [hv1] at HV1
  rw [hv2] at HV2
  clear hv1 hv2
  obtain ⟨o, ho⟩ : ∃ o, metC x y = o := ⟨_, rfl⟩
  rw [ho] at HM ⊢
  clear ho
  obtain ⟨D, hD⟩ : ∃ D, o.getD zCh = D := ⟨_, rfl⟩
  obtain ⟨B, hB⟩ : ∃ B, o.isSome = B := ⟨_, rfl⟩
  rw [hD, hB] at HM
  have HDB := Lib.hid (And.intro hD hB)
  clear hD hB
  have HFF := Lib.hid HF
  obtain ⟨⟨p0, p1, p2⟩, ⟨q0, q1, q2⟩, _⟩ := HC.out _ HF
  clear hX hY hZ HF hx0 hy0
  go_enter Tryz.func18, Tryz.ntmps18
  go_wp2_with (first
    | (go_at_call 15; (with_reducible refine (HV1.out _ HFF.out).mono ?_); rintro e w1 ⟨rfl, hi1⟩; obtain ⟨⟨p0, p1, p2⟩, ⟨q0, q1, q2⟩, r0, r1, r2⟩ := HC.out _ hi1; have f0 := HFr.out _ 0 hi1; have f1 := HFr.out _ 1 hi1; have f2 := HFr.out _ 2 hi1)
    | (go_at_call 15; (with_reducible refine (HV2.out _ hi1).mono ?_); rintro e w2 ⟨rfl, hi2⟩; obtain ⟨⟨p0, p1, p2⟩, ⟨q0, q1, q2⟩, r0, r1, r2⟩ := HC.out _ hi2; have f0 := HFr.out _ 0 hi2; have f1 := HFr.out _ 1 hi2; have f2 := HFr.out _ 2 hi2)
    | (go_at_call 56; (with_reducible refine (HM.out _ hi2).mono ?_); rintro e w3 ⟨v, rfl, ⟨a3, c3, rfl, hk3, hd3, hl3, hn3, hc3⟩, hi3, hb3⟩; have HN := Lib.hid (And.intro (And.intro hk3 hd3) (And.intro hl3 (And.intro (hn3.weaken (hi2.size)) hc3))); clear hk3 hd3 hl3 hn3 hc3; have hi4 := hi3.alloc (.cells #[.int .i64 D.kind, .int .i64 D.dflt, .slice a3 D.list.length c3] 24); obtain ⟨_, _, r0, r1, r2⟩ := HC.out _ hi4; have f0 := HFr.out _ 0 hi4; have f1 := HFr.out _ 1 hi4; have f2 := HFr.out _ 2 hi4; have hz3 := hi3.size; clear hb3))
  refine bodyPost_ret (v := .tuple #[.agg #[.int .i64 D.kind, .int .i64 D.dflt, .slice a3 D.list.length c3], .bool B, .int .i64 0]) (by simp [results, Tryz.results18, go_sem, r0, r1, r2]) rfl ⟨_, by rw [HDB.out.2], ?_, ?_⟩
  · rw [HDB.out.1]
    obtain ⟨⟨u1, u2⟩, u3, u4, u5⟩ := HN.out
    have u6 := u4.below ((Below.refl _ w3).alloc (Nat.le_refl _) (.cells #[.int .i64 D.kind, .int .i64 D.dflt, .slice a3 D.list.length c3] 24))
    exact ⟨a3, c3, rfl, u1, u2, u3, (((u6.set (by simp) _).set (by simp) _).set (by simp) _).weaken (by omega), u5⟩
  · exact (((hi3.out.alloc (by omega) _).setCell (by simp; omega) _).setCell (by simp; omega) _).setCell (by simp; omega) _

theorem meet18_any (x y : Ch) (vx vy : Value) (w : World) (hx : ChIn w x vx) (hy : ChIn w y vy) :
    Calls Tryz.prog 18 #[vx, vy] w (Meet3 w (meetO x y) (meetE x y)) := by
  unfold meetO meetE
  cases h1 : validC x with
  | false => exact (meet18_bad1 x y vx vy w hx hy h1).mono fun e w' ⟨a1, a2⟩ => ⟨_, a1, zCh_new _ _, a2⟩
  | true =>
    cases h2 : validC y with
    | false => exact (meet18_bad2 x y vx vy w hx hy h1 h2).mono fun e w' ⟨a1, a2⟩ => ⟨_, a1, zCh_new _ _, a2⟩
    | true => exact meet18_ok x y vx vy w hx hy h1 h2
end Go.Proofs.YtlpdeadmiinhoaaGreatDoor
