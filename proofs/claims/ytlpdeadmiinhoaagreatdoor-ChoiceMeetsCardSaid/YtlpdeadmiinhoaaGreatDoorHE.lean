/- secondList; the maker of many or few. -/
import Derived.Test.YtlpdeadmiinhoaaGreatDoorHD
namespace Go.Proofs.YtlpdeadmiinhoaaGreatDoor
open Go.RowKit

theorem chOut_set {w w4 : World} {c : Ch} {a2 : Option Addr} {c2 : Nat} {B p : Nat} (hr : Row B w4 (.slice a2 c.list.length c2) c.list) (hb : Below w.heap.size w w4) (hB : p < B) (hp : w.heap.size ≤ p) (x y z : Value) :
    ChOut w c (.returned (.agg #[.int .i64 c.kind, .int .i64 c.dflt, .slice a2 c.list.length c2])) (((w4.setCell ⟨p, 0, none⟩ x).setCell ⟨p, 1, none⟩ y).setCell ⟨p, 2, none⟩ z) :=
  ⟨a2, c2, rfl, (((hr.setCell hB _).setCell hB _).setCell hB _).weaken (by omega), ((hb.setCell hp _).setCell hp _).setCell hp _⟩

set_option maxRecDepth 100000 in
set_option maxHeartbeats 1000000 in
theorem secondList_any (x y : Ch) (vx vy : Value) (w : World) (hx : ChIn w x vx) (hy : ChIn w y vy) (hvx : validC x = true) (hlen : y.list.length ≤ 20) :
    Calls Tryz.prog 122 #[vx, vy] w (ChOut w (bareOf (listMet y x))) := by
  have hx0 := hx
  have hy0 := hy
  obtain ⟨a, ca, rfl, _, _, _, _, _⟩ := hx
  obtain ⟨b, cb, rfl, _, _, _, _, _⟩ := hy
  obtain ⟨X, hX⟩ : ∃ X : Obj, X = .cells #[.int .i64 x.kind, .int .i64 x.dflt, .slice a x.list.length ca] 24 := ⟨_, rfl⟩
  obtain ⟨Y, hY⟩ : ∃ Y : Obj, Y = .cells #[.int .i64 y.kind, .int .i64 y.dflt, .slice b y.list.length cb] 24 := ⟨_, rfl⟩
  obtain ⟨Z, hZ⟩ : ∃ Z : Obj, Z = .cells #[.int .i64 0, .int .i64 0, .slice none 0 0] 24 := ⟨_, rfl⟩
  have HF : In3 w X Y Z (((w.alloc (.cells #[.int .i64 x.kind, .int .i64 x.dflt, .slice a x.list.length ca] 24)).alloc (.cells #[.int .i64 y.kind, .int .i64 y.dflt, .slice b y.list.length cb] 24)).alloc (.cells #[.int .i64 0, .int .i64 0, .slice none 0 0] 24)) := hX ▸ hY ▸ hZ ▸ In3.first w X Y Z
  have HC := Lib.hid fun (wr : World) (h : In3 w X Y Z wr) => In3.cells (hX ▸ hY ▸ hZ ▸ h)
  have HFr := Lib.hid fun (wr : World) (o : Nat) (h : In3 w X Y Z wr) => In3.free hZ h o
  have hcall := firstList_any y x _ _ _ (hy0.mono HF.same) (hx0.mono HF.same) hvx hlen
  obtain ⟨C, hC⟩ : ∃ C, bareOf (listMet y x) = C := ⟨_, rfl⟩
  rw [hC] at hcall ⊢
  have HFF := Lib.hid HF
  obtain ⟨⟨p0, p1, p2⟩, ⟨q0, q1, q2⟩, _⟩ := HC.out _ HF
  clear hC hx0 hy0 hvx hX hY hZ HF
  go_enter Tryz.func122, Tryz.ntmps122
  go_wp2_with (go_at_call 121; (with_reducible refine hcall.mono ?_); rintro e w1 ⟨a2, c2, rfl, hr, hb⟩; have hi := HFF.out.next hb; obtain ⟨_, _, r0, r1, r2⟩ := HC.out _ hi; have f0 := HFr.out w1 0 hi; have f1 := HFr.out w1 1 hi; have f2 := HFr.out w1 2 hi)
  refine bodyPost_ret (v := .agg #[.int .i64 C.kind, .int .i64 C.dflt, .slice a2 C.list.length c2]) (by simp [results, Tryz.results122, go_sem, r0, r1, r2]) rfl (chOut_set hr hi.out (by simp) (by omega) _ _ _)

theorem bcell {W w1 : World} (hb : Below W.heap.size W w1) : (∀ b o, b < W.heap.size → w1.cell? ⟨b, o, none⟩ = W.cell? ⟨b, o, none⟩) ∧ (∀ b o, b < W.heap.size → w1.frozen? ⟨b, o, none⟩ = W.frozen? ⟨b, o, none⟩) :=
  ⟨fun b o h => hb.cell (p := ⟨b, o, none⟩) h, fun b o h => hb.frozen (p := ⟨b, o, none⟩) h⟩

theorem In3.alloc {w wr : World} {X Y Z : Obj} (h : In3 w X Y Z wr) (o : Obj) : In3 w X Y Z (wr.alloc o) := Below.alloc h (In3.size h) o
theorem In3.set {w wr : World} {X Y Z : Obj} (h : In3 w X Y Z wr) {p : Addr} (hp : w.heap.size + 3 ≤ p.block) (v : Value) : In3 w X Y Z (wr.setCell p v) := Below.setCell h hp v
/-- A new cell block of three numbers that is whole. -/
structure Zed (w : World) (B : Nat) : Prop where
  c0 : w.cell? ⟨B, 0, none⟩ = some (.int .i64 0)
  c1 : w.cell? ⟨B, 1, none⟩ = some (.int .i64 0)
  c2 : w.cell? ⟨B, 2, none⟩ = some (.int .i64 0)
  f0 : w.frozen? ⟨B, 0, none⟩ = false
  f1 : w.frozen? ⟨B, 1, none⟩ = false
  f2 : w.frozen? ⟨B, 2, none⟩ = false
  lt : B < w.heap.size
theorem Zed.new (w : World) : Zed (w.alloc (.cells #[.int .i64 0, .int .i64 0, .int .i64 0] 110)) w.heap.size :=
  ⟨by simp [go_sem], by simp [go_sem], by simp [go_sem], by simp [go_sem], by simp [go_sem], by simp [go_sem], by simp⟩
theorem Zed.newd (w : World) : Zed (w.alloc (.cells #[.int .i64 0, .int .i64 0, .int .i64 0] 110)).drew w.heap.size :=
  ⟨by simp [go_sem], by simp [go_sem], by simp [go_sem], by simp [go_sem], by simp [go_sem], by simp [go_sem], by simp⟩
theorem Zed.below {w w1 : World} {B : Nat} (h : Zed w B) (hb : Below w.heap.size w w1) : Zed w1 B := by
  obtain ⟨c0, c1, c2, f0, f1, f2, lt⟩ := h
  have hs := hb.size
  exact ⟨(hb.cell (p := ⟨B, 0, none⟩) lt).trans c0, (hb.cell (p := ⟨B, 1, none⟩) lt).trans c1, (hb.cell (p := ⟨B, 2, none⟩) lt).trans c2, (hb.frozen (p := ⟨B, 0, none⟩) lt).trans f0, (hb.frozen (p := ⟨B, 1, none⟩) lt).trans f1, (hb.frozen (p := ⟨B, 2, none⟩) lt).trans f2, by omega⟩
theorem In3.set3 {w wr : World} {X Y Z : Obj} {B : Nat} {v0 v1 v2 : Value} (h : In3 w X Y Z wr) (hB : w.heap.size + 3 ≤ B) : In3 w X Y Z (((wr.setCell ⟨B, 0, none⟩ v0).setCell ⟨B, 1, none⟩ v1).setCell ⟨B, 2, none⟩ v2) := ((h.set (p := ⟨B, 0, none⟩) hB v0).set (p := ⟨B, 1, none⟩) hB v1).set (p := ⟨B, 2, none⟩) hB v2
/-- A cell block of three numbers. -/
structure Sed (w : World) (B : Nat) (x y z : Int) : Prop where
  c0 : w.cell? ⟨B, 0, none⟩ = some (.int .i64 x)
  c1 : w.cell? ⟨B, 1, none⟩ = some (.int .i64 y)
  c2 : w.cell? ⟨B, 2, none⟩ = some (.int .i64 z)
  lt : B < w.heap.size
theorem Sed.new (w : World) (x y z : Int) : Sed (w.alloc (.cells #[.int .i64 x, .int .i64 y, .int .i64 z] 110)) w.heap.size x y z :=
  ⟨by simp [go_sem], by simp [go_sem], by simp [go_sem], by simp⟩
theorem Sed.set {w : World} {B : Nat} (h : Zed w B) (x y z : Int) : Sed (((w.setCell ⟨B, 0, none⟩ (.int .i64 x)).setCell ⟨B, 1, none⟩ (.int .i64 y)).setCell ⟨B, 2, none⟩ (.int .i64 z)) B x y z := by
  obtain ⟨c0, c1, c2, _, _, _, lt⟩ := h
  exact ⟨by simp [go_sem, c0], by simp [go_sem, c1], by simp [go_sem, c2], by simpa using lt⟩
theorem both_set {w wr : World} {X Y Z : Obj} {B : Nat} (h : Zed wr B) (hi : In3 w X Y Z wr) (hB : w.heap.size + 3 ≤ B) (x y z : Int) : Sed (((wr.setCell ⟨B, 0, none⟩ (.int .i64 x)).setCell ⟨B, 1, none⟩ (.int .i64 y)).setCell ⟨B, 2, none⟩ (.int .i64 z)) B x y z ∧ In3 w X Y Z (((wr.setCell ⟨B, 0, none⟩ (.int .i64 x)).setCell ⟨B, 1, none⟩ (.int .i64 y)).setCell ⟨B, 2, none⟩ (.int .i64 z)) := ⟨Sed.set h x y z, hi.set3 hB⟩
theorem both_new {w wr : World} {X Y Z : Obj} (hi : In3 w X Y Z wr) (x y z : Int) : Sed (wr.alloc (.cells #[.int .i64 x, .int .i64 y, .int .i64 z] 110)) wr.heap.size x y z ∧ In3 w X Y Z (wr.alloc (.cells #[.int .i64 x, .int .i64 y, .int .i64 z] 110)) := ⟨Sed.new wr x y z, hi.alloc _⟩
theorem Sed.below {w w1 : World} {B : Nat} {x y z : Int} (h : Sed w B x y z) (hb : Below w.heap.size w w1) : Sed w1 B x y z := by
  obtain ⟨c0, c1, c2, lt⟩ := h
  have hs := hb.size
  exact ⟨(hb.cell (p := ⟨B, 0, none⟩) lt).trans c0, (hb.cell (p := ⟨B, 1, none⟩) lt).trans c1, (hb.cell (p := ⟨B, 2, none⟩) lt).trans c2, by omega⟩
theorem steps_of {c : Ch} {v : Value} {w : World} {a : Option Addr} {cap : Nat} (hl : c.list.length ≤ 17592186044416) (hin : IntsIn w a c.list) (hk : (c.kind = 3 ∧ c.list.length = 2) ∨ (c.kind = 4 ∧ c.list.length = 3)) :
    Calls Tryz.prog 92 #[.slice a c.list.length cap] w fun e w' => e = .returned c.sp.val ∧ Below w.heap.size w w' := by
  rw [← stepsOf_sp hk]
  rcases hk with ⟨_, h⟩ | ⟨_, h⟩
  · exact steps_two _ _ _ _ hl hin h
  · exact steps_three _ _ _ _ hl hin h

set_option maxRecDepth 100000 in
set_option maxHeartbeats 3200000 in
theorem many_none (x y : Ch) (vx vy : Value) (fv : Value) (w : World) (hx : ChIn w x vx) (hy : ChIn w y vy) (hkx : (x.kind = 3 ∧ x.list.length = 2) ∨ (x.kind = 4 ∧ x.list.length = 3)) (hky : (y.kind = 3 ∧ y.list.length = 2) ∨ (y.kind = 4 ∧ y.list.length = 3)) (hox : x.sp.Ok) (hoy : y.sp.Ok) (hno : firstC x.sp y.sp = none) :
    Calls Tryz.prog 142 #[vx, vy, fv] w (ChOut w zCh) := by
  obtain ⟨a, ca, rfl, _, _, hla, hina, _⟩ := hx
  obtain ⟨b, cb, rfl, _, _, hlb, hinb, _⟩ := hy
  obtain ⟨X, hX⟩ : ∃ X : Obj, X = .cells #[.int .i64 x.kind, .int .i64 x.dflt, .slice a x.list.length ca] 24 := ⟨_, rfl⟩
  obtain ⟨Y, hY⟩ : ∃ Y : Obj, Y = .cells #[.int .i64 y.kind, .int .i64 y.dflt, .slice b y.list.length cb] 24 := ⟨_, rfl⟩
  obtain ⟨Z, hZ⟩ : ∃ Z : Obj, Z = .cells #[.int .i64 0, .int .i64 0, .slice none 0 0] 24 := ⟨_, rfl⟩
  have HF : In3 w X Y Z (((w.alloc (.cells #[.int .i64 x.kind, .int .i64 x.dflt, .slice a x.list.length ca] 24)).alloc (.cells #[.int .i64 y.kind, .int .i64 y.dflt, .slice b y.list.length cb] 24)).alloc (.cells #[.int .i64 0, .int .i64 0, .slice none 0 0] 24)) := hX ▸ hY ▸ hZ ▸ In3.first w X Y Z
  have HC := Lib.hid fun (wr : World) (h : In3 w X Y Z wr) => In3.cells (hX ▸ hY ▸ hZ ▸ h)
  have HFr := Lib.hid fun (wr : World) (o : Nat) (h : In3 w X Y Z wr) => In3.free hZ h o
  have HSx := Lib.hid fun (wr : World) (hi : In3 w X Y Z wr) => (steps_of (v := .nilIface) (cap := ca) hla (hina.mono hi.same) hkx).mono fun e w' ⟨a1, a2⟩ => (⟨a1, hi.next a2, a2⟩ : e = Ending.returned x.sp.val ∧ In3 w X Y Z w' ∧ Below wr.heap.size wr w')
  have HSy := Lib.hid fun (wr : World) (hi : In3 w X Y Z wr) => (steps_of (v := .nilIface) (cap := cb) hlb (hinb.mono hi.same) hky).mono fun e w' ⟨a1, a2⟩ => (⟨a1, hi.next a2, a2⟩ : e = Ending.returned y.sp.val ∧ In3 w X Y Z w' ∧ Below wr.heap.size wr w')
  have HCm := Lib.hid fun (wr : World) (hi : In3 w X Y Z wr) => (common_any x.sp y.sp wr hox hoy).mono fun e w' ⟨a1, a2⟩ => (⟨a1, hi.next a2, a2⟩ : e = Ending.returned (commonV x.sp y.sp) ∧ In3 w X Y Z w' ∧ Below wr.heap.size wr w')
  have hcv : commonV x.sp y.sp = .tuple #[.agg #[.int .i64 0, .int .i64 0, .int .i64 0], .bool false] := by unfold commonV; rw [hno]; rfl
  rw [hcv] at HCm
  have HFF := Lib.hid HF
  unfold Sp.val at HSx HSy HCm
  clear hno
  clear hX hY hZ HF hina hinb hcv hox hoy hkx hky
  obtain ⟨n, hn⟩ : ∃ n, x.list.length = n := ⟨_, rfl⟩
  obtain ⟨m, hm⟩ : ∃ m, y.list.length = m := ⟨_, rfl⟩
  rw [hn] at HC HSx HFF ⊢
  rw [hm] at HC HSy HFF ⊢
  clear hn hm hla hlb
  go_enter Tryz.func142, Tryz.ntmps142
  go_upto_region 1 with fail
  have HS : Hid (∀ wx : World, In3 w X Y Z wx → wx.cell? ⟨w.heap.size, 2, none⟩ = some (.slice a n ca) ∧ wx.cell? ⟨w.heap.size + 1, 2, none⟩ = some (.slice b m cb) ∧ In3 w X Y Z wx) := Lib.hid fun wx h => by
    obtain ⟨⟨_, _, p2⟩, ⟨_, _, q2⟩, _⟩ := HC.out wx h
    exact ⟨p2, q2, h⟩
  go_region_held3 (fun wx => wx.cell? ⟨w.heap.size, 2, none⟩ = some (.slice a n ca) ∧ wx.cell? ⟨w.heap.size + 1, 2, none⟩ = some (.slice b m cb) ∧ In3 w X Y Z wx)
    (first
      | with_reducible exact HS.out _ HFF.out.drew
      | (go_split_ands; with_reducible exact HS.out _ (by assumption))
      | with_reducible exact HS.out _ hk
      | with_reducible exact HS.out _ (In3.alloc hk _)
      | with_reducible exact HS.out _ (In3.set3 hk (by omega))
      | (go_split_ands; with_reducible exact HS.out _ (In3.alloc (by assumption) _)))
    (first
      | (go_at_call 92; (with_reducible refine (HSx.out _ (by go_split_ands; assumption)).mono ?_); rintro e wk1 ⟨rfl, hk, hb1⟩; have z1 := hk.size; try (have y1 := (Zed.newd _).below hb1; (try simp only [World.size_alloc, World.size_drew] at y1)))
      | (go_at_call 92; (with_reducible refine (HSy.out _ (by go_split_ands; assumption)).mono ?_); rintro e wk2 ⟨rfl, hk, hb2⟩; have z2 := hk.size; first | (have y2 := (Zed.new _).below hb2; (try simp only [World.size_alloc, World.size_drew] at y2)) | (have y2 := y1.below hb2) | skip)
      | (go_at_call 166; (with_reducible refine (HCm.out _ (by go_split_ands; assumption)).mono ?_); rintro e wk3 ⟨rfl, hk, hb3⟩; have z3 := hk.size; first | (have y3 := (Zed.new _).below hb3; (try simp only [World.size_alloc, World.size_drew] at y3); obtain ⟨u0, u1, u2, u3, u4, u5, u6⟩ := y3; have y4 := (Zed.mk u0 u1 u2 u3 u4 u5 u6)) | (have y3 := y2.below hb3; obtain ⟨u0, u1, u2, u3, u4, u5, u6⟩ := y3; have y4 := (Zed.mk u0 u1 u2 u3 u4 u5 u6)) | skip))
  all_goals
    go_split_ands
    first
      | (have hbb := both_set y4 hk (by omega) 0 0 0)
      | (have hbb := both_new hk 0 0 0)
    obtain ⟨hsd, hW⟩ := hbb
    have hsdd := Lib.hid hsd
    clear hsd
    try clear u0 u1 u2 u3 u4 u5 u6 y4
    try clear y2 
    try clear y1
    clear hk hb1 hb2 hb3 z1 z2 z3
    obtain ⟨_, _, r0, r1, r2⟩ := HC.out _ hW
    have f0 := HFr.out _ 0 hW
    have f1 := HFr.out _ 1 hW
    have f2 := HFr.out _ 2 hW
    go_wp2_with fail
    refine bodyPost_ret (v := .agg #[.int .i64 0, .int .i64 0, .slice none 0 0]) (by simp [results, Tryz.results142, go_sem, r0, r1, r2]) rfl ⟨none, 0, rfl, Row.nil _ _, ?_⟩
    exact ((hW.out.setCell (by simp; omega) _).setCell (by simp; omega) _).setCell (by simp; omega) _

end Go.Proofs.YtlpdeadmiinhoaaGreatDoor
