/- How two choices meet, walked: where they do not. -/
import Derived.Test.YtlpdeadmiinhoaaGreatDoorHG
import Derived.Test.YtlpdeadmiinhoaaGreatDoorNB
namespace Go.Proofs.YtlpdeadmiinhoaaGreatDoor
open Go.RowKit

/-- A new cell block of a choice. -/
structure Zch (w : World) (B : Nat) (x y z : Value) : Prop where
  c0 : w.cell? ⟨B, 0, none⟩ = some x
  c1 : w.cell? ⟨B, 1, none⟩ = some y
  c2 : w.cell? ⟨B, 2, none⟩ = some z
  f0 : w.frozen? ⟨B, 0, none⟩ = false
  f1 : w.frozen? ⟨B, 1, none⟩ = false
  f2 : w.frozen? ⟨B, 2, none⟩ = false
  lt : B < w.heap.size
theorem Zch.new (w : World) (x y z : Value) : Zch (w.alloc (.cells #[x, y, z] 24)) w.heap.size x y z :=
  ⟨by simp [go_sem], by simp [go_sem], by simp [go_sem], by simp [go_sem], by simp [go_sem], by simp [go_sem], by simp⟩
theorem Zch.newd (w : World) (x y z : Value) : Zch (w.alloc (.cells #[x, y, z] 24)).drew w.heap.size x y z :=
  ⟨by simp [go_sem], by simp [go_sem], by simp [go_sem], by simp [go_sem], by simp [go_sem], by simp [go_sem], by simp⟩
theorem Zch.below {w w1 : World} {B : Nat} {x y z : Value} (h : Zch w B x y z) (hb : Below w.heap.size w w1) : Zch w1 B x y z := by
  obtain ⟨c0, c1, c2, f0, f1, f2, lt⟩ := h
  have hs := hb.size
  exact ⟨(hb.cell (p := ⟨B, 0, none⟩) lt).trans c0, (hb.cell (p := ⟨B, 1, none⟩) lt).trans c1, (hb.cell (p := ⟨B, 2, none⟩) lt).trans c2, (hb.frozen (p := ⟨B, 0, none⟩) lt).trans f0, (hb.frozen (p := ⟨B, 1, none⟩) lt).trans f1, (hb.frozen (p := ⟨B, 2, none⟩) lt).trans f2, by omega⟩
theorem Zch.set {w : World} {B : Nat} {x' y' z' : Value} (h : Zch w B x' y' z') (x y z : Value) : Zch (((w.setCell ⟨B, 0, none⟩ x).setCell ⟨B, 1, none⟩ y).setCell ⟨B, 2, none⟩ z) B x y z := by
  obtain ⟨c0, c1, c2, f0, f1, f2, lt⟩ := h
  exact ⟨by simp [go_sem, c0], by simp [go_sem, c1], by simp [go_sem, c2], by simp [go_sem, f0], by simp [go_sem, f1], by simp [go_sem, f2], by simpa using lt⟩
theorem chs_set {w wr : World} {X Y Z : Obj} {B : Nat} {x' y' z' : Value} (h : Zch wr B x' y' z') (hi : In3 w X Y Z wr) (hB : w.heap.size + 3 ≤ B) (x y z : Value) : Zch (((wr.setCell ⟨B, 0, none⟩ x).setCell ⟨B, 1, none⟩ y).setCell ⟨B, 2, none⟩ z) B x y z ∧ In3 w X Y Z (((wr.setCell ⟨B, 0, none⟩ x).setCell ⟨B, 1, none⟩ y).setCell ⟨B, 2, none⟩ z) := ⟨Zch.set h x y z, hi.set3 hB⟩
theorem chs_new {w wr : World} {X Y Z : Obj} (hi : In3 w X Y Z wr) (x y z : Value) : Zch (wr.alloc (.cells #[x, y, z] 24)) wr.heap.size x y z ∧ In3 w X Y Z (wr.alloc (.cells #[x, y, z] 24)) := ⟨Zch.new wr x y z, hi.alloc _⟩

set_option maxRecDepth 100000 in
set_option maxHeartbeats 3200000 in
theorem meet_no121 (x y : Ch) (vx vy : Value)  (w : World) (hx : ChIn w x vx) (hy : ChIn w y vy) (hk1 : 1 ≤ x.kind ∧ x.kind ≤ 4) (hk2 : 1 ≤ y.kind ∧ y.kind ≤ 4) (hF : wayF x.kind y.kind = 121) (C : Ch)
    (hway : ∀ wr vx vy, ChIn wr x vx → ChIn wr y vy → Calls Tryz.prog 121 #[vx, vy] wr (ChOut wr C)) (hC : C = zCh) :
    Calls Tryz.prog 55 #[vx, vy] w (fun e w' => e = .returned (.tuple #[.agg #[.int .i64 0, .int .i64 0, .slice none 0 0], .bool false]) ∧ Below w.heap.size w w') := by
  have hx0 := hx
  have hy0 := hy
  obtain ⟨a, ca, rfl, _, _, _, _, _⟩ := hx
  obtain ⟨b, cb, rfl, _, _, _, _, _⟩ := hy
  obtain ⟨X, hX⟩ : ∃ X : Obj, X = .cells #[.int .i64 x.kind, .int .i64 x.dflt, .slice a x.list.length ca] 24 := ⟨_, rfl⟩
  obtain ⟨Y, hY⟩ : ∃ Y : Obj, Y = .cells #[.int .i64 y.kind, .int .i64 y.dflt, .slice b y.list.length cb] 24 := ⟨_, rfl⟩
  obtain ⟨Z, hZ⟩ : ∃ Z : Obj, Z = .cells #[.int .i64 0, .int .i64 0, .slice none 0 0] 24 := ⟨_, rfl⟩
  have HF : In3 w X Y Z (((w.alloc (.cells #[.int .i64 x.kind, .int .i64 x.dflt, .slice a x.list.length ca] 24)).alloc (.cells #[.int .i64 y.kind, .int .i64 y.dflt, .slice b y.list.length cb] 24)).alloc (.cells #[.int .i64 0, .int .i64 0, .slice none 0 0] 24)) := hX ▸ hY ▸ hZ ▸ In3.first w X Y Z
  have HC := Lib.hid fun (wr : World) (h : In3 w X Y Z wr) => In3.cells (hX ▸ hY ▸ hZ ▸ h)
  have HFr := Lib.hid fun (wr : World) (o : Nat) (h : In3 w X Y Z wr) => In3.free hZ h o
  have HWay := Lib.hid fun (wr : World) (hi : In3 w X Y Z wr) => (wayOf_any x.kind y.kind wr hk1.1 hk1.2 hk2.1 hk2.2).mono fun e w' ⟨a1, a2⟩ => (⟨a1, hi.next a2, a2⟩ : e = Ending.returned (.func (.func (wayF x.kind y.kind)) #[] #[]) ∧ In3 w X Y Z w' ∧ Below wr.heap.size wr w')
  rw [hF] at HWay
  have HMk := Lib.hid fun (wr : World) (hi : In3 w X Y Z wr) => (hway wr _ _ (hx0.mono hi.same) (hy0.mono hi.same)).mono fun e w' ⟨a2, c2, h1, h2, h3⟩ => (⟨a2, c2, h1, h2, hi.next h3, h3⟩ : ∃ a2 c2, e = Ending.returned (.agg #[.int .i64 C.kind, .int .i64 C.dflt, .slice a2 C.list.length c2]) ∧ Row wr.heap.size w' (.slice a2 C.list.length c2) C.list ∧ In3 w X Y Z w' ∧ Below wr.heap.size wr w')
  have HFF := Lib.hid HF
  have hC0 : C.list.length = 0 := by rw [hC]; rfl
  rw [hC0] at HMk
  clear hC hC0
  clear hX hY hZ HF hF hk1 hk2 hway hx0 hy0
  obtain ⟨n, hn⟩ : ∃ n, x.list.length = n := ⟨_, rfl⟩
  obtain ⟨m, hm⟩ : ∃ m, y.list.length = m := ⟨_, rfl⟩
  rw [hn] at HC HMk HFF ⊢
  rw [hm] at HC HMk HFF ⊢
  clear hn hm
  go_enter Tryz.func55, Tryz.ntmps55
  go_upto_region 1 with fail
  have HS : Hid (∀ wx : World, In3 w X Y Z wx → wx.cell? ⟨w.heap.size, 0, none⟩ = some (.int .i64 x.kind) ∧ wx.cell? ⟨w.heap.size, 1, none⟩ = some (.int .i64 x.dflt) ∧ wx.cell? ⟨w.heap.size, 2, none⟩ = some (.slice a n ca) ∧ wx.cell? ⟨w.heap.size + 1, 0, none⟩ = some (.int .i64 y.kind) ∧ wx.cell? ⟨w.heap.size + 1, 1, none⟩ = some (.int .i64 y.dflt) ∧ wx.cell? ⟨w.heap.size + 1, 2, none⟩ = some (.slice b m cb) ∧ In3 w X Y Z wx) := Lib.hid fun wx h => by
    obtain ⟨⟨p0, p1, p2⟩, ⟨q0, q1, q2⟩, _⟩ := HC.out wx h
    exact ⟨p0, p1, p2, q0, q1, q2, h⟩
  go_region_held3 (fun wx => wx.cell? ⟨w.heap.size, 0, none⟩ = some (.int .i64 x.kind) ∧ wx.cell? ⟨w.heap.size, 1, none⟩ = some (.int .i64 x.dflt) ∧ wx.cell? ⟨w.heap.size, 2, none⟩ = some (.slice a n ca) ∧ wx.cell? ⟨w.heap.size + 1, 0, none⟩ = some (.int .i64 y.kind) ∧ wx.cell? ⟨w.heap.size + 1, 1, none⟩ = some (.int .i64 y.dflt) ∧ wx.cell? ⟨w.heap.size + 1, 2, none⟩ = some (.slice b m cb) ∧ In3 w X Y Z wx)
    (first
      | with_reducible exact HS.out _ HFF.out.drew
      | (go_split_ands; with_reducible exact HS.out _ (by assumption))
      | with_reducible exact HS.out _ hk
      | with_reducible exact HS.out _ (In3.alloc hk _)
      | with_reducible exact HS.out _ (In3.set3 hk (by omega))
      | (go_split_ands; with_reducible exact HS.out _ (In3.alloc (by assumption) _)))
    (first
      | (go_at_call 93; (with_reducible refine (HWay.out _ (by go_split_ands; assumption)).mono ?_); rintro e wk1 ⟨rfl, hk, hb1⟩; have z1 := hk.size; try (have y1 := (Zch.newd _ _ _ _).below hb1; (try simp only [World.size_alloc, World.size_drew] at y1)))
      | (go_at_call 121; (with_reducible refine (HMk.out _ (by go_split_ands; assumption)).mono ?_); rintro e wk2 ⟨a2, c2, rfl, hr2, hk, hb2⟩; have z2 := hk.size; first | (have y2 := (Zch.new _ _ _ _).below hb2; (try simp only [World.size_alloc, World.size_drew] at y2); obtain ⟨u0, u1, u2, u3, u4, u5, u6⟩ := y2; have y4 := (Zch.mk u0 u1 u2 u3 u4 u5 u6)) | (have y2 := y1.below hb2; obtain ⟨u0, u1, u2, u3, u4, u5, u6⟩ := y2; have y4 := (Zch.mk u0 u1 u2 u3 u4 u5 u6)) | skip))
  all_goals
    go_split_ands
    first
      | (have hbb := chs_set y4 hk (by omega) (.int .i64 C.kind) (.int .i64 C.dflt) (.slice a2 0 c2))
      | (have hbb := chs_new hk (.int .i64 C.kind) (.int .i64 C.dflt) (.slice a2 0 c2))
    obtain ⟨hsd, hW⟩ := hbb
    have hsdd := Lib.hid hsd
    clear hsd
    try clear u0 u1 u2 u3 u4 u5 u6 y4
    try clear y1
    obtain ⟨_, _, r0, r1, r2⟩ := HC.out _ hW
    have f0 := HFr.out _ 0 hW
    have f1 := HFr.out _ 1 hW
    have f2 := HFr.out _ 2 hW
    obtain ⟨k0, k1, k2, _⟩ := hsdd.out
    go_wp2_with fail
    refine bodyPost_ret (v := .tuple #[.agg #[.int .i64 0, .int .i64 0, .slice none 0 0], .bool false]) (by simp [results, Tryz.results55, go_sem, r0, r1, r2]) rfl ⟨rfl, ?_⟩
    exact ((hW.out.setCell (by simp; omega) _).setCell (by simp; omega) _).setCell (by simp; omega) _


set_option maxRecDepth 100000 in
set_option maxHeartbeats 3200000 in
theorem meet_no122 (x y : Ch) (vx vy : Value)  (w : World) (hx : ChIn w x vx) (hy : ChIn w y vy) (hk1 : 1 ≤ x.kind ∧ x.kind ≤ 4) (hk2 : 1 ≤ y.kind ∧ y.kind ≤ 4) (hF : wayF x.kind y.kind = 122) (C : Ch)
    (hway : ∀ wr vx vy, ChIn wr x vx → ChIn wr y vy → Calls Tryz.prog 122 #[vx, vy] wr (ChOut wr C)) (hC : C = zCh) :
    Calls Tryz.prog 55 #[vx, vy] w (fun e w' => e = .returned (.tuple #[.agg #[.int .i64 0, .int .i64 0, .slice none 0 0], .bool false]) ∧ Below w.heap.size w w') := by
  have hx0 := hx
  have hy0 := hy
  obtain ⟨a, ca, rfl, _, _, _, _, _⟩ := hx
  obtain ⟨b, cb, rfl, _, _, _, _, _⟩ := hy
  obtain ⟨X, hX⟩ : ∃ X : Obj, X = .cells #[.int .i64 x.kind, .int .i64 x.dflt, .slice a x.list.length ca] 24 := ⟨_, rfl⟩
  obtain ⟨Y, hY⟩ : ∃ Y : Obj, Y = .cells #[.int .i64 y.kind, .int .i64 y.dflt, .slice b y.list.length cb] 24 := ⟨_, rfl⟩
  obtain ⟨Z, hZ⟩ : ∃ Z : Obj, Z = .cells #[.int .i64 0, .int .i64 0, .slice none 0 0] 24 := ⟨_, rfl⟩
  have HF : In3 w X Y Z (((w.alloc (.cells #[.int .i64 x.kind, .int .i64 x.dflt, .slice a x.list.length ca] 24)).alloc (.cells #[.int .i64 y.kind, .int .i64 y.dflt, .slice b y.list.length cb] 24)).alloc (.cells #[.int .i64 0, .int .i64 0, .slice none 0 0] 24)) := hX ▸ hY ▸ hZ ▸ In3.first w X Y Z
  have HC := Lib.hid fun (wr : World) (h : In3 w X Y Z wr) => In3.cells (hX ▸ hY ▸ hZ ▸ h)
  have HFr := Lib.hid fun (wr : World) (o : Nat) (h : In3 w X Y Z wr) => In3.free hZ h o
  have HWay := Lib.hid fun (wr : World) (hi : In3 w X Y Z wr) => (wayOf_any x.kind y.kind wr hk1.1 hk1.2 hk2.1 hk2.2).mono fun e w' ⟨a1, a2⟩ => (⟨a1, hi.next a2, a2⟩ : e = Ending.returned (.func (.func (wayF x.kind y.kind)) #[] #[]) ∧ In3 w X Y Z w' ∧ Below wr.heap.size wr w')
  rw [hF] at HWay
  have HMk := Lib.hid fun (wr : World) (hi : In3 w X Y Z wr) => (hway wr _ _ (hx0.mono hi.same) (hy0.mono hi.same)).mono fun e w' ⟨a2, c2, h1, h2, h3⟩ => (⟨a2, c2, h1, h2, hi.next h3, h3⟩ : ∃ a2 c2, e = Ending.returned (.agg #[.int .i64 C.kind, .int .i64 C.dflt, .slice a2 C.list.length c2]) ∧ Row wr.heap.size w' (.slice a2 C.list.length c2) C.list ∧ In3 w X Y Z w' ∧ Below wr.heap.size wr w')
  have HFF := Lib.hid HF
  have hC0 : C.list.length = 0 := by rw [hC]; rfl
  rw [hC0] at HMk
  clear hC hC0
  clear hX hY hZ HF hF hk1 hk2 hway hx0 hy0
  obtain ⟨n, hn⟩ : ∃ n, x.list.length = n := ⟨_, rfl⟩
  obtain ⟨m, hm⟩ : ∃ m, y.list.length = m := ⟨_, rfl⟩
  rw [hn] at HC HMk HFF ⊢
  rw [hm] at HC HMk HFF ⊢
  clear hn hm
  go_enter Tryz.func55, Tryz.ntmps55
  go_upto_region 1 with fail
  have HS : Hid (∀ wx : World, In3 w X Y Z wx → wx.cell? ⟨w.heap.size, 0, none⟩ = some (.int .i64 x.kind) ∧ wx.cell? ⟨w.heap.size, 1, none⟩ = some (.int .i64 x.dflt) ∧ wx.cell? ⟨w.heap.size, 2, none⟩ = some (.slice a n ca) ∧ wx.cell? ⟨w.heap.size + 1, 0, none⟩ = some (.int .i64 y.kind) ∧ wx.cell? ⟨w.heap.size + 1, 1, none⟩ = some (.int .i64 y.dflt) ∧ wx.cell? ⟨w.heap.size + 1, 2, none⟩ = some (.slice b m cb) ∧ In3 w X Y Z wx) := Lib.hid fun wx h => by
    obtain ⟨⟨p0, p1, p2⟩, ⟨q0, q1, q2⟩, _⟩ := HC.out wx h
    exact ⟨p0, p1, p2, q0, q1, q2, h⟩
  go_region_held3 (fun wx => wx.cell? ⟨w.heap.size, 0, none⟩ = some (.int .i64 x.kind) ∧ wx.cell? ⟨w.heap.size, 1, none⟩ = some (.int .i64 x.dflt) ∧ wx.cell? ⟨w.heap.size, 2, none⟩ = some (.slice a n ca) ∧ wx.cell? ⟨w.heap.size + 1, 0, none⟩ = some (.int .i64 y.kind) ∧ wx.cell? ⟨w.heap.size + 1, 1, none⟩ = some (.int .i64 y.dflt) ∧ wx.cell? ⟨w.heap.size + 1, 2, none⟩ = some (.slice b m cb) ∧ In3 w X Y Z wx)
    (first
      | with_reducible exact HS.out _ HFF.out.drew
      | (go_split_ands; with_reducible exact HS.out _ (by assumption))
      | with_reducible exact HS.out _ hk
      | with_reducible exact HS.out _ (In3.alloc hk _)
      | with_reducible exact HS.out _ (In3.set3 hk (by omega))
      | (go_split_ands; with_reducible exact HS.out _ (In3.alloc (by assumption) _)))
    (first
      | (go_at_call 93; (with_reducible refine (HWay.out _ (by go_split_ands; assumption)).mono ?_); rintro e wk1 ⟨rfl, hk, hb1⟩; have z1 := hk.size; try (have y1 := (Zch.newd _ _ _ _).below hb1; (try simp only [World.size_alloc, World.size_drew] at y1)))
      | (go_at_call 122; (with_reducible refine (HMk.out _ (by go_split_ands; assumption)).mono ?_); rintro e wk2 ⟨a2, c2, rfl, hr2, hk, hb2⟩; have z2 := hk.size; first | (have y2 := (Zch.new _ _ _ _).below hb2; (try simp only [World.size_alloc, World.size_drew] at y2); obtain ⟨u0, u1, u2, u3, u4, u5, u6⟩ := y2; have y4 := (Zch.mk u0 u1 u2 u3 u4 u5 u6)) | (have y2 := y1.below hb2; obtain ⟨u0, u1, u2, u3, u4, u5, u6⟩ := y2; have y4 := (Zch.mk u0 u1 u2 u3 u4 u5 u6)) | skip))
  all_goals
    go_split_ands
    first
      | (have hbb := chs_set y4 hk (by omega) (.int .i64 C.kind) (.int .i64 C.dflt) (.slice a2 0 c2))
      | (have hbb := chs_new hk (.int .i64 C.kind) (.int .i64 C.dflt) (.slice a2 0 c2))
    obtain ⟨hsd, hW⟩ := hbb
    have hsdd := Lib.hid hsd
    clear hsd
    try clear u0 u1 u2 u3 u4 u5 u6 y4
    try clear y1
    obtain ⟨_, _, r0, r1, r2⟩ := HC.out _ hW
    have f0 := HFr.out _ 0 hW
    have f1 := HFr.out _ 1 hW
    have f2 := HFr.out _ 2 hW
    obtain ⟨k0, k1, k2, _⟩ := hsdd.out
    go_wp2_with fail
    refine bodyPost_ret (v := .tuple #[.agg #[.int .i64 0, .int .i64 0, .slice none 0 0], .bool false]) (by simp [results, Tryz.results55, go_sem, r0, r1, r2]) rfl ⟨rfl, ?_⟩
    exact ((hW.out.setCell (by simp; omega) _).setCell (by simp; omega) _).setCell (by simp; omega) _


set_option maxRecDepth 100000 in
set_option maxHeartbeats 3200000 in
theorem meet_no123 (x y : Ch) (vx vy : Value)  (w : World) (hx : ChIn w x vx) (hy : ChIn w y vy) (hk1 : 1 ≤ x.kind ∧ x.kind ≤ 4) (hk2 : 1 ≤ y.kind ∧ y.kind ≤ 4) (hF : wayF x.kind y.kind = 123) (C : Ch)
    (hway : ∀ wr vx vy, ChIn wr x vx → ChIn wr y vy → Calls Tryz.prog 123 #[vx, vy] wr (ChOut wr C)) (hC : C = zCh) :
    Calls Tryz.prog 55 #[vx, vy] w (fun e w' => e = .returned (.tuple #[.agg #[.int .i64 0, .int .i64 0, .slice none 0 0], .bool false]) ∧ Below w.heap.size w w') := by
  have hx0 := hx
  have hy0 := hy
  obtain ⟨a, ca, rfl, _, _, _, _, _⟩ := hx
  obtain ⟨b, cb, rfl, _, _, _, _, _⟩ := hy
  obtain ⟨X, hX⟩ : ∃ X : Obj, X = .cells #[.int .i64 x.kind, .int .i64 x.dflt, .slice a x.list.length ca] 24 := ⟨_, rfl⟩
  obtain ⟨Y, hY⟩ : ∃ Y : Obj, Y = .cells #[.int .i64 y.kind, .int .i64 y.dflt, .slice b y.list.length cb] 24 := ⟨_, rfl⟩
  obtain ⟨Z, hZ⟩ : ∃ Z : Obj, Z = .cells #[.int .i64 0, .int .i64 0, .slice none 0 0] 24 := ⟨_, rfl⟩
  have HF : In3 w X Y Z (((w.alloc (.cells #[.int .i64 x.kind, .int .i64 x.dflt, .slice a x.list.length ca] 24)).alloc (.cells #[.int .i64 y.kind, .int .i64 y.dflt, .slice b y.list.length cb] 24)).alloc (.cells #[.int .i64 0, .int .i64 0, .slice none 0 0] 24)) := hX ▸ hY ▸ hZ ▸ In3.first w X Y Z
  have HC := Lib.hid fun (wr : World) (h : In3 w X Y Z wr) => In3.cells (hX ▸ hY ▸ hZ ▸ h)
  have HFr := Lib.hid fun (wr : World) (o : Nat) (h : In3 w X Y Z wr) => In3.free hZ h o
  have HWay := Lib.hid fun (wr : World) (hi : In3 w X Y Z wr) => (wayOf_any x.kind y.kind wr hk1.1 hk1.2 hk2.1 hk2.2).mono fun e w' ⟨a1, a2⟩ => (⟨a1, hi.next a2, a2⟩ : e = Ending.returned (.func (.func (wayF x.kind y.kind)) #[] #[]) ∧ In3 w X Y Z w' ∧ Below wr.heap.size wr w')
  rw [hF] at HWay
  have HMk := Lib.hid fun (wr : World) (hi : In3 w X Y Z wr) => (hway wr _ _ (hx0.mono hi.same) (hy0.mono hi.same)).mono fun e w' ⟨a2, c2, h1, h2, h3⟩ => (⟨a2, c2, h1, h2, hi.next h3, h3⟩ : ∃ a2 c2, e = Ending.returned (.agg #[.int .i64 C.kind, .int .i64 C.dflt, .slice a2 C.list.length c2]) ∧ Row wr.heap.size w' (.slice a2 C.list.length c2) C.list ∧ In3 w X Y Z w' ∧ Below wr.heap.size wr w')
  have HFF := Lib.hid HF
  have hC0 : C.list.length = 0 := by rw [hC]; rfl
  rw [hC0] at HMk
  clear hC hC0
  clear hX hY hZ HF hF hk1 hk2 hway hx0 hy0
  obtain ⟨n, hn⟩ : ∃ n, x.list.length = n := ⟨_, rfl⟩
  obtain ⟨m, hm⟩ : ∃ m, y.list.length = m := ⟨_, rfl⟩
  rw [hn] at HC HMk HFF ⊢
  rw [hm] at HC HMk HFF ⊢
  clear hn hm
  go_enter Tryz.func55, Tryz.ntmps55
  go_upto_region 1 with fail
  have HS : Hid (∀ wx : World, In3 w X Y Z wx → wx.cell? ⟨w.heap.size, 0, none⟩ = some (.int .i64 x.kind) ∧ wx.cell? ⟨w.heap.size, 1, none⟩ = some (.int .i64 x.dflt) ∧ wx.cell? ⟨w.heap.size, 2, none⟩ = some (.slice a n ca) ∧ wx.cell? ⟨w.heap.size + 1, 0, none⟩ = some (.int .i64 y.kind) ∧ wx.cell? ⟨w.heap.size + 1, 1, none⟩ = some (.int .i64 y.dflt) ∧ wx.cell? ⟨w.heap.size + 1, 2, none⟩ = some (.slice b m cb) ∧ In3 w X Y Z wx) := Lib.hid fun wx h => by
    obtain ⟨⟨p0, p1, p2⟩, ⟨q0, q1, q2⟩, _⟩ := HC.out wx h
    exact ⟨p0, p1, p2, q0, q1, q2, h⟩
  go_region_held3 (fun wx => wx.cell? ⟨w.heap.size, 0, none⟩ = some (.int .i64 x.kind) ∧ wx.cell? ⟨w.heap.size, 1, none⟩ = some (.int .i64 x.dflt) ∧ wx.cell? ⟨w.heap.size, 2, none⟩ = some (.slice a n ca) ∧ wx.cell? ⟨w.heap.size + 1, 0, none⟩ = some (.int .i64 y.kind) ∧ wx.cell? ⟨w.heap.size + 1, 1, none⟩ = some (.int .i64 y.dflt) ∧ wx.cell? ⟨w.heap.size + 1, 2, none⟩ = some (.slice b m cb) ∧ In3 w X Y Z wx)
    (first
      | with_reducible exact HS.out _ HFF.out.drew
      | (go_split_ands; with_reducible exact HS.out _ (by assumption))
      | with_reducible exact HS.out _ hk
      | with_reducible exact HS.out _ (In3.alloc hk _)
      | with_reducible exact HS.out _ (In3.set3 hk (by omega))
      | (go_split_ands; with_reducible exact HS.out _ (In3.alloc (by assumption) _)))
    (first
      | (go_at_call 93; (with_reducible refine (HWay.out _ (by go_split_ands; assumption)).mono ?_); rintro e wk1 ⟨rfl, hk, hb1⟩; have z1 := hk.size; try (have y1 := (Zch.newd _ _ _ _).below hb1; (try simp only [World.size_alloc, World.size_drew] at y1)))
      | (go_at_call 123; (with_reducible refine (HMk.out _ (by go_split_ands; assumption)).mono ?_); rintro e wk2 ⟨a2, c2, rfl, hr2, hk, hb2⟩; have z2 := hk.size; first | (have y2 := (Zch.new _ _ _ _).below hb2; (try simp only [World.size_alloc, World.size_drew] at y2); obtain ⟨u0, u1, u2, u3, u4, u5, u6⟩ := y2; have y4 := (Zch.mk u0 u1 u2 u3 u4 u5 u6)) | (have y2 := y1.below hb2; obtain ⟨u0, u1, u2, u3, u4, u5, u6⟩ := y2; have y4 := (Zch.mk u0 u1 u2 u3 u4 u5 u6)) | skip))
  all_goals
    go_split_ands
    first
      | (have hbb := chs_set y4 hk (by omega) (.int .i64 C.kind) (.int .i64 C.dflt) (.slice a2 0 c2))
      | (have hbb := chs_new hk (.int .i64 C.kind) (.int .i64 C.dflt) (.slice a2 0 c2))
    obtain ⟨hsd, hW⟩ := hbb
    have hsdd := Lib.hid hsd
    clear hsd
    try clear u0 u1 u2 u3 u4 u5 u6 y4
    try clear y1
    obtain ⟨_, _, r0, r1, r2⟩ := HC.out _ hW
    have f0 := HFr.out _ 0 hW
    have f1 := HFr.out _ 1 hW
    have f2 := HFr.out _ 2 hW
    obtain ⟨k0, k1, k2, _⟩ := hsdd.out
    go_wp2_with fail
    refine bodyPost_ret (v := .tuple #[.agg #[.int .i64 0, .int .i64 0, .slice none 0 0], .bool false]) (by simp [results, Tryz.results55, go_sem, r0, r1, r2]) rfl ⟨rfl, ?_⟩
    exact ((hW.out.setCell (by simp; omega) _).setCell (by simp; omega) _).setCell (by simp; omega) _


set_option maxRecDepth 100000 in
set_option maxHeartbeats 3200000 in
theorem meet_no124 (x y : Ch) (vx vy : Value)  (w : World) (hx : ChIn w x vx) (hy : ChIn w y vy) (hk1 : 1 ≤ x.kind ∧ x.kind ≤ 4) (hk2 : 1 ≤ y.kind ∧ y.kind ≤ 4) (hF : wayF x.kind y.kind = 124) (C : Ch)
    (hway : ∀ wr vx vy, ChIn wr x vx → ChIn wr y vy → Calls Tryz.prog 124 #[vx, vy] wr (ChOut wr C)) (hC : C = zCh) :
    Calls Tryz.prog 55 #[vx, vy] w (fun e w' => e = .returned (.tuple #[.agg #[.int .i64 0, .int .i64 0, .slice none 0 0], .bool false]) ∧ Below w.heap.size w w') := by
  have hx0 := hx
  have hy0 := hy
  obtain ⟨a, ca, rfl, _, _, _, _, _⟩ := hx
  obtain ⟨b, cb, rfl, _, _, _, _, _⟩ := hy
  obtain ⟨X, hX⟩ : ∃ X : Obj, X = .cells #[.int .i64 x.kind, .int .i64 x.dflt, .slice a x.list.length ca] 24 := ⟨_, rfl⟩
  obtain ⟨Y, hY⟩ : ∃ Y : Obj, Y = .cells #[.int .i64 y.kind, .int .i64 y.dflt, .slice b y.list.length cb] 24 := ⟨_, rfl⟩
  obtain ⟨Z, hZ⟩ : ∃ Z : Obj, Z = .cells #[.int .i64 0, .int .i64 0, .slice none 0 0] 24 := ⟨_, rfl⟩
  have HF : In3 w X Y Z (((w.alloc (.cells #[.int .i64 x.kind, .int .i64 x.dflt, .slice a x.list.length ca] 24)).alloc (.cells #[.int .i64 y.kind, .int .i64 y.dflt, .slice b y.list.length cb] 24)).alloc (.cells #[.int .i64 0, .int .i64 0, .slice none 0 0] 24)) := hX ▸ hY ▸ hZ ▸ In3.first w X Y Z
  have HC := Lib.hid fun (wr : World) (h : In3 w X Y Z wr) => In3.cells (hX ▸ hY ▸ hZ ▸ h)
  have HFr := Lib.hid fun (wr : World) (o : Nat) (h : In3 w X Y Z wr) => In3.free hZ h o
  have HWay := Lib.hid fun (wr : World) (hi : In3 w X Y Z wr) => (wayOf_any x.kind y.kind wr hk1.1 hk1.2 hk2.1 hk2.2).mono fun e w' ⟨a1, a2⟩ => (⟨a1, hi.next a2, a2⟩ : e = Ending.returned (.func (.func (wayF x.kind y.kind)) #[] #[]) ∧ In3 w X Y Z w' ∧ Below wr.heap.size wr w')
  rw [hF] at HWay
  have HMk := Lib.hid fun (wr : World) (hi : In3 w X Y Z wr) => (hway wr _ _ (hx0.mono hi.same) (hy0.mono hi.same)).mono fun e w' ⟨a2, c2, h1, h2, h3⟩ => (⟨a2, c2, h1, h2, hi.next h3, h3⟩ : ∃ a2 c2, e = Ending.returned (.agg #[.int .i64 C.kind, .int .i64 C.dflt, .slice a2 C.list.length c2]) ∧ Row wr.heap.size w' (.slice a2 C.list.length c2) C.list ∧ In3 w X Y Z w' ∧ Below wr.heap.size wr w')
  have HFF := Lib.hid HF
  have hC0 : C.list.length = 0 := by rw [hC]; rfl
  rw [hC0] at HMk
  clear hC hC0
  clear hX hY hZ HF hF hk1 hk2 hway hx0 hy0
  obtain ⟨n, hn⟩ : ∃ n, x.list.length = n := ⟨_, rfl⟩
  obtain ⟨m, hm⟩ : ∃ m, y.list.length = m := ⟨_, rfl⟩
  rw [hn] at HC HMk HFF ⊢
  rw [hm] at HC HMk HFF ⊢
  clear hn hm
  go_enter Tryz.func55, Tryz.ntmps55
  go_upto_region 1 with fail
  have HS : Hid (∀ wx : World, In3 w X Y Z wx → wx.cell? ⟨w.heap.size, 0, none⟩ = some (.int .i64 x.kind) ∧ wx.cell? ⟨w.heap.size, 1, none⟩ = some (.int .i64 x.dflt) ∧ wx.cell? ⟨w.heap.size, 2, none⟩ = some (.slice a n ca) ∧ wx.cell? ⟨w.heap.size + 1, 0, none⟩ = some (.int .i64 y.kind) ∧ wx.cell? ⟨w.heap.size + 1, 1, none⟩ = some (.int .i64 y.dflt) ∧ wx.cell? ⟨w.heap.size + 1, 2, none⟩ = some (.slice b m cb) ∧ In3 w X Y Z wx) := Lib.hid fun wx h => by
    obtain ⟨⟨p0, p1, p2⟩, ⟨q0, q1, q2⟩, _⟩ := HC.out wx h
    exact ⟨p0, p1, p2, q0, q1, q2, h⟩
  go_region_held3 (fun wx => wx.cell? ⟨w.heap.size, 0, none⟩ = some (.int .i64 x.kind) ∧ wx.cell? ⟨w.heap.size, 1, none⟩ = some (.int .i64 x.dflt) ∧ wx.cell? ⟨w.heap.size, 2, none⟩ = some (.slice a n ca) ∧ wx.cell? ⟨w.heap.size + 1, 0, none⟩ = some (.int .i64 y.kind) ∧ wx.cell? ⟨w.heap.size + 1, 1, none⟩ = some (.int .i64 y.dflt) ∧ wx.cell? ⟨w.heap.size + 1, 2, none⟩ = some (.slice b m cb) ∧ In3 w X Y Z wx)
    (first
      | with_reducible exact HS.out _ HFF.out.drew
      | (go_split_ands; with_reducible exact HS.out _ (by assumption))
      | with_reducible exact HS.out _ hk
      | with_reducible exact HS.out _ (In3.alloc hk _)
      | with_reducible exact HS.out _ (In3.set3 hk (by omega))
      | (go_split_ands; with_reducible exact HS.out _ (In3.alloc (by assumption) _)))
    (first
      | (go_at_call 93; (with_reducible refine (HWay.out _ (by go_split_ands; assumption)).mono ?_); rintro e wk1 ⟨rfl, hk, hb1⟩; have z1 := hk.size; try (have y1 := (Zch.newd _ _ _ _).below hb1; (try simp only [World.size_alloc, World.size_drew] at y1)))
      | (go_at_call 124; (with_reducible refine (HMk.out _ (by go_split_ands; assumption)).mono ?_); rintro e wk2 ⟨a2, c2, rfl, hr2, hk, hb2⟩; have z2 := hk.size; first | (have y2 := (Zch.new _ _ _ _).below hb2; (try simp only [World.size_alloc, World.size_drew] at y2); obtain ⟨u0, u1, u2, u3, u4, u5, u6⟩ := y2; have y4 := (Zch.mk u0 u1 u2 u3 u4 u5 u6)) | (have y2 := y1.below hb2; obtain ⟨u0, u1, u2, u3, u4, u5, u6⟩ := y2; have y4 := (Zch.mk u0 u1 u2 u3 u4 u5 u6)) | skip))
  all_goals
    go_split_ands
    first
      | (have hbb := chs_set y4 hk (by omega) (.int .i64 C.kind) (.int .i64 C.dflt) (.slice a2 0 c2))
      | (have hbb := chs_new hk (.int .i64 C.kind) (.int .i64 C.dflt) (.slice a2 0 c2))
    obtain ⟨hsd, hW⟩ := hbb
    have hsdd := Lib.hid hsd
    clear hsd
    try clear u0 u1 u2 u3 u4 u5 u6 y4
    try clear y1
    obtain ⟨_, _, r0, r1, r2⟩ := HC.out _ hW
    have f0 := HFr.out _ 0 hW
    have f1 := HFr.out _ 1 hW
    have f2 := HFr.out _ 2 hW
    obtain ⟨k0, k1, k2, _⟩ := hsdd.out
    go_wp2_with fail
    refine bodyPost_ret (v := .tuple #[.agg #[.int .i64 0, .int .i64 0, .slice none 0 0], .bool false]) (by simp [results, Tryz.results55, go_sem, r0, r1, r2]) rfl ⟨rfl, ?_⟩
    exact ((hW.out.setCell (by simp; omega) _).setCell (by simp; omega) _).setCell (by simp; omega) _

end Go.Proofs.YtlpdeadmiinhoaaGreatDoor
