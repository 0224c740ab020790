/- An outcome's default, by the document's answers. -/
import Derived.Test.YtlpdeadmiinhoaaGreatDoorIB
namespace Go.Proofs.YtlpdeadmiinhoaaGreatDoor
open Go.RowKit

theorem In3.freeX {w wr : World} {X Y Z : Obj} {zs : Array Value} {T : TypeId} (hX : X = .cells zs T) (h : In3 w X Y Z wr) (o : Nat) : wr.frozen? ⟨w.heap.size, o, none⟩ = false := by
  rw [Below.frozen h (by simp), hX]; simp [go_sem]

set_option maxRecDepth 100000 in
set_option maxHeartbeats 3200000 in
theorem wished_first (C x y : Ch) (aC : Option Addr) (cC : Nat) (vx vy : Value) (w : World) (hC : ChIn w C (.agg #[.int .i64 C.kind, .int .i64 C.dflt, .slice aC C.list.length cC])) (hx : ChIn w x vx) (hy : ChIn w y vy) (hok : HasOk C) (hlen : 1 ≤ C.list.length) (h1 : C.has x.dflt = true) :
    Calls Tryz.prog 96 #[.agg #[.int .i64 C.kind, .int .i64 C.dflt, .slice aC C.list.length cC], vx, vy] w fun e w' => e = .returned (.agg #[.int .i64 C.kind, .int .i64 x.dflt, .slice aC C.list.length cC]) ∧ Below w.heap.size w w' := by
  have hC0 := hC
  have hin : IntsIn w aC C.list := by
    obtain ⟨a1, c1, he, _, _, _, h5, _⟩ := hC
    cases he
    exact h5
  have hll : C.list.length ≤ 17592186044416 := by
    obtain ⟨a1, c1, he, _, _, h4, _, _⟩ := hC
    exact h4
  obtain ⟨a, ca, rfl, _, _, _, _, _⟩ := hx
  obtain ⟨b, cb, rfl, _, _, _, _, _⟩ := hy
  obtain ⟨X, hX⟩ : ∃ X : Obj, X = .cells #[.int .i64 C.kind, .int .i64 C.dflt, .slice aC C.list.length cC] 24 := ⟨_, rfl⟩
  obtain ⟨Y, hY⟩ : ∃ Y : Obj, Y = .cells #[.int .i64 x.kind, .int .i64 x.dflt, .slice a x.list.length ca] 24 := ⟨_, rfl⟩
  obtain ⟨Z, hZ⟩ : ∃ Z : Obj, Z = .cells #[.int .i64 y.kind, .int .i64 y.dflt, .slice b y.list.length cb] 24 := ⟨_, rfl⟩
  have HF : In3 w X Y Z ((((w.alloc (.cells #[.int .i64 C.kind, .int .i64 C.dflt, .slice aC C.list.length cC] 24)).alloc (.cells #[.int .i64 x.kind, .int .i64 x.dflt, .slice a x.list.length ca] 24)).alloc (.cells #[.int .i64 y.kind, .int .i64 y.dflt, .slice b y.list.length cb] 24)).alloc (.cells #[.int .i64 0, .int .i64 0, .slice none 0 0] 24)) := hX ▸ hY ▸ hZ ▸ (In3.first w X Y Z).alloc _
  have HZ0 := Zch.new (((w.alloc (.cells #[.int .i64 C.kind, .int .i64 C.dflt, .slice aC C.list.length cC] 24)).alloc (.cells #[.int .i64 x.kind, .int .i64 x.dflt, .slice a x.list.length ca] 24)).alloc (.cells #[.int .i64 y.kind, .int .i64 y.dflt, .slice b y.list.length cb] 24)) (.int .i64 0) (.int .i64 0) (.slice none 0 0)
  simp only [World.size_alloc] at HZ0
  have HC := Lib.hid fun (wr : World) (h : In3 w X Y Z wr) => In3.cells (hX ▸ hY ▸ hZ ▸ h)
  have HFr := Lib.hid fun (wr : World) (o : Nat) (h : In3 w X Y Z wr) => In3.freeX hX h o
  have HHas := Lib.hid fun (n : Int) (wr : World) (hi : In3 w X Y Z wr) => (has1_any C _ n wr (hC0.mono hi.same) hok).mono fun e w' ⟨h1, h2⟩ => (⟨h1, hi.next h2, h2⟩ : e = Ending.returned (.bool (C.has n)) ∧ In3 w X Y Z w' ∧ Below wr.heap.size wr w')
  have HHx := Lib.hid fun (wr : World) (hi : In3 w X Y Z wr) => HHas.out x.dflt wr hi
  have HHy := Lib.hid fun (wr : World) (hi : In3 w X Y Z wr) => HHas.out y.dflt wr hi
  have HI := Lib.hid fun (wr : World) (hi : In3 w X Y Z wr) => hin.mono hi.same 0 (by omega)
  rw [h1] at HHx
  clear h1 HHy HI
  clear HHas hC0 hC hok hin
  have HFF := Lib.hid HF
  have HZZ := Lib.hid HZ0
  obtain ⟨⟨p0, p1, p2⟩, ⟨q0, q1, q2⟩, s0, s1, s2⟩ := HC.out _ HF
  clear hX hY hZ HF HZ0
  obtain ⟨ck, hck⟩ : ∃ k, C.kind = k := ⟨_, rfl⟩
  obtain ⟨cd, hcd⟩ : ∃ k, C.dflt = k := ⟨_, rfl⟩
  obtain ⟨q, hq⟩ : ∃ k, C.list.length = k := ⟨_, rfl⟩
  obtain ⟨xd, hxd⟩ : ∃ k, x.dflt = k := ⟨_, rfl⟩
  obtain ⟨yd, hyd⟩ : ∃ k, y.dflt = k := ⟨_, rfl⟩
  simp only [hck, hcd, hq, hxd, hyd] at *
  clear hck hcd hq hxd hyd
  go_enter Tryz.func96, Tryz.ntmps96
  go_wp2_with (go_at_call 20; (with_reducible refine (HHx.out _ HFF.out).mono ?_); rintro e w1 ⟨rfl, hi1, hb1⟩; obtain ⟨⟨p0, p1, p2⟩, ⟨q0, q1, q2⟩, s0, s1, s2⟩ := HC.out _ hi1; have fx := HFr.out _ 1 hi1; have HZ1 := HZZ.out.below hb1; obtain ⟨z0, z1, z2, z3, z4, z5, z6⟩ := HZ1)
  refine bodyPost_ret (v := .agg #[.int .i64 ck, .int .i64 xd, .slice aC q cC]) (by simp [results, Tryz.results96, go_sem, p0, p2, z0, z1, z2]) rfl ⟨rfl, ?_⟩
  exact (((hi1.out.setCell (by simp) _).setCell (by simp; omega) _).setCell (by simp; omega) _).setCell (by simp; omega) _


set_option maxRecDepth 100000 in
set_option maxHeartbeats 3200000 in
theorem wished_second (C x y : Ch) (aC : Option Addr) (cC : Nat) (vx vy : Value) (w : World) (hC : ChIn w C (.agg #[.int .i64 C.kind, .int .i64 C.dflt, .slice aC C.list.length cC])) (hx : ChIn w x vx) (hy : ChIn w y vy) (hok : HasOk C) (hlen : 1 ≤ C.list.length) (h1 : C.has x.dflt = false) (h2 : C.has y.dflt = true) :
    Calls Tryz.prog 96 #[.agg #[.int .i64 C.kind, .int .i64 C.dflt, .slice aC C.list.length cC], vx, vy] w fun e w' => e = .returned (.agg #[.int .i64 C.kind, .int .i64 y.dflt, .slice aC C.list.length cC]) ∧ Below w.heap.size w w' := by
  have hC0 := hC
  have hin : IntsIn w aC C.list := by
    obtain ⟨a1, c1, he, _, _, _, h5, _⟩ := hC
    cases he
    exact h5
  have hll : C.list.length ≤ 17592186044416 := by
    obtain ⟨a1, c1, he, _, _, h4, _, _⟩ := hC
    exact h4
  obtain ⟨a, ca, rfl, _, _, _, _, _⟩ := hx
  obtain ⟨b, cb, rfl, _, _, _, _, _⟩ := hy
  obtain ⟨X, hX⟩ : ∃ X : Obj, X = .cells #[.int .i64 C.kind, .int .i64 C.dflt, .slice aC C.list.length cC] 24 := ⟨_, rfl⟩
  obtain ⟨Y, hY⟩ : ∃ Y : Obj, Y = .cells #[.int .i64 x.kind, .int .i64 x.dflt, .slice a x.list.length ca] 24 := ⟨_, rfl⟩
  obtain ⟨Z, hZ⟩ : ∃ Z : Obj, Z = .cells #[.int .i64 y.kind, .int .i64 y.dflt, .slice b y.list.length cb] 24 := ⟨_, rfl⟩
  have HF : In3 w X Y Z ((((w.alloc (.cells #[.int .i64 C.kind, .int .i64 C.dflt, .slice aC C.list.length cC] 24)).alloc (.cells #[.int .i64 x.kind, .int .i64 x.dflt, .slice a x.list.length ca] 24)).alloc (.cells #[.int .i64 y.kind, .int .i64 y.dflt, .slice b y.list.length cb] 24)).alloc (.cells #[.int .i64 0, .int .i64 0, .slice none 0 0] 24)) := hX ▸ hY ▸ hZ ▸ (In3.first w X Y Z).alloc _
  have HZ0 := Zch.new (((w.alloc (.cells #[.int .i64 C.kind, .int .i64 C.dflt, .slice aC C.list.length cC] 24)).alloc (.cells #[.int .i64 x.kind, .int .i64 x.dflt, .slice a x.list.length ca] 24)).alloc (.cells #[.int .i64 y.kind, .int .i64 y.dflt, .slice b y.list.length cb] 24)) (.int .i64 0) (.int .i64 0) (.slice none 0 0)
  simp only [World.size_alloc] at HZ0
  have HC := Lib.hid fun (wr : World) (h : In3 w X Y Z wr) => In3.cells (hX ▸ hY ▸ hZ ▸ h)
  have HFr := Lib.hid fun (wr : World) (o : Nat) (h : In3 w X Y Z wr) => In3.freeX hX h o
  have HHas := Lib.hid fun (n : Int) (wr : World) (hi : In3 w X Y Z wr) => (has1_any C _ n wr (hC0.mono hi.same) hok).mono fun e w' ⟨h1, h2⟩ => (⟨h1, hi.next h2, h2⟩ : e = Ending.returned (.bool (C.has n)) ∧ In3 w X Y Z w' ∧ Below wr.heap.size wr w')
  have HHx := Lib.hid fun (wr : World) (hi : In3 w X Y Z wr) => HHas.out x.dflt wr hi
  have HHy := Lib.hid fun (wr : World) (hi : In3 w X Y Z wr) => HHas.out y.dflt wr hi
  have HI := Lib.hid fun (wr : World) (hi : In3 w X Y Z wr) => hin.mono hi.same 0 (by omega)
  rw [h1] at HHx
  rw [h2] at HHy
  clear h1 h2 HI
  clear HHas hC0 hC hok hin
  have HFF := Lib.hid HF
  have HZZ := Lib.hid HZ0
  obtain ⟨⟨p0, p1, p2⟩, ⟨q0, q1, q2⟩, s0, s1, s2⟩ := HC.out _ HF
  clear hX hY hZ HF HZ0
  obtain ⟨ck, hck⟩ : ∃ k, C.kind = k := ⟨_, rfl⟩
  obtain ⟨cd, hcd⟩ : ∃ k, C.dflt = k := ⟨_, rfl⟩
  obtain ⟨q, hq⟩ : ∃ k, C.list.length = k := ⟨_, rfl⟩
  obtain ⟨xd, hxd⟩ : ∃ k, x.dflt = k := ⟨_, rfl⟩
  obtain ⟨yd, hyd⟩ : ∃ k, y.dflt = k := ⟨_, rfl⟩
  simp only [hck, hcd, hq, hxd, hyd] at *
  clear hck hcd hq hxd hyd
  go_enter Tryz.func96, Tryz.ntmps96
  go_wp2_with (first
    | (go_at_call 20; (with_reducible refine (HHx.out _ HFF.out).mono ?_); rintro e w1 ⟨rfl, hi1, hb1⟩; obtain ⟨⟨p0, p1, p2⟩, ⟨q0, q1, q2⟩, s0, s1, s2⟩ := HC.out _ hi1; have fx := HFr.out _ 1 hi1; have HZ1 := HZZ.out.below hb1; obtain ⟨z0, z1, z2, z3, z4, z5, z6⟩ := HZ1)
    | (go_at_call 20; (with_reducible refine (HHy.out _ hi1).mono ?_); rintro e w2 ⟨rfl, hi2, hb2⟩; obtain ⟨⟨p0, p1, p2⟩, ⟨q0, q1, q2⟩, s0, s1, s2⟩ := HC.out _ hi2; have fx := HFr.out _ 1 hi2; have HZ2 := (Zch.mk z0 z1 z2 z3 z4 z5 z6).below hb2; clear z0 z1 z2 z3 z4 z5 z6; obtain ⟨z0, z1, z2, z3, z4, z5, z6⟩ := HZ2))
  refine bodyPost_ret (v := .agg #[.int .i64 ck, .int .i64 yd, .slice aC q cC]) (by simp [results, Tryz.results96, go_sem, p0, p2, z0, z1, z2]) rfl ⟨rfl, ?_⟩
  exact (((hi2.out.setCell (by simp) _).setCell (by simp; omega) _).setCell (by simp; omega) _).setCell (by simp; omega) _


set_option maxRecDepth 100000 in
set_option maxHeartbeats 3200000 in
theorem wished_third (C x y : Ch) (aC : Option Addr) (cC : Nat) (vx vy : Value) (w : World) (hC : ChIn w C (.agg #[.int .i64 C.kind, .int .i64 C.dflt, .slice aC C.list.length cC])) (hx : ChIn w x vx) (hy : ChIn w y vy) (hok : HasOk C) (hlen : 1 ≤ C.list.length) (h1 : C.has x.dflt = false) (h2 : C.has y.dflt = false) :
    Calls Tryz.prog 96 #[.agg #[.int .i64 C.kind, .int .i64 C.dflt, .slice aC C.list.length cC], vx, vy] w fun e w' => e = .returned (.agg #[.int .i64 C.kind, .int .i64 (C.list.getD 0 0), .slice aC C.list.length cC]) ∧ Below w.heap.size w w' := by
  have hC0 := hC
  have hin : IntsIn w aC C.list := by
    obtain ⟨a1, c1, he, _, _, _, h5, _⟩ := hC
    cases he
    exact h5
  have hll : C.list.length ≤ 17592186044416 := by
    obtain ⟨a1, c1, he, _, _, h4, _, _⟩ := hC
    exact h4
  obtain ⟨a, ca, rfl, _, _, _, _, _⟩ := hx
  obtain ⟨b, cb, rfl, _, _, _, _, _⟩ := hy
  obtain ⟨X, hX⟩ : ∃ X : Obj, X = .cells #[.int .i64 C.kind, .int .i64 C.dflt, .slice aC C.list.length cC] 24 := ⟨_, rfl⟩
  obtain ⟨Y, hY⟩ : ∃ Y : Obj, Y = .cells #[.int .i64 x.kind, .int .i64 x.dflt, .slice a x.list.length ca] 24 := ⟨_, rfl⟩
  obtain ⟨Z, hZ⟩ : ∃ Z : Obj, Z = .cells #[.int .i64 y.kind, .int .i64 y.dflt, .slice b y.list.length cb] 24 := ⟨_, rfl⟩
  have HF : In3 w X Y Z ((((w.alloc (.cells #[.int .i64 C.kind, .int .i64 C.dflt, .slice aC C.list.length cC] 24)).alloc (.cells #[.int .i64 x.kind, .int .i64 x.dflt, .slice a x.list.length ca] 24)).alloc (.cells #[.int .i64 y.kind, .int .i64 y.dflt, .slice b y.list.length cb] 24)).alloc (.cells #[.int .i64 0, .int .i64 0, .slice none 0 0] 24)) := hX ▸ hY ▸ hZ ▸ (In3.first w X Y Z).alloc _
  have HZ0 := Zch.new (((w.alloc (.cells #[.int .i64 C.kind, .int .i64 C.dflt, .slice aC C.list.length cC] 24)).alloc (.cells #[.int .i64 x.kind, .int .i64 x.dflt, .slice a x.list.length ca] 24)).alloc (.cells #[.int .i64 y.kind, .int .i64 y.dflt, .slice b y.list.length cb] 24)) (.int .i64 0) (.int .i64 0) (.slice none 0 0)
  simp only [World.size_alloc] at HZ0
  have HC := Lib.hid fun (wr : World) (h : In3 w X Y Z wr) => In3.cells (hX ▸ hY ▸ hZ ▸ h)
  have HFr := Lib.hid fun (wr : World) (o : Nat) (h : In3 w X Y Z wr) => In3.freeX hX h o
  have HHas := Lib.hid fun (n : Int) (wr : World) (hi : In3 w X Y Z wr) => (has1_any C _ n wr (hC0.mono hi.same) hok).mono fun e w' ⟨h1, h2⟩ => (⟨h1, hi.next h2, h2⟩ : e = Ending.returned (.bool (C.has n)) ∧ In3 w X Y Z w' ∧ Below wr.heap.size wr w')
  have HHx := Lib.hid fun (wr : World) (hi : In3 w X Y Z wr) => HHas.out x.dflt wr hi
  have HHy := Lib.hid fun (wr : World) (hi : In3 w X Y Z wr) => HHas.out y.dflt wr hi
  have HI := Lib.hid fun (wr : World) (hi : In3 w X Y Z wr) => hin.mono hi.same 0 (by omega)
  rw [h1] at HHx
  rw [h2] at HHy
  clear h1 h2
  obtain ⟨lz, hlz⟩ : ∃ z, C.list.getD 0 0 = z := ⟨_, rfl⟩
  rw [hlz] at HI ⊢
  clear hlz
  have hm0 : (0 : Int) < (C.list.length : Int) := by omega
  have hm2 : 0 < C.list.length := by omega
  clear HHas hC0 hC hok hin
  have HFF := Lib.hid HF
  have HZZ := Lib.hid HZ0
  obtain ⟨⟨p0, p1, p2⟩, ⟨q0, q1, q2⟩, s0, s1, s2⟩ := HC.out _ HF
  clear hX hY hZ HF HZ0
  obtain ⟨ck, hck⟩ : ∃ k, C.kind = k := ⟨_, rfl⟩
  obtain ⟨cd, hcd⟩ : ∃ k, C.dflt = k := ⟨_, rfl⟩
  obtain ⟨q, hq⟩ : ∃ k, C.list.length = k := ⟨_, rfl⟩
  obtain ⟨xd, hxd⟩ : ∃ k, x.dflt = k := ⟨_, rfl⟩
  obtain ⟨yd, hyd⟩ : ∃ k, y.dflt = k := ⟨_, rfl⟩
  simp only [hck, hcd, hq, hxd, hyd] at *
  clear hck hcd hq hxd hyd
  go_enter Tryz.func96, Tryz.ntmps96
  go_wp2_with (first
    | (go_at_call 20; (with_reducible refine (HHx.out _ HFF.out).mono ?_); rintro e w1 ⟨rfl, hi1, hb1⟩; obtain ⟨⟨p0, p1, p2⟩, ⟨q0, q1, q2⟩, s0, s1, s2⟩ := HC.out _ hi1; have fx := HFr.out _ 1 hi1; have HZ1 := HZZ.out.below hb1; obtain ⟨z0, z1, z2, z3, z4, z5, z6⟩ := HZ1)
    | (go_at_call 20; (with_reducible refine (HHy.out _ hi1).mono ?_); rintro e w2 ⟨rfl, hi2, hb2⟩; obtain ⟨⟨p0, p1, p2⟩, ⟨q0, q1, q2⟩, s0, s1, s2⟩ := HC.out _ hi2; have fx := HFr.out _ 1 hi2; have HZ2 := (Zch.mk z0 z1 z2 z3 z4 z5 z6).below hb2; clear z0 z1 z2 z3 z4 z5 z6; obtain ⟨z0, z1, z2, z3, z4, z5, z6⟩ := HZ2; obtain ⟨gb, go, rfl, gc, _⟩ := HI.out _ hi2; simp only [Nat.add_zero] at gc))
  refine bodyPost_ret (v := .agg #[.int .i64 ck, .int .i64 lz, .slice (some ⟨gb, go, none⟩) q cC]) (by simp [results, Tryz.results96, go_sem, p0, p2, z0, z1, z2]) rfl ⟨rfl, ?_⟩
  exact (((hi2.out.setCell (by simp) _).setCell (by simp; omega) _).setCell (by simp; omega) _).setCell (by simp; omega) _


theorem wished_any (C x y : Ch) (aC : Option Addr) (cC : Nat) (vx vy : Value) (w : World) (hC : ChIn w C (.agg #[.int .i64 C.kind, .int .i64 C.dflt, .slice aC C.list.length cC])) (hx : ChIn w x vx) (hy : ChIn w y vy) (hok : HasOk C) (hlen : 1 ≤ C.list.length) :
    Calls Tryz.prog 96 #[.agg #[.int .i64 C.kind, .int .i64 C.dflt, .slice aC C.list.length cC], vx, vy] w fun e w' => e = .returned (.agg #[.int .i64 C.kind, .int .i64 (wishC C x.dflt y.dflt), .slice aC C.list.length cC]) ∧ Below w.heap.size w w' := by
  unfold wishC
  cases h1 : C.has x.dflt with
  | true => exact wished_first C x y aC cC vx vy w hC hx hy hok hlen h1
  | false =>
    cases h2 : C.has y.dflt with
    | true => exact wished_second C x y aC cC vx vy w hC hx hy hok hlen h1 h2
    | false => exact wished_third C x y aC cC vx vy w hC hx hy hok hlen h1 h2
end Go.Proofs.YtlpdeadmiinhoaaGreatDoor
