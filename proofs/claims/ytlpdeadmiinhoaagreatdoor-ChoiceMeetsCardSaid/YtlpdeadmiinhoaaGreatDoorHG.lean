/- How two kinds meet: wayOf; toRange, toSteps. -/
import Derived.Test.YtlpdeadmiinhoaaGreatDoorHF
namespace Go.Proofs.YtlpdeadmiinhoaaGreatDoor
open Go.RowKit

/-- What manyOrFew hands back, with a maker of ranges (3) or steps (4). -/
def manyC (K : Int) (s : Sp) : Ch := if s.st ≤ 1000 ∧ 20 < s.count then (if K = 3 then ⟨3, 0, [s.lo, s.hi]⟩ else ⟨4, 0, [s.lo, s.hi, s.st]⟩) else bareOf (s.firsts 20)
def manyO (K : Int) (x y : Ch) : Ch := match firstC x.sp y.sp with
  | none => zCh
  | some f => manyC K (outS x.sp y.sp f)

theorem manyOrFew_three (x y : Ch) (vx vy : Value) (w : World) (hx : ChIn w x vx) (hy : ChIn w y vy) (hkx : (x.kind = 3 ∧ x.list.length = 2) ∨ (x.kind = 4 ∧ x.list.length = 3)) (hky : (y.kind = 3 ∧ y.list.length = 2) ∨ (y.kind = 4 ∧ y.list.length = 3)) (hox : x.sp.Ok) (hoy : y.sp.Ok) :
    Calls Tryz.prog 142 #[vx, vy, .func (.func 143) #[] #[]] w (ChOut w (manyO 3 x y)) := by
  unfold manyO
  cases hf : firstC x.sp y.sp with
  | none => exact many_none x y vx vy _ w hx hy hkx hky hox hoy hf
  | some f =>
    show Calls Tryz.prog 142 _ w (ChOut w (manyC 3 (outS x.sp y.sp f)))
    unfold manyC
    by_cases h1 : (outS x.sp y.sp f).st ≤ 1000
    · by_cases h2 : 20 < (outS x.sp y.sp f).count
      · rw [if_pos ⟨h1, h2⟩, if_pos rfl]
        exact many_many143 x y vx vy f w hx hy hkx hky hox hoy hf h2 h1
      · rw [if_neg (fun h => h2 h.2)]
        exact many_few x y vx vy _ f w hx hy hkx hky hox hoy hf (by omega) h1
    · rw [if_neg (fun h => h1 h.1)]
      exact many_far x y vx vy _ f w hx hy hkx hky hox hoy hf (by omega)
theorem manyOrFew_four (x y : Ch) (vx vy : Value) (w : World) (hx : ChIn w x vx) (hy : ChIn w y vy) (hkx : (x.kind = 3 ∧ x.list.length = 2) ∨ (x.kind = 4 ∧ x.list.length = 3)) (hky : (y.kind = 3 ∧ y.list.length = 2) ∨ (y.kind = 4 ∧ y.list.length = 3)) (hox : x.sp.Ok) (hoy : y.sp.Ok) :
    Calls Tryz.prog 142 #[vx, vy, .func (.func 144) #[] #[]] w (ChOut w (manyO 4 x y)) := by
  unfold manyO
  cases hf : firstC x.sp y.sp with
  | none => exact many_none x y vx vy _ w hx hy hkx hky hox hoy hf
  | some f =>
    show Calls Tryz.prog 142 _ w (ChOut w (manyC 4 (outS x.sp y.sp f)))
    unfold manyC
    by_cases h1 : (outS x.sp y.sp f).st ≤ 1000
    · by_cases h2 : 20 < (outS x.sp y.sp f).count
      · rw [if_pos ⟨h1, h2⟩, if_neg (by decide)]
        exact many_many144 x y vx vy f w hx hy hkx hky hox hoy hf h2 h1
      · rw [if_neg (fun h => h2 h.2)]
        exact many_few x y vx vy _ f w hx hy hkx hky hox hoy hf (by omega) h1
    · rw [if_neg (fun h => h1 h.1)]
      exact many_far x y vx vy _ f w hx hy hkx hky hox hoy hf (by omega)

set_option maxRecDepth 100000 in
set_option maxHeartbeats 1000000 in
theorem toRange_any (x y : Ch) (vx vy : Value) (w : World) (hx : ChIn w x vx) (hy : ChIn w y vy) (hkx : (x.kind = 3 ∧ x.list.length = 2) ∨ (x.kind = 4 ∧ x.list.length = 3)) (hky : (y.kind = 3 ∧ y.list.length = 2) ∨ (y.kind = 4 ∧ y.list.length = 3)) (hox : x.sp.Ok) (hoy : y.sp.Ok) :
    Calls Tryz.prog 123 #[vx, vy] w (ChOut w (manyO 3 x y)) := by
  have hx0 := hx
  have hy0 := hy
  obtain ⟨a, ca, rfl, _, _, _, _, _⟩ := hx
  obtain ⟨b, cb, rfl, _, _, _, _, _⟩ := hy
  obtain ⟨X, hX⟩ : ∃ X : Obj, X = .cells #[.int .i64 x.kind, .int .i64 x.dflt, .slice a x.list.length ca] 24 := ⟨_, rfl⟩
  obtain ⟨Y, hY⟩ : ∃ Y : Obj, Y = .cells #[.int .i64 y.kind, .int .i64 y.dflt, .slice b y.list.length cb] 24 := ⟨_, rfl⟩
  obtain ⟨Z, hZ⟩ : ∃ Z : Obj, Z = .cells #[.int .i64 0, .int .i64 0, .slice none 0 0] 24 := ⟨_, rfl⟩
  have HF : In3 w X Y Z (((w.alloc (.cells #[.int .i64 x.kind, .int .i64 x.dflt, .slice a x.list.length ca] 24)).alloc (.cells #[.int .i64 y.kind, .int .i64 y.dflt, .slice b y.list.length cb] 24)).alloc (.cells #[.int .i64 0, .int .i64 0, .slice none 0 0] 24)) := hX ▸ hY ▸ hZ ▸ In3.first w X Y Z
  have HC := Lib.hid fun (wr : World) (h : In3 w X Y Z wr) => In3.cells (hX ▸ hY ▸ hZ ▸ h)
  have HFr := Lib.hid fun (wr : World) (o : Nat) (h : In3 w X Y Z wr) => In3.free hZ h o
  have hcall := manyOrFew_three x y _ _ _ (hx0.mono HF.same) (hy0.mono HF.same) hkx hky hox hoy
  obtain ⟨C, hC⟩ : ∃ C, manyO 3 x y = C := ⟨_, rfl⟩
  rw [hC] at hcall ⊢
  have HFF := Lib.hid HF
  obtain ⟨⟨p0, p1, p2⟩, ⟨q0, q1, q2⟩, _⟩ := HC.out _ HF
  clear hC hx0 hy0 hkx hky hX hY hZ HF hox hoy
  go_enter Tryz.func123, Tryz.ntmps123
  go_wp2_with (go_at_call 142; (with_reducible refine hcall.mono ?_); rintro e w1 ⟨a2, c2, rfl, hr, hb⟩; have hi := HFF.out.next hb; obtain ⟨_, _, r0, r1, r2⟩ := HC.out _ hi; have f0 := HFr.out w1 0 hi; have f1 := HFr.out w1 1 hi; have f2 := HFr.out w1 2 hi)
  refine bodyPost_ret (v := .agg #[.int .i64 C.kind, .int .i64 C.dflt, .slice a2 C.list.length c2]) (by simp [results, Tryz.results123, go_sem, r0, r1, r2]) rfl (chOut_set hr hi.out (by simp) (by omega) _ _ _)

set_option maxRecDepth 100000 in
set_option maxHeartbeats 1000000 in
theorem toSteps_any (x y : Ch) (vx vy : Value) (w : World) (hx : ChIn w x vx) (hy : ChIn w y vy) (hkx : (x.kind = 3 ∧ x.list.length = 2) ∨ (x.kind = 4 ∧ x.list.length = 3)) (hky : (y.kind = 3 ∧ y.list.length = 2) ∨ (y.kind = 4 ∧ y.list.length = 3)) (hox : x.sp.Ok) (hoy : y.sp.Ok) :
    Calls Tryz.prog 124 #[vx, vy] w (ChOut w (manyO 4 x y)) := by
  have hx0 := hx
  have hy0 := hy
  obtain ⟨a, ca, rfl, _, _, _, _, _⟩ := hx
  obtain ⟨b, cb, rfl, _, _, _, _, _⟩ := hy
  obtain ⟨X, hX⟩ : ∃ X : Obj, X = .cells #[.int .i64 x.kind, .int .i64 x.dflt, .slice a x.list.length ca] 24 := ⟨_, rfl⟩
  obtain ⟨Y, hY⟩ : ∃ Y : Obj, Y = .cells #[.int .i64 y.kind, .int .i64 y.dflt, .slice b y.list.length cb] 24 := ⟨_, rfl⟩
  obtain ⟨Z, hZ⟩ : ∃ Z : Obj, Z = .cells #[.int .i64 0, .int .i64 0, .slice none 0 0] 24 := ⟨_, rfl⟩
  have HF : In3 w X Y Z (((w.alloc (.cells #[.int .i64 x.kind, .int .i64 x.dflt, .slice a x.list.length ca] 24)).alloc (.cells #[.int .i64 y.kind, .int .i64 y.dflt, .slice b y.list.length cb] 24)).alloc (.cells #[.int .i64 0, .int .i64 0, .slice none 0 0] 24)) := hX ▸ hY ▸ hZ ▸ In3.first w X Y Z
  have HC := Lib.hid fun (wr : World) (h : In3 w X Y Z wr) => In3.cells (hX ▸ hY ▸ hZ ▸ h)
  have HFr := Lib.hid fun (wr : World) (o : Nat) (h : In3 w X Y Z wr) => In3.free hZ h o
  have hcall := manyOrFew_four x y _ _ _ (hx0.mono HF.same) (hy0.mono HF.same) hkx hky hox hoy
  obtain ⟨C, hC⟩ : ∃ C, manyO 4 x y = C := ⟨_, rfl⟩
  rw [hC] at hcall ⊢
  have HFF := Lib.hid HF
  obtain ⟨⟨p0, p1, p2⟩, ⟨q0, q1, q2⟩, _⟩ := HC.out _ HF
  clear hC hx0 hy0 hkx hky hX hY hZ HF hox hoy
  go_enter Tryz.func124, Tryz.ntmps124
  go_wp2_with (go_at_call 142; (with_reducible refine hcall.mono ?_); rintro e w1 ⟨a2, c2, rfl, hr, hb⟩; have hi := HFF.out.next hb; obtain ⟨_, _, r0, r1, r2⟩ := HC.out _ hi; have f0 := HFr.out w1 0 hi; have f1 := HFr.out w1 1 hi; have f2 := HFr.out w1 2 hi)
  refine bodyPost_ret (v := .agg #[.int .i64 C.kind, .int .i64 C.dflt, .slice a2 C.list.length c2]) (by simp [results, Tryz.results124, go_sem, r0, r1, r2]) rfl (chOut_set hr hi.out (by simp) (by omega) _ _ _)

end Go.Proofs.YtlpdeadmiinhoaaGreatDoor
