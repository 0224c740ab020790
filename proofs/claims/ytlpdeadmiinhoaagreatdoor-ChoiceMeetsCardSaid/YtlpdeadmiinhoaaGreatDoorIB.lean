/- The greatest number of a range; an outcome's default. -/
import Derived.Test.YtlpdeadmiinhoaaGreatDoorIA
namespace Go.Proofs.YtlpdeadmiinhoaaGreatDoor
open Go.RowKit

set_option maxRecDepth 100000 in
set_option maxHeartbeats 1000000 in
theorem greatest_any (c : Ch) (v : Value) (w : World) (hc : ChIn w c v) (hv : validC c = true) (hl1 : c.isList = false) :
    Calls Tryz.prog 99 #[v] w fun e w' => e = .returned (.int .i64 c.sp.top) ∧ Below w.heap.size w w' := by
  obtain ⟨⟨o1, o2, o3, o4, o5⟩, hsh⟩ := valid_sp hv hl1
  have hbd := valid_bound hv
  have h2 : 2 ≤ c.list.length := by omega
  have h4 : c.kind = 4 → 3 ≤ c.list.length := by omega
  have hc0 := hc
  obtain ⟨a, cap, rfl, _, _, hl, hin, hcap⟩ := hc
  obtain ⟨X, hX⟩ : ∃ X : Obj, X = .cells #[.int .i64 c.kind, .int .i64 c.dflt, .slice a c.list.length cap] 24 := ⟨_, rfl⟩
  have HST := Lib.hid fun (wr : World) (hi : In1 w X wr) => calls_in1 hi (step_any c _ wr (hc0.mono hi.same) h4)
  obtain ⟨b, off, rfl, c0, _⟩ := hin 0 (by omega)
  simp only [Nat.add_zero] at c0
  obtain ⟨b', off', hbo, c1, _⟩ := hin 1 (by omega)
  cases hbo
  have HC0 := Lib.hid fun (wr : World) (h : In1 w X wr) => h.same.cell c0
  have HC1 := Lib.hid fun (wr : World) (h : In1 w X wr) => h.same.cell c1
  have HC := Lib.hid fun (wr : World) (h : In1 w X wr) => In1.cells3 (hX ▸ h)
  have HF : Hid (In1 w X (w.alloc (.cells #[.int .i64 c.kind, .int .i64 c.dflt, .slice (some ⟨b, off, none⟩) c.list.length cap] 24))) := Lib.hid (hX ▸ In1.first w X)
  have hT : c.sp.top = c.sp.lo + (c.sp.hi - c.sp.lo) / c.sp.st * c.sp.st := rfl
  have q1 := Int.mul_ediv_add_emod (c.sp.hi - c.sp.lo) c.sp.st
  have q2 := Int.emod_nonneg (c.sp.hi - c.sp.lo) (show c.sp.st ≠ 0 by omega)
  have q3 := Int.ediv_nonneg (show 0 ≤ c.sp.hi - c.sp.lo by omega) (show 0 ≤ c.sp.st by omega)
  have q4 : (c.sp.hi - c.sp.lo) / c.sp.st ≤ c.sp.hi - c.sp.lo := Int.ediv_le_self c.sp.st (show 0 ≤ c.sp.hi - c.sp.lo by omega)
  have q5 : (c.sp.hi - c.sp.lo).tdiv c.sp.st = (c.sp.hi - c.sp.lo) / c.sp.st := Int.tdiv_eq_ediv_of_nonneg (by omega)
  rw [hT]
  clear hT
  have elo : c.sp.lo = c.list.getD 0 0 := rfl
  have ehi : c.sp.hi = c.list.getD 1 0 := rfl
  rw [← elo] at HC0
  rw [← ehi] at HC1
  clear elo ehi
  rw [Int.mul_comm] at q1
  obtain ⟨st, hs⟩ : ∃ st, c.sp.st = st := ⟨_, rfl⟩
  obtain ⟨lo, hlo⟩ : ∃ x, c.sp.lo = x := ⟨_, rfl⟩
  obtain ⟨hi, hhi⟩ : ∃ x, c.sp.hi = x := ⟨_, rfl⟩
  rw [hs] at q1 q2 q3 q4 q5 o4 o5 HST ⊢
  rw [hlo] at q1 q2 q3 q4 q5 o1 o2 HC0 ⊢
  rw [hhi] at q1 q2 q3 q4 q5 o2 o3 HC1 ⊢
  obtain ⟨Q, hQ⟩ : ∃ Q, (hi - lo) / st = Q := ⟨_, rfl⟩
  rw [hQ] at q1 q3 q4 q5 ⊢
  obtain ⟨kd, d, l⟩ := c
  simp only at hl hcap h2 HST HC HF ⊢
  obtain ⟨m, hm⟩ : ∃ m, l.length = m := ⟨_, rfl⟩
  simp only [hm] at hl hcap h2 HST HC HF ⊢
  have hm0 : (0 : Int) < (m : Int) := by omega
  have hm2 : 0 < m := by omega
  have hm1 : (1 : Int) < (m : Int) := by omega
  have hst0 : ¬ st = 0 := by omega
  have hst1 : ¬ st = -1 := by omega
  clear hs hlo hhi hm hc0 hin hbd c0 c1 hX h4 hl1 h2 hcap hv hsh hQ
  have q6 := Int.mul_nonneg q3 (show 0 ≤ st by omega)
  have q7 : Q * st ≤ hi - lo := by omega
  have q8 : Q * st + lo ≤ hi := by omega
  clear q1 q2
  have w1 : IntKind.i64.wrap (hi - lo) = hi - lo := IntWalk.i64_in _ (by omega)
  have w2 : IntKind.i64.wrap Q = Q := IntWalk.i64_in _ (by omega)
  have w3 : IntKind.i64.wrap (Q * st) = Q * st := IntWalk.i64_in _ (by omega)
  have w4 : IntKind.i64.wrap (lo + Q * st) = lo + Q * st := IntWalk.i64_in _ (by omega)
  clear q3 q4 q6 q7 q8
  obtain ⟨e0, e1, e2⟩ := HC.out _ HF.out
  have e3 := HC0.out _ HF.out
  have e4 := HC1.out _ HF.out
  go_enter Tryz.func99, Tryz.ntmps99
  go_upto_region 1 with fail
  have HS : Hid (∀ wx : World, In1 w X wx → wx.cell? ⟨w.heap.size, 0, none⟩ = some (.int .i64 kd) ∧ wx.cell? ⟨w.heap.size, 1, none⟩ = some (.int .i64 d) ∧ wx.cell? ⟨w.heap.size, 2, none⟩ = some (.slice (some ⟨b, off, none⟩) m cap) ∧ wx.cell? ⟨b, off, none⟩ = some (.int .i64 lo) ∧ wx.cell? ⟨b, off + 1, none⟩ = some (.int .i64 hi) ∧ In1 w X wx) := Lib.hid fun wx h => by
    obtain ⟨p0, p1, p2⟩ := HC.out wx h
    exact ⟨p0, p1, p2, HC0.out wx h, HC1.out wx h, h⟩
  go_region_held3 (fun wx => wx.cell? ⟨w.heap.size, 0, none⟩ = some (.int .i64 kd) ∧ wx.cell? ⟨w.heap.size, 1, none⟩ = some (.int .i64 d) ∧ wx.cell? ⟨w.heap.size, 2, none⟩ = some (.slice (some ⟨b, off, none⟩) m cap) ∧ wx.cell? ⟨b, off, none⟩ = some (.int .i64 lo) ∧ wx.cell? ⟨b, off + 1, none⟩ = some (.int .i64 hi) ∧ In1 w X wx)
    (first
      | exact HS.out _ HF.out.drew
      | (go_split_ands; exact HS.out _ (by assumption))
      | exact HS.out _ hk)
    (first
      | (go_at_call 57; (with_reducible refine (HST.out _ (by go_split_ands; assumption)).mono ?_); rintro e wk ⟨rfl, hk⟩))
  all_goals
    go_wp2_with fail
    go_ret
    refine ⟨rfl, ?_⟩
    go_split_ands
    exact In1.out (X := X) (by assumption)
end Go.Proofs.YtlpdeadmiinhoaaGreatDoor
