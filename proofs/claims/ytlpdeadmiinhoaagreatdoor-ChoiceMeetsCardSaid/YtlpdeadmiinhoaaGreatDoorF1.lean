/- Has1 of a range, where the number is below it. -/
import Derived.Test.YtlpdeadmiinhoaaGreatDoorED
namespace Go.Proofs.YtlpdeadmiinhoaaGreatDoor
open Go.RowKit

set_option maxRecDepth 100000 in
set_option maxHeartbeats 1600000 in
theorem has1_no1 (c : Ch) (v : Value) (n : Int) (w : World) (hc : ChIn w c v) (hl1 : c.isList = false) (h2 : 2 ≤ c.list.length) (h4 : c.kind = 4 → 3 ≤ c.list.length) (hbd : boundB c.list = true) (hst : 1 ≤ c.sp.st) (hst' : c.sp.st ≤ 1000000000) (g1 : ¬ c.list.getD 0 0 ≤ n) :
    Calls Tryz.prog 20 #[v, .int .i64 n] w fun e w' => e = .returned (.bool (c.sp.has n)) ∧ Below w.heap.size w w' := by
  have hc0 := hc
  obtain ⟨a, cap, rfl, _, _, hl, hin, hcap⟩ := hc
  obtain ⟨X, hX⟩ : ∃ X : Obj, X = .cells #[.int .i64 c.kind, .int .i64 c.dflt, .slice a c.list.length cap] 24 := ⟨_, rfl⟩
  have HST := Lib.hid fun (wr : World) (hi : In1 w X wr) => calls_in1 hi (step_any c _ wr (hc0.mono hi.same) h4)
  obtain ⟨b, off, rfl, c0, _⟩ := hin 0 (by omega)
  simp only [Nat.add_zero] at c0
  obtain ⟨b', off', hbo, c1, _⟩ := hin 1 (by omega)
  cases hbo
  have b0 := boundB_at hbd 0 (by omega)
  have b1 := boundB_at hbd 1 (by omega)
  have HC0 := Lib.hid fun (wr : World) (h : In1 w X wr) => h.same.cell c0
  have HC1 := Lib.hid fun (wr : World) (h : In1 w X wr) => h.same.cell c1
  have HC := Lib.hid fun (wr : World) (h : In1 w X wr) => In1.cells3 (hX ▸ h)
  have HF : Hid (In1 w X (w.alloc (.cells #[.int .i64 c.kind, .int .i64 c.dflt, .slice (some ⟨b, off, none⟩) c.list.length cap] 24))) := Lib.hid (hX ▸ In1.first w X)
  have hsp : c.sp = ⟨c.list.getD 0 0, c.list.getD 1 0, c.sp.st⟩ := rfl
  obtain ⟨st, hs⟩ : ∃ st, c.sp.st = st := ⟨_, rfl⟩
  obtain ⟨lo, hlo⟩ : ∃ x, c.list.getD 0 0 = x := ⟨_, rfl⟩
  obtain ⟨hi, hhi⟩ : ∃ x, c.list.getD 1 0 = x := ⟨_, rfl⟩
  rw [hs, hlo, hhi] at hsp
  rw [hs] at hst hst' HST
  rw [hlo] at HC0 b0 g1
  rw [hhi] at HC1 b1
  rw [hsp]
  have hk : ¬ (c.kind = 1 ∨ c.kind = 2) := (isList_no c).1 hl1
  obtain ⟨kd, d, l⟩ := c
  simp only at hl hcap h2 HST HC HF hk ⊢
  obtain ⟨m, hm⟩ : ∃ m, l.length = m := ⟨_, rfl⟩
  simp only [hm] at hl hcap h2 HST HC HF ⊢
  have k1 : (kd == 1) = false := by simp; omega
  have k2 : (kd == 2) = false := by simp; omega
  have hm0 : (0 : Int) < (m : Int) := by omega
  have hm2 : 0 < m := by omega
  have hm1 : (1 : Int) < (m : Int) := by omega
  have hst0 : ¬ st = 0 := by omega
  clear hsp hs hlo hhi hm hk hc0 hin hbd c0 c1 hX h4 hl1 h2 hcap
  obtain ⟨b01, b02⟩ := b0
  obtain ⟨b11, b12⟩ := b1
  obtain ⟨e0, e1, e2⟩ := HC.out _ HF.out
  have e3 := HC0.out _ HF.out
  have e4 := HC1.out _ HF.out
  have e := sp_no1 (hi := hi) (st := st) g1
  rw [e]
  clear e
  have d1 : decide (lo ≤ n) = false := by simpa using g1
  go_enter Tryz.func20, Tryz.ntmps20
  go_upto_region 8 with fail
  go_quiet (fail)
  go_wp2_with fail
  go_ret
  exact ⟨rfl, below_drewN HF.out.out _⟩

end Go.Proofs.YtlpdeadmiinhoaaGreatDoor
