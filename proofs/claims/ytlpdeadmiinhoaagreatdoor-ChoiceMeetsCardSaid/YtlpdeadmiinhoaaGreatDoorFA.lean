/- Has1 of the document's answers. -/
import Derived.Test.YtlpdeadmiinhoaaGreatDoorF1
import Derived.Test.YtlpdeadmiinhoaaGreatDoorF2
namespace Go.Proofs.YtlpdeadmiinhoaaGreatDoor
open Go.RowKit

def HasOk (c : Ch) : Prop := c.isList = true ∨ (c.isList = false ∧ 2 ≤ c.list.length ∧ (c.kind = 4 → 3 ≤ c.list.length) ∧ boundB c.list = true ∧ 1 ≤ c.sp.st ∧ c.sp.st ≤ 1000000000)

set_option maxRecDepth 100000 in
set_option maxHeartbeats 1000000 in
theorem has1_list (c : Ch) (v : Value) (n : Int) (w : World) (hc : ChIn w c v) (hl1 : c.isList = true) :
    Calls Tryz.prog 20 #[v, .int .i64 n] w fun e w' => e = .returned (.bool (c.list.contains n)) ∧ Below w.heap.size w w' := by
  obtain ⟨a, cap, rfl, _, _, hl, hin, hcap⟩ := hc
  obtain ⟨kd, d, l⟩ := c
  rw [isList_iff] at hl1
  simp only at hl hin hcap hl1 ⊢
  have HB : Hid (Below w.heap.size w (w.alloc (.cells #[.int .i64 kd, .int .i64 d, .slice a l.length cap] 24))) := Lib.hid ((Below.refl _ _).alloc (Nat.le_refl _) _)
  have HIn := Lib.hid (hin.mono (Same.alloc w (.cells #[.int .i64 kd, .int .i64 d, .slice a l.length cap] 24)))
  clear hin hcap
  obtain ⟨B, hB⟩ : ∃ B, l.contains n = B := ⟨_, rfl⟩
  have HBc := Lib.hid hB
  rw [hB]
  clear hB
  rcases hl1 with rfl | rfl
  all_goals
    go_enter Tryz.func20, Tryz.ntmps20
    go_wp2_with fail
    go_loop [5] (fun i => ∃ (k : Nat), i = .int .i64 k ∧ k ≤ l.length ∧ ∀ j, j < k → (n == l.getD j 0) = false) (fun i => l.length - (intOf i).toNat)
    case atStart => exact ⟨0, rfl, Nat.zero_le _, fun _ h => absurd h (Nat.not_lt_zero _)⟩
    case round =>
      obtain ⟨k, rfl, hkl, hok⟩ := hrel
      have Hok := Lib.hid hok
      clear hok
      by_cases hlt : k < l.length
      · obtain ⟨b, off, rfl, hcell, _⟩ := HIn.out k hlt
        obtain ⟨x, hx⟩ : ∃ x, l.getD k 0 = x := ⟨_, rfl⟩
        rw [hx] at hcell
        have Hx := Lib.hid hx
        clear hx
        cases hnx : (x == n) with
        | true =>
          have Hn : Hid ((n == x) = true) := Lib.hid (by simp only [beq_iff_eq] at hnx ⊢; exact hnx.symm)
          go_wp2_with fail
          go_ret
          exact ⟨ret_bool ((contains_at hlt Hx Hn.out).symm.trans HBc.out), HB.out⟩
        | false =>
          have Hn : Hid ((n == l.getD k 0) = false) := Lib.hid (by rw [Hx.out]; simp only [beq_eq_false_iff_ne, ne_eq] at hnx ⊢; exact fun e => hnx e.symm)
          go_wp2_with fail
          go_round
          case rel => exact ⟨k + 1, by go_num, by omega, no_snoc Hok Hn.out⟩
          case measure => simp [intOf]; omega
      · go_wp2_with fail
        go_ret
        exact ⟨ret_bool ((not_contains (Lib.hid fun j hj => Hok.out j (by omega))).symm.trans HBc.out), HB.out⟩

set_option maxRecDepth 100000 in
set_option maxHeartbeats 1600000 in
theorem has1_yes (c : Ch) (v : Value) (n : Int) (w : World) (hc : ChIn w c v) (hl1 : c.isList = false) (h2 : 2 ≤ c.list.length) (h4 : c.kind = 4 → 3 ≤ c.list.length) (hbd : boundB c.list = true) (hst : 1 ≤ c.sp.st) (hst' : c.sp.st ≤ 1000000000) (g1 : c.list.getD 0 0 ≤ n) (g2 : n ≤ c.list.getD 1 0) :
    Calls Tryz.prog 20 #[v, .int .i64 n] w fun e w' => e = .returned (.bool (c.sp.has n)) ∧ Below w.heap.size w w' := by
  have hc0 := hc
  obtain ⟨a, cap, rfl, _, _, hl, hin, hcap⟩ := hc
  obtain ⟨X, hX⟩ : ∃ X : Obj, X = .cells #[.int .i64 c.kind, .int .i64 c.dflt, .slice a c.list.length cap] 24 := ⟨_, rfl⟩
  have HST := Lib.hid fun (wr : World) (hi : In1 w X wr) => calls_in1 hi (step_any c _ wr (hc0.mono hi.same) h4)
  obtain ⟨b, off, rfl, c0, _⟩ := hin 0 (by omega)
  simp only [Nat.add_zero] at c0
  obtain ⟨b', off', hbo, c1, _⟩ := hin 1 (by omega)
  cases hbo
  have b0 := boundB_at hbd 0 (by omega)
  have b1 := boundB_at hbd 1 (by omega)
  have HC0 := Lib.hid fun (wr : World) (h : In1 w X wr) => h.same.cell c0
  have HC1 := Lib.hid fun (wr : World) (h : In1 w X wr) => h.same.cell c1
  have HC := Lib.hid fun (wr : World) (h : In1 w X wr) => In1.cells3 (hX ▸ h)
  have HF : Hid (In1 w X (w.alloc (.cells #[.int .i64 c.kind, .int .i64 c.dflt, .slice (some ⟨b, off, none⟩) c.list.length cap] 24))) := Lib.hid (hX ▸ In1.first w X)
  have hsp : c.sp = ⟨c.list.getD 0 0, c.list.getD 1 0, c.sp.st⟩ := rfl
  obtain ⟨st, hs⟩ : ∃ st, c.sp.st = st := ⟨_, rfl⟩
  obtain ⟨lo, hlo⟩ : ∃ x, c.list.getD 0 0 = x := ⟨_, rfl⟩
  obtain ⟨hi, hhi⟩ : ∃ x, c.list.getD 1 0 = x := ⟨_, rfl⟩
  rw [hs, hlo, hhi] at hsp
  rw [hs] at hst hst' HST
  rw [hlo] at HC0 b0 g1
  rw [hhi] at HC1 b1 g2
  rw [hsp]
  have hk : ¬ (c.kind = 1 ∨ c.kind = 2) := (isList_no c).1 hl1
  obtain ⟨kd, d, l⟩ := c
  simp only at hl hcap h2 HST HC HF hk ⊢
  obtain ⟨m, hm⟩ : ∃ m, l.length = m := ⟨_, rfl⟩
  simp only [hm] at hl hcap h2 HST HC HF ⊢
  have k1 : (kd == 1) = false := by simp; omega
  have k2 : (kd == 2) = false := by simp; omega
  have hm0 : (0 : Int) < (m : Int) := by omega
  have hm2 : 0 < m := by omega
  have hm1 : (1 : Int) < (m : Int) := by omega
  have hst0 : ¬ st = 0 := by omega
  clear hsp hs hlo hhi hm hk hc0 hin hbd c0 c1 hX h4 hl1 h2 hcap
  obtain ⟨b01, b02⟩ := b0
  obtain ⟨b11, b12⟩ := b1
  obtain ⟨e0, e1, e2⟩ := HC.out _ HF.out
  have e3 := HC0.out _ HF.out
  have e4 := HC1.out _ HF.out
  have d1 : decide (lo ≤ n) = true := by simpa using g1
  have e := sp_yes (st := st) g1 g2
  rw [e]
  clear e
  have d2 : decide (n ≤ hi) = true := by simpa using g2
  have w1 : IntKind.i64.wrap (n - lo) = n - lo := IntWalk.i64_in _ (by omega)
  have w2 : 0 ≤ n - lo := by omega
  have w3 : (n - lo).tmod st = (n - lo) % st := Int.tmod_eq_emod_of_nonneg w2
  obtain ⟨R, hR⟩ : ∃ R, (n - lo) % st = R := ⟨_, rfl⟩
  rw [hR] at w3 ⊢
  clear hR
  go_enter Tryz.func20, Tryz.ntmps20
  go_upto_region 8 with fail
  have HS : Hid (∀ wx : World, In1 w X wx → wx.cell? ⟨w.heap.size, 0, none⟩ = some (.int .i64 kd) ∧ wx.cell? ⟨w.heap.size, 1, none⟩ = some (.int .i64 d) ∧ wx.cell? ⟨w.heap.size, 2, none⟩ = some (.slice (some ⟨b, off, none⟩) m cap) ∧ wx.cell? ⟨b, off, none⟩ = some (.int .i64 lo) ∧ wx.cell? ⟨b, off + 1, none⟩ = some (.int .i64 hi) ∧ In1 w X wx) := Lib.hid fun wx h => by
    obtain ⟨p0, p1, p2⟩ := HC.out wx h
    exact ⟨p0, p1, p2, HC0.out wx h, HC1.out wx h, h⟩
  go_region_held3 (fun wx => wx.cell? ⟨w.heap.size, 0, none⟩ = some (.int .i64 kd) ∧ wx.cell? ⟨w.heap.size, 1, none⟩ = some (.int .i64 d) ∧ wx.cell? ⟨w.heap.size, 2, none⟩ = some (.slice (some ⟨b, off, none⟩) m cap) ∧ wx.cell? ⟨b, off, none⟩ = some (.int .i64 lo) ∧ wx.cell? ⟨b, off + 1, none⟩ = some (.int .i64 hi) ∧ In1 w X wx)
    (first
      | exact HS.out _ HF.out.drew
      | (go_split_ands; exact HS.out _ (by assumption))
      | exact HS.out _ hk)
    (first
      | (go_at_call 57; (with_reducible refine (HST.out _ (by go_split_ands; assumption)).mono ?_); rintro e wk ⟨rfl, hk⟩))
  all_goals
    go_wp2_with fail
    go_ret
    refine ⟨rfl, ?_⟩
    go_split_ands
    exact In1.out (X := X) (by assumption)
theorem has1_sp (c : Ch) (v : Value) (n : Int) (w : World) (hc : ChIn w c v) (hl1 : c.isList = false) (h2 : 2 ≤ c.list.length) (h4 : c.kind = 4 → 3 ≤ c.list.length) (hbd : boundB c.list = true) (hst : 1 ≤ c.sp.st) (hst' : c.sp.st ≤ 1000000000) :
    Calls Tryz.prog 20 #[v, .int .i64 n] w fun e w' => e = .returned (.bool (c.sp.has n)) ∧ Below w.heap.size w w' := by
  by_cases g1 : c.list.getD 0 0 ≤ n
  · by_cases g2 : n ≤ c.list.getD 1 0
    · exact has1_yes c v n w hc hl1 h2 h4 hbd hst hst' g1 g2
    · exact has1_no2 c v n w hc hl1 h2 h4 hbd hst hst' g1 g2
  · exact has1_no1 c v n w hc hl1 h2 h4 hbd hst hst' g1

theorem has1_any (c : Ch) (v : Value) (n : Int) (w : World) (hc : ChIn w c v) (h : HasOk c) :
    Calls Tryz.prog 20 #[v, .int .i64 n] w fun e w' => e = .returned (.bool (c.has n)) ∧ Below w.heap.size w w' := by
  rcases h with hl | ⟨hl, h2, h4, hb, h1, h1'⟩
  · rw [has_list hl]; exact has1_list c v n w hc hl
  · rw [has_sp hl]; exact has1_sp c v n w hc hl h2 h4 hb h1 h1'
theorem hasOk_valid {c : Ch} (h : validC c = true) : HasOk c := by
  cases hl : c.isList with
  | true => exact Or.inl hl
  | false =>
    obtain ⟨h1, h2⟩ := valid_sp h hl
    exact Or.inr ⟨hl, by omega, by omega, valid_bound h, h1.2.2.2.1, by have := h1.2.2.2.2; omega⟩
theorem hasOk_shape {c : Ch} (hb : boundB c.list = true) (h : shapeB c = true) : HasOk c := by
  cases hl : c.isList with
  | true => exact Or.inl hl
  | false =>
    rw [isList_no] at hl
    unfold shapeB at h
    rw [if_neg (by omega), if_neg (by omega)] at h
    by_cases k3 : c.kind = 3
    · rw [if_pos k3] at h
      simp only [Bool.and_eq_true, decide_eq_true_eq, beq_iff_eq] at h
      have := step3 k3
      exact Or.inr ⟨(isList_no c).2 hl, by omega, by omega, hb, by omega, by omega⟩
    · rw [if_neg k3] at h
      by_cases k4 : c.kind = 4
      · rw [if_pos k4] at h
        simp only [Bool.and_eq_true, decide_eq_true_eq, beq_iff_eq] at h
        exact Or.inr ⟨(isList_no c).2 hl, by omega, by omega, hb, by omega, by omega⟩
      · rw [if_neg k4] at h; cases h
end Go.Proofs.YtlpdeadmiinhoaaGreatDoor
