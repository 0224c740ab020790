/- Blocks laid by the document. -/
import Derived.Test.YtinlcgcnjlifkaaSI
namespace Go.Proofs.Ytinlcgcnjlifkaa
open Go.RowKit Go.Shelf Go.Deep

def laidRow (at' z a : Int) (b i q : Nat) : List Int := (List.range q).map fun t => up (endK at' z a (i * b + t)) a
def laidTo (at' z a : Int) (b j : Nat) : List (List Int) := (List.range j).map fun i => laidRow at' z a b i b
theorem laidRow_len (at' z a : Int) (b i q : Nat) : (laidRow at' z a b i q).length = q := by simp [laidRow]
theorem laidTo_len (at' z a : Int) (b j : Nat) : (laidTo at' z a b j).length = j := by simp [laidTo]
theorem laidRow_succ (at' z a : Int) (b i q : Nat) : laidRow at' z a b i (q + 1) = laidRow at' z a b i q ++ [up (endK at' z a (i * b + q)) a] := by simp [laidRow, List.range_succ]
theorem laidTo_succ (at' z a : Int) (b j : Nat) : laidTo at' z a b (j + 1) = laidTo at' z a b j ++ [laidRow at' z a b j b] := by simp [laidTo, List.range_succ]
theorem laid_nums {at' z a : Int} (hat : 0 ≤ at' ∧ at' ≤ 1000000000) (hz : 1 ≤ z ∧ z ≤ 65536) (ha : 1 ≤ a ∧ a ≤ 256) {k : Nat} (hk : k < 512) : (0 ≤ endK at' z a k ∧ endK at' z a k ≤ 2000000000) ∧ (0 ≤ up (endK at' z a k) a ∧ up (endK at' z a k) a ≤ 2000000000) ∧ wrap64 (up (endK at' z a k) a + z) = endK at' z a (k + 1) ∧ IntKind.i64.wrap (up (endK at' z a k) a + z) = endK at' z a (k + 1) := by
  obtain ⟨i1, i2⟩ := endK_bd (at' := at') hat.1 hz ha k
  obtain ⟨u1, u2, _⟩ := up_bd (n := endK at' z a k) (k := a) (by omega) ha.1
  have e : endK at' z a (k + 1) = up (endK at' z a k) a + z := rfl
  rw [e, IntKind.wrap_i64]
  refine ⟨by omega, by omega, by unfold wrap64; omega, by omega⟩
theorem laidRow_ok {at' z a : Int} (hat : 0 ≤ at' ∧ at' ≤ 1000000000) (hz : 1 ≤ z ∧ z ≤ 65536) (ha : 1 ≤ a ∧ a ≤ 256) {b i q : Nat} (hq : i * b + q ≤ 512) : okRow (laidRow at' z a b i q) := by
  refine ⟨by rw [laidRow_len]; omega, fun t ht => ?_⟩
  rw [laidRow_len] at ht
  rw [show (laidRow at' z a b i q).getD t 0 = up (endK at' z a (i * b + t)) a by simp [laidRow, List.getD, ht]]
  have := (laid_nums hat hz ha (k := i * b + t) (by omega)).2.1
  unfold I64
  omega
def LaidA (d : DealP) (at' : Int) (w : World) (e : Ending) (w' : World) : Prop := ∃ v, e = .returned (.tuple #[v, .int .i64 (endK at' d.z d.a (d.c * d.b))]) ∧ MatIn w' (laidTo at' d.z d.a d.b d.c) v ∧ Below w.heap.size w w'
set_option maxHeartbeats 4000000 in
set_option maxRecDepth 100000 in
theorem refLaid_any (d : DealP) (h : d.In) (at' : Int) (hat : 0 ≤ at' ∧ at' ≤ 1000000000) (w : World) : Calls Try.prog 33 #[d.v, .int .i64 at'] w (LaidA d at' w) := by
  obtain ⟨c, b, z, s, a, kd⟩ := d
  obtain ⟨hc, hb, hz, ha⟩ := h
  dsimp only at hc hb hz ha
  show Calls Try.prog 33 #[.agg #[.int .i64 c, .int .i64 b, .int .i64 z, .int .i64 s, .int .i64 a, .int .i64 kd], .int .i64 at'] w (LaidA ⟨c, b, z, s, a, kd⟩ at' w)
  have HU := Lib.hid fun k (hk : k < 512) X => refUp_any (endK at' z a k) a (laid_nums hat hz ha hk).1.1 (laid_nums hat hz ha hk).1.2 ha.1 (by omega) X
  have HNU := Lib.hid fun k (hk : k < 512) => (laid_nums hat hz ha hk)
  have HOK := Lib.hid fun i q (hq : i * b + q ≤ 512) => laidRow_ok hat hz ha hq
  have hcb : c * b ≤ 512 := Nat.mul_le_mul hc.2 hb.2
  have HCB : Hid (∀ j, j < c → j * b + b ≤ 512) := Lib.hid fun j hj => by
    have h1 : (j + 1) * b ≤ c * b := Nat.mul_le_mul_right _ hj
    rw [Nat.add_mul, Nat.one_mul] at h1
    omega
  have HC := Lib.hid (And.intro hc hb)
  obtain ⟨O, hO⟩ : ∃ O, Obj.cells #[.int .i64 c, .int .i64 b, .int .i64 z, .int .i64 s, .int .i64 a, .int .i64 kd] 25 = O := ⟨_, rfl⟩
  have hb0 : Below w.heap.size w (w.alloc O) := below_box w O
  have hO2 : (w.alloc O).heap[w.heap.size]? = some O := blk_alloc_new w O
  obtain ⟨Z, hZ⟩ : ∃ Z, w.alloc O = Z := ⟨_, rfl⟩
  have hsz : Z.heap.size = w.heap.size + 1 := by rw [← hZ]; simp
  rw [hZ] at hb0 hO2
  subst hO
  have HB0 := Lib.hid hb0
  have HSZ := Lib.hid hsz
  have HX : Hid (∀ y, Below Z.heap.size Z y → DealAt w.heap.size c b z a y) := Lib.hid fun y hy => by
    have h9 := (hy.block _ (by rw [hsz]; omega)).trans hO2
    refine ⟨?_, ?_, ?_, ?_⟩ <;> (unfold World.cell?; rw [h9]; rfl)
  have h00 : at' = endK at' z a (0 * b) := by rw [Nat.zero_mul]; rfl
  have H00 := Lib.hid h00
  obtain ⟨i1, hi1, hy0, hy1, hy2⟩ := info_parts Try.info37
  clear hb0 hO2 hsz hc hb hz ha hat hcb h00
  go_enter Try.func33, Try.ntmps33
  go_wp2_with fail
  clear hZ
  go_loopw [7, 6, 1] (fun i v av wr => ∃ (j : Nat) (vals : List Value), i = .int .i64 j ∧ j ≤ c ∧ av = .int .i64 (endK at' z a (j * b)) ∧ Rz Z wr (laidTo at' z a b j) vals v) (fun i _ _ _ => c - (intOf i).toNat)
  case atStart => exact ⟨0, [], rfl, Nat.zero_le _, by rw [← H00.out], Rz.start _⟩
  case round =>
    obtain ⟨j, vals, rfl, hj, rfl, hrz⟩ := hrel
    have HRZ := Lib.hid hrz
    obtain ⟨d0, d1, d2, d4⟩ := HX.out _ hrz.below
    clear hrz
    by_cases hlt : j < c
    · have w4 : (j : Int) < (c : Int) := Int.ofNat_lt.2 hlt
      have HLT := Lib.hid hlt
      have f6 : wrap64 ((j : Int) + 1) = ((j + 1 : Nat) : Int) := by have := HC.out.1; unfold wrap64; omega
      clear hlt
      go_wp2_with fail
      clear d0 d1 d2 d4
      rename World => wo
      go_loopw [9, 8, 1] (fun i v av wx => ∃ q : Nat, i = .int .i64 q ∧ q ≤ b ∧ av = .int .i64 (endK at' z a (j * b + q)) ∧ wx.ownsRow wo.heap.size 3 1 v (laidRow at' z a b j q).length ((laidRow at' z a b j q).map (Value.int .i64)) ∧ Below wo.heap.size wo wx) (fun i _ _ _ => b - (intOf i).toNat)
      case atStart => exact ⟨0, rfl, Nat.zero_le _, rfl, World.ownsRow_nil _ _ _ _, Below.refl _ _⟩
      case round =>
        obtain ⟨q, rfl, hq, rfl, ho, hbx⟩ := hrel
        have HO := Lib.hid ho
        have HBX := Lib.hid hbx
        have hzx : Below Z.heap.size Z wr := HRZ.out.below.trans (hbx.mono HRZ.out.below.size)
        have HZX := Lib.hid hzx
        obtain ⟨d0, d1, d2, d4⟩ := HX.out _ hzx
        clear ho hbx hzx
        by_cases hlt2 : q < b
        · have w5 : (q : Int) < (b : Int) := Int.ofNat_lt.2 hlt2
          have hk : j * b + q < 512 := by have := HCB.out j HLT.out; omega
          have hC := HU.out (j * b + q) hk wr
          obtain ⟨-, -, n3, -⟩ := HNU.out _ hk
          have f5 : wrap64 ((q : Int) + 1) = ((q + 1 : Nat) : Int) := by have := HC.out.2; unfold wrap64; omega
          have HL2 := Lib.hid (And.intro hlt2 hk)
          clear hlt2 hk
          obtain ⟨U, hU⟩ : ∃ U, up (endK at' z a (j * b + q)) a = U := ⟨_, rfl⟩
          rw [hU] at hC n3
          have HUU := Lib.hid hU
          clear hU
          have HCC := Lib.hid hC
          clear hC
          go_upto_region 10 with (go_at_call 22; (with_reducible refine HCC.out.mono ?_); rintro e w1 ⟨rfl, rfl⟩)
          clear d0 d1 d2 d4
          have ho2 := HO.out.alloc (.cells #[.int .i64 U] 3)
          have HO2 := Lib.hid ho2
          obtain ⟨pv, cv, rfl⟩ := slice_owns3 HO.out
          have HB2 : Hid (Below wo.heap.size wo (wr.alloc (.cells #[.int .i64 U] 3))) := Lib.hid (HBX.out.alloc HBX.out.size _)
          clear ho2
          go_wp2_with (at_builtin; refine wpList_append_ints rfl (.tmp 26) (.tmp 28) rfl wo.heap.size _ (laidRow at' z a b j q).length (laidRow at' z a b j q) rfl HO2.out (some ⟨wr.heap.size, 0, none⟩) 1 1 rfl [U] rfl (fun _ => ⟨⟨wr.heap.size, 0, none⟩, rfl, fun t ht => by
            obtain rfl : t = 0 := by omega
            exact cell_one_new wr (.int .i64 U) 3 0 _ rfl⟩) (by rw [laidRow_len]; have := HC.out; have := HL2.out.1; omega) HB2.out.size ?_)
          intro v' w' o3 g3 m3
          have HO3 : Hid (w'.ownsRow wo.heap.size 3 1 v' (laidRow at' z a b j (q + 1)).length ((laidRow at' z a b j (q + 1)).map (Value.int .i64))) := Lib.hid (by rw [laidRow_succ, HUU.out, List.length_append, List.map_append]; exact o3)
          have HB3 : Hid (Below wo.heap.size wo w') := Lib.hid (HB2.out.grown g3 HB2.out.size (fun k e => (HO2.out.lt k e).1))
          obtain ⟨d0, d1, d2, d4⟩ := HX.out _ (HRZ.out.below.trans (HB3.out.mono HRZ.out.below.size))
          clear o3 g3 m3
          go_wp2_with fail
          go_roundw
          case rel => exact ⟨q + 1, by go_num, HL2.out.1, by rw [n3]; rfl, HO3.out, HB3.out⟩
          case measure => rw [f5]; exact (step_w HL2.out.1 (by have := HC.out.2; omega)).2.2
        · have w5 : ¬ (q : Int) < (b : Int) := by omega
          obtain rfl : b = q := by omega
          clear hlt2
          obtain ⟨pv, cv, rfl⟩ := slice_owns3 HO.out
          have HN5 : Hid (wr.ownsRow wo.heap.size 3 1 (.slice pv (laidRow at' z a b j b).length cv) (laidRow at' z a b j b).length ((laidRow at' z a b j b).map (Value.int .i64))) := HO
          clear HO
          have HRL := Lib.hid (laidRow_len at' z a b j b)
          obtain ⟨R, hR⟩ : ∃ R, laidRow at' z a b j b = R := ⟨_, rfl⟩
          rw [hR] at HN5 HRL ⊢
          have HRR := Lib.hid hR
          clear hR
          have HW3 : Hid (Below wo.heap.size wo (wr.alloc (.cells #[.slice pv R.length cv] 37))) := Lib.hid (HBX.out.alloc HBX.out.size _)
          have HO2 : Hid ((wr.alloc (.cells #[.slice pv R.length cv] 37)).ownsRow Z.heap.size 37 1 u6 j vals) := Lib.hid (by
            have h1 := HRZ.out.own
            rw [laidTo_len] at h1
            exact owns_below h1 HW3.out)
          go_wp2_with (at_builtin; refine wpList_append_moves rfl (.tmp 34) (.tmp 36) 31 rfl Z.heap.size 37 i1 _ 1 24 Try.underlying31 hi1 hy0 hy1 hy2 rfl (by decide) u6 j vals rfl HO2.out ⟨wr.heap.size, 0, none⟩ 1 1 [.slice pv R.length cv] rfl rfl (cell_one_new _ _ _) (by simp [Value.oneCell']) ?d1 (by have := HC.out; have := HLT.out; omega) (by have := HW3.out.size; have := HRZ.out.below.size; omega) ?_)
          case d1 => have := HC.out; have := HLT.out; unfold maxLen; omega
          intro v4 w4' o4 g4 m4
          have HF : Hid (Rz Z w4' (laidTo at' z a b (j + 1)) (vals ++ [.slice pv R.length cv]) v4) := Lib.hid (by
            rw [laidTo_succ, HRR.out]
            exact HRZ.out.step HW3.out (HN5.out.alloc _) (by rw [laidTo_len]; exact o4) g4 m4 (by rw [← HRR.out]; exact HOK.out j b (HCB.out j HLT.out)))
          clear o4 g4 m4
          go_wp2_with fail
          go_roundw
          case rel => exact ⟨j + 1, _, by go_num, HLT.out, by rw [Nat.add_mul, Nat.one_mul], HF.out⟩
          case measure => rw [f6]; exact (step_w HLT.out (by have := HC.out.1; omega)).2.2
    · have w4 : ¬ (j : Int) < (c : Int) := by omega
      obtain rfl : c = j := by omega
      clear hlt
      have HM := Lib.hid (HRZ.out.mat (by rw [laidTo_len]; have := HC.out; omega)).here
      go_wp2_with fail
      go_ret2
      exact ⟨_, rfl, HM.out, Below.then HB0.out (Nat.le_refl _) HRZ.out.below⟩
end Go.Proofs.Ytinlcgcnjlifkaa
