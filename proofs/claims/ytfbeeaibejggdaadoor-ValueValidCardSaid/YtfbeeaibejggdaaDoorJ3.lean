/- The law ValueValid returns true at values that are looked at. -/
import Derived.Test.YtfbeeaibejggdaaDoorJ2
import Derived.Deep.RegionHeld3
namespace Go.Proofs.YtfbeeaibejggdaaDoor
open Go.RowKit

theorem encodeV_form (t : T) : ∃ S E, encodeV t = .tuple #[.string S, .int .i64 E] := by
  unfold encodeV; split <;> exact ⟨_, _, rfl⟩
theorem sizeV_form (t : T) : ∃ n E, sizeV t = .tuple #[.int .i64 n, .int .i64 E] := by
  unfold sizeV; split <;> exact ⟨_, _, rfl⟩
theorem countV_form (t : T) : ∃ n E, countV t = .tuple #[.int .i64 n, .int .i64 E] := by
  unfold countV; split <;> exact ⟨_, _, rfl⟩
theorem sameT_self (t : T) : sameT t t = true := (sameT_iff t t).2 rfl

set_option maxRecDepth 100000 in
set_option maxHeartbeats 3200000 in
theorem valueValid_light (a b : T) (va vb : Value) (w : World) (ha : Rep w a va) (hb : Rep w b vb) (hl : HasLaid w) (hca : decide (0 < weightT a 3000) = true) (hcb : decide (0 < weightT b 3000) = true) :
    Calls Tryd.prog 3 #[va, vb] w fun e w' => e = .returned (.bool true) ∧ Below w.heap.size w w' := by
  have hra := ha
  have hrb := hb
  have hc1 := light_cost hca
  have hd1 : deepT a ≤ 262144 := by have := deep_count a; have := count_cost a; omega
  obtain ⟨ka, xa, kc, xc, rfl, _, _, _, _, _, _, _⟩ := rep_agg ha
  obtain ⟨ka', xa', kc', xc', rfl, _, _, _, _, _, _, _⟩ := rep_agg hb
  obtain ⟨X, hX⟩ : ∃ X : Obj, X = .cells #[.int .i64 a.kind, .int .i64 a.n, .string a.s, .slice ka a.keys.length kc, .slice xa a.kids.length xc] 25 := ⟨_, rfl⟩
  obtain ⟨Y, hY⟩ : ∃ Y : Obj, Y = .cells #[.int .i64 b.kind, .int .i64 b.n, .string b.s, .slice ka' b.keys.length kc', .slice xa' b.kids.length xc'] 25 := ⟨_, rfl⟩
  obtain ⟨eS, eE, h10⟩ := encodeV_form a
  obtain ⟨sN, sE, h12⟩ := sizeV_form a
  obtain ⟨cN, cE, h14⟩ := countV_form a
  obtain ⟨vB, h16⟩ : ∃ x, validB a = x := ⟨_, rfl⟩
  obtain ⟨sB, h18⟩ : ∃ x, sameT a b = x := ⟨_, rfl⟩
  have c8a := Lib.hid fun (wr : World) (hi : In2 w X Y wr) => calls_in2 hi (hca ▸ light_any a _ wr (Rep.mono hi.same _ _ hra))
  have c8b := Lib.hid fun (wr : World) (hi : In2 w X Y wr) => calls_in2 hi (hcb ▸ light_any b _ wr (Rep.mono hi.same _ _ hrb))
  have c9 := Lib.hid fun (wr : World) (hi : In2 w X Y wr) => calls_in2 hi (awake_any wr (hl.mono hi.same))
  have c10 := Lib.hid fun (wr : World) (hi : In2 w X Y wr) => calls_in2 hi (h10 ▸ encode_any a _ wr (Rep.mono hi.same _ _ hra) (hl.mono hi.same) hc1)
  have c11 := Lib.hid fun (wr : World) (hi : In2 w X Y wr) => calls_in2 hi (h10 ▸ refEncode_any a _ wr (Rep.mono hi.same _ _ hra) hc1)
  have c12 := Lib.hid fun (wr : World) (hi : In2 w X Y wr) => calls_in2 hi (h12 ▸ size_any a _ wr (Rep.mono hi.same _ _ hra) (hl.mono hi.same) hc1)
  have c13 := Lib.hid fun (wr : World) (hi : In2 w X Y wr) => calls_in2 hi (h12 ▸ refSize_any a _ wr (Rep.mono hi.same _ _ hra) hc1)
  have c14 := Lib.hid fun (wr : World) (hi : In2 w X Y wr) => calls_in2 hi (h14 ▸ count_any a _ wr (Rep.mono hi.same _ _ hra) (hl.mono hi.same) hc1)
  have c15 := Lib.hid fun (wr : World) (hi : In2 w X Y wr) => calls_in2 hi (h14 ▸ refCount_any a _ wr (Rep.mono hi.same _ _ hra) hc1)
  have c16 := Lib.hid fun (wr : World) (hi : In2 w X Y wr) => calls_in2 hi (h16 ▸ valid_any a _ wr (Rep.mono hi.same _ _ hra) (hl.mono hi.same) hc1)
  have c17 := Lib.hid fun (wr : World) (hi : In2 w X Y wr) => calls_in2 hi (h16 ▸ refValid_any a _ wr (Rep.mono hi.same _ _ hra) hc1)
  have c18 := Lib.hid fun (wr : World) (hi : In2 w X Y wr) => calls_in2 hi (h18 ▸ same_any a b _ _ wr (Rep.mono hi.same _ _ hra) (Rep.mono hi.same _ _ hrb) hd1)
  have c19 := Lib.hid fun (wr : World) (hi : In2 w X Y wr) => calls_in2 hi (h18 ▸ refSame_any a b _ _ wr (Rep.mono hi.same _ _ hra) (Rep.mono hi.same _ _ hrb))
  have c18' := Lib.hid fun (wr : World) (hi : In2 w X Y wr) => calls_in2 hi (sameT_self a ▸ same_any a a _ _ wr (Rep.mono hi.same _ _ hra) (Rep.mono hi.same _ _ hra) hd1)
  have HC := Lib.hid fun (wr : World) (h : In2 w X Y wr) => In2.cells (hX ▸ hY ▸ h)
  have g1 := c8a.out _ (In2.first w X Y)
  have hXY : (w.alloc X).alloc Y = (w.alloc (.cells #[.int .i64 a.kind, .int .i64 a.n, .string a.s, .slice ka a.keys.length kc, .slice xa a.kids.length xc] 25)).alloc (.cells #[.int .i64 b.kind, .int .i64 b.n, .string b.s, .slice ka' b.keys.length kc', .slice xa' b.kids.length xc'] 25) := by rw [hX, hY]
  rw [hXY] at g1
  clear hXY hX hY h10 h12 h14 h16 h18 hca hcb hc1 hd1 hl ha hb hra hrb
  go_enter Tryd.func3, Tryd.ntmps3
  go_upto_region 9 with (first
    | (go_at_call 8; (with_reducible refine g1.mono ?_); rintro e w1 ⟨rfl, hi1⟩; obtain ⟨⟨a10, a11, a12, a13, a14⟩, b10, b11, b12, b13, b14⟩ := HC.out w1 hi1; have g2 := c8b.out w1 hi1)
    | (go_at_call 8; (with_reducible refine g2.mono ?_); rintro e w2 ⟨rfl, hi2⟩; clear a10 a11 a12 a13 a14 b10 b11 b12 b13 b14; obtain ⟨⟨a20, a21, a22, a23, a24⟩, b20, b21, b22, b23, b24⟩ := HC.out w2 hi2; have g3 := c10.out w2 hi2)
    | (go_at_call 10; (with_reducible refine g3.mono ?_); rintro e w3 ⟨rfl, hi3⟩; clear a20 a21 a22 a23 a24 b20 b21 b22 b23 b24; obtain ⟨⟨a30, a31, a32, a33, a34⟩, b30, b31, b32, b33, b34⟩ := HC.out w3 hi3; have g4 := c11.out w3 hi3)
    | (go_at_call 11; (with_reducible refine g4.mono ?_); rintro e w4 ⟨rfl, hi4⟩; clear a30 a31 a32 a33 a34 b30 b31 b32 b33 b34; obtain ⟨⟨a40, a41, a42, a43, a44⟩, b40, b41, b42, b43, b44⟩ := HC.out w4 hi4; have g5 := c12.out w4 hi4)
    | (go_at_call 12; (with_reducible refine g5.mono ?_); rintro e w5 ⟨rfl, hi5⟩; clear a40 a41 a42 a43 a44 b40 b41 b42 b43 b44; obtain ⟨⟨a50, a51, a52, a53, a54⟩, b50, b51, b52, b53, b54⟩ := HC.out w5 hi5; have g6 := c13.out w5 hi5)
    | (go_at_call 13; (with_reducible refine g6.mono ?_); rintro e w6 ⟨rfl, hi6⟩; clear a50 a51 a52 a53 a54 b50 b51 b52 b53 b54; obtain ⟨⟨a60, a61, a62, a63, a64⟩, b60, b61, b62, b63, b64⟩ := HC.out w6 hi6; have g7 := c14.out w6 hi6)
    | (go_at_call 14; (with_reducible refine g7.mono ?_); rintro e w7 ⟨rfl, hi7⟩; clear a60 a61 a62 a63 a64 b60 b61 b62 b63 b64; obtain ⟨⟨a70, a71, a72, a73, a74⟩, b70, b71, b72, b73, b74⟩ := HC.out w7 hi7; have g8 := c15.out w7 hi7)
    | (go_at_call 15; (with_reducible refine g8.mono ?_); rintro e w8 ⟨rfl, hi8⟩; clear a70 a71 a72 a73 a74 b70 b71 b72 b73 b74; obtain ⟨⟨a80, a81, a82, a83, a84⟩, b80, b81, b82, b83, b84⟩ := HC.out w8 hi8; skip))
  have HS : Hid (∀ wx : World, In2 w X Y wx → wx.cell? ⟨w.heap.size, 0, none⟩ = some (.int .i64 a.kind) ∧ wx.cell? ⟨w.heap.size, 1, none⟩ = some (.int .i64 a.n) ∧ wx.cell? ⟨w.heap.size, 2, none⟩ = some (.string a.s) ∧ wx.cell? ⟨w.heap.size, 3, none⟩ = some (.slice ka a.keys.length kc) ∧ wx.cell? ⟨w.heap.size, 4, none⟩ = some (.slice xa a.kids.length xc) ∧ wx.cell? ⟨w.heap.size + 1, 0, none⟩ = some (.int .i64 b.kind) ∧ wx.cell? ⟨w.heap.size + 1, 1, none⟩ = some (.int .i64 b.n) ∧ wx.cell? ⟨w.heap.size + 1, 2, none⟩ = some (.string b.s) ∧ wx.cell? ⟨w.heap.size + 1, 3, none⟩ = some (.slice ka' b.keys.length kc') ∧ wx.cell? ⟨w.heap.size + 1, 4, none⟩ = some (.slice xa' b.kids.length xc') ∧ In2 w X Y wx) := Lib.hid fun wx h => by
    obtain ⟨⟨p0, p1, p2, p3, p4⟩, q0, q1, q2, q3, q4⟩ := HC.out wx h
    exact ⟨p0, p1, p2, p3, p4, q0, q1, q2, q3, q4, h⟩
  clear a80 a81 a82 a83 a84 b80 b81 b82 b83 b84
  clear hi1 hi2 hi3 hi4 hi5 hi6 hi7
  go_region_held3 (fun wx => wx.cell? ⟨w.heap.size, 0, none⟩ = some (.int .i64 a.kind) ∧ wx.cell? ⟨w.heap.size, 1, none⟩ = some (.int .i64 a.n) ∧ wx.cell? ⟨w.heap.size, 2, none⟩ = some (.string a.s) ∧ wx.cell? ⟨w.heap.size, 3, none⟩ = some (.slice ka a.keys.length kc) ∧ wx.cell? ⟨w.heap.size, 4, none⟩ = some (.slice xa a.kids.length xc) ∧ wx.cell? ⟨w.heap.size + 1, 0, none⟩ = some (.int .i64 b.kind) ∧ wx.cell? ⟨w.heap.size + 1, 1, none⟩ = some (.int .i64 b.n) ∧ wx.cell? ⟨w.heap.size + 1, 2, none⟩ = some (.string b.s) ∧ wx.cell? ⟨w.heap.size + 1, 3, none⟩ = some (.slice ka' b.keys.length kc') ∧ wx.cell? ⟨w.heap.size + 1, 4, none⟩ = some (.slice xa' b.kids.length xc') ∧ In2 w X Y wx)
    (first
      | exact HS.out _ hi8.drew
      | (go_split_ands; exact HS.out _ (by assumption))
      | exact HS.out _ hk)
    (first
      | (go_at_call 16; (with_reducible refine (c16.out _ (by go_split_ands; assumption)).mono ?_); rintro e wk ⟨rfl, hk⟩)
      | (go_at_call 17; (with_reducible refine (c17.out _ (by go_split_ands; assumption)).mono ?_); rintro e wk ⟨rfl, hk⟩)
      | (go_at_call 18; (with_reducible refine (c18.out _ (by go_split_ands; assumption)).mono ?_); rintro e wk ⟨rfl, hk⟩)
      | (go_at_call 18; (with_reducible refine (c18'.out _ (by go_split_ands; assumption)).mono ?_); rintro e wk ⟨rfl, hk⟩)
      | (go_at_call 19; (with_reducible refine (c19.out _ (by go_split_ands; assumption)).mono ?_); rintro e wk ⟨rfl, hk⟩)
      | (go_at_call 9; (with_reducible refine (c9.out _ (by go_split_ands; assumption)).mono ?_); rintro e wk ⟨rfl, hk⟩))
  all_goals
    go_wp2_with fail
    go_ret
    refine ⟨rfl, ?_⟩
    go_split_ands
    exact In2.out (X := X) (Y := Y) (by assumption)
end Go.Proofs.YtfbeeaibejggdaaDoor
