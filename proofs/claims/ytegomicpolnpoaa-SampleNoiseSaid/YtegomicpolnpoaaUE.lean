/- The reference's bytes of a level. -/
import Derived.Test.YtegomicpolnpoaaUB
import Derived.Test.YtegomicpolnpoaaSC
import Derived.Test.YtegomicpolnpoaaTH
import Derived.Deep.LoopGhost
namespace Go.Proofs.Ytegomicpolnpoaa
open Go.RowKit Go.Deep Go.Shelf

theorem Try.info5 : (Try.prog.info? 5).map (fun i => (i.zero, i.size, i.bytes)) = some (some (.int .u8 0), 1, 1) := by kernel_rfl
theorem shr8 (n : Int) (i : Nat) : n / 2 ^ (8 * i) / 256 = n / 2 ^ (8 * (i + 1)) := by
  have hp : (0 : Int) ≤ 2 ^ (8 * i) := Int.pow_nonneg (by decide)
  have e : (2 : Int) ^ (8 * (i + 1)) = 2 ^ (8 * i) * 256 := by rw [show 8 * (i + 1) = 8 * i + 8 by omega, Int.pow_add]; rfl
  rw [e]
  first | rw [Int.ediv_ediv hp] | rw [Int.ediv_ediv_of_nonneg hp] | rw [Int.ediv_ediv_eq_ediv_mul hp]
theorem and255 (x : Int) : bits BinOp.and IntKind.i64 x 255 = x % 256 := by
  have e1 : (BitVec.ofInt 64 x).toNat = (x % 18446744073709551616).toNat := by rw [BitVec.toNat_ofInt]; rfl
  have e2 : (BitVec.ofInt 64 255).toNat = 255 := by decide
  have e3 : ∀ a : Nat, a &&& 255 = a % 256 := fun a => Nat.and_two_pow_sub_one_eq_mod a 8
  have e4 : bits BinOp.and IntKind.i64 x 255 = IntKind.i64.wrap ((BitVec.ofInt 64 x &&& BitVec.ofInt 64 255).toNat : Nat) := rfl
  rw [e4, BitVec.toNat_and, e1, e2, e3, IntKind.wrap_i64]
  have h0 := Int.emod_nonneg x (show (18446744073709551616 : Int) ≠ 0 by decide)
  have h1 : ((x % 18446744073709551616).toNat : Int) = x % 18446744073709551616 := Int.toNat_of_nonneg h0
  have h2 : (((x % 18446744073709551616).toNat % 256 : Nat) : Int) = x % 256 := by
    rw [Int.natCast_emod, h1]; omega
  rw [h2]
  omega
/-- The bytes from the lowest on. -/
def lows (n : Int) (k : Nat) : List Value := (List.range k).map fun i => .int .u8 (byB n i)
theorem lows_succ (n : Int) (k : Nat) : lows n (k + 1) = lows n k ++ [.int .u8 (byB n k)] := by simp [lows, List.range_succ]
theorem lows_len (n : Int) (k : Nat) : (lows n k).length = k := by simp [lows]

theorem own_conv {w wr : World} {v : Value} {k : Nat} {n : Int} (ho : wr.ownsRow w.heap.size 5 1 v k (lows n k)) (hk : 1 ≤ k) :
    ∃ g cap, v = .slice (some ⟨g, 0, none⟩) k cap ∧ (convert 100 9 v).run Try.prog wr = .ok (.string (strOfNums ((List.range k).map (byB n)))) wr := by
  obtain ⟨j, rfl⟩ : ∃ j, k = j + 1 := ⟨k - 1, by omega⟩
  obtain ⟨g, cap, rfl⟩ := ownsRow_succ ho
  refine ⟨g, cap, rfl, run_convert_bytes_arg wr 100 5 Try.underlying100 Try.underlying5 g 0 (j + 1) cap _ (by simp) (fun i hi => ?_) 9 Try.underlying9⟩
  have h := ho.cells (g := g) rfl i (.int .u8 (byB n i)) (by simp [lows, hi])
  rw [Addr.add_lit] at h
  rw [h]
  simp [List.getD, hi]

theorem own_row {w wr : World} {v : Value} {k : Nat} {n : Int} (ho : wr.ownsRow w.heap.size 5 1 v k (lows n k)) (hk : 1 ≤ k) :
    ∃ g cap F, v = .slice (some ⟨g, 0, none⟩) k cap ∧ w.heap.size ≤ g ∧ k ≤ cap ∧ wr.rowIs g 5 cap F ∧ ∀ i, i < k → F i = .int .u8 (byB n i) := by
  rcases ho.2 with ⟨_, h0⟩ | ⟨g, cap, cur, rfl, hb, hh, hnc, hm, hs, ht⟩
  · omega
  · refine ⟨g, cap, fun i => cur[i]?.getD undef, rfl, hb, hnc, ⟨cur, hh, by simpa using hs, fun i hi => ?_⟩, fun i hi => ?_⟩
    · have : i < cur.size := by omega
      simp [this]
    · have h1 : (cur.toList.take (k * 1))[i]? = (lows n k)[i]? := by rw [ht]
      rw [List.getElem?_take, if_pos (by omega)] at h1
      simp [lows, hi] at h1
      simp [h1]
/-- A row's first k behind j exchanges. -/
def revF (F : Nat → Value) (k j : Nat) : Nat → Value := fun t => if t < j ∨ (k - 1 - j < t ∧ t < k) then F (k - 1 - t) else F t
theorem revF_step (F : Nat → Value) {k j : Nat} (h : 2 * j + 1 < k) : (fun t => if t = k - 1 - j then F j else if t = j then F (k - 1 - j) else revF F k j t) = revF F k (j + 1) := by
  funext t
  simp only [revF]
  by_cases a : t = k - 1 - j
  · subst a; rw [if_pos rfl, if_pos (by omega)]; congr 1; omega
  · rw [if_neg a]
    by_cases b : t = j
    · subst b; rw [if_pos rfl, if_pos (by omega)]
    · rw [if_neg b]
      by_cases c : t < j ∨ (k - 1 - j < t ∧ t < k)
      · rw [if_pos c, if_pos (by omega)]
      · rw [if_neg c, if_neg (by omega)]

set_option maxHeartbeats 4000000 in
set_option maxRecDepth 100000 in
theorem refWritten_any {e : Nat} (h1 : 1 ≤ e) (h8 : e ≤ 8) (lvl : Int) (hl1 : -2147483648 ≤ lvl) (hl2 : lvl ≤ 2147483647) (hu : e = 2 → -127 ≤ lvl ∧ lvl ≤ 127) (w : World) :
    Calls Try.prog 111 #[.int .i64 e, .int .i64 lvl] w fun x w' => x = .returned (.string (strOfNums ((List.range (wid e)).map (by8 e lvl)))) ∧ Below w.heap.size w w' := by
  obtain ⟨i1, hi1, hy0, hy1, hy2⟩ := info_parts Try.info5
  have hb := refBits_yes h1 h8 w
  have hw4 : wid e ≤ 4 ∧ 1 ≤ wid e := by unfold wid; omega
  have hbw : (bitsN e : Int) = 8 * (wid e : Int) := by unfold bitsN wid; omega
  rw [hbw] at hb
  obtain ⟨W, hW⟩ : ∃ W, wid e = W := ⟨_, rfl⟩
  rw [hW] at hb hw4 ⊢
  clear hbw
  by_cases he2 : e = 2
  · obtain ⟨u1, u2⟩ := hu he2
    have g3 : ((e : Int) == 2) = true := by simp; omega
    have g4 : ¬ (2 : Int) < (e : Int) := by omega
    have HE := Lib.hid he2
    have HW := Lib.hid hW
    clear hu hW he2
    go_enter Try.func111, Try.ntmps111
    go_wp2_with (go_at_call 11; (with_reducible refine hb.mono ?_); rintro e w1 ⟨rfl, rfl⟩)
    clear hb
    go_loopw [7, 8, 9] (fun n v i wr => ∃ k : Nat, n = .int .i64 ((lvl + 128) / 2 ^ (8 * k)) ∧ i = .int .i64 k ∧ k ≤ W ∧ wr.ownsRow w.heap.size 5 1 v k (lows (lvl + 128) k) ∧ Below w.heap.size w wr) (fun _ _ i _ => W - (RowKit.intOf i).toNat)
    case atStart => exact ⟨0, by simp, rfl, Nat.zero_le _, by simpa [lows] using World.ownsRow_nil _ _ _ _, Below.refl _ _⟩
    case round =>
      obtain ⟨k, rfl, rfl, hk, ho, hbl⟩ := hrel
      by_cases hlt : k < W
      · have w4 : (k : Int) < (W : Int) := by omega
        have w5 : (k : Int) < 8 * (W : Int) / 8 := by omega
        have HO := Lib.hid ho
        have HB := Lib.hid hbl
        clear ho hbl
        go_wp2_with (at_builtin; refine wpList_append_moves rfl (.tmp 28) (.tmp 32) 100 rfl w.heap.size 5 i1 _ 1 1 Try.underlying100 hi1 hy0 hy1 hy2 rfl (by decide) _ k (lows (lvl + 128) k) rfl (HO.out.alloc _) ⟨wr.heap.size, 0, none⟩ 1 1 [.int .u8 (bits BinOp.and IntKind.i64 ((lvl + 128) / 2 ^ (8 * k)) 255 % 256)] rfl rfl ?c1 ?c2 ?c3 ?c4 ?c5 ?_)
        case c1 =>
          intro j x hx
          match j with
          | 0 => simp at hx; subst hx; simp [go_sem]
          | j + 1 => simp at hx
        case c2 =>
          intro x hx; simp at hx; subst hx; rfl
        case c3 => unfold maxLen; omega
        case c4 => omega
        case c5 => have := HB.out.size; simp; omega
        intro v2 w2 h21 h22 h23
        rw [and255, Int.emod_emod, show (lvl + 128) / 2 ^ (8 * k) % 256 = byB (lvl + 128) k from rfl, ← lows_succ] at h21
        have hb2 : Below w.heap.size w w2 := (HB.out.alloc HB.out.size _).grown h22 (by have := HB.out.size; simp; omega) (fun g hg => ((HO.out.lt g hg).1))
        have H21 := Lib.hid h21
        have HB2 := Lib.hid hb2
        have HS := Lib.hid (shr8 (lvl + 128) k)
        clear h21 h22 h23 hb2
        go_wp2_with fail
        go_roundw
        case rel => exact ⟨k + 1, by rw [HS.out], by go_num, by omega, H21.out, HB2.out⟩
        case measure => simp [RowKit.intOf]; omega
      · obtain rfl : k = W := by omega
        have HO := Lib.hid ho
        have HB := Lib.hid hbl
        have w5 : ¬ (k : Int) < 8 * (k : Int) / 8 := by omega
        clear ho hbl
        obtain ⟨gb, cap, rfl, hconv⟩ := own_conv HO.out (by omega)
        have HEQ : Hid ((List.range k).map (byB (lvl + 128)) = (List.range k).map (by8 e lvl)) := Lib.hid (List.map_congr_left fun i _ => by unfold by8; rw [if_pos HE.out])
        have HCV := Lib.hid hconv
        clear hconv
        have hcv := HCV.out
        rw [HEQ.out] at hcv
        generalize hbs : (List.range k).map (by8 e lvl) = bs at hcv
        have HBS := Lib.hid hbs
        clear hbs
        go_wp2_with fail
        go_ret
        exact ⟨by rw [HBS.out]; rfl, HB.out⟩
  · have g2 : ¬ ((e : Int) = 2) := by omega
    have HE := Lib.hid he2
    have g3 : ((e : Int) == 2) = false := by simp; omega
    have HW := Lib.hid hW
    clear he2 hu hW
    go_enter Try.func111, Try.ntmps111
    go_wp2_with (go_at_call 11; (with_reducible refine hb.mono ?_); rintro e w1 ⟨rfl, rfl⟩)
    clear hb
    go_loopw [7, 8, 9] (fun n v i wr => ∃ k : Nat, n = .int .i64 (lvl / 2 ^ (8 * k)) ∧ i = .int .i64 k ∧ k ≤ W ∧ wr.ownsRow w.heap.size 5 1 v k (lows lvl k) ∧ Below w.heap.size w wr) (fun _ _ i _ => W - (RowKit.intOf i).toNat)
    case atStart => exact ⟨0, by simp, rfl, Nat.zero_le _, by simpa [lows] using World.ownsRow_nil _ _ _ _, Below.refl _ _⟩
    case round =>
      obtain ⟨k, rfl, rfl, hk, ho, hbl⟩ := hrel
      by_cases hlt : k < W
      · have w4 : (k : Int) < (W : Int) := by omega
        have w5 : (k : Int) < 8 * (W : Int) / 8 := by omega
        have HO := Lib.hid ho
        have HB := Lib.hid hbl
        clear ho hbl
        go_wp2_with (at_builtin; refine wpList_append_moves rfl (.tmp 28) (.tmp 32) 100 rfl w.heap.size 5 i1 _ 1 1 Try.underlying100 hi1 hy0 hy1 hy2 rfl (by decide) _ k (lows lvl k) rfl (HO.out.alloc _) ⟨wr.heap.size, 0, none⟩ 1 1 [.int .u8 (bits BinOp.and IntKind.i64 (lvl / 2 ^ (8 * k)) 255 % 256)] rfl rfl ?c1 ?c2 ?c3 ?c4 ?c5 ?_)
        case c1 =>
          intro j x hx
          match j with
          | 0 => simp at hx; subst hx; simp [go_sem]
          | j + 1 => simp at hx
        case c2 =>
          intro x hx; simp at hx; subst hx; rfl
        case c3 => unfold maxLen; omega
        case c4 => omega
        case c5 => have := HB.out.size; simp; omega
        intro v2 w2 h21 h22 h23
        rw [and255, Int.emod_emod, show lvl / 2 ^ (8 * k) % 256 = byB lvl k from rfl, ← lows_succ] at h21
        have hb2 : Below w.heap.size w w2 := (HB.out.alloc HB.out.size _).grown h22 (by have := HB.out.size; simp; omega) (fun g hg => ((HO.out.lt g hg).1))
        have H21 := Lib.hid h21
        have HB2 := Lib.hid hb2
        have HS := Lib.hid (shr8 lvl k)
        clear h21 h22 h23 hb2
        go_wp2_with fail
        go_roundw
        case rel => exact ⟨k + 1, by rw [HS.out], by go_num, by omega, H21.out, HB2.out⟩
        case measure => simp [RowKit.intOf]; omega
      · obtain rfl : k = W := by omega
        have HO := Lib.hid ho
        have HB := Lib.hid hbl
        have w5 : ¬ (k : Int) < 8 * (k : Int) / 8 := by omega
        clear ho hbl
        by_cases hbig : 2 < e ∧ e % 2 = 0
        · obtain ⟨gb, cap, F, rfl, hgb, hkc, hrw, hF⟩ := own_row HO.out (by omega)
          have g4 : (2 : Int) < (e : Int) := by omega
          have g5 : (((e : Int) % 2) == 0) = true := by simp; omega
          have g7 : (e : Int) % 2 = 0 := by omega
          have HF := Lib.hid hF
          have HBIG := Lib.hid hbig
          have HRW := Lib.hid hrw
          clear hbig hF hrw
          go_wp2_with fail
          go_loopw [10, 11] (fun i q wx => ∃ j r : Nat, i = .int .i64 j ∧ q = .int .i64 r ∧ j + r + 1 = k ∧ 2 * j ≤ k ∧ wx.rowIs gb 5 cap (revF F k j) ∧ Below w.heap.size w wx) (fun i _ _ => k - (RowKit.intOf i).toNat)
          case atStart => exact ⟨0, k - 1, rfl, by simp; omega, by omega, Nat.zero_le _, HRW.out.congr (fun i hi => by simp [revF]; intro h; omega), HB.out⟩
          case round =>
            obtain ⟨j, r, rfl, rfl, hjr, hj2, hx, hbx⟩ := hrel
            by_cases hlt2 : j < r
            · have w6 : (j : Int) < (r : Int) := by omega
              have fj : revF F k j j = .int .u8 (byB lvl j) := by unfold revF; rw [if_neg (by omega)]; exact HF.out j (by omega)
              have fr : revF F k j r = .int .u8 (byB lvl r) := by unfold revF; rw [if_neg (by omega)]; exact HF.out r (by omega)
              have c1 := hx.cell (i := j) (by omega)
              have c2 := hx.cell (i := r) (by omega)
              rw [fj] at c1
              rw [fr] at c2
              have z1 := hx.frozen j
              have z2 := hx.frozen r
              have d1 : decide (j < k) = true := decide_eq_true (by omega)
              have d2 : decide (r < k) = true := decide_eq_true (by omega)
              have d3 : decide ((j : Int) < (k : Int)) = true := decide_eq_true (by omega)
              have d4 : decide ((r : Int) < (k : Int)) = true := decide_eq_true (by omega)
              have d5 : j < k := by omega
              have d6 : r < k := by omega
              have d7 : (j : Int) < (k : Int) := by omega
              have d8 : (r : Int) < (k : Int) := by omega
              have ne1 : ¬ j = r := by omega
              have ne2 : ¬ r = j := by omega
              have hst := revF_step F (k := k) (j := j) (by omega)
              rw [show k - 1 - j = r by omega, HF.out j (by omega), HF.out r (by omega)] at hst
              have HST := Lib.hid hst
              have HX := Lib.hid hx
              have HBX := Lib.hid hbx
              clear fj fr hst hx hbx
              go_wp2_with fail
              have hfol : Try.prog.follows .mixedOrders = true := by kernel_rfl
              go_region
              all_goals go_wp2_with fail
              go_roundw
              case rel => exact ⟨j + 1, r - 1, by go_num, by go_num, by omega, by omega, by rw [← HST.out]; exact ((HX.out.set j _).set r _).drew, ((HBX.out.setCell hgb _).setCell hgb _).drew⟩
              case measure => simp [RowKit.intOf]; omega
            · have w6 : ¬ (j : Int) < (r : Int) := by omega
              have hall : ∀ t, t < k → revF F k j t = .int .u8 (byB lvl (k - 1 - t)) := fun t ht => by
                unfold revF
                by_cases a : t < j ∨ (k - 1 - j < t ∧ t < k)
                · rw [if_pos a, HF.out _ (by omega)]
                · rw [if_neg a, HF.out t ht, show k - 1 - t = t by omega]
              have hcv := run_convert_bytes_arg wr 100 5 Try.underlying100 Try.underlying5 gb 0 k cap ((List.range k).map fun t => byB lvl (k - 1 - t)) (by simp) (fun i hi => by rw [Nat.zero_add, hx.cell (by omega), hall i hi]; simp [List.getD, hi]) 9 Try.underlying9
              rw [show ((List.range k).map fun t => byB lvl (k - 1 - t)) = (List.range k).map (by8 e lvl) from List.map_congr_left fun i _ => by unfold by8; rw [if_neg HE.out, if_pos HBIG.out, HW.out]] at hcv
              generalize hbs : (List.range k).map (by8 e lvl) = bs at hcv
              have HBS := Lib.hid hbs
              have HBX := Lib.hid hbx
              clear hbs hx hbx hall
              go_wp2_with fail
              go_ret
              exact ⟨by rw [HBS.out]; rfl, HBX.out⟩
        · by_cases hg : 2 < e
          · have g4 : (2 : Int) < (e : Int) := by omega
            have g5 : ¬ ((e : Int) % 2 = 0) := by omega
            have g6 : (((e : Int) % 2) == 0) = false := by simp; omega
            obtain ⟨gb, cap, rfl, hconv⟩ := own_conv HO.out (by omega)
            have HEQ : Hid ((List.range k).map (byB lvl) = (List.range k).map (by8 e lvl)) := Lib.hid (List.map_congr_left fun i _ => by unfold by8; rw [if_neg HE.out, if_neg (by omega)])
            have HCV := Lib.hid hconv
            clear hconv
            have hcv := HCV.out
            rw [HEQ.out] at hcv
            generalize hbs : (List.range k).map (by8 e lvl) = bs at hcv
            have HBS := Lib.hid hbs
            clear hbs
            go_wp2_with fail
            go_ret
            exact ⟨by rw [HBS.out]; rfl, HB.out⟩
          · have g4 : ¬ (2 : Int) < (e : Int) := by omega
            obtain ⟨gb, cap, rfl, hconv⟩ := own_conv HO.out (by omega)
            have HEQ : Hid ((List.range k).map (byB lvl) = (List.range k).map (by8 e lvl)) := Lib.hid (List.map_congr_left fun i _ => by unfold by8; rw [if_neg HE.out, if_neg (by omega)])
            have HCV := Lib.hid hconv
            clear hconv
            have hcv := HCV.out
            rw [HEQ.out] at hcv
            generalize hbs : (List.range k).map (by8 e lvl) = bs at hcv
            have HBS := Lib.hid hbs
            clear hbs
            go_wp2_with fail
            go_ret
            exact ⟨by rw [HBS.out]; rfl, HB.out⟩
end Go.Proofs.Ytegomicpolnpoaa
