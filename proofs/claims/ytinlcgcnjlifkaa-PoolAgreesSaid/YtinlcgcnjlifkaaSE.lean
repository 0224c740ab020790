/- The kinds of a wish, its counts: rows of one's own. -/
import Derived.Test.YtinlcgcnjlifkaaSD
import Derived.Test.YtinlcgcnjlifkaaTE
namespace Go.Proofs.Ytinlcgcnjlifkaa
open Go.RowKit Go.Shelf Go.Deep

def kindsTo (n : Int) (j : Nat) : List Int := List.map (fun k : Nat => (k : Int)) (List.filter (bitB n) (List.range j))
theorem kindsTo_yes {n : Int} {j : Nat} (h : bitB n j = true) : kindsTo n (j + 1) = kindsTo n j ++ [(j : Int)] := by simp [kindsTo, List.range_succ, List.filter_append, h]
theorem kindsTo_no {n : Int} {j : Nat} (h : bitB n j = false) : kindsTo n (j + 1) = kindsTo n j := by simp [kindsTo, List.range_succ, List.filter_append, h]
theorem kindsTo_len (n : Int) (j : Nat) : (kindsTo n j).length ≤ j := by
  unfold kindsTo
  rw [List.length_map]
  exact Nat.le_trans (List.length_filter_le _ _) (by simp)
theorem kindsTo_ok (n : Int) (j : Nat) (hj : j ≤ 1000) : okRow (kindsTo n j) := by
  refine ⟨Nat.le_trans (kindsTo_len n j) (by omega), fun i hi => ?_⟩
  have hm : (kindsTo n j).getD i 0 ∈ kindsTo n j := by
    rw [show (kindsTo n j).getD i 0 = (kindsTo n j)[i] by simp [List.getD, hi]]
    exact List.getElem_mem _
  obtain ⟨k, hk, he⟩ := List.mem_map.1 hm
  have := List.mem_range.1 (List.mem_filter.1 hk).1
  rw [← he]
  unfold I64
  omega
theorem and1 (x : Int) : bits BinOp.and IntKind.i64 x 1 = x % 2 := by
  have e1 : (BitVec.ofInt 64 x).toNat = (x % 18446744073709551616).toNat := by rw [BitVec.toNat_ofInt]; rfl
  have e2 : (BitVec.ofInt 64 1).toNat = 1 := by decide
  have e3 : ∀ a : Nat, a &&& 1 = a % 2 := fun a => Nat.and_two_pow_sub_one_eq_mod a 1
  have e4 : bits BinOp.and IntKind.i64 x 1 = IntKind.i64.wrap ((BitVec.ofInt 64 x &&& BitVec.ofInt 64 1).toNat : Nat) := rfl
  rw [e4, BitVec.toNat_and, e1, e2, e3, IntKind.wrap_i64]
  have h0 := Int.emod_nonneg x (show (18446744073709551616 : Int) ≠ 0 by decide)
  have h1 : ((x % 18446744073709551616).toNat : Int) = x % 18446744073709551616 := Int.toNat_of_nonneg h0
  have h2 : (((x % 18446744073709551616).toNat % 2 : Nat) : Int) = x % 2 := by
    rw [Int.natCast_emod, h1]; omega
  rw [h2]
  omega
theorem slice_owns3 {w : World} {B n : Nat} {u : Value} {xs : List Value} (h : w.ownsRow B 3 1 u n xs) : ∃ p c, u = .slice p n c := by
  rcases h.2 with ⟨rfl, rfl⟩ | ⟨g, cap, cur, rfl, _⟩
  · exact ⟨_, _, rfl⟩
  · exact ⟨_, _, rfl⟩
def RowA (l : List Int) (w : World) (e : Ending) (w' : World) : Prop := ∃ u, e = .returned u ∧ RowIn w' l u ∧ Below w.heap.size w w'
set_option maxHeartbeats 2000000 in
set_option maxRecDepth 100000 in
theorem kinds_any (d : Wish) (h0 : 0 ≤ d.kinds) (h1 : d.kinds ≤ 65536) (w : World) : Calls Try.prog 28 #[d.v] w (RowA (kindsTo d.kinds 8) w) := by
  obtain ⟨a1, a2, a3, a4, a5, a6, a7⟩ := d
  show Calls Try.prog 28 #[.agg #[.int .i64 a1, .int .i64 a2, .int .i64 a3, .int .i64 a4, .int .i64 a5, .int .i64 a6, .int .i64 a7]] w (RowA (kindsTo a7 8) w)
  dsimp only at h0 h1
  obtain ⟨O, hO⟩ : ∃ O, Obj.cells #[.int .i64 a1, .int .i64 a2, .int .i64 a3, .int .i64 a4, .int .i64 a5, .int .i64 a6, .int .i64 a7] 23 = O := ⟨_, rfl⟩
  have hb : Below w.heap.size w (w.alloc O) := below_box w O
  have hO2 : (w.alloc O).heap[w.heap.size]? = some O := blk_alloc_new w O
  obtain ⟨Z, hZ⟩ : ∃ Z, w.alloc O = Z := ⟨_, rfl⟩
  have hsz : Z.heap.size = w.heap.size + 1 := by rw [← hZ]; simp
  rw [hZ] at hb hO2
  subst hO
  have HB := Lib.hid hb
  have HSZ := Lib.hid hsz
  have HX : Hid (∀ y, Below Z.heap.size Z y → y.cell? ⟨w.heap.size, 6, none⟩ = some (.int .i64 a7)) := Lib.hid fun y hy => by
    have h9 := (hy.block _ (by rw [hsz]; omega)).trans hO2
    unfold World.cell?
    rw [h9]
    rfl
  clear hb hO2 hsz
  go_enter Try.func28, Try.ntmps28
  go_wp2_with fail
  clear hZ
  go_loopw [5, 3] (fun i v wr => ∃ j : Nat, i = .int .i64 j ∧ j ≤ 8 ∧ wr.ownsRow Z.heap.size 3 1 v (kindsTo a7 j).length ((kindsTo a7 j).map (Value.int .i64)) ∧ Below Z.heap.size Z wr) (fun i _ _ => 8 - (intOf i).toNat)
  case atStart => exact ⟨0, rfl, by decide, (World.ownsRow_nil _ _ _ _ : Z.ownsRow Z.heap.size 3 1 (.slice none 0 0) 0 []), Below.refl _ _⟩
  case round =>
    obtain ⟨j, rfl, hj, ho, hb⟩ := hrel
    have HO := Lib.hid ho
    have HBW := Lib.hid hb
    have c6 := HX.out _ hb
    clear ho hb
    by_cases hlt : j < 8
    · have w4 : (j : Int) < 8 := by omega
      have w5 : ¬ (j : Int) < 0 := by omega
      have HLT := Lib.hid hlt
      have hlen := kindsTo_len a7 j
      have HLN := Lib.hid hlen
      have f5 : wrap64 ((j : Int) + 1) = ((j + 1 : Nat) : Int) := by clear hlen; unfold wrap64; omega
      have e1 := and1 (a7 / 2 ^ j)
      cases hbit : bitB a7 j with
      | true =>
        have e2 : (a7 / 2 ^ j) % 2 = 1 := by simpa [bitB] using hbit
        rw [e2] at e1
        have HK := Lib.hid (kindsTo_yes hbit)
        clear hbit hlen hlt e2
        go_upto_region 6 with fail
        have ho2 := HO.out.alloc (.cells #[.int .i64 (j : Int)] 3)
        have HO2 := Lib.hid ho2
        obtain ⟨pv, cv, rfl⟩ := slice_owns3 HO.out
        have HB2 : Hid (Below Z.heap.size Z (wr.alloc (.cells #[.int .i64 (j : Int)] 3))) := Lib.hid (HBW.out.alloc HBW.out.size _)
        clear ho2
        go_wp2_with (at_builtin; refine wpList_append_ints rfl (.tmp 14) (.tmp 16) rfl Z.heap.size _ (kindsTo a7 j).length (kindsTo a7 j) rfl HO2.out (some ⟨wr.heap.size, 0, none⟩) 1 1 rfl [(j : Int)] rfl (fun _ => ⟨⟨wr.heap.size, 0, none⟩, rfl, fun q hq => by
          obtain rfl : q = 0 := by omega
          exact cell_one_new wr (.int .i64 (j : Int)) 3 0 _ rfl⟩) (by have := HLN.out; omega) HB2.out.size ?_)
        intro v' w' o3 g3 m3
        have HO3 : Hid (w'.ownsRow Z.heap.size 3 1 v' (kindsTo a7 (j + 1)).length ((kindsTo a7 (j + 1)).map (Value.int .i64))) := Lib.hid (by rw [HK.out, List.length_append, List.map_append]; exact o3)
        have HB3 : Hid (Below Z.heap.size Z w') := Lib.hid (HB2.out.grown g3 HB2.out.size (fun k e => (HO2.out.lt k e).1))
        clear o3 g3 m3
        go_wp2_with fail
        go_roundw
        case rel => exact ⟨j + 1, by go_num, HLT.out, HO3.out, HB3.out⟩
        case measure => have := HLT.out; simp [intOf]; omega
      | false =>
        have e2 : (a7 / 2 ^ j) % 2 = 0 := by have : ¬ (a7 / 2 ^ j) % 2 = 1 := by simpa [bitB] using hbit
                                             omega
        rw [e2] at e1
        have HK := Lib.hid (kindsTo_no hbit)
        clear hbit hlen hlt e2
        go_wp2_with fail
        go_roundw
        case rel => exact ⟨j + 1, by go_num, HLT.out, by rw [HK.out]; exact HO.out, HBW.out⟩
        case measure => have := HLT.out; simp [intOf]; omega
    · have w4 : ¬ (j : Int) < 8 := by omega
      obtain rfl : j = 8 := by omega
      have hok : okRow (kindsTo a7 8) := kindsTo_ok a7 8 (by decide)
      have HR := Lib.hid (owns_row (w' := wr) HO.out hok (fun _ _ _ => rfl))
      go_wp2_with fail
      go_ret
      exact ⟨_, rfl, HR.out, HB.out.trans (HBW.out.mono (by rw [HSZ.out]; omega))⟩
end Go.Proofs.Ytinlcgcnjlifkaa
