import Derived.Test.YtfbeeaibejggdaaDoorA6
import Derived.Laws.BytesArg
namespace Go.Proofs.YtfbeeaibejggdaaDoor
open Go.RowKit

theorem Tryd.info5 : (Tryd.prog.info? 5).map (fun i => (i.zero, i.size, i.bytes)) = some (some (.int .u8 0), 1, 1) := by kernel_rfl

/-- The lesser bytes of a number, the least first. -/
def digs (n : Int) (k : Nat) : List Int := (List.range k).map fun j => n / 256 ^ j % 256
theorem digs_succ (n : Int) (k : Nat) : digs n (k + 1) = digs n k ++ [n / 256 ^ k % 256] := by
  unfold digs; rw [List.range_succ, List.map_append]; rfl
theorem digs_len (n : Int) (k : Nat) : (digs n k).length = k := by simp [digs]
theorem div_next (n : Int) (k : Nat) : n / 256 ^ k / 256 = n / 256 ^ (k + 1) := by
  rw [Int.ediv_ediv_of_nonneg (Int.pow_nonneg (by omega)), Int.pow_succ]

theorem own_conv {w : World} {B g k cap : Nat} {xs : List Int} (h : w.ownsRow B 5 1 (.slice (some ⟨g, 0, none⟩) k cap) k (xs.map (Value.int .u8))) (hk : xs.length = k) :
    (convert 52 9 (.slice (some ⟨g, 0, none⟩) k cap)).run Tryd.prog w = .ok (.string (strOfNums xs)) w :=
  run_convert_bytes_arg (P := Tryd.prog) w 52 5 Tryd.underlying52 Tryd.underlying5 g 0 k cap xs hk (fun i hi => by
    rw [Nat.zero_add, h.cellAt i (by omega)]
    simp [List.getElem?_eq_getElem (show i < xs.length by omega), List.getD]) 9 Tryd.underlying9

theorem own_shape {w : World} {B e n : Nat} {v : Value} {xs : List Value} (h : w.ownsRow B e 1 v n xs) (hn : 0 < n) : ∃ g cap, v = .slice (some ⟨g, 0, none⟩) n cap ∧ n ≤ cap ∧ cap ≤ maxLen := by
  rcases h.2 with ⟨_, h0⟩ | ⟨g, cap, cur, hv, _, _, h1, h2, _⟩
  · omega
  · exact ⟨g, cap, hv, h1, h2⟩

set_option maxHeartbeats 1000000 in
theorem little_any (n : Int) (bytes : Nat) (w : World) (h0 : 0 ≤ n) (h1 : n < 18446744073709551616) (hb0 : 0 < bytes) (hb1 : bytes ≤ 8) :
    Calls Tryd.prog 61 #[.int .u64 n, .int .i64 bytes] w fun e w' => e = .returned (.string (strOfNums (digs n bytes))) ∧ Below w.heap.size w w' := by
  obtain ⟨i0, hi, hz0, hz1, hz2⟩ := info_parts Tryd.info5
  go_enter Tryd.func61, Tryd.ntmps61
  go_wp2_with fail
  go_loopw [0, 5, 6] (fun x v i wr => ∃ k : Nat, k ≤ bytes ∧ i = .int .i64 k ∧ x = .int .u64 (n / 256 ^ k) ∧ wr.ownsRow w.heap.size 5 1 v k ((digs n k).map (Value.int .u8)) ∧ Below w.heap.size w wr) (fun _ _ i _ => bytes - (intOf i).toNat)
  case atStart => exact ⟨0, Nat.zero_le _, rfl, by simp, World.ownsRow_nil _ _ _ _, Below.refl _ _⟩
  case round =>
    obtain ⟨k, hk, rfl, rfl, hown, hb⟩ := hrel
    by_cases hlt : k < bytes
    · obtain ⟨x, hx⟩ : ∃ x, n / 256 ^ k = x := ⟨_, rfl⟩
      have hx0 : 0 ≤ x := by rw [← hx]; exact Int.ediv_nonneg h0 (Int.pow_nonneg (by omega))
      have hx1 : x < 18446744073709551616 := by
        have : n / 256 ^ k ≤ n := Int.ediv_le_self _ h0
        omega
      have hm0 : 0 ≤ x % 256 := by omega
      have hm1 : x % 256 < 256 := by omega
      rw [hx]
      have Hx := Lib.hid hx
      clear hx
      go_wp2_with (at_builtin; refine wpList_append_own _ rfl _ _ 52 rfl w.heap.size 5 i0 (.int .u8 0) 1 1 Tryd.underlying52 hi hz0 hz1 hz2 rfl (by decide) _ _ _ rfl (hown.alloc _) ⟨wr.heap.size, 0, none⟩ 1 1 [.int .u8 (x % 256)] rfl rfl ?c1 ?c2 ?c3 ?c4 ?c5 ?_)
      case c1 =>
        intro j u hj
        match j, hj with
        | 0, hj => simp at hj; subst hj; simp [Addr.add]
      case c2 => intro u hu; simp at hu; subst hu; rfl
      case c3 => unfold maxLen; omega
      case c4 => omega
      case c5 => have := hb.size; simp; omega
      intro v' w1 hown' hgrow _
      have hb' : Below w.heap.size w w1 := (hb.alloc hb.size _).grown hgrow (by have := hb.size; simp; omega) (fun q hq => (hown.lt q hq).1)
      have Hown := Lib.hid hown'
      clear hown' hgrow hown hb
      go_wp2_with fail
      go_roundw
      case rel =>
        refine ⟨k + 1, by omega, by go_num, ?_, ?_, hb'⟩
        · rw [← div_next, Hx.out]
        · rw [digs_succ, Hx.out, List.map_append]; exact Hown.out
      case measure => simp [intOf]; omega
    · obtain rfl : k = bytes := by omega
      obtain ⟨g, cap, rfl, _, _⟩ := own_shape hown hb0
      have hcv := own_conv hown (digs_len n k)
      clear hown
      go_wp2_with fail
      go_ret
      exact ⟨rfl, hb⟩
end Go.Proofs.YtfbeeaibejggdaaDoor
