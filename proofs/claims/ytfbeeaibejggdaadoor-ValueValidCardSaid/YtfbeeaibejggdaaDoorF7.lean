import Derived.Test.YtfbeeaibejggdaaDoorF6
namespace Go.Proofs.YtfbeeaibejggdaaDoor
open Go.RowKit

theorem Tryd.res50 : Tryd.f50.results = #[] := by kernel_rfl
theorem Tryd.res51 : Tryd.f51.results = #[] := by kernel_rfl
theorem Tryd.res53 : Tryd.f53.results = #[] := by kernel_rfl

theorem none_any (kd n : Int) (s : ByteArray) (keys : List Int) (kids : List T) (v : Value) (W0 W : World) (bw bb B : Nat) (xs : List Int) (hr : Rep W0 (.mk kd n s keys kids) v)
    (hW : Wr W bw bb B xs) (hB : B ≤ W.heap.size) :
    Calls Tryd.prog 50 #[.pointer (some ⟨bw, 0, none⟩), v] W fun e W' => e = .returned (.tuple #[]) ∧ Wr W' bw bb B xs ∧ Fr B bw W W' := by
  unfold Rep at hr
  obtain ⟨ka, va, kc, vc, rfl, _⟩ := hr
  have h1 := hW.alloc hB (.cells #[.int .i64 kd, .int .i64 n, .string s, .slice ka keys.length kc, .slice va kids.length vc] 25)
  clear hW
  go_enter Tryd.func50, Tryd.ntmps50
  go_wp2
  exact void_end Tryd.res50 rfl ⟨rfl, h1, Fr.alloc B bw W _⟩

set_option maxRecDepth 100000 in
set_option maxHeartbeats 1600000 in
theorem bool_any (kd n : Int) (s : ByteArray) (keys : List Int) (kids : List T) (v : Value) (W0 W : World) (bw bb B : Nat) (xs : List Int) (hr : Rep W0 (.mk kd n s keys kids) v)
    (hW : Wr W bw bb B xs) (hl : xs.length ≤ 1000000) (hB : B ≤ W.heap.size) :
    Calls Tryd.prog 51 #[.pointer (some ⟨bw, 0, none⟩), v] W fun e W' => e = .returned (.tuple #[]) ∧ Wr W' bw bb B (xs ++ digs (IntKind.u64.wrap n) 4) ∧ Fr B bw W W' := by
  unfold Rep at hr
  obtain ⟨ka, va, kc, vc, rfl, _⟩ := hr
  have hnum := number_any n 4 bw bb B xs (W.alloc (.cells #[.int .i64 kd, .int .i64 n, .string s, .slice ka keys.length kc, .slice va kids.length vc] 25)) (hW.alloc hB _) hl (by omega) (by simp; omega)
  clear hW
  go_enter Tryd.func51, Tryd.ntmps51
  go_wp2_with (go_at_call 52; refine hnum.mono ?_; rintro e w1 ⟨rfl, hw1, hf1⟩)
  exact void_end Tryd.res51 rfl ⟨rfl, hw1, (Fr.alloc B bw W _).trans hf1⟩

set_option maxRecDepth 100000 in
set_option maxHeartbeats 1600000 in
theorem int_any (kd n : Int) (s : ByteArray) (keys : List Int) (kids : List T) (v : Value) (W0 W : World) (bw bb B : Nat) (xs : List Int) (hr : Rep W0 (.mk kd n s keys kids) v)
    (hW : Wr W bw bb B xs) (hl : xs.length ≤ 1000000) (hB : B ≤ W.heap.size) :
    Calls Tryd.prog 53 #[.pointer (some ⟨bw, 0, none⟩), v] W fun e W' => e = .returned (.tuple #[]) ∧ Wr W' bw bb B (xs ++ digs (IntKind.u64.wrap n) 8) ∧ Fr B bw W W' := by
  unfold Rep at hr
  obtain ⟨ka, va, kc, vc, rfl, _⟩ := hr
  have hnum := number_any n 8 bw bb B xs (W.alloc (.cells #[.int .i64 kd, .int .i64 n, .string s, .slice ka keys.length kc, .slice va kids.length vc] 25)) (hW.alloc hB _) hl (by omega) (by simp; omega)
  clear hW
  go_enter Tryd.func53, Tryd.ntmps53
  go_wp2_with (go_at_call 52; refine hnum.mono ?_; rintro e w1 ⟨rfl, hw1, hf1⟩)
  exact void_end Tryd.res53 rfl ⟨rfl, hw1, (Fr.alloc B bw W _).trans hf1⟩
end Go.Proofs.YtfbeeaibejggdaaDoor
