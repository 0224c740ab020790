import Derived.Test.YtfbeeaibejggdaaDoorC1
namespace Go.Proofs.YtfbeeaibejggdaaDoor
open Go.RowKit Go.Shelf
attribute [local go_sem] Oper.semAt_some

theorem within_in (F : Fence) (n : Nat) (h62 : F.fn 62) (hro : F.round = none) (c0 c1 c2 c3 c4 : Value) (w : World) :
    CallsIn F n Tryd.prog 62 #[.agg #[c0, c1, c2, c3, c4]] w fun e w' => e = .returned (.func (.func 88) #[] #[.pointer (some ⟨w.heap.size, 0, none⟩)]) ∧ w' = w.alloc (.cells #[c0, c1, c2, c3, c4] 25) := by
  refine callsIn_of_wp Tryd.func62 rfl h62 ?_ hro
  simp only [Tryd.ntmps62, List.size_toArray, List.length_cons, List.length_nil, Nat.reduceAdd, Nat.reduceSub, Array.replicate_succ, Array.replicate_zero, List.push_toArray, List.append_toArray, List.nil_append, List.cons_append]
  gi_wp2
  go_ret
  exact ⟨rfl, rfl⟩

set_option maxRecDepth 100000 in
set_option maxHeartbeats 1000000 in
theorem within_stops (F : Fence) (hd : F.depth = none) (n : Nat) (h88 : F.fn 88) (h89 : F.fn 89) (hro : F.round = none) (w w0 : World) (B Bt : Nat) (t : T) (v : Value) (hr : Rep w t v) (hw : Below w.heap.size w w0) (hB : B ≤ w0.heap.size)
    (k nn : Int) (s : ByteArray) (ka va : Option Addr) (kl kc vl vc : Nat) (hv : v = .agg #[.int .i64 k, .int .i64 nn, .string s, .slice ka kl kc, .slice va vl vc])
    (g0 : w0.cell? ⟨Bt, 0, none⟩ = some (.int .i64 k)) (g1 : w0.cell? ⟨Bt, 1, none⟩ = some (.int .i64 nn)) (g2 : w0.cell? ⟨Bt, 2, none⟩ = some (.string s)) (g3 : w0.cell? ⟨Bt, 3, none⟩ = some (.slice ka kl kc)) (g4 : w0.cell? ⟨Bt, 4, none⟩ = some (.slice va vl vc))
    (hdp : deepT t ≤ 900000) (hcost : costT t ≤ 3000) :
    SeqStopsK F n Tryd.prog 88 #[.pointer (some ⟨Bt, 0, none⟩)] (encEl (w := w)) (Kp w.heap.size B) (fun ys => ys.map El.key = preT t 1) (fun pre => pre.map El.key <+: preT t 1) (countT t) w0 := fun l J Jx W hW hJ _ hY h0 => by
  have hdd : ∀ k : Nat, (F.depth.isSome = true → 1 ≤ k) := fun k h => by rw [hd] at h; cases h
  have hp := visit_in F hd h89 hro l w B (countT t) W.heap.size J Jx hJ (fun m pre x W1 hj hl => YieldAt.anyDepth hd m (hY pre x W1 hj hl)) _ t (n - 1) v 1 [] W (Nat.le_refl _) hr (hw.trans (hW.mono hw.size)) (Nat.le_trans hB hW.size) h0 (by simp) (by omega) hcost
  have f0 := (Same.of_below hW).cell g0
  have f1 := (Same.of_below hW).cell g1
  have f2 := (Same.of_below hW).cell g2
  have f3 := (Same.of_below hW).cell g3
  have f4 := (Same.of_below hW).cell g4
  subst hv
  clear g0 g1 g2 g3 g4
  refine callsIn_of_wp Tryd.func88 rfl h88 ?_ hro
  simp only [Tryd.ntmps88, List.size_toArray, List.length_cons, List.length_nil, Nat.reduceAdd, Nat.reduceSub, Array.replicate_succ, Array.replicate_zero, List.push_toArray, List.append_toArray, List.nil_append, List.cons_append]
  gi_wp2_with ((try refine ⟨hdd _, ?_⟩); gi_at_call 89; refine hp.mono ?_; clear hp; rintro e W1 (⟨rfl, hJ1⟩ | ⟨rfl, hx⟩))
  · obtain ⟨ys, hys, hJ1, _⟩ := hJ1
    go_end0
    exact ⟨⟨_, rfl⟩, .inl ⟨ys, hys, by simpa using hJ1⟩⟩
  · obtain ⟨ys, hys, hx⟩ := hx
    go_end0
    exact ⟨⟨_, rfl⟩, .inr ⟨ys, hys, by simpa using hx⟩⟩
end Go.Proofs.YtfbeeaibejggdaaDoor
