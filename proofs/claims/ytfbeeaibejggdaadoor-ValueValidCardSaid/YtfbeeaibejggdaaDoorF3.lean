import Derived.Test.YtfbeeaibejggdaaDoorF2
import Derived.Lib.AppendStr
namespace Go.Proofs.YtfbeeaibejggdaaDoor
open Go.RowKit

/-- A string's bytes as numbers. -/
def byt (s : ByteArray) : List Int := s.data.toList.map fun b => (b.toNat : Int)
theorem byt_len (s : ByteArray) : (byt s).length = s.size := by
  unfold byt; rw [List.length_map, Array.length_toList]; rfl
theorem byt_cells (s : ByteArray) : Go.Lib.strCells s = (byt s).map (Value.int .u8) := by simp [Go.Lib.strCells, byt]
theorem byt_app (a b : ByteArray) : byt (a ++ b) = byt a ++ byt b := by
  unfold byt; rw [ByteArray.data_append, Array.toList_append, List.map_append]

/-- Appending a string's bytes, at a step of a region that draws its order. -/
theorem step_append_str {P : Program} (w : World) {ops : Array Oper} {o : Oper} {a : Act} {K : Act → World → Prop} {Q : Exit → Act → World → Prop} {E : Prop} (hgd : o.guard = none) (sl x : Operand) (t u : TypeId)
    (ho : o.op = .call { callee := .builtin .append, args := #[sl, x], argTypes := #[t, u] })
    (base : Nat) (e : TypeId) (i : TypeInfo) (ht : P.underlying t = some (.slice e)) (hu : P.underlying u = some .string) (hi : P.info? e = some i) (hz : i.zero = some (.int .u8 0))
    (hsize : i.size = 1) (hby : i.bytes = 1)
    (v : Value) (n : Nat) (xs : List Value) (hs : a.eval sl = v) (hown : w.ownsRow base e 1 v n xs) (s : ByteArray) (hx : a.eval x = .string s)
    (h63 : n + s.size ≤ maxLen) (hbytes : n + s.size ≤ 140737488355328) (hbase : base ≤ w.heap.size)
    (h : ∀ v' w', w'.ownsRow base e 1 v' (n + s.size) (xs ++ Go.Lib.strCells s) → w.grownBy w' v.ownBlock → K (a.put o.dst v') w') :
    if Region.wanted o (yielded ops a.tmps) = true then Oper.wp P o a w K Q else E := by
  have hw : Region.wanted o (yielded ops a.tmps) = true := by simp [Region.wanted, hgd]
  rw [if_pos hw]
  obtain ⟨v', w', hr, h2, h3, _⟩ := Go.Lib.run_append_own_string (P := P) w base t u o.type e i ht hu hi hz hsize hby v n xs hown s h63 hbytes hbase
  unfold Oper.wp execOp
  simp only [ho, resolve, invoke, builtin, Sem.run_bind, Sem.run_pure, Result.andThen_ok, List.map_toArray, List.map_cons, List.map_nil, hs, hx, hr]
  exact h v' w' h2 h3

theorem wr_grown2 {W w1 : World} {bw bb B L n : Nat} {v v' : Value} {o : Obj} {xs ys : List Int} (hbw : bw < B) (hh : W.heap[bw]? = some (.cells #[v, .slice (some ⟨bb, 0, none⟩) 11 11] 54 (0, 0)))
    (hown : W.ownsRow B 5 1 v L (xs.map (Value.int .u8))) (hgrow : (W.alloc o).drew.grownBy w1 v.ownBlock) (hB : B ≤ W.heap.size) (hn : ys.length = n)
    (hown1 : w1.ownsRow B 5 1 v' n (ys.map (Value.int .u8))) :
    Wr (w1.setCell ⟨bw, 0, none⟩ v') bw bb B ys := by
  have h1 : w1.heap[bw]? = some (.cells #[v, .slice (some ⟨bb, 0, none⟩) 11 11] 54 (0, 0)) := by
    rw [hgrow.block bw (by rw [heap_drew]; simp; omega) (Ne.symm (own_not hown hbw)), heap_drew, heap_alloc_old _ (by omega), hh]
  refine ⟨hbw, v', ?_, ?_⟩
  · rw [heap_setCell_same _ _ _ _ _ _ h1]; rfl
  · rw [hn]; exact ownsRow_setCell_below hown1 hbw _

theorem own_form {w : World} {B e sz n : Nat} {v : Value} {xs : List Value} (h : w.ownsRow B e sz v n xs) : ∃ a k c, v = .slice a k c := by
  rcases h.2 with ⟨h1, _⟩ | ⟨g, cap, cur, hv, _⟩
  · exact ⟨_, _, _, h1⟩
  · exact ⟨_, _, _, hv⟩

theorem Tryd.res54 : Tryd.f54.results = #[] := by kernel_rfl

set_option maxRecDepth 100000 in
set_option maxHeartbeats 1600000 in
theorem text_any (kd n : Int) (s : ByteArray) (keys : List Int) (kids : List T) (v : Value) (bw bb B : Nat) (xs : List Int) (W : World) (hr : Rep W (.mk kd n s keys kids) v)
    (hW : Wr W bw bb B xs) (hx : xs.length ≤ 1000000) (hs : s.size ≤ 1000000) (hB : B ≤ W.heap.size) :
    Calls Tryd.prog 54 #[.pointer (some ⟨bw, 0, none⟩), v] W fun e W' => e = .returned (.tuple #[]) ∧ Wr W' bw bb B (xs ++ byt s) ∧ Fr B bw W W' := by
  obtain ⟨i0, hi, hz0, hz1, hz2⟩ := info_parts Tryd.info5
  unfold Rep at hr
  obtain ⟨ka, va, kc, vc, rfl, _⟩ := hr
  obtain ⟨hbw, v, hh, hown⟩ := id hW
  obtain ⟨L, hL⟩ : ∃ L, xs.length = L := ⟨_, rfl⟩
  rw [hL] at hown
  have hne := own_not hown hbw
  have ha : ∀ o, (W.alloc o).cell? ⟨bw, 0, none⟩ = some v ∧ (W.alloc o).frozen? ⟨bw, 0, none⟩ = false := by
    intro o
    have h1 := (heap_alloc_old (W := W) o (show bw < W.heap.size by omega)).trans hh
    exact ⟨(wr_cells h1).1, (wr_cells h1).2.2⟩
  have cA : ∀ o, (W.alloc o).cell? ⟨bw, 0, none⟩ = some v := fun o => (ha o).1
  have fA : ∀ o, (W.alloc o).frozen? ⟨bw, 0, none⟩ = false := fun o => (ha o).2
  have HW := Lib.hid hW
  clear hW ha
  go_enter Tryd.func54, Tryd.ntmps54
  go_wp2_with fail
  go_region_law (first
    | (refine step_append_str _ (by rfl) _ _ _ _ (by rfl) B 5 i0 Tryd.underlying52 Tryd.underlying9 hi hz0 hz1 hz2 v L _ (by rfl) ((hown.alloc _).drew) s (by rfl)
        (by unfold maxLen; omega) (by omega) (by simp; omega) ?_
       intro v2 w1 hown1 hgrow
       obtain ⟨oa, nn, cc, rfl⟩ := own_form hown1
       have c3 : w1.cell? ⟨bw, 0, none⟩ = some v := (hgrow.cell_far ⟨bw, 0, none⟩ (by simp; omega) (Ne.symm hne)).trans (cA _)
       have f3 : w1.frozen? ⟨bw, 0, none⟩ = false := (hgrow.frozen_far ⟨bw, 0, none⟩ (by simp; omega) (Ne.symm hne)).trans (fA _)))
  all_goals go_wp2_with fail
  all_goals
    refine void_end Tryd.res54 rfl ⟨rfl, ?_, (Fr.refl B bw W).grow hown hgrow⟩
    refine wr_grown2 (n := L + s.size) hbw hh hown hgrow hB (by rw [List.length_append, byt_len, hL]) ?_
    rw [List.map_append, ← byt_cells]; exact hown1
end Go.Proofs.YtfbeeaibejggdaaDoor
