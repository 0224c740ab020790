/- The iterator over spots: frame by frame, in each over the channels. -/
import Derived.RangeFuncNested
import Derived.RangeFuncBound
import Derived.RangeFuncCalls
import Derived.RangeFuncLeaves
import Derived.Shelf.Abstract
import Derived.Shelf.RegionOpen
import Derived.WalkKit
import Derived.OwnWalkIn
import Derived.TacticsInMore
import Derived.LoopNIn
import Derived.LoopIn
import Derived.Test.YtegomicpolnpoaaTB
namespace Go.Proofs.Ytegomicpolnpoaa
open Go.RowKit Go.Shelf
attribute [local go_sem] Oper.semAt_some

/-- The spots of the first k channels of a frame; of the first n frames. A spot: its channel, its frame. -/
def rowS (f k : Nat) : List (Nat × Nat) := (List.range k).map fun c => (c, f)
def spTo (r n : Nat) : List (Nat × Nat) := (List.range n).flatMap fun f => rowS f r
theorem rowS_succ (f k : Nat) : rowS f (k + 1) = rowS f k ++ [(k, f)] := by simp [rowS, List.range_succ]
theorem spTo_succ (r n : Nat) : spTo r (n + 1) = spTo r n ++ rowS n r := by simp [spTo, List.range_succ]
theorem rowS_len (f k : Nat) : (rowS f k).length = k := by simp [rowS]
theorem spTo_len (r : Nat) : ∀ n, (spTo r n).length = r * n
  | 0 => by simp [spTo]
  | n + 1 => by rw [spTo_succ, List.length_append, spTo_len r n, rowS_len, Nat.mul_succ]
def spotVals (x : Nat × Nat) : Array Value := #[.agg #[.int .i64 x.1, .int .i64 x.2]]
theorem mul_le8 {r T n : Nat} (hr : r ≤ 8) (hn : n ≤ T) (hT : T ≤ 4096) : r * n ≤ 32768 := by
  calc r * n ≤ 8 * n := Nat.mul_le_mul_right _ hr
    _ ≤ 8 * 4096 := Nat.mul_le_mul_left _ (by omega)

set_option maxRecDepth 100000 in
set_option maxHeartbeats 2000000 in
theorem spots1_in (F : Fence) (n : Nat) (h116 : F.fn 116) (hro : F.round = none) (hn : 1 ≤ n) (l Bg r T : Nat) (hr8 : r ≤ 8) (hT : T ≤ 4096) (Kp : World → World → Prop) (hKc : ∀ X Y i v, Kp X Y → X.cell? ⟨Bg, i, none⟩ = some v → Y.cell? ⟨Bg, i, none⟩ = some v)
    (J Jx : List (Nat × Nat) → World → Prop)
    (hY : ∀ pre x W, J pre W → pre.length < 40000 → x.1 < r → x.2 < T → YieldAt F (n - 1) Try.prog l (spotVals x) W fun e W' =>
      (e = .returned (.bool true) ∧ J (pre ++ [x]) W' ∧ Kp W W') ∨ (e = .returned (.bool false) ∧ Jx (pre ++ [x]) W'))
    (W : World) (k0 : W.cell? ⟨Bg, 0, none⟩ = some (.int .i64 r)) (k1 : W.cell? ⟨Bg, 1, none⟩ = some (.int .i64 T)) (h0 : J [] W) :
    CallsIn F n Try.prog 116 #[.func (.yield l) #[] #[], .pointer (some ⟨Bg, 0, none⟩)] W fun e W' => (∃ v, e = .returned v) ∧
      ((∃ ys, ys = spTo r T ∧ J ys W') ∨ (∃ pre : List (Nat × Nat), True ∧ Jx pre W')) := by
  have HY := Lib.hid hY
  have HK := Lib.hid hKc
  clear hY hKc
  refine callsIn_of_wp Try.func116 rfl h116 ?_ hro
  simp only [Try.ntmps116, List.size_toArray, List.length_cons, List.length_nil, Nat.reduceAdd, Nat.reduceSub, Array.replicate_succ, Array.replicate_zero, List.push_toArray, List.append_toArray, List.nil_append, List.cons_append]
  gi_wp2
  have hk01 : W.cell? ⟨Bg, 0, none⟩ = some (.int .i64 r) ∧ W.cell? ⟨Bg, 1, none⟩ = some (.int .i64 T) := ⟨k0, k1⟩
  clear k0 k1
  gi_loopw [7] (fun i wr => ∃ f : Nat, f ≤ T ∧ i = .int .i64 f ∧ J (spTo r f) wr ∧ (wr.cell? ⟨Bg, 0, none⟩ = some (.int .i64 r) ∧ wr.cell? ⟨Bg, 1, none⟩ = some (.int .i64 T))) (fun i _ => T - (intOf i).toNat)
  case atStart => exact ⟨0, Nat.zero_le _, rfl, by simpa [spTo] using h0, hk01⟩
  case round =>
    clear hk01
    obtain ⟨f, hf, rfl, hJs, hnx⟩ := hrel
    by_cases hlt : f < T
    · obtain ⟨k0, k1⟩ := id hnx
      have HNX := Lib.hid hnx
      clear hnx
      have w4 : (f : Int) < (T : Int) := by omega
      have hlen0 := mul_le8 (n := f) hr8 hf hT
      gi_wp2
      clear k0 k1
      obtain ⟨wo, rfl⟩ : ∃ wo : World, wo = wr := ⟨_, rfl⟩
      gi_loopw [12] (fun i wr => ∃ c : Nat, c ≤ r ∧ i = .int .i64 c ∧ J (spTo r f ++ rowS f c) wr ∧ (wr.cell? ⟨Bg, 0, none⟩ = some (.int .i64 r) ∧ wr.cell? ⟨Bg, 1, none⟩ = some (.int .i64 T))) (fun i _ => r - (intOf i).toNat)
      case atStart => exact ⟨0, Nat.zero_le _, rfl, by simpa [rowS] using hJs, HNX.out⟩
      case round =>
        clear hJs HNX
        obtain ⟨c, hc, rfl, hJs, hnx⟩ := hrel
        have HNX := Lib.hid hnx
        clear hnx
        by_cases hlt2 : c < r
        · have w5 : (c : Int) < (r : Int) := by omega
          have hlen : (spTo r f ++ rowS f c).length < 40000 := by rw [List.length_append, spTo_len, rowS_len]; omega
          obtain ⟨fn, tmps, assign, body, hy, hR⟩ := HY.out _ (c, f) wr hJs hlen hlt2 hlt
          unfold spotVals at hy
          dsimp only at hy
          clear hlen
          gi_wp2
          refine hR.mono ?_
          rintro e W3 (⟨rfl, hJ3, hk3⟩ | ⟨rfl, hJx3⟩)
          · gi_wp2
            go_roundw
            case rel => exact ⟨c + 1, by omega, by go_num, by rw [rowS_succ, ← List.append_assoc]; exact hJ3, HK.out _ _ _ _ hk3 HNX.out.1, HK.out _ _ _ _ hk3 HNX.out.2⟩
            case measure => simp [intOf]; omega
          · gi_wp2
            refine bodyPost_ret (results_none rfl _ _ _) rfl ?_
            exact ⟨⟨_, rfl⟩, .inr ⟨_, trivial, hJx3⟩⟩
        · obtain rfl : c = r := by omega
          gi_wp2
          go_roundw
          case rel => exact ⟨f + 1, by omega, by go_num, by rw [spTo_succ]; exact hJs, HNX.out⟩
          case measure => simp [intOf]; omega
    · obtain rfl : f = T := by omega
      gi_wp2
      go_end0
      exact ⟨⟨_, rfl⟩, .inl ⟨_, rfl, hJs⟩⟩

abbrev GoodSpot (r T : Nat) := { x : Nat × Nat // x.1 < r ∧ x.2 < T }
theorem spots_stops (F : Fence) (n : Nat) (h116 : F.fn 116) (hro : F.round = none) (hn : 1 ≤ n) (Bg r T : Nat) (hr8 : r ≤ 8) (hT : T ≤ 4096) (Kp : World → World → Prop) (hKc : ∀ X Y i v, Kp X Y → X.cell? ⟨Bg, i, none⟩ = some v → Y.cell? ⟨Bg, i, none⟩ = some v)
    (W : World) (hBg : Bg < W.heap.size) (k0 : W.cell? ⟨Bg, 0, none⟩ = some (.int .i64 r)) (k1 : W.cell? ⟨Bg, 1, none⟩ = some (.int .i64 T)) :
    SeqStopsK F n Try.prog 116 #[.pointer (some ⟨Bg, 0, none⟩)] (fun x : GoodSpot r T => spotVals x.1) Kp (fun ys => ys.map Subtype.val = spTo r T) (fun _ => True) 40000 W := by
  intro l J Jx W1 hW1 _ _ hY h0
  refine (spots1_in F n h116 hro hn l Bg r T hr8 hT Kp hKc (fun pre X => ∃ q : List (GoodSpot r T), q.map Subtype.val = pre ∧ J q X) (fun pre X => ∃ q : List (GoodSpot r T), q.map Subtype.val = pre ∧ Jx q X) ?_ W1
    ((hW1.cell (p := ⟨Bg, 0, none⟩) hBg).trans k0) ((hW1.cell (p := ⟨Bg, 1, none⟩) hBg).trans k1) ⟨[], rfl, h0⟩).mono ?_
  · rintro pre x X ⟨q, rfl, hq⟩ hlen hx1 hx2
    refine (hY q ⟨x, hx1, hx2⟩ X hq (by simpa using hlen)).mono ?_
    rintro e X' (⟨he, hj, hk⟩ | ⟨he, hj⟩)
    · exact .inl ⟨he, ⟨_, by simp, hj⟩, hk⟩
    · exact .inr ⟨he, ⟨_, by simp, hj⟩⟩
  · rintro e X' ⟨hv, ⟨ys, hys, q, hq, hj⟩ | ⟨pre, _, q, hq, hj⟩⟩
    · exact ⟨hv, .inl ⟨q, hq.trans hys, hj⟩⟩
    · exact ⟨hv, .inr ⟨q, trivial, hj⟩⟩

/-- What a round keeps: what lies below n0, and whatever cells lie from block Bd on. -/
def KpB (n0 Bd : Nat) (X Y : World) : Prop := Below n0 X Y ∧ ∀ k o, Bd ≤ k → X.heap[k]? = some o → o.isCells = true → Y.heap[k]? = some o
theorem KpB.trans {n0 Bd : Nat} {X Y Z : World} (h : KpB n0 Bd X Y) (k : KpB n0 Bd Y Z) : KpB n0 Bd X Z := ⟨h.1.trans k.1, fun b o hb ho hc => k.2 b o hb (h.2 b o hb ho hc) hc⟩
theorem KpB.refl (n0 Bd : Nat) (X : World) : KpB n0 Bd X X := ⟨Below.refl _ _, fun _ _ _ h _ => h⟩
theorem KpB.put {n0 Bd B : Nat} (hn : n0 ≤ B) (W : World) (l : Nat) (o o' : Obj) (hl : B ≤ l) (h : W.heap[l]? = some o) (hc : o.isCells = false) : KpB n0 Bd W (W.putObj l o') := by
  have hlt := (Array.getElem?_eq_some_iff.1 h).1
  refine ⟨(Below.refl n0 W).grown (grownBy_putObj' W l o') (by omega) (fun k e => by cases e; omega), fun k ok hk hok hcells => ?_⟩
  by_cases e : k = l
  · subst e; rw [h] at hok; cases hok; rw [hc] at hcells; cases hcells
  · exact (World.putObj_heap_other e).trans hok
theorem KpB.alloc {n0 Bd : Nat} (W : World) (o : Obj) (hn : n0 ≤ W.heap.size) : KpB n0 Bd W (W.alloc o) :=
  ⟨(Below.refl _ W).alloc hn _, fun k ok hk hok _ => (Below.heap_alloc W o k (Array.getElem?_eq_some_iff.1 hok).1).trans hok⟩
theorem KpB.cell {n0 Bd B : Nat} (hB : Bd ≤ B) {X Y : World} {i : Nat} {v : Value} (h : KpB n0 Bd X Y) (hc : X.cell? ⟨B, i, none⟩ = some v) : Y.cell? ⟨B, i, none⟩ = some v := by
  have hlt := cell_lt hc
  simp only at hlt
  have hX : X.heap[B]? = some X.heap[B] := Array.getElem?_eq_getElem hlt
  have hcells : X.heap[B].isCells = true := by
    unfold World.cell? at hc
    rw [hX] at hc
    cases ho : X.heap[B] <;> rw [ho] at hc <;> simp [Obj.isCells] at hc ⊢
  rw [World.cell?_of_block (w := X) ((h.2 B _ hB hX hcells).trans hX.symm)]
  exact hc
end Go.Proofs.Ytegomicpolnpoaa
