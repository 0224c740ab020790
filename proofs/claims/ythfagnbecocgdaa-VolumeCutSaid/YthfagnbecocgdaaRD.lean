/- The iterator over a ramp's gains. -/
import Derived.Test.YthfagnbecocgdaaRC
import Derived.Test.YthfagnbecocgdaaTA
import Derived.WalkKit
import Derived.OwnWalkIn
import Derived.TacticsInMore
import Derived.LoopNIn
import Derived.LoopIn
namespace Go.Proofs.Ythfagnbecocgdaa
open Go.RowKit Go.Shelf Go.Deep
attribute [local go_sem] Oper.semAt_some

theorem rowIs_kp {n0 Bd : Nat} {X Y : World} {b t n : Nat} {F : Nat → Value} (h : X.rowIs b t n F) (hk : KpB n0 Bd X Y) (hb : Bd ≤ b) : Y.rowIs b t n F := by
  obtain ⟨c, h1, h2, h3⟩ := h
  exact ⟨c, hk.2 b _ hb h1 rfl, h2, h3⟩
theorem OwnAny.below {β : Type} {B : Nat} {I : β → World → Prop} (h : OwnAny B I) {s : β} {X Y : World} (hs : I s X) (hb : Below X.heap.size X Y) : I s Y :=
  h s X Y none hs ⟨hb.os, hb.tape, hb.output, hb.size, fun k hk _ => hb.block k hk⟩ (fun r e => by cases e)
theorem OwnAny.set {β : Type} {B : Nat} {I : β → World → Prop} (h : OwnAny B I) {s : β} {X : World} (hs : I s X) (p : Addr) (v : Value) (hp : B ≤ p.block) : I s (X.setCell p v) :=
  h s X _ (some p.block) hs ⟨rfl, rfl, rfl, by simp, fun k _ hk => blk_setCell_other _ _ _ _ (fun e => hk (by rw [e]))⟩ (fun r e => by cases e; exact hp)

def rampF (f t n a : Int) : Nat → Value
  | 0 => .int .i64 f
  | 1 => .int .i64 t
  | 2 => .int .i64 n
  | _ => .int .i64 a
theorem RampAt.row {N : Nat} {f t n a : Int} {w : World} (h : w.rowIs N 77 4 (rampF f t n a)) : RampAt N 0 f t n a w :=
  ⟨h.cell (i := 0) (by decide), h.cell (i := 1) (by decide), h.cell (i := 2) (by decide), h.cell (i := 3) (by decide)⟩
theorem ramp_row_set {N : Nat} {f t n a b : Int} {w : World} (h : w.rowIs N 77 4 (rampF f t n a)) : (w.setCell ⟨N, 0 + 3, none⟩ (.int .i64 b)).rowIs N 77 4 (rampF f t n b) :=
  (h.set 3 _).congr fun j hj => by
    have : j = 0 ∨ j = 1 ∨ j = 2 ∨ j = 3 := by omega
    rcases this with rfl | rfl | rfl | rfl <;> simp [rampF]

/-- What the iterator yields at place i. -/
def gainVals (G : Nat → Int) (i : Nat) : Array Value := #[.int .i64 i, .int .i64 (G i)]
/-- The gain of a ramp that stands at a, i frames later. -/
def rampG (f t n a : Int) (i : Nat) : Int := grownI f t n (min (a + i) n)
theorem rampOk_at {f t n a : Int} (h : RampOk f t n a) (i : Nat) : RampOk f t n (min (a + i) n) := ⟨h.hf, h.ht, h.hn, by have := h.ha; omega⟩

theorem gainsOf_any (f t n a : Int) (k : Int) (w : World) : Calls Try.prog 57 #[rampV f t n a, .int .i64 k] w fun e w' =>
    e = .returned (.func (.func 108) #[] #[at0 w.heap.size, at0 (w.heap.size + 1)]) ∧ w' = (w.alloc (.cells #[.int .i64 f, .int .i64 t, .int .i64 n, .int .i64 a] 77)).alloc (.cells #[.int .i64 k] 3) := by
  have hmf := makes
  unfold rampV
  go_enter Try.func57, Try.ntmps57
  go_wp2_with fail
  go_ret
  exact ⟨rfl, rfl⟩

set_option maxHeartbeats 4000000 in
set_option maxRecDepth 100000 in
theorem gains_mine (n : Nat) (hn : 6 ≤ n) {f t m a : Int} (hr : RampOk f t m a) (R Kb k : Nat) (hk : k ≤ 4096) (n0 Bd : Nat) (w : World) (hBd : Bd ≤ w.heap.size)
    (hR : RampAt R 0 f t m a w) (hK : w.cell? ⟨Kb, 0, none⟩ = some (.int .i64 k)) :
    SeqMine Fence.wide n Try.prog 108 #[at0 R, at0 Kb] (fun x : { i : Nat // i < k } => gainVals (rampG f t m a) x.1) (KpB n0 Bd) (fun ys => ys.map Subtype.val = List.range k) 5000 w := by
  intro l J W hW hJ hY h0
  have HY := Lib.hid hY
  have HJ := Lib.hid hJ
  have HR := Lib.hid hr
  have hs := Same.of_below hW
  have hsz := hW.size
  have hkc : ∀ Z, (W.alloc Z).cell? ⟨Kb, 0, none⟩ = some (.int .i64 k) := fun Z => (Same.alloc _ Z).cell (hs.cell hK)
  obtain ⟨r0, r1, r2, r3⟩ := hR.mono hs
  have HNW : Hid (∀ (j : Nat) (x : World), Calls Try.prog 70 #[rampV f t m (min (a + j) m)] x fun e w' => e = .returned (.int .i64 (rampG f t m a j)) ∧ Below x.heap.size x w') := Lib.hid fun j x => now_any (rampOk_at hr j) x
  have HGO : Hid (∀ (j : Nat) (x : World), x.rowIs W.heap.size 77 4 (rampF f t m (min (a + j) m)) → Calls Try.prog 58 #[.pointer (some ⟨W.heap.size, 0, none⟩), .int .i64 1] x fun e w' => e = .returned (.tuple #[]) ∧
      ∃ X, Below x.heap.size x X ∧ w' = X.setCell ⟨W.heap.size, 0 + 3, none⟩ (.int .i64 (min (a + (j + 1 : Nat)) m))) := Lib.hid fun j x hx => by
    have h1 := goOn_any (rampOk_at hr j) W.heap.size 0 1 (by decide) x (RampAt.row hx) (hx.frozen 3)
    have e : min (a + (j : Int)) m + min 1 (m - min (a + (j : Int)) m) = min (a + (j + 1 : Nat)) m := by omega
    rwa [e] at h1
  have hst : (W.alloc (.cells #[.int .i64 f, .int .i64 t, .int .i64 m, .int .i64 a] 77)).rowIs W.heap.size 77 4 (rampF f t m (min (a + (0 : Nat)) m)) := by
    have e : min (a + (0 : Nat)) m = a := by have := hr.ha; omega
    rw [e]
    refine World.rowIs_alloc W #[.int .i64 f, .int .i64 t, .int .i64 m, .int .i64 a] 77 _ fun i hi => ?_
    have : i = 0 ∨ i = 1 ∨ i = 2 ∨ i = 3 := by simp at hi; omega
    rcases this with rfl | rfl | rfl | rfl <;> rfl
  have HST := Lib.hid hst
  clear hY hJ hr hW hK hR hs hst
  simp only [Nat.zero_add] at r0 r1 r2 r3
  refine callsIn_of_wp Try.func108 rfl trivial ?_ rfl
  simp only [Try.ntmps108, List.size_toArray, List.length_cons, List.length_nil, Nat.reduceAdd, Nat.reduceSub, Array.replicate_succ, Array.replicate_zero, List.push_toArray, List.append_toArray, List.nil_append, List.cons_append]
  gi_wp2
  have hJ1 := HJ.out.alloc (.cells #[.int .i64 f, .int .i64 t, .int .i64 m, .int .i64 a] 77) h0
  have hrow := HST.out
  clear HST hkc r0 r1 r2 r3 h0
  have hs1 : W.heap.size ≤ (W.alloc (.cells #[.int .i64 f, .int .i64 t, .int .i64 m, .int .i64 a] 77)).heap.size := by simp
  generalize W.alloc (.cells #[.int .i64 f, .int .i64 t, .int .i64 m, .int .i64 a] 77) = W1 at *
  gi_loopw [8] (fun i wr => ∃ j : Nat, j ≤ k ∧ i = .int .i64 j ∧ wr.rowIs W.heap.size 77 4 (rampF f t m (min (a + j) m)) ∧ W.heap.size ≤ wr.heap.size ∧ ∃ q : List { i : Nat // i < k }, q.map Subtype.val = List.range j ∧ J q wr) (fun i _ => k - (intOf i).toNat)
  case atStart => exact ⟨0, Nat.zero_le _, rfl, hrow, hs1, [], rfl, hJ1⟩
  case round =>
    clear hrow hJ1 hs1
    obtain ⟨j, hj, rfl, hrow, hsw, q, hq, hJq⟩ := hrel
    by_cases hlt : j < k
    · have w4 : (j : Int) < (k : Int) := by omega
      obtain ⟨c0, c1, c2, c3⟩ := RampAt.row hrow
      simp only [Nat.zero_add] at c0 c1 c2 c3
      have hnow := HNW.out j wr
      unfold rampV at hnow
      have hql : q.length = j := by have := congrArg List.length hq; simpa using this
      have HROW := Lib.hid hrow
      have HQ := Lib.hid hq
      have HJQ := Lib.hid hJq
      clear hrow hq hJq
      gi_wp2
      refine ⟨trivial, fun _ => by omega, (callsIn_wide.2 hnow).mono ?_⟩
      rintro e w1 ⟨rfl, hb1⟩
      have hJ1 := HJ.out.below HJQ.out hb1
      have HROW1 := Lib.hid (HROW.out.of_block (hb1.block _ HROW.out.lt))
      have hsw1 := Nat.le_trans hsw hb1.size
      obtain ⟨fn, tmps, assign, body, hy, hRR⟩ := HY.out q ⟨j, hlt⟩ w1 hJ1 (by omega)
      unfold gainVals at hy
      dsimp only at hy
      clear hJ1 hb1 c0 c1 c2 c3 hnow
      gi_wp2
      refine ⟨fun _ => by omega, hRR.mono ?_⟩
      rintro e W3 ⟨rfl, hJ3, hk3, _⟩
      have hrow3 := rowIs_kp HROW1.out hk3 (show Bd ≤ W.heap.size by omega)
      have hgo := HGO.out j W3 hrow3
      have HROW3 := Lib.hid hrow3
      have hsw3 := Nat.le_trans hsw1 hk3.1.size
      clear hrow3 hk3 hRR hy
      gi_wp2
      refine ⟨trivial, fun _ => by omega, (callsIn_wide.2 hgo).mono ?_⟩
      rintro e w4 ⟨rfl, X, hX, rfl⟩
      have hJ4 := HJ.out.set (HJ.out.below hJ3 hX) ⟨W.heap.size, 0 + 3, none⟩ (.int .i64 (min (a + (j + 1 : Nat)) m)) (Nat.le_refl _)
      have hrow4 := ramp_row_set (b := min (a + (j + 1 : Nat)) m) (HROW3.out.of_block (hX.block _ HROW3.out.lt))
      have HF := Lib.hid (And.intro hJ4 hrow4)
      have hsw4 := Nat.le_trans hsw3 hX.size
      clear hJ4 hrow4 hgo hJ3 hX
      gi_wp2
      go_roundw
      case rel => exact ⟨j + 1, by omega, by go_num, HF.out.2, by simpa using hsw4, q ++ [⟨j, hlt⟩], by simp [HQ.out, List.range_succ], HF.out.1⟩
      case measure => simp [intOf]; omega
    · obtain rfl : j = k := by omega
      have w4 : ¬ (j : Int) < (j : Int) := by omega
      gi_wp2
      go_end0
      exact ⟨⟨_, rfl⟩, q, hq, hJq⟩
end Go.Proofs.Ythfagnbecocgdaa
