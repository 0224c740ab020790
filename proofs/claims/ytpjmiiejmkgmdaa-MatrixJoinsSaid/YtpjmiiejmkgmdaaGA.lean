/- The iterator over the weights that are not 0, row by row. -/
import Derived.RangeFuncNested
import Derived.RangeFuncBound
import Derived.RangeFuncCalls
import Derived.RangeFuncLeaves
import Derived.Shelf.Abstract
import Derived.Shelf.RegionOpen
import Derived.WalkKit
import Derived.OwnWalkIn
import Derived.TacticsInMore
import Derived.LoopNIn
import Derived.LoopIn
import Derived.Test.YtpjmiiejmkgmdaaEB
namespace Go.Proofs.Ytpjmiiejmkgmdaa
open Go.RowKit Go.Shelf
attribute [local go_sem] Oper.semAt_some

/-- A weight with its place. -/
abbrev Wt := (Nat × Nat) × Int
def nzRow (i : Nat) (r : List Int) (k : Nat) : List Wt := ((List.range k).map fun c => ((i, c), r.getD c 0)).filter fun x => x.2 != 0
def nzTo (m : List (List Int)) (i : Nat) : List Wt := (List.range i).flatMap fun j => nzRow j (m.getD j []) (m.getD j []).length
theorem nzRow_yes {i k : Nat} {r : List Int} (h : r.getD k 0 ≠ 0) : nzRow i r (k + 1) = nzRow i r k ++ [((i, k), r.getD k 0)] := by
  have h' : (r.getD k 0 != 0) = true := by simpa using h
  simp only [nzRow, List.range_succ, List.map_append, List.filter_append, List.map_cons, List.map_nil, List.filter_cons, h', if_true, List.filter_nil]
theorem nzRow_no {i k : Nat} {r : List Int} (h : r.getD k 0 = 0) : nzRow i r (k + 1) = nzRow i r k := by
  simp only [nzRow, List.range_succ, List.map_append, List.filter_append, List.map_cons, List.map_nil, List.filter_cons, h, bne_self_eq_false, Bool.false_eq_true, if_false, List.filter_nil, List.append_nil]
theorem nzTo_succ (m : List (List Int)) (i : Nat) : nzTo m (i + 1) = nzTo m i ++ nzRow i (m.getD i []) (m.getD i []).length := by
  simp [nzTo, List.range_succ]
theorem nzRow_len (i : Nat) (r : List Int) (k : Nat) : (nzRow i r k).length ≤ k := by
  unfold nzRow
  exact Nat.le_trans (List.length_filter_le _ _) (by simp)
theorem nzTo_len {m : List (List Int)} (h : ∀ j, (m.getD j []).length ≤ 8) : ∀ i, (nzTo m i).length ≤ 8 * i
  | 0 => by simp [nzTo]
  | i + 1 => by
    have := nzTo_len h i
    have h2 := nzRow_len i (m.getD i []) (m.getD i []).length
    have h3 := h i
    rw [nzTo_succ, List.length_append]; omega
def wtVals (x : Wt) : Array Value := #[.agg #[.int .i64 x.1.1, .int .i64 x.1.2], .int .i64 x.2]

set_option maxRecDepth 100000 in
set_option maxHeartbeats 2000000 in
theorem all1_in (F : Fence) (n : Nat) (h78 : F.fn 78) (hro : F.round = none) (hn : 1 ≤ n) (l Bm : Nat) (m : List (List Int)) (v : Value) (w : World) (hM : MatIn w m v) (hm8 : m.length ≤ 8) (hc8 : ∀ j, (m.getD j []).length ≤ 8)
    (Good : Wt → Prop) (hgood : ∀ j k, j < m.length → k < (m.getD j []).length → Good ((j, k), (m.getD j []).getD k 0)) (J Jx : List Wt → World → Prop)
    (hY : ∀ pre x W, J pre W → pre.length < 100 → Good x → YieldAt F (n - 1) Try.prog l (wtVals x) W fun e W' =>
      (e = .returned (.bool true) ∧ J (pre ++ [x]) W' ∧ Below w.heap.size W W') ∨ (e = .returned (.bool false) ∧ Jx (pre ++ [x]) W'))
    (W : World) (hbW : Below w.heap.size w W) (hB2 : W.cell? ⟨Bm, 2, none⟩ = some v) (h0 : J [] W) :
    CallsIn F n Try.prog 78 #[.func (.yield l) #[] #[], .pointer (some ⟨Bm, 0, none⟩)] W fun e W' => (∃ v, e = .returned v) ∧
      ((∃ ys, ys = nzTo m m.length ∧ J ys W') ∨ (∃ pre, True ∧ Jx pre W')) := by
  obtain ⟨a, ca, rfl, hin, hal, _⟩ := hM
  have HIN := Lib.hid hin
  have HY := Lib.hid hY
  have HC8 := Lib.hid hc8
  have HG := Lib.hid hgood
  clear hin hY hc8 hgood
  refine callsIn_of_wp Try.func78 rfl h78 ?_ hro
  simp only [Try.ntmps78, List.size_toArray, List.length_cons, List.length_nil, Nat.reduceAdd, Nat.reduceSub, Array.replicate_succ, Array.replicate_zero, List.push_toArray, List.append_toArray, List.nil_append, List.cons_append]
  gi_wp2
  clear hB2
  gi_loopw [10] (fun i wr => ∃ j : Nat, j ≤ m.length ∧ i = .int .i64 j ∧ J (nzTo m j) wr ∧ Below w.heap.size w wr) (fun i _ => m.length - (intOf i).toNat)
  case atStart => exact ⟨0, Nat.zero_le _, rfl, h0, hbW⟩
  case round =>
    obtain ⟨j, hj, rfl, hJs, hnx⟩ := hrel
    by_cases hlt : j < m.length
    · obtain ⟨ba, off, u, rfl, hcj, hu⟩ := (RowsIn.mono (Same.of_below hnx) HIN.out) j hlt
      have hpl := HC8.out j
      have hgd := fun k => HG.out j k hlt
      obtain ⟨p, hp⟩ : ∃ p, m.getD j [] = p := ⟨_, rfl⟩
      rw [hp] at hu hpl hgd
      obtain ⟨aj, cj, rfl, _, _, _⟩ := hu
      have hrow : ∀ wr', Below w.heap.size w wr' → IntsIn wr' aj p := fun wr' hb' => by
        obtain ⟨_, _, u', e1, hcj', hu'⟩ := (RowsIn.mono (Same.of_below hb') HIN.out) j hlt
        simp only [Option.some.injEq, Addr.mk.injEq, and_true] at e1
        obtain ⟨rfl, rfl⟩ := e1
        have hsame : u' = .slice aj p.length cj := by
          obtain ⟨_, _, u0, e0, hc0, _⟩ := HIN.out j hlt
          simp only [Option.some.injEq, Addr.mk.injEq, and_true] at e0
          obtain ⟨rfl, rfl⟩ := e0
          have k1 := (Same.of_below hb').cell hc0
          have k2 := (Same.of_below hnx).cell hc0
          rw [k1] at hcj'; rw [k2] at hcj
          exact (Option.some.inj hcj').symm.trans (Option.some.inj hcj)
        subst hsame
        rw [hp] at hu'
        obtain ⟨a2, c2, e2, h2, _, _⟩ := hu'
        simp only [Value.slice.injEq] at e2
        obtain ⟨rfl, _, _⟩ := e2
        exact h2
      have Hrow := Lib.hid hrow
      have Hp := Lib.hid hp
      have Hgd := Lib.hid hgd
      clear hrow hp hgd
      have w4 : (j : Int) < (m.length : Int) := by omega
      gi_wp2
      clear hcj
      obtain ⟨wo, rfl⟩ : ∃ wo : World, wo = wr := ⟨_, rfl⟩
      gi_loopw [17] (fun i wr => ∃ k : Nat, k ≤ p.length ∧ i = .int .i64 k ∧ J (nzTo m j ++ nzRow j p k) wr ∧ Below w.heap.size w wr) (fun i _ => p.length - (intOf i).toNat)
      case atStart => exact ⟨0, Nat.zero_le _, rfl, by simpa [nzRow] using hJs, hnx⟩
      case round =>
        clear hJs hnx
        obtain ⟨k, hk, rfl, hJs, hnx⟩ := hrel
        by_cases hlt2 : k < p.length
        · obtain ⟨bp, op, rfl, hcp, _⟩ := Hrow.out wr hnx k hlt2
          have w5 : (k : Int) < (p.length : Int) := by omega
          have hyes := nzRow_yes (i := j) (k := k) (r := p)
          have hno := nzRow_no (i := j) (k := k) (r := p)
          have hgk := Hgd.out k hlt2
          obtain ⟨x, hx⟩ : ∃ x, p.getD k 0 = x := ⟨_, rfl⟩
          rw [hx] at hcp hyes hno hgk
          by_cases g : x = 0
          · have e1 : (x != 0) = false := by simp [g]
            have HN := Lib.hid (hno g)
            clear hno hyes hx g hgk
            gi_wp2
            refine ⟨fun _ h => (by cases h), ?_⟩
            gi_wp2
            go_roundw
            case rel => exact ⟨k + 1, by omega, by go_num, by rw [HN.out]; exact hJs, hnx⟩
            case measure => simp [intOf]; omega
          · have e1 : (x != 0) = true := by simp [g]
            have HN := Lib.hid (hyes g)
            clear hno hyes hx g
            have hlen : (nzTo m j ++ nzRow j p k).length < 100 := by
              have h1 := nzTo_len HC8.out j
              have h2 := nzRow_len j p k
              rw [List.length_append]; omega
            obtain ⟨fn, tmps, assign, body, hy, hR⟩ := HY.out _ ((j, k), x) wr hJs hlen hgk
            unfold wtVals at hy
            dsimp only at hy
            clear hlen hgk
            gi_wp2
            refine hR.mono ?_
            rintro e W3 (⟨rfl, hJ3, hk3⟩ | ⟨rfl, hJx3⟩)
            · gi_wp2
              go_roundw
              case rel => exact ⟨k + 1, by omega, by go_num, by rw [HN.out, ← List.append_assoc]; exact hJ3, hnx.trans hk3⟩
              case measure => simp [intOf]; omega
            · gi_wp2
              refine bodyPost_ret (results_none rfl _ _ _) rfl ?_
              exact ⟨⟨_, rfl⟩, .inr ⟨_, trivial, hJx3⟩⟩
        · obtain rfl : k = p.length := by omega
          gi_wp2
          go_roundw
          case rel => exact ⟨j + 1, by omega, by go_num, by rw [nzTo_succ, Hp.out]; exact hJs, hnx⟩
          case measure => simp [intOf]; omega
    · obtain rfl : j = m.length := by omega
      gi_wp2
      go_end0
      exact ⟨⟨_, rfl⟩, .inl ⟨_, rfl, hJs⟩⟩

set_option maxHeartbeats 1000000 in
theorem all_in (F : Fence) (n : Nat) (h56 : F.fn 56) (hro : F.round = none) (r c : Int) (v : Value) (h1 : v.oneCell' = true) (w : World) :
    CallsIn F n Try.prog 56 #[.agg #[.int .i64 r, .int .i64 c, v]] w fun e w' => e = .returned (.func (.func 78) #[] #[.pointer (some ⟨w.heap.size, 0, none⟩)]) ∧ w' = w.alloc (.cells #[.int .i64 r, .int .i64 c, v] 79) := by
  refine callsIn_of_wp Try.func56 rfl h56 ?_ hro
  simp only [Try.ntmps56, List.size_toArray, List.length_cons, List.length_nil, Nat.reduceAdd, Nat.reduceSub, Array.replicate_succ, Array.replicate_zero, List.push_toArray, List.append_toArray, List.nil_append, List.cons_append]
  gi_wp2
  go_ret
  exact ⟨rfl, rfl⟩

/-- The weights of a matrix whose places are known. -/
abbrev GoodWt (P : Wt → Prop) := { x : Wt // P x }

theorem all_stops (F : Fence) (n : Nat) (h78 : F.fn 78) (hro : F.round = none) (hn : 1 ≤ n) (Bm : Nat) (m : List (List Int)) (v : Value) (w : World) (hM : MatIn w m v) (hm8 : m.length ≤ 8) (hc8 : ∀ j, (m.getD j []).length ≤ 8)
    (P : Wt → Prop) (hgood : ∀ j k, j < m.length → k < (m.getD j []).length → P ((j, k), (m.getD j []).getD k 0)) (W : World) (hbW : Below w.heap.size w W) (hBm : Bm < W.heap.size) (hB2 : W.cell? ⟨Bm, 2, none⟩ = some v) :
    SeqStopsK F n Try.prog 78 #[.pointer (some ⟨Bm, 0, none⟩)] (fun x : GoodWt P => wtVals x.1) (Below w.heap.size) (fun ys => ys.map Subtype.val = nzTo m m.length) (fun _ => True) 100 W := by
  intro l J Jx W1 hW1 _ _ hY h0
  refine (all1_in F n h78 hro hn l Bm m v w hM hm8 hc8 P hgood (fun pre X => ∃ q : List (GoodWt P), q.map Subtype.val = pre ∧ J q X) (fun pre X => ∃ q : List (GoodWt P), q.map Subtype.val = pre ∧ Jx q X) ?_ W1
    (hbW.trans (hW1.mono hbW.size)) ((hW1.cell (p := ⟨Bm, 2, none⟩) hBm).trans hB2) ⟨[], rfl, h0⟩).mono ?_
  · rintro pre x X ⟨q, rfl, hq⟩ hlen hx
    refine (hY q ⟨x, hx⟩ X hq (by simpa using hlen)).mono ?_
    rintro e X' (⟨he, hj, hk⟩ | ⟨he, hj⟩)
    · exact .inl ⟨he, ⟨_, by simp, hj⟩, hk⟩
    · exact .inr ⟨he, ⟨_, by simp, hj⟩⟩
  · rintro e X' ⟨hv, ⟨ys, hys, q, hq, hj⟩ | ⟨pre, _, q, hq, hj⟩⟩
    · exact ⟨hv, .inl ⟨q, hq.trans hys, hj⟩⟩
    · exact ⟨hv, .inr ⟨q, trivial, hj⟩⟩
end Go.Proofs.Ytpjmiiejmkgmdaa
