/- New: copies of elements of many cells; Repeat. -/
import Derived.Test.YthfagnbecocgdaaSJ
import Derived.Test.YthfagnbecocgdaaVC
import Derived.Laws.CopyOwn
namespace Go.Proofs.Ythfagnbecocgdaa
open Go.RowKit Go.Shelf Go.Deep

theorem run_copy_many {P : Program} (w : World) (dT sT ty elem : TypeId) (g o dLen dCap : Nat) (a : Addr) (sLen sCap : Nat) (cur : Array Value) (t : TypeId) (cs : List Value) (m size : Nat)
    (hu : P.underlying dT = some (.slice elem)) (hs : (P.info? elem).map (·.size) = some size)
    (hg : w.heap[g]? = some (.cells cur t (0, 0))) (hm : m = Nat.min sLen dLen) (hn : cs.length = m * size)
    (hsrc : ∀ j v, cs[j]? = some v → w.cell? (a.add j) = some v) (hfit : o + cs.length ≤ cur.size) (h1 : ∀ v ∈ cs, v.oneCell' = true) :
    (Builtin.copy_ #[dT, sT] ty #[.slice (some ⟨g, o, none⟩) dLen dCap, .slice (some a) sLen sCap]).run P w =
      .ok (goInt m) (w.setRow g (cur.toList.take o ++ cs ++ cur.toList.drop (o + cs.length)).toArray) := by
  have hl := run_loadCells_list (P := P) w a cs hsrc
  have hst := run_storeCells_at P g o t cs 0 cur w hg (by simpa using hfit) h1
  rw [hn] at hl hst
  cases hq : P.info? elem with
  | none => simp [hq] at hs
  | some i =>
    have hi : i.size = size := by simpa [hq] using hs
    simp [Builtin.copy_, run_underlying hu, Builtin.lenOf, Builtin.firstCells, sizeOf, typeInfo, hq, hi, ← hm, hl, hst, hn]

/-- The one volume that all channels begin with. -/
def one1 : Ch := ⟨0, 65536, 0, 0, 65536, false⟩
def oneF (Z : Nat → Value) (k : Nat) : Nat → Value := fun i => if i < k * 6 then one1.val (i % 6) else Z i
def oneL (m : Nat) : List Value := (List.range (m * 6)).map fun i => one1.val (i % 6)
theorem oneL_len (m : Nat) : (oneL m).length = m * 6 := by simp [oneL]
theorem oneL_at {m i : Nat} (h : i < m * 6) : (oneL m)[i]? = some (one1.val (i % 6)) := by simp [oneL, h]
theorem oneL_one (m : Nat) : ∀ v ∈ oneL m, v.oneCell' = true := fun v hv => by
  unfold oneL at hv
  obtain ⟨i, _, rfl⟩ := List.mem_map.1 hv
  exact val_one _ _
theorem one_row {w : World} {g N k m : Nat} {Z : Nat → Value} (h : w.rowIs g 80 N (oneF Z k)) (hN : k * 6 + m * 6 ≤ N) (cur : Array Value) (hc : w.heap[g]? = some (.cells cur 80 (0, 0))) :
    (w.setRow g (cur.toList.take (k * 6) ++ oneL m ++ cur.toList.drop (k * 6 + (oneL m).length)).toArray).rowIs g 80 N (oneF Z (k + m)) := by
  obtain ⟨c, hb, hcs, hat⟩ := h
  rw [hc] at hb
  cases hb
  rw [oneL_len]
  have hl1 : (cur.toList.take (k * 6)).length = k * 6 := by simp; omega
  refine ⟨_, setRow_heap w g _ _ 80 _ hc, by simp [oneL_len]; omega, fun i hi => ?_⟩
  rw [List.getElem?_toArray, List.append_assoc]
  unfold oneF
  by_cases h1 : i < k * 6
  · rw [if_pos (by omega), List.getElem?_append_left (by omega), List.getElem?_take_of_lt h1]
    have := hat i hi
    unfold oneF at this
    rw [if_pos h1] at this
    simpa using this
  · rw [List.getElem?_append_right (by omega), hl1]
    by_cases h2 : i < k * 6 + m * 6
    · rw [if_pos (by omega), List.getElem?_append_left (by rw [oneL_len]; omega), oneL_at (by omega)]
      rw [show (i - k * 6) % 6 = i % 6 by omega]
    · rw [if_neg (by omega), List.getElem?_append_right (by rw [oneL_len]; omega), oneL_len, List.getElem?_drop]
      rw [show k * 6 + m * 6 + (i - k * 6 - m * 6) = i by omega]
      have := hat i hi
      unfold oneF at this
      rw [if_neg (by omega)] at this
      simpa using this

theorem mul_runs : ((List.range 9).all fun n => match Go.Ev.callAt Try.prog (fun _ => []) noHooks 20000 105 [.int .u64 1, .int .u64 n] [] with | some (.tuple [.int .u64 0, .int .u64 m], _) => m == n | _ => false) = true := by kernel_rfl
open Go.Ev in
theorem mul_any (n : Nat) (hn : n ≤ 8) (w : World) : Calls Try.prog 105 #[.int .u64 1, .int .u64 n] w fun e w' => e = .returned (.tuple #[.int .u64 0, .int .u64 n]) ∧ Below w.heap.size w w' := by
  have h := mul_runs
  rw [List.all_eq_true] at h
  have h1 := h n (List.mem_range.2 (by omega))
  obtain ⟨H', hr⟩ : ∃ H', callAt Try.prog (fun _ => []) noHooks 20000 105 [.int .u64 1, .int .u64 n] [] = some (.tuple [.int .u64 0, .int .u64 n], H') := by
    split at h1
    · rename_i m H e
      exact ⟨H, by rw [e, show m = (n : Int) by simpa using h1]⟩
    · cases h1
  refine (call_run (ν := fun _ => .bool true) (noHooks_ok _ _ w) (fun g hg => absurd rfl hg) (vs := #[.int .u64 1, .int .u64 n]) (by simp [dens, den]) hr).mono fun e w' ⟨E', u, he, hu, hW⟩ => ?_
  simp [den, dens] at hu
  subst hu
  exact ⟨he, hW.below⟩
end Go.Proofs.Ythfagnbecocgdaa
