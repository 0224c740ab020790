/- Zeros as a grid that may be written. -/
import Derived.Test.YtegomicpolnpoaaEE
import Derived.Test.YtegomicpolnpoaaEC
import Derived.RangeFuncNested
namespace Go.Proofs.Ytegomicpolnpoaa
open Go.RowKit Go.Deep

def cellM (b : List (List Int)) (k f : Nat) : Int := (b.getD k []).getD f 0
/-- A grid of numbers that lies in new memory: the outer row in block N, the rows behind it. -/
structure Gr (N r c : Nat) (F : Nat → Nat → Int) (W : World) : Prop where
  top : W.rowIs N 34 r (topZ N c r)
  rows : ∀ j, j < r → W.rowIs (N + 1 + j) 3 c (fun i => .int .i64 (F j i))
theorem Gr.of_block {N r c : Nat} {F : Nat → Nat → Int} {W W' : World} (h : Gr N r c F W) (hb : ∀ k, N ≤ k → k ≤ N + r → W'.heap[k]? = W.heap[k]?) : Gr N r c F W' :=
  ⟨h.top.of_block (hb N (Nat.le_refl _) (by omega)), fun j hj => (h.rows j hj).of_block (hb _ (by omega) (by omega))⟩
theorem Gr.congr {N r c : Nat} {F G : Nat → Nat → Int} {W : World} (h : Gr N r c F W) (e : ∀ j i, j < r → i < c → F j i = G j i) : Gr N r c G W :=
  ⟨h.top, fun j hj => (h.rows j hj).congr fun i hi => by rw [e j i hj hi]⟩
theorem Gr.set {N r c : Nat} {F : Nat → Nat → Int} {W : World} (h : Gr N r c F W) {j : Nat} (hj : j < r) (i : Nat) (x : Int) :
    Gr N r c (fun a b => if a = j ∧ b = i then x else F a b) (W.setCell ⟨N + 1 + j, i, none⟩ (.int .i64 x)) := by
  refine ⟨h.top.setOther (by show N ≠ N + 1 + j; omega) _, fun q hq => ?_⟩
  by_cases e : q = j
  · subst e
    exact ((h.rows q hq).set i _).congr fun a _ => by by_cases ea : a = i <;> simp [ea]
  · exact ((h.rows q hq).setOther (by show N + 1 + q ≠ N + 1 + j; omega) _).congr fun a _ => by simp [e]
theorem Gr.other {N r c : Nat} {F : Nat → Nat → Int} {W : World} (h : Gr N r c F W) {p : Addr} (hp : p.block < N) (v : Value) : Gr N r c F (W.setCell p v) :=
  h.of_block fun k h1 _ => blk_setCell_other _ _ _ _ (by omega)
theorem Gr.alloc {N r c : Nat} {F : Nat → Nat → Int} {W : World} (h : Gr N r c F W) (o : Obj) : Gr N r c F (W.alloc o) := ⟨h.top.alloc _, fun j hj => (h.rows j hj).alloc _⟩
theorem Gr.below {N r c : Nat} {F : Nat → Nat → Int} {W W' : World} (h : Gr N r c F W) (hb : Below W.heap.size W W') : Gr N r c F W' :=
  ⟨h.top.of_block (hb.block _ h.top.lt), fun j hj => (h.rows j hj).of_block (hb.block _ (h.rows j hj).lt)⟩
theorem rowIs_cells {W : World} {b t n : Nat} {f : Nat → Value} (h : W.rowIs b t n f) : ∃ o : Obj, W.heap[b]? = some o ∧ o.isCells = true := by
  obtain ⟨c, hb, _, _⟩ := h
  exact ⟨_, hb, rfl⟩
theorem rowIs_own {W W' : World} {b t n : Nat} {f : Nat → Value} {row : Option Nat} (h : W.rowIs b t n f) (hg : W.grownBy W' row) (hr : ∀ r, row = some r → ∃ o : Obj, W.heap[r]? = some o ∧ o.isCells = false) : W'.rowIs b t n f := by
  refine h.of_block (hg.block b h.lt fun e => ?_)
  obtain ⟨o, ho, hc⟩ := hr b e.symm
  obtain ⟨o', ho', hc'⟩ := rowIs_cells h
  rw [ho] at ho'; cases ho'
  rw [hc] at hc'; cases hc'
theorem Gr.own {N r c : Nat} {F : Nat → Nat → Int} {W W' : World} {row : Option Nat} (h : Gr N r c F W) (hg : W.grownBy W' row) (hr : ∀ r, row = some r → ∃ o : Obj, W.heap[r]? = some o ∧ o.isCells = false) : Gr N r c F W' :=
  ⟨rowIs_own h.top hg hr, fun j hj => rowIs_own (h.rows j hj) hg hr⟩
theorem Zr.gr {w wr : World} {r c : Nat} (h : Zr w wr r c r) : Gr w.heap.size r c (fun _ _ => 0) wr := ⟨h.top, fun j hj => h.done j hj⟩

/-- The numbers of a grid as a matrix. -/
def tabM (r c : Nat) (F : Nat → Nat → Int) : List (List Int) := (List.range r).map fun i => (List.range c).map (F i)
theorem tabM_len (r c : Nat) (F : Nat → Nat → Int) : (tabM r c F).length = r := by simp [tabM]
theorem tabM_row {r c i : Nat} (F : Nat → Nat → Int) (h : i < r) : (tabM r c F).getD i [] = (List.range c).map (F i) := by simp [tabM, List.getD, h]
theorem Gr.mat {N r c : Nat} {F : Nat → Nat → Int} {W : World} (h : Gr N r c F W) (hr : r ≤ 8) (hc : c ≤ 4096) (hF : ∀ j i, j < r → i < c → I64 (F j i)) : MatIn W (tabM r c F) (.slice (some ⟨N, 0, none⟩) r r) := by
  refine ⟨some ⟨N, 0, none⟩, r, by simp [tabM_len], fun i hi => ?_, by simp [tabM_len]; omega, by simp [tabM_len]⟩
  simp [tabM_len] at hi
  refine ⟨N, 0, .slice (some ⟨N + 1 + i, 0, none⟩) c c, rfl, ?_, ?_⟩
  · rw [Nat.zero_add, h.top.cell hi]; simp [topZ, hi]
  · rw [tabM_row F hi]
    refine ⟨some ⟨N + 1 + i, 0, none⟩, c, by simp, fun f hf => ⟨N + 1 + i, 0, rfl, ?_, ?_⟩, by simp; omega, by simp⟩
    · simp at hf
      rw [Nat.zero_add, (h.rows i hi).cell hf]; simp [List.getD, hf]
    · simp at hf
      have := hF i f hi hf
      simpa [List.getD, hf] using this

set_option maxHeartbeats 1000000 in
set_option maxRecDepth 100000 in
theorem zeros_gr (r c : Nat) (hr : r ≤ 8) (hc : c ≤ 4096) (w : World) : Calls Try.prog 115 #[.int .i64 r, .int .i64 c] w fun e w' =>
    e = .returned (.slice (some ⟨w.heap.size, 0, none⟩) r r) ∧ Gr w.heap.size r c (fun _ _ => 0) w' ∧ Below w.heap.size w w' := by
  have hmk24 := run_make_row' (P := Try.prog) 29 34 (.slice none 0 0) 24 Try.underlying29 Try.info34 rfl .i64 .i64 r (by omega) (by omega)
  go_enter Try.func115, Try.ntmps115
  go_wp2_with fail
  clear hmk24
  go_loopw [11] (fun i wr => ∃ k : Nat, i = .int .i64 k ∧ k ≤ r ∧ Zr w wr r c k) (fun i _ => r - (intOf i).toNat)
  case atStart => exact ⟨0, rfl, Nat.zero_le _, Zr.start w r c⟩
  case round =>
    obtain ⟨k, rfl, hk, hz⟩ := hrel
    by_cases hlt : k < r
    · have w4 : (k : Int) < (r : Int) := by omega
      have hmk22 := run_make_row' (P := Try.prog) 34 3 (.int .i64 0) 8 Try.underlying34 Try.info3 rfl .i64 .i64 c (by omega) (by omega)
      have hst1 : ∀ o, (wr.alloc o).cell? ⟨w.heap.size, k, none⟩ = some (topZ w.heap.size c k k) := fun o => (hz.top.alloc o).cell hlt
      have hst2 : ∀ o, (wr.alloc o).frozen? ⟨w.heap.size, k, none⟩ = false := fun o => (hz.top.alloc o).frozen k
      have HZ := Lib.hid hz
      clear hz
      go_wp2_with fail
      go_roundw
      case rel => exact ⟨k + 1, by go_num, by omega, HZ.out.step⟩
      case measure => simp [intOf]; omega
    · have w4 : ¬ (k : Int) < (r : Int) := by omega
      obtain rfl : k = r := by omega
      go_wp2_with fail
      go_ret
      exact ⟨rfl, hz.gr, hz.below⟩
end Go.Proofs.Ytegomicpolnpoaa
