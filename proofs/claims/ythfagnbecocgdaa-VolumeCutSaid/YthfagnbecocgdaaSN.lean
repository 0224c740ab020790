/- Set keeps a volume whole; a muted one is silent; who lies where. -/
import Derived.Test.YthfagnbecocgdaaSM
namespace Go.Proofs.Ythfagnbecocgdaa
open Go.RowKit Go.Shelf Go.Deep

theorem setR_len (gs : List Int) (fr : Int) (cs : List Ch) : (setR gs fr cs).length = cs.length := by unfold setR; split; exact mapC_len _ _; rfl
theorem turn_ok {fr : Int} {c : Ch} (hr : RampOk c.f c.t c.n c.a) (hg : 0 ≤ c.g ∧ c.g ≤ 655360) (hf : timeB fr = true) : (turnC fr c).Ok := by
  unfold turnC
  split
  · exact ⟨hr, hg⟩
  · refine ⟨⟨grownI_gain hr, ?_, timeB_t hf, by have := timeB_t hf; dsimp only; omega⟩, hg⟩
    show 0 ≤ tgt c ∧ tgt c ≤ 655360
    unfold tgt
    split
    · decide
    · exact hg
theorem setR_ok {gs : List Int} {fr : Int} {cs : List Ch} (h : ∀ i, i < cs.length → (chAt cs i).Ok) : ∀ i, i < (setR gs fr cs).length → (chAt (setR gs fr cs) i).Ok := by
  intro i hi
  rw [setR_len] at hi
  unfold setR
  split
  · rename_i hk
    rw [mapC_at hi]
    unfold setK at hk
    have hg : allG gs = true := by
      cases e : allG gs with
      | true => rfl
      | false => rw [if_pos e] at hk; omega
    have hf : timeB fr = true := by
      cases e : timeB fr with
      | true => rfl
      | false => rw [if_neg (by rw [hg]; decide), if_pos e] at hk; omega
    have hl : gs.length = cs.length := by
      rw [if_neg (by rw [hg]; decide), if_neg (by rw [hf]; decide)] at hk
      by_cases e : gs.length = cs.length
      · exact e
      · rw [if_neg e] at hk; omega
    refine turn_ok (h i hi).ramp ?_ hf
    exact gainB_t (all_at' (d := 0) hg (by omega))
  · exact h i hi
theorem muted_at {n i : Nat} (h : i < n) : chAt (muteR (List.replicate n true) 0 (List.replicate n one1)) i = ⟨65536, 0, 0, 0, 65536, true⟩ := by
  unfold muteR
  rw [mapC_at (by simpa using h), chAt_rep h]
  have hm : (List.replicate n true).getD i false = true := by simp [List.getD, h]
  unfold turnC muteU tgt one1
  simp only [hm]
  simp [grownI]
theorem muteR_len (ms : List Bool) (fr : Int) (cs : List Ch) : (muteR ms fr cs).length = cs.length := mapC_len _ _
theorem muteR_ok {n : Nat} : ∀ i, i < (muteR (List.replicate n true) 0 (List.replicate n one1)).length → (chAt (muteR (List.replicate n true) 0 (List.replicate n one1)) i).Ok := by
  intro i hi
  rw [muteR_len, List.length_replicate] at hi
  rw [muted_at hi]
  exact ⟨⟨by decide, by decide, by decide, by decide⟩, by decide⟩
theorem times_zero (s : Int) : times s 0 = 0 := by unfold times; rw [Int.mul_zero]; decide
theorem zeroM_row {r c j : Nat} (h : j < r) : (zeroM r c).getD j [] = List.replicate c 0 := by simp [zeroM, List.getD, h]
theorem push_muted {n : Nat} {b : List (List Int)} (hv : validB b = true) (hn : b.length = n) : pushM (muteR (List.replicate n true) 0 (List.replicate n one1)) b = zeroM b.length (cols b) := by
  obtain ⟨_, _, _, hrow⟩ := validB_parts hv
  apply mat_eq_of (by rw [pushM_len]; simp [zeroM])
  intro j hj
  rw [pushM_len] at hj
  rw [pushM_at hj, muted_at (by omega), zeroM_row hj]
  refine scaled_ext (by rw [List.length_replicate, hrow j hj]) fun i hi => ?_
  show _ = times _ (rampG 65536 0 0 0 i)
  rw [rampG_mute, times_zero]
  rw [hrow j hj] at hi
  simp [List.getD, hi]

theorem below_gb {B R : Nat} {w x y : World} (h : Below B w x) (hg : x.grownBy y (some R)) (hB : B ≤ x.heap.size) (hR : B ≤ R) : Below B w y := h.grown hg hB fun k e => by cases e; exact hR
theorem off_old {R : Nat} {w x : World} {b : List (List Int)} {v : Value} (h : MatIn w b v) (hb : Below w.heap.size w x) (hR : w.heap.size ≤ R) : MatOff R x b v := fun _ hg => h.mono (Same.of_below (below_gb hb hg hb.size hR))
theorem off_new {R N : Nat} {x : World} {b : List (List Int)} {v : Value} (h : MatNew N x b v) (hR : R < N) : MatOff R x b v := fun _ hg => h _ fun k hk hlt => hg.block k hlt (fun e => by cases e; omega)
theorem row_old {R : Nat} {w x : World} {gs : List Int} {v : Value} (h : RowIn w gs v) (hb : Below w.heap.size w x) (hR : w.heap.size ≤ R) : RowOff R x gs v := fun _ hg => h.mono (Same.of_below (below_gb hb hg hb.size hR))
end Go.Proofs.Ythfagnbecocgdaa
