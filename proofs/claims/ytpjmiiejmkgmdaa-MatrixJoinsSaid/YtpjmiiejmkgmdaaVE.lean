/- The usual layouts and the identities, as the program and the document's answers have them. -/
import Derived.Test.YtpjmiiejmkgmdaaVD
namespace Go.Ev
def rowAns (P : Program) : Option (SV × List SO) → Option (List Int × Int)
  | some (.tuple [x, .int .i64 e], H) => (rowS P H x).map fun l => (l, e)
  | _ => none
def matAns (P : Program) : Option (SV × List SO) → Option (List (List Int) × Int)
  | some (.tuple [x, .int .i64 e], H) => (matS P H x).map fun l => (l, e)
  | _ => none
end Go.Ev
namespace Go.Proofs.Ytpjmiiejmkgmdaa
open Go.Ev Go.RowKit

/-- An answer: a list of numbers and an error. -/
def RowAns (w : World) (l : List Int) (k : Int) (e : Ending) (w' : World) : Prop := ∃ u, e = .returned (.tuple #[u, .int .i64 k]) ∧ RowIn w' l u ∧ Below w.heap.size w w'
def MatAns (w : World) (m : List (List Int)) (k : Int) (e : Ending) (w' : World) : Prop := ∃ u, e = .returned (.tuple #[u, .int .i64 k]) ∧ MatIn w' m u ∧ Below w.heap.size w w'

theorem ints_dens (ν : Nat → Value) : ∀ l : List Int, dens ν [] (l.map (SV.int .i64)) = some (l.map (Value.int .i64))
  | [] => rfl
  | n :: r => dens_cons.2 ⟨_, _, by simp [den], ints_dens ν r, rfl⟩

theorem rowAns_run {f : FuncId} {ns : List Int} {n : Nat} {l : List Int} {k : Int} (h : rowAns Try.prog (callAt Try.prog (fun _ => []) noHooks n f (ns.map (SV.int .i64)) []) = some (l, k)) (w : World) :
    Calls Try.prog f (ns.map (Value.int .i64)).toArray w (RowAns w l k) := by
  unfold rowAns at h
  split at h
  · rename_i x e H hc
    cases hr : rowS Try.prog H x with
    | none => rw [hr] at h; cases h
    | some l' =>
      rw [hr] at h
      simp at h
      obtain ⟨rfl, rfl⟩ := h
      refine (call_run (ν := fun _ => .bool true) (noHooks_ok _ _ w) (fun g hg => absurd rfl hg) (by simpa using ints_dens _ ns) hc).mono fun e w' ⟨E', u, he, hu, hW⟩ => ?_
      obtain ⟨l', hl', rfl⟩ := den_tuple.1 hu
      obtain ⟨v, t, h1, h2, rfl⟩ := dens_cons.1 hl'
      obtain ⟨v2, t2, h3, h4, rfl⟩ := dens_cons.1 h2
      simp [dens] at h4; subst h4
      simp [den] at h3; subst h3
      exact ⟨v, he, rowS_of hW hr h1, hW.below⟩
  · cases h

theorem matAns_run {f : FuncId} {ns : List Int} {n : Nat} {l : List (List Int)} {k : Int} (h : matAns Try.prog (callAt Try.prog (fun _ => []) noHooks n f (ns.map (SV.int .i64)) []) = some (l, k)) (w : World) :
    Calls Try.prog f (ns.map (Value.int .i64)).toArray w (MatAns w l k) := by
  unfold matAns at h
  split at h
  · rename_i x e H hc
    cases hr : matS Try.prog H x with
    | none => rw [hr] at h; cases h
    | some l' =>
      rw [hr] at h
      simp at h
      obtain ⟨rfl, rfl⟩ := h
      refine (call_run (ν := fun _ => .bool true) (noHooks_ok _ _ w) (fun g hg => absurd rfl hg) (by simpa using ints_dens _ ns) hc).mono fun e w' ⟨E', u, he, hu, hW⟩ => ?_
      obtain ⟨l', hl', rfl⟩ := den_tuple.1 hu
      obtain ⟨v, t, h1, h2, rfl⟩ := dens_cons.1 hl'
      obtain ⟨v2, t2, h3, h4, rfl⟩ := dens_cons.1 h2
      simp [dens] at h4; subst h4
      simp [den] at h3; subst h3
      exact ⟨v, he, matS_of hW hr h1, hW.below⟩
  · cases h

def usualL : Nat → List Int
  | 1 => [1] | 2 => [2, 3] | 3 => [2, 3, 4] | 4 => [2, 3, 6, 7] | 5 => [2, 3, 4, 6, 7] | 6 => [2, 3, 4, 5, 6, 7] | 7 => [2, 3, 4, 5, 6, 7, 10] | 8 => [2, 3, 4, 5, 6, 7, 8, 9]
  | _ => []
def idM (n : Nat) : List (List Int) := (List.range n).map fun i => (List.range n).map fun j => if i = j then 65536 else 0

set_option maxRecDepth 100000 in
theorem usual_runs : ((List.range 8).all fun k => rowAns Try.prog (callAt Try.prog (fun _ => []) noHooks 1000 18 ([((k + 1 : Nat) : Int)].map (SV.int .i64)) []) == some (usualL (k + 1), 0)) = true := by kernel_rfl
set_option maxRecDepth 100000 in
theorem refUsual_runs : ((List.range 8).all fun k => rowAns Try.prog (callAt Try.prog (fun _ => []) noHooks 1000 19 ([((k + 1 : Nat) : Int)].map (SV.int .i64)) []) == some (usualL (k + 1), 0)) = true := by kernel_rfl
set_option maxRecDepth 100000 in
theorem identity_runs : ((List.range 8).all fun k => matAns Try.prog (callAt Try.prog (fun _ => []) noHooks 10000 20 ([((k + 1 : Nat) : Int)].map (SV.int .i64)) []) == some (idM (k + 1), 0)) = true := by kernel_rfl
set_option maxRecDepth 100000 in
theorem refIdentity_runs : ((List.range 8).all fun k => matAns Try.prog (callAt Try.prog (fun _ => []) noHooks 10000 21 ([((k + 1 : Nat) : Int)].map (SV.int .i64)) []) == some (idM (k + 1), 0)) = true := by kernel_rfl

theorem at_of_all {f : Nat → Bool} (h : (List.range 8).all f = true) {n : Nat} (h1 : 1 ≤ n) (h8 : n ≤ 8) : f (n - 1) = true := by
  rw [List.all_eq_true] at h
  exact h _ (List.mem_range.2 (by omega))
theorem usual_in {n : Nat} (h1 : 1 ≤ n) (h8 : n ≤ 8) (w : World) : Calls Try.prog 18 #[.int .i64 n] w (RowAns w (usualL n) 0) := by
  have := at_of_all usual_runs h1 h8
  rw [show n - 1 + 1 = n by omega] at this
  exact rowAns_run (eq_of_beq this) w
theorem refUsual_in {n : Nat} (h1 : 1 ≤ n) (h8 : n ≤ 8) (w : World) : Calls Try.prog 19 #[.int .i64 n] w (RowAns w (usualL n) 0) := by
  have := at_of_all refUsual_runs h1 h8
  rw [show n - 1 + 1 = n by omega] at this
  exact rowAns_run (eq_of_beq this) w
theorem identity_in {n : Nat} (h1 : 1 ≤ n) (h8 : n ≤ 8) (w : World) : Calls Try.prog 20 #[.int .i64 n] w (MatAns w (idM n) 0) := by
  have := at_of_all identity_runs h1 h8
  rw [show n - 1 + 1 = n by omega] at this
  exact matAns_run (eq_of_beq this) w
theorem refIdentity_in {n : Nat} (h1 : 1 ≤ n) (h8 : n ≤ 8) (w : World) : Calls Try.prog 21 #[.int .i64 n] w (MatAns w (idM n) 0) := by
  have := at_of_all refIdentity_runs h1 h8
  rw [show n - 1 + 1 = n by omega] at this
  exact matAns_run (eq_of_beq this) w
end Go.Proofs.Ytpjmiiejmkgmdaa
