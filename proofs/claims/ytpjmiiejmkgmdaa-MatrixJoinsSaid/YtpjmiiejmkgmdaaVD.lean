/- What the machine gives, as rows and matrices in memory. -/
import Derived.Test.YtpjmiiejmkgmdaaVC
import Derived.Test.YtpjmiiejmkgmdaaAA
namespace Go.Ev
open Go.RowKit

/-- What the row of a slice's block has room for. -/
def roomS (P : Program) (H : List SO) : SV → Bool
  | .slice _ _ len cap => decide (len ≤ cap)
  | .gslice b off skip len => match H[b]? with
    | some (.row _ t) => decide (skip ≤ off) && sizeOfT P t == some 1
    | _ => false
  | _ => false
def cellsOf (P : Program) (H : List SO) (x : SV) : Option (List SV × Nat) := if roomS P H x then contents P H 1 x else none

theorem cellsOf_at {P : Program} {ν : Nat → Value} {w0 w : World} {E : Env} {H : List SO} (h : WRel P ν w0 E H w) {x : SV} {l : List SV} {n : Nat} (hj : cellsOf P H x = some (l, n)) {u : Value} (hx : den ν E x = some u) :
    ∃ (bk o c : Nat) (l' : List Value), u = .slice (some ⟨bk, o, none⟩) n c ∧ l.length = n ∧ n ≤ c ∧ dens ν E l = some l' ∧ ∀ (j : Nat) y, l'[j]? = some y → w.cell? ⟨bk, o + j, none⟩ = some y := by
  unfold cellsOf at hj
  split at hj
  · rename_i hok
    have hc := hj
    obtain ⟨l', g1, g2, g3⟩ := contents_run h hc hx
    have hlen := dens_len g1
    rcases g3 with ⟨rfl, _⟩ | ⟨a, cap, g5, g6⟩
    · simp [roomS] at hok
    · have hln : l.length = n := by omega
      have key : ∀ off, a = ⟨a.block, off, none⟩ → n ≤ cap →
          ∃ (bk o c : Nat) (l' : List Value), u = .slice (some ⟨bk, o, none⟩) n c ∧ l.length = n ∧ n ≤ c ∧ dens ν E l = some l' ∧ ∀ (j : Nat) y, l'[j]? = some y → w.cell? ⟨bk, o + j, none⟩ = some y := by
        intro off ea hcap
        refine ⟨a.block, off, cap, l', by rw [g5]; rw [← ea], hln, hcap, g1, fun j y hy => ?_⟩
        have := g6 j y hy
        rw [ea] at this
        by_cases j0 : j = 0
        · subst j0; simpa [Addr.add] using this
        · simpa [Addr.add, j0] using this
      cases x with
      | slice b off len c =>
        obtain ⟨r, k, e1, e2⟩ := den_slice.1 hx
        rw [e2] at g5
        simp only [Value.slice.injEq, Option.some.injEq] at g5
        obtain ⟨rfl, rfl, rfl⟩ := g5
        simp only [roomS, decide_eq_true_eq] at hok
        exact key off rfl hok
      | gslice b off skip len =>
        simp only [roomS] at hok
        split at hok
        · rename_i cc t hb'
          simp only [Bool.and_eq_true, decide_eq_true_eq, beq_iff_eq] at hok
          rw [den] at hx
          cases hbl : blk E b with
          | none => rw [hbl] at hx; cases hx
          | some p =>
            obtain ⟨r, k⟩ := p
            rw [hbl] at hx
            simp only [Option.map_some, Option.some.injEq] at hx
            rw [← hx] at g5
            simp only [Value.slice.injEq, Option.some.injEq] at g5
            obtain ⟨rfl, rfl, rfl⟩ := g5
            obtain ⟨o1, o2, o3⟩ := h.obj b _ r k hb' (blk_eq.1 hbl)
            obtain ⟨ob, q1, lq, rest, nn, q2, q3, q4, q5, q6⟩ := o3 rfl
            rw [hok.2] at q4
            cases q4
            have hroom : off + len ≤ cc.length := by
              unfold contents at hc
              simp only [hb', Option.bind_some, rowOf] at hc
              split at hc
              · rename_i hle; simpa using hle
              · cases hc
            exact key off rfl (by omega)
        · cases hok
      | _ => simp [roomS] at hok
  · cases hj

def intsS : List SV → Option (List Int)
  | [] => some []
  | .int .i64 n :: r => if -9223372036854775808 ≤ n ∧ n ≤ 9223372036854775807 then (intsS r).map (n :: ·) else none
  | _ => none
theorem intsS_dens {ν : Nat → Value} {E : Env} : ∀ {l : List SV} {xs : List Int}, intsS l = some xs → dens ν E l = some (xs.map (Value.int .i64)) ∧ ∀ n ∈ xs, -9223372036854775808 ≤ n ∧ n ≤ 9223372036854775807
  | [], xs, h => by simp [intsS] at h; subst h; simp [dens]
  | x :: r, xs, h => by
    cases x with
    | int k n =>
      cases k <;> simp only [intsS, reduceCtorEq] at h
      split at h
      · rename_i hb
        cases hr : intsS r with
        | none => rw [hr] at h; cases h
        | some ys =>
          rw [hr] at h
          simp at h; subst h
          obtain ⟨i1, i2⟩ := intsS_dens (ν := ν) (E := E) hr
          refine ⟨dens_cons.2 ⟨_, _, by simp [den], i1, rfl⟩, fun n hn => ?_⟩
          rcases List.mem_cons.1 hn with rfl | hn
          · exact hb
          · exact i2 n hn
      · cases h
    | _ => simp [intsS] at h
def rowS (P : Program) (H : List SO) : SV → Option (List Int)
  | .nils => some []
  | x => match cellsOf P H x with
    | some (l, n) => if n ≤ 17592186044416 then intsS l else none
    | none => none
def rowsS (P : Program) (H : List SO) : List SV → Option (List (List Int))
  | [] => some []
  | x :: r => match rowS P H x, rowsS P H r with
    | some a, some b => some (a :: b)
    | _, _ => none
def matS (P : Program) (H : List SO) : SV → Option (List (List Int))
  | .nils => some []
  | x => match cellsOf P H x with
    | some (l, n) => if n ≤ 17592186044416 then rowsS P H l else none
    | none => none
end Go.Ev
namespace Go.Proofs.Ytpjmiiejmkgmdaa
open Go.Ev Go.RowKit
theorem rowS_of {P : Program} {ν : Nat → Value} {w0 w : World} {E : Env} {H : List SO} (h : WRel P ν w0 E H w) {x : SV} {l : List Int} (hj : rowS P H x = some l) {u : Value} (hx : den ν E x = some u) : RowIn w l u := by
  by_cases hn : x = .nils
  · subst hn
    simp [rowS] at hj; subst hj
    simp [den] at hx; subst hx
    exact ⟨none, 0, rfl, IntsIn.nil _ _, by simp, Nat.le_refl _⟩
  · have hj' : (match cellsOf P H x with
      | some (l, n) => if n ≤ 17592186044416 then intsS l else none
      | none => none) = some l := by
      rw [← hj]
      cases x <;> first | rfl | exact absurd rfl hn
    split at hj'
    · rename_i c n hc
      split at hj'
      · rename_i hn'
        obtain ⟨bk, o, cap, l', rfl, h1, h2, h3, h4⟩ := cellsOf_at h hc hx
        obtain ⟨i1, i2⟩ := intsS_dens (ν := ν) (E := E) hj'
        obtain rfl := Option.some.inj (h3.symm.trans i1)
        have hlen := dens_len h3
        simp at hlen
        refine ⟨some ⟨bk, o, none⟩, cap, by rw [← h1, ← hlen], fun i hi => ⟨bk, o, rfl, ?_, ?_⟩, by omega, by omega⟩
        · exact h4 i _ (by simp [List.getElem?_map, List.getD, hi])
        · rw [show l.getD i 0 = l[i] by simp [List.getD, hi]]
          exact i2 _ (List.getElem_mem hi)
      · cases hj'
    · cases hj'

theorem rowsS_at {P : Program} {H : List SO} : ∀ {l : List SV} {m : List (List Int)}, rowsS P H l = some m → m.length = l.length ∧ ∀ i, (hi : i < l.length) → rowS P H l[i] = some (m.getD i [])
  | [], m, h => by simp [rowsS] at h; subst h; simp
  | x :: r, m, h => by
    rw [rowsS] at h
    split at h
    · rename_i a b ha hb
      simp at h; subst h
      obtain ⟨i1, i2⟩ := rowsS_at hb
      refine ⟨by simp [i1], fun i hi => ?_⟩
      cases i with
      | zero => simpa using ha
      | succ i => have := i2 i (by simpa using hi); simpa using this
    · cases h
theorem dens_at {ν : Nat → Value} {E : Env} : ∀ {l : List SV} {l' : List Value}, dens ν E l = some l' → ∀ i, (hi : i < l.length) → ∃ y, l'[i]? = some y ∧ den ν E l[i] = some y
  | [], _, _, i, hi => absurd hi (Nat.not_lt_zero _)
  | x :: r, l', h, i, hi => by
    obtain ⟨v, t, h1, h2, rfl⟩ := dens_cons.1 h
    cases i with
    | zero => exact ⟨v, by simp, by simpa using h1⟩
    | succ i =>
      obtain ⟨y, e1, e2⟩ := dens_at h2 i (by simpa using hi)
      exact ⟨y, by simpa using e1, by simpa using e2⟩
theorem matS_of {P : Program} {ν : Nat → Value} {w0 w : World} {E : Env} {H : List SO} (h : WRel P ν w0 E H w) {x : SV} {m : List (List Int)} (hj : matS P H x = some m) {u : Value} (hx : den ν E x = some u) : MatIn w m u := by
  by_cases hn : x = .nils
  · subst hn
    simp [matS] at hj; subst hj
    simp [den] at hx; subst hx
    exact ⟨none, 0, rfl, (fun i hi => by simp at hi), by simp, Nat.le_refl _⟩
  · have hj' : (match cellsOf P H x with
      | some (l, n) => if n ≤ 17592186044416 then rowsS P H l else none
      | none => none) = some m := by
      rw [← hj]
      cases x <;> first | rfl | exact absurd rfl hn
    split at hj'
    · rename_i c n hc
      split at hj'
      · rename_i hn'
        obtain ⟨bk, o, cap, l', rfl, h1, h2, h3, h4⟩ := cellsOf_at h hc hx
        obtain ⟨i1, i2⟩ := rowsS_at hj'
        refine ⟨some ⟨bk, o, none⟩, cap, by rw [i1, h1], fun i hi => ?_, by omega, by omega⟩
        obtain ⟨y, y1, y2⟩ := dens_at h3 i (by omega)
        exact ⟨bk, o, y, rfl, h4 i y y1, rowS_of h (i2 i (by omega)) y2⟩
      · cases hj'
    · cases hj'
end Go.Proofs.Ytpjmiiejmkgmdaa
