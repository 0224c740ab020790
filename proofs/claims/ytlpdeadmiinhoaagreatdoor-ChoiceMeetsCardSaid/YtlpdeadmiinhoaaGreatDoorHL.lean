/- How two choices meet: meet, Meet of the code. -/
import Derived.Test.YtlpdeadmiinhoaaGreatDoorHJ
import Derived.Test.YtlpdeadmiinhoaaGreatDoorHK
namespace Go.Proofs.YtlpdeadmiinhoaaGreatDoor
open Go.RowKit

theorem manyC_eq {x y : Ch} (lx : x.kind = 3 ∨ x.kind = 4) (s : Sp) (h : 1 ≤ (s.firsts 20).length) : manyC (if x.kind = 3 ∧ y.kind = 3 then 3 else 4) s = manyOrFew x y s := by
  unfold manyC manyOrFew
  by_cases hc : s.st ≤ 1000 ∧ 20 < s.count
  · rw [if_pos hc, if_pos hc]
    by_cases hk : x.kind = 3 ∧ y.kind = 3
    · rw [if_pos hk, if_pos hk, if_pos rfl]
    · rw [if_neg hk, if_neg hk, if_neg (by omega)]
  · rw [if_neg hc, if_neg hc]
    unfold bareOf
    rw [if_neg (fun e => by rw [e] at h; simp at h)]

/-- The way of two kinds gives the outcome, but for its default. -/
theorem way_any (x y : Ch) (hvx : validC x = true) (hvy : validC y = true) (wr : World) (vx vy : Value) (hx : ChIn wr x vx) (hy : ChIn wr y vy) :
    Calls Tryz.prog (wayF x.kind y.kind) #[vx, vy] wr (ChOut wr ((bareMet x y).getD zCh)) := by
  unfold wayF bareMet
  by_cases lx : x.isList = true
  · have kx := (isList_iff x).1 lx
    rw [if_pos kx, if_pos lx]
    have e : (if listMet x y = [] then none else some (ofList (listMet x y))).getD zCh = bareOf (listMet x y) := by
      unfold bareOf; split <;> rfl
    rw [e]
    exact firstList_any x y vx vy wr hx hy hvy (valid_list hvx lx).2.2.1
  have lx' : x.isList = false := by simpa using lx
  have kx := (isList_no x).1 lx'
  rw [if_neg kx, if_neg lx]
  by_cases ly : y.isList = true
  · have ky := (isList_iff y).1 ly
    rw [if_pos ky, if_pos ly]
    have e : (if listMet y x = [] then none else some (ofList (listMet y x))).getD zCh = bareOf (listMet y x) := by
      unfold bareOf; split <;> rfl
    rw [e]
    exact secondList_any x y vx vy wr hx hy hvx (valid_list hvy ly).2.2.1
  have ly' : y.isList = false := by simpa using ly
  have ky := (isList_no y).1 ly'
  rw [if_neg ky, if_neg ly]
  obtain ⟨ox, sx⟩ := valid_sp hvx lx'
  obtain ⟨oy, sy⟩ := valid_sp hvy ly'
  have e : ((firstC x.sp y.sp).map fun f => manyOrFew x y (outS x.sp y.sp f)).getD zCh = manyO (if x.kind = 3 ∧ y.kind = 3 then 3 else 4) x y := by
    unfold manyO
    cases hf : firstC x.sp y.sp with
    | none => rfl
    | some f =>
      obtain ⟨s1, s2, _⟩ := outS_ok ox oy hf
      exact (manyC_eq (by omega) _ (firsts_len s1 s2).1).symm
  rw [e]
  by_cases hk : x.kind = 3 ∧ y.kind = 3
  · rw [if_pos hk, if_pos hk]
    exact toRange_any x y vx vy wr hx hy sx sy ox oy
  · rw [if_neg hk, if_neg hk]
    exact toSteps_any x y vx vy wr hx hy sx sy ox oy

theorem bare_dflt {x y C : Ch} (h : bareMet x y = some C) : C.dflt = 0 := by
  unfold bareMet at h
  split at h
  · split at h
    · cases h
    · cases h; rfl
  split at h
  · split at h
    · cases h
    · cases h; rfl
  rw [Option.map_eq_some_iff] at h
  obtain ⟨f, _, rfl⟩ := h
  unfold manyOrFew
  split
  · split <;> rfl
  · rfl
theorem met_bare {x y C : Ch} (h : bareMet x y = some C) : metC x y = some (C.wished x.dflt y.dflt) := by unfold metC; rw [h]; rfl
theorem met_bare_none {x y : Ch} (h : bareMet x y = none) : metC x y = none := by unfold metC; rw [h]; rfl

theorem kind_in {x : Ch} (h : validC x = true) : 1 ≤ x.kind ∧ x.kind ≤ 4 := by
  obtain ⟨_, _, h2⟩ := valid_cases h
  omega
theorem bare_facts {x y C : Ch} (hvx : validC x = true) (hvy : validC y = true) (h : bareMet x y = some C) :
    1 ≤ C.list.length ∧ boundB C.list = true ∧ (I64 C.kind ∧ C.dflt = 0 ∧ C.list.length ≤ 100) ∧ validC (C.wished x.dflt y.dflt) = true := by
  have hv := met_valid hvx hvy (met_bare h)
  obtain ⟨h1, _, h2⟩ := valid_cases hv
  have e1 : (C.wished x.dflt y.dflt).list = C.list := rfl
  have e2 : (C.wished x.dflt y.dflt).kind = C.kind := rfl
  rw [e1] at h1 h2
  rw [e2] at h2
  refine ⟨by omega, h1, ⟨by unfold I64; omega, bare_dflt h, by omega⟩, hv⟩

/-- A choice or nothing is handed back. -/
def MeetOut (w : World) (o : Option Ch) (e : Ending) (w' : World) : Prop := ∃ v, e = .returned (.tuple #[v, .bool o.isSome]) ∧ ChNew w.heap.size w' (o.getD zCh) v ∧ Below w.heap.size w w'
theorem zCh_new (n : Nat) (w : World) : ChNew n w zCh (.agg #[.int .i64 0, .int .i64 0, .slice none 0 0]) :=
  ⟨none, 0, rfl, by unfold I64 zCh; simp, by unfold I64 zCh; simp, by unfold zCh; simp, ⟨IntsIn.nil _ _, fun p hp => by cases hp⟩, by unfold zCh; simp⟩

theorem wayF_cases (a b : Int) : wayF a b = 121 ∨ wayF a b = 122 ∨ wayF a b = 123 ∨ wayF a b = 124 := by
  unfold wayF
  split
  · exact Or.inl rfl
  split
  · exact Or.inr (Or.inl rfl)
  split
  · exact Or.inr (Or.inr (Or.inl rfl))
  · exact Or.inr (Or.inr (Or.inr rfl))

theorem meet_any (x y : Ch) (vx vy : Value) (w : World) (hx : ChIn w x vx) (hy : ChIn w y vy) (hvx : validC x = true) (hvy : validC y = true) :
    Calls Tryz.prog 55 #[vx, vy] w (MeetOut w (metC x y)) := by
  have k1 := kind_in hvx
  have k2 := kind_in hvy
  have hw := way_any x y hvx hvy
  cases hb : bareMet x y with
  | none =>
    rw [hb] at hw
    rw [met_bare_none hb]
    have hmono : ∀ e w', (e = .returned (.tuple #[.agg #[.int .i64 0, .int .i64 0, .slice none 0 0], .bool false]) ∧ Below w.heap.size w w') → MeetOut w none e w' := fun e w' ⟨h1, h2⟩ => ⟨_, h1, zCh_new _ _, h2⟩
    rcases wayF_cases x.kind y.kind with h | h | h | h <;> rw [h] at hw
    · exact (meet_no121 x y vx vy w hx hy k1 k2 h zCh hw rfl).mono hmono
    · exact (meet_no122 x y vx vy w hx hy k1 k2 h zCh hw rfl).mono hmono
    · exact (meet_no123 x y vx vy w hx hy k1 k2 h zCh hw rfl).mono hmono
    · exact (meet_no124 x y vx vy w hx hy k1 k2 h zCh hw rfl).mono hmono
  | some C =>
    rw [hb] at hw
    obtain ⟨f1, f2, f3, f4⟩ := bare_facts hvx hvy hb
    rw [met_bare hb]
    rcases wayF_cases x.kind y.kind with h | h | h | h <;> rw [h] at hw
    · exact meet_yes121 x y vx vy w hx hy k1 k2 h C hw f1 f2 f3 f4
    · exact meet_yes122 x y vx vy w hx hy k1 k2 h C hw f1 f2 f3 f4
    · exact meet_yes123 x y vx vy w hx hy k1 k2 h C hw f1 f2 f3 f4
    · exact meet_yes124 x y vx vy w hx hy k1 k2 h C hw f1 f2 f3 f4
end Go.Proofs.YtlpdeadmiinhoaaGreatDoor
