/- Has of the document's answers; whether two choices are one. -/
import Derived.Test.YtlpdeadmiinhoaaGreatDoorFD
namespace Go.Proofs.YtlpdeadmiinhoaaGreatDoor
open Go.RowKit

set_option maxRecDepth 100000 in
set_option maxHeartbeats 1000000 in
theorem refHas_any (c : Ch) (v : Value) (n : Int) (w : World) (hc : ChIn w c v) :
    Calls Tryz.prog 11 #[v, .int .i64 n] w fun e w' => e = .returned (hasV c n) ∧ Below w.heap.size w w' := by
  have hc0 := hc
  obtain ⟨a, cap, rfl, _, _, _, _, _⟩ := hc
  obtain ⟨X, hX⟩ : ∃ X : Obj, X = .cells #[.int .i64 c.kind, .int .i64 c.dflt, .slice a c.list.length cap] 24 := ⟨_, rfl⟩
  have h1 := calls_in1 (In1.first w X) (refValid_any c _ _ (hc0.mono (Same.alloc w X)))
  have HC := Lib.hid fun (wr : World) (h : In1 w X wr) => In1.cells3 (hX ▸ h)
  have hXX := Lib.hid hX
  unfold hasV
  cases hv : validC c with
  | false =>
    rw [if_neg (by simp)]
    rw [hv, hX] at h1
    clear hc0 hX hv
    go_enter Tryz.func11, Tryz.ntmps11
    go_wp2_with (go_at_call 15; (with_reducible refine h1.mono ?_); rintro e w1 ⟨rfl, hi1⟩)
    go_ret2
    exact ⟨rfl, hi1.out⟩
  | true =>
    rw [if_pos rfl]
    obtain ⟨B, hB⟩ : ∃ B, c.has n = B := ⟨_, rfl⟩
    have HH := Lib.hid fun (wr : World) (hi : In1 w X wr) => calls_in1 hi (hB ▸ has1_any c _ n wr (hc0.mono hi.same) (hasOk_valid hv))
    rw [hB]
    rw [hv, hX] at h1
    clear hc0 hX hv hB
    go_enter Tryz.func11, Tryz.ntmps11
    go_wp2_with (first
      | (go_at_call 15; (with_reducible refine h1.mono ?_); rintro e w1 ⟨rfl, hi1⟩; rw [← hXX.out] at hi1; obtain ⟨p0, p1, p2⟩ := HC.out w1 hi1)
      | (go_at_call 20; (with_reducible refine (HH.out _ hi1).mono ?_); rintro e w2 ⟨rfl, hi2⟩))
    go_ret2
    exact ⟨rfl, hi2.out⟩

/-- Are two choices equal? -/
def sameB (a b : Ch) : Bool := (a.kind == b.kind) && (a.dflt == b.dflt) && (a.list == b.list)

theorem same_yes {a b : Ch} (h1 : a.kind = b.kind) (h2 : a.dflt = b.dflt) (h3 : a.list = b.list) : sameB a b = true := by unfold sameB; simp [h1, h2, h3]
theorem same_no1 {a b : Ch} (h1 : ¬ a.kind = b.kind) : sameB a b = false := by unfold sameB; simp [h1]
theorem same_no2 {a b : Ch} (h1 : ¬ a.dflt = b.dflt) : sameB a b = false := by unfold sameB; simp [h1]
theorem same_no3 {a b : Ch} (h1 : ¬ a.list.length = b.list.length) : sameB a b = false := by
  unfold sameB
  have : a.list ≠ b.list := fun e => h1 (by rw [e])
  simp [this]
theorem same_no4 {a b : Ch} {k : Nat} {x y : Int} (hx : Hid (a.list.getD k 0 = x)) (hy : Hid (b.list.getD k 0 = y)) (h : (x != y) = true) : sameB a b = false := by
  unfold sameB
  have : a.list ≠ b.list := fun e => by rw [e] at hx; rw [hx.out] at hy; simp [hy.out] at h
  simp [this]
theorem lists_eq {l m : List Int} (h : l.length = m.length) (h1 : ∀ j, j < l.length → l.getD j 0 = m.getD j 0) : l = m := by
  refine List.ext_getElem h fun i h2 h3 => ?_
  have := h1 i h2
  simpa [h2, h3] using this
theorem eq_snoc {l m : List Int} {k : Nat} (h : Hid (∀ j, j < k → l.getD j 0 = m.getD j 0)) (hk : l.getD k 0 = m.getD k 0) : ∀ j, j < k + 1 → l.getD j 0 = m.getD j 0 := fun j hj => by
  by_cases e : j = k
  · rw [e]; exact hk
  · exact h.out j (by omega)

/-- What lies behind two boxes. -/
def In2 (w : World) (X Y : Obj) (wr : World) : Prop := Below (w.heap.size + 2) ((w.alloc X).alloc Y) wr
theorem In2.first (w : World) (X Y : Obj) : In2 w X Y ((w.alloc X).alloc Y) := Below.refl _ _
theorem In2.next {w wr w1 : World} {X Y : Obj} (h : In2 w X Y wr) (hb : Below wr.heap.size wr w1) : In2 w X Y w1 := by
  have hs : ((w.alloc X).alloc Y).heap.size = w.heap.size + 2 := by simp
  have := Below.size h
  exact Below.trans h (hb.mono (by omega))
theorem In2.drew {w wr : World} {X Y : Obj} (h : In2 w X Y wr) : In2 w X Y wr.drew := Below.drew h
theorem In2.drewN {w wr : World} {X Y : Obj} (h : In2 w X Y wr) (n : Nat) : In2 w X Y (wr.drewN n) := below_drewN h n
theorem In2.out {w wr : World} {X Y : Obj} (h : In2 w X Y wr) : Below w.heap.size w wr :=
  (((Below.refl _ w).alloc (Nat.le_refl _) X).alloc (by simp) Y).trans (Below.mono h (by omega))
theorem In2.same {w wr : World} {X Y : Obj} (h : In2 w X Y wr) : Same w wr := Same.of_below h.out
theorem In2.cells {w wr : World} {x0 x1 x2 y0 y1 y2 : Value} {T U : TypeId} (h : In2 w (.cells #[x0, x1, x2] T) (.cells #[y0, y1, y2] U) wr) :
    (wr.cell? ⟨w.heap.size, 0, none⟩ = some x0 ∧ wr.cell? ⟨w.heap.size, 1, none⟩ = some x1 ∧ wr.cell? ⟨w.heap.size, 2, none⟩ = some x2) ∧
    wr.cell? ⟨w.heap.size + 1, 0, none⟩ = some y0 ∧ wr.cell? ⟨w.heap.size + 1, 1, none⟩ = some y1 ∧ wr.cell? ⟨w.heap.size + 1, 2, none⟩ = some y2 := by
  refine ⟨⟨?_, ?_, ?_⟩, ?_, ?_, ?_⟩ <;> (rw [Below.cell h (by simp)]; simp [go_sem])
theorem calls_in2 {w wr : World} {X Y : Obj} {f : Nat} {args : Array Value} {v : Value} (h : In2 w X Y wr) (c : Calls Tryz.prog f args wr fun e w' => e = .returned v ∧ Below wr.heap.size wr w') :
    Calls Tryz.prog f args wr fun e w' => e = .returned v ∧ In2 w X Y w' := c.mono fun e w' ⟨a, b⟩ => ⟨a, h.next b⟩

set_option maxRecDepth 100000 in
set_option maxHeartbeats 3200000 in
theorem sameChoice_any (x y : Ch) (vx vy : Value) (w : World) (hx : ChIn w x vx) (hy : ChIn w y vy) :
    Calls Tryz.prog 19 #[vx, vy] w fun e w' => e = .returned (.bool (sameB x y)) ∧ Below w.heap.size w w' := by
  obtain ⟨a, ca, rfl, _, _, hla, hina, _⟩ := hx
  obtain ⟨b, cb, rfl, _, _, hlb, hinb, _⟩ := hy
  obtain ⟨k1, d1, l1⟩ := x
  obtain ⟨k2, d2, l2⟩ := y
  simp only at hla hlb hina hinb ⊢
  obtain ⟨X, hX⟩ : ∃ X : Obj, X = .cells #[.int .i64 k1, .int .i64 d1, .slice a l1.length ca] 24 := ⟨_, rfl⟩
  obtain ⟨Y, hY⟩ : ∃ Y : Obj, Y = .cells #[.int .i64 k2, .int .i64 d2, .slice b l2.length cb] 24 := ⟨_, rfl⟩
  have HI1 := Lib.hid fun (wr : World) (hi : In2 w X Y wr) => hina.mono hi.same
  have HI2 := Lib.hid fun (wr : World) (hi : In2 w X Y wr) => hinb.mono hi.same
  have HC := Lib.hid fun (wr : World) (h : In2 w X Y wr) => In2.cells (hX ▸ hY ▸ h)
  have HF : In2 w X Y ((w.alloc (.cells #[.int .i64 k1, .int .i64 d1, .slice a l1.length ca] 24)).alloc (.cells #[.int .i64 k2, .int .i64 d2, .slice b l2.length cb] 24)) := hX ▸ hY ▸ In2.first w X Y
  clear hina hinb hX hY
  obtain ⟨V, hV⟩ : ∃ V, sameB ⟨k1, d1, l1⟩ ⟨k2, d2, l2⟩ = V := ⟨_, rfl⟩
  have HV := Lib.hid hV
  rw [hV]
  clear hV
  cases e1 : (k1 != k2) with
  | true =>
    have HS : Hid (V = false) := Lib.hid (HV.out.symm.trans (same_no1 (by simpa using e1)))
    go_enter Tryz.func19, Tryz.ntmps19
    go_wp2_with fail
    go_ret
    exact ⟨ret_bool HS.out.symm, HF.out⟩
  | false =>
  cases e2 : (d1 != d2) with
  | true =>
    have HS : Hid (V = false) := Lib.hid (HV.out.symm.trans (same_no2 (by simpa using e2)))
    go_enter Tryz.func19, Tryz.ntmps19
    go_wp2_with fail
    go_ret
    exact ⟨ret_bool HS.out.symm, HF.out⟩
  | false =>
  cases e3 : ((l1.length : Int) != (l2.length : Int)) with
  | true =>
    have HS : Hid (V = false) := Lib.hid (HV.out.symm.trans (same_no3 (by simp only [bne_iff_ne, ne_eq] at e3; exact fun e => e3 (by rw [e]))))
    go_enter Tryz.func19, Tryz.ntmps19
    go_wp2_with fail
    go_ret
    exact ⟨ret_bool HS.out.symm, HF.out⟩
  | false =>
    have hlen : l1.length = l2.length := by simp only [bne_eq_false_iff_eq] at e3; omega
    have Hlen := Lib.hid hlen
    have HFF := Lib.hid HF
    have Hk : Hid (k1 = k2) := Lib.hid (by simpa using e1)
    have Hd : Hid (d1 = d2) := Lib.hid (by simpa using e2)
    clear hlen HF
    go_enter Tryz.func19, Tryz.ntmps19
    go_wp2_with fail
    go_loopw [5] (fun i wr => ∃ (k : Nat), i = .int .i64 k ∧ k ≤ l1.length ∧ (∀ j, j < k → l1.getD j 0 = l2.getD j 0) ∧ In2 w X Y wr) (fun i _ => l1.length - (intOf i).toNat)
    case atStart => exact ⟨0, rfl, Nat.zero_le _, fun _ h => absurd h (Nat.not_lt_zero _), HFF.out⟩
    case round =>
      obtain ⟨k, rfl, hkl, hok, hi⟩ := hrel
      have Hok := Lib.hid hok
      clear hok
      rename_i wr _
      obtain ⟨⟨p0, p1, p2⟩, q0, q1, q2⟩ := HC.out _ hi
      by_cases hlt : k < l1.length
      · have hlt2 : k < l2.length := by have := Hlen.out; omega
        obtain ⟨b1, off1, rfl, hc1, _⟩ := HI1.out _ hi k hlt
        obtain ⟨b2, off2, rfl, hc2, _⟩ := HI2.out _ hi k hlt2
        obtain ⟨x, hx⟩ : ∃ x, l1.getD k 0 = x := ⟨_, rfl⟩
        obtain ⟨y, hy⟩ : ∃ y, l2.getD k 0 = y := ⟨_, rfl⟩
        rw [hx] at hc1
        rw [hy] at hc2
        have Hx := Lib.hid hx
        have Hy := Lib.hid hy
        clear hx hy
        have i1 : (k : Int) < (l1.length : Int) := by omega
        have i2 : (k : Int) < (l2.length : Int) := by omega
        have i3 : (0 : Int) ≤ (k : Int) := by omega
        cases hxy : (x != y) with
        | true =>
          have HS : Hid (V = false) := Lib.hid (HV.out.symm.trans (same_no4 (a := ⟨k1, d1, l1⟩) (b := ⟨k2, d2, l2⟩) Hx Hy hxy))
          go_wp2_with fail
          go_quiet (fail)
          go_wp2_with fail
          go_ret
          exact ⟨ret_bool HS.out.symm, (hi.drewN _).out⟩
        | false =>
          have He : Hid (l1.getD k 0 = l2.getD k 0) := Lib.hid (by rw [Hx.out, Hy.out]; simpa using hxy)
          go_wp2_with fail
          go_quiet (fail)
          go_wp2_with fail
          go_roundw
          case rel => exact ⟨k + 1, by go_num, by omega, eq_snoc Hok He.out, hi.drewN _⟩
          case measure => simp [intOf]; omega
      · have HS : Hid (V = true) := Lib.hid (HV.out.symm.trans (same_yes (a := ⟨k1, d1, l1⟩) (b := ⟨k2, d2, l2⟩) Hk.out Hd.out (lists_eq (l := l1) (m := l2) Hlen.out fun j hj => Hok.out j (by omega))))
        go_wp2_with fail
        go_ret
        exact ⟨ret_bool HS.out.symm, hi.out⟩
end Go.Proofs.YtlpdeadmiinhoaaGreatDoor
