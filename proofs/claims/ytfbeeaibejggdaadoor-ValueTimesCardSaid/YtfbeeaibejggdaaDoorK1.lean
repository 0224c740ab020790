/- What the tied table gives: which fields each kind has; and a start that meets the row's conditions. -/
import Derived.Test.YtfbeeaibejggdaaDoorRows
import Derived.Test.YtfbeeaibejggdaaDoorAC
import Derived.Test.YtfbeeaibejggdaaDoorH1
import Derived.ProofKit
import Derived.SevenTiedAt
import Derived.LaidMore
import Derived.OpenShut
import Derived.Stop.Joined
import Derived.Carry
namespace Go.Proofs.YtfbeeaibejggdaaDoor
open Go.ChangeShapes Go.WideShapes Go.RowKit

theorem own : ownKnob Tryd.prog.godebug = none := by kernel_rfl
theorem gHas : Tryd.prog.globalNamed "continuo/value.has" = some 0 := by kernel_rfl
theorem tHas : (Tryd.prog.globals[0]?).map (·.type) = some 113 := by kernel_rfl
abbrev laidHas : List (String × DataW Unit) := [("continuo/value.has", Rows.laid_continuo_value_has)]

set_option maxRecDepth 20000 in
theorem has_row {H : Type} {enc : TypeId × Value → H} {W : World} {sp : Nat → Bool} {held : Bool} {fuel : Nat} {cs : List Value} {x : DataW H × List MemPlace} {a b c d : Bool}
    (h : DataW.trod enc Tryd.prog W 0 sp held fuel 112 cs = some x) (hx : x.1 = .agg [.lit (.bool a), .lit (.bool b), .lit (.bool c), .lit (.bool d)]) : cs = [.bool a, .bool b, .bool c, .bool d] := by
  obtain ⟨ys, n, _, hx2, hlen, hyl, hf⟩ := DataW.trod_struct Tryd.underlying112 h
  have hC : Tryd.prog.cellsOf 112 = 4 := by kernel_rfl
  have h4 : Tryd.prog.cellsOf 4 = 1 := by kernel_rfl
  rw [hC] at hlen
  match cs, hlen, ys, hyl with
  | [c0, c1, c2, c3], _, [y0, y1, y2, y3], _ =>
    have g0 : DataW.trod enc Tryd.prog W 0 sp held n 4 [c0] = some y0 := by simpa [h4] using hf 0 _ rfl
    have g1 : DataW.trod enc Tryd.prog W 0 sp held n 4 [c1] = some y1 := by simpa [h4] using hf 1 _ rfl
    have g2 : DataW.trod enc Tryd.prog W 0 sp held n 4 [c2] = some y2 := by simpa [h4] using hf 2 _ rfl
    have g3 : DataW.trod enc Tryd.prog W 0 sp held n 4 [c3] = some y3 := by simpa [h4] using hf 3 _ rfl
    obtain ⟨b0, e0, f0⟩ := DataW.trod_bool Tryd.underlying4 g0
    obtain ⟨b1, e1, f1⟩ := DataW.trod_bool Tryd.underlying4 g1
    obtain ⟨b2, e2, f2⟩ := DataW.trod_bool Tryd.underlying4 g2
    obtain ⟨b3, e3, f3⟩ := DataW.trod_bool Tryd.underlying4 g3
    simp only [List.cons.injEq, and_true] at e0 e1 e2 e3
    subst e0; subst e1; subst e2; subst e3
    rw [hx2, f0, f1, f2, f3] at hx
    simp at hx
    obtain ⟨rfl, rfl, rfl, rfl⟩ := hx
    rfl

def hasD (k : Nat) : DataW Unit := .agg [.lit (.bool (hasRow k).1), .lit (.bool (hasRow k).2.1), .lit (.bool (hasRow k).2.2.1), .lit (.bool (hasRow k).2.2.2)]
theorem has_datum : (Rows.laid_continuo_value_has : DataW Unit) = .agg ((List.range 11).map hasD) := rfl

set_option maxRecDepth 20000 in
theorem has_of_laid {W : World} (h : laidMetH Tryd.prog laidHas W) : HasLaid W := by
  rw [MakeChecks.laidMetH_plain _ _ _ (by kernel_rfl)] at h
  obtain ⟨ps, ⟨g0, t0, cs0, f0, p0, q0, hg0, ht0, hv0, hd0, _, _⟩, _, _⟩ := h
  obtain rfl := Option.some.inj (gHas.symm.trans hg0)
  obtain rfl := Option.some.inj (tHas.symm.trans ht0)
  obtain ⟨xs, m1, rfl, hx1, hlen, hn3, hel⟩ := DataW.trod_array Tryd.underlying113 hd0
  have hC : Tryd.prog.cellsOf 112 = 4 := by kernel_rfl
  simp only [Prod.mk.injEq] at hx1
  have hmap : xs.map (·.1) = (List.range 11).map hasD := by
    have := hx1.1
    rw [has_datum] at this
    injection this with this
    exact this.symm
  intro k hk
  have hrow := hel k (by omega)
  rw [hC, List.getElem?_eq_getElem (by omega)] at hrow
  have hxk : (xs[k]'(by omega)).1 = hasD k := by
    have h1 : (xs.map (·.1))[k]? = some (xs[k]'(by omega)).1 := by
      rw [List.getElem?_map, List.getElem?_eq_getElem (by omega)]; rfl
    rw [hmap, List.getElem?_map, List.getElem?_range (by omega)] at h1
    simpa using h1.symm
  have hcs := has_row hrow hxk
  have hat : ∀ j, j < 4 → W.cell? ⟨0, k * 4 + j, none⟩ = ([Value.bool (hasRow k).1, .bool (hasRow k).2.1, .bool (hasRow k).2.2.1, .bool (hasRow k).2.2.2] : List Value)[j]? := by
    intro j hj
    rw [World.var?_cell hg0 hv0, ← hcs, List.getElem?_take_of_lt hj, List.getElem?_drop]
    simp
  exact ⟨hat 0 (by omega), hat 1 (by omega), hat 2 (by omega), hat 3 (by omega)⟩

/-- The door's own heap meets the condition. -/
theorem door_met (os : Os) (args : Array Value) : laidMetH Tryd.prog laidHas ((World.doorLaid Tryd.prog 400 os).forCall (fun _ _ => 0) ⟨#[], args, []⟩).memory :=
  laidMetH_of_parts (laidMet_of_run' 8 (by kernel_rfl) (by kernel_rfl)) (by kernel_rfl)

end Go.Proofs.YtfbeeaibejggdaaDoor
namespace Go.Proofs.YtfbeeaibejggdaaDoor
open Go.ChangeShapes Go.WideShapes Go.ChangeAt Go.WideMaps Go.WideElems Go.RowKit
theorem laidOut : laidOutB Tryd.prog = true := by kernel_rfl

set_option maxRecDepth 20000 in
/-- An argument's reading stands for a tree. -/
theorem tree_arg {H : Type} {enc : TypeId × Value → H} {w : World} {r : Reach} {base : Nat} {v : Value} {d : DataW H} {p : List MemPlace} (hv : Value.okWide Tryd.prog w r base 25 v) (h : DataW.Trod enc Tryd.prog w 0 (fun _ => true) true 25 v d p)
    (hs : (d.weights Tryd.prog 25).all (· ≤ reachBytes) = true) : ∃ t, Rep w t v := by
  obtain ⟨cs, rfl, _⟩ := okWide_struct Tryd.underlying25 hv
  obtain ⟨fuel, hf⟩ := h
  obtain ⟨t, ht⟩ := tree_of fuel fuel (Nat.le_refl _) cs.toList _ hf hs
  rw [show cs.toList.toArray = cs from by simp] at ht
  exact ⟨t, ht⟩

def nilV : Value := .agg #[.int .i64 0, .int .i64 0, .string ⟨#[]⟩, .slice none 0 0, .slice none 0 0]

end Go.Proofs.YtfbeeaibejggdaaDoor
