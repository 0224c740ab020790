/- Met of the document's answers, what lies in memory. -/
import Derived.Test.YtlpdeadmiinhoaaGreatDoorIC
namespace Go.Proofs.YtlpdeadmiinhoaaGreatDoor
open Go.RowKit

/-- Two choices of the call's own, behind the three boxes. -/
structure Duo (w : World) (X Y Z : Obj) (B6 B7 : Nat) (p q r p' q' r' : Value) (wx : World) : Prop where
  i3 : In3 w X Y Z wx
  z6 : Zch wx B6 p q r
  z7 : Zch wx B7 p' q' r'
  ne : B6 ≠ B7
  h6 : w.heap.size + 3 ≤ B6
  h7 : w.heap.size + 3 ≤ B7
theorem Duo.below {w wx w1 : World} {X Y Z : Obj} {B6 B7 : Nat} {p q r p' q' r' : Value} (h : Duo w X Y Z B6 B7 p q r p' q' r' wx) (hb : Below wx.heap.size wx w1) : Duo w X Y Z B6 B7 p q r p' q' r' w1 :=
  ⟨h.i3.next hb, h.z6.below hb, h.z7.below hb, h.ne, h.h6, h.h7⟩
theorem alloc_below (w : World) (o : Obj) : Below w.heap.size w (w.alloc o) := (Below.refl _ _).alloc (Nat.le_refl _) _
theorem drew_below (w : World) : Below w.heap.size w w.drew := Below.drew (Below.refl _ _)
theorem duo1 {w w1 : World} {X Y Z : Obj} (h : In3 w X Y Z w1) (p q r p' q' r' : Value) :
    ∃ W B6 B7, W = ((w1.alloc (.cells #[p, q, r] 24)).alloc (.cells #[p', q', r'] 24)).drew ∧ B6 = w1.heap.size ∧ B7 = w1.heap.size + 1 ∧ Duo w X Y Z B6 B7 p q r p' q' r' W := by
  refine ⟨_, _, _, rfl, rfl, rfl, ((h.alloc _).alloc _).drew, ?_, ?_, by omega, h.size, by have := h.size; omega⟩
  · exact ((Zch.new w1 p q r).below (alloc_below _ _)).below (drew_below _)
  · have e := Zch.new (w1.alloc (.cells #[p, q, r] 24)) p' q' r'
    rw [World.size_alloc] at e
    exact e.below (drew_below _)
theorem duo2 {w w1 : World} {X Y Z : Obj} (h : In3 w X Y Z w1) (p q r p' q' r' : Value) :
    ∃ W B6 B7, W = ((w1.alloc (.cells #[p', q', r'] 24)).alloc (.cells #[p, q, r] 24)).drew ∧ B7 = w1.heap.size ∧ B6 = w1.heap.size + 1 ∧ Duo w X Y Z B6 B7 p q r p' q' r' W := by
  refine ⟨_, _, _, rfl, rfl, rfl, ((h.alloc _).alloc _).drew, ?_, ?_, by omega, by have := h.size; omega, h.size⟩
  · have e := Zch.new (w1.alloc (.cells #[p', q', r'] 24)) p q r
    rw [World.size_alloc] at e
    exact e.below (drew_below _)
  · exact ((Zch.new w1 p' q' r').below (alloc_below _ _)).below (drew_below _)
theorem Zch.far {w : World} {B : Nat} {x y z : Value} (h : Zch w B x y z) {p : Addr} (hp : p.block ≠ B) (v : Value) : Zch (w.setCell p v) B x y z := by
  obtain ⟨c0, c1, c2, f0, f1, f2, lt⟩ := h
  refine ⟨?_, ?_, ?_, by simpa [go_sem] using f0, by simpa [go_sem] using f1, by simpa [go_sem] using f2, by simpa using lt⟩
  · rw [World.cell?_setCell_far _ _ _ _ hp]; exact c0
  · rw [World.cell?_setCell_far _ _ _ _ hp]; exact c1
  · rw [World.cell?_setCell_far _ _ _ _ hp]; exact c2
theorem Duo.set6 {w wx : World} {X Y Z : Obj} {B6 B7 : Nat} {p q r p' q' r' : Value} (h : Duo w X Y Z B6 B7 p q r p' q' r' wx) (s t u : Value) :
    Duo w X Y Z B6 B7 s t u p' q' r' (((wx.setCell ⟨B6, 0, none⟩ s).setCell ⟨B6, 1, none⟩ t).setCell ⟨B6, 2, none⟩ u) :=
  ⟨h.i3.set3 h.h6, h.z6.set s t u, ((h.z7.far h.ne _).far h.ne _).far h.ne _, h.ne, h.h6, h.h7⟩
theorem Duo.set7 {w wx : World} {X Y Z : Obj} {B6 B7 : Nat} {p q r p' q' r' : Value} (h : Duo w X Y Z B6 B7 p q r p' q' r' wx) (s t u : Value) :
    Duo w X Y Z B6 B7 p q r s t u (((wx.setCell ⟨B7, 0, none⟩ s).setCell ⟨B7, 1, none⟩ t).setCell ⟨B7, 2, none⟩ u) :=
  ⟨h.i3.set3 h.h7, ((h.z6.far h.ne.symm _).far h.ne.symm _).far h.ne.symm _, h.z7.set s t u, h.ne, h.h6, h.h7⟩
theorem Duo.drew {w wx : World} {X Y Z : Obj} {B6 B7 : Nat} {p q r p' q' r' : Value} (h : Duo w X Y Z B6 B7 p q r p' q' r' wx) : Duo w X Y Z B6 B7 p q r p' q' r' wx.drew := h.below (drew_below _)
theorem duo3 {w wx : World} {X Y Z : Obj} {B6 B7 : Nat} {p q r p' q' r' : Value} (h : Duo w X Y Z B6 B7 p q r p' q' r' wx) (s t u s' t' u' : Value) :
    ∃ W, W = ((((((wx.setCell ⟨B6, 0, none⟩ s).setCell ⟨B6, 1, none⟩ t).setCell ⟨B6, 2, none⟩ u).setCell ⟨B7, 0, none⟩ s').setCell ⟨B7, 1, none⟩ t').setCell ⟨B7, 2, none⟩ u').drew ∧ Duo w X Y Z B6 B7 s t u s' t' u' W :=
  ⟨_, rfl, ((h.set6 s t u).set7 s' t' u').drew⟩
theorem duo4 {w wx : World} {X Y Z : Obj} {B6 B7 : Nat} {p q r p' q' r' : Value} (h : Duo w X Y Z B6 B7 p q r p' q' r' wx) (s t u s' t' u' : Value) :
    ∃ W, W = ((((((wx.setCell ⟨B7, 0, none⟩ s').setCell ⟨B7, 1, none⟩ t').setCell ⟨B7, 2, none⟩ u').setCell ⟨B6, 0, none⟩ s).setCell ⟨B6, 1, none⟩ t).setCell ⟨B6, 2, none⟩ u).drew ∧ Duo w X Y Z B6 B7 s t u s' t' u' W :=
  ⟨_, rfl, ((h.set7 s' t' u').set6 s t u).drew⟩

/-- What is kept while the outcome is made. -/
structure Kin (w : World) (X Y Z : Obj) (av : Option Addr) (P : List Int) (wx : World) : Prop where
  i3 : In3 w X Y Z wx
  new : NewIn (w.heap.size + 3) wx av P
theorem Kin.below {w wx w1 : World} {X Y Z : Obj} {av : Option Addr} {P : List Int} (h : Kin w X Y Z av P wx) (hb : Below wx.heap.size wx w1) : Kin w X Y Z av P w1 := ⟨h.i3.next hb, h.new.below hb⟩
theorem Row.newin {R n c : Nat} {w : World} {a : Option Addr} {l : List Int} (h : Row R w (.slice a l.length c) l) (hI : ∀ n ∈ l, I64 n) (hn : n ≤ R) : NewIn n w a l ∧ l.length ≤ c := by
  obtain ⟨⟨h1, h2⟩, h3⟩ := row_off (B := w.heap.size) h hI hn (Or.inr (Nat.le_refl _))
  exact ⟨⟨h1, fun p hp => (h2 p hp).1⟩, h3⟩
theorem ofList_kind (P : List Int) : I64 (ofList P).kind := by
  unfold ofList I64
  by_cases h : P.length = 1 <;> simp [h]

/-- A list's outcome gets its default. -/
theorem wish_list96 (P : List Int) (x y : Ch) (av : Option Addr) (cv : Nat) (vx vy : Value) (w : World) (hin : IntsIn w av P) (hlen : 1 ≤ P.length) (hlen2 : P.length ≤ 100) (hcap : P.length ≤ cv) (hx : ChIn w x vx) (hy : ChIn w y vy) :
    Calls Tryz.prog 96 #[.agg #[.int .i64 (ofList P).kind, .int .i64 0, .slice av P.length cv], vx, vy] w fun e w' => e = .returned (.agg #[.int .i64 (ofList P).kind, .int .i64 (wishC (ofList P) x.dflt y.dflt), .slice av P.length cv]) ∧ Below w.heap.size w w' :=
  wished_any (ofList P) x y av cv vx vy w ⟨av, cv, rfl, ofList_kind P, by unfold ofList I64; simp, by show P.length ≤ _; omega, hin, hcap⟩ hx hy (Or.inl (ofList_isList P)) hlen
/-- An outcome that is a list. -/
theorem listOut {P : List Int} {x y : Ch} {o : Option Ch} (ho : o = some ((ofList P).wished x.dflt y.dflt)) (hx : I64 x.dflt) (hy : I64 y.dflt) (hP : boundB P = true) (hlen : P.length ≤ 100) {n : Nat} {w : World} {av : Option Addr} {cv : Nat} (h : NewIn n w av P) (hcap : P.length ≤ cv) :
    ChNew n w (o.getD zCh) (.agg #[.int .i64 (ofList P).kind, .int .i64 (wishC (ofList P) x.dflt y.dflt), .slice av P.length cv]) ∧ o.isSome = true := by
  subst ho
  exact ⟨⟨av, cv, rfl, ofList_kind P, wish_num hx hy hP, by show P.length ≤ _; omega, h, hcap⟩, rfl⟩
end Go.Proofs.YtlpdeadmiinhoaaGreatDoor
