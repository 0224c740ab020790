/- The law on two choices: helpers. -/
import Derived.Test.YtlpdeadmiinhoaaGreatDoorII
namespace Go.Proofs.YtlpdeadmiinhoaaGreatDoor
open Go.RowKit

def hasB (c : Ch) (n : Int) : Bool := validC c && c.has n
def hasE (c : Ch) : Int := if validC c = true then 0 else 1
theorem hasV_eq (c : Ch) (n : Int) : hasV c n = .tuple #[.bool (hasB c n), .int .i64 (hasE c)] := by
  unfold hasV hasB hasE
  cases validC c <;> simp

/-- The first numbers of two, and the boxes. -/
structure Rws (w : World) (X Y : Obj) (L : List Int) (a1 a2 : Option Addr) (c1 c2 : Nat) (wr : World) : Prop where
  i2 : In2 w X Y wr
  l1 : IntsIn wr a1 L
  l2 : IntsIn wr a2 L
  h1 : L.length ≤ c1
  h2 : L.length ≤ c2
theorem Rws.next {w wr w1 : World} {X Y : Obj} {L : List Int} {a1 a2 : Option Addr} {c1 c2 : Nat} (h : Rws w X Y L a1 a2 c1 c2 wr) (hb : Below wr.heap.size wr w1) : Rws w X Y L a1 a2 c1 c2 w1 :=
  ⟨h.i2.next hb, h.l1.mono (Same.of_below hb), h.l2.mono (Same.of_below hb), h.h1, h.h2⟩
theorem Rws.drew {w wr : World} {X Y : Obj} {L : List Int} {a1 a2 : Option Addr} {c1 c2 : Nat} (h : Rws w X Y L a1 a2 c1 c2 wr) : Rws w X Y L a1 a2 c1 c2 wr.drew := h.next (Below.drew (Below.refl _ _))

/-- A choice's parts. -/
def Pts (w : World) (D : Ch) (a : Option Addr) (c : Nat) : Prop := I64 D.kind ∧ I64 D.dflt ∧ D.list.length ≤ 17592186044416 ∧ IntsIn w a D.list ∧ D.list.length ≤ c
def chV (D : Ch) (a : Option Addr) (c : Nat) : Value := .agg #[.int .i64 D.kind, .int .i64 D.dflt, .slice a D.list.length c]
theorem Pts.chin {w : World} {D : Ch} {a : Option Addr} {c : Nat} (h : Pts w D a c) : ChIn w D (chV D a c) := ⟨a, c, rfl, h⟩
theorem Pts.below {w w1 : World} {D : Ch} {a : Option Addr} {c : Nat} (h : Pts w D a c) (hb : Below w.heap.size w w1) : Pts w1 D a c :=
  ⟨h.1, h.2.1, h.2.2.1, h.2.2.2.1.mono (Same.of_below hb), h.2.2.2.2⟩
/-- A choice in a box of the call's own. -/
structure Bxd (wr : World) (B : Nat) (D : Ch) (a : Option Addr) (c : Nat) : Prop where
  c0 : wr.cell? ⟨B, 0, none⟩ = some (.int .i64 D.kind)
  c1 : wr.cell? ⟨B, 1, none⟩ = some (.int .i64 D.dflt)
  c2 : wr.cell? ⟨B, 2, none⟩ = some (.slice a D.list.length c)
  pt : Pts wr D a c
  lt : B < wr.heap.size
theorem Bxd.below {wr w1 : World} {B : Nat} {D : Ch} {a : Option Addr} {c : Nat} (h : Bxd wr B D a c) (hb : Below wr.heap.size wr w1) : Bxd w1 B D a c := by
  have hs := hb.size
  exact ⟨by rw [hb.cell h.lt]; exact h.c0, by rw [hb.cell h.lt]; exact h.c1, by rw [hb.cell h.lt]; exact h.c2, h.pt.below hb, by have := h.lt; omega⟩
theorem Bxd.drew {wr : World} {B : Nat} {D : Ch} {a : Option Addr} {c : Nat} (h : Bxd wr B D a c) : Bxd wr.drew B D a c := h.below (Below.drew (Below.refl _ _))

/-- Meet's outcome. -/
def MtR (w wr : World) (X Y : Obj) (D : Ch) (b : Bool) (E : Int) (e : Ending) (w' : World) : Prop :=
  ∃ a c, e = .returned (.tuple #[.agg #[.int .i64 D.kind, .int .i64 D.dflt, .slice a D.list.length c], .bool b, .int .i64 E]) ∧ Pts w' D a c ∧ In2 w X Y w' ∧ Below wr.heap.size wr w'
theorem mtR_of {w wr : World} {X Y : Obj} {o : Option Ch} {E : Int} (h : In2 w X Y wr) (f : Nat) (args : Array Value) (hc : Calls Tryz.prog f args wr (Meet3 wr o E)) :
    Calls Tryz.prog f args wr (MtR w wr X Y (o.getD zCh) o.isSome E) := hc.mono fun e w' ⟨v, h1, ⟨a, c, h2, h3, h4, h5, h6, h7⟩, h8⟩ => ⟨a, c, by rw [h1, h2], ⟨h3, h4, h5, h6.1, h7⟩, h.next h8, h8⟩

/-- A choice is stored into a new box. -/
theorem law_pack {w wr : World} {X Y : Obj} {D : Ch} {a : Option Addr} {c : Nat} (hi : In2 w X Y wr) (hp : Pts wr D a c) :
    ∃ W B, W = wr.alloc (.cells #[.int .i64 D.kind, .int .i64 D.dflt, .slice a D.list.length c] 24) ∧ B = wr.heap.size ∧ In2 w X Y W ∧ Bxd W B D a c ∧ Below wr.heap.size wr W := by
  have hb : Below wr.heap.size wr (wr.alloc (.cells #[.int .i64 D.kind, .int .i64 D.dflt, .slice a D.list.length c] 24)) := (Below.refl _ wr).alloc (Nat.le_refl _) _
  exact ⟨_, _, rfl, rfl, hi.next hb, ⟨by simp [go_sem], by simp [go_sem], by simp [go_sem], hp.below hb, by simp⟩, hb⟩
/-- Two choices' parts are one. -/
theorem calls_same {w wr : World} {X Y : Obj} {D : Ch} {a a' : Option Addr} {c c' : Nat} (hi : In2 w X Y wr) (h : Pts wr D a c) (h' : Pts wr D a' c') :
    Calls Tryz.prog 19 #[.agg #[.int .i64 D.kind, .int .i64 D.dflt, .slice a D.list.length c], .agg #[.int .i64 D.kind, .int .i64 D.dflt, .slice a' D.list.length c']] wr fun e w' => e = .returned (.bool true) ∧ In2 w X Y w' ∧ Below wr.heap.size wr w' :=
  (sameChoice_any D D _ _ wr h.chin h'.chin).mono fun e w' ⟨h1, h2⟩ => ⟨by rw [h1]; unfold sameB; simp, hi.next h2, h2⟩

/-- What the last region looks at. -/
structure Kp (w : World) (X Y : Obj) (B2 B3 : Nat) (D D2 : Ch) (a7 : Option Addr) (c7 : Nat) (a10 : Option Addr) (c10 : Nat) (wx : World) : Prop where
  i2 : In2 w X Y wx
  b2 : Bxd wx B2 D a7 c7
  b3 : Bxd wx B3 D2 a10 c10
theorem Kp.next {w wr w1 : World} {X Y : Obj} {B2 B3 : Nat} {D D2 : Ch} {a7 a10 : Option Addr} {c7 c10 : Nat} (h : Kp w X Y B2 B3 D D2 a7 c7 a10 c10 wr) (hb : Below wr.heap.size wr w1) : Kp w X Y B2 B3 D D2 a7 c7 a10 c10 w1 :=
  ⟨h.i2.next hb, h.b2.below hb, h.b3.below hb⟩
theorem Kp.drew {w wr : World} {X Y : Obj} {B2 B3 : Nat} {D D2 : Ch} {a7 a10 : Option Addr} {c7 c10 : Nat} (h : Kp w X Y B2 B3 D D2 a7 c7 a10 c10 wr) : Kp w X Y B2 B3 D D2 a7 c7 a10 c10 wr.drew := h.next (Below.drew (Below.refl _ _))
theorem calls_kp {w wr : World} {X Y : Obj} {B2 B3 : Nat} {D D2 : Ch} {a7 a10 : Option Addr} {c7 c10 : Nat} {f : Nat} {args : Array Value} {v : Value} (h : Kp w X Y B2 B3 D D2 a7 c7 a10 c10 wr) (c : Calls Tryz.prog f args wr fun e w' => e = .returned v ∧ Below wr.heap.size wr w') :
    Calls Tryz.prog f args wr fun e w' => e = .returned v ∧ Kp w X Y B2 B3 D D2 a7 c7 a10 c10 w' := c.mono fun e w' ⟨a, b⟩ => ⟨a, h.next b⟩

theorem numList_small {w : World} {x : Ch} {v : Value} (h : ChIn w x v) (most : Int) : (numList x most).length ≤ 17592186044416 := by
  obtain ⟨_, _, _, _, _, h4, _⟩ := h
  unfold numList
  split
  · split
    · unfold firstN
      split
      · rw [List.length_take]; omega
      · rw [firsts_length]; omega
    · simp
  · simp
theorem sameB_self (D : Ch) : sameB D D = true := by unfold sameB; simp
theorem rows_self (L : List Int) : (L == L) = true := by simp

/-- A guarded operation that does not run comes up first. -/
theorem anyT_skip {P : Program} {ops : Array Oper} {Q : Exit → Act → World → Prop} {md : Region.Mode} {S : World → Prop} {tl : List Nat} {i : Nat} {oi : Oper} {fuel : Nat} {listed : Array Bool} {a : Act} {w : World} (hi : ops[i]? = some oi)
    (hs : Region.noSelect ops = true) (hf : Region.free md ops listed i = true) (hr : (Region.ready md ops listed).contains i = true) (htl : (waitAll md ops tl i && closedB md ops listed) = true)
    (hQ : ∀ c a w, Q (.panic c) (a.put oi.dst undef) w → Q (.panic c) a w) (hw : Region.wanted oi (yielded ops a.tmps) = false) (hS : S w)
    (h : anyT P md ops Q S tl fuel (listed.setIfInBounds i true) (a.put oi.dst undef) w) : anyT P md ops Q S tl (fuel + 1) listed a w :=
  anyT_take hi hs hf hr htl hQ (Or.inr ⟨hw, rfl⟩) hS h
end Go.Proofs.YtlpdeadmiinhoaaGreatDoor
