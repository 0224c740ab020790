/- How two choices meet, walked: where they do. Helpers. -/
import Derived.Test.YtlpdeadmiinhoaaGreatDoorHH
namespace Go.Proofs.YtlpdeadmiinhoaaGreatDoor
open Go.RowKit

def wishN : Nums → Int → Int → Int
  | .list l, x, y => wishL l x y
  | .step s, x, y => wishS s x y
def NumsFull : Nums → Prop
  | .list l => 1 ≤ l.length
  | .step _ => True

theorem wish_any (n : Nums) (v : Value) (x y : Int) (w : World) (h : NumsIn w n v) (hf : NumsFull n) :
    Calls Tryz.prog 94 #[v, .int .i64 x, .int .i64 y] w fun e w' => e = .returned (.int .i64 (wishN n x y)) ∧ Below w.heap.size w w' := by
  cases n with
  | list l =>
    obtain ⟨a, cap, rfl, h2, h3⟩ := h
    exact (wish_list l a cap x y w hf h2 h3).mono fun e w' ⟨h1, h2⟩ => ⟨h1, by rw [← h2]; exact Below.refl _ _⟩
  | step s =>
    obtain ⟨rfl, hs⟩ := h
    exact wish_step s x y w hs

theorem nums_wished (C : Ch) (x y : Int) : numsOf (C.wished x y) = numsOf C := rfl
theorem wish_eq {C : Ch} {x y : Int} (hv : validC (C.wished x y) = true) : wishN (numsOf C) x y = wishC C x y ∧ NumsFull (numsOf C) := by
  rw [← nums_wished C x y]
  cases hl : C.isList with
  | true =>
    have hl' : (C.wished x y).isList = true := hl
    have h1 := valid_list hv hl'
    rw [nums_of_list hv hl']
    refine ⟨?_, h1.2.1⟩
    unfold wishN wishL wishC
    rw [has_list hl, has_list hl]
    rfl
  | false =>
    have hl' : (C.wished x y).isList = false := hl
    rw [nums_of_sp hv hl']
    refine ⟨?_, trivial⟩
    unfold wishN wishS wishC
    rw [has_sp hl, has_sp hl]
    rfl

/-- Numbers whose row lies off one block, and not below a bound. -/
def OffIn (w : World) (n B : Nat) (a : Option Addr) (l : List Int) : Prop := IntsIn w a l ∧ ∀ p, a = some p → n ≤ p.block ∧ p.block ≠ B ∧ p.block < w.heap.size
theorem row_off {R n B : Nat} {w : World} {a : Option Addr} {c : Nat} {l : List Int} (h : Row R w (.slice a l.length c) l) (hI : ∀ n ∈ l, I64 n) (hR : n ≤ R) (hB : B < R ∨ w.heap.size ≤ B) : OffIn w n B a l ∧ l.length ≤ c := by
  have h0 := h
  obtain ⟨a', c', he, h1, h2⟩ := h0.out hI
  cases he
  refine ⟨⟨h1, fun p hp => ?_⟩, h2⟩
  subst hp
  have h3 := World.ownsRow.lt h p.block rfl
  omega
theorem OffIn.below {w w1 : World} {n B : Nat} {a : Option Addr} {l : List Int} (h : OffIn w n B a l) (hb : Below w.heap.size w w1) : OffIn w1 n B a l :=
  ⟨h.1.mono (Same.of_below hb), fun p hp => by obtain ⟨h1, h2, h3⟩ := h.2 p hp; have := hb.size; exact ⟨h1, h2, by omega⟩⟩
theorem OffIn.set {w : World} {n B : Nat} {a : Option Addr} {l : List Int} (h : OffIn w n B a l) {p : Addr} (hp : p.block = B ∨ p.block < n) (v : Value) : OffIn (w.setCell p v) n B a l := by
  refine ⟨fun i hi => ?_, fun q hq => by obtain ⟨h1, h2, h3⟩ := h.2 q hq; exact ⟨h1, h2, by simpa using h3⟩⟩
  obtain ⟨b, off, ha, hc, hb⟩ := h.1 i hi
  obtain ⟨h1, h2, h3⟩ := h.2 _ ha
  refine ⟨b, off, ha, ?_, hb⟩
  rw [World.cell?_setCell_far _ _ _ _ (by simp only at h1 h2 ⊢; omega)]
  exact hc

/-- Numbers that lie behind a bound. -/
def NewIn (n : Nat) (w : World) (a : Option Addr) (l : List Int) : Prop := IntsIn w a l ∧ ∀ p, a = some p → n ≤ p.block
theorem NewIn.below {n : Nat} {w w1 : World} {a : Option Addr} {l : List Int} (h : NewIn n w a l) (hb : Below w.heap.size w w1) : NewIn n w1 a l := ⟨h.1.mono (Same.of_below hb), h.2⟩
theorem NewIn.set {n : Nat} {w : World} {a : Option Addr} {l : List Int} (h : NewIn n w a l) {p : Addr} (hp : p.block < n) (v : Value) : NewIn n (w.setCell p v) a l := by
  refine ⟨fun i hi => ?_, h.2⟩
  obtain ⟨b, off, ha, hc, hb⟩ := h.1 i hi
  have h1 := h.2 _ ha
  refine ⟨b, off, ha, ?_, hb⟩
  rw [World.cell?_setCell_far _ _ _ _ (by simp only at h1 ⊢; omega)]
  exact hc
theorem NewIn.weaken {n n' : Nat} {w : World} {a : Option Addr} {l : List Int} (h : NewIn n w a l) (hn : n' ≤ n) : NewIn n' w a l := ⟨h.1, fun p hp => Nat.le_trans hn (h.2 p hp)⟩
/-- A choice whose list is new. -/
def ChNew (n : Nat) (w : World) (c : Ch) (v : Value) : Prop :=
  ∃ a cap, v = .agg #[.int .i64 c.kind, .int .i64 c.dflt, .slice a c.list.length cap] ∧ I64 c.kind ∧ I64 c.dflt ∧ c.list.length ≤ 17592186044416 ∧ NewIn n w a c.list ∧ c.list.length ≤ cap
theorem ChNew.chin {n : Nat} {w : World} {c : Ch} {v : Value} (h : ChNew n w c v) : ChIn w c v := by
  obtain ⟨a, cap, h1, h2, h3, h4, h5, h6⟩ := h
  exact ⟨a, cap, h1, h2, h3, h4, h5.1, h6⟩
/-- A choice is handed back, and that two meet. -/
def MeetYes (w : World) (D : Ch) (e : Ending) (w' : World) : Prop := ∃ v, e = .returned (.tuple #[v, .bool true]) ∧ ChNew w.heap.size w' D v ∧ Below w.heap.size w w'
theorem OffIn.new {w : World} {n n' B : Nat} {a : Option Addr} {l : List Int} (h : OffIn w n B a l) (hn : n' ≤ n) : NewIn n' w a l := ⟨h.1, fun p hp => Nat.le_trans hn (h.2 p hp).1⟩
theorem ints_of_bound {l : List Int} (h : boundB l = true) : ∀ n ∈ l, I64 n := fun n hn => by have := boundB_mem h hn; unfold I64; omega

theorem wish_num {C : Ch} {x y : Int} (hx : I64 x) (hy : I64 y) (hz : boundB C.list = true) : I64 (wishC C x y) := by
  unfold wishC
  split
  · exact hx
  · split
    · exact hy
    · by_cases h : 0 < C.list.length
      · have := boundB_at hz 0 h; unfold I64; omega
      · have e : C.list.getD 0 0 = 0 := by
          have : C.list = [] := List.eq_nil_of_length_eq_zero (by omega)
          rw [this]; rfl
        rw [e]; unfold I64; omega

theorem chs_off_set {w wr : World} {X Y Z : Obj} {R B c : Nat} {x' y' z' : Value} {a : Option Addr} {l : List Int} (h : Zch wr B x' y' z') (hi : In3 w X Y Z wr) (hr : Row R wr (.slice a l.length c) l) (hI : ∀ n ∈ l, I64 n) (hB : w.heap.size + 3 ≤ B) (hBR : B < R) (x y z : Value) :
    ∃ Wd Bd, Wd = (((wr.setCell ⟨B, 0, none⟩ x).setCell ⟨B, 1, none⟩ y).setCell ⟨B, 2, none⟩ z) ∧ Bd = B ∧ Zch Wd Bd x y z ∧ In3 w X Y Z Wd ∧ OffIn Wd (w.heap.size + 3) Bd a l ∧ l.length ≤ c ∧ w.heap.size + 3 ≤ Bd := by
  obtain ⟨h1, h2⟩ := chs_set h hi hB x y z
  obtain ⟨h3, h4⟩ := row_off hr hI (show w.heap.size + 3 ≤ R by omega) (Or.inl hBR)
  exact ⟨_, _, rfl, rfl, h1, h2, ((h3.set (Or.inl rfl) _).set (Or.inl rfl) _).set (Or.inl rfl) _, h4, hB⟩
theorem chs_off_new {w wr : World} {X Y Z : Obj} {R c : Nat} {a : Option Addr} {l : List Int} (hi : In3 w X Y Z wr) (hr : Row R wr (.slice a l.length c) l) (hI : ∀ n ∈ l, I64 n) (hR : w.heap.size + 3 ≤ R) (x y z : Value) :
    ∃ Wd Bd, Wd = wr.alloc (.cells #[x, y, z] 24) ∧ Bd = wr.heap.size ∧ Zch Wd Bd x y z ∧ In3 w X Y Z Wd ∧ OffIn Wd (w.heap.size + 3) Bd a l ∧ l.length ≤ c ∧ w.heap.size + 3 ≤ Bd := by
  obtain ⟨h1, h2⟩ := chs_new hi x y z
  obtain ⟨h3, h4⟩ := row_off hr hI hR (B := wr.heap.size) (Or.inr (Nat.le_refl _))
  exact ⟨_, _, rfl, rfl, h1, h2, h3.below ((Below.refl _ _).alloc (Nat.le_refl _) _), h4, hi.size⟩

/-- What is kept while the default is asked for. -/
structure Tri (w : World) (X Y Z : Obj) (B : Nat) (p q r : Value) (a : Option Addr) (l : List Int) (wx : World) : Prop where
  i3 : In3 w X Y Z wx
  zc : Zch wx B p q r
  off : OffIn wx (w.heap.size + 3) B a l
theorem Tri.below {w wx w1 : World} {X Y Z : Obj} {B : Nat} {p q r : Value} {a : Option Addr} {l : List Int} (h : Tri w X Y Z B p q r a l wx) (hb : Below wx.heap.size wx w1) : Tri w X Y Z B p q r a l w1 :=
  ⟨h.i3.next hb, h.zc.below hb, h.off.below hb⟩
theorem Tri.ints {w wx : World} {X Y Z : Obj} {B : Nat} {p q r : Value} {a : Option Addr} {l : List Int} (h : Tri w X Y Z B p q r a l wx) : IntsIn wx a l := h.off.1
theorem Tri.drew {w wx : World} {X Y Z : Obj} {B : Nat} {p q r : Value} {a : Option Addr} {l : List Int} (h : Tri w X Y Z B p q r a l wx) : Tri w X Y Z B p q r a l wx.drew := h.below (Below.drew (Below.refl _ _))
theorem Zch.set1 {w : World} {B : Nat} {x y' z : Value} (h : Zch w B x y' z) (y : Value) : Zch (w.setCell ⟨B, 1, none⟩ y) B x y z := by
  obtain ⟨c0, c1, c2, f0, f1, f2, lt⟩ := h
  exact ⟨by simp [go_sem, c0], by simp [go_sem, c1], by simp [go_sem, c2], by simp [go_sem, f0], by simp [go_sem, f1], by simp [go_sem, f2], by simpa using lt⟩
theorem Tri.set1 {w wx : World} {X Y Z : Obj} {B : Nat} {p q r : Value} {a : Option Addr} {l : List Int} (h : Tri w X Y Z B p q r a l wx) (hB : w.heap.size + 3 ≤ B) (v : Value) : ∃ W2, W2 = wx.setCell ⟨B, 1, none⟩ v ∧ Tri w X Y Z B p v r a l W2 :=
  ⟨_, rfl, h.i3.set hB v, h.zc.set1 v, h.off.set (Or.inl rfl) v⟩
end Go.Proofs.YtlpdeadmiinhoaaGreatDoor
