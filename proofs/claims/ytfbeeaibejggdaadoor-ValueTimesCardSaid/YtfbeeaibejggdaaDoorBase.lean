/- Trees of values: what a value in memory stands for, and that it stays. -/
import Derived.WalkKit
import Derived.WalkSpells
import Derived.WalkLawsBesides
import Derived.Lib.Hide
namespace Go.Proofs.YtfbeeaibejggdaaDoor
open Go.RowKit

/-- A value without its addresses. -/
inductive T where
  | mk (kind n : Int) (s : ByteArray) (keys : List Int) (kids : List T)

def T.kind : T → Int | .mk k _ _ _ _ => k
def T.n : T → Int | .mk _ n _ _ _ => n
def T.s : T → ByteArray | .mk _ _ s _ _ => s
def T.keys : T → List Int | .mk _ _ _ l _ => l
def T.kids : T → List T | .mk _ _ _ _ l => l

def I64 (n : Int) : Prop := -9223372036854775808 ≤ n ∧ n ≤ 9223372036854775807

def KeysIn (w : World) (a : Option Addr) (keys : List Int) : Prop :=
  ∀ i, i < keys.length → ∃ b off, a = some ⟨b, off, none⟩ ∧ w.cell? ⟨b, off + i, none⟩ = some (.int .i64 (keys.getD i 0)) ∧ I64 (keys.getD i 0)

mutual
def Rep (w : World) : T → Value → Prop
  | .mk k n s keys kids, v => ∃ (ka va : Option Addr) (kc vc : Nat), v = .agg #[.int .i64 k, .int .i64 n, .string s, .slice ka keys.length kc, .slice va kids.length vc] ∧
      I64 k ∧ I64 n ∧ s.size ≤ 140737488355328 ∧ keys.length ≤ 17592186044416 ∧ kids.length ≤ 17592186044416 ∧ KeysIn w ka keys ∧ KidsIn w va 0 kids
def KidsIn (w : World) (a : Option Addr) : Nat → List T → Prop
  | _, [] => True
  | i, t :: r => (∃ b off v0 v1 v2 v3 v4, a = some ⟨b, off, none⟩ ∧ w.cell? ⟨b, off + i * 5, none⟩ = some v0 ∧ w.cell? ⟨b, off + i * 5 + 1, none⟩ = some v1 ∧ w.cell? ⟨b, off + i * 5 + 2, none⟩ = some v2 ∧ w.cell? ⟨b, off + i * 5 + 3, none⟩ = some v3 ∧ w.cell? ⟨b, off + i * 5 + 4, none⟩ = some v4 ∧
      Rep w t (.agg #[v0, v1, v2, v3, v4])) ∧ KidsIn w a (i + 1) r
end

theorem cell_lt {w : World} {a : Addr} {v : Value} (h : w.cell? a = some v) : a.block < w.heap.size := by
  unfold World.cell? at h
  by_cases hb : a.block < w.heap.size
  · exact hb
  · rw [Array.getElem?_eq_none (by omega)] at h
    simp at h

/-- What lies below a block's number is as it was. -/
def Same (w w' : World) : Prop := ∀ a : Addr, a.block < w.heap.size → w'.cell? a = w.cell? a

theorem Same.of_below {w w' : World} (h : Below w.heap.size w w') : Same w w' := fun _ ha => h.cell ha
theorem Same.of_below' {B : Nat} {w w' : World} (h : Below B w w') (hB : w.heap.size ≤ B) : Same w w' := fun _ ha => h.cell (Nat.lt_of_lt_of_le ha hB)

theorem Same.of_box {w wr : World} {o : Obj} (h : Below (w.heap.size + 1) (w.alloc o) wr) : Same w wr := fun a ha => by
  rw [h.cell (by omega)]
  exact World.cell?_of_block (w := w) (Below.heap_alloc w o a.block ha)

theorem Same.cell {w w' : World} (h : Same w w') {a : Addr} {v : Value} (hc : w.cell? a = some v) : w'.cell? a = some v := by
  rw [h a (cell_lt hc)]; exact hc

theorem KeysIn.mono {w w' : World} (h : Same w w') {a : Option Addr} {keys : List Int} (hk : KeysIn w a keys) : KeysIn w' a keys := by
  intro i hi
  obtain ⟨b, off, ha, hc, hb⟩ := hk i hi
  exact ⟨b, off, ha, h.cell hc, hb⟩

mutual
theorem Rep.mono {w w' : World} (h : Same w w') : ∀ (t : T) (v : Value), Rep w t v → Rep w' t v
  | .mk k n s keys kids, v, hr => by
    unfold Rep at hr ⊢
    obtain ⟨ka, va, kc, vc, hv, h1, h2, h3, h4, h5, hk, hkids⟩ := hr
    exact ⟨ka, va, kc, vc, hv, h1, h2, h3, h4, h5, hk.mono h, KidsIn.mono h kids va 0 hkids⟩
theorem KidsIn.mono {w w' : World} (h : Same w w') : ∀ (l : List T) (a : Option Addr) (i : Nat), KidsIn w a i l → KidsIn w' a i l
  | [], _, _, _ => by unfold KidsIn; trivial
  | t :: r, a, i, hk => by
    unfold KidsIn at hk ⊢
    obtain ⟨⟨b, off, v0, v1, v2, v3, v4, ha, h0, h1, h2, h3, h4, hr⟩, hrest⟩ := hk
    exact ⟨⟨b, off, v0, v1, v2, v3, v4, ha, h.cell h0, h.cell h1, h.cell h2, h.cell h3, h.cell h4, Rep.mono h t _ hr⟩, KidsIn.mono h r a (i + 1) hrest⟩
end

theorem KidsIn.at {w : World} {a : Option Addr} : ∀ (l : List T) (i j : Nat) (hj : j < l.length), KidsIn w a i l →
    ∃ b off v0 v1 v2 v3 v4, a = some ⟨b, off, none⟩ ∧ w.cell? ⟨b, off + (i + j) * 5, none⟩ = some v0 ∧ w.cell? ⟨b, off + (i + j) * 5 + 1, none⟩ = some v1 ∧ w.cell? ⟨b, off + (i + j) * 5 + 2, none⟩ = some v2 ∧ w.cell? ⟨b, off + (i + j) * 5 + 3, none⟩ = some v3 ∧ w.cell? ⟨b, off + (i + j) * 5 + 4, none⟩ = some v4 ∧
      Rep w l[j] (.agg #[v0, v1, v2, v3, v4])
  | [], _, j, hj, _ => absurd hj (Nat.not_lt_zero _)
  | t :: r, i, j, hj, hk => by
    unfold KidsIn at hk
    cases j with
    | zero => exact hk.1
    | succ j =>
      have := KidsIn.at r (i + 1) j (by simpa using hj) hk.2
      rw [show i + 1 + j = i + (j + 1) by omega] at this
      exact this

theorem kid_size {kd n : Int} {s : ByteArray} {keys : List Int} {kids : List T} {N k : Nat} (h : SizeOf.sizeOf (T.mk kd n s keys kids) ≤ N + 1) (hk : k < kids.length) : SizeOf.sizeOf kids[k] ≤ N := by
  have h1 := List.sizeOf_lt_of_mem (List.getElem_mem hk)
  rw [T.mk.sizeOf_spec] at h
  omega

theorem take_next {α : Type} (l : List α) (k : Nat) (h : k < l.length) : l.take (k + 1) = l.take k ++ [l[k]] := List.take_succ_eq_append_getElem h

theorem take_end {α : Type} (l : List α) (k : Nat) (h : k ≤ l.length) (h' : ¬ k < l.length) : l.take k = l := List.take_of_length_le (by omega)

mutual
def weightT : T → Int → Int
  | .mk _ _ s keys kids, left => weightL kids (left - 1 - keys.length - s.size / 64)
def weightL : List T → Int → Int
  | [], l => l
  | t :: r, l => weightL r (if 0 < l then weightT t l else l)
end

theorem weightL_snoc (t : T) : ∀ (xs : List T) (l : Int), weightL (xs ++ [t]) l = if 0 < weightL xs l then weightT t (weightL xs l) else weightL xs l
  | [], l => by simp only [List.nil_append, weightL]; by_cases h : 0 < l <;> simp [h]
  | x :: r, l => by simp only [List.cons_append, weightL]; exact weightL_snoc t r _

theorem weightL_le : ∀ (xs : List T) (l : Int), l ≤ 0 → weightL xs l = l
  | [], l, _ => by simp [weightL]
  | x :: r, l, h => by simp only [weightL]; rw [if_neg (by omega)]; exact weightL_le r l h

theorem weightL_append : ∀ (xs ys : List T) (l : Int), weightL (xs ++ ys) l = weightL ys (weightL xs l)
  | [], _, l => by simp [weightL]
  | x :: r, ys, l => by simp only [List.cons_append, weightL]; exact weightL_append r ys _

mutual
theorem weightT_le : ∀ (t : T) (l : Int), weightT t l ≤ l - 1
  | .mk _ _ s keys kids, l => by
    have := weightL_le' kids (l - 1 - keys.length - s.size / 64)
    rw [weightT]; omega
theorem weightL_le' : ∀ (xs : List T) (l : Int), weightL xs l ≤ l
  | [], l => by simp [weightL]
  | t :: r, l => by
    have h1 := weightT_le t l
    have h2 := weightL_le' r (if 0 < l then weightT t l else l)
    rw [weightL]; split at h2 <;> split <;> omega
end

theorem weightL_stop (xs : List T) (k : Nat) (l : Int) (h : weightL (xs.take k) l ≤ 0) : weightL xs l = weightL (xs.take k) l := by
  have := weightL_append (xs.take k) (xs.drop k) l
  rw [List.take_append_drop, weightL_le _ _ h] at this
  exact this

end Go.Proofs.YtfbeeaibejggdaaDoor
