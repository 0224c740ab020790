/- The levels that a rounding with a state of its own gives, spot by spot; the bytes of levels. -/
import Derived.Test.YtegomicpolnpoaaUF
import Derived.Test.YtegomicpolnpoaaUD
namespace Go.Proofs.Ytegomicpolnpoaa
open Go.RowKit Go.Deep Go.Shelf

section
variable {σ : Type} (lv : σ → Nat → Int → Int) (nx : σ → Nat → Int → σ) (m : List (List Int))
/-- The state behind spots; each spot with its level. -/
def stTo (s : σ) (l : List (Nat × Nat)) : σ := l.foldl (fun s x => nx s x.1 (smpAt m x)) s
def lvTo : σ → List (Nat × Nat) → List ((Nat × Nat) × Int)
  | _, [] => []
  | s, x :: l => (x, lv s x.1 (smpAt m x)) :: lvTo (nx s x.1 (smpAt m x)) l
variable {lv nx m}
theorem stTo_append (s : σ) (l : List (Nat × Nat)) (x : Nat × Nat) : stTo nx m s (l ++ [x]) = nx (stTo nx m s l) x.1 (smpAt m x) := by simp [stTo]
theorem lvTo_append (l : List (Nat × Nat)) (x : Nat × Nat) : ∀ s : σ, lvTo lv nx m s (l ++ [x]) = lvTo lv nx m s l ++ [(x, lv (stTo nx m s l) x.1 (smpAt m x))] := by
  induction l with
  | nil => intro s; simp [lvTo, stTo]
  | cons y l ih => intro s; simp only [List.cons_append, lvTo]; rw [ih]; simp [stTo]
theorem lvTo_fst (l : List (Nat × Nat)) : ∀ s : σ, (lvTo lv nx m s l).map Prod.fst = l := by
  induction l with
  | nil => intro s; rfl
  | cons y l ih => intro s; simp [lvTo, ih]
theorem lvTo_mem {s : σ} {l : List (Nat × Nat)} {p : (Nat × Nat) × Int} (h : p ∈ lvTo lv nx m s l) : p.1 ∈ l := by
  have : p.1 ∈ (lvTo lv nx m s l).map Prod.fst := List.mem_map.2 ⟨p, h, rfl⟩
  rwa [lvTo_fst] at this
end

theorem divE {a b c : Nat} (h : c < b) : (a * b + c) / b = a := by
  rw [Nat.mul_comm, Nat.mul_add_div (by omega), Nat.div_eq_of_lt h, Nat.add_zero]
/-- The place of a spot. -/
def placeOf (p : Bool) (r c : Nat) (x : Nat × Nat) : Nat := if p then x.1 * c + x.2 else x.2 * r + x.1
theorem place_lt {p : Bool} {r c : Nat} {x : Nat × Nat} (h1 : x.1 < r) (h2 : x.2 < c) : placeOf p r c x < r * c := by
  unfold placeOf
  cases p
  · have : x.2 * r + x.1 < (x.2 + 1) * r := by rw [Nat.add_mul]; omega
    exact Nat.lt_of_lt_of_le this (by rw [Nat.mul_comm r c]; exact Nat.mul_le_mul_right _ h2)
  · have : x.1 * c + x.2 < (x.1 + 1) * c := by rw [Nat.add_mul]; omega
    exact Nat.lt_of_lt_of_le this (Nat.mul_le_mul_right _ h1)
theorem spot_place {p : Bool} {r c : Nat} {x : Nat × Nat} (h1 : x.1 < r) (h2 : x.2 < c) : spotAt p r c (placeOf p r c x) = x := by
  obtain ⟨a, b⟩ := x
  simp only at h1 h2
  unfold spotAt placeOf
  cases p
  · simp only [Bool.false_eq_true, if_false]
    rw [Nat.mul_add_mod_of_lt h1, divE h1]
  · simp only [if_true]
    rw [Nat.mul_add_mod_of_lt h2, divE h2]
theorem place_spot {p : Bool} {r c i : Nat} (h : i < c * r) : placeOf p r c (spotAt p r c i) = i := by
  unfold spotAt placeOf
  cases p
  · simp only [Bool.false_eq_true, if_false]
    rw [Nat.mul_comm]; exact Nat.div_add_mod i r
  · simp only [if_true]
    rw [Nat.mul_comm]; exact Nat.div_add_mod i c
theorem place_ne {p : Bool} {r c : Nat} {x y : Nat × Nat} (hx1 : x.1 < r) (hx2 : x.2 < c) (hy1 : y.1 < r) (hy2 : y.2 < c) (h : x ≠ y) : placeOf p r c x ≠ placeOf p r c y := fun e =>
  h (by rw [← spot_place (p := p) hx1 hx2, e, spot_place hy1 hy2])
theorem apart {a b w i : Nat} (h : a ≠ b) (hi : i < w) : ¬ (b * w ≤ a * w + i ∧ a * w + i < b * w + w) := fun ⟨h1, h2⟩ => by
  rcases Nat.lt_or_gt_of_ne h with h | h
  · have : (a + 1) * w ≤ b * w := Nat.mul_le_mul_right _ h
    rw [Nat.add_mul] at this; omega
  · have : (b + 1) * w ≤ a * w := Nat.mul_le_mul_right _ h
    rw [Nat.add_mul] at this; omega

theorem mem_spTo {r n : Nat} {x : Nat × Nat} : x ∈ spTo r n ↔ x.1 < r ∧ x.2 < n := by
  unfold spTo rowS
  simp only [List.mem_flatMap, List.mem_range, List.mem_map]
  constructor
  · rintro ⟨f, hf, c, hc, rfl⟩; exact ⟨hc, hf⟩
  · rintro ⟨h1, h2⟩; exact ⟨x.2, h2, x.1, h1, rfl⟩
theorem spTo_nodup (r : Nat) : ∀ n, (spTo r n).Nodup
  | 0 => by simp [spTo]
  | n + 1 => by
    rw [spTo_succ, List.nodup_append]
    refine ⟨spTo_nodup r n, ?_, ?_⟩
    · unfold rowS
      exact List.Pairwise.map _ (fun a b h e => h (by cases e; rfl)) (List.nodup_range)
    · intro a ha b hb e
      subst e
      have h1 := (mem_spTo.1 ha).2
      unfold rowS at hb
      obtain ⟨c, _, rfl⟩ := List.mem_map.1 hb
      simp at h1

/-- The bytes of levels, place by place. -/
def laidL (e : Nat) (p : Bool) (r c : Nat) (LV : Nat × Nat → Int) : Nat → ByteArray
  | 0 => ByteArray.empty
  | i + 1 => laidL e p r c LV i ++ lvS e (LV (spotAt p r c i))
theorem laidS_L (e : Nat) (p : Bool) (m : List (List Int)) (c : Nat) : ∀ i, laidS e p m c i = laidL e p m.length c (smpAt m) i
  | 0 => rfl
  | i + 1 => by rw [laidS, laidL, laidS_L e p m c i]; rfl
theorem laidL_congr {e : Nat} {p : Bool} {r c : Nat} {L L' : Nat × Nat → Int} : ∀ i, (∀ k, k < i → L (spotAt p r c k) = L' (spotAt p r c k)) → laidL e p r c L i = laidL e p r c L' i
  | 0, _ => rfl
  | i + 1, h => by rw [laidL, laidL, laidL_congr i (fun k hk => h k (by omega)), h i (by omega)]
theorem nums_append (a b : List Int) : strOfNums (a ++ b) = strOfNums a ++ strOfNums b := by
  apply ByteArray.ext; simp [strOfNums]
theorem laidL_bytes (e : Nat) (p : Bool) (r c : Nat) (LV : Nat × Nat → Int) (h1 : 1 ≤ e) : ∀ i, strOfNums ((List.range (i * wid e)).map fun j => by8 e (LV (spotAt p r c (j / wid e))) (j % wid e)) = laidL e p r c LV i
  | 0 => by rw [Nat.zero_mul]; rfl
  | i + 1 => by
    have hw : 0 < wid e := by unfold wid; omega
    rw [laidL, ← laidL_bytes e p r c LV h1 i, lvS, ← nums_append, Nat.add_mul, Nat.one_mul, List.range_add, List.map_append, List.map_map]
    congr 2
    refine List.map_congr_left fun j hj => ?_
    have hj := List.mem_range.1 hj
    simp only [Function.comp]
    rw [divE hj, Nat.mul_add_mod_of_lt hj]

/-- What stands in a row of bytes once spots with their levels have come. -/
def bytesIn (e : Nat) (p : Bool) (r c : Nat) (l : List ((Nat × Nat) × Int)) (F : Nat → Value) : Prop :=
  ∀ x ∈ l, ∀ i, i < wid e → F (placeOf p r c x.1 * wid e + i) = .int .u8 (by8 e x.2 i)
theorem bytesIn_put {e : Nat} {p : Bool} {r c : Nat} {l : List ((Nat × Nat) × Int)} {F : Nat → Value} (h : bytesIn e p r c l F) (hl : ∀ y ∈ l, y.1.1 < r ∧ y.1.2 < c) {x : Nat × Nat} (hx : x.1 < r ∧ x.2 < c) (hn : ∀ y ∈ l, y.1 ≠ x) (n : Int) :
    bytesIn e p r c (l ++ [(x, n)]) (putF F (placeOf p r c x * wid e) (wid e) (by8 e n)) := by
  intro y hy i hi
  rcases List.mem_append.1 hy with hy | hy
  · unfold putF
    rw [if_neg (apart (place_ne (hl y hy).1 (hl y hy).2 hx.1 hx.2 (hn y hy)) hi)]
    exact h y hy i hi
  · obtain rfl : y = (x, n) := by simpa using hy
    unfold putF
    rw [if_pos (by simp only; omega)]
    simp
theorem bytesIn_all {e : Nat} {p : Bool} {r c : Nat} {l : List ((Nat × Nat) × Int)} {F : Nat → Value} {LV : Nat × Nat → Int} (h1 : 1 ≤ e) (h : bytesIn e p r c l F) (hl : l.map Prod.fst = spTo r c) (hLV : ∀ y ∈ l, y.2 = LV y.1) :
    ∀ j, j < r * c * wid e → F j = .int .u8 (by8 e (LV (spotAt p r c (j / wid e))) (j % wid e)) := by
  intro j hj
  have hw : 0 < wid e := by unfold wid; omega
  have hq : j / wid e < c * r := by rw [Nat.mul_comm c r]; exact Nat.div_lt_of_lt_mul (by rw [Nat.mul_comm]; exact hj)
  have hx : spotAt p r c (j / wid e) ∈ l.map Prod.fst := by rw [hl]; exact mem_spTo.2 (spot_lt hq)
  obtain ⟨y, hy, hyx⟩ := List.mem_map.1 hx
  have h2 := h y hy (j % wid e) (Nat.mod_lt _ hw)
  rw [hyx, place_spot hq, Nat.mul_comm, Nat.div_add_mod] at h2
  rw [h2, hLV y hy, hyx]
end Go.Proofs.Ytegomicpolnpoaa
