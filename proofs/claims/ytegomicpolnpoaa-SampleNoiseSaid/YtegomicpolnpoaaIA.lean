/- Rows that are normal: the program's. -/
import Derived.Test.YtegomicpolnpoaaGB
import Derived.Laws.AppendOwn
namespace Go.Proofs.Ytegomicpolnpoaa
open Go.RowKit Go.Deep

/-- A row of numbers in new memory: its block lies from B on. -/
structure RowN (B : Nat) (w : World) (g n : Nat) (F : Nat → Int) : Prop where
  lo : B ≤ g
  lt : g < w.heap.size
  cell : ∀ i, i < n → w.cell? ⟨g, i, none⟩ = some (.int .i64 (F i))
  free : ∀ i, w.frozen? ⟨g, i, none⟩ = false
theorem RowN.set {B : Nat} {w : World} {g n : Nat} {F : Nat → Int} (h : RowN B w g n F) {i : Nat} (hi : i < n) (x : Int) : RowN B (w.setCell ⟨g, i, none⟩ (.int .i64 x)) g n (fun j => if j = i then x else F j) := by
  refine ⟨h.lo, by simpa using h.lt, fun j hj => ?_, fun j => by simpa using h.free j⟩
  by_cases e : j = i
  · subst e
    rw [World.cell?_setCell_same _ _ _ (h.cell j hj)]; simp
  · rw [World.cell?_setCell_other _ _ _ _ (fun e2 => e (by cases e2; rfl)), h.cell j hj, if_neg e]
theorem RowN.congr {B : Nat} {w : World} {g n : Nat} {F G : Nat → Int} (h : RowN B w g n F) (e : ∀ i, i < n → F i = G i) : RowN B w g n G := ⟨h.lo, h.lt, fun i hi => by rw [h.cell i hi, e i hi], h.free⟩

theorem own_cells {w : World} {base n : Nat} {l : List Int} {v : Value} (h : w.ownsRow base 3 1 v n (l.map (Value.int .i64))) (hn : 1 ≤ n) (hl : l.length = n) :
    ∃ g cap, v = .slice (some ⟨g, 0, none⟩) n cap ∧ n ≤ cap ∧ RowN base w g n (fun i => l.getD i 0) := by
  have hh := h
  rcases h.2 with ⟨rfl, h0⟩ | ⟨g, cap, cur, rfl, hb, hgg, hnc, hcm, hcs, htake⟩
  · omega
  · refine ⟨g, cap, rfl, hnc, hb, (Array.getElem?_eq_some_iff.1 hgg).1, fun i hi => ?_, fun i => ?_⟩
    · have := hh.cells (g := g) rfl i (.int .i64 (l.getD i 0)) (by simp [List.getElem?_map, List.getD, show i < l.length by omega])
      by_cases i0 : i = 0
      · subst i0; simpa [Addr.add] using this
      · simpa [Addr.add, i0] using this
    · simp [World.frozen?, hgg]

set_option maxHeartbeats 1000000 in
set_option maxRecDepth 100000 in
theorem clone_any (l : List Int) (v : Value) (w : World) (hv : RowIn w l v) (h1 : 1 ≤ l.length) (h2 : l.length ≤ 4096) :
    Calls Try.prog 93 #[v] w fun e w' => ∃ g cap, e = .returned (.slice (some ⟨g, 0, none⟩) l.length cap) ∧ l.length ≤ cap ∧ RowN w.heap.size w' g l.length (fun i => l.getD i 0) ∧ Below w.heap.size w w' := by
  obtain ⟨a, ca, rfl, hin, hal, hcap⟩ := hv
  obtain ⟨b, off, rfl, _, _⟩ := hin 0 (by omega)
  have hnews : ∀ j u, (l.map (Value.int .i64))[j]? = some u → (w.alloc (.cells #[] 3)).cell? ((⟨b, off, none⟩ : Addr).add j) = some u := by
    intro j u hu
    simp only [List.getElem?_map, Option.map_eq_some_iff] at hu
    obtain ⟨x, hx, rfl⟩ := hu
    have hj : j < l.length := (List.getElem?_eq_some_iff.1 hx).1
    obtain ⟨b', off', e, hc, _⟩ := hin j hj
    simp only [Option.some.injEq, Addr.mk.injEq, and_true] at e
    obtain ⟨rfl, rfl⟩ := e
    have hx2 : l.getD j 0 = x := by simp [List.getD, hx]
    rw [hx2] at hc
    have hc2 := (Same.alloc w (.cells #[] 3)).cell hc
    by_cases j0 : j = 0
    · subst j0; simpa [Addr.add] using hc2
    · simpa [Addr.add, j0] using hc2
  obtain ⟨i0, hi, hz0, hz1, hz2⟩ := info_parts Try.info3
  have hown : (w.alloc (.cells #[] 3)).ownsRow w.heap.size 3 1 (.slice (some ⟨w.heap.size, 0, none⟩) 0 0) 0 [] := World.ownsRow_made w #[] 0 (Nat.le_refl _) (by simp) (by simp)
  have HN := Lib.hid hnews
  have HO := Lib.hid hown
  have e0 : (0 : Nat) + l.length = l.length := by omega
  have hnil : ∀ w : World, (binOp BinOp.eql 34 (.slice (some ⟨b, off, none⟩) l.length ca) (.slice none 0 0)).run Try.prog w = .ok (.bool false) w := fun _ => by kernel_rfl
  clear hnews hin hown
  go_enter Try.func93, Try.ntmps93
  go_wp2_with (at_builtin; refine wpList_append_moves rfl _ _ 34 rfl w.heap.size 3 i0 _ 1 8 Try.underlying34 hi hz0 hz1 hz2 rfl (by decide) _ _ _ rfl HO.out ⟨b, off, none⟩ l.length ca (l.map (Value.int .i64)) rfl (by simp) HN.out ?c2 ?c3 ?c4 ?c5 ?_)
  case c2 => intro u hu; simp only [List.mem_map] at hu; obtain ⟨x, _, rfl⟩ := hu; rfl
  case c3 => unfold maxLen; omega
  case c4 => omega
  case c5 => simp
  intro v' w1 hown1 hg1 hm1
  have hown2 : w1.ownsRow w.heap.size 3 1 v' l.length (l.map (Value.int .i64)) := by simpa using hown1
  obtain ⟨g, cap, rfl, hgc, hrow⟩ := own_cells hown2 h1 rfl
  have hb : Below w.heap.size w w1 := ((Below.refl _ w).alloc (Nat.le_refl _) _).grown hg1 (by simp) fun k hk => by cases hk; exact Nat.le_refl _
  have HR := Lib.hid hrow
  have HB := Lib.hid hb
  clear hown1 hown2 hg1 hm1 hrow hb e0
  go_wp2_with fail
  go_ret
  exact ⟨g, cap, rfl, hgc, HR.out, HB.out⟩
end Go.Proofs.Ytegomicpolnpoaa
