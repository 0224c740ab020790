/- Duck: the document's, whole. -/
import Derived.Test.YthfagnbecocgdaaQI
namespace Go.Proofs.Ythfagnbecocgdaa
open Go.RowKit Go.Shelf Go.Deep

theorem h44y {y : List (List Int)} {vy : Value} {w : World} (hMy : MatIn w y vy) {q : Bool} (hvy : validB y = q) : Hid (∀ x, Below w.heap.size w x → Calls Try.prog 44 #[vy] x fun e w' => e = .returned (.bool q) ∧ Below x.heap.size x w') := Lib.hid fun x hx => by
  have := refValidBlock_any y vy x (hMy.mono (Same.of_below hx))
  rwa [hvy] at this
theorem h75g {g : Int} {q : Bool} (hg : gainB g = q) : Hid (∀ x, Calls Try.prog 75 #[.int .i64 g] x fun e w' => e = .returned (.bool q) ∧ x = w') := Lib.hid fun x => by
  have := gain_any g x
  rwa [hg] at this
set_option maxRecDepth 100000 in
theorem refDuck_bad (b y : List (List Int)) (v vy : Value) (bd g : Int) (w : World) (hM : MatIn w b v) (hMy : MatIn w y vy) (hv : allV [b, y] = false) : Calls Try.prog 43 #[v, vy, .int .i64 bd, .int .i64 g] w (MatAns w [] 1) := by
  have h44 := refValidBlock_any b v w hM
  cases hb : validB b with
  | false =>
    rw [hb] at h44
    obtain ⟨a, ca, rfl, _, _, _⟩ := hM
    clear hv hMy
    go_enter Try.func43, Try.ntmps43
    go_wp2_with (go_at_call 44; (with_reducible refine h44.mono ?_); rintro e w1 ⟨rfl, b1⟩; have B1 := Lib.hid b1; clear b1)
    go_ret2
    exact ⟨_, rfl, mat_nil _, B1.out⟩
  | true =>
    rw [hb] at h44
    have H44 := h44y hMy (q := false) (by simpa [allV, hb] using hv)
    obtain ⟨a, ca, rfl, _, _, _⟩ := hM
    obtain ⟨ay, cy, rfl, _, _, _⟩ := hMy
    clear hv
    go_enter Try.func43, Try.ntmps43
    go_wp2_with (first
      | (go_at_call 44; (with_reducible refine h44.mono ?_); rintro e w1 ⟨rfl, b1⟩; have B1 := Lib.hid b1; clear b1)
      | (go_at_call 44; (with_reducible refine (H44.out _ B1.out).mono ?_); rintro e w2 ⟨rfl, b2⟩; have B2 := Lib.hid (Below.then B1.out (Nat.le_refl _) b2); clear b2))
    go_ret2
    exact ⟨_, rfl, mat_nil _, B2.out⟩
set_option maxRecDepth 100000 in
theorem refDuck_range (b y : List (List Int)) (v vy : Value) (bd g : Int) (w : World) (hM : MatIn w b v) (hMy : MatIn w y vy) (hv : validB b = true) (hvy : validB y = true) (hx : boundB bd = false ∨ boundB bd = true ∧ gainB g = false) : Calls Try.prog 43 #[v, vy, .int .i64 bd, .int .i64 g] w (MatAns w [] 7) := by
  have h44 := refValidBlock_any b v w hM
  rw [hv] at h44
  have H44 := h44y hMy hvy
  obtain ⟨a, ca, rfl, _, _, _⟩ := hM
  obtain ⟨ay, cy, rfl, _, _, _⟩ := hMy
  have hways : (bd < 0) ∨ (¬ bd < 0 ∧ 8388607 < bd) ∨ (¬ bd < 0 ∧ ¬ 8388607 < bd ∧ gainB g = false) := by
    rcases hx with h | ⟨h, h2⟩
    · have := boundB_f h; omega
    · have := boundB_t h; exact .inr (.inr ⟨by omega, by omega, h2⟩)
  clear hx hv hvy
  rcases hways with h1 | ⟨h1, h2⟩ | ⟨h1, h2, h3⟩
  · go_enter Try.func43, Try.ntmps43
    go_wp2_with (first
      | (go_at_call 44; (with_reducible refine h44.mono ?_); rintro e w1 ⟨rfl, b1⟩; have B1 := Lib.hid b1; clear b1)
      | (go_at_call 44; (with_reducible refine (H44.out _ B1.out).mono ?_); rintro e w2 ⟨rfl, b2⟩; have B2 := Lib.hid (Below.then B1.out (Nat.le_refl _) b2); clear b2))
    go_ret2
    exact ⟨_, rfl, mat_nil _, B2.out⟩
  · go_enter Try.func43, Try.ntmps43
    go_wp2_with (first
      | (go_at_call 44; (with_reducible refine h44.mono ?_); rintro e w1 ⟨rfl, b1⟩; have B1 := Lib.hid b1; clear b1)
      | (go_at_call 44; (with_reducible refine (H44.out _ B1.out).mono ?_); rintro e w2 ⟨rfl, b2⟩; have B2 := Lib.hid (Below.then B1.out (Nat.le_refl _) b2); clear b2))
    go_ret2
    exact ⟨_, rfl, mat_nil _, B2.out⟩
  · have H75 := h75g h3
    clear h3
    go_enter Try.func43, Try.ntmps43
    go_wp2_with (first
      | (go_at_call 44; (with_reducible refine h44.mono ?_); rintro e w1 ⟨rfl, b1⟩; have B1 := Lib.hid b1; clear b1)
      | (go_at_call 44; (with_reducible refine (H44.out _ B1.out).mono ?_); rintro e w2 ⟨rfl, b2⟩; have B2 := Lib.hid (Below.then B1.out (Nat.le_refl _) b2); clear b2)
      | (go_at_call 75; (with_reducible refine (H75.out _).mono ?_); rintro e w3 ⟨rfl, rfl⟩))
    all_goals (go_ret2; exact ⟨_, rfl, mat_nil _, B2.out⟩)
set_option maxHeartbeats 1000000 in
set_option maxRecDepth 100000 in
theorem refDuck_size (b y : List (List Int)) (v vy : Value) (bd g : Int) (w : World) (hM : MatIn w b v) (hMy : MatIn w y vy) (hv : validB b = true) (hvy : validB y = true) (hbd : boundB bd = true) (hg : gainB g = true) (hCD : ¬ cols b = cols y) :
    Calls Try.prog 43 #[v, vy, .int .i64 bd, .int .i64 g] w (MatAns w [] 11) := by
  have h44 := refValidBlock_any b v w hM
  rw [hv] at h44
  have H44 := h44y hMy hvy
  have H75 := h75g hg
  obtain ⟨pb1, pb2, pb3, hrow⟩ := validB_parts hv
  obtain ⟨py1, py2, _, hrowy⟩ := validB_parts hvy
  obtain ⟨bd1, bd2⟩ := boundB_t hbd
  have hn1 : ¬ bd < 0 := by omega
  have hn2 : ¬ 8388607 < bd := by omega
  obtain ⟨a, ca, rfl, hin, _, _⟩ := id hM
  obtain ⟨ay, cy, rfl, hiny, _, _⟩ := id hMy
  obtain ⟨bb, ob, u, rfl, hcu, hu⟩ := hin 0 (by omega)
  obtain ⟨au, cu, rfl, _, _, _⟩ := hu
  change w.cell? _ = some (Value.slice au (cols b) cu) at hcu
  obtain ⟨b2, o2, u2, rfl, hcu2, hu2⟩ := hiny 0 (by omega)
  obtain ⟨a2, c2, rfl, _, _, _⟩ := hu2
  change w.cell? _ = some (Value.slice a2 (cols y) c2) at hcu2
  obtain ⟨C, hC⟩ : ∃ C, cols b = C := ⟨_, rfl⟩
  obtain ⟨D, hD⟩ : ∃ D, cols y = D := ⟨_, rfl⟩
  rw [hC, hD] at hCD
  simp only [Nat.add_zero, hC] at hcu
  simp only [Nat.add_zero, hD] at hcu2
  have HCU := Lib.hid (fun (x : World) (hx : Below w.heap.size w x) => (Same.of_below hx).cell hcu)
  have HCU2 := Lib.hid (fun (x : World) (hx : Below w.heap.size w x) => (Same.of_below hx).cell hcu2)
  have hposI : (0 : Int) < (b.length : Int) := by omega
  have hposN : 0 < b.length := by omega
  have hpoyI : (0 : Int) < (y.length : Int) := by omega
  have hpoyN : 0 < y.length := by omega
  have t1 : ((C : Int) != (D : Int)) = true := by simp; omega
  have t2 : ((C : Int) == (D : Int)) = false := by simp; omega
  clear hM hMy hv hvy hbd hg hin hiny hrow hrowy hC hD hcu hcu2 bd1 bd2
  go_enter Try.func43, Try.ntmps43
  go_upto_region 5 with (first
    | (go_at_call 44; (with_reducible refine h44.mono ?_); rintro e w1 ⟨rfl, b1⟩; have B1 := Lib.hid b1; clear b1)
    | (go_at_call 44; (with_reducible refine (H44.out _ B1.out).mono ?_); rintro e w2 ⟨rfl, b2⟩; have B2 := Lib.hid (Below.then B1.out (Nat.le_refl _) b2); clear b2)
    | (go_at_call 75; (with_reducible refine (H75.out _).mono ?_); rintro e w3 ⟨rfl, rfl⟩))
  have hc1 := HCU.out _ B2.out
  have hc2 := HCU2.out _ B2.out
  go_quiet (fail)
  go_wp2_with fail
  go_ret2
  exact ⟨_, rfl, mat_nil _, below_drewN B2.out _⟩

theorem refDuck_any (b y : List (List Int)) (v vy : Value) (bd g : Int) (w : World) (hM : MatIn w b v) (hMy : MatIn w y vy) : Calls Try.prog 43 #[v, vy, .int .i64 bd, .int .i64 g] w (MatAns w (duckR b y bd g) (duckK b y bd g)) := by
  cases hv : allV [b, y] with
  | false =>
    have hk : duckK b y bd g = 1 := by unfold duckK; rw [if_pos hv]
    rw [show duckR b y bd g = [] by unfold duckR; rw [hk]; rfl, hk]
    exact refDuck_bad b y v vy bd g w hM hMy hv
  | true =>
    have hnv : ¬ allV [b, y] = false := by rw [hv]; decide
    obtain ⟨v1, v2⟩ := allV2 hv
    cases hb : boundB bd with
    | false =>
      have hk : duckK b y bd g = 7 := by unfold duckK; rw [if_neg hnv, if_pos hb]
      rw [show duckR b y bd g = [] by unfold duckR; rw [hk]; rfl, hk]
      exact refDuck_range b y v vy bd g w hM hMy v1 v2 (.inl hb)
    | true =>
      have hnb : ¬ boundB bd = false := by rw [hb]; decide
      cases hg : gainB g with
      | false =>
        have hk : duckK b y bd g = 7 := by unfold duckK; rw [if_neg hnv, if_neg hnb, if_pos hg]
        rw [show duckR b y bd g = [] by unfold duckR; rw [hk]; rfl, hk]
        exact refDuck_range b y v vy bd g w hM hMy v1 v2 (.inr ⟨hb, hg⟩)
      | true =>
        have hng : ¬ gainB g = false := by rw [hg]; decide
        by_cases hc : cols b = cols y
        · have hk : duckK b y bd g = 0 := by unfold duckK; rw [if_neg hnv, if_neg hnb, if_neg hng, if_pos hc]
          rw [show duckR b y bd g = allM b (duckG y bd g) by unfold duckR; rw [if_pos hk], hk]
          exact refDuck_yes b y v vy bd g w hM hMy v1 v2 hb hg hc
        · have hk : duckK b y bd g = 11 := by unfold duckK; rw [if_neg hnv, if_neg hnb, if_neg hng, if_neg hc]
          rw [show duckR b y bd g = [] by unfold duckR; rw [hk]; rfl, hk]
          exact refDuck_size b y v vy bd g w hM hMy v1 v2 hb hg hc
end Go.Proofs.Ythfagnbecocgdaa
