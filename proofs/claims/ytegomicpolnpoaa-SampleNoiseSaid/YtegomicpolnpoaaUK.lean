/- The program's bytes of a block: written, with whatever rounding. -/
import Derived.Test.YtegomicpolnpoaaUJ
import Derived.Sort.CutIn
import Derived.Test.YtegomicpolnpoaaNV
namespace Go.Proofs.Ytegomicpolnpoaa
open Go.RowKit Go.Deep Go.Shelf
attribute [local go_sem] Oper.semAt_some

/-- A rounding with a state of its own, which lies from n0 up to Bd. -/
structure Rnds {σ : Type} (gl : FuncId) (caps : Array Value) (n0 Bd r : Nat) (St : σ → World → Prop) (lv : σ → Nat → Int → Int) (nx : σ → Nat → Int → σ) (w : World) : Prop where
  enter : ∀ args W, (callFunc gl args).run Try.prog W = .ok (.enter gl args) W
  keep : ∀ s X Y row, St s X → X.grownBy Y row → (∀ b, row = some b → w.heap.size ≤ b) → St s Y
  call : ∀ s X ch smp, Below n0 w X → St s X → ch < r → okS smp → Calls Try.prog gl (#[.int .i64 ch, .int .i64 smp] ++ caps) X fun e X' => e = .returned (.int .i64 (lv s ch smp)) ∧ (-2147483648 ≤ lv s ch smp ∧ lv s ch smp ≤ 2147483647) ∧ St (nx s ch smp) X' ∧ KpB n0 Bd X X' ∧ KeepsOthers X X'

theorem nil_put {e : Nat} (h1 : 1 ≤ e) (h8 : e ≤ 8) (w : World) : (nilAhead 249 (cdT e) (cdX e) "continuo/sample.put").run Try.prog w = .ok (some false) w :=
  eightN h1 h8 (p := fun e => (nilAhead 249 (cdT e) (cdX e) "continuo/sample.put").run Try.prog w = .ok (some false) w) (by kernel_rfl) (by kernel_rfl) (by kernel_rfl) (by kernel_rfl) (by kernel_rfl) (by kernel_rfl) (by kernel_rfl) (by kernel_rfl)
theorem w64w {k : Nat} (h : k ≤ 1000000) : IntKind.i64.wrap (k : Int) = (k : Int) := by rw [IntKind.wrap_i64]; omega
theorem w64n {k : Nat} (h : k ≤ 1000000) : wrap64 (k : Int) = (k : Int) := by unfold wrap64; omega
set_option maxRecDepth 100000 in
theorem samples_any (a : Option Addr) (k ca : Nat) (w : World) : Calls Try.prog 110 #[.slice a k ca] w fun e w' => e = .returned (.func (.func 120) #[] #[.pointer (some ⟨w.heap.size, 0, none⟩)]) ∧ w' = w.alloc (.cells #[.slice a k ca] 30) := by
  have hmf : ∀ (fn : Fn) (first cap : Array Value) (w : World), (Instr.makeFunc fn first cap).run Try.prog w = .ok (.func fn first cap) w := fun _ _ _ _ => rfl
  go_enter Try.func110, Try.ntmps110
  go_wp2_with fail
  go_ret
  exact ⟨rfl, rfl⟩
theorem KpB.grown {n0 Bd : Nat} {w Z Z' : World} {row : Option Nat} (h : KpB n0 Bd w Z) (hn : n0 ≤ w.heap.size) (hg : Z.grownBy Z' row) (hr : ∀ r, row = some r → w.heap.size ≤ r) : KpB n0 Bd w Z' := by
  have hs := h.1.size
  refine ⟨h.1.grown hg (by omega) (fun k e => by have := hr k e; omega), fun k o hk ho hc => ?_⟩
  have hlt := (Array.getElem?_eq_some_iff.1 ho).1
  have h1 := h.2 k o hk ho hc
  exact (hg.block k (Array.getElem?_eq_some_iff.1 h1).1 (fun e => by have := hr k e.symm; omega)).trans h1
theorem KpB.weaken {n0 Bd Bd' : Nat} (hb : Bd ≤ Bd') {X Y : World} (h : KpB n0 Bd X Y) : KpB n0 Bd' X Y := ⟨h.1, fun k o hk ho hc => h.2 k o (by omega) ho hc⟩
theorem KpB.of_below {n0 Bd : Nat} {X Y : World} (hn : n0 ≤ X.heap.size) (h : Below X.heap.size X Y) : KpB n0 Bd X Y := ⟨h.mono hn, fun k _ _ ho _ => (h.block k (Array.getElem?_eq_some_iff.1 ho).1).trans ho⟩
theorem others_of_below {X Y : World} (h : Below X.heap.size X Y) : KeepsOthers X Y := ⟨h.size, fun k _ ho _ => (h.block k (Array.getElem?_eq_some_iff.1 ho).1).trans ho⟩
theorem others_of_row {X Y : World} {B : Nat} {t : TypeId} {k : Nat} {F : Nat → Value} (hr : X.rowIs B t k F) (hg : X.grownBy Y (some B)) : KeepsOthers X Y := by
  refine ⟨hg.size, fun j o ho hc => (hg.block j (Array.getElem?_eq_some_iff.1 ho).1 (fun e => ?_)).trans ho⟩
  cases e
  obtain ⟨cc, h1, _⟩ := hr
  rw [h1] at ho
  cases ho
  cases hc
theorem cell_grown {X Y : World} {B : Nat} {p : Addr} {v : Value} (h : X.cell? p = some v) (hne : p.block ≠ B) (hg : X.grownBy Y (some B)) : Y.cell? p = some v :=
  (World.cell?_of_block (w := X) (hg.block p.block (cell_lt h) (fun e => hne (by cases e; rfl)))).trans h
theorem _root_.Go.World.rowIs.of_cells {X Y : World} {B n0 Bd : Nat} {t : TypeId} {k : Nat} {F : Nat → Value} (h : X.rowIs B t k F) (hk : KpB n0 Bd X Y) (hB : Bd ≤ B) : Y.rowIs B t k F := by
  obtain ⟨c, h1, h2, h3⟩ := h
  exact ⟨c, hk.2 B _ hB h1 rfl, h2, h3⟩
/-- A slot that holds the address of a block of one's own. -/
def Slot (n0 : Nat) (X : World) (t : TypeId) (k : Nat) (s : Value) (R : (Nat → Value) → Prop) : Prop := ∃ B F, s = .pointer (some ⟨B, 0, none⟩) ∧ n0 ≤ B ∧ X.rowIs B t k F ∧ R F
theorem Slot.mono {n0 : Nat} {X Y : World} {t : TypeId} {k : Nat} {s : Value} {R R' : (Nat → Value) → Prop} (h : Slot n0 X t k s R) (hX : ∀ B F, n0 ≤ B → X.rowIs B t k F → Y.rowIs B t k F) (hR : ∀ F, R F → R' F) : Slot n0 Y t k s R' := by
  obtain ⟨B, F, h1, h2, h3, h4⟩ := h
  exact ⟨B, F, h1, h2, hX B F h2 h3, hR F h4⟩
theorem rowIs_ne {X : World} {B B' : Nat} {t t' : TypeId} {k k' : Nat} {F F' : Nat → Value} (h : X.rowIs B t k F) (h' : X.rowIs B' t' k' F') (ht : t ≠ t') : B ≠ B' := by
  rintro rfl
  obtain ⟨c, h1, _⟩ := h
  obtain ⟨c', h2, _⟩ := h'
  rw [h1] at h2
  cases h2
  exact ht rfl
theorem not_both {L : Array Bool} {i : Nat} (h : L.getD i true = false) : ¬ L.getD i false = true := fun h2 => by
  rcases Nat.lt_or_ge i L.size with h' | h'
  · simp [h'] at h h2; rw [h] at h2; cases h2
  · simp [Array.getElem?_eq_none h'] at h
theorem rowIs_below {X Y : World} {B : Nat} {t : TypeId} {k : Nat} {F : Nat → Value} (h : X.rowIs B t k F) (hb : Below X.heap.size X Y) : Y.rowIs B t k F := h.of_block (hb.block B h.lt)

set_option maxHeartbeats 4000000 in
set_option maxRecDepth 100000 in
theorem written_any {σ : Type} {e : Nat} (h1 : 1 ≤ e) (h8 : e ≤ 8) (p : Bool) (m : List (List Int)) (va : Value) (c n0 Bd : Nat) (gl : FuncId) (caps : Array Value) (St : σ → World → Prop) (lv : σ → Nat → Int → Int) (nx : σ → Nat → Int → σ) (s0 : σ) (w : World)
    (hm : ∀ X, Below n0 w X → MatIn X m va) (hr1 : 1 ≤ m.length) (hr8 : m.length ≤ 8) (hc : ∀ j, j < m.length → (m.getD j []).length = c) (hc4 : c ≤ 4096) (hs : ∀ j k, j < m.length → k < c → okS ((m.getD j []).getD k 0))
    (hn0 : n0 ≤ Bd) (hBd : Bd ≤ w.heap.size) (hR : Rnds gl caps n0 Bd m.length St lv nx w) (h0 : St s0 w) (LV : Nat × Nat → Int) (hLV : ∀ y ∈ lvTo lv nx m s0 (spTo m.length c), y.2 = LV y.1) :
    Calls Try.prog 69 #[.iface (cdT e) (cdX e), .bool p, va, .func (.func gl) #[] caps] w fun x w' => x = .returned (.string (laidL e p m.length c LV (c * m.length))) ∧ St (stTo nx m s0 (spTo m.length c)) w' ∧ KpB n0 Bd w w' := by
  obtain ⟨a0, ca0, rfl, -, -, -⟩ := id (hm w (Below.refl _ _))
  obtain ⟨va, hva⟩ : ∃ va, va = Value.slice a0 m.length ca0 := ⟨_, rfl⟩
  rw [← hva] at hm ⊢
  have HVA := Lib.hid hva
  clear hva
  have hpt := isPut h1 h8
  have hna := fun W => nil_put h1 h8 W
  have h64 : ∀ X, Calls Try.prog 64 #[cdv e] X fun y w' => y = .returned (.int .i64 (wid e : Nat)) ∧ Below X.heap.size X w' := fun X => width_any h1 h8 X
  unfold cdv at h64
  generalize cdT e = T at *
  generalize cdX e = x at *
  have HPT := Lib.hid hpt
  have HNA := Lib.hid hna
  have H64 := Lib.hid h64
  have HM := Lib.hid hm
  have HC := Lib.hid hc
  have HS := Lib.hid hs
  have HR := Lib.hid hR
  have HLV := Lib.hid hLV
  have h109 : ∀ X, Below n0 w X → Calls Try.prog 109 #[va] X fun e w' => e = .returned (.agg #[.int .i64 m.length, .int .i64 c]) ∧ Below X.heap.size X w' := fun X hX => by
    have := gridOf_any (hm X hX) hr1 hr8 (by rw [hc 0 (by omega)]; exact hc4)
    rwa [hc 0 (by omega)] at this
  have H109 := Lib.hid h109
  clear hm hc hs hR hLV h109 h64 hpt hna
  refine (callsIn_wide (n := 12)).1 (callsIn_of_wp_marks Try.func69 rfl trivial ?_ rfl)
  simp only [Try.ntmps69, List.size_toArray, List.length_cons, List.length_nil, Nat.reduceAdd, Nat.reduceSub, Array.replicate_succ, Array.replicate_zero, List.push_toArray, List.append_toArray, List.nil_append, List.cons_append]
  have hmx : Try.prog.follows .mixedOrders = true := by kernel_rfl
  gi_wp2
  have kc : (((w.alloc (Obj.cells #[Value.iface T x] 70)).alloc (Obj.cells #[Value.bool p] 4)).alloc (Obj.cells #[Value.func (Fn.func gl) #[] caps] 108)).cell? ⟨w.heap.size, 0, none⟩ = some (.iface T x) := by simp [go_sem]
  have kp : (((w.alloc (Obj.cells #[Value.iface T x] 70)).alloc (Obj.cells #[Value.bool p] 4)).alloc (Obj.cells #[Value.func (Fn.func gl) #[] caps] 108)).cell? ⟨w.heap.size + 1, 0, none⟩ = some (.bool p) := by simp [go_sem]
  have kl : (((w.alloc (Obj.cells #[Value.iface T x] 70)).alloc (Obj.cells #[Value.bool p] 4)).alloc (Obj.cells #[Value.func (Fn.func gl) #[] caps] 108)).cell? ⟨w.heap.size + 1 + 1, 0, none⟩ = some (.func (.func gl) #[] caps) := by simp [go_sem]
  have hb0 : Below w.heap.size w (((w.alloc (Obj.cells #[Value.iface T x] 70)).alloc (Obj.cells #[Value.bool p] 4)).alloc (Obj.cells #[Value.func (Fn.func gl) #[] caps] 108)) :=
    (((Below.refl _ w).alloc (Nat.le_refl _) _).alloc (by simp) _).alloc (by simp; omega) _
  have hsz0 : (((w.alloc (Obj.cells #[Value.iface T x] 70)).alloc (Obj.cells #[Value.bool p] 4)).alloc (Obj.cells #[Value.func (Fn.func gl) #[] caps] 108)).heap.size = w.heap.size + 3 := by simp
  generalize (((w.alloc (Obj.cells #[Value.iface T x] 70)).alloc (Obj.cells #[Value.bool p] 4)).alloc (Obj.cells #[Value.func (Fn.func gl) #[] caps] 108)) = W0 at *
  refine region_inv (fun L a X => ∃ s9 s10 s14 s15 s16 s17, a = { tmps := #[.iface T x, .bool p, va, .func (.func gl) #[] caps, .pointer (some ⟨w.heap.size, 0, none⟩), .pointer (some ⟨w.heap.size + 1, 0, none⟩), undef, .pointer (some ⟨w.heap.size + 1 + 1, 0, none⟩), .string ⟨#[]⟩, s9, s10, undef, undef, undef, s14, s15, s16, s17, undef, undef, undef, undef, undef, undef, undef, undef, undef, undef, undef, undef, undef, undef, undef, undef, undef, undef, undef, undef, undef, undef, undef, undef, undef, undef, undef, undef, undef, undef, undef, undef], defers := [] } ∧ Below W0.heap.size W0 X ∧
    (L.getD 0 false = true → s14 = va) ∧ (L.getD 1 false = true → s15 = .agg #[.int .i64 m.length, .int .i64 c]) ∧ (L.getD 2 false = true → s16 = .iface T x) ∧ (L.getD 3 false = true → s17 = .int .i64 (wid e : Nat)) ∧
    (L.getD 4 false = true → Slot W0.heap.size X 87 2 s9 fun F => L.getD 6 false = true → F 0 = .int .i64 m.length ∧ F 1 = .int .i64 c) ∧
    (L.getD 5 false = true → Slot W0.heap.size X 3 1 s10 fun F => L.getD 7 false = true → F 0 = .int .i64 (wid e : Nat))) hmx (by kernel_rfl) ?_ ?_ ?_
  · exact ⟨undef, undef, undef, undef, undef, undef, rfl, (Below.refl _ _).drew, fun h => (by cases h), fun h => (by cases h), fun h => (by cases h), fun h => (by cases h), fun h => (by cases h), fun h => (by cases h)⟩
  · rintro L a X i o hL hcl hnl ⟨s9, s10, s14, s15, s16, s17, rfl, hbX, q0, q1, q2, q3, q4, q5⟩ ho hall
    have hi : i < 8 := (Array.getElem?_eq_some_iff.1 ho).1
    obtain rfl | rfl | rfl | rfl | rfl | rfl | rfl | rfl : i = 0 ∨ i = 1 ∨ i = 2 ∨ i = 3 ∨ i = 4 ∨ i = 5 ∨ i = 6 ∨ i = 7 := by omega
    all_goals (have ho := Option.some.inj ho; subst ho)
    · refine wpOpIn_step rfl (fun K hK => ?_)
      dsimp only
      go_simp
      refine hK _ _ ⟨s9, s10, va, s15, s16, s17, rfl, hbX, fun _ => rfl, fun h => q1 (was_listed h (by decide)), fun h => q2 (was_listed h (by decide)), fun h => q3 (was_listed h (by decide)), fun h => (q4 (was_listed h (by decide))).mono (fun _ _ _ h => h) (fun _ hF h6 => hF (was_listed h6 (by decide))), fun h => (q5 (was_listed h (by decide))).mono (fun _ _ _ h => h) (fun _ hF h6 => hF (was_listed h6 (by decide)))⟩
    · obtain rfl := q0 (hall { on := 0, ground := .data } (by simp) rfl)
      refine wpOpIn_step rfl (fun K hK => ?_)
      dsimp only
      go_simp
      refine ⟨trivial, (callsIn_wide.2 (H109.out X ((hb0.mono (by omega)).trans (hbX.mono (by omega))))).mono ?_⟩
      rintro y X' ⟨rfl, hb⟩
      refine hK _ _ ⟨s9, s10, _, _, s16, s17, rfl, hbX.trans (hb.mono hbX.size), fun h => q0 (was_listed h (by decide)), fun _ => rfl, fun h => q2 (was_listed h (by decide)), fun h => q3 (was_listed h (by decide)), fun h => (q4 (was_listed h (by decide))).mono (fun _ _ _ h => rowIs_below h hb) (fun _ hF h6 => hF (was_listed h6 (by decide))), fun h => (q5 (was_listed h (by decide))).mono (fun _ _ _ h => rowIs_below h hb) (fun _ hF h6 => hF (was_listed h6 (by decide)))⟩
    · have hcc : X.cell? ⟨w.heap.size, 0, none⟩ = some (.iface T x) := (hbX.cell (p := ⟨w.heap.size, 0, none⟩) (by simp; omega)).trans kc
      refine wpOpIn_step rfl (fun K hK => ?_)
      dsimp only
      go_simp
      refine hK _ _ ⟨s9, s10, s14, s15, _, s17, rfl, hbX, fun h => q0 (was_listed h (by decide)), fun h => q1 (was_listed h (by decide)), fun _ => rfl, fun h => q3 (was_listed h (by decide)), fun h => (q4 (was_listed h (by decide))).mono (fun _ _ _ h => h) (fun _ hF h6 => hF (was_listed h6 (by decide))), fun h => (q5 (was_listed h (by decide))).mono (fun _ _ _ h => h) (fun _ hF h6 => hF (was_listed h6 (by decide)))⟩
    · obtain rfl := q2 (hall { on := 2, ground := .data } (by simp) rfl)
      refine wpOpIn_step rfl (fun K hK => ?_)
      dsimp only
      go_simp
      refine ⟨trivial, (callsIn_wide.2 (H64.out X)).mono ?_⟩
      rintro y X' ⟨rfl, hb⟩
      refine hK _ _ ⟨s9, s10, s14, s15, _, _, rfl, hbX.trans (hb.mono hbX.size), fun h => q0 (was_listed h (by decide)), fun h => q1 (was_listed h (by decide)), fun h => q2 (was_listed h (by decide)), fun _ => rfl, fun h => (q4 (was_listed h (by decide))).mono (fun _ _ _ h => rowIs_below h hb) (fun _ hF h6 => hF (was_listed h6 (by decide))), fun h => (q5 (was_listed h (by decide))).mono (fun _ _ _ h => rowIs_below h hb) (fun _ hF h6 => hF (was_listed h6 (by decide)))⟩
    · refine wpOpIn_step rfl (fun K hK => ?_)
      dsimp only
      go_simp
      refine hK _ _ ⟨_, s10, s14, s15, s16, s17, rfl, hbX.alloc hbX.size _, fun h => q0 (was_listed h (by decide)), fun h => q1 (was_listed h (by decide)), fun h => q2 (was_listed h (by decide)), fun h => q3 (was_listed h (by decide)), fun _ => ⟨_, fun _ => .int .i64 0, rfl, hbX.size, World.rowIs_alloc _ _ _ _ (fun i hi => ?_), fun h6 => ?_⟩, fun h => (q5 (was_listed h (by decide))).mono (fun _ _ _ h => h.alloc _) (fun _ hF h6 => hF (was_listed h6 (by decide)))⟩
      · obtain rfl | rfl : i = 0 ∨ i = 1 := by simp at hi; omega
        all_goals rfl
      · have := hcl 6 _ rfl (was_listed h6 (by decide)) { on := 4, ground := .data } (by simp) rfl
        exact absurd this (not_both hnl)
    · refine wpOpIn_step rfl (fun K hK => ?_)
      dsimp only
      go_simp
      refine hK _ _ ⟨s9, _, s14, s15, s16, s17, rfl, hbX.alloc hbX.size _, fun h => q0 (was_listed h (by decide)), fun h => q1 (was_listed h (by decide)), fun h => q2 (was_listed h (by decide)), fun h => q3 (was_listed h (by decide)), fun h => (q4 (was_listed h (by decide))).mono (fun _ _ _ h => h.alloc _) (fun _ hF h6 => hF (was_listed h6 (by decide))), fun _ => ⟨_, fun _ => .int .i64 0, rfl, hbX.size, World.rowIs_alloc _ _ _ _ (fun i hi => ?_), fun h6 => ?_⟩⟩
      · obtain rfl : i = 0 := by simp at hi; omega
        rfl
      · have := hcl 7 _ rfl (was_listed h6 (by decide)) { on := 5, ground := .data } (by simp) rfl
        exact absurd this (not_both hnl)
    · obtain rfl := q1 (hall { on := 1, ground := .data } (by simp) rfl)
      obtain ⟨B, F, rfl, hB, hrow, hF⟩ := q4 (hall { on := 4, ground := .data } (by simp) rfl)
      have hcell0 := hrow.cell (i := 0) (by omega)
      have hcell1 := hrow.cell (i := 1) (by omega)
      have hfz0 := hrow.frozen 0
      have hfz1 := hrow.frozen 1
      refine wpOpIn_step rfl (fun K hK => ?_)
      dsimp only
      go_simp
      refine hK _ _ ⟨_, s10, s14, _, s16, s17, rfl, (hbX.setCell hB _).setCell hB _, fun h => q0 (was_listed h (by decide)), fun h => q1 (was_listed h (by decide)), fun h => q2 (was_listed h (by decide)), fun h => q3 (was_listed h (by decide)), fun _ => ⟨B, _, rfl, hB, (hrow.set 0 _).set 1 _, fun _ => ⟨rfl, rfl⟩⟩, fun h => (q5 (was_listed h (by decide))).mono (fun B' F' hB' h' => (h'.setOther (rowIs_ne h' hrow (by decide)) _).setOther (rowIs_ne h' hrow (by decide)) _) (fun _ hF h6 => hF (was_listed h6 (by decide)))⟩
    · obtain rfl := q3 (hall { on := 3, ground := .data } (by simp) rfl)
      obtain ⟨B, F, rfl, hB, hrow, hF⟩ := q5 (hall { on := 5, ground := .data } (by simp) rfl)
      have hcell0 := hrow.cell (i := 0) (by omega)
      have hfz0 := hrow.frozen 0
      refine wpOpIn_step rfl (fun K hK => ?_)
      dsimp only
      go_simp
      refine hK _ _ ⟨s9, _, s14, s15, s16, _, rfl, hbX.setCell hB _, fun h => q0 (was_listed h (by decide)), fun h => q1 (was_listed h (by decide)), fun h => q2 (was_listed h (by decide)), fun h => q3 (was_listed h (by decide)), fun h => (q4 (was_listed h (by decide))).mono (fun B' F' hB' h' => h'.setOther (rowIs_ne h' hrow (by decide)) _) (fun _ hF h6 => hF (was_listed h6 (by decide))), fun _ => ⟨B, _, rfl, hB, hrow.set 0 _, fun _ => rfl⟩⟩
  rintro L a X hall ⟨s9, s10, s14, s15, s16, s17, rfl, hbX, -, -, -, -, q4, q5⟩
  obtain ⟨Bg, Fg, rfl, hBg, hrg, hFg⟩ := q4 (hall 4 (by decide))
  obtain ⟨Bw, Fw, rfl, hBw, hrw, hFw⟩ := q5 (hall 5 (by decide))
  obtain ⟨hg0, hg1⟩ := hFg (hall 6 (by decide))
  have hw0 := hFw (hall 7 (by decide))
  have kg0 := hrg.cell (i := 0) (by omega)
  have kg1 := hrg.cell (i := 1) (by omega)
  have kw0 := hrw.cell (i := 0) (by omega)
  rw [hg0] at kg0
  rw [hg1] at kg1
  rw [hw0] at kw0
  have kc1 := (hbX.cell (p := ⟨w.heap.size, 0, none⟩) (by simp; omega)).trans kc
  have kp1 := (hbX.cell (p := ⟨w.heap.size + 1, 0, none⟩) (by simp; omega)).trans kp
  have kl1 := (hbX.cell (p := ⟨w.heap.size + 1 + 1, 0, none⟩) (by simp; omega)).trans kl
  have hb1 : Below w.heap.size w X := hb0.trans (hbX.mono (by omega))
  have hsz1 := hbX.size
  have hne := rowIs_ne hrg hrw (by decide)
  have hBgX := hrg.lt
  have hBwX := hrw.lt
  clear hall q4 q5 hFg hFw hg0 hg1 hw0 hrg hrw hb0 hbX kc kp kl
  obtain ⟨N, hN⟩ : ∃ N, m.length * c * wid e = N := ⟨_, rfl⟩
  have hrc := mul_le8 (r := m.length) (n := c) hr8 (Nat.le_refl _) hc4
  have hwd : wid e ≤ 4 := by unfold wid; omega
  have hwd1 : 1 ≤ wid e := by unfold wid; omega
  have hNb : N ≤ 131072 := by
    rw [← hN]
    calc m.length * c * wid e ≤ 32768 * wid e := Nat.mul_le_mul_right _ hrc
      _ ≤ 32768 * 4 := Nat.mul_le_mul_left _ hwd
  have hB1 : 1 * N ≤ 281474976710656 := by rw [Nat.one_mul]; exact Nat.le_trans hNb (by decide)
  have hB2 : N ≤ 9223372036854775807 := Nat.le_trans hNb (by decide)
  have hv2 : wrap64 ((m.length : Int) * (c : Int) * ((wid e : Nat) : Int)) = (N : Int) := by
    rw [← Int.natCast_mul, ← Int.natCast_mul, hN, w64n (by omega)]
  have hmk : ∀ W : World, (Instr.makeSlice 100 (.int .i64 (wrap64 ((m.length : Int) * (c : Int) * ((wid e : Nat) : Int)))) (.int .i64 (wrap64 ((m.length : Int) * (c : Int) * ((wid e : Nat) : Int))))).run Try.prog W = .ok (.slice (some ⟨W.heap.size, 0, none⟩) N N) (W.alloc (.cells (madeCells #[.int .u8 0] N) 5)) := fun W => by
    rw [hv2]
    exact run_make_row' (P := Try.prog) 100 5 (.int .u8 0) 1 Try.underlying100 Try.info5 rfl .i64 .i64 N hB1 hB2 W
  have HN := Lib.hid hN
  clear hN hv2 hB1 hB2
  dsimp only
  gi_wp2
  refine ⟨trivial, ?_⟩
  have h110 := fun W => samples_any a0 m.length ca0 W
  rw [← HVA.out] at h110
  refine (callsIn_wide.2 (h110 _)).mono ?_
  rintro y w2 ⟨rfl, rfl⟩
  have hr0 : (((X.alloc (Obj.cells (madeCells #[Value.int IntKind.u8 0] N) 5)).alloc (Obj.cells #[Value.slice (some ⟨X.heap.size, 0, none⟩) N N] 100)).alloc (Obj.cells #[va] 30)).rowIs X.heap.size 5 N (fun _ => .int .u8 0) := ((World.rowIs_made X (.int .u8 0) N 5).alloc _).alloc _
  have ko : (((X.alloc (Obj.cells (madeCells #[Value.int IntKind.u8 0] N) 5)).alloc (Obj.cells #[Value.slice (some ⟨X.heap.size, 0, none⟩) N N] 100)).alloc (Obj.cells #[va] 30)).cell? ⟨X.heap.size + 1, 0, none⟩ = some (.slice (some ⟨X.heap.size, 0, none⟩) N N) := by simp [go_sem]
  have kb : (((X.alloc (Obj.cells (madeCells #[Value.int IntKind.u8 0] N) 5)).alloc (Obj.cells #[Value.slice (some ⟨X.heap.size, 0, none⟩) N N] 100)).alloc (Obj.cells #[va] 30)).cell? ⟨X.heap.size + 1 + 1, 0, none⟩ = some va := by
    have := blk_alloc_new ((X.alloc (Obj.cells (madeCells #[Value.int IntKind.u8 0] N) 5)).alloc (Obj.cells #[Value.slice (some ⟨X.heap.size, 0, none⟩) N N] 100)) (Obj.cells #[va] 30)
    simp [go_sem]
  have hS2 : Below X.heap.size X (((X.alloc (Obj.cells (madeCells #[Value.int IntKind.u8 0] N) 5)).alloc (Obj.cells #[Value.slice (some ⟨X.heap.size, 0, none⟩) N N] 100)).alloc (Obj.cells #[va] 30)) := (((Below.refl _ X).alloc (Nat.le_refl _) _).alloc (by simp) _).alloc (by simp; omega) _
  have hs2 : (((X.alloc (Obj.cells (madeCells #[Value.int IntKind.u8 0] N) 5)).alloc (Obj.cells #[Value.slice (some ⟨X.heap.size, 0, none⟩) N N] 100)).alloc (Obj.cells #[va] 30)).heap.size = X.heap.size + 3 := by simp
  have LIFT := fun (p : Addr) (v : Value) (hlt : p.block < X.heap.size) (h : X.cell? p = some v) => (hS2.cell hlt).trans h
  have kc2 := LIFT _ _ (by simp; omega) kc1
  have kp2 := LIFT _ _ (by simp; omega) kp1
  have kl2 := LIFT _ _ (by simp; omega) kl1
  have kg20 := LIFT _ _ (by have := cell_lt kg0; exact this) kg0
  have kg21 := LIFT _ _ (by have := cell_lt kg1; exact this) kg1
  have kw2 := LIFT _ _ (by have := cell_lt kw0; exact this) kw0
  have hb2 := hb1.trans (hS2.mono (by omega))
  clear LIFT kc1 kp1 kl1 kg0 kg1 kw0 hb1 hS2 h110 hmk
  generalize hW2 : (((X.alloc (Obj.cells (madeCells #[Value.int IntKind.u8 0] N) 5)).alloc (Obj.cells #[Value.slice (some ⟨X.heap.size, 0, none⟩) N N] 100)).alloc (Obj.cells #[va] 30)) = Y at *
  clear hW2
  generalize hBE : X.heap.size = B at *
  have HBE := Lib.hid hBE
  clear hBE
  obtain ⟨V24, hV24⟩ : ∃ V, Value.int IntKind.i64 (wrap64 (↑m.length * ↑c * ↑(wid e))) = V := ⟨_, rfl⟩
  gi_wp2
  rw [HBE.out]
  try rw [hV24]
  clear hV24
  have hBlt : B < Y.heap.size := by omega
  have hBw' : w.heap.size ≤ B := by omega
  have hKPY : KpB n0 Bd w Y := ⟨hb2.mono (by omega), fun k o hk ho _ => (hb2.block k (Array.getElem?_eq_some_iff.1 ho).1).trans ho⟩
  have hStY : St s0 Y := HR.out.keep s0 w Y none h0 ⟨hb2.os, hb2.tape, hb2.output, hb2.size, fun k hk _ => hb2.block k hk⟩ (fun b e => by cases e)
  have h48 : ∀ Z, Below n0 Y Z → MatIn Z m va := fun Z hZ => HM.out Z (hKPY.1.trans hZ)
  refine range_all rfl (by omega) (gf := 120) (lb := #[.pointer (some ⟨B + 1 + 1, 0, none⟩)]) rfl trivial (enters_of Try.func120 (by kernel_rfl) rfl)
    (samples_all (12 - 1) (by omega) m va (B + 1 + 1) n0 (B + 1) Y hr1 hr8 c HC.out hc4 h48 (by omega) (by omega) (by omega) (by omega) kb)
    (fun h k => h.trans k) (fun X l o o' hl h hc => KpB.put (B := Y.heap.size) (by omega) X l o o' hl h hc) (Below.refl _ _) (fun _ => rfl)
    (fun (pre : List (GoodSpot m.length c)) Z => (Z.cell? ⟨w.heap.size, 0, none⟩ = some (.iface T x) ∧ Z.cell? ⟨w.heap.size + 1, 0, none⟩ = some (.bool p) ∧ Z.cell? ⟨w.heap.size + 1 + 1, 0, none⟩ = some (.func (.func gl) #[] caps) ∧ Z.cell? ⟨Bg, 0, none⟩ = some (.int .i64 m.length) ∧ Z.cell? ⟨Bg, 1, none⟩ = some (.int .i64 c) ∧ Z.cell? ⟨Bw, 0, none⟩ = some (.int .i64 (wid e : Nat)) ∧ Z.cell? ⟨B + 1, 0, none⟩ = some (.slice (some ⟨B, 0, none⟩) N N)) ∧
      St (stTo nx m s0 (pre.map Subtype.val)) Z ∧ KpB n0 Bd w Z ∧ ∃ F, Z.rowIs B 5 N F ∧ ((pre.map Subtype.val).Nodup → bytesIn e p m.length c (lvTo lv nx m s0 (pre.map Subtype.val)) F))
    ?own ⟨⟨kc2, kp2, kl2, kg20, kg21, kw2, ko⟩, hStY, hKPY, _, hr0, fun _ y hy => by cases hy⟩
    (fun pre y a' Z => ∃ Bx, Bd ≤ Bx ∧ Z.cell? ⟨Bx, 0, none⟩ = some (.int .i64 y.1.1) ∧ Z.cell? ⟨Bx, 1, none⟩ = some (.int .i64 y.1.2) ∧ a' = { tmps := #[.iface T x, .bool p, va, .func (.func gl) #[] caps, .pointer (some ⟨w.heap.size, 0, none⟩), .pointer (some ⟨w.heap.size + 1, 0, none⟩), undef, .pointer (some ⟨w.heap.size + 1 + 1, 0, none⟩), .string ⟨#[]⟩, .pointer (some ⟨Bg, 0, none⟩), .pointer (some ⟨Bw, 0, none⟩), .pointer (some ⟨B + 1, 0, none⟩), .pointer (some ⟨Bx, 0, none⟩), .int .i64 (smpAt m y.1), s14, s15, s16, s17, .pointer (some ⟨Bg, 0, none⟩), .int .i64 m.length, .pointer (some ⟨Bg, 1, none⟩), .int .i64 c, .int .i64 ((m.length : Int) * (c : Int)), .int .i64 (wid e : Nat), V24, .slice (some ⟨B, 0, none⟩) N N, va, .func (.func 120) #[] #[.pointer (some ⟨B + 1 + 1, 0, none⟩)], .agg #[.int .i64 y.1.1, .int .i64 y.1.2], .int .i64 (smpAt m y.1), undef, undef, undef, undef, undef, undef, undef, undef, undef, undef, undef, undef, undef, undef, undef, undef, undef, undef, undef, undef], defers := [] })
    ?ownAx ?assign ?body ?done
  case own =>
    rintro pre Z Z' row ⟨⟨a1, a2, a3, a4, a5, a6, a7⟩, b1, b2, F, b3, b4⟩ hg hr
    have hnc : ∀ r, row = some r → ∃ o : Obj, Z.heap[r]? = some o ∧ o.isCells = false := fun r e => (hr r e).2
    refine ⟨⟨cell_kept a1 hg hnc, cell_kept a2 hg hnc, cell_kept a3 hg hnc, cell_kept a4 hg hnc, cell_kept a5 hg hnc, cell_kept a6 hg hnc, cell_kept a7 hg hnc⟩, HR.out.keep _ _ _ _ b1 hg (fun r e => by have := (hr r e).1; omega), ?_, F, ?_, b4⟩
    · exact b2.grown (by omega) hg (fun r e => by have := (hr r e).1; omega)
    · exact b3.of_block (hg.block B b3.lt (fun e => by have := (hr B e.symm).1; omega))
  case ownAx =>
    rintro pre y a' _ Z Z' row ⟨Bx, c1, c2, c3, c4⟩ hg hr
    exact ⟨Bx, c1, cell_kept c2 hg (fun r e => (hr r e).2), cell_kept c3 hg (fun r e => (hr r e).2), c4⟩
  case assign =>
    rintro l pre y Z K ⟨⟨a1, a2, a3, a4, a5, a6, a7⟩, b1, b2, F, b3, b4⟩ hK
    dsimp only [smpVals]
    have hlt := b3.lt
    have hzs := b2.1.size
    gi_wp2
    refine hK _ _ ((KeepsOthers.alloc _ _).from _) (KpB.alloc _ _ (by omega)) ⟨⟨(Same.alloc _ _).cell a1, (Same.alloc _ _).cell a2, (Same.alloc _ _).cell a3, (Same.alloc _ _).cell a4, (Same.alloc _ _).cell a5, (Same.alloc _ _).cell a6, (Same.alloc _ _).cell a7⟩, HR.out.keep _ _ _ none b1 (grown_alloc _ _ _) (fun b e => by cases e), b2.grown (by omega) (grown_alloc _ _ none) (fun b e => by cases e), F, b3.alloc _, b4⟩ ⟨Z.heap.size, by omega, by simp [go_sem], by simp [go_sem], rfl⟩
  case body =>
    rintro l pre ⟨⟨i, k⟩, hi, hk⟩ a' Z ⟨⟨a1, a2, a3, a4, a5, a6, a7⟩, b1, b2, F, b3, b4⟩ ⟨Bx, hBx, c0, c1, rfl⟩ hlen
    simp only at hi hk c0 c1
    dsimp only
    have hsm : okS (smpAt m (i, k)) := HS.out i k hi hk
    obtain ⟨sm, hsmE⟩ : ∃ sm, smpAt m (i, k) = sm := ⟨_, rfl⟩
    rw [hsmE] at hsm
    simp only [hsmE]
    obtain ⟨st, hst⟩ : ∃ st, stTo nx m s0 (pre.map Subtype.val) = st := ⟨_, rfl⟩
    rw [hst] at b1
    obtain ⟨PL, hPL⟩ : ∃ PL, placeOf p m.length c (i, k) = PL := ⟨_, rfl⟩
    have h83 : ∀ W, Calls Try.prog 83 #[.agg #[.int .i64 m.length, .int .i64 c], .agg #[.int .i64 i, .int .i64 k], .bool p] W fun e w' => e = .returned (.int .i64 (PL : Nat)) ∧ Below W.heap.size W w' := fun W => by
      rw [← hPL]; exact place_any m.length c i k p hr8 hc4 hi hk W
    have hPN : PL * wid e + wid e ≤ N := by
      have h := place_lt (p := p) (x := (i, k)) hi hk
      rw [hPL] at h
      rw [← HN.out]
      calc PL * wid e + wid e = (PL + 1) * wid e := by rw [Nat.add_mul, Nat.one_mul]
        _ ≤ m.length * c * wid e := Nat.mul_le_mul_right _ h
    obtain ⟨PW, hPW⟩ : ∃ PW, PL * wid e = PW := ⟨_, rfl⟩
    rw [hPW] at hPN
    have hmul : IntKind.i64.wrap ((PL : Int) * ((wid e : Nat) : Int)) = (PW : Int) := by
      have h1 : PW ≤ 131072 := by omega
      rw [← Int.natCast_mul, hPW, w64w (by omega)]
    have w1 : (PW : Int) ≤ (N : Int) := by omega
    have w2 : PW ≤ N := by omega
    have hPNne : ¬ N = PW := by omega
    have hzs := b2.1.size
    have hlv := fun Z' (h : KpB n0 Bd Z Z') (hs : St st Z') => HR.out.call st Z' i sm (b2.1.trans h.1) hs hi hsm
    have hna := HNA.out
    obtain ⟨pm, hpm, hpe, hput0⟩ := HPT.out
    have hput : ∀ (lvl : Int) (F' : Nat → Value) (Z' : World), -2147483648 ≤ lvl → lvl ≤ 2147483647 → Z'.rowIs B 5 N F' → Calls Try.prog pm #[x, .slice (some ⟨B, PW, none⟩) (N - PW) (N - PW), .int .i64 lvl] Z' fun e' w' => (∃ v, e' = .returned v) ∧ w'.rowIs B 5 N (putF F' PW (wid e) (by8 e lvl)) ∧ Z'.grownBy w' (some B) :=
      fun lvl F' Z' h1 h2 hrow => hput0 lvl B N PW (N - PW) (N - PW) F' Z' h1 h2 (Nat.le_trans hNb (by decide)) hPN (Nat.le_sub_of_add_le (by rw [Nat.add_comm]; exact hPN)) (Nat.sub_le _ _) hrow
    clear hput0
    have HLVL := Lib.hid hlv
    have HPUT := Lib.hid hput
    have H83 := Lib.hid h83
    have hS0 : KpB n0 Bd Z Z.drew := ⟨(Below.refl _ Z).drew, fun _ _ _ h _ => h⟩
    have HB1 := Lib.hid b1
    have HB3 := Lib.hid b3
    have HB4 := Lib.hid b4
    have HB2 := Lib.hid b2
    clear hlv hput h83 b1 b3 b4 b2 h48 kb hStY hKPY hr0 ko kc2 kp2 kl2 kg20 kg21 kw2
    have hmf : ∀ (fn : Fn) (first cap : Array Value) (w : World), (Instr.makeFunc fn first cap).run Try.prog w = .ok (.func fn first cap) w := fun _ _ _ _ => rfl
    gi_wp2
    refine regionIn_T (S := fun wx => KpB n0 Bd Z wx) [17] hmx hS0 (fun _ => ?_)
    refine anyTI_take (i := 0) (v := ?_) rfl (by kernel_rfl) (by kernel_rfl) (by kernel_rfl) (by kernel_rfl) (fun _ _ _ h => h) ⟨Or.inl ⟨by rfl, ?_⟩, fun _ => rfl⟩ (hS0) ?_
    rotate_left
    focus ((intro wq hSw; have z0 := hSw.cell (show Bd ≤ _ by omega) a1; go_simp); try with_reducible rfl)
    try simp only [Act.put, List.getElem_toArray, List.getElem_cons_succ, List.getElem_cons_zero, List.setIfInBounds_toArray, List.set_cons_zero, List.set_cons_succ]
    refine anyTI_take (i := 1) (v := ?_) rfl (by kernel_rfl) (by kernel_rfl) (by kernel_rfl) (by kernel_rfl) (fun _ _ _ h => h) ⟨Or.inl ⟨by rfl, ?_⟩, fun _ => rfl⟩ (hS0) ?_
    rotate_left
    focus ((intro wq hSw; have z0 := hSw.cell (show Bd ≤ _ by omega) a7; go_simp); try with_reducible rfl)
    try simp only [Act.put, List.getElem_toArray, List.getElem_cons_succ, List.getElem_cons_zero, List.setIfInBounds_toArray, List.set_cons_zero, List.set_cons_succ]
    refine anyTI_take (i := 2) (v := ?_) rfl (by kernel_rfl) (by kernel_rfl) (by kernel_rfl) (by kernel_rfl) (fun _ _ _ h => h) ⟨Or.inl ⟨by rfl, ?_⟩, fun _ => rfl⟩ (hS0) ?_
    rotate_left
    focus ((intro wq hSw; have z0 := hSw.cell (show Bd ≤ _ by omega) a4; have z1 := hSw.cell (show Bd ≤ _ by omega) a5; go_simp); try with_reducible rfl)
    try simp only [Act.put, List.getElem_toArray, List.getElem_cons_succ, List.getElem_cons_zero, List.setIfInBounds_toArray, List.set_cons_zero, List.set_cons_succ]
    refine anyTI_take (i := 3) (v := ?_) rfl (by kernel_rfl) (by kernel_rfl) (by kernel_rfl) (by kernel_rfl) (fun _ _ _ h => h) ⟨Or.inl ⟨by rfl, ?_⟩, fun _ => rfl⟩ (hS0) ?_
    rotate_left
    focus ((intro wq hSw; have z0 := hSw.cell (show Bd ≤ _ by omega) c0; have z1 := hSw.cell (show Bd ≤ _ by omega) c1; go_simp); try with_reducible rfl)
    try simp only [Act.put, List.getElem_toArray, List.getElem_cons_succ, List.getElem_cons_zero, List.setIfInBounds_toArray, List.set_cons_zero, List.set_cons_succ]
    refine anyTI_take (i := 4) (v := ?_) rfl (by kernel_rfl) (by kernel_rfl) (by kernel_rfl) (by kernel_rfl) (fun _ _ _ h => h) ⟨Or.inl ⟨by rfl, ?_⟩, fun _ => rfl⟩ (hS0) ?_
    rotate_left
    focus ((intro wq hSw; have z0 := hSw.cell (show Bd ≤ _ by omega) a2; go_simp); try with_reducible rfl)
    try simp only [Act.put, List.getElem_toArray, List.getElem_cons_succ, List.getElem_cons_zero, List.setIfInBounds_toArray, List.set_cons_zero, List.set_cons_succ]
    refine anyTI_take (i := 6) (v := ?_) rfl (by kernel_rfl) (by kernel_rfl) (by kernel_rfl) (by kernel_rfl) (fun _ _ _ h => h) ⟨Or.inl ⟨by rfl, ?_⟩, fun _ => rfl⟩ (hS0) ?_
    rotate_left
    focus ((intro wq hSw; have z0 := hSw.cell (show Bd ≤ _ by omega) a6; go_simp); try with_reducible rfl)
    try simp only [Act.put, List.getElem_toArray, List.getElem_cons_succ, List.getElem_cons_zero, List.setIfInBounds_toArray, List.set_cons_zero, List.set_cons_succ]
    refine anyTI_take (i := 9) (v := ?_) rfl (by kernel_rfl) (by kernel_rfl) (by kernel_rfl) (by kernel_rfl) (fun _ _ _ h => h) ⟨Or.inl ⟨by rfl, ?_⟩, fun _ => rfl⟩ (hS0) ?_
    rotate_left
    focus ((intro wq hSw; have z0 := hSw.cell (show Bd ≤ _ by omega) a3; go_simp); try with_reducible rfl)
    try simp only [Act.put, List.getElem_toArray, List.getElem_cons_succ, List.getElem_cons_zero, List.setIfInBounds_toArray, List.set_cons_zero, List.set_cons_succ]
    refine anyTI_take (i := 10) (v := ?_) rfl (by kernel_rfl) (by kernel_rfl) (by kernel_rfl) (by kernel_rfl) (fun _ _ _ h => h) ⟨Or.inl ⟨by rfl, ?_⟩, fun _ => rfl⟩ (hS0) ?_
    rotate_left
    focus ((intro wq hSw; skip; go_simp); try with_reducible rfl)
    try simp only [Act.put, List.getElem_toArray, List.getElem_cons_succ, List.getElem_cons_zero, List.setIfInBounds_toArray, List.set_cons_zero, List.set_cons_succ]
    refine anyTI_take (i := 11) (v := ?_) rfl (by kernel_rfl) (by kernel_rfl) (by kernel_rfl) (by kernel_rfl) (fun _ _ _ h => h) ⟨Or.inl ⟨by rfl, ?_⟩, fun _ => rfl⟩ (hS0) ?_
    rotate_left
    focus ((intro wq hSw; have z0 := hSw.cell (show Bd ≤ _ by omega) c0; go_simp); try with_reducible rfl)
    try simp only [Act.put, List.getElem_toArray, List.getElem_cons_succ, List.getElem_cons_zero, List.setIfInBounds_toArray, List.set_cons_zero, List.set_cons_succ]
    refine anyTI_take (i := 12) (v := ?_) rfl (by kernel_rfl) (by kernel_rfl) (by kernel_rfl) (by kernel_rfl) (fun _ _ _ h => h) ⟨Or.inl ⟨by rfl, ?_⟩, fun _ => rfl⟩ (hS0) ?_
    rotate_left
    focus ((intro wq hSw; skip; go_simp); try with_reducible rfl)
    try simp only [Act.put, List.getElem_toArray, List.getElem_cons_succ, List.getElem_cons_zero, List.setIfInBounds_toArray, List.set_cons_zero, List.set_cons_succ]
    refine anyTI_take (i := 14) (v := ?_) rfl (by kernel_rfl) (by kernel_rfl) (by kernel_rfl) (by kernel_rfl) (fun _ _ _ h => h) ⟨Or.inl ⟨by rfl, ?_⟩, fun _ => rfl⟩ (hS0) ?_
    rotate_left
    focus ((intro wq hSw; skip; go_simp); try with_reducible rfl)
    try simp only [Act.put, List.getElem_toArray, List.getElem_cons_succ, List.getElem_cons_zero, List.setIfInBounds_toArray, List.set_cons_zero, List.set_cons_succ]
    refine anyTI_take (i := 15) (v := ?_) rfl (by kernel_rfl) (by kernel_rfl) (by kernel_rfl) (by kernel_rfl) (fun _ _ _ h => h) ⟨Or.inl ⟨by rfl, ?_⟩, fun _ => rfl⟩ (hS0) ?_
    rotate_left
    focus ((intro wq hSw; skip; go_simp); try with_reducible rfl)
    try simp only [Act.put, List.getElem_toArray, List.getElem_cons_succ, List.getElem_cons_zero, List.setIfInBounds_toArray, List.set_cons_zero, List.set_cons_succ]
    refine anyTI_take (i := 16) (v := ?_) rfl (by kernel_rfl) (by kernel_rfl) (by kernel_rfl) (by kernel_rfl) (fun _ _ _ h => h) ⟨Or.inl ⟨by rfl, ?_⟩, fun _ => rfl⟩ (hS0) ?_
    rotate_left
    focus ((intro wq hSw; skip; go_simp); try with_reducible rfl)
    try simp only [Act.put, List.getElem_toArray, List.getElem_cons_succ, List.getElem_cons_zero, List.setIfInBounds_toArray, List.set_cons_zero, List.set_cons_succ]
    refine anyTI_one (i := 5) (by kernel_rfl) rfl (fun K hK => ?_)
    go_simp
    refine ⟨trivial, (callsIn_wide.2 (H83.out _)).mono ?_⟩
    rintro y Z1 ⟨rfl, hd1⟩
    have hS1 : KpB n0 Bd Z Z1 := hS0.trans (KpB.of_below (by simp; omega) hd1)
    refine hK _ _ (fun _ => hS1) ?_
    clear hK K
    try simp only [Act.put, List.getElem_toArray, List.getElem_cons_succ, List.getElem_cons_zero, List.setIfInBounds_toArray, List.set_cons_zero, List.set_cons_succ]
    refine anyTI_take (i := 7) (v := ?_) rfl (by kernel_rfl) (by kernel_rfl) (by kernel_rfl) (by kernel_rfl) (fun _ _ _ h => h) ⟨Or.inl ⟨by rfl, ?_⟩, fun _ => rfl⟩ (hS1) ?_
    rotate_left
    focus ((intro wq hSw; skip; go_simp); try with_reducible rfl)
    try simp only [Act.put, List.getElem_toArray, List.getElem_cons_succ, List.getElem_cons_zero, List.setIfInBounds_toArray, List.set_cons_zero, List.set_cons_succ]
    try rw [hmul]
    refine anyTI_take (i := 8) (v := ?_) rfl (by kernel_rfl) (by kernel_rfl) (by kernel_rfl) (by kernel_rfl) (fun _ _ _ h => h) ⟨Or.inl ⟨by rfl, ?_⟩, fun _ => rfl⟩ (hS1) ?_
    rotate_left
    focus ((intro wq hSw; skip; go_simp); try with_reducible rfl)
    try simp only [Act.put, List.getElem_toArray, List.getElem_cons_succ, List.getElem_cons_zero, List.setIfInBounds_toArray, List.set_cons_zero, List.set_cons_succ]
    have hSt1 : St st Z1 := HR.out.keep st Z Z1 none HB1.out ⟨hd1.os.trans rfl, hd1.tape.trans rfl, hd1.output.trans rfl, hd1.size, fun k hk _ => hd1.block k hk⟩ (fun b e => by cases e)
    have hlv1 := HLVL.out Z1 hS1 hSt1
    have heg := HR.out.enter
    obtain ⟨L, hL⟩ : ∃ L, lv st i sm = L := ⟨_, rfl⟩
    rw [hL] at hlv1
    try rw [if_neg hPNne]
    refine anyTI_one (i := 13) (by kernel_rfl) rfl (fun K hK => ?_)
    go_simp
    refine ⟨trivial, (callsIn_wide.2 hlv1).mono ?_⟩
    rintro y Z2 ⟨rfl, ⟨hl1, hl2⟩, hSt2, hk2, ho2⟩
    have hS2 := hS1.trans hk2
    refine hK _ _ (fun _ => hS2) ?_
    clear hK K
    try simp only [Act.put, List.getElem_toArray, List.getElem_cons_succ, List.getElem_cons_zero, List.setIfInBounds_toArray, List.set_cons_zero, List.set_cons_succ]
    have hr2 : Z2.rowIs B 5 N F := (rowIs_below (HB3.out.drew) hd1).of_cells hk2 (by omega)
    have hput1 := HPUT.out L F Z2 hl1 hl2 hr2
    refine anyTI_one (i := 17) (by kernel_rfl) rfl (fun K hK => ?_)
    go_simp
    refine ⟨trivial, (callsIn_wide.2 hput1).mono ?_⟩
    rintro y Z3 ⟨⟨vv, rfl⟩, hr3, hg3⟩
    refine hK _ _ (fun h => by cases h) ?_
    clear hK K
    have hz2 := hS2.1.size
    have hK3 : KpB n0 (B + 1) Z2 Z3 := ⟨(Below.refl n0 Z2).grown hg3 (by omega) (fun k e => by cases e; omega), fun k o hk ho _ => (hg3.block k (Array.getElem?_eq_some_iff.1 ho).1 (fun e => by cases e; omega)).trans ho⟩
    have LIFT : ∀ (A : Nat) (o : Nat) (v : Value), Bd ≤ A → A ≠ B → Z.cell? ⟨A, o, none⟩ = some v → Z3.cell? ⟨A, o, none⟩ = some v := fun A o v hA hne h => cell_grown (hS2.cell hA h) hne hg3
    have hFIN := Lib.hid (show KeepsFrom (B + 3) Z Z3 ∧ KpB n0 (B + 1) Z Z3 ∧ (Z3.cell? ⟨w.heap.size, 0, none⟩ = some (.iface T x) ∧ Z3.cell? ⟨w.heap.size + 1, 0, none⟩ = some (.bool p) ∧ Z3.cell? ⟨w.heap.size + 1 + 1, 0, none⟩ = some (.func (.func gl) #[] caps) ∧ Z3.cell? ⟨Bg, 0, none⟩ = some (.int .i64 m.length) ∧ Z3.cell? ⟨Bg, 1, none⟩ = some (.int .i64 c) ∧ Z3.cell? ⟨Bw, 0, none⟩ = some (.int .i64 (wid e : Nat)) ∧ Z3.cell? ⟨B + 1, 0, none⟩ = some (.slice (some ⟨B, 0, none⟩) N N)) ∧
      St (stTo nx m s0 (pre.map Subtype.val ++ [(i, k)])) Z3 ∧ KpB n0 Bd w Z3 ∧ ∃ F, Z3.rowIs B 5 N F ∧ ((pre.map Subtype.val ++ [(i, k)]).Nodup → bytesIn e p m.length c (lvTo lv nx m s0 (pre.map Subtype.val ++ [(i, k)])) F) from by
        refine ⟨((((KeepsOthers.drew Z).trans (others_of_below hd1)).trans ho2).trans (others_of_row hr2 hg3)).from _, (hS2.weaken (by omega)).trans hK3,
          ⟨LIFT _ _ _ (by omega) (by omega) a1, LIFT _ _ _ (by omega) (by omega) a2, LIFT _ _ _ (by omega) (by omega) a3, LIFT _ _ _ (by omega) (by omega) a4, LIFT _ _ _ (by omega) (by omega) a5, LIFT _ _ _ (by omega) (by omega) a6, LIFT _ _ _ (by omega) (by omega) a7⟩, ?_, (HB2.out.trans hS2).grown (by omega) hg3 (fun r e => by cases e; omega), _, hr3, fun hnd => ?_⟩
        · rw [stTo_append, hst, hsmE]
          exact HR.out.keep _ _ _ _ hSt2 hg3 (fun b e => by cases e; omega)
        · rw [lvTo_append, hst, hsmE, hL, ← hPW, ← hPL]
          rw [List.nodup_append] at hnd
          refine bytesIn_put (HB4.out hnd.1) (fun y hy => ?_) ⟨hi, hk⟩ (fun y hy e => ?_) L
          · obtain ⟨q, _, hq⟩ := List.mem_map.1 (lvTo_mem hy)
            rw [← hq]; exact q.2
          · exact hnd.2.2 _ (lvTo_mem hy) _ (by simp) e)
    clear LIFT hK3 hr2 hr3 hg3 HB1 HB3 HB4 HB2
    refine anyTI_done (by kernel_rfl) ?_ _
    gi_wp2
    exact hFIN.out
  case done =>
    rintro D xs Z hD hxs ⟨⟨a1, a2, a3, a4, a5, a6, a7⟩, b1, b2, F, b3, b4⟩ hK
    rw [hxs] at b1 b4
    have hall := bytesIn_all h1 (b4 (spTo_nodup _ _)) (lvTo_fst _ _) HLV.out
    rw [HN.out] at hall
    have hconv : (convert 100 9 (.slice (some ⟨B, 0, none⟩) N N)).run Try.prog Z = .ok (.string (laidL e p m.length c LV (c * m.length))) Z := by
      rw [← laidL_bytes e p m.length c LV h1, Nat.mul_comm c, HN.out]
      refine run_convert_bytes_arg Z 100 5 Try.underlying100 Try.underlying5 B 0 N N _ (by simp) (fun i hi => ?_) 9 Try.underlying9
      rw [Nat.zero_add, b3.cell hi, hall i hi]
      simp [List.getD, hi]
    have HB1 := Lib.hid b1
    have HB2 := Lib.hid b2
    clear hall b1 b2 b4 h48 kb hStY hKPY hr0 ko kc2 kp2 kl2 kg20 kg21 kw2
    gi_wp2
    refine ⟨by simp, .inl ⟨_, _, rfl, run_takeDeferred hK, ?_⟩⟩
    refine ⟨_, results_tmp rfl _ _ _, rfl, HR.out.keep _ _ _ _ HB1.out (grownBy_putObj' Z D _) (fun b e => by cases e; omega), HB2.out.grown (by omega) (grownBy_putObj' Z D _) (fun b e => by cases e; omega)⟩
end Go.Proofs.Ytegomicpolnpoaa
