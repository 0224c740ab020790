/- Samples with gains: one row. -/
import Derived.Test.YthfagnbecocgdaaRD
import Derived.Test.YthfagnbecocgdaaNI
import Derived.Test.YthfagnbecocgdaaTE
namespace Go.Proofs.Ythfagnbecocgdaa
open Go.RowKit Go.Shelf Go.Deep
attribute [local go_sem] Oper.semAt_some

theorem cell_any {β : Type} {B b o : Nat} (hb : b < B) (v : Value) : OwnAny B (fun (_ : β) W => W.cell? ⟨b, o, none⟩ = some v) := fun _ X Y row hs hg hr =>
  (World.cell?_of_block (w := X) (hg.block b (cell_lt hs) fun e => by have := hr b e.symm; omega)).trans hs
theorem row_any {β : Type} {B b t n : Nat} (hb : b < B) (F : β → Nat → Value) : OwnAny B (fun s W => W.rowIs b t n (F s)) := fun _ X Y row hs hg hr =>
  hs.of_block (hg.block b hs.lt fun e => by have := hr b e.symm; omega)
theorem below_any {β : Type} {B n0 : Nat} {w : World} (hB : n0 ≤ B) (hn : n0 ≤ w.heap.size) : OwnAny B (fun (_ : β) W => Below n0 w W) := fun _ X Y row hs hg hr =>
  hs.grown hg (Nat.le_trans hn hs.size) fun k e => by have := hr k e; omega

/-- A sample times a gain. -/
def times (s g : Int) : Int := bnd (rnd (s * g) 65536) 8388607
def scaledR (r : List Int) (G : Nat → Int) : List Int := (List.range r.length).map fun i => times (r.getD i 0) (G i)
theorem times_mul {s g : Int} (hs : s.natAbs ≤ 8388607) (hg : 0 ≤ g ∧ g ≤ 655360) : -5497557483520 ≤ s * g ∧ s * g ≤ 5497557483520 := by
  constructor
  · calc -5497557483520 ≤ -(8388607 * 655360) := by decide
      _ ≤ -(8388607 * g) := by omega
      _ = (-8388607) * g := by rw [Int.neg_mul]
      _ ≤ s * g := Int.mul_le_mul_of_nonneg_right (by omega) hg.1
  · calc s * g ≤ 8388607 * g := Int.mul_le_mul_of_nonneg_right (by omega) hg.1
      _ ≤ 8388607 * 655360 := by omega
      _ ≤ 5497557483520 := by decide
theorem times_bd (s g : Int) : -8388607 ≤ times s g ∧ times s g ≤ 8388607 := by unfold times bnd; omega

/-- An iterator that yields the gains G of k frames. -/
def IsGains (g : Nat) (lb : Array Value) (k : Nat) (G : Nat → Int) (w : World) : Prop :=
  (∀ args w, (callFunc g args).run Try.prog w = .ok (.enter g args) w) ∧ (∀ i, i < k → 0 ≤ G i ∧ G i ≤ 655360) ∧
  ∀ n X n0 Bd, 6 ≤ n → Below w.heap.size w X → w.heap.size ≤ n0 → Bd ≤ X.heap.size → SeqMine Fence.wide n Try.prog g lb (fun x : { i : Nat // i < k } => gainVals G x.1) (KpB n0 Bd) (fun ys => ys.map Subtype.val = List.range k) 5000 X
theorem IsGains.mono {g : Nat} {lb : Array Value} {k : Nat} {G : Nat → Int} {w w' : World} (h : IsGains g lb k G w) (hb : Below w.heap.size w w') : IsGains g lb k G w' :=
  ⟨h.1, h.2.1, fun n X n0 Bd hn hX hn0 hBd => h.2.2 n X n0 Bd hn (hb.trans (hX.mono hb.size)) (Nat.le_trans hb.size hn0) hBd⟩
theorem isGains_ramp {f t m a : Int} (hr : RampOk f t m a) (R Kb k : Nat) (hk : k ≤ 4096) (w : World) (hR : RampAt R 0 f t m a w) (hK : w.cell? ⟨Kb, 0, none⟩ = some (.int .i64 k)) :
    IsGains 108 #[at0 R, at0 Kb] k (rampG f t m a) w :=
  ⟨enters_of Try.func108 (by kernel_rfl) rfl, fun i _ => grownI_gain (rampOk_at hr i), fun n X n0 Bd hn hX _ hBd => gains_mine n hn hr R Kb k hk n0 Bd X hBd (hR.mono (Same.of_below hX)) ((Same.of_below hX).cell hK)⟩
theorem owns_of_row {w : World} {B b n : Nat} {F : Nat → Int} (h : w.rowIs b 3 n (fun i => .int .i64 (F i))) (hb : B ≤ b) (hn : n ≤ 4096) (L : List Int) (hL : L.length = n) (hF : ∀ i, i < n → L.getD i 0 = F i) :
    w.ownsRow B 3 1 (.slice (some ⟨b, 0, none⟩) n n) n (L.map (Value.int .i64)) := by
  obtain ⟨c, h1, h2, h3⟩ := h
  refine ⟨by simp [hL], .inr ⟨b, n, c, rfl, hb, h1, Nat.le_refl _, by unfold maxLen; omega, by omega, ?_⟩⟩
  apply List.ext_getElem?
  intro i
  by_cases hi : i < n
  · rw [Nat.mul_one, List.getElem?_take_of_lt hi, List.getElem?_map]
    have e1 : c.toList[i]? = some (.int .i64 (F i)) := by simpa using h3 i hi
    have e2 : L[i]? = some (F i) := by
      have := hF i hi
      rw [List.getD_eq_getElem?_getD, List.getElem?_eq_getElem (by omega)] at this
      rw [List.getElem?_eq_getElem (by omega)]
      simpa using this
    rw [e1, e2]; rfl
  · rw [List.getElem?_eq_none (by simp; omega), List.getElem?_eq_none (by simp; omega)]

/-- What is written of the row when the frames pre are done. -/
def doneF (r : List Int) (G : Nat → Int) (pre : List Nat) (j : Nat) : Int := if j ∈ pre then times (r.getD j 0) (G j) else 0
theorem scaledR_len (r : List Int) (G : Nat → Int) : (scaledR r G).length = r.length := by simp [scaledR]
theorem scaledR_at {r : List Int} {G : Nat → Int} {i : Nat} (h : i < r.length) : (scaledR r G).getD i 0 = times (r.getD i 0) (G i) := by simp [scaledR, List.getD, h]

theorem kp_set {n0 Bd : Nat} (X : World) (p : Addr) (v : Value) (h1 : n0 ≤ p.block) (h2 : p.block < Bd) : KpB n0 Bd X (X.setCell p v).drew :=
  ⟨((Below.refl n0 X).setCell h1 _).drew, fun k o hk ho _ => (blk_setCell_other X p v k (by omega)).trans ho⟩
theorem keeps_set {B : Nat} (X : World) (p : Addr) (v : Value) (h : p.block < B) : KeepsFrom B X (X.setCell p v).drew :=
  ⟨by simp, fun k o hk ho _ => (blk_setCell_other X p v k (by omega)).trans ho⟩
/-- The numbers so far. -/
def vals {k : Nat} (pre : List { i : Nat // i < k }) : List Nat := pre.map Subtype.val

set_option maxHeartbeats 4000000 in
set_option maxRecDepth 100000 in
theorem scaled_any (r : List Int) (v : Value) (g : Nat) (lb : Array Value) (G : Nat → Int) (w : World) (hv : RowIn w r v) (hr : ∀ i, i < r.length → (r.getD i 0).natAbs ≤ 8388607) (hl : r.length ≤ 4096) (hG : IsGains g lb r.length G w) :
    Calls Try.prog 56 #[v, .func (.func g) #[] lb] w fun e w' => ∃ u, e = .returned u ∧ w'.ownsRow w.heap.size 3 1 u r.length ((scaledR r G).map (Value.int .i64)) ∧ Below w.heap.size w w' := by
  obtain ⟨a, ca, rfl, hin, _, _⟩ := hv
  obtain ⟨hent, hgb, hseq⟩ := hG
  have hmk := run_make_row' (P := Try.prog) 40 3 (.int .i64 0) 8 Try.underlying40 Try.info3 rfl .i64 .i64 r.length (by omega) (by omega)
  have hmx : Try.prog.follows .mixedOrders = true := by kernel_rfl
  obtain ⟨N, hN⟩ : ∃ N, w.heap.size = N := ⟨_, rfl⟩
  have HIN := Lib.hid hin
  have HR := Lib.hid hr
  have HGB := Lib.hid hgb
  have HSEQ := Lib.hid hseq
  clear hin hr hgb hseq
  refine (callsIn_wide (n := 9)).1 ?_
  refine callsIn_of_wp_marks Try.func56 rfl trivial ?_ rfl
  simp only [Try.ntmps56, List.size_toArray, List.length_cons, List.length_nil, Nat.reduceAdd, Nat.reduceSub, Array.replicate_succ, Array.replicate_zero, List.push_toArray, List.append_toArray, List.nil_append, List.cons_append]
  gi_wp2
  clear hmk
  have hB0 : Below w.heap.size w (((w.alloc (.cells #[.slice a r.length ca] 40)).alloc (.cells (madeCells #[.int .i64 0] r.length) 3)).alloc (.cells #[.slice (some ⟨w.heap.size + 1, 0, none⟩) r.length r.length] 40)) :=
    (((Below.refl _ w).alloc (Nat.le_refl _) _).alloc (by simp) _).alloc (by simp; omega) _
  have k0 : (((w.alloc (.cells #[.slice a r.length ca] 40)).alloc (.cells (madeCells #[.int .i64 0] r.length) 3)).alloc (.cells #[.slice (some ⟨w.heap.size + 1, 0, none⟩) r.length r.length] 40)).cell? ⟨w.heap.size, 0, none⟩ = some (.slice a r.length ca) :=
    (Same.alloc _ _).cell ((Same.alloc _ _).cell (by simp [go_sem]))
  have k2 : (((w.alloc (.cells #[.slice a r.length ca] 40)).alloc (.cells (madeCells #[.int .i64 0] r.length) 3)).alloc (.cells #[.slice (some ⟨w.heap.size + 1, 0, none⟩) r.length r.length] 40)).cell? ⟨w.heap.size + 2, 0, none⟩ = some (.slice (some ⟨w.heap.size + 1, 0, none⟩) r.length r.length) := by
    simp [go_sem]
  have k1 : (((w.alloc (.cells #[.slice a r.length ca] 40)).alloc (.cells (madeCells #[.int .i64 0] r.length) 3)).alloc (.cells #[.slice (some ⟨w.heap.size + 1, 0, none⟩) r.length r.length] 40)).rowIs (w.heap.size + 1) 3 r.length (fun j => .int .i64 (doneF r G [] j)) := by
    have := (World.rowIs_made (w.alloc (.cells #[.slice a r.length ca] 40)) (.int .i64 0) r.length 3).alloc (.cells #[.slice (some ⟨w.heap.size + 1, 0, none⟩) r.length r.length] 40)
    rw [World.size_alloc] at this
    exact this.congr fun j _ => by simp [doneF]
  have hs0 : (((w.alloc (.cells #[.slice a r.length ca] 40)).alloc (.cells (madeCells #[.int .i64 0] r.length) 3)).alloc (.cells #[.slice (some ⟨w.heap.size + 1, 0, none⟩) r.length r.length] 40)).heap.size = w.heap.size + 3 := by simp
  rw [hN] at k0 k1 k2 hs0
  obtain ⟨W0, hW0⟩ : ∃ W0, (((w.alloc (.cells #[.slice a r.length ca] 40)).alloc (.cells (madeCells #[.int .i64 0] r.length) 3)).alloc (.cells #[.slice (some ⟨N + 1, 0, none⟩) r.length r.length] 40)) = W0 := ⟨_, rfl⟩
  rw [hN] at hB0
  rw [hW0] at k0 k1 k2 hs0 hB0 ⊢
  clear hW0
  refine range_mine rfl (by omega) (gf := g) (lb := lb) rfl trivial hent
    (HSEQ.out (9 - 1) W0 N W0.heap.size (by omega) (by rw [hN]; exact hB0) (by omega) (Nat.le_refl _))
    (fun h k => h.trans k) (fun X l o o' hl h hc => KpB.put (B := W0.heap.size) (by omega) X l o o' hl h hc) (Below.refl _ _) (fun _ => rfl)
    (fun (pre : List { i : Nat // i < r.length }) Z => ((Z.cell? ⟨N, 0, none⟩ = some (.slice a r.length ca) ∧ Z.cell? ⟨N + 2, 0, none⟩ = some (.slice (some ⟨N + 1, 0, none⟩) r.length r.length)) ∧ Z.rowIs (N + 1) 3 r.length (fun j => .int .i64 (doneF r G (vals pre) j))) ∧ Below N w Z)
    (OwnAny.and (OwnAny.and (OwnAny.and (cell_any (by omega) _) (cell_any (by omega) _)) (row_any (by omega) (fun (pre : List { i : Nat // i < r.length }) j => .int .i64 (doneF r G (vals pre) j)))) (below_any (by omega) (by omega)))
    ⟨⟨⟨k0, k2⟩, k1⟩, hB0⟩
    (fun pre x a' _ => a' = { tmps := #[.slice a r.length ca, .func (.func g) #[] lb, .pointer (some ⟨N, 0, none⟩), undef, .slice none 0 0, .pointer (some ⟨N + 1 + 1, 0, none⟩), .int .i64 x.1, .int .i64 (G x.1), .slice a r.length ca, .int .i64 r.length, .slice (some ⟨N + 1, 0, none⟩) r.length r.length, .func (.func g) #[] lb, .int .i64 x.1, .int .i64 (G x.1), undef, undef, undef, undef, undef, undef, undef, undef, undef, undef, undef, undef], defers := [] })
    (fun pre x a' _ X Y row hs hg hr => hs)
    ?assign ?body ?done
  case assign =>
    rintro l pre x X K hI hK
    dsimp only [gainVals]
    gi_wp2
    exact hK _ _ (KeepsFrom.refl _ _) (KpB.refl _ _ _) hI rfl
  case body =>
    rintro l pre ⟨i, hi⟩ a' X ⟨⟨⟨c0, c2⟩, c1⟩, hB⟩ rfl hlen
    dsimp only
    obtain ⟨ba, off, rfl, hci, _⟩ := (HIN.out.mono (Same.of_below (by rw [hN]; exact hB))) i hi
    have hsm := HR.out i hi
    have hgi := HGB.out i hi
    have hc1 := c1.cell hi
    have hz1 := c1.frozen i
    have hdone : ∀ x, times (r.getD i 0) (G i) = x → (X.setCell ⟨N + 1, i, none⟩ (.int .i64 x)).rowIs (N + 1) 3 r.length (fun j => .int .i64 (doneF r G (vals (pre ++ [(⟨i, hi⟩ : { i : Nat // i < r.length })])) j)) := fun x hx => by
      subst hx
      refine (c1.set i _).congr fun j hj => ?_
      simp only [doneF, vals, List.map_append, List.mem_append, List.map_cons, List.map_nil, List.mem_singleton]
      by_cases e : j = i
      · subst e; simp
      · simp [e]
    obtain ⟨s, hs⟩ : ∃ s, r.getD i 0 = s := ⟨_, rfl⟩
    obtain ⟨gi, hgE⟩ : ∃ gi, G i = gi := ⟨_, rfl⟩
    rw [hs] at hci hsm hdone
    rw [hgE] at hgi hdone ⊢
    have hm := times_mul hsm hgi
    obtain ⟨m1, m2⟩ := hm
    have hro := rounded_any (s * gi) 65536 X.drew (by omega) (by omega) (by decide) (by decide)
    have hbo := bounded_any (rnd (s * gi) 65536) 8388607 X.drew (by decide) (by decide)
    have hti : times s gi = bnd (rnd (s * gi) 65536) 8388607 := rfl
    rw [← hti] at hbo
    have hfin := hdone _ rfl
    have HFIN := Lib.hid hfin
    have HB := Lib.hid hB
    have HC := Lib.hid (And.intro c0 c2)
    have HRO := Lib.hid hro
    have HBO := Lib.hid hbo
    have hsX := hB.size
    have iI : (i : Int) < (r.length : Int) := by omega
    have w1 : decide ((i : Int) < (r.length : Int)) = true := decide_eq_true iI
    have w2 : decide (i < r.length) = true := decide_eq_true hi
    obtain ⟨b1, hb1⟩ : ∃ b1, bnd (rnd (s * gi) 65536) 8388607 = b1 := ⟨_, rfl⟩
    obtain ⟨r1, hr1⟩ : ∃ r1, rnd (s * gi) 65536 = r1 := ⟨_, rfl⟩
    obtain ⟨t1, ht1⟩ : ∃ t1, times s gi = t1 := ⟨_, rfl⟩
    rw [hr1] at HRO HBO
    rw [ht1] at HBO HFIN
    have HW := Lib.hid (show IntKind.i64.wrap (s * gi) = s * gi from IntWalk.i64_in _ (by omega))
    have X' := Lib.hid (show Same X X.drew from fun _ _ => rfl)
    clear k0 k1 k2 hB hdone hfin hro hbo c1 hti hs hgE hsm hgi hb1 hr1 ht1 hB0 HIN HR HGB HSEQ
    gi_wp2
    refine regionIn_T (S := fun wx => wx = X.drew) [11] hmx rfl (fun _ => ?_)
    refine anyTI_take (i := 0) (v := ?_) rfl (by kernel_rfl) (by kernel_rfl) (by kernel_rfl) (by kernel_rfl) (fun _ _ _ h => h) ⟨Or.inl ⟨by rfl, ?_⟩, fun _ => rfl⟩ rfl ?_
    rotate_left
    focus ((intro wq hSw; subst hSw; go_simp); try with_reducible rfl)
    try simp only [Act.put, List.getElem_toArray, List.getElem_cons_succ, List.getElem_cons_zero, List.setIfInBounds_toArray, List.set_cons_zero, List.set_cons_succ]
    refine anyTI_take (i := 1) (v := ?_) rfl (by kernel_rfl) (by kernel_rfl) (by kernel_rfl) (by kernel_rfl) (fun _ _ _ h => h) ⟨Or.inl ⟨by rfl, ?_⟩, fun _ => rfl⟩ rfl ?_
    rotate_left
    focus ((intro wq hSw; subst hSw; go_simp); try with_reducible rfl)
    try simp only [Act.put, List.getElem_toArray, List.getElem_cons_succ, List.getElem_cons_zero, List.setIfInBounds_toArray, List.set_cons_zero, List.set_cons_succ]
    refine anyTI_take (i := 2) (v := ?_) rfl (by kernel_rfl) (by kernel_rfl) (by kernel_rfl) (by kernel_rfl) (fun _ _ _ h => h) ⟨Or.inl ⟨by rfl, ?_⟩, fun _ => rfl⟩ rfl ?_
    rotate_left
    focus ((intro wq hSw; subst hSw; go_simp); try with_reducible rfl)
    try simp only [Act.put, List.getElem_toArray, List.getElem_cons_succ, List.getElem_cons_zero, List.setIfInBounds_toArray, List.set_cons_zero, List.set_cons_succ]
    refine anyTI_take (i := 3) (v := ?_) rfl (by kernel_rfl) (by kernel_rfl) (by kernel_rfl) (by kernel_rfl) (fun _ _ _ h => h) ⟨Or.inl ⟨by rfl, ?_⟩, fun _ => rfl⟩ rfl ?_
    rotate_left
    focus ((intro wq hSw; subst hSw; go_simp); try with_reducible rfl)
    try simp only [Act.put, List.getElem_toArray, List.getElem_cons_succ, List.getElem_cons_zero, List.setIfInBounds_toArray, List.set_cons_zero, List.set_cons_succ]
    refine anyTI_take (i := 4) (v := ?_) rfl (by kernel_rfl) (by kernel_rfl) (by kernel_rfl) (by kernel_rfl) (fun _ _ _ h => h) ⟨Or.inl ⟨by rfl, ?_⟩, fun _ => rfl⟩ rfl ?_
    rotate_left
    focus ((intro wq hSw; subst hSw; go_simp); try with_reducible rfl)
    try simp only [Act.put, List.getElem_toArray, List.getElem_cons_succ, List.getElem_cons_zero, List.setIfInBounds_toArray, List.set_cons_zero, List.set_cons_succ]
    refine anyTI_take (i := 5) (v := ?_) rfl (by kernel_rfl) (by kernel_rfl) (by kernel_rfl) (by kernel_rfl) (fun _ _ _ h => h) ⟨Or.inl ⟨by rfl, ?_⟩, fun _ => rfl⟩ rfl ?_
    rotate_left
    focus ((intro wq hSw; subst hSw; go_simp); try with_reducible rfl)
    try simp only [Act.put, List.getElem_toArray, List.getElem_cons_succ, List.getElem_cons_zero, List.setIfInBounds_toArray, List.set_cons_zero, List.set_cons_succ]
    refine anyTI_take (i := 6) (v := ?_) rfl (by kernel_rfl) (by kernel_rfl) (by kernel_rfl) (by kernel_rfl) (fun _ _ _ h => h) ⟨Or.inl ⟨by rfl, ?_⟩, fun _ => rfl⟩ rfl ?_
    rotate_left
    focus ((intro wq hSw; subst hSw; go_simp); try with_reducible rfl)
    try simp only [Act.put, List.getElem_toArray, List.getElem_cons_succ, List.getElem_cons_zero, List.setIfInBounds_toArray, List.set_cons_zero, List.set_cons_succ]
    refine anyTI_take (i := 7) (v := ?_) rfl (by kernel_rfl) (by kernel_rfl) (by kernel_rfl) (by kernel_rfl) (fun _ _ _ h => h) ⟨Or.inl ⟨by rfl, ?_⟩, fun _ => rfl⟩ rfl ?_
    rotate_left
    focus ((intro wq hSw; subst hSw; go_simp); try with_reducible rfl)
    try simp only [Act.put, List.getElem_toArray, List.getElem_cons_succ, List.getElem_cons_zero, List.setIfInBounds_toArray, List.set_cons_zero, List.set_cons_succ]
    rw [HW.out]
    refine anyTI_one (i := 8) (by kernel_rfl) rfl (fun K hK => ?_)
    go_simp
    refine ⟨trivial, (callsIn_wide.2 HRO.out).mono ?_⟩
    rintro e wk ⟨rfl, rfl⟩
    refine hK _ _ (fun _ => rfl) ?_
    clear hK K
    try simp only [Act.put, List.getElem_toArray, List.getElem_cons_succ, List.getElem_cons_zero, List.setIfInBounds_toArray, List.set_cons_zero, List.set_cons_succ]
    refine anyTI_one (i := 9) (by kernel_rfl) rfl (fun K hK => ?_)
    go_simp
    refine ⟨trivial, (callsIn_wide.2 HBO.out).mono ?_⟩
    rintro e wk ⟨rfl, rfl⟩
    refine hK _ _ (fun _ => rfl) ?_
    clear hK K
    try simp only [Act.put, List.getElem_toArray, List.getElem_cons_succ, List.getElem_cons_zero, List.setIfInBounds_toArray, List.set_cons_zero, List.set_cons_succ]
    refine anyTI_take (i := 10) (v := ?_) rfl (by kernel_rfl) (by kernel_rfl) (by kernel_rfl) (by kernel_rfl) (fun _ _ _ h => h) ⟨Or.inl ⟨by rfl, ?_⟩, fun _ => rfl⟩ rfl ?_
    rotate_left
    focus ((intro wq hSw; subst hSw; go_simp); try with_reducible rfl)
    try simp only [Act.put, List.getElem_toArray, List.getElem_cons_succ, List.getElem_cons_zero, List.setIfInBounds_toArray, List.set_cons_zero, List.set_cons_succ]
    refine anyTI_one (i := 11) (by kernel_rfl) rfl (fun K hK => ?_)
    have hc1' : X.drew.cell? ⟨N + 1, i, none⟩ = some (.int .i64 (doneF r G (vals pre) i)) := hc1
    have hz1' : X.drew.frozen? ⟨N + 1, i, none⟩ = false := hz1
    go_simp
    refine hK _ _ (fun h => by cases h) ?_
    clear hK K
    refine anyTI_done (by kernel_rfl) ?_ _
    have hn0 : (X.setCell ⟨N + 1, i, none⟩ (.int .i64 t1)).drew.cell? ⟨N, 0, none⟩ = some (.slice (some ⟨ba, off, none⟩) r.length ca) := by
      show (X.setCell _ _).cell? _ = _; rw [World.cell?_setCell_other _ _ _ _ (by simp)]; exact HC.out.1
    have hn2 : (X.setCell ⟨N + 1, i, none⟩ (.int .i64 t1)).drew.cell? ⟨N + 2, 0, none⟩ = some (.slice (some ⟨N + 1, 0, none⟩) r.length r.length) := by
      show (X.setCell _ _).cell? _ = _; rw [World.cell?_setCell_other _ _ _ _ (by simp)]; exact HC.out.2
    have hk1 : KeepsFrom W0.heap.size X (X.setCell ⟨N + 1, i, none⟩ (.int .i64 t1)).drew := keeps_set _ _ _ (by show N + 1 < _; omega)
    have hk2 : KpB N W0.heap.size X (X.setCell ⟨N + 1, i, none⟩ (.int .i64 t1)).drew := kp_set _ _ _ (by show N ≤ N + 1; omega) (by show N + 1 < _; omega)
    have hb2 : Below N w (X.setCell ⟨N + 1, i, none⟩ (.int .i64 t1)).drew := (HB.out.setCell (by show N ≤ N + 1; omega) _).drew
    have h4 : (X.setCell ⟨N + 1, i, none⟩ (.int .i64 t1)).drew.rowIs (N + 1) 3 r.length (fun j => .int .i64 (doneF r G (vals (pre ++ [(⟨i, hi⟩ : { i : Nat // i < r.length })])) j)) := HFIN.out
    clear HFIN hc1 hc1' hz1 hz1' c0 c2 hci
    obtain ⟨X5, hX5⟩ : ∃ X5, (X.setCell ⟨N + 1, i, none⟩ (.int .i64 t1)).drew = X5 := ⟨_, rfl⟩
    rw [hX5] at hn0 hn2 hk1 hk2 hb2 h4 ⊢
    rw [hs0] at hk1 hk2
    have HF := Lib.hid (And.intro hk1 (And.intro hk2 (And.intro (And.intro (And.intro hn0 hn2) h4) hb2)))
    clear hn0 hn2 hk1 hk2 hb2 h4 hX5
    gi_wp2
    exact HF.out
  case done =>
    rintro D xs Z hD hxs ⟨⟨⟨c0, c2⟩, c1⟩, hB⟩ hK
    rw [show vals xs = List.range r.length from hxs] at c1
    have hown := owns_of_row (B := N) (F := doneF r G (List.range r.length)) c1 (by omega) hl (scaledR r G) (scaledR_len r G) (fun i hi => by rw [scaledR_at hi]; simp [doneF, hi])
    have HO := Lib.hid (hown.kept (grownBy_putObj' Z D (.deferred none)) (.inr fun e => by simp [Value.ownBlock] at e; omega))
    have HB := Lib.hid (hB.grown (grownBy_putObj' Z D (.deferred none)) (by have := hB.size; omega) (fun k e => by cases e; omega))
    clear k0 k1 k2 hB0 HIN HR HGB HSEQ c1 hown hB
    gi_wp2
    refine ⟨by simp, .inl ⟨_, _, rfl, run_takeDeferred hK, ?_⟩⟩
    exact ⟨_, results_tmp rfl _ _ _, _, rfl, by rw [hN]; exact HO.out, by rw [hN]; exact HB.out⟩
end Go.Proofs.Ythfagnbecocgdaa
