/- A range over an iterator whose values are new memory; rows of such. -/
import Derived.Test.YtgcohmlapgnbdaaRP
import Derived.RangeFuncNested
import Derived.RangeFuncBound
import Derived.RangeFuncCalls
import Derived.RangeFuncLeaves
import Derived.RangeFuncBox
import Derived.Maps.AppendAt
namespace Go.Proofs.Ytgcohmlapgnbdaa
open Go.RowKit

/-- What such an iterator promises: each value is told with what is known of it, in a world behind one in which the caller's invariant held. -/
def SeqY (F : Fence) (n : Nat) (P : Program) (g : Nat) (lb : Array Value) (Y : List Value → Value → World → World → Prop) (Kp : World → World → Prop) (S : List Value → Prop) (N : Nat) (w : World) : Prop :=
  ∀ (l : Nat) (J : List Value → World → Prop) (W : World), Below w.heap.size w W → OwnFrom W.heap.size J →
    (∀ pre x W0 W1, J pre W0 → Below W0.heap.size W0 W1 → Y pre x W0 W1 → pre.length < N → YieldAt F (n - 1) P l #[x] W1 fun e W' => e = .returned (.bool true) ∧ J (pre ++ [x]) W' ∧ Kp W1 W' ∧ KeepsFrom W.heap.size W1 W') →
    J [] W → CallsIn F n P g (#[.func (.yield l) #[] #[]] ++ lb) W fun e W' => (∃ v, e = .returned v) ∧ ∃ xs, S xs ∧ J xs W'

/-- The loop's record in its three states. -/
structure Book (w : World) (rec : LoopState → Loop) (s : LoopState) (W : World) : Prop where
  here : W.heap[w.heap.size + 1]? = some (.loop (rec s))
  mark : W.heap[w.heap.size]? = some (.deferred (some []))
theorem Book.put {w : World} {rec : LoopState → Loop} {s t : LoopState} {W : World} (h : Book w rec s W) : Book w rec t (W.putObj (w.heap.size + 1) (.loop (rec t))) :=
  ⟨World.putObj_heap_same (Array.getElem?_eq_some_iff.1 h.here).1, (World.putObj_heap_other (by omega)).trans h.mark⟩
theorem Book.keeps {w : World} {rec : LoopState → Loop} {s : LoopState} {W W' : World} (h : Book w rec s W) (k : KeepsFrom w.heap.size W W') : Book w rec s W' :=
  ⟨k.same _ _ (by omega) h.here rfl, k.same _ _ (Nat.le_refl _) h.mark rfl⟩
theorem Book.own {w : World} {rec : LoopState → Loop} {s : LoopState} {β : Type} {B : Nat} (hB : w.heap.size + 2 ≤ B) : OwnFrom B (fun (_ : β) W => Book w rec s W) := fun _ X Y row hs hg hr => by
  have far : ∀ k, k < w.heap.size + 2 → row ≠ some k := fun k hk e => by have := (hr k e).1; omega
  exact ⟨(hg.block _ (Array.getElem?_eq_some_iff.1 hs.here).1 (fun e => far _ (by omega) e.symm)).trans hs.here, (hg.block _ (Array.getElem?_eq_some_iff.1 hs.mark).1 (fun e => far _ (by omega) e.symm)).trans hs.mark⟩

set_option maxHeartbeats 1000000 in
theorem range_y {F : Fence} {n : Nat} {P : Program} {g : Operand} {ps : Array Tmp} {assign body : Code} {Q : Exit → Act → World → Prop} {a : Act} {w : World}
    (hro : F.round = none) (h1 : 1 ≤ n) {gf : Nat} {lb : Array Value} (hg : a.eval g = .func (.func gf) #[] lb) (hFg : F.fn gf) (eg : ∀ args w, (callFunc gf args).run P w = .ok (.enter gf args) w)
    {Y : List Value → Value → World → World → Prop} {Kp : World → World → Prop} {S : List Value → Prop} {N : Nat} {w0 : World} (hseq : SeqY F (n - 1) P gf lb Y Kp S N w0)
    (hKt : ∀ {A B C : World}, Kp A B → Kp B C → Kp A C) (hKb : ∀ (W : World) (l : Nat) (o o' : Obj), w.heap.size ≤ l → W.heap[l]? = some o → o.isCells = false → Kp W (W.putObj l o')) (hb0 : Below w0.heap.size w0 w) (hps : ps.size = 1)
    (I : List Value → World → Prop) (hI : OwnFrom w.heap.size I) (h0 : I [] w) (Ax : List Value → Value → Act → World → Prop) (hAx : ∀ pre x a', OwnFrom w.heap.size (fun (_ : Unit) W => Ax pre x a' W))
    (hassign : ∀ (l : Nat) (pre : List Value) (x : Value) (W0 W : World) (K : Act → World → Prop), I pre W0 → Below W0.heap.size W0 W → Y pre x W0 W → (∀ a' W', KeepsFrom w.heap.size W W' → Kp W W' → Ax pre x a' W' → K a' W') →
      assign.wpIn (F.inRound l) (n - 1 - 1) P (Exit.then K (fun _ _ _ => False)) { tmps := (ps.zip #[x]).foldl (fun t (p, v) => t.setIfInBounds p v) a.tmps, defers := [] } W)
    (hbody : ∀ (l : Nat) (pre : List Value) (x : Value) (a' : Act) (W : World), Ax pre x a' W → pre.length < N →
      body.wpIn (F.inRound l) (n - 1 - 1) P (fun e _ W' => e = .normal ∧ KeepsFrom w.heap.size W W' ∧ Kp W W' ∧ I (pre ++ [x]) W') a' W)
    (hdone : ∀ (D : Nat) (xs : List Value) (W : World), w.heap.size ≤ D → S xs → I xs W → W.heap[D]? = some (.deferred (some [])) → Q .normal { a with defers := { target := .collected D, args := #[] } :: a.defers } W) :
    (Code.rangeFunc g ps assign body).wpIn F n P Q a w := by
  refine wpIn_rangeFunc fun fn hfn => ?_
  rw [hro]
  obtain ⟨rec, hrec⟩ : ∃ rec : LoopState → Loop, rec = fun s => { state := s, pending := none, fn, tmps := a.tmps, params := ps, assign, body, defers := w.heap.size } := ⟨_, rfl⟩
  have hst : ∀ s, (rec s).state = s := fun s => by rw [hrec]
  have hpd : ∀ s, (rec s).pending = none := fun s => by rw [hrec]
  have hto : ∀ s t, { rec s with state := t } = rec t := fun s t => by rw [hrec]
  have hto2 : ∀ s t, { rec s with state := t, pending := none } = rec t := fun s t => by rw [hrec]
  obtain ⟨W1, hW1⟩ : ∃ W1, (w.alloc (.deferred (some []))).alloc (.loop (rec .ready)) = W1 := ⟨_, rfl⟩
  have hsz : W1.heap.size = w.heap.size + 2 := by rw [← hW1]; simp
  have hB1 : Book w rec .ready W1 := by
    rw [← hW1]
    refine ⟨?_, (Below.heap_alloc _ _ _ (by simp)).trans (World.alloc_heap_new w _)⟩
    have := World.alloc_heap_new (w.alloc (.deferred (some []))) (.loop (rec .ready)); rwa [World.size_alloc] at this
  have hI1 : I [] W1 := by rw [← hW1]; exact hI.alloc _ (hI.alloc _ h0)
  have hb1 : Below w0.heap.size w0 W1 := by
    rw [← hW1]; exact hb0.trans ((((Below.refl _ w).alloc (Nat.le_refl _) _).alloc (by simp) _).mono hb0.size)
  have narrow : ∀ {β : Type} {J : β → World → Prop}, OwnFrom w.heap.size J → OwnFrom W1.heap.size J := fun h s X Y row hs hg hr => h s X Y row hs hg fun r e => ⟨by have := (hr r e).1; omega, (hr r e).2⟩
  refine ⟨w.heap.size + 1, [{ target := .collected w.heap.size, args := #[] }], W1, { target := .fn (.func gf) lb, args := #[.func (.yield (w.heap.size + 1)) #[] #[]] }, W1, gf,
    #[.func (.yield (w.heap.size + 1)) #[] #[]] ++ lb, W1, ?_, ?_, ?_, ?_, fun _ => h1, ?_⟩
  · rw [← hW1, hrec]; exact run_enterLoop_outer _ _ _ _ _
  · simp only [resolve, hg]
    simp [go_sem]
  · intro f' hf'; simp [Target.leads] at hf'; subst hf'; exact hFg
  · simp [invoke, go_sem, eg]
  · refine (hseq (w.heap.size + 1) (fun pre W => I pre W ∧ Book w rec .ready W) W1 hb1 (OwnFrom.and (narrow hI) (Book.own (by omega))) ?_ ⟨hI1, hB1⟩).mono ?_
    · rintro pre x W0 W ⟨hi0, hb0'⟩ hbw hY hlen
      have hb : Book w rec .ready W := Book.own (β := Unit) (rec := rec) (s := .ready) (B := w.heap.size + 2) (Nat.le_refl _) () W0 W none hb0' ⟨hbw.os, hbw.tape, hbw.output, hbw.size, fun k hk _ => hbw.block k hk⟩ (fun r e => by cases e)
      have hy := run_yield (P := P) (args := #[x]) hb.here (by rw [hrec]; exact hps.symm)
      rw [hrec] at hy
      refine ⟨fn, _, assign, body, hy, roundIn_of_wpIn hfn (hassign _ pre x W0 W _ hi0 hbw hY ?_)⟩
      clear hy
      intro a' Wa hka hpa hax
      have hba := hb.keeps hka
      have hbeg := run_beginRound (P := P) hba.here (hst _)
      rw [hto] at hbeg
      refine ⟨_, hbeg, ?_⟩
      have hpb := hKb Wa _ _ (.loop (rec .busy)) (by omega) hba.here rfl
      refine wpIn_mono (hbody _ pre x a' _ ((hAx pre x a').putObj (s := ()) _ hax (by omega) hba.here rfl) hlen) ?_
      rintro e a3 W3 ⟨rfl, hk3, hp3, hi3⟩
      have hb3 := (hba.put (t := .busy)).keeps hk3
      have hend := run_endRound (P := P) none hb3.here
      have hkf : KeepsFrom W1.heap.size W (W3.putObj (w.heap.size + 1) (.loop (rec .ready))) := by
        have lift : ∀ {X Y : World}, KeepsFrom w.heap.size X Y → KeepsFrom W1.heap.size X Y := fun k => ⟨k.size, fun i o hB h0 ho => k.same i o (by omega) h0 ho⟩
        have putk : ∀ (X : World) (o : Obj), KeepsFrom W1.heap.size X (X.putObj (w.heap.size + 1) o) := fun X o => KeepsFrom.of_grownBy (grownBy_putObj' X _ o) (fun j e => by cases e; omega)
        exact (((lift hka).trans (putk _ _)).trans (lift hk3)).trans (putk _ _)
      refine ⟨_, _, hend, ?_⟩
      simp only [Option.isNone_none, if_true, hto2]
      exact ⟨trivial, ⟨hI.putObj _ hi3 (by omega) hb3.here rfl, hb3.put⟩, hKt hpa (hKt hpb (hKt hp3 (hKb _ _ _ _ (by omega) hb3.here rfl))), hkf⟩
    · rintro e W2 ⟨⟨v, rfl⟩, xs, hS, hi, hb⟩
      have hend := run_endLoop (P := P) hb.here (by rw [hst]; simp)
      rw [hpd] at hend
      exact ⟨none, _, hend, hdone _ xs _ (Nat.le_refl _) hS (hI.putObj _ hi (by omega) hb.here rfl) ((World.putObj_heap_other (by omega)).trans hb.mark)⟩


/-- What a round keeps: what lies below n0, and block B's cells. -/
def KpI (n0 B : Nat) (X Y : World) : Prop := Below n0 X Y ∧ ∀ o, X.heap[B]? = some o → o.isCells = true → Y.heap[B]? = some o
theorem KpI.trans {n0 B : Nat} {X Y Z : World} (h : KpI n0 B X Y) (k : KpI n0 B Y Z) : KpI n0 B X Z := ⟨h.1.trans k.1, fun o ho hc => k.2 o (h.2 o ho hc) hc⟩
theorem KpI.refl (n0 B : Nat) (X : World) : KpI n0 B X X := ⟨Below.refl _ _, fun _ h _ => h⟩
theorem KpI.put {n0 B l : Nat} (hn : n0 ≤ l) (hl : l ≠ B) (W : World) (o' : Obj) (hlt : l < W.heap.size) : KpI n0 B W (W.putObj l o') :=
  ⟨(Below.refl n0 W).grown (grownBy_putObj' W l o') (by omega) (fun k e => by cases e; omega), fun _ hok _ => (World.putObj_heap_other (fun e => hl e.symm)).trans hok⟩
theorem KpI.cell {n0 B : Nat} {X Y : World} {i : Nat} {v : Value} (h : KpI n0 B X Y) (hc : X.cell? ⟨B, i, none⟩ = some v) : Y.cell? ⟨B, i, none⟩ = some v := by
  have hlt := cell_lt hc
  simp only at hlt
  have hX : X.heap[B]? = some X.heap[B] := Array.getElem?_eq_getElem hlt
  have hcells : X.heap[B].isCells = true := by
    unfold World.cell? at hc
    rw [hX] at hc
    cases ho : X.heap[B] <;> rw [ho] at hc <;> simp [Obj.isCells] at hc ⊢
  rw [World.cell?_of_block (w := X) ((h.2 _ hX hcells).trans hX.symm)]
  exact hc

/-- Frames of new memory, k of them in a row of the call's own. -/
structure Rk (B : Nat) (W : World) (k : Nat) (rows : List (List Int)) (vals : List Value) (v : Value) : Prop where
  len : vals.length = rows.length
  own : W.ownsRow B 39 1 v k (vals.take k)
  row : ∀ j, j < rows.length → W.ownsRow B 3 1 (vals.getD j undef) (rows.getD j []).length ((rows.getD j []).map (Value.int .i64)) ∧ Apart (vals.getD j undef) v
  ok : ∀ j, j < rows.length → okRow (rows.getD j [])
theorem Rk.start (B : Nat) (W : World) : Rk B W 0 [] [] (.slice none 0 0) := ⟨rfl, World.ownsRow_nil _ _ _ _, fun j hj => absurd hj (Nat.not_lt_zero _), fun j hj => absurd hj (Nat.not_lt_zero _)⟩
theorem owns_cells {W : World} {B : Nat} {e : TypeId} {s : Nat} {v : Value} {n : Nat} {xs : List Value} (h : W.ownsRow B e s v n xs) {g : Nat} (hg : v.ownBlock = some g) : ∃ o, W.heap[g]? = some o ∧ o.isCells = true := by
  rcases h.2 with ⟨rfl, _⟩ | ⟨g', cap, cur, rfl, _, hgg, _⟩
  · cases hg
  · cases hg; exact ⟨_, hgg, rfl⟩
theorem owns_far {W W' : World} {B : Nat} {e : TypeId} {s : Nat} {v : Value} {n : Nat} {xs : List Value} {row : Option Nat} (h : W.ownsRow B e s v n xs) (hg : W.grownBy W' row) (hr : ∀ r, row = some r → ∃ o : Obj, W.heap[r]? = some o ∧ o.isCells = false) : W'.ownsRow B e s v n xs :=
  owns_grown h hg fun g hv e => by
    obtain ⟨o, h1, h2⟩ := owns_cells h hv
    obtain ⟨o', h3, h4⟩ := hr g e
    rw [h1] at h3; cases h3; rw [h2] at h4; cases h4
theorem Rk.far {B : Nat} {W W' : World} {k : Nat} {rows : List (List Int)} {vals : List Value} {v : Value} {row : Option Nat} (h : Rk B W k rows vals v) (hg : W.grownBy W' row) (hr : ∀ r, row = some r → ∃ o : Obj, W.heap[r]? = some o ∧ o.isCells = false) : Rk B W' k rows vals v :=
  ⟨h.len, owns_far h.own hg hr, fun j hj => ⟨owns_far (h.row j hj).1 hg hr, (h.row j hj).2⟩, h.ok⟩
theorem Rk.add {B : Nat} {W0 W1 : World} {rows : List (List Int)} {vals : List Value} {v u : Value} {r : List Int} (h : Rk B W0 rows.length rows vals v) (hb : Below W0.heap.size W0 W1) (hB : B ≤ W0.heap.size) (hu : RowNew W0.heap.size W1 r u) : Rk B W1 rows.length (rows ++ [r]) (vals ++ [u]) v := by
  have hg : W0.grownBy W1 none := ⟨hb.os, hb.tape, hb.output, hb.size, fun k hk _ => hb.block k hk⟩
  have h2 := h.far hg (fun r e => by cases e)
  have hv : vals.take rows.length = vals := by rw [List.take_of_length_le (by rw [h.len]; exact Nat.le_refl _)]
  have hv2 : (vals ++ [u]).take rows.length = vals := by rw [← h.len]; simp
  refine ⟨by simp [h.len], by rw [hv2]; rw [← hv]; exact h2.own, fun j hj => ?_, fun j hj => ?_⟩
  · simp at hj
    by_cases hlt : j < rows.length
    · rw [getD_snoc_lt (by rw [h.len]; exact hlt), getD_snoc_lt hlt]; exact h2.row j hlt
    · obtain rfl : j = rows.length := by omega
      rw [getD_snoc_eq, ← h.len, getD_snoc_eq]
      refine ⟨owns_base hu.1 hB, fun g hu2 e => ?_⟩
      have := (hu.1.lt g hu2).1
      have := (h.own.lt g e).2
      omega
  · simp at hj
    by_cases hlt : j < rows.length
    · rw [getD_snoc_lt hlt]; exact h.ok j hlt
    · obtain rfl : j = rows.length := by omega
      rw [getD_snoc_eq]; exact hu.2
theorem Rk.app {B : Nat} {W w2 : World} {k : Nat} {rows : List (List Int)} {vals : List Value} {v v' : Value} {tmp : Obj} (h : Rk B W k rows vals v) (hk : rows.length = k + 1) (hown : w2.ownsRow B 39 1 v' (k + 1) vals) (hg : (W.alloc tmp).grownBy w2 v.ownBlock) (hm : Moved (W.alloc tmp) v v') : Rk B w2 (k + 1) rows vals v' := by
  refine ⟨h.len, by rw [List.take_of_length_le (by rw [h.len, hk]; exact Nat.le_refl _)]; exact hown, fun j hj => ?_, h.ok⟩
  obtain ⟨h1, h2⟩ := h.row j hj
  refine ⟨owns_grown (h1.alloc tmp) hg (fun g hu e => h2 g hu e), fun g hu e => ?_⟩
  rcases hm with hm | ⟨q, hq, hq2⟩
  · exact h2 g hu (hm.symm.trans e)
  · have := (h1.lt g hu).2
    rw [hq] at e; cases e; simp at hq2; omega
theorem Rk.box {B : Nat} {W : World} {k : Nat} {rows : List (List Int)} {vals : List Value} {v : Value} (h : Rk B W k rows vals v) {Bo : Nat} {t : TypeId} {u : Value} (hb : Boxed W Bo t u) (ht : t ≠ 39) (ht3 : t ≠ 3) (x : Value) : Rk B (W.setCell ⟨Bo, 0, none⟩ x) k rows vals v := by
  have hg := grownBy_setCell' W Bo x
  exact ⟨h.len, owns_grown h.own hg (fun g hv e => (hb.not_row ht h.own) (by rw [hv]; exact e)), fun j hj => ⟨owns_grown (h.row j hj).1 hg (fun g hv e => (hb.not_row ht3 (h.row j hj).1) (by rw [hv]; exact e)), (h.row j hj).2⟩, h.ok⟩
theorem Rk.mat {B : Nat} {W : World} {rows : List (List Int)} {vals : List Value} {v : Value} (h : Rk B W rows.length rows vals v) (hr : rows.length ≤ 17592186044416) : MatNew B W rows v := by
  intro w' he
  have hv : vals.take rows.length = vals := by rw [List.take_of_length_le (by rw [h.len]; exact Nat.le_refl _)]
  have hol := h.own
  rw [hv] at hol
  have hlt := hol.lt
  rcases hol.2 with ⟨rfl, h0⟩ | ⟨g, cap, cur, rfl, hb, hgg, hn, hcm, _, _⟩
  · exact ⟨none, 0, by rw [h0], (fun i hi => by omega), by omega, by omega⟩
  · refine ⟨some ⟨g, 0, none⟩, cap, rfl, fun i hi => ⟨g, 0, vals.getD i undef, rfl, ?_, owns_row (h.row i hi).1 (h.ok i hi) he⟩, hr, hn⟩
    have h1 := hol.cells (g := g) rfl i (vals.getD i undef) (by simp [List.getD, show i < vals.length by rw [h.len]; exact hi])
    rw [add_at] at h1
    have h2 := hlt g rfl
    rw [World.cell?_of_block (w := W) (he g h2.1 h2.2)]
    exact h1
end Go.Proofs.Ytgcohmlapgnbdaa
