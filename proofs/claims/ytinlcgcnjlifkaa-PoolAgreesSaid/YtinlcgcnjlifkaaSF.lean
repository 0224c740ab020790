/- A range over an iterator whose values are known ahead. -/
import Derived.Test.YtinlcgcnjlifkaaSE
import Derived.RangeFuncNested
import Derived.RangeFuncBound
import Derived.RangeFuncCalls
import Derived.RangeFuncLeaves
import Derived.RangeFuncBox
import Derived.Maps.AppendAt
namespace Go.Proofs.Ytinlcgcnjlifkaa
open Go.RowKit

/-- What such an iterator promises: the values in their order, no round leaving early. -/
def SeqZ (F : Fence) (n : Nat) (P : Program) (g : Nat) (lb : Array Value) (Kp : World → World → Prop) (xs : List (Array Value)) (w : World) : Prop :=
  ∀ (l : Nat) (J : Nat → World → Prop) (W : World), Below w.heap.size w W → OwnFrom W.heap.size J →
    (∀ k W1, k < xs.length → J k W1 → YieldAt F (n - 1) P l (xs.getD k #[]) W1 fun e W' => e = .returned (.bool true) ∧ J (k + 1) W' ∧ Kp W1 W' ∧ KeepsFrom W.heap.size W1 W') →
    J 0 W → CallsIn F n P g (#[.func (.yield l) #[] #[]] ++ lb) W fun e W' => (∃ v, e = .returned v) ∧ J xs.length W'

/-- The loop's record in its three states. -/
structure Book (w : World) (rec : LoopState → Loop) (s : LoopState) (W : World) : Prop where
  here : W.heap[w.heap.size + 1]? = some (.loop (rec s))
  mark : W.heap[w.heap.size]? = some (.deferred (some []))
theorem Book.put {w : World} {rec : LoopState → Loop} {s t : LoopState} {W : World} (h : Book w rec s W) : Book w rec t (W.putObj (w.heap.size + 1) (.loop (rec t))) :=
  ⟨World.putObj_heap_same (Array.getElem?_eq_some_iff.1 h.here).1, (World.putObj_heap_other (by omega)).trans h.mark⟩
theorem Book.keeps {w : World} {rec : LoopState → Loop} {s : LoopState} {W W' : World} (h : Book w rec s W) (k : KeepsFrom w.heap.size W W') : Book w rec s W' :=
  ⟨k.same _ _ (by omega) h.here rfl, k.same _ _ (Nat.le_refl _) h.mark rfl⟩
theorem Book.own {w : World} {rec : LoopState → Loop} {s : LoopState} {β : Type} {B : Nat} (hB : w.heap.size + 2 ≤ B) : OwnFrom B (fun (_ : β) W => Book w rec s W) := fun _ X Y row hs hg hr => by
  have far : ∀ k, k < w.heap.size + 2 → row ≠ some k := fun k hk e => by have := (hr k e).1; omega
  exact ⟨(hg.block _ (Array.getElem?_eq_some_iff.1 hs.here).1 (fun e => far _ (by omega) e.symm)).trans hs.here, (hg.block _ (Array.getElem?_eq_some_iff.1 hs.mark).1 (fun e => far _ (by omega) e.symm)).trans hs.mark⟩

set_option maxHeartbeats 1000000 in
theorem range_z {F : Fence} {n : Nat} {P : Program} {g : Operand} {ps : Array Tmp} {assign body : Code} {Q : Exit → Act → World → Prop} {a : Act} {w : World}
    (hro : F.round = none) (h1 : 1 ≤ n) {gf : Nat} {lb : Array Value} (hg : a.eval g = .func (.func gf) #[] lb) (hFg : F.fn gf) (eg : ∀ args w, (callFunc gf args).run P w = .ok (.enter gf args) w)
    {Kp : World → World → Prop} {xs : List (Array Value)} {w0 : World} (hseq : SeqZ F (n - 1) P gf lb Kp xs w0)
    (hKt : ∀ {A B C : World}, Kp A B → Kp B C → Kp A C) (hKb : ∀ (W : World) (l : Nat) (o o' : Obj), w.heap.size ≤ l → W.heap[l]? = some o → o.isCells = false → Kp W (W.putObj l o')) (hb0 : Below w0.heap.size w0 w) (hps : ∀ k, k < xs.length → ps.size = (xs.getD k #[]).size)
    (I : Nat → World → Prop) (hI : OwnFrom w.heap.size I) (h0 : I 0 w) (Ax : Nat → Act → World → Prop) (hAx : ∀ k a', OwnFrom w.heap.size (fun (_ : Unit) W => Ax k a' W))
    (hassign : ∀ (l k : Nat) (W : World) (K : Act → World → Prop), k < xs.length → I k W → (∀ a' W', KeepsFrom w.heap.size W W' → Kp W W' → Ax k a' W' → K a' W') →
      assign.wpIn (F.inRound l) (n - 1 - 1) P (Exit.then K (fun _ _ _ => False)) { tmps := (ps.zip (xs.getD k #[])).foldl (fun t (p, v) => t.setIfInBounds p v) a.tmps, defers := [] } W)
    (hbody : ∀ (l k : Nat) (a' : Act) (W : World), Ax k a' W → k < xs.length →
      body.wpIn (F.inRound l) (n - 1 - 1) P (fun e _ W' => e = .normal ∧ KeepsFrom w.heap.size W W' ∧ Kp W W' ∧ I (k + 1) W') a' W)
    (hdone : ∀ (D : Nat) (W : World), w.heap.size ≤ D → I xs.length W → W.heap[D]? = some (.deferred (some [])) → Q .normal { a with defers := { target := .collected D, args := #[] } :: a.defers } W) :
    (Code.rangeFunc g ps assign body).wpIn F n P Q a w := by
  refine wpIn_rangeFunc fun fn hfn => ?_
  rw [hro]
  obtain ⟨rec, hrec⟩ : ∃ rec : LoopState → Loop, rec = fun s => { state := s, pending := none, fn, tmps := a.tmps, params := ps, assign, body, defers := w.heap.size } := ⟨_, rfl⟩
  have hst : ∀ s, (rec s).state = s := fun s => by rw [hrec]
  have hpd : ∀ s, (rec s).pending = none := fun s => by rw [hrec]
  have hto : ∀ s t, { rec s with state := t } = rec t := fun s t => by rw [hrec]
  have hto2 : ∀ s t, { rec s with state := t, pending := none } = rec t := fun s t => by rw [hrec]
  obtain ⟨W1, hW1⟩ : ∃ W1, (w.alloc (.deferred (some []))).alloc (.loop (rec .ready)) = W1 := ⟨_, rfl⟩
  have hsz : W1.heap.size = w.heap.size + 2 := by rw [← hW1]; simp
  have hB1 : Book w rec .ready W1 := by
    rw [← hW1]
    refine ⟨?_, (Below.heap_alloc _ _ _ (by simp)).trans (World.alloc_heap_new w _)⟩
    have := World.alloc_heap_new (w.alloc (.deferred (some []))) (.loop (rec .ready)); rwa [World.size_alloc] at this
  have hI1 : I 0 W1 := by rw [← hW1]; exact hI.alloc _ (hI.alloc _ h0)
  have hb1 : Below w0.heap.size w0 W1 := by
    rw [← hW1]; exact hb0.trans ((((Below.refl _ w).alloc (Nat.le_refl _) _).alloc (by simp) _).mono hb0.size)
  have narrow : ∀ {β : Type} {J : β → World → Prop}, OwnFrom w.heap.size J → OwnFrom W1.heap.size J := fun h s X Y row hs hg hr => h s X Y row hs hg fun r e => ⟨by have := (hr r e).1; omega, (hr r e).2⟩
  refine ⟨w.heap.size + 1, [{ target := .collected w.heap.size, args := #[] }], W1, { target := .fn (.func gf) lb, args := #[.func (.yield (w.heap.size + 1)) #[] #[]] }, W1, gf,
    #[.func (.yield (w.heap.size + 1)) #[] #[]] ++ lb, W1, ?_, ?_, ?_, ?_, fun _ => h1, ?_⟩
  · rw [← hW1, hrec]; exact run_enterLoop_outer _ _ _ _ _
  · simp only [resolve, hg]
    simp [go_sem]
  · intro f' hf'; simp [Target.leads] at hf'; subst hf'; exact hFg
  · simp [invoke, go_sem, eg]
  · refine (hseq (w.heap.size + 1) (fun k W => I k W ∧ Book w rec .ready W) W1 hb1 (OwnFrom.and (narrow hI) (Book.own (by omega))) ?_ ⟨hI1, hB1⟩).mono ?_
    · rintro k W hlen ⟨hi0, hb⟩
      have hy := run_yield (P := P) (args := xs.getD k #[]) hb.here (by rw [hrec]; exact (hps k hlen).symm)
      rw [hrec] at hy
      refine ⟨fn, _, assign, body, hy, roundIn_of_wpIn hfn (hassign _ k W _ hlen hi0 ?_)⟩
      clear hy
      intro a' Wa hka hpa hax
      have hba := hb.keeps hka
      have hbeg := run_beginRound (P := P) hba.here (hst _)
      rw [hto] at hbeg
      refine ⟨_, hbeg, ?_⟩
      have hpb := hKb Wa _ _ (.loop (rec .busy)) (by omega) hba.here rfl
      refine wpIn_mono (hbody _ k a' _ ((hAx k a').putObj (s := ()) _ hax (by omega) hba.here rfl) hlen) ?_
      rintro e a3 W3 ⟨rfl, hk3, hp3, hi3⟩
      have hb3 := (hba.put (t := .busy)).keeps hk3
      have hend := run_endRound (P := P) none hb3.here
      have hkf : KeepsFrom W1.heap.size W (W3.putObj (w.heap.size + 1) (.loop (rec .ready))) := by
        have lift : ∀ {X Y : World}, KeepsFrom w.heap.size X Y → KeepsFrom W1.heap.size X Y := fun k => ⟨k.size, fun i o hB h0 ho => k.same i o (by omega) h0 ho⟩
        have putk : ∀ (X : World) (o : Obj), KeepsFrom W1.heap.size X (X.putObj (w.heap.size + 1) o) := fun X o => KeepsFrom.of_grownBy (grownBy_putObj' X _ o) (fun j e => by cases e; omega)
        exact (((lift hka).trans (putk _ _)).trans (lift hk3)).trans (putk _ _)
      refine ⟨_, _, hend, ?_⟩
      simp only [Option.isNone_none, if_true, hto2]
      exact ⟨trivial, ⟨hI.putObj _ hi3 (by omega) hb3.here rfl, hb3.put⟩, hKt hpa (hKt hpb (hKt hp3 (hKb _ _ _ _ (by omega) hb3.here rfl))), hkf⟩
    · rintro e W2 ⟨⟨v, rfl⟩, hi, hb⟩
      have hend := run_endLoop (P := P) hb.here (by rw [hst]; simp)
      rw [hpd] at hend
      exact ⟨none, _, hend, hdone _ _ (Nat.le_refl _) (hI.putObj _ hi (by omega) hb.here rfl) ((World.putObj_heap_other (by omega)).trans hb.mark)⟩
end Go.Proofs.Ytinlcgcnjlifkaa
