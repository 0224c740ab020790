/- A range over an iterator that writes into one block of its own, while the round's own rows may grow. -/
import Derived.Test.YthfagnbecocgdaaRD
namespace Go.Proofs.Ythfagnbecocgdaa
open Go.RowKit Go.Shelf Go.Deep
attribute [local go_sem] Oper.semAt_some

/-- The caller's invariant abides what happens to block B, to what is no cells beyond it, and whatever is new. -/
def OwnIt {β : Type} (B : Nat) (I : β → World → Prop) : Prop := ∀ s W W' row, I s W → W.grownBy W' row → (∀ r, row = some r → r = B ∨ (B ≤ r ∧ ∃ o : Obj, W.heap[r]? = some o ∧ o.isCells = false)) → I s W'
theorem OwnIt.from {β : Type} {B : Nat} {I : β → World → Prop} (h : OwnIt B I) : OwnFrom B I := fun s W W' row hs hg hr => h s W W' row hs hg fun r e => .inr (hr r e)
theorem OwnIt.and {β : Type} {B : Nat} {I J : β → World → Prop} (h : OwnIt B I) (k : OwnIt B J) : OwnIt B (fun s W => I s W ∧ J s W) := fun s W W' row hs hg hr => ⟨h s W W' row hs.1 hg hr, k s W W' row hs.2 hg hr⟩
theorem OwnAny.it {β : Type} {B : Nat} {I : β → World → Prop} (h : OwnAny B I) : OwnIt B I := fun s W W' row hs hg hr => h s W W' row hs hg fun r e => by rcases hr r e with h | h; omega; exact h.1
theorem OwnIt.below {β : Type} {B : Nat} {I : β → World → Prop} (h : OwnIt B I) {s : β} {X Y : World} (hs : I s X) (hb : Below X.heap.size X Y) : I s Y :=
  h s X Y none hs ⟨hb.os, hb.tape, hb.output, hb.size, fun k hk _ => hb.block k hk⟩ (fun r e => by cases e)
theorem OwnIt.set {β : Type} {B : Nat} {I : β → World → Prop} (h : OwnIt B I) {s : β} {X : World} (hs : I s X) (p : Addr) (v : Value) (hp : p.block = B) : I s (X.setCell p v) :=
  h s X _ (some p.block) hs ⟨rfl, rfl, rfl, by simp, fun k _ hk => blk_setCell_other _ _ _ _ (fun e => hk (by rw [e]))⟩ (fun r e => by cases e; exact .inl hp)

/-- What a round keeps: what lies below n0, and block B's cells. -/
def KpI (n0 B : Nat) (X Y : World) : Prop := Below n0 X Y ∧ ∀ o, X.heap[B]? = some o → o.isCells = true → Y.heap[B]? = some o
theorem KpI.trans {n0 B : Nat} {X Y Z : World} (h : KpI n0 B X Y) (k : KpI n0 B Y Z) : KpI n0 B X Z := ⟨h.1.trans k.1, fun o ho hc => k.2 o (h.2 o ho hc) hc⟩
theorem KpI.put {n0 B l : Nat} (hn : n0 ≤ l) (hl : l ≠ B) (W : World) (o' : Obj) (hlt : l < W.heap.size) : KpI n0 B W (W.putObj l o') :=
  ⟨(Below.refl n0 W).grown (grownBy_putObj' W l o') (by omega) (fun k e => by cases e; omega), fun _ hok _ => (World.putObj_heap_other (fun e => hl e.symm)).trans hok⟩
theorem rowIs_ki {n0 B : Nat} {X Y : World} {t n : Nat} {F : Nat → Value} (h : X.rowIs B t n F) (hk : KpI n0 B X Y) : Y.rowIs B t n F := by
  obtain ⟨c, h1, h2, h3⟩ := h
  exact ⟨c, hk.2 _ h1 rfl, h2, h3⟩

/-- What such an iterator promises. -/
def SeqIt {α : Type} (F : Fence) (n : Nat) (P : Program) (g : Nat) (lb : Array Value) (encs : α → Array Value) (n0 : Nat) (S : List α → Prop) (N : Nat) (w : World) : Prop :=
  ∀ (l : Nat) (J : List α → World → Prop) (W : World), Below w.heap.size w W → n0 ≤ W.heap.size → OwnIt W.heap.size J →
    (∀ pre x W1, J pre W1 → pre.length < N → W.heap.size < W1.heap.size → YieldAt F (n - 1) P l (encs x) W1 fun e W' => e = .returned (.bool true) ∧ J (pre ++ [x]) W' ∧ KpI n0 W.heap.size W1 W' ∧ KeepsFrom W.heap.size W1 W') →
    J [] W → CallsIn F n P g (#[.func (.yield l) #[] #[]] ++ lb) W fun e W' => (∃ v, e = .returned v) ∧ ∃ xs, S xs ∧ J xs W'

set_option maxHeartbeats 1000000 in
theorem range_it {F : Fence} {n : Nat} {P : Program} {α : Type} {g : Operand} {ps : Array Tmp} {assign body : Code} {Q : Exit → Act → World → Prop} {a : Act} {w : World}
    (hro : F.round = none) (h1 : 1 ≤ n) {gf : Nat} {lb : Array Value} (hg : a.eval g = .func (.func gf) #[] lb) (hFg : F.fn gf) (eg : ∀ args w, (callFunc gf args).run P w = .ok (.enter gf args) w)
    {encs : α → Array Value} {n0 : Nat} {S : List α → Prop} {N : Nat} {w0 : World} (hseq : SeqIt F (n - 1) P gf lb encs n0 S N w0)
    (hn0 : n0 ≤ w.heap.size) (hb0 : Below w0.heap.size w0 w) (hps : ∀ x, (encs x).size = ps.size)
    (I : List α → World → Prop) (hI : OwnFrom w.heap.size I) (hI2 : OwnIt (w.heap.size + 2) I) (h0 : I [] w) (Ax : List α → α → Act → World → Prop) (hAx : ∀ pre x a', OwnFrom w.heap.size (fun (_ : Unit) W => Ax pre x a' W))
    (hassign : ∀ (l : Nat) (pre : List α) (x : α) (W : World) (K : Act → World → Prop), I pre W → (∀ a' W', KeepsFrom w.heap.size W W' → KpI n0 (w.heap.size + 2) W W' → I pre W' → Ax pre x a' W' → K a' W') →
      assign.wpIn (F.inRound l) (n - 1 - 1) P (Exit.then K (fun _ _ _ => False)) { tmps := (ps.zip (encs x)).foldl (fun t (p, v) => t.setIfInBounds p v) a.tmps, defers := [] } W)
    (hbody : ∀ (l : Nat) (pre : List α) (x : α) (a' : Act) (W : World), I pre W → Ax pre x a' W → pre.length < N → w.heap.size + 2 < W.heap.size →
      body.wpIn (F.inRound l) (n - 1 - 1) P (fun e _ W' => e = .normal ∧ KeepsFrom w.heap.size W W' ∧ KpI n0 (w.heap.size + 2) W W' ∧ I (pre ++ [x]) W') a' W)
    (hdone : ∀ (D : Nat) (xs : List α) (W : World), w.heap.size ≤ D → S xs → I xs W → W.heap[D]? = some (.deferred (some [])) → Q .normal { a with defers := { target := .collected D, args := #[] } :: a.defers } W) :
    (Code.rangeFunc g ps assign body).wpIn F n P Q a w := by
  refine wpIn_rangeFunc fun fn hfn => ?_
  rw [hro]
  obtain ⟨rec, hrec⟩ : ∃ rec : LoopState → Loop, rec = fun s => { state := s, pending := none, fn, tmps := a.tmps, params := ps, assign, body, defers := w.heap.size } := ⟨_, rfl⟩
  have hst : ∀ s, (rec s).state = s := fun s => by rw [hrec]
  have hpd : ∀ s, (rec s).pending = none := fun s => by rw [hrec]
  have hto : ∀ s t, { rec s with state := t } = rec t := fun s t => by rw [hrec]
  have hto2 : ∀ s t, { rec s with state := t, pending := none } = rec t := fun s t => by rw [hrec]
  obtain ⟨W1, hW1⟩ : ∃ W1, (w.alloc (.deferred (some []))).alloc (.loop (rec .ready)) = W1 := ⟨_, rfl⟩
  have hsz : W1.heap.size = w.heap.size + 2 := by rw [← hW1]; simp
  have hB1 : Book w rec .ready W1 := by
    rw [← hW1]
    refine ⟨?_, (Below.heap_alloc _ _ _ (by simp)).trans (World.alloc_heap_new w _)⟩
    have := World.alloc_heap_new (w.alloc (.deferred (some []))) (.loop (rec .ready)); rwa [World.size_alloc] at this
  have hI1 : I [] W1 := by rw [← hW1]; exact hI.alloc _ (hI.alloc _ h0)
  have hb1 : Below w0.heap.size w0 W1 := by
    rw [← hW1]; exact hb0.trans ((((Below.refl _ w).alloc (Nat.le_refl _) _).alloc (by simp) _).mono hb0.size)
  refine ⟨w.heap.size + 1, [{ target := .collected w.heap.size, args := #[] }], W1, { target := .fn (.func gf) lb, args := #[.func (.yield (w.heap.size + 1)) #[] #[]] }, W1, gf,
    #[.func (.yield (w.heap.size + 1)) #[] #[]] ++ lb, W1, ?_, ?_, ?_, ?_, fun _ => h1, ?_⟩
  · rw [← hW1, hrec]; exact run_enterLoop_outer _ _ _ _ _
  · simp only [resolve, hg]
    simp [go_sem]
  · intro f' hf'; simp [Target.leads] at hf'; subst hf'; exact hFg
  · simp [invoke, go_sem, eg]
  · refine (hseq (w.heap.size + 1) (fun pre W => I pre W ∧ Book w rec .ready W) W1 hb1 (by omega) (OwnIt.and (by rw [hsz]; exact hI2) (OwnAny.it (Book.own (by omega)))) ?_ ⟨hI1, hB1⟩).mono ?_
    · rintro pre x W ⟨hi, hb⟩ hlen hgt
      rw [hsz] at hgt ⊢
      have hy := run_yield (P := P) (args := encs x) hb.here (by rw [hrec]; exact hps x)
      rw [hrec] at hy
      refine ⟨fn, _, assign, body, hy, roundIn_of_wpIn hfn (hassign _ pre x W _ hi ?_)⟩
      clear hy
      intro a' Wa hka hpa hia hax
      have hba := hb.keeps hka
      have hbeg := run_beginRound (P := P) hba.here (hst _)
      rw [hto] at hbeg
      refine ⟨_, hbeg, ?_⟩
      have hpb := KpI.put (n0 := n0) (B := w.heap.size + 2) (l := w.heap.size + 1) (by omega) (by omega) Wa (.loop (rec .busy)) (Array.getElem?_eq_some_iff.1 hba.here).1
      refine wpIn_mono (hbody _ pre x a' _ (hI.putObj _ hia (by omega) hba.here rfl) ((hAx pre x a').putObj (s := ()) _ hax (by omega) hba.here rfl) hlen (by have := hka.size; simpa using (show w.heap.size + 2 < Wa.heap.size by omega))) ?_
      rintro e a3 W3 ⟨rfl, hk3, hp3, hi3⟩
      have hb3 := (hba.put (t := .busy)).keeps hk3
      have hend := run_endRound (P := P) none hb3.here
      have hkf : KeepsFrom (w.heap.size + 2) W (W3.putObj (w.heap.size + 1) (.loop (rec .ready))) := by
        have lift : ∀ {X Y : World}, KeepsFrom w.heap.size X Y → KeepsFrom (w.heap.size + 2) X Y := fun k => ⟨k.size, fun i o hB h0 ho => k.same i o (by omega) h0 ho⟩
        have putk : ∀ (X : World) (o : Obj), KeepsFrom (w.heap.size + 2) X (X.putObj (w.heap.size + 1) o) := fun X o => KeepsFrom.of_grownBy (grownBy_putObj' X _ o) (fun j e => by cases e; omega)
        exact (((lift hka).trans (putk _ _)).trans (lift hk3)).trans (putk _ _)
      refine ⟨_, _, hend, ?_⟩
      simp only [Option.isNone_none, if_true, hto2]
      exact ⟨trivial, ⟨hI.putObj _ hi3 (by omega) hb3.here rfl, hb3.put⟩, hpa.trans (hpb.trans (hp3.trans (KpI.put (by omega) (by omega) _ _ (Array.getElem?_eq_some_iff.1 hb3.here).1))), hkf⟩
    · rintro e W2 ⟨⟨v, rfl⟩, xs, hS, hi, hb⟩
      have hend := run_endLoop (P := P) hb.here (by rw [hst]; simp)
      rw [hpd] at hend
      exact ⟨none, _, hend, hdone _ xs _ (Nat.le_refl _) hS (hI.putObj _ hi (by omega) hb.here rfl) ((World.putObj_heap_other (by omega)).trans hb.mark)⟩

set_option maxHeartbeats 4000000 in
set_option maxRecDepth 100000 in
theorem gains_it (n : Nat) (hn : 6 ≤ n) {f t m a : Int} (hr : RampOk f t m a) (R Kb k : Nat) (hk : k ≤ 4096) (n0 : Nat) (w : World)
    (hR : RampAt R 0 f t m a w) (hK : w.cell? ⟨Kb, 0, none⟩ = some (.int .i64 k)) :
    SeqIt Fence.wide n Try.prog 108 #[at0 R, at0 Kb] (fun x : { i : Nat // i < k } => gainVals (rampG f t m a) x.1) n0 (fun ys => ys.map Subtype.val = List.range k) 5000 w := by
  intro l J W hW hn0 hJ hY h0
  have HY := Lib.hid hY
  have HJ := Lib.hid hJ
  have HR := Lib.hid hr
  have hs := Same.of_below hW
  have hsz := hW.size
  have hkc : ∀ Z, (W.alloc Z).cell? ⟨Kb, 0, none⟩ = some (.int .i64 k) := fun Z => (Same.alloc _ Z).cell (hs.cell hK)
  obtain ⟨r0, r1, r2, r3⟩ := hR.mono hs
  have HNW : Hid (∀ (j : Nat) (x : World), Calls Try.prog 70 #[rampV f t m (min (a + j) m)] x fun e w' => e = .returned (.int .i64 (rampG f t m a j)) ∧ Below x.heap.size x w') := Lib.hid fun j x => now_any (rampOk_at hr j) x
  have HGO : Hid (∀ (j : Nat) (x : World), x.rowIs W.heap.size 77 4 (rampF f t m (min (a + j) m)) → Calls Try.prog 58 #[.pointer (some ⟨W.heap.size, 0, none⟩), .int .i64 1] x fun e w' => e = .returned (.tuple #[]) ∧
      ∃ X, Below x.heap.size x X ∧ w' = X.setCell ⟨W.heap.size, 0 + 3, none⟩ (.int .i64 (min (a + (j + 1 : Nat)) m))) := Lib.hid fun j x hx => by
    have h1 := goOn_any (rampOk_at hr j) W.heap.size 0 1 (by decide) x (RampAt.row hx) (hx.frozen 3)
    have e : min (a + (j : Int)) m + min 1 (m - min (a + (j : Int)) m) = min (a + (j + 1 : Nat)) m := by omega
    rwa [e] at h1
  have hst : (W.alloc (.cells #[.int .i64 f, .int .i64 t, .int .i64 m, .int .i64 a] 77)).rowIs W.heap.size 77 4 (rampF f t m (min (a + (0 : Nat)) m)) := by
    have e : min (a + (0 : Nat)) m = a := by have := hr.ha; omega
    rw [e]
    refine World.rowIs_alloc W #[.int .i64 f, .int .i64 t, .int .i64 m, .int .i64 a] 77 _ fun i hi => ?_
    have : i = 0 ∨ i = 1 ∨ i = 2 ∨ i = 3 := by simp at hi; omega
    rcases this with rfl | rfl | rfl | rfl <;> rfl
  have HST := Lib.hid hst
  clear hY hJ hr hW hK hR hs hst
  simp only [Nat.zero_add] at r0 r1 r2 r3
  refine callsIn_of_wp Try.func108 rfl trivial ?_ rfl
  simp only [Try.ntmps108, List.size_toArray, List.length_cons, List.length_nil, Nat.reduceAdd, Nat.reduceSub, Array.replicate_succ, Array.replicate_zero, List.push_toArray, List.append_toArray, List.nil_append, List.cons_append]
  gi_wp2
  have hJ1 := HJ.out.from.alloc (.cells #[.int .i64 f, .int .i64 t, .int .i64 m, .int .i64 a] 77) h0
  have hrow := HST.out
  clear HST hkc r0 r1 r2 r3 h0
  have hs1 : W.heap.size ≤ (W.alloc (.cells #[.int .i64 f, .int .i64 t, .int .i64 m, .int .i64 a] 77)).heap.size := by simp
  generalize W.alloc (.cells #[.int .i64 f, .int .i64 t, .int .i64 m, .int .i64 a] 77) = W1 at *
  gi_loopw [8] (fun i wr => ∃ j : Nat, j ≤ k ∧ i = .int .i64 j ∧ wr.rowIs W.heap.size 77 4 (rampF f t m (min (a + j) m)) ∧ W.heap.size ≤ wr.heap.size ∧ ∃ q : List { i : Nat // i < k }, q.map Subtype.val = List.range j ∧ J q wr) (fun i _ => k - (intOf i).toNat)
  case atStart => exact ⟨0, Nat.zero_le _, rfl, hrow, hs1, [], rfl, hJ1⟩
  case round =>
    clear hrow hJ1 hs1
    obtain ⟨j, hj, rfl, hrow, hsw, q, hq, hJq⟩ := hrel
    by_cases hlt : j < k
    · have w4 : (j : Int) < (k : Int) := by omega
      obtain ⟨c0, c1, c2, c3⟩ := RampAt.row hrow
      simp only [Nat.zero_add] at c0 c1 c2 c3
      have hnow := HNW.out j wr
      unfold rampV at hnow
      have hql : q.length = j := by have := congrArg List.length hq; simpa using this
      have HROW := Lib.hid hrow
      have HQ := Lib.hid hq
      have HJQ := Lib.hid hJq
      clear hrow hq hJq
      gi_wp2
      refine ⟨trivial, fun _ => by omega, (callsIn_wide.2 hnow).mono ?_⟩
      rintro e w1 ⟨rfl, hb1⟩
      have hJ1 := HJ.out.below HJQ.out hb1
      have HROW1 := Lib.hid (HROW.out.of_block (hb1.block _ HROW.out.lt))
      have hsw1 := Nat.le_trans hsw hb1.size
      obtain ⟨fn, tmps, assign, body, hy, hRR⟩ := HY.out q ⟨j, hlt⟩ w1 hJ1 (by omega) HROW1.out.lt
      unfold gainVals at hy
      dsimp only at hy
      clear hJ1 hb1 c0 c1 c2 c3 hnow
      gi_wp2
      refine ⟨fun _ => by omega, hRR.mono ?_⟩
      rintro e W3 ⟨rfl, hJ3, hk3, _⟩
      have hrow3 := rowIs_ki HROW1.out hk3
      have hgo := HGO.out j W3 hrow3
      have HROW3 := Lib.hid hrow3
      have hsw3 := Nat.le_trans hsw1 hk3.1.size
      clear hrow3 hk3 hRR hy
      gi_wp2
      refine ⟨trivial, fun _ => by omega, (callsIn_wide.2 hgo).mono ?_⟩
      rintro e w4 ⟨rfl, X, hX, rfl⟩
      have hJ4 := HJ.out.set (HJ.out.below hJ3 hX) ⟨W.heap.size, 0 + 3, none⟩ (.int .i64 (min (a + (j + 1 : Nat)) m)) rfl
      have hrow4 := ramp_row_set (b := min (a + (j + 1 : Nat)) m) (HROW3.out.of_block (hX.block _ HROW3.out.lt))
      have HF := Lib.hid (And.intro hJ4 hrow4)
      have hsw4 := Nat.le_trans hsw3 hX.size
      clear hJ4 hrow4 hgo hJ3 hX
      gi_wp2
      go_roundw
      case rel => exact ⟨j + 1, by omega, by go_num, HF.out.2, by simpa using hsw4, q ++ [⟨j, hlt⟩], by simp [HQ.out, List.range_succ], HF.out.1⟩
      case measure => simp [intOf]; omega
    · obtain rfl : j = k := by omega
      have w4 : ¬ (j : Int) < (j : Int) := by omega
      gi_wp2
      go_end0
      exact ⟨⟨_, rfl⟩, q, hq, hJq⟩
end Go.Proofs.Ythfagnbecocgdaa
