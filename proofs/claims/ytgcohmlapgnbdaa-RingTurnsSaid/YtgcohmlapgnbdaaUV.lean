/- The document's Play: what its third loop keeps; the code of that loop's round. -/
import Derived.Test.YtgcohmlapgnbdaaUT
namespace Go.Proofs.Ytgcohmlapgnbdaa
open Go.RowKit Go.Shelf Go.Deep

theorem wpList_append_run {w w' : World} {ops : Array Oper} {rest : List Oper} {o : Oper} {a : Act} {Q : Exit → Act → World → Prop} {ov gv v : Value} (hgd : o.guard = none) (sx xx : Operand)
    (ho : o.op = .call { callee := .builtin .append, args := #[sx, xx], argTypes := #[29, 29] }) (hr : (Builtin.append_ #[29, 29] o.type #[ov, gv]).run Try.prog w = .ok v w') (hs : a.eval sx = ov) (hx : a.eval xx = gv)
    (h : wpList Try.prog ops Q rest (a.put o.dst v) w') : wpList Try.prog ops Q (o :: rest) a w := by
  refine wpList_plain hgd fun K hK => ?_
  unfold Oper.wp execOp
  simp only [ho, resolve, invoke, builtin, Sem.run_bind, Sem.run_pure, Result.andThen_ok, List.map_toArray, List.map_cons, List.map_nil, hs, hx, hr]
  exact hK _ _ h
def clI (h : Bool) (n : Nat) : Int := if h = true then n else -1
/-- A matrix that hangs on no block of the three. -/
def MatOffs (rb : Nat) (a b : Option Nat) (x : World) (m : List (List Int)) (v : Value) : Prop :=
  ∀ y : World, (∀ k, k < x.heap.size → k ≠ rb → a ≠ some k → b ≠ some k → y.heap[k]? = x.heap[k]?) → MatIn y m v
theorem MatOffs.here {rb : Nat} {a b : Option Nat} {x : World} {m : List (List Int)} {v : Value} (h : MatOffs rb a b x m v) : MatIn x m v := h x fun _ _ _ _ _ => rfl
theorem MatOffs.step {rb : Nat} {a b a' b' : Option Nat} {x y : World} {m : List (List Int)} {v : Value} (h : MatOffs rb a b x m v) (hs : x.heap.size ≤ y.heap.size)
    (hy : ∀ k, k < x.heap.size → k ≠ rb → a ≠ some k → b ≠ some k → y.heap[k]? = x.heap[k]? ∧ a' ≠ some k ∧ b' ≠ some k) : MatOffs rb a' b' y m v :=
  fun z hz => h z fun k h1 h2 h3 h4 => by
    obtain ⟨e1, e2, e3⟩ := hy k h1 h2 h3 h4
    exact (hz k (by omega) h2 e2 e3).trans e1
structure LIm (rb sz ch : Nat) (fi : Int) (l : List (List Int)) (c : Cn) (O G m : List (List Int)) (os gs : List Value) (up : Option Addr) (uc : Nat) (ov gv : Value) (x : World) : Prop where
  row : x.rowIs rb 31 10 (rgF sz ch fi c.W c.R c.S c.L (clI c.ch c.c) (clI c.th c.t) (.slice up sz uc))
  mat : MatOffs rb ov.ownBlock gv.ownBlock x m (.slice up sz uc)
  ml : m.length = sz
  out : Rk (rb + 1) x O.length O os ov
  got : Rk (rb + 1) x G.length G gs gv
  apart : Apart gv ov
  cells : ∀ k, c.R ≤ k → k < c.W + c.put → m.getD ((fi.toNat + k) % sz) [] = l.getD k []
/-- What lies between two turns of the document's Play. -/
def LI (rb sz ch : Nat) (fi : Int) (l : List (List Int)) (c : Cn) (ov gv : Value) (x : World) : Prop :=
  ∃ m os gs up uc oa oc ga gc, ov = .slice oa c.R oc ∧ gv = .slice ga c.got gc ∧ LIm rb sz ch fi l c (l.take c.R) ((l.drop c.R).take c.got) m os gs up uc ov gv x
variable {rb sz ch : Nat} {fi : Int} {l : List (List Int)} {c : Cn} {O G m : List (List Int)} {os gs : List Value} {up : Option Addr} {uc : Nat} {ov gv : Value} {x y : World}
theorem outLen (h : c.Ok l.length sz) : (l.take c.R).length = c.R := by
  have h1 := h.rl; have h2 := h.lw; have h3 := h.wl
  rw [List.length_take]; omega
theorem gotLen (h : c.Ok l.length sz) : ((l.drop c.R).take c.got).length = c.got := by
  have h1 := h.rl; have h2 := h.lw; have h3 := h.wl; have h4 := h.rt; have h5 := h.gt
  rw [List.length_take, List.length_drop]; omega
theorem LIm.li (h : LIm rb sz ch fi l c (l.take c.R) ((l.drop c.R).take c.got) m os gs up uc ov gv x) (hk : c.Ok l.length sz) : LI rb sz ch fi l c ov gv x := by
  obtain ⟨oa, oc, e1⟩ := h.out.gl
  obtain ⟨ga, gc, e2⟩ := h.got.gl
  rw [outLen hk] at e1
  rw [gotLen hk] at e2
  exact ⟨m, os, gs, up, uc, oa, oc, ga, gc, e1, e2, h⟩
theorem LIm.below (h : LIm rb sz ch fi l c O G m os gs up uc ov gv x) (hb : Below x.heap.size x y) : LIm rb sz ch fi l c O G m os gs up uc ov gv y where
  row := h.row.of_block (hb.block _ h.row.lt)
  mat := h.mat.step hb.size fun k h1 _ h3 h4 => ⟨hb.block k h1, h3, h4⟩
  ml := h.ml
  out := h.out.keep fun g _ h2 => hb.block g h2
  got := h.got.keep fun g _ h2 => hb.block g h2
  apart := h.apart
  cells := h.cells
/-- The ring's cells alone were written. -/
theorem LIm.ringed {c' : Cn} (h : LIm rb sz ch fi l c O G m os gs up uc ov gv x) (hg : x.grownBy y (some rb)) (hr : y.rowIs rb 31 10 (rgF sz ch fi c'.W c'.R c'.S c'.L (clI c'.ch c'.c) (clI c'.th c'.t) (.slice up sz uc))) (e1 : c.R ≤ c'.R) (e2 : c'.W + c'.put = c.W + c.put) : LIm rb sz ch fi l c' O G m os gs up uc ov gv y where
  row := hr
  mat := h.mat.step hg.size fun k h1 h2 h3 h4 => ⟨hg.block k h1 (fun e => h2 (by cases e; rfl)), h3, h4⟩
  ml := h.ml
  out := h.out.keep fun g h1 h2 => hg.block g h2 (fun e => by cases e; omega)
  got := h.got.keep fun g h1 h2 => hg.block g h2 (fun e => by cases e; omega)
  apart := h.apart
  cells := fun k h1 h2 => h.cells k (by omega) (by omega)
theorem LIm.putted {c' : Cn} {z : World} {m' : List (List Int)} {up' : Option Addr} {uc' : Nat} (h : LIm rb sz ch fi l c O G m os gs up uc ov gv x) (hb : Below x.heap.size x y) (hm : MatNew x.heap.size y m' (.slice up' sz uc')) (hg : y.grownBy z (some rb))
    (hr : z.rowIs rb 31 10 (rgF sz ch fi c'.W c'.R c'.S c'.L (clI c'.ch c'.c) (clI c'.th c'.t) (.slice up' sz uc'))) (hl : m'.length = sz) (hc : ∀ k, c'.R ≤ k → k < c'.W + c'.put → m'.getD ((fi.toNat + k) % sz) [] = l.getD k []) : LIm rb sz ch fi l c' O G m' os gs up' uc' ov gv z where
  row := hr
  mat := fun u hu => hm u fun k h1 h2 => by
    have hrb := h.row.lt
    have hs := hg.size
    refine (hu k (by omega) (by omega) (fun e => ?_) (fun e => ?_)).trans (hg.block k h2 (fun e => by cases e; omega))
    · have := (h.out.own.lt k e).2; omega
    · have := (h.got.own.lt k e).2; omega
  ml := hl
  out := (h.below hb).out.keep fun g h1 h2 => hg.block g h2 (fun e => by cases e; omega)
  got := (h.below hb).got.keep fun g h1 h2 => hg.block g h2 (fun e => by cases e; omega)
  apart := h.apart
  cells := hc
/-- What was got has grown, or moved. -/
theorem LIm.gotten {c' : Cn} {G' : List (List Int)} {gs' : List Value} {gv' : Value} (h : LIm rb sz ch fi l c O G m os gs up uc ov gv x) (hg : x.grownBy y gv.ownBlock) (hr : Rk (rb + 1) y G'.length G' gs' gv') (hm : Moved x gv gv')
    (hc : c' = { c with got := c'.got }) : LIm rb sz ch fi l c' O G' m os gs' up uc ov gv' y where
  row := by rw [hc]; exact h.row.of_block (hg.block _ h.row.lt (fun e => by have := (h.got.own.lt rb e.symm).1; omega))
  mat := h.mat.step hg.size fun k h1 h2 h3 h4 => ⟨hg.block k h1 (fun e => h4 e.symm), h3, fun e => by
    rcases hm with hm | ⟨q, hq, hq2⟩
    · exact h4 (hm ▸ e)
    · rw [hq] at e; cases e; omega⟩
  ml := h.ml
  out := ⟨h.out.len, owns_keep h.out.own (fun g hv => hg.block g (h.out.own.lt g hv).2 (fun e => h.apart g e.symm hv)), fun j hj => ⟨owns_keep (h.out.row j hj).1 (fun g hv => hg.block g ((h.out.row j hj).1.lt g hv).2 (fun e => owns_diff (h.out.row j hj).1 h.got.own (by decide) g hv e.symm)), (h.out.row j hj).2⟩, h.out.ok⟩
  got := hr
  apart := fun g hg1 hg2 => by
    rcases hm with hm | ⟨q, hq, hq2⟩
    · exact h.apart g (hm ▸ hg1) hg2
    · have := (h.out.own.lt g hg2).2
      rw [hq] at hg1; cases hg1; omega
  cells := by rw [hc]; exact h.cells
/-- What was read has grown, or moved. -/
theorem LIm.doned {O' : List (List Int)} {os' : List Value} {ov' : Value} (h : LIm rb sz ch fi l c O G m os gs up uc ov gv x) (hg : x.grownBy y ov.ownBlock) (hr : Rk (rb + 1) y O'.length O' os' ov') (hm : Moved x ov ov') : LIm rb sz ch fi l c O' G m os' gs up uc ov' gv y where
  row := h.row.of_block (hg.block _ h.row.lt (fun e => by have := (h.out.own.lt rb e.symm).1; omega))
  mat := h.mat.step hg.size fun k h1 h2 h3 h4 => ⟨hg.block k h1 (fun e => h3 e.symm), fun e => by
    rcases hm with hm | ⟨q, hq, hq2⟩
    · exact h3 (hm ▸ e)
    · rw [hq] at e; cases e; omega, h4⟩
  ml := h.ml
  got := ⟨h.got.len, owns_keep h.got.own (fun g hv => hg.block g (h.got.own.lt g hv).2 (fun e => h.apart g hv e.symm)), fun j hj => ⟨owns_keep (h.got.row j hj).1 (fun g hv => hg.block g ((h.got.row j hj).1.lt g hv).2 (fun e => owns_diff (h.got.row j hj).1 h.out.own (by decide) g hv e.symm)), (h.got.row j hj).2⟩, h.got.ok⟩
  out := hr
  apart := fun g hg1 hg2 => by
    rcases hm with hm | ⟨q, hq, hq2⟩
    · exact h.apart g hg1 (hm ▸ hg2)
    · have := (h.got.own.lt g hg1).2
      rw [hq] at hg2; cases hg2; omega
  cells := h.cells
theorem LIm.dropped (h : LIm rb sz ch fi l c O G m os gs up uc ov gv x) : LIm rb sz ch fi l c O [] m os [] up uc ov nilS x where
  row := h.row
  mat := h.mat.step (Nat.le_refl _) fun k _ _ h3 _ => ⟨rfl, h3, fun e => by cases e⟩
  ml := h.ml
  got := Rk.start _ _
  out := h.out
  apart := fun g hg1 => by cases hg1
  cells := h.cells
theorem LI.below (h : LI rb sz ch fi l c ov gv x) (hb : Below x.heap.size x y) : LI rb sz ch fi l c ov gv y := by
  obtain ⟨m, os, gs, up, uc, oa, oc, ga, gc, e1, e2, h⟩ := h
  exact ⟨m, os, gs, up, uc, oa, oc, ga, gc, e1, e2, h.below hb⟩
theorem LI.start {w1 : World} (hM : MatIn w1 (List.replicate sz (List.replicate ch 0)) (.slice up sz uc)) : LI w1.heap.size sz ch fi l Cn.zero nilS nilS (w1.alloc (.cells (rgC sz ch fi 0 0 0 0 (-1) (-1) (.slice up sz uc)) 31)) := by
  refine ⟨List.replicate sz (List.replicate ch 0), [], [], up, uc, none, 0, none, 0, rfl, rfl, ?_⟩
  exact {
    row := RgAt.of_cells _ _ _ _ _ _ _ _ _ (blk_alloc_new _ _)
    mat := fun z hz => hM.low z fun k hk => (hz k (by simp; omega) (by omega) (fun e => by cases e) (fun e => by cases e)).trans (blk_alloc_lt _ _ _ hk)
    ml := List.length_replicate
    out := by rw [show (Cn.zero).R = 0 from rfl, List.take_zero]; exact Rk.start _ _
    got := by rw [show (Cn.zero).got = 0 from rfl, List.take_zero]; exact Rk.start _ _
    apart := fun g hg1 => by cases hg1
    cells := fun k _ hk => by simp [Cn.zero] at hk }
end Go.Proofs.Ytgcohmlapgnbdaa
namespace Go.Proofs.Ytgcohmlapgnbdaa
open Go.RowKit Go.Shelf Go.Deep

/-- The body of a loop that begins with a region. -/
def beginsWith (n : Nat) : Code → Bool
  | .region id _ _ => id == n
  | .seq a _ => beginsWith n a
  | .block _ b => beginsWith n b
  | _ => false
def findL (n : Nat) : Code → Option Code
  | .seq a b => match findL n a with
    | some c => some c
    | none => findL n b
  | .block _ b => findL n b
  | .cond _ a b => match findL n a with
    | some c => some c
    | none => findL n b
  | .scope b => findL n b
  | .loop b => if beginsWith n b then some b else findL n b
  | _ => none
theorem wp_of_some {o : Option Code} {c : Code} {P : Program} {Q : Exit → Act → World → Prop} {a : Act} {w : World} (h : o = some c) (hw : c.wp P Q a w) : (o.getD .skip).wp P Q a w := by rw [h]; exact hw
theorem wp_to_some {o : Option Code} {c : Code} {P : Program} {Q : Exit → Act → World → Prop} {a : Act} {w : World} (h : o = some c) (hw : (o.getD .skip).wp P Q a w) : c.wp P Q a w := by rw [h] at hw; exact hw
end Go.Proofs.Ytgcohmlapgnbdaa
