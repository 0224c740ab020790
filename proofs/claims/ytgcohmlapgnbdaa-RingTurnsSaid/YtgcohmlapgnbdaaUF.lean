/- Play's memory between turns. -/
import Derived.Test.YtgcohmlapgnbdaaUD
namespace Go.Proofs.Ytgcohmlapgnbdaa
open Go.RowKit Go.Shelf Go.Deep

theorem owns_keep {w w' : World} {B : Nat} {e : TypeId} {s : Nat} {v : Value} {n : Nat} {xs : List Value} (h : w.ownsRow B e s v n xs) (hk : ∀ g, v.ownBlock = some g → w'.heap[g]? = w.heap[g]?) : w'.ownsRow B e s v n xs := by
  refine ⟨h.1, ?_⟩
  rcases h.2 with hn | ⟨g, cap, cur, rfl, hb, hgg, rest⟩
  · exact .inl hn
  · exact .inr ⟨g, cap, cur, rfl, hb, (hk g rfl).trans hgg, rest⟩
theorem Rk.keep {B : Nat} {W W' : World} {k : Nat} {rows : List (List Int)} {vals : List Value} {v : Value} (h : Rk B W k rows vals v) (hk : ∀ g, B ≤ g → g < W.heap.size → W'.heap[g]? = W.heap[g]?) : Rk B W' k rows vals v :=
  ⟨h.len, owns_keep h.own (fun g hv => hk g (h.own.lt g hv).1 (h.own.lt g hv).2), fun j hj => ⟨owns_keep (h.row j hj).1 (fun g hv => hk g ((h.row j hj).1.lt g hv).1 ((h.row j hj).1.lt g hv).2), (h.row j hj).2⟩, h.ok⟩
/-- A matrix that lies below a block. -/
def MatLow (B : Nat) (x : World) (m : List (List Int)) (v : Value) : Prop := ∀ y, (∀ k, k < B → y.heap[k]? = x.heap[k]?) → MatIn y m v
theorem MatLow.keep {B : Nat} {x y : World} {m : List (List Int)} {v : Value} (h : MatLow B x m v) (hk : ∀ k, k < B → y.heap[k]? = x.heap[k]?) : MatLow B y m v := fun z hz => h z fun k hlt => (hz k hlt).trans (hk k hlt)
theorem MatLow.here {B : Nat} {x : World} {m : List (List Int)} {v : Value} (h : MatLow B x m v) : MatIn x m v := h x fun _ _ => rfl
theorem MatIn.low {x : World} {m : List (List Int)} {v : Value} (h : MatIn x m v) : MatLow x.heap.size x m v := fun y hy => h.mono fun a ha => World.cell?_of_block (hy a.block ha)
/-- A slice from an index on. -/
theorem slice_post (a : Option Addr) (L cap k : Nat) (hk : k ≤ L) (w : World) : (Instr.sliceAt 29 (.slice a L cap) (some (.int .i64 k)) none none).run Try.prog w = .ok (.slice (if cap = k then a else a.map (·.add k)) (L - k) (cap - k)) w := by
  have h2 := run_slice_l (P := Try.prog) (w := w) 29 a L cap (by kernel_rfl) .i64 k (by omega) (by omega)
  rw [run_sliceAt_slice _ _ _ _ _ _ (by kernel_rfl), h2]
  have hs : (sizeOf (Try.prog.elem 29)).run Try.prog w = .ok 1 w := by kernel_rfl
  rw [hs]
  simp [Result.andThen, sliced]
theorem mat_drop {w : World} {m : List (List Int)} {a : Option Addr} {cap k : Nat} (h : MatIn w m (.slice a m.length cap)) (hk : k ≤ m.length) : MatIn w (m.drop k) (.slice (if cap = k then a else a.map (·.add k)) (m.length - k) (cap - k)) := by
  obtain ⟨a', c', e, hin, h1, h2⟩ := h
  simp only [Value.slice.injEq, true_and] at e
  obtain ⟨rfl, rfl⟩ := e
  refine ⟨_, _, by rw [List.length_drop], fun i hi => ?_, by rw [List.length_drop]; omega, by rw [List.length_drop]; omega⟩
  rw [List.length_drop] at hi
  obtain ⟨b, off, v, rfl, hc, hv⟩ := hin (k + i) (by omega)
  refine ⟨b, off + k, v, ?_, by rw [Nat.add_assoc]; exact hc, ?_⟩
  · rw [if_neg (by omega)]
    simp only [Option.map_some, Option.some.injEq]
    unfold Addr.add; split <;> simp_all
  · rw [show (m.drop k).getD i [] = m.getD (k + i) [] by simp [List.getD]]; exact hv

/-- Play between turns: the ring, how many frames were committed, how many of the claim were put, what was got of the taken, what was read. -/
structure Pl where
  g : Rg
  d : Nat
  put : Nat
  got : List (List Int)
  out : List (List Int)
structure PlMem (B0 B P R P0 : Nat) (l : List (List Int)) (s : Pl) (fv gv rv : Value) (gs rs : List Value) (x : World) : Prop where
  ring : RingAt P R s.g x
  row : x.rowIs P0 112 5 (plVal P fv s.put gv rv)
  ne : P ≠ P0 ∧ R ≠ P0
  lt : (P < B ∧ R < B ∧ P0 < B) ∧ B ≤ x.heap.size
  lo : (B0 ≤ P ∧ B0 ≤ R ∧ B0 ≤ P0) ∧ B0 ≤ B
  mat : MatLow B0 x (l.drop s.d) fv
  got : Rk B x s.got.length s.got gs gv
  out : Rk B x s.out.length s.out rs rv
  apart : Apart gv rv
def PlAt (B0 B P R P0 : Nat) (l : List (List Int)) (s : Pl) (x : World) : Prop := ∃ fv gv rv gs rs, PlMem B0 B P R P0 l s fv gv rv gs rs x
/-- What a turn gives. -/
def Turned (B0 B P R P0 : Nat) (l : List (List Int)) (s : Pl) (x : World) (e : Ending) (w' : World) : Prop := e = .returned (.tuple #[]) ∧ PlAt B0 B P R P0 l s w' ∧ K115 x w' ∧ Below B0 x w'
theorem K115.trans {x y z : World} (h : K115 x y) (k : K115 y z) : K115 x z := fun b c hb => k b c (h b c hb)
theorem k115_below {x y : World} (h : Below x.heap.size x y) : K115 x y := fun b c hb => (h.block b (Array.getElem?_eq_some_iff.1 hb).1).trans hb
theorem k115_set {x : World} {P0 t n : Nat} {F : Nat → Value} (h : x.rowIs P0 t n F) (ht : t ≠ 115) (i : Nat) (v : Value) : K115 x (x.setCell ⟨P0, i, none⟩ v) := fun b c hb => by
  refine (blk_setCell_other _ _ _ _ (fun e => ?_)).trans hb
  obtain ⟨c', h1, _⟩ := h
  simp only at e
  rw [e, h1] at hb
  cases hb
  exact ht rfl
theorem k115_grown {x y : World} {B : Nat} {e : TypeId} {s : Nat} {v : Value} {n : Nat} {xs : List Value} (h : x.ownsRow B e s v n xs) (he : e ≠ 115) (hg : x.grownBy y v.ownBlock) : K115 x y := fun b c hb => by
  refine (hg.block b (Array.getElem?_eq_some_iff.1 hb).1 (fun eb => ?_)).trans hb
  rcases h.2 with ⟨rfl, _⟩ | ⟨g, cap, cur, rfl, _, hgg, _⟩
  · cases eb
  · simp only [Value.ownBlock, Option.some.injEq] at eb
    subst eb
    rw [hb] at hgg
    cases hgg
    exact he rfl
/-- The ring alone was at work. -/
theorem PlMem.ringed {B0 B P R P0 : Nat} {l : List (List Int)} {s : Pl} {fv gv rv : Value} {gs rs : List Value} {x y : World} {g' : Rg} (h : PlMem B0 B P R P0 l s fv gv rv gs rs x) (hr : RingAt P R g' y) (hg : Gw P R x y) :
    PlMem B0 B P R P0 l { s with g := g' } fv gv rv gs rs y where
  ring := hr
  row := hg.row h.row (fun e => h.ne.1 e.symm) (fun e => h.ne.2 e.symm)
  ne := h.ne
  lt := ⟨h.lt.1, Nat.le_trans h.lt.2 hg.size⟩
  lo := h.lo
  mat := h.mat.keep fun k hk => hg.block k (by have := h.lt.2; have := h.lo.2; omega) (by have := h.lo.1.1; omega) (by have := h.lo.1.2.1; omega)
  got := h.got.keep fun g h1 h2 => hg.block g h2 (by have := h.lt.1.1; omega) (by have := h.lt.1.2.1; omega)
  out := h.out.keep fun g h1 h2 => hg.block g h2 (by have := h.lt.1.1; omega) (by have := h.lt.1.2.1; omega)
  apart := h.apart
theorem PlMem.below {B0 B P R P0 : Nat} {l : List (List Int)} {s : Pl} {fv gv rv : Value} {gs rs : List Value} {x y : World} (h : PlMem B0 B P R P0 l s fv gv rv gs rs x) (hb : Below x.heap.size x y) : PlMem B0 B P R P0 l s fv gv rv gs rs y :=
  h.ringed (h.ring.below hb) (gw_below hb)
theorem PlMem.turned {B0 B P R P0 : Nat} {l : List (List Int)} {s : Pl} {fv gv rv : Value} {gs rs : List Value} {x y : World} {g' : Rg} (h : PlMem B0 B P R P0 l s fv gv rv gs rs x) (hr : RingAt P R g' y) (hg : Gw P R x y) :
    Turned B0 B P R P0 l { s with g := g' } x (.returned (.tuple #[])) y :=
  ⟨rfl, ⟨fv, gv, rv, gs, rs, h.ringed hr hg⟩, gw_k115 h.ring hg, ⟨hg.os, hg.tape, hg.output, hg.size, fun k hk => hg.block k (by have := h.lt.2; have := h.lo.2; omega) (by have := h.lo.1.1; omega) (by have := h.lo.1.2.1; omega)⟩⟩
end Go.Proofs.Ytgcohmlapgnbdaa
