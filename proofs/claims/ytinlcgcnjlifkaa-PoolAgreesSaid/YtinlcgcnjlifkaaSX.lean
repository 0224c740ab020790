/- Rows of a matrix of one's own that grow in their places. -/
import Derived.Test.YtinlcgcnjlifkaaSW
import Derived.Test.YtinlcgcnjlifkaaSJ
namespace Go.Proofs.Ytinlcgcnjlifkaa
open Go.RowKit Go.Shelf Go.Deep

theorem owns_cells {W : World} {B : Nat} {e : TypeId} {s : Nat} {v : Value} {n : Nat} {xs : List Value} (h : W.ownsRow B e s v n xs) {g : Nat} (hg : v.ownBlock = some g) : ∃ o, W.heap[g]? = some o ∧ o.isCells = true := by
  rcases h.2 with ⟨rfl, _⟩ | ⟨g', cap, cur, rfl, _, hgg, _⟩
  · cases hg
  · cases hg; exact ⟨_, hgg, rfl⟩
theorem owns_far {W W' : World} {B : Nat} {e : TypeId} {s : Nat} {v : Value} {n : Nat} {xs : List Value} {row : Option Nat} (h : W.ownsRow B e s v n xs) (hg : W.grownBy W' row) (hr : ∀ r, row = some r → ∃ o : Obj, W.heap[r]? = some o ∧ o.isCells = false) : W'.ownsRow B e s v n xs :=
  owns_grown h hg fun g hv e => by
    obtain ⟨o, h1, h2⟩ := owns_cells h hv
    obtain ⟨o', h3, h4⟩ := hr g e
    rw [h1] at h3; cases h3; rw [h2] at h4; cases h4
theorem keeps_cells {B : Nat} {W W' : World} {row : Option Nat} (hg : W.grownBy W' row) (hr : ∀ r, row = some r → ∃ o : Obj, W.heap[r]? = some o ∧ o.isCells = true) : KeepsFrom B W W' :=
  ⟨hg.size, fun i o _ h0 ho => (hg.block i (Array.getElem?_eq_some_iff.1 h0).1 (fun e => by
    obtain ⟨o', h1, h2⟩ := hr i e.symm
    rw [h0] at h1; cases h1; rw [ho] at h2; cases h2)).trans h0⟩
theorem keeps_blk_set {B : Nat} {W : World} {M i : Nat} {v : Value} {cs : Array Value} {t : TypeId} (h : W.heap[M]? = some (.cells cs t)) : KeepsFrom B W (W.setCell ⟨M, i, none⟩ v) :=
  ⟨by simp, fun j o _ h0 ho => (blk_setCell_other _ _ _ _ (fun e => by
    have e' : j = M := e
    subst e'
    rw [h] at h0; cases h0; cases ho)).trans h0⟩
theorem grown_set' (W : World) (b i : Nat) (v : Value) : W.grownBy (W.setCell ⟨b, i, none⟩ v) (some b) :=
  ⟨rfl, rfl, rfl, by simp, fun k _ hk => blk_setCell_other _ _ _ _ (fun e => hk (by rw [e]))⟩

/-- A matrix whose rows grow. -/
structure Lr (M N c : Nat) (F : Nat → List Int) (vals : List Value) (W : World) : Prop where
  len : vals.length = c
  mt : W.heap[M]? = some (.cells vals.toArray 37)
  row : ∀ i, i < c → W.ownsRow N 3 1 (vals.getD i undef) (F i).length ((F i).map (Value.int .i64))
  apart : ∀ i j, i < c → j < c → i ≠ j → Apart (vals.getD i undef) (vals.getD j undef)
  lt : M < N ∧ N ≤ W.heap.size
theorem Lr.far {M N c : Nat} {F : Nat → List Int} {vals : List Value} {W W' : World} {row : Option Nat} (h : Lr M N c F vals W) (hg : W.grownBy W' row) (hr : ∀ r, row = some r → N ≤ r ∧ ∃ o : Obj, W.heap[r]? = some o ∧ o.isCells = false) : Lr M N c F vals W' := by
  have hm := (Array.getElem?_eq_some_iff.1 h.mt).1
  refine ⟨h.len, (hg.block M hm (fun e => by have := (hr M e.symm).1; have := h.lt; omega)).trans h.mt, fun i hi => owns_far (h.row i hi) hg (fun r e => (hr r e).2), h.apart, h.lt.1, Nat.le_trans h.lt.2 hg.size⟩
theorem Lr.below {M N c : Nat} {F : Nat → List Int} {vals : List Value} {W W' : World} (h : Lr M N c F vals W) (hb : Below W.heap.size W W') : Lr M N c F vals W' :=
  h.far (row := none) ⟨hb.os, hb.tape, hb.output, hb.size, fun k hk _ => hb.block k hk⟩ (fun r e => by cases e)
theorem set_same {l : List Value} {i : Nat} {v : Value} (h : i < l.length) : (l.set i v).getD i undef = v := by simp [List.getD, h]
theorem set_other {l : List Value} {i j : Nat} {v : Value} (h : i ≠ j) : (l.set i v).getD j undef = l.getD j undef := by simp [List.getD, List.getElem?_set_ne h]
theorem Lr.step {M N c i : Nat} {F F' : Nat → List Int} {vals : List Value} {W W1 w2 : World} {v' : Value} {U : Int} (h : Lr M N c F vals W1) (hi : i < c)
    (own : w2.ownsRow N 3 1 v' ((F i).length + 1) ((F i ++ [U]).map (Value.int .i64))) (hg : W1.grownBy w2 (vals.getD i undef).ownBlock) (hm : Moved W1 (vals.getD i undef) v')
    (hF : F' i = F i ++ [U]) (hF2 : ∀ j, j < c → j ≠ i → F' j = F j) : Lr M N c F' (vals.set i v') (w2.setCell ⟨M, i, none⟩ v') := by
  have hlt := h.lt
  have hmb := (Array.getElem?_eq_some_iff.1 h.mt).1
  have hneM : ∀ j g, j < c → (vals.getD j undef).ownBlock = some g → g ≠ M := fun j g hj hu e => by have := ((h.row j hj).lt g hu).1; omega
  have hm2 : w2.heap[M]? = some (.cells vals.toArray 37) := (hg.block M hmb (fun e => hneM i M hi e.symm rfl)).trans h.mt
  have hnew : ∀ g, v'.ownBlock = some g → N ≤ g := fun g hu => (own.lt g hu).1
  have hset : ∀ {B : Nat} {v : Value} {n : Nat} {xs : List Value}, w2.ownsRow B 3 1 v n xs → (∀ g, v.ownBlock = some g → g ≠ M) → (w2.setCell ⟨M, i, none⟩ v').ownsRow B 3 1 v n xs := fun ho hne => owns_grown ho (grown_set' _ _ _ _) (fun g hu e => by cases e; exact hne _ hu rfl)
  have hap : ∀ j, j < c → j ≠ i → Apart v' (vals.getD j undef) := fun j hj hji g hu e => by
    rcases hm with hm | ⟨q, hq, hq2⟩
    · exact h.apart i j hi hj (fun e2 => hji e2.symm) g (hm.symm.trans hu) e
    · have := ((h.row j hj).lt g e).2
      rw [hq] at hu; cases hu; omega
  refine ⟨by simp [h.len], ?_, fun j hj => ?_, fun j k hj hk hjk => ?_, hlt.1, Nat.le_trans hlt.2 (Nat.le_trans hg.size (by simp))⟩
  · rw [blk_set hm2]
    simp
  · by_cases hji : j = i
    · subst hji
      rw [set_same (by rw [h.len]; exact hj), hF, List.length_append]
      exact hset own (fun g hu e => by have := hnew g hu; omega)
    · rw [set_other (fun e => hji e.symm), hF2 j hj hji]
      exact hset (owns_grown (h.row j hj) hg (fun g hu e => h.apart i j hi hj (fun e2 => hji e2.symm) g e hu)) (fun g hu => hneM j g hj hu)
  · by_cases hji : j = i
    · subst hji
      rw [set_same (by rw [h.len]; exact hj), set_other hjk]
      exact hap k hk (fun e => hjk e.symm)
    · rw [set_other (fun e => hji e.symm)]
      by_cases hki : k = i
      · subst hki
        rw [set_same (by rw [h.len]; exact hk)]
        exact fun g hu e => hap j hj hji g e hu
      · rw [set_other (fun e => hki e.symm)]
        exact h.apart j k hj hk hjk
theorem Lr.mat {M N c : Nat} {F : Nat → List Int} {vals : List Value} {W : World} {rows : List (List Int)} (h : Lr M N c F vals W) (hr : rows.length = c) (hrow : ∀ i, i < c → rows.getD i [] = F i) (hok : ∀ i, i < c → okRow (F i)) (hc : c ≤ 1000) : MatNew M W rows (.slice (some ⟨M, 0, none⟩) c c) := by
  intro w' he
  have hmb := (Array.getElem?_eq_some_iff.1 h.mt).1
  refine ⟨some ⟨M, 0, none⟩, c, by rw [hr], fun i hi => ?_, by omega, by omega⟩
  rw [hr] at hi
  refine ⟨M, 0, vals.getD i undef, rfl, ?_, ?_⟩
  · rw [World.cell?_of_block (w := W) (he M (Nat.le_refl _) hmb)]
    unfold World.cell?
    rw [h.mt]
    simp [List.getD, show i < vals.length by rw [h.len]; exact hi]
  · rw [hrow i hi]
    exact owns_row (h.row i hi) (hok i hi) (fun k hk hlt => he k (by have := h.lt; omega) hlt)
/-- The rows after k blocks. -/
def rowsK (at' z a : Int) (b k i : Nat) : List Int := laidRow at' z a b i (min b (k - i * b))
theorem rowsK_zero (at' z a : Int) (b i : Nat) : rowsK at' z a b 0 i = [] := by simp [rowsK, laidRow]
theorem div_lt_le {b k i : Nat} (hb : 1 ≤ b) : (i < k / b ↔ (i + 1) * b ≤ k) := by
  rw [← Nat.le_div_iff_mul_le (by omega)]; exact Iff.rfl
theorem rowsK_same {at' z a : Int} {b k : Nat} (hb : 1 ≤ b) : rowsK at' z a b (k + 1) (k / b) = rowsK at' z a b k (k / b) ++ [up (endK at' z a k) a] := by
  have h1 := Nat.div_add_mod k b
  have h2 := Nat.mod_lt k (show 0 < b by omega)
  rw [Nat.mul_comm] at h1
  unfold rowsK
  rw [show min b (k + 1 - k / b * b) = k % b + 1 by omega, show min b (k - k / b * b) = k % b by omega, laidRow_succ, show k / b * b + k % b = k from h1]
theorem rowsK_other {at' z a : Int} {b k i : Nat} (hb : 1 ≤ b) (hi : i ≠ k / b) : rowsK at' z a b (k + 1) i = rowsK at' z a b k i := by
  have h1 := Nat.div_add_mod k b
  have h2 := Nat.mod_lt k (show 0 < b by omega)
  rw [Nat.mul_comm] at h1
  unfold rowsK
  congr 1
  rcases Nat.lt_or_ge i (k / b) with h | h
  · have h3 : (i + 1) * b ≤ k := (div_lt_le hb).1 h
    rw [Nat.add_mul, Nat.one_mul] at h3
    omega
  · have h3 : (k / b + 1) * b ≤ i * b := Nat.mul_le_mul_right _ (by omega)
    rw [Nat.add_mul, Nat.one_mul] at h3
    omega
theorem rowsK_all {at' z a : Int} {b c i : Nat} (hi : i < c) : rowsK at' z a b (c * b) i = laidRow at' z a b i b := by
  unfold rowsK
  have h3 : (i + 1) * b ≤ c * b := Nat.mul_le_mul_right _ hi
  rw [Nat.add_mul, Nat.one_mul] at h3
  congr 1
  omega
theorem rowsK_len {at' z a : Int} {b k i : Nat} : (rowsK at' z a b k i).length ≤ b := by
  unfold rowsK
  rw [laidRow_len]
  omega
theorem op_append_in {Fn : Fence} {n : Nat} {ops : Array Oper} {o : Oper} {a : Act} {w w' : World} {K : Act → World → Prop} {Q : Exit → Act → World → Prop} {ov gv v : Value} {X : Prop} (hgd : o.guard = none) (sx xx : Operand)
    (ho : o.op = .call { callee := .builtin .append, args := #[sx, xx], argTypes := #[37, 37] }) (hr : (Builtin.append_ #[37, 37] o.type #[ov, gv]).run Try.prog w = .ok v w') (hs : a.eval sx = ov) (hx : a.eval xx = gv)
    (h : K (a.put o.dst v) w') : if Region.wanted o (yielded ops a.tmps) = true then Oper.wpIn Fn n Try.prog o a w K Q else X := by
  rw [if_pos (by simp [Region.wanted, hgd])]
  have hd : ∀ c, o.op ≠ .defer c := fun c e => by rw [ho] at e; cases e
  unfold Oper.wpIn
  rw [Oper.semAt_eq _ _ _ hd]
  refine ⟨fun f hf => ?_, ?_⟩
  · exfalso
    simp [Oper.about, ho, resolve, Target.leads, Sem.run_bind, Sem.run_pure] at hf
  · unfold execOp
    simp only [ho, resolve, invoke, builtin, Sem.run_bind, Sem.run_pure, Result.andThen_ok, List.map_toArray, List.map_cons, List.map_nil, hs, hx, hr]
    exact h
end Go.Proofs.Ytinlcgcnjlifkaa
