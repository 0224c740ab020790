/- A region that draws its order and ends in stores into cells that it loads: a condition on the world that is asked only behind the operations that are not at the end. -/
import Derived.Deep.RegionHeld3
import Derived.StillTail
import Derived.Test.YtfbeeaibejggdaaDoorNA
namespace Go.Proofs.YtfbeeaibejggdaaDoor
open Go

section
variable {P : Program} {ops : Array Oper} {Q : Exit → Act → World → Prop} {md : Region.Mode} {S : World → Prop} {tl : List Nat}

/-- Whatever order is picked from here on; S holds behind every operation that is not of the end. -/
def anyT (P : Program) (md : Region.Mode) (ops : Array Oper) (Q : Exit → Act → World → Prop) (S : World → Prop) (tl : List Nat) : Nat → Array Bool → Act → World → Prop
  | 0, listed, a, w => Region.ready md ops listed = [] ∧ Q .normal a w
  | fuel + 1, listed, a, w =>
    (Region.ready md ops listed = [] → Q .normal a w) ∧
    ∀ i ∈ Region.ready md ops listed, wpOp P ops Q i (fun a' w' => (tl.contains i = false → S w') ∧ anyT P md ops Q S tl fuel (listed.setIfInBounds i true) a' w') a w

theorem any_of_T : ∀ (fuel : Nat) (listed : Array Bool) (a : Act) (w : World), anyT P md ops Q S tl fuel listed a w → wpAny P md ops Q fuel listed a w
  | 0, _, _, _, h => h
  | fuel + 1, _, _, _, h => ⟨h.1, fun i hi => wpOp_mono (fun a' w' h' => any_of_T fuel _ a' w' h'.2) (h.2 i hi)⟩

/-- What has come up is closed: whatever one of it waits for has come up. -/
def Closed (md : Region.Mode) (ops : Array Oper) (listed : Array Bool) : Prop := ∀ j oj, ops[j]? = some oj → listed.getD j false = true → ∀ e ∈ oj.after, Region.binds md e = true → listed.getD e.on false = true
def closedB (md : Region.Mode) (ops : Array Oper) (listed : Array Bool) : Bool :=
  (List.range ops.size).all fun j => !listed.getD j false || (match ops[j]? with | some o => o.after.all fun e => !Region.binds md e || listed.getD e.on false | none => true)
theorem closed_spec {listed : Array Bool} (h : closedB md ops listed = true) : Closed md ops listed := fun j oj hj hl e he hb => by
  have hlt : j < ops.size := (Array.getElem?_eq_some_iff.1 hj).1
  have h1 := List.all_eq_true.1 h j (List.mem_range.2 hlt)
  rw [hl, hj] at h1
  simp only [Bool.not_true, Bool.false_or] at h1
  have h2 := Array.all_eq_true'.1 h1 e he
  simpa [hb] using h2
theorem Closed.set {listed : Array Bool} {j : Nat} (h : Closed md ops listed) (hj : j ∈ Region.ready md ops listed) : Closed md ops (listed.setIfInBounds j true) := fun k ok hk hl e he hb => by
  obtain ⟨_, oj, hoj, hall⟩ := mem_ready.1 hj
  by_cases hkj : j = k
  · subst hkj
    have : oj = ok := Option.some.inj (hoj.symm.trans hk)
    subst this
    exact getD_set_true (hall e he hb)
  · rw [getD_set_ne false hkj] at hl
    exact getD_set_true (h k ok hk hl e he hb)
def waitsT (md : Region.Mode) (ops : Array Oper) : Nat → Nat → Nat → Bool
  | 0, j, i => Region.waitsFor md ops j i
  | f + 1, j, i => Region.waitsFor md ops j i || (match ops[j]? with | some oj => oj.after.any fun e => Region.binds md e && waitsT md ops f e.on i | none => false)
theorem waits_listed {listed : Array Bool} (hc : Closed md ops listed) {i : Nat} : ∀ (f j : Nat), listed.getD j false = true → waitsT md ops f j i = true → listed.getD i false = true
  | 0, j, hl, h => by
    obtain ⟨oj, hoj, e, he, hb, hon⟩ := Region.waitsFor_spec h
    have := hc j oj hoj hl e he hb
    rw [hon] at this; exact this
  | f + 1, j, hl, h => by
    rw [waitsT, Bool.or_eq_true] at h
    rcases h with h | h
    · exact waits_listed hc 0 j hl h
    · split at h
      · rename_i oj hoj
        obtain ⟨e, he, hb⟩ := Array.any_eq_true'.1 h
        rw [Bool.and_eq_true] at hb
        exact waits_listed hc f e.on (hc j oj hoj hl e he hb.1) hb.2
      · cases h
theorem waits_ready {listed : Array Bool} (hc : Closed md ops listed) {i j f : Nat} (hj : j ∈ Region.ready md ops listed) (h : waitsT md ops f j i = true) : listed.getD i false = true := by
  obtain ⟨_, oj, hoj, hall⟩ := mem_ready.1 hj
  cases f with
  | zero =>
    obtain ⟨oj', hoj', e, he, hb, hon⟩ := Region.waitsFor_spec h
    have : oj' = oj := Option.some.inj (hoj'.symm.trans hoj)
    subst this
    have := hall e he hb
    rw [hon] at this; exact this
  | succ f =>
    rw [waitsT, Bool.or_eq_true] at h
    rcases h with h | h
    · obtain ⟨oj', hoj', e, he, hb, hon⟩ := Region.waitsFor_spec h
      have : oj' = oj := Option.some.inj (hoj'.symm.trans hoj)
      subst this
      have := hall e he hb
      rw [hon] at this; exact this
    · rw [hoj] at h
      obtain ⟨e, he, hb⟩ := Array.any_eq_true'.1 h
      rw [Bool.and_eq_true] at hb
      exact waits_listed hc f e.on (hall e he hb.1) hb.2

/-- Each operation of the end waits for number i. -/
def waitAll (md : Region.Mode) (ops : Array Oper) (tl : List Nat) (i : Nat) : Bool := tl.all fun j => waitsT md ops 8 j i

theorem anyT_first {i : Nat} {oi : Oper} {v : Value} (hi : ops[i]? = some oi) (hsel : ∀ (j : Nat) (o : Oper) cs b, ops[j]? = some o → o.op ≠ .select cs b)
    (hQ : ∀ c a w, Q (.panic c) (a.put oi.dst v) w → Q (.panic c) a w) (htl : waitAll md ops tl i = true) :
    ∀ (fuel : Nat) (listed : Array Bool) (a : Act) (w : World), Closed md ops listed →
      (∀ j oj, ops[j]? = some oj → j ≠ i → listed.getD j true = false → (∀ e ∈ oj.after, Region.binds md e = true → e.on ≠ i) → oi.apart ops oj = true) →
      i ∈ Region.ready md ops listed → YieldsIf P ops S oi v a → S w →
      anyT P md ops Q S tl fuel (listed.setIfInBounds i true) (a.put oi.dst v) w → anyT P md ops Q S tl (fuel + 1) listed a w := by
  intro fuel
  induction fuel with
  | zero =>
    intro listed a w _ _ hr hy hS H
    refine ⟨fun h => (by rw [h] at hr; cases hr), fun j hj => ?_⟩
    by_cases hji : j = i
    · subst hji; exact hy.wpOp hi hS ⟨fun _ => hS, H⟩
    · have := ready_mono hj hji
      rw [H.1] at this
      cases this
  | succ fuel ih =>
    intro listed a w hcl hfree hr hy hS H
    refine ⟨fun h => (by rw [h] at hr; cases hr), fun j hj => ?_⟩
    by_cases hji : j = i
    · subst hji; exact hy.wpOp hi hS ⟨fun _ => hS, H⟩
    · have h1 := H.2 j (ready_mono hj hji)
      obtain ⟨hjun, oj, hoj, hall⟩ := mem_ready.1 hj
      have hnot : ∀ e ∈ oj.after, Region.binds md e = true → e.on ≠ i := fun e he hb heq => by
        have h1 := hall e he hb
        have h0 := (mem_ready.1 hr).1
        rw [heq] at h1
        rcases Nat.lt_or_ge i listed.size with h' | h'
        · simp [h'] at h0 h1; rw [h0] at h1; cases h1
        · simp [Array.getElem?_eq_none h'] at h1
      have hnt : tl.contains j = false := by
        cases hc : tl.contains j with
        | false => rfl
        | true =>
          exfalso
          have h2 := List.all_eq_true.1 htl j (by simpa using hc)
          have h3 := waits_ready hcl hj h2
          have h0 := (mem_ready.1 hr).1
          rcases Nat.lt_or_ge i listed.size with h' | h'
          · simp [h'] at h0 h3; rw [h0] at h3; cases h3
          · simp [Array.getElem?_eq_none h'] at h3
      have h2 := wpOp_putIf hoj (hfree j oj hoj hji hjun hnot) (fun cs b => hsel i oi cs b hi) (fun cs b => hsel j oj cs b hoj) hQ hy h1
      have hfree' : ∀ k ok, ops[k]? = some ok → k ≠ i → (listed.setIfInBounds j true).getD k true = false →
          (∀ e ∈ ok.after, Region.binds md e = true → e.on ≠ i) → oi.apart ops ok = true := fun k ok hk hki hun hno => by
        refine hfree k ok hk hki ?_ hno
        by_cases hjk : j = k
        · subst hjk; exact hjun
        · rw [getD_set_ne true hjk] at hun; exact hun
      refine wpOp_mono (fun a' w' h3 => ⟨fun _ => h3.2.1 hnt, ih (listed.setIfInBounds j true) a' w' (hcl.set hj) hfree' (ready_mono hr (Ne.symm hji)) h3.1 (h3.2.1 hnt) ?_⟩) h2
      rw [Array.setIfInBounds_comm _ _ hji]
      exact h3.2.2

theorem anyT_take {i : Nat} {oi : Oper} {v : Value} {fuel : Nat} {listed : Array Bool} {a : Act} {w : World} (hi : ops[i]? = some oi)
    (hs : Region.noSelect ops = true) (hf : Region.free md ops listed i = true) (hr : (Region.ready md ops listed).contains i = true) (htl : (waitAll md ops tl i && closedB md ops listed) = true)
    (hQ : ∀ c a w, Q (.panic c) (a.put oi.dst v) w → Q (.panic c) a w) (hy : YieldsIf P ops S oi v a) (hS : S w)
    (h : anyT P md ops Q S tl fuel (listed.setIfInBounds i true) (a.put oi.dst v) w) : anyT P md ops Q S tl (fuel + 1) listed a w :=
  anyT_first hi (Region.noSelect_spec hs) hQ (by rw [Bool.and_eq_true] at htl; exact htl.1) fuel listed a w (closed_spec (by rw [Bool.and_eq_true] at htl; exact htl.2)) (Region.free_spec hi hf) (by simpa using hr) hy hS h

/-- One operation alone may come up. -/
theorem anyT_one {i : Nat} {o : Oper} {fuel : Nat} {listed : Array Bool} {a : Act} {w : World} (hr : Region.ready md ops listed = [i]) (ho : ops[i]? = some o)
    (h : ∀ K' : Act → World → Prop, Shut (∀ a w, (tl.contains i = false → S w) → anyT P md ops Q S tl fuel (listed.setIfInBounds i true) a w → K' a w) → if Region.wanted o (yielded ops a.tmps) = true then Oper.wp P o a w K' Q else K' (a.put o.dst undef) w) :
    anyT P md ops Q S tl (fuel + 1) listed a w := by
  refine ⟨fun h0 => (by rw [hr] at h0; cases h0), fun j hj => ?_⟩
  rw [hr] at hj
  obtain rfl : j = i := by simpa using hj
  exact wpOp_step ho (fun K' hK => h K' (fun a w hS hW => hK a w ⟨hS, hW⟩))

/-- Two may come up. -/
theorem anyT_two {i j : Nat} {oi oj : Oper} {fuel : Nat} {listed : Array Bool} {a : Act} {w : World} (hr : Region.ready md ops listed = [i, j]) (hi : ops[i]? = some oi) (hj : ops[j]? = some oj)
    (h1 : ∀ K' : Act → World → Prop, Shut (∀ a w, (tl.contains i = false → S w) → anyT P md ops Q S tl fuel (listed.setIfInBounds i true) a w → K' a w) → if Region.wanted oi (yielded ops a.tmps) = true then Oper.wp P oi a w K' Q else K' (a.put oi.dst undef) w)
    (h2 : ∀ K' : Act → World → Prop, Shut (∀ a w, (tl.contains j = false → S w) → anyT P md ops Q S tl fuel (listed.setIfInBounds j true) a w → K' a w) → if Region.wanted oj (yielded ops a.tmps) = true then Oper.wp P oj a w K' Q else K' (a.put oj.dst undef) w) :
    anyT P md ops Q S tl (fuel + 1) listed a w := by
  refine ⟨fun h0 => (by rw [hr] at h0; cases h0), fun k hk => ?_⟩
  rw [hr] at hk
  rcases List.mem_cons.1 hk with rfl | hk
  · exact wpOp_step hi (fun K' hK => h1 K' (fun a w hS hW => hK a w ⟨hS, hW⟩))
  · obtain rfl : k = j := by simpa using hk
    exact wpOp_step hj (fun K' hK => h2 K' (fun a w hS hW => hK a w ⟨hS, hW⟩))

theorem anyT_done {listed : Array Bool} {a : Act} {w : World} (hr : Region.ready md ops listed = []) (h : Q .normal a w) : ∀ fuel, anyT P md ops Q S tl fuel listed a w
  | 0 => ⟨hr, h⟩
  | _ + 1 => ⟨fun _ => h, by rw [hr]; simp⟩

theorem region_T (tl : List Nat) {id : Nat} {a : Act} {w : World} (hm : P.follows .mixedOrders = true) (hS : S w.drew)
    (h : S w.drew → anyT P .any ops Q S tl ops.size (Array.replicate ops.size false) a w.drew) : (Code.region id ops true).wp P Q a w :=
  wp_region_any hm (any_of_T _ _ _ _ (h hS))
end
end Go.Proofs.YtfbeeaibejggdaaDoor
/- Cut: the middle of a round: out's cells are as they were, its rows may have grown. -/
namespace Go.Proofs.YtfbeeaibejggdaaDoor
open Go.RowKit Go.Lib

theorem two_new (w : World) (o o' : Obj) : (((w.alloc o).alloc o').drew).heap[w.heap.size + 1]? = some o' := by
  have h := heap_alloc_new (w.alloc o) o'
  rw [World.size_alloc] at h
  exact h

structure Cm (w : World) (X : Obj) (bx : Nat) (c3 c4 : Value) (ks : List Int) (l : List T) (kv vv : Value) (wr : World) : Prop where
  in2 : In2 w X (.cells zero25 25 (0, 0)) wr
  bx1 : w.heap.size + 2 ≤ bx
  bx2 : bx < wr.heap.size
  out : wr.heap[bx]? = some (.cells #[.int .i64 10, .int .i64 0, .string ⟨#[]⟩, c3, c4] 25 (0, 0))
  keys : wr.ownsRow (bx + 1) 3 1 kv ks.length (ks.map (Value.int .i64))
  kids : Row25 (bx + 1) wr kv vv w.heap.size bx l

section
variable {w : World} {X : Obj} {bx : Nat} {c3 c4 : Value} {ks : List Int} {l : List T} {kv vv : Value} {wr : World}
theorem Ct.cm (h : Ct w X bx ks l kv vv wr) : Cm w X bx kv vv ks l kv vv wr := ⟨h.in2, h.bx1, h.bx2, h.out, h.keys, h.kids⟩
theorem Cm.ct (h : Cm w X bx kv vv ks l kv vv wr) : Ct w X bx ks l kv vv wr := ⟨h.in2, h.bx1, h.bx2, h.out, h.keys, h.kids⟩
theorem Cm.alloc (h : Cm w X bx c3 c4 ks l kv vv wr) (o : Obj) : Cm w X bx c3 c4 ks l kv vv (wr.alloc o) := by
  have hb2 := h.bx2
  have hb1 := h.bx1
  exact ⟨Below.alloc h.in2 (by omega) o, hb1, by simp; omega, (heap_alloc_old o hb2).trans h.out, h.keys.alloc o, h.kids.alloc o⟩
theorem Cm.drew (h : Cm w X bx c3 c4 ks l kv vv wr) : Cm w X bx c3 c4 ks l kv vv wr.drew := ⟨h.in2.drew, h.bx1, h.bx2, h.out, h.keys.drew, h.kids.drew⟩

theorem Cm.below {w1 : World} (h : Cm w X bx c3 c4 ks l kv vv wr) (hb : Below wr.heap.size wr w1) : Cm w X bx c3 c4 ks l kv vv w1 := by
  have hb2 := h.bx2
  have hb1 := h.bx1
  exact ⟨h.in2.next hb, hb1, by have := hb.size; omega, (hb.block bx hb2).trans h.out, own_below h.keys hb, h.kids.below hb⟩

theorem keys_kept {w w1 : World} {B : Nat} {kv vv : Value} {n m : Nat} {xs cs : List Value} (h : w.ownsRow B 3 1 kv n xs) (hv : w.ownsRow B 25 5 vv m cs) (hg : w.grownBy w1 vv.ownBlock) : w1.ownsRow B 3 1 kv n xs := by
  refine h.kept hg ?_
  rcases h.2 with ⟨e, _⟩ | ⟨g, cap, cur, e, _, hh, _⟩
  · rw [e]; exact .inl rfl
  · rcases hv.2 with ⟨e', _⟩ | ⟨g', cap', cur', e', _, hh', _⟩
    · rw [e, e']; exact .inr (by simp [Value.ownBlock])
    · rw [e, e']
      refine .inr fun e3 => ?_
      simp only [Value.ownBlock, Option.some.injEq] at e3
      subst e3
      rw [hh] at hh'
      simp at hh'

theorem Cm.key (h : Cm w X bx c3 c4 ks l kv vv wr) {kv' : Value} {w1 : World} {x : Int}
    (hown : w1.ownsRow (bx + 1) 3 1 kv' (ks.length + 1) (ks.map (Value.int .i64) ++ [.int .i64 x])) (hg : wr.grownBy w1 kv.ownBlock) (hm : Moved wr kv kv') :
    Cm w X bx c3 c4 (ks ++ [x]) l kv' vv w1 := by
  have hb1 := h.bx1
  have hb2 := h.bx2
  have hlt := fun q hq => h.keys.lt q hq
  have hs := hg.size
  refine ⟨Below.grown h.in2 hg (by omega) (fun q hq => by have := (hlt q hq).1; omega), hb1, by omega, ?_, by simpa using hown, Row25.keyed h.kids h.keys hg hm⟩
  rw [hg.block bx hb2 (fun e => by have := (hlt bx e.symm).1; omega)]; exact h.out

theorem Cm.kid (h : Cm w X bx c3 c4 ks l kv vv wr) {cs : List Value} {vv' : Value} {w1 : World} {t : T} {u0 u1 u2 u3 u4 : Value}
    (hcs : wr.ownsRow (bx + 1) 25 5 vv l.length cs) (hel : ∀ j, (h : j < l.length) → OwnP (Off kv vv w.heap.size bx) wr l[j] (five cs j))
    (hown : w1.ownsRow (bx + 1) 25 5 vv' (l.length + 1) (cs ++ [u0, u1, u2, u3, u4])) (hg : wr.grownBy w1 vv.ownBlock) (hm : Moved wr vv vv') (hn : OwnP (Off kv vv w.heap.size bx) wr t (.agg #[u0, u1, u2, u3, u4])) :
    Cm w X bx c3 c4 ks (l ++ [t]) kv vv' w1 := by
  have hb1 := h.bx1
  have hb2 := h.bx2
  have hlt := fun q hq => hcs.lt q hq
  have hs := hg.size
  refine ⟨Below.grown h.in2 hg (by omega) (fun q hq => by have := (hlt q hq).1; omega), hb1, by omega, ?_, keys_kept h.keys hcs hg, Row25.push hcs hel hown hg hm hn⟩
  rw [hg.block bx hb2 (fun e => by have := (hlt bx e.symm).1; omega)]; exact h.out

theorem row_set {w : World} {B b p n : Nat} {e : TypeId} {size : Nat} {v u : Value} {xs : List Value} (h : w.ownsRow B e size v n xs) (hb : b < B) : (w.setCell ⟨b, p, none⟩ u).ownsRow B e size v n xs := by
  refine ⟨h.1, ?_⟩
  rcases h.2 with h3 | ⟨g, cap, cur, hv, hg3, hh, r⟩
  · exact .inl h3
  · exact .inr ⟨g, cap, cur, hv, hg3, (heap_setCell_other _ _ _ _ (by show g ≠ b; omega)).trans hh, r⟩

theorem Cm.set3 (h : Cm w X bx c3 c4 ks l kv vv wr) (u : Value) : Cm w X bx u c4 ks l kv vv (wr.setCell ⟨bx, 3, none⟩ u) := by
  have hb1 := h.bx1
  refine ⟨Below.setCell h.in2 (by show w.heap.size + 2 ≤ bx; omega) _, hb1, by rw [size_setCell]; exact h.bx2, ?_, row_set h.keys (by omega), h.kids.set (by omega) (Nat.le_refl _) (by omega) 3 u⟩
  rw [heap_setCell_same _ _ _ _ _ _ h.out]; rfl
theorem Cm.set4 (h : Cm w X bx c3 c4 ks l kv vv wr) (u : Value) : Cm w X bx c3 u ks l kv vv (wr.setCell ⟨bx, 4, none⟩ u) := by
  have hb1 := h.bx1
  refine ⟨Below.setCell h.in2 (by show w.heap.size + 2 ≤ bx; omega) _, hb1, by rw [size_setCell]; exact h.bx2, ?_, row_set h.keys (by omega), h.kids.set (by omega) (Nat.le_refl _) (by omega) 4 u⟩
  rw [heap_setCell_same _ _ _ _ _ _ h.out]; rfl
theorem Cm.apart (h : Cm w X bx c3 c4 ks l kv vv wr) (b : Nat) (hb : wr.heap.size ≤ b) : Off kv vv w.heap.size bx b := by
  obtain ⟨cs, hcs, _⟩ := h.kids
  have hb2 := h.bx2
  refine ⟨fun e => ?_, fun e => ?_, by omega⟩
  · have := (h.keys.lt b e.symm).2; omega
  · have := (hcs.lt b e.symm).2; omega
/-- A value of old memory lies off the boxes and rows. -/
theorem Cm.old (h : Cm w X bx c3 c4 ks l kv vv wr) {t : T} {v : Value} (hr : Rep w t v) : OwnP (Off kv vv w.heap.size bx) wr t v := by
  obtain ⟨cs, hcs, _⟩ := h.kids
  have hb1 := h.bx1
  exact OwnP.old hr h.in2.same (fun q hq => by have := (h.keys.lt q hq).1; omega) (fun q hq => by have := (hcs.lt q hq).1; omega) (Nat.le_refl _)
end
end Go.Proofs.YtfbeeaibejggdaaDoor
