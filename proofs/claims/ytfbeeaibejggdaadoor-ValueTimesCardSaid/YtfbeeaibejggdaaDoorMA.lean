/- Copies of a value's two lists. -/
import Derived.Test.YtfbeeaibejggdaaDoorFA
import Derived.Test.YtfbeeaibejggdaaDoorAC
import Derived.Test.YtfbeeaibejggdaaDoorShelf
import Derived.Lib.Walk
import Derived.Lib.SliceRun
namespace Go.Proofs.YtfbeeaibejggdaaDoor
open Go.RowKit Go.Lib

theorem Tryd.info3' : (Tryd.prog.info? 3).map (fun i => (i.zero, i.size, i.bytes)) = some (some (.int .i64 0), 1, 8) := by kernel_rfl
theorem Tryd.info25 : (Tryd.prog.info? 25).map (fun i => (i.zero, i.size, i.bytes)) = some (some (.agg #[.int .i64 0, .int .i64 0, .string ⟨#[]⟩, .slice none 0 0, .slice none 0 0]), 5, 80) := by kernel_rfl

/-- The j-th value of a row of cells. -/
def five (cs : List Value) (j : Nat) : Value := .agg #[cs.getD (j * 5) (.bool false), cs.getD (j * 5 + 1) (.bool false), cs.getD (j * 5 + 2) (.bool false), cs.getD (j * 5 + 3) (.bool false), cs.getD (j * 5 + 4) (.bool false)]
theorem five_zero (v0 v1 v2 v3 v4 : Value) (cs : List Value) : five (v0 :: v1 :: v2 :: v3 :: v4 :: cs) 0 = .agg #[v0, v1, v2, v3, v4] := rfl
theorem five_next (v0 v1 v2 v3 v4 : Value) (cs : List Value) (j : Nat) : five (v0 :: v1 :: v2 :: v3 :: v4 :: cs) (j + 1) = five cs j := by
  unfold five
  simp only [show (j + 1) * 5 = j * 5 + 5 by omega, List.getD_cons_succ, show j * 5 + 5 + 1 = j * 5 + 1 + 5 by omega, show j * 5 + 5 + 2 = j * 5 + 2 + 5 by omega, show j * 5 + 5 + 3 = j * 5 + 3 + 5 by omega, show j * 5 + 5 + 4 = j * 5 + 4 + 5 by omega]

theorem kids_cells {w : World} {b off : Nat} : ∀ (l : List T) (i : Nat), KidsIn w (some ⟨b, off, none⟩) i l →
    ∃ cs : List Value, cs.length = l.length * 5 ∧ (∀ j u, cs[j]? = some u → w.cell? ⟨b, off + i * 5 + j, none⟩ = some u) ∧ (∀ u ∈ cs, u.oneCell' = true) ∧ ∀ j, (h : j < l.length) → Rep w l[j] (five cs j)
  | [], _, _ => ⟨[], rfl, by simp, by simp, by simp⟩
  | t :: r, i, hk => by
    unfold KidsIn at hk
    obtain ⟨⟨b', off', v0, v1, v2, v3, v4, ha, h0, h1, h2, h3, h4, hr⟩, hrest⟩ := hk
    simp only [Option.some.injEq, Addr.mk.injEq, and_true] at ha
    obtain ⟨rfl, rfl⟩ := ha
    obtain ⟨cs, c1, c2, c3, c4⟩ := kids_cells r (i + 1) hrest
    obtain ⟨kk, kn, ks, sa, sb, sc, ta, tb, tc, rfl, rfl, rfl, rfl, rfl⟩ := rep_fields hr
    refine ⟨Value.int .i64 kk :: Value.int .i64 kn :: Value.string ks :: Value.slice sa sb sc :: Value.slice ta tb tc :: cs, by simp only [List.length_cons, c1]; omega, ?_, ?_, ?_⟩
    · intro j u hj
      match j, hj with
      | 0, hj => simp only [List.getElem?_cons_zero, Option.some.injEq] at hj; subst hj; exact h0
      | 1, hj => simp only [List.getElem?_cons_succ, List.getElem?_cons_zero, Option.some.injEq] at hj; subst hj; exact h1
      | 2, hj => simp only [List.getElem?_cons_succ, List.getElem?_cons_zero, Option.some.injEq] at hj; subst hj; exact h2
      | 3, hj => simp only [List.getElem?_cons_succ, List.getElem?_cons_zero, Option.some.injEq] at hj; subst hj; exact h3
      | 4, hj => simp only [List.getElem?_cons_succ, List.getElem?_cons_zero, Option.some.injEq] at hj; subst hj; exact h4
      | j + 5, hj =>
        simp only [List.getElem?_cons_succ] at hj
        have := c2 j u hj
        rw [show off + i * 5 + (j + 5) = off + (i + 1) * 5 + j by omega]
        exact this
    · intro u hu
      simp only [List.mem_cons] at hu
      rcases hu with rfl | rfl | rfl | rfl | rfl | hu
      · rfl
      · rfl
      · rfl
      · rfl
      · rfl
      · exact c3 u hu
    · intro j hj
      cases j with
      | zero => exact hr
      | succ j =>
        rw [five_next]
        exact c4 j (by simpa using hj)

set_option maxRecDepth 100000 in
set_option maxHeartbeats 1000000 in
theorem cloneKids_some (a : Addr) (n c : Nat) (news : List Value) (w : World) (hl : news.length = n * 5) (hn : n ≤ 1000000) (hc : ∀ j u, news[j]? = some u → w.cell? (a.add j) = some u) (h1 : ∀ u ∈ news, u.oneCell' = true) :
    Calls Tryd.prog 87 #[.slice (some a) n c] w fun e w' => ∃ v', e = .returned v' ∧ w'.ownsRow w.heap.size 25 5 v' n news ∧ Below w.heap.size w w' := by
  obtain ⟨i0, hi, hz0, hz1, hz2⟩ := info_parts Tryd.info25
  have A := Lib.hid hc
  have q23 : ∀ (w : World) (a : Option Addr) (n c n' c' : Nat), (binOp .eql 23 (.slice a n c) (.slice none n' c')).run Tryd.prog w = .ok (.bool a.isNone) w := fun w a n c n' c' => Lib.run_eql_slice_nil w _ _ a n c n' c' Tryd.underlying23
  clear hc
  go_enter Tryd.func87, Tryd.ntmps87
  go_wp2_with (at_builtin; refine wpList_append_own _ rfl _ _ 23 rfl w.heap.size 25 i0 _ 5 80 Tryd.underlying23 hi hz0 hz1 hz2 rfl (by decide) _ _ _ rfl (World.ownsRow_made w #[] 0 (Nat.le_refl _) (Nat.zero_le _) (by simp)) a n c news rfl ?qc1 ?qc2 ?qc3 ?qc4 ?qc5 ?qc6 ?_)
  case qc1 => exact hl
  case qc2 =>
    intro j u hj
    exact Lib.cell?_alloc_some _ (A.out j u hj)
  case qc3 => exact h1
  case qc4 => rw [Nat.zero_add]; unfold maxLen; omega
  case qc5 => rw [Nat.zero_add]; omega
  case qc6 => simp
  intro v' w1 hown hgrow hnil
  go_wp2
  go_ret
  refine ⟨v', rfl, by simpa using hown, ?_⟩
  exact ((Below.refl _ w).alloc (Nat.le_refl _) _).grown hgrow (by simp) (by intro k hk; simp [Value.ownBlock] at hk; omega)

theorem cloneKids_nil (n c : Nat) (w : World) : Calls Tryd.prog 87 #[.slice none n c] w fun e w' => e = .returned (.slice none 0 0) ∧ w' = w := by
  have q23 : ∀ (w : World) (a : Option Addr) (n c n' c' : Nat), (binOp .eql 23 (.slice a n c) (.slice none n' c')).run Tryd.prog w = .ok (.bool a.isNone) w := fun w a n c n' c' => Lib.run_eql_slice_nil w _ _ a n c n' c' Tryd.underlying23
  go_enter Tryd.func87, Tryd.ntmps87
  go_wp2
  go_ret
  exact ⟨rfl, rfl⟩

/-- What a copy of a list of values leaves. -/
def ClonedKids (kids : List T) (w0 w : World) (e : Ending) (w' : World) : Prop :=
  ∃ va' vc' cs, e = .returned (.slice va' kids.length vc') ∧ w'.ownsRow w.heap.size 25 5 (.slice va' kids.length vc') kids.length cs ∧ (∀ j, (h : j < kids.length) → Rep w0 kids[j] (five cs j)) ∧ Below w.heap.size w w'

theorem cloneKids_any (va : Option Addr) (vc : Nat) (kids : List T) (w0 w : World) (hsm : Same w0 w) (hk : KidsIn w0 va 0 kids) (hn : kids.length ≤ 1000000) : Calls Tryd.prog 87 #[.slice va kids.length vc] w (ClonedKids kids w0 w) := by
  cases va with
  | none =>
    have hnil : kids = [] := by
      cases kids with
      | nil => rfl
      | cons t r =>
        unfold KidsIn at hk
        obtain ⟨⟨b, off, _, _, _, _, _, h, _⟩, _⟩ := hk
        cases h
    subst hnil
    refine (cloneKids_nil 0 vc w).mono ?_
    rintro e w' ⟨rfl, rfl⟩
    exact ⟨none, 0, [], rfl, World.ownsRow_nil _ _ _ _, by simp, Below.refl _ _⟩
  | some a =>
    have hcs : ∃ cs : List Value, cs.length = kids.length * 5 ∧ (∀ j u, cs[j]? = some u → w0.cell? (a.add j) = some u) ∧ (∀ u ∈ cs, u.oneCell' = true) ∧ ∀ j, (h : j < kids.length) → Rep w0 kids[j] (five cs j) := by
      cases kids with
      | nil => exact ⟨[], rfl, by simp, by simp, by simp⟩
      | cons t r =>
        have hk' := hk
        unfold KidsIn at hk'
        obtain ⟨⟨b, off, _, _, _, _, _, h, _⟩, _⟩ := hk'
        simp only [Option.some.injEq] at h
        subst h
        obtain ⟨cs, c1, c2, c3, c4⟩ := kids_cells (t :: r) 0 hk
        refine ⟨cs, c1, fun j u hj => ?_, c3, c4⟩
        have := c2 j u hj
        rw [Addr.add_lit]
        rw [show off + 0 * 5 + j = off + j by omega] at this
        exact this
    obtain ⟨cs, c1, c2, c3, c4⟩ := hcs
    refine (cloneKids_some a kids.length vc cs w c1 hn (fun j u hj => hsm.cell (c2 j u hj)) c3).mono ?_
    rintro e w' ⟨v', rfl, hown, hb⟩
    obtain ⟨o, k, hv⟩ : ∃ a c, v' = .slice a kids.length c := by
      rcases hown.2 with ⟨h1, h2⟩ | ⟨g, cap, cur, hv, _⟩
      · exact ⟨none, 0, by rw [h1, h2]⟩
      · exact ⟨_, _, hv⟩
    subst hv
    exact ⟨o, k, cs, rfl, hown, c4, hb⟩

/-- What a copy of a list of keys leaves: the keys in memory of its own. -/
def ClonedKeys (keys : List Int) (w : World) (e : Ending) (w' : World) : Prop :=
  ∃ ka' kc', e = .returned (.slice ka' keys.length kc') ∧ (∀ w'' : World, (∀ (a : Addr) (u : Value), w.heap.size ≤ a.block → w'.cell? a = some u → w''.cell? a = some u) → KeysIn w'' ka' keys) ∧ Below w.heap.size w w'

theorem keys_own {w' : World} {B : Nat} {v' : Value} {keys : List Int} (hI : ∀ i, i < keys.length → I64 (keys.getD i 0)) (hown : w'.ownsRow B 3 1 v' keys.length (keys.map (Value.int .i64))) :
    ∃ a c, v' = .slice a keys.length c ∧ ∀ w'' : World, (∀ (a : Addr) (u : Value), B ≤ a.block → w'.cell? a = some u → w''.cell? a = some u) → KeysIn w'' a keys := by
  rcases hown.2 with ⟨h1, h2⟩ | ⟨g, cap, cur, hv, hb, _⟩
  · refine ⟨none, 0, by rw [h1, h2], fun w'' _ i hi => ?_⟩
    omega
  · refine ⟨some ⟨g, 0, none⟩, cap, hv, fun w'' hw i hi => ⟨g, 0, rfl, ?_, hI i hi⟩⟩
    rw [hv] at hown
    refine hw _ _ hb ?_
    rw [Nat.zero_add, hown.cellAt i (by omega)]
    simp [List.getElem?_eq_getElem hi, List.getD]

theorem cloneKeys_any (ka : Option Addr) (kc : Nat) (keys : List Int) (w : World) (hk : KeysIn w ka keys) (hn : keys.length ≤ 1000000) : Calls Tryd.prog 86 #[.slice ka keys.length kc] w (ClonedKeys keys w) := by
  have hI : ∀ i, i < keys.length → I64 (keys.getD i 0) := fun i hi => (hk i hi).choose_spec.choose_spec.2.2
  cases ka with
  | none =>
    have hnil : keys = [] := by
      cases keys with
      | nil => rfl
      | cons t r =>
        obtain ⟨b, off, h, _⟩ := hk 0 (by simp)
        cases h
    subst hnil
    refine (Tryd.slices_Clone_int_nil 0 kc w).mono ?_
    rintro e w' ⟨rfl, rfl⟩
    exact ⟨none, 0, rfl, fun _ _ i hi => by simp at hi, Below.refl _ _⟩
  | some a =>
    by_cases h0 : keys = []
    · subst h0
      refine (Tryd.slices_Clone_int_zero a kc w).mono ?_
      rintro e w' ⟨v', rfl, hown, _, hb⟩
      obtain ⟨o, k, rfl, hkeys⟩ := keys_own (keys := []) hI hown
      exact ⟨o, k, rfl, hkeys, hb⟩
    · obtain ⟨b, off, ha, _, _⟩ := hk 0 (List.length_pos_iff.2 h0)
      simp only [Option.some.injEq] at ha
      subst ha
      refine (Tryd.slices_Clone_int b off keys.length kc keys w (Nat.le_refl _) (by omega) (fun j hj => ?_)).mono ?_
      · obtain ⟨b', off', he, hc, _⟩ := hk j hj
        simp only [Option.some.injEq, Addr.mk.injEq, and_true] at he
        obtain ⟨rfl, rfl⟩ := he
        exact hc
      · rintro e w' ⟨v', rfl, hown, _, hb⟩
        rw [List.take_length] at hown
        obtain ⟨o, k, rfl, hkeys⟩ := keys_own hI hown
        exact ⟨o, k, rfl, hkeys, hb⟩
end Go.Proofs.YtfbeeaibejggdaaDoor
/- A copy of a value: a tree in memory of its own. First what stays when memory grows. -/
namespace Go.Proofs.YtfbeeaibejggdaaDoor
open Go.RowKit Go.Lib

def Keeps (S : Nat → Prop) (w w' : World) : Prop := ∀ (a : Addr) (u : Value), S a.block → w.cell? a = some u → w'.cell? a = some u
theorem Keeps.refl (S : Nat → Prop) (w : World) : Keeps S w w := fun _ _ _ h => h
theorem Keeps.trans {S : Nat → Prop} {a b c : World} (h : Keeps S a b) (g : Keeps S b c) : Keeps S a c := fun x u hs hx => g x u hs (h x u hs hx)
theorem Keeps.weaken {S S' : Nat → Prop} {w w' : World} (h : Keeps S w w') (hs : ∀ b, S' b → S b) : Keeps S' w w' := fun x u hx hc => h x u (hs _ hx) hc
theorem Keeps.below {S : Nat → Prop} {w w' : World} (h : Below w.heap.size w w') : Keeps S w w' := fun _ _ _ hc => (Same.of_below h).cell hc
theorem Keeps.alloc {S : Nat → Prop} (w : World) (o : Obj) : Keeps S w (w.alloc o) := fun _ _ _ hc => (same_alloc w o).cell hc
theorem Keeps.set {S : Nat → Prop} (w : World) (g j : Nat) (u : Value) (hS : ¬ S g) : Keeps S w (w.setCell ⟨g, j, none⟩ u) := fun a x hs hc => by
  have hne : a.block ≠ g := fun e => hS (e ▸ hs)
  rw [← hc]
  exact World.cell?_of_block (heap_setCell_other _ _ _ _ hne)

mutual
theorem Rep.keep {w w' : World} (h : Keeps (fun _ => True) w w') : ∀ (t : T) (v : Value), Rep w t v → Rep w' t v
  | .mk k n s keys kids, v, hr => by
    unfold Rep at hr ⊢
    obtain ⟨ka, va, kc, vc, hv, h1, h2, h3, h4, h5, hk, hkids⟩ := hr
    refine ⟨ka, va, kc, vc, hv, h1, h2, h3, h4, h5, fun i hi => ?_, KidsIn.keep h kids va 0 hkids⟩
    obtain ⟨b, off, ha, hc, hb⟩ := hk i hi
    exact ⟨b, off, ha, h _ _ trivial hc, hb⟩
theorem KidsIn.keep {w w' : World} (h : Keeps (fun _ => True) w w') : ∀ (l : List T) (a : Option Addr) (i : Nat), KidsIn w a i l → KidsIn w' a i l
  | [], _, _, _ => by unfold KidsIn; trivial
  | t :: r, a, i, hk => by
    unfold KidsIn at hk ⊢
    obtain ⟨⟨b, off, v0, v1, v2, v3, v4, ha, h0, h1, h2, h3, h4, hr⟩, hrest⟩ := hk
    exact ⟨⟨b, off, v0, v1, v2, v3, v4, ha, h _ _ trivial h0, h _ _ trivial h1, h _ _ trivial h2, h _ _ trivial h3, h _ _ trivial h4, Rep.keep h t _ hr⟩, KidsIn.keep h r a (i + 1) hrest⟩
end

/-- v stands for t in whatever world keeps the blocks S. -/
def OwnP (S : Nat → Prop) (w : World) (t : T) (v : Value) : Prop := ∀ w'' : World, Keeps S w w'' → Rep w'' t v
theorem OwnP.rep {S : Nat → Prop} {w : World} {t : T} {v : Value} (h : OwnP S w t v) : Rep w t v := h w (Keeps.refl _ _)
theorem OwnP.move {S : Nat → Prop} {w w' : World} {t : T} {v : Value} (h : OwnP S w t v) (hk : Keeps S w w') : OwnP S w' t v := fun w'' h2 => h w'' (hk.trans h2)
/-- Through an allocation, a call that leaves what was, and stores into one block outside S. -/
theorem OwnP.weaken {S S' : Nat → Prop} {w : World} {t : T} {v : Value} (h : OwnP S w t v) (hs : ∀ b, S b → S' b) : OwnP S' w t v := fun w'' h2 => h w'' (h2.weaken hs)
theorem OwnP.weakenIn {S S' : Nat → Prop} {w : World} {t : T} {v : Value} (h : OwnP S w t v) (hs : ∀ b, b < w.heap.size → S b → S' b) : OwnP S' w t v := fun w'' h2 => h w'' fun a u hS hc => h2 a u (hs _ (cell_lt hc) hS) hc
theorem OwnP.of_rep {w : World} {t : T} {v : Value} (h : Rep w t v) : OwnP (fun _ => True) w t v := fun _ hk => Rep.keep hk t v h

/-- What a copy leaves. -/
def Cloned (t : T) (w : World) (e : Ending) (w' : World) : Prop := ∃ v', e = .returned v' ∧ OwnP (fun b => w.heap.size ≤ b) w' t v' ∧ Below w.heap.size w w'

theorem own_below {W w1 : World} {base e size n : Nat} {v : Value} {xs : List Value} (h : W.ownsRow base e size v n xs) (hb : Below W.heap.size W w1) : w1.ownsRow base e size v n xs := by
  refine ⟨h.1, ?_⟩
  rcases h.2 with h2 | ⟨g, cap, cur, hv, hg, hh, r⟩
  · exact .inl h2
  · exact .inr ⟨g, cap, cur, hv, hg, (hb.block g (Array.getElem?_eq_some_iff.1 hh).1).trans hh, r⟩

/-- The first k of the cells of a row of five each. -/
def set5 (cs : List Value) (k : Nat) (u0 u1 u2 u3 u4 : Value) : List Value := ((((cs.set (k * 5) u0).set (k * 5 + 1) u1).set (k * 5 + 2) u2).set (k * 5 + 3) u3).set (k * 5 + 4) u4
theorem set5_len (cs : List Value) (k : Nat) (u0 u1 u2 u3 u4 : Value) : (set5 cs k u0 u1 u2 u3 u4).length = cs.length := by simp [set5]
theorem getD_set (cs : List Value) (i j : Nat) (u d : Value) : (cs.set i u).getD j d = if i = j ∧ j < cs.length then u else cs.getD j d := by
  simp only [List.getD, List.getElem?_set]
  by_cases h : i = j
  · subst h
    by_cases h2 : i < cs.length
    · simp [h2]
    · simp [h2]
  · simp [h]
theorem five_other (cs : List Value) (k j : Nat) (u0 u1 u2 u3 u4 : Value) (h : j ≠ k) : five (set5 cs k u0 u1 u2 u3 u4) j = five cs j := by
  unfold five set5
  simp only [getD_set, List.length_set]
  repeat rw [if_neg (by omega)]
theorem five_same (cs : List Value) (k : Nat) (u0 u1 u2 u3 u4 : Value) (h : k * 5 + 4 < cs.length) : five (set5 cs k u0 u1 u2 u3 u4) k = .agg #[u0, u1, u2, u3, u4] := by
  unfold five set5
  simp only [getD_set, List.length_set]
  have h0 : k * 5 < cs.length := by omega
  have h1 : k * 5 + 1 < cs.length := by omega
  have h2 : k * 5 + 2 < cs.length := by omega
  have h3 : k * 5 + 3 < cs.length := by omega
  simp [h0, h1, h2, h3, h]

theorem kids_of_row {w : World} {g n cap : Nat} {cs : List Value} (hown : w.ownsRow 0 25 5 (.slice (some ⟨g, 0, none⟩) n cap) n cs) : ∀ (l : List T) (i : Nat), i + l.length = n →
    (∀ j, (h : j < l.length) → Rep w l[j] (five cs (i + j))) → KidsIn w (some ⟨g, 0, none⟩) i l
  | [], _, _, _ => by unfold KidsIn; trivial
  | t :: r, i, hi, h => by
    have hlen := hown.1
    simp only [List.length_cons] at hi
    have hc : ∀ j, j < 5 → w.cell? ⟨g, 0 + i * 5 + j, none⟩ = some (cs.getD (i * 5 + j) (.bool false)) := fun j hj => by
      rw [Nat.zero_add, hown.cellAt _ (by omega)]
      simp [List.getD, List.getElem?_eq_getElem (show i * 5 + j < cs.length by omega)]
    unfold KidsIn
    refine ⟨⟨g, 0, _, _, _, _, _, rfl, hc 0 (by omega), hc 1 (by omega), hc 2 (by omega), hc 3 (by omega), hc 4 (by omega), ?_⟩, kids_of_row hown r (i + 1) (by omega) fun j hj => ?_⟩
    · have := h 0 (by simp)
      simpa [five] using this
    · have := h (j + 1) (by simpa using hj)
      rw [show i + 1 + j = i + (j + 1) by omega]
      simpa using this
end Go.Proofs.YtfbeeaibejggdaaDoor
/- A copy of a value: what holds at the head of each round. -/
namespace Go.Proofs.YtfbeeaibejggdaaDoor
open Go.RowKit Go.Lib

def zero25 : Array Value := #[.int .i64 0, .int .i64 0, .string ⟨#[]⟩, .slice none 0 0, .slice none 0 0]

/-- The blocks of the copy but its row. -/
def But (B g : Nat) (b : Nat) : Prop := B ≤ b ∧ b ≠ g

structure Cl (w : World) (kd n : Int) (s : ByteArray) (keys : List Int) (kids : List T) (ka' : Option Addr) (kc' g vc' : Nat) (k : Nat) (cs : List Value) (wr : World) : Prop where
  below : Below w.heap.size w wr
  size : w.heap.size + 2 ≤ wr.heap.size
  box : wr.heap[w.heap.size]? = some (.cells #[.int .i64 kd, .int .i64 n, .string s, .slice ka' keys.length kc', .slice (some ⟨g, 0, none⟩) kids.length vc'] 25 (0, 0))
  out : wr.heap[w.heap.size + 1]? = some (.cells zero25 25 (0, 0))
  row : wr.ownsRow (w.heap.size + 2) 25 5 (.slice (some ⟨g, 0, none⟩) kids.length vc') kids.length cs
  keys : ∀ w'' : World, Keeps (But (w.heap.size + 2) g) wr w'' → KeysIn w'' ka' keys
  did : ∀ j, (h : j < kids.length) → j < k → OwnP (But (w.heap.size + 2) g) wr kids[j] (five cs j)
  todo : ∀ j, (h : j < kids.length) → k ≤ j → Rep w kids[j] (five cs j)

theorem Cl.row_lt {w : World} {kd n : Int} {s : ByteArray} {keys : List Int} {kids : List T} {ka' : Option Addr} {kc' g vc' k : Nat} {cs : List Value} {wr : World} (h : Cl w kd n s keys kids ka' kc' g vc' k cs wr) : w.heap.size + 2 ≤ g ∧ g < wr.heap.size := by
  have := h.row.lt g (by simp [Value.ownBlock])
  exact this

/-- The five stores of a round. -/
def store5 (w : World) (g p : Nat) (u0 u1 u2 u3 u4 : Value) : World := ((((w.setCell ⟨g, p, none⟩ u0).setCell ⟨g, p + 1, none⟩ u1).setCell ⟨g, p + 2, none⟩ u2).setCell ⟨g, p + 3, none⟩ u3).setCell ⟨g, p + 4, none⟩ u4
theorem store5_keeps {S : Nat → Prop} (w : World) (g p : Nat) (u0 u1 u2 u3 u4 : Value) (hS : ¬ S g) : Keeps S w (store5 w g p u0 u1 u2 u3 u4) :=
  ((((Keeps.set w g p u0 hS).trans (Keeps.set _ g _ u1 hS)).trans (Keeps.set _ g _ u2 hS)).trans (Keeps.set _ g _ u3 hS)).trans (Keeps.set _ g _ u4 hS)
theorem store5_block (w : World) (g p k : Nat) (u0 u1 u2 u3 u4 : Value) (h : k ≠ g) : (store5 w g p u0 u1 u2 u3 u4).heap[k]? = w.heap[k]? := by
  unfold store5
  rw [heap_setCell_other _ _ _ _ h, heap_setCell_other _ _ _ _ h, heap_setCell_other _ _ _ _ h, heap_setCell_other _ _ _ _ h, heap_setCell_other _ _ _ _ h]
theorem store5_size (w : World) (g p : Nat) (u0 u1 u2 u3 u4 : Value) : (store5 w g p u0 u1 u2 u3 u4).heap.size = w.heap.size := by
  simp [store5, World.setCell]
theorem store5_below {B : Nat} {w w' : World} (h : Below B w w') (g p : Nat) (u0 u1 u2 u3 u4 : Value) (hg : B ≤ g) : Below B w (store5 w' g p u0 u1 u2 u3 u4) :=
  ((((h.setCell (by exact hg) _).setCell (by exact hg) _).setCell (by exact hg) _).setCell (by exact hg) _).setCell (by exact hg) _
theorem store5_row {w : World} {base g n cap k : Nat} {cs : List Value} (h : w.ownsRow base 25 5 (.slice (some ⟨g, 0, none⟩) n cap) n cs) (u0 u1 u2 u3 u4 : Value) :
    (store5 w g (k * 5) u0 u1 u2 u3 u4).ownsRow base 25 5 (.slice (some ⟨g, 0, none⟩) n cap) n (set5 cs k u0 u1 u2 u3 u4) :=
  ((((((((h.stored (k * 5) u0).1).stored (k * 5 + 1) u1).1).stored (k * 5 + 2) u2).1).stored (k * 5 + 3) u3).1.stored (k * 5 + 4) u4).1

/-- A round: the kid is boxed, copied, and stored. -/
theorem Cl.step {w : World} {kd n : Int} {s : ByteArray} {keys : List Int} {kids : List T} {ka' : Option Addr} {kc' g vc' k : Nat} {cs : List Value} {wr w1 : World} (h : Cl w kd n s keys kids ka' kc' g vc' k cs wr) (hk : k < kids.length)
    (o : Obj) (hb : Below (wr.alloc o).heap.size (wr.alloc o) w1) {u0 u1 u2 u3 u4 : Value} (hc : OwnP (fun b => (wr.alloc o).heap.size ≤ b) w1 kids[k] (.agg #[u0, u1, u2, u3, u4])) :
    Cl w kd n s keys kids ka' kc' g vc' (k + 1) (set5 cs k u0 u1 u2 u3 u4) (store5 w1 g (k * 5) u0 u1 u2 u3 u4) := by
  obtain ⟨hg1, hg2⟩ := h.row_lt
  have hsz : (wr.alloc o).heap.size = wr.heap.size + 1 := by simp
  have hlen := h.row.1
  have hbw : Below wr.heap.size wr w1 := ((Below.refl _ wr).alloc (Nat.le_refl _) o).trans (hb.mono (by omega))
  have hnot : ¬ But (w.heap.size + 2) g g := fun x => x.2 rfl
  have hkeep : Keeps (But (w.heap.size + 2) g) wr (store5 w1 g (k * 5) u0 u1 u2 u3 u4) := (Keeps.below hbw).trans (store5_keeps _ _ _ _ _ _ _ _ hnot)
  refine ⟨store5_below (h.below.trans (hbw.mono (by have := h.size; omega))) _ _ _ _ _ _ _ (by omega), ?_, ?_, ?_, ?_, ?_, ?_, ?_⟩
  · rw [store5_size]; have := hbw.size; have := h.size; omega
  · rw [store5_block _ _ _ _ _ _ _ _ _ (by omega), hbw.block _ (by have := h.size; omega)]; exact h.box
  · rw [store5_block _ _ _ _ _ _ _ _ _ (by omega), hbw.block _ (by have := h.size; omega)]; exact h.out
  · exact store5_row (own_below h.row hbw) _ _ _ _ _
  · intro w'' hw; exact h.keys w'' (hkeep.trans hw)
  · intro j hj hjk
    by_cases e : j = k
    · subst e
      rw [five_same _ _ _ _ _ _ _ (by omega)]
      intro w'' hw
      refine hc w'' fun a u hS hcell => ?_
      have hne : a.block ≠ g := by omega
      refine hw a u ⟨by omega, hne⟩ ?_
      exact store5_keeps (S := fun b => b ≠ g) w1 g (j * 5) u0 u1 u2 u3 u4 (fun x => x rfl) a u hne hcell
    · rw [five_other _ _ _ _ _ _ _ _ e]
      exact (h.did j hj (by omega)).move hkeep
  · intro j hj hjk
    rw [five_other _ _ _ _ _ _ _ _ (by omega)]
    exact h.todo j hj (by omega)

/-- What is there when all kids are copied. -/
theorem Cl.finish {w : World} {kd n : Int} {s : ByteArray} {keys : List Int} {kids : List T} {ka' : Option Addr} {kc' g vc' : Nat} {cs : List Value} {wr : World} (h : Cl w kd n s keys kids ka' kc' g vc' kids.length cs wr)
    (hI : I64 kd ∧ I64 n ∧ s.size ≤ 140737488355328 ∧ keys.length ≤ 17592186044416 ∧ kids.length ≤ 17592186044416) (o : Obj) (w2 : World) (hw2 : ∀ b, b ≠ w.heap.size + 1 → w2.heap[b]? = wr.heap[b]?) :
    OwnP (fun b => w.heap.size ≤ b) w2 (.mk kd n s keys kids) (.agg #[.int .i64 kd, .int .i64 n, .string s, .slice ka' keys.length kc', .slice (some ⟨g, 0, none⟩) kids.length vc']) := by
  obtain ⟨hg1, hg2⟩ := h.row_lt
  have hk : Keeps (fun b => w.heap.size + 2 ≤ b) wr w2 := fun a u hS hc => by
    rw [← hc]; exact World.cell?_of_block (hw2 _ (by omega))
  intro w'' hw
  have hkw : Keeps (fun b => w.heap.size + 2 ≤ b) wr w'' := hk.trans (hw.weaken fun b hb => by omega)
  unfold Rep
  refine ⟨ka', _, kc', vc', rfl, hI.1, hI.2.1, hI.2.2.1, hI.2.2.2.1, hI.2.2.2.2, h.keys w'' (hkw.weaken fun b hb => hb.1), ?_⟩
  have hrow : ∀ j, j < kids.length * 5 → w''.cell? ⟨g, j, none⟩ = cs[j]? := fun j hj => by
    have h1 := h.row.cellAt j hj
    rw [List.getElem?_eq_getElem (by rw [h.row.1]; exact hj)] at h1 ⊢
    exact hkw _ _ hg1 h1
  have hgen : ∀ (l : List T) (i : Nat), i + l.length = kids.length → (∀ j, (hj : j < l.length) → Rep w'' l[j] (five cs (i + j))) → KidsIn w'' (some ⟨g, 0, none⟩) i l := by
    intro l
    induction l with
    | nil => intro i _ _; unfold KidsIn; trivial
    | cons t r ih =>
      intro i hi hr
      simp only [List.length_cons] at hi
      have hlen := h.row.1
      have hc : ∀ j, j < 5 → w''.cell? ⟨g, 0 + i * 5 + j, none⟩ = some (cs.getD (i * 5 + j) (.bool false)) := fun j hj => by
        rw [Nat.zero_add, hrow _ (by omega)]
        simp [List.getD, List.getElem?_eq_getElem (show i * 5 + j < cs.length by omega)]
      unfold KidsIn
      refine ⟨⟨g, 0, _, _, _, _, _, rfl, hc 0 (by omega), hc 1 (by omega), hc 2 (by omega), hc 3 (by omega), hc 4 (by omega), ?_⟩, ih (i + 1) (by omega) fun j hj => ?_⟩
      · have := hr 0 (by simp)
        simpa [five] using this
      · have := hr (j + 1) (by simpa using hj)
        rw [show i + 1 + j = i + (j + 1) by omega]
        simpa using this
  refine hgen kids 0 (by omega) fun j hj => ?_
  rw [Nat.zero_add]
  exact (h.did j hj hj) w'' (hkw.weaken fun b hb => hb.1)
end Go.Proofs.YtfbeeaibejggdaaDoor
/- Appending to a row of the call's own: the row lies where it lay, or in a new block; and rows of values, whose elements lie elsewhere. -/
namespace Go.Proofs.YtfbeeaibejggdaaDoor
open Go.RowKit Go.Lib

def Moved (w : World) (v v' : Value) : Prop := v'.ownBlock = v.ownBlock ∨ ∃ g, v'.ownBlock = some g ∧ w.heap.size ≤ g

theorem run_append_moves {P : Program} (w : World) (base : Nat) (t ty e : TypeId) (i : TypeInfo) (z : Value) (size bytes : Nat) (ht : P.underlying t = some (.slice e)) (hi : P.info? e = some i) (hz : i.zero = some z)
    (hsize : i.size = size) (hby : i.bytes = bytes) (hzs : z.cells.size = size) (hsz : 0 < size)
    (v : Value) (n : Nat) (xs : List Value) (hown : w.ownsRow base e size v n xs)
    (a : Addr) (m c : Nat) (news : List Value) (hl : news.length = m * size) (hnews : ∀ j u, news[j]? = some u → w.cell? (a.add j) = some u) (h1 : ∀ u ∈ news, u.oneCell' = true)
    (h63 : n + m ≤ maxLen) (hbytes : (n + m) * bytes ≤ 140737488355328) (hbase : base ≤ w.heap.size) :
    ∃ v' w', (Builtin.append_ #[t, t] ty #[v, .slice (some a) m c]).run P w = .ok v' w' ∧ w'.ownsRow base e size v' (n + m) (xs ++ news) ∧ w.grownBy w' v.ownBlock ∧ Moved w v v' := by
  obtain ⟨v', w', hr, h2, h3, _⟩ := run_append_own (P := P) w base t ty e i z size bytes ht hi hz hsize hby hzs hsz v n xs hown a m c news hl hnews h1 h63 hbytes hbase
  refine ⟨v', w', hr, h2, h3, ?_⟩
  rcases hown.2 with ⟨rfl, rfl⟩ | ⟨g, cap, cur, rfl, hbg, hg, hnc, hcm, hcs, htake⟩
  · have hx : xs = [] := List.eq_nil_of_length_eq_zero (by simpa using hown.1)
    subst hx
    obtain ⟨v2, w2, hr2, k2, _, _⟩ := run_append_own (P := P) w w.heap.size t ty e i z size bytes ht hi hz hsize hby hzs hsz (.slice none 0 0) 0 [] (World.ownsRow_nil w _ e size) a m c news hl hnews h1 h63 hbytes (Nat.le_refl _)
    rw [hr] at hr2
    injection hr2 with e1 e2
    subst e1
    subst e2
    cases ho : v'.ownBlock with
    | none => exact .inl (by rw [ho]; rfl)
    | some g => exact .inr ⟨g, ho, (k2.lt g ho).1⟩
  · subst hsize
    by_cases hroom : n + m ≤ cap
    · have hfit : n * i.size + news.length ≤ cur.size := by rw [hl, hcs, ← Nat.add_mul]; exact Nat.mul_le_mul_right _ hroom
      have hr2 := run_append_room (P := P) w t ty e i ht hi g n cap cur hg a m c news hl hnews h1 hroom hfit
      rw [hr] at hr2
      injection hr2 with e1 _
      subst e1
      exact .inl rfl
    · have holds : ∀ j u, xs[j]? = some u → w.cell? ((⟨g, 0, none⟩ : Addr).add j) = some u := hown.cells (g := g) rfl
      have hr2 := run_append_grow (P := P) w t ty e i z ht hi hz ⟨g, 0, none⟩ n cap xs hown.1 holds a m c news hl hnews (by omega) (by unfold maxLen at h63; omega) (by subst hby; exact growslice_fits (by omega) hbytes)
      rw [hr] at hr2
      injection hr2 with e1 _
      subst e1
      exact .inr ⟨w.heap.size, rfl, Nat.le_refl _⟩

theorem wpList_append_moves {P : Program} {w : World} {ops : Array Oper} {rest : List Oper} {o : Oper} {a : Act} {Q : Exit → Act → World → Prop} (hgd : o.guard = none) (s x : Operand) (t : TypeId)
    (ho : o.op = .call { callee := .builtin .append, args := #[s, x], argTypes := #[t, t] })
    (base : Nat) (e : TypeId) (i : TypeInfo) (z : Value) (size bytes : Nat) (ht : P.underlying t = some (.slice e)) (hi : P.info? e = some i) (hz : i.zero = some z)
    (hsize : i.size = size) (hby : i.bytes = bytes) (hzs : z.cells.size = size) (hsz : 0 < size)
    (v : Value) (n : Nat) (xs : List Value) (hs : a.eval s = v) (hown : w.ownsRow base e size v n xs)
    (ad : Addr) (m c : Nat) (news : List Value) (hx : a.eval x = .slice (some ad) m c) (hl : news.length = m * size) (hnews : ∀ j u, news[j]? = some u → w.cell? (ad.add j) = some u) (h1 : ∀ u ∈ news, u.oneCell' = true)
    (h63 : n + m ≤ maxLen) (hbytes : (n + m) * bytes ≤ 140737488355328) (hbase : base ≤ w.heap.size)
    (h : ∀ v' w', w'.ownsRow base e size v' (n + m) (xs ++ news) → w.grownBy w' v.ownBlock → Moved w v v' → wpList P ops Q rest (a.put o.dst v') w') : wpList P ops Q (o :: rest) a w := by
  refine wpList_plain hgd fun K hK => ?_
  obtain ⟨v', w', hr, h2, h3, h4⟩ := run_append_moves (P := P) w base t o.type e i z size bytes ht hi hz hsize hby hzs hsz v n xs hown ad m c news hl hnews h1 h63 hbytes hbase
  unfold Oper.wp execOp
  simp only [ho, resolve, invoke, builtin, Sem.run_bind, Sem.run_pure, Result.andThen_ok, List.map_toArray, List.map_cons, List.map_nil, hs, hx, hr]
  exact hK _ _ (h v' w' h2 h3 h4)

/-- Where elements of the row vv may lie: not in the row, not in the row kv, not in the blocks from lo to hi. -/
def Off (kv vv : Value) (lo hi : Nat) (b : Nat) : Prop := some b ≠ kv.ownBlock ∧ some b ≠ vv.ownBlock ∧ ¬ (lo ≤ b ∧ b ≤ hi)

/-- vv is a row of the values l. -/
def Row25 (B : Nat) (w : World) (kv vv : Value) (lo hi : Nat) (l : List T) : Prop :=
  ∃ cs, w.ownsRow B 25 5 vv l.length cs ∧ ∀ j, (h : j < l.length) → OwnP (Off kv vv lo hi) w l[j] (five cs j)

theorem Row25.nil (B : Nat) (w : World) (kv : Value) (lo hi : Nat) : Row25 B w kv (.slice none 0 0) lo hi [] := ⟨[], World.ownsRow_nil _ _ _ _, fun _ h => absurd h (Nat.not_lt_zero _)⟩

/-- Through a call that leaves what was. -/
theorem Row25.below {B : Nat} {w w1 : World} {kv vv : Value} {lo hi : Nat} {l : List T} (h : Row25 B w kv vv lo hi l) (hb : Below w.heap.size w w1) : Row25 B w1 kv vv lo hi l := by
  obtain ⟨cs, h1, h2⟩ := h
  exact ⟨cs, own_below h1 hb, fun j hj => (h2 j hj).move (Keeps.below hb)⟩
theorem Row25.alloc {B : Nat} {w : World} {kv vv : Value} {lo hi : Nat} {l : List T} (h : Row25 B w kv vv lo hi l) (o : Obj) : Row25 B (w.alloc o) kv vv lo hi l := by
  obtain ⟨cs, h1, h2⟩ := h
  exact ⟨cs, h1.alloc o, fun j hj => (h2 j hj).move (Keeps.alloc w o)⟩
theorem Row25.drew {B : Nat} {w : World} {kv vv : Value} {lo hi : Nat} {l : List T} (h : Row25 B w kv vv lo hi l) : Row25 B w.drew kv vv lo hi l := by
  obtain ⟨cs, h1, h2⟩ := h
  exact ⟨cs, h1, fun j hj => (h2 j hj).move fun a u _ hc => by simpa using hc⟩

/-- A store into the box. -/
theorem Row25.set {B : Nat} {w : World} {kv vv : Value} {lo hi : Nat} {l : List T} (h : Row25 B w kv vv lo hi l) {box : Nat} (hb1 : lo ≤ box) (hb2 : box ≤ hi) (hbx : box < B) (p : Nat) (u : Value) : Row25 B (w.setCell ⟨box, p, none⟩ u) kv vv lo hi l := by
  obtain ⟨cs, h1, h2⟩ := h
  refine ⟨cs, ⟨h1.1, ?_⟩, fun j hj => (h2 j hj).move (Keeps.set _ _ _ _ fun hb => hb.2.2 ⟨hb1, hb2⟩)⟩
  rcases h1.2 with h3 | ⟨g, cap, cur, hv, hg, hh, r⟩
  · exact .inl h3
  · exact .inr ⟨g, cap, cur, hv, hg, (heap_setCell_other _ _ _ _ (by show g ≠ box; omega)).trans hh, r⟩

theorem OwnP.grown {w w' : World} {kv kv' vv vv' : Value} {lo hi : Nat} {t : T} {x : Value} {row : Option Nat} (h : OwnP (Off kv vv lo hi) w t x) (hg : w.grownBy w' row) (hr : row = kv.ownBlock ∨ row = vv.ownBlock)
    (h1 : Moved w kv kv') (h2 : Moved w vv vv') : OwnP (Off kv' vv' lo hi) w' t x := by
  intro w'' hw
  refine h w'' fun a u hS hc => hw a u ?_ ?_
  · have hlt := cell_lt hc
    refine ⟨?_, ?_, hS.2.2⟩
    · rcases h1 with e | ⟨g, e, hge⟩
      · rw [e]; exact hS.1
      · rw [e]; intro he; simp only [Option.some.injEq] at he; omega
    · rcases h2 with e | ⟨g, e, hge⟩
      · rw [e]; exact hS.2.1
      · rw [e]; intro he; simp only [Option.some.injEq] at he; omega
  · refine hg.cell hc ?_
    rcases hr with rfl | rfl
    · exact hS.1
    · exact hS.2.1

/-- A value more. -/
theorem Row25.push {B : Nat} {w w' : World} {kv vv vv' : Value} {lo hi : Nat} {l : List T} {t : T} {cs : List Value} {u0 u1 u2 u3 u4 : Value} (hcs : w.ownsRow B 25 5 vv l.length cs) (hel : ∀ j, (h : j < l.length) → OwnP (Off kv vv lo hi) w l[j] (five cs j))
    (hown : w'.ownsRow B 25 5 vv' (l.length + 1) (cs ++ [u0, u1, u2, u3, u4])) (hg : w.grownBy w' vv.ownBlock) (hm : Moved w vv vv') (hn : OwnP (Off kv vv lo hi) w t (.agg #[u0, u1, u2, u3, u4])) : Row25 B w' kv vv' lo hi (l ++ [t]) := by
  have hlen := hcs.1
  refine ⟨cs ++ [u0, u1, u2, u3, u4], by simpa using hown, fun j hj => ?_⟩
  by_cases e : j < l.length
  · rw [List.getElem_append_left e]
    have h5 : five (cs ++ [u0, u1, u2, u3, u4]) j = five cs j := by
      unfold five
      simp only [List.getD, List.getElem?_append]
      repeat rw [if_pos (by omega)]
    rw [h5]
    exact (hel j e).grown hg (.inr rfl) (.inl rfl) hm
  · obtain rfl : j = l.length := by simp at hj; omega
    have h5 : five (cs ++ [u0, u1, u2, u3, u4]) l.length = .agg #[u0, u1, u2, u3, u4] := by
      unfold five
      simp only [List.getD, List.getElem?_append]
      repeat rw [if_neg (by omega)]
      rw [show l.length * 5 - cs.length = 0 by omega, show l.length * 5 + 1 - cs.length = 1 by omega, show l.length * 5 + 2 - cs.length = 2 by omega, show l.length * 5 + 3 - cs.length = 3 by omega, show l.length * 5 + 4 - cs.length = 4 by omega]
      rfl
    rw [h5]
    have : (l ++ [t])[l.length] = t := by simp
    rw [this]
    exact hn.grown hg (.inr rfl) (.inl rfl) hm

/-- The other row has grown. -/
theorem Row25.keyed {B : Nat} {w w' : World} {kv kv' vv : Value} {lo hi : Nat} {l : List T} {ks : List Value} {n : Nat} (h : Row25 B w kv vv lo hi l) (hk : w.ownsRow B 3 1 kv n ks) (hg : w.grownBy w' kv.ownBlock) (hm : Moved w kv kv') : Row25 B w' kv' vv lo hi l := by
  obtain ⟨cs, h1, h2⟩ := h
  refine ⟨cs, h1.kept hg ?_, fun j hj => (h2 j hj).grown hg (.inl rfl) hm (.inl rfl)⟩
  rcases h1.2 with ⟨rfl, _⟩ | ⟨g, cap, cur, rfl, _, hh, _⟩
  · exact .inl rfl
  · rcases hk.2 with ⟨rfl, _⟩ | ⟨g', cap', cur', rfl, _, hh', _⟩
    · exact .inr (by simp [Value.ownBlock])
    · refine .inr fun e => ?_
      simp only [Value.ownBlock, Option.some.injEq] at e
      subst e
      rw [hh] at hh'
      simp at hh'

/-- The values of a row, as a list in memory. -/
theorem Row25.kids {B : Nat} {w : World} {kv vv : Value} {lo hi : Nat} {l : List T} (h : Row25 B w kv vv lo hi l) : ∃ a c, vv = .slice a l.length c ∧ KidsIn w a 0 l := by
  obtain ⟨cs, h1, h2⟩ := h
  rcases h1.2 with ⟨rfl, hn⟩ | ⟨g, cap, cur, rfl, hb, hh, r⟩
  · refine ⟨none, 0, by rw [hn], ?_⟩
    cases l with
    | nil => unfold KidsIn; trivial
    | cons t r => simp at hn
  · refine ⟨some ⟨g, 0, none⟩, cap, rfl, ?_⟩
    have hown : w.ownsRow 0 25 5 (.slice (some ⟨g, 0, none⟩) l.length cap) l.length cs := ⟨h1.1, .inr ⟨g, cap, cur, rfl, Nat.zero_le _, hh, r⟩⟩
    exact kids_of_row hown l 0 (by simp) fun j hj => by rw [Nat.zero_add]; exact (h2 j hj).rep

/-- A value of old memory lies off whatever the call made. -/
theorem OwnP.old {w0 w : World} {t : T} {v kv vv : Value} {lo hi : Nat} (h : Rep w0 t v) (hs : Same w0 w) (h1 : ∀ k, kv.ownBlock = some k → w0.heap.size ≤ k) (h2 : ∀ k, vv.ownBlock = some k → w0.heap.size ≤ k) (h3 : w0.heap.size ≤ lo) : OwnP (Off kv vv lo hi) w t v := by
  intro w'' hw
  refine Rep.keep (fun a u _ hc => hw a u ?_ (hs.cell hc)) t v h
  have hlt := cell_lt hc
  refine ⟨fun e => ?_, fun e => ?_, by omega⟩
  · have := h1 _ e.symm; omega
  · have := h2 _ e.symm; omega
/-- The same in a world that keeps all but the blocks from lo to hi. -/
theorem Row25.kids_keep {B : Nat} {w w' : World} {kv vv : Value} {lo hi : Nat} {l : List T} (h : Row25 B w kv vv lo hi l) (hB : hi < B) (hk : Keeps (fun b => ¬ (lo ≤ b ∧ b ≤ hi)) w w') : ∃ a c, vv = .slice a l.length c ∧ KidsIn w' a 0 l := by
  obtain ⟨cs, h1, h2⟩ := h
  rcases h1.2 with ⟨rfl, hn⟩ | ⟨g, cap, cur, rfl, hb, hh, r⟩
  · refine ⟨none, 0, by rw [hn], ?_⟩
    cases l with
    | nil => unfold KidsIn; trivial
    | cons t r => simp at hn
  · refine ⟨some ⟨g, 0, none⟩, cap, rfl, ?_⟩
    have hlen := h1.1
    have hgen : ∀ (l' : List T) (i : Nat), i + l'.length = l.length → (∀ j, (hj : j < l'.length) → Rep w' l'[j] (five cs (i + j))) → KidsIn w' (some ⟨g, 0, none⟩) i l' := by
      intro l'
      induction l' with
      | nil => intro i _ _; unfold KidsIn; trivial
      | cons t r ih =>
        intro i hi hr
        simp only [List.length_cons] at hi
        have hc : ∀ j, j < 5 → w'.cell? ⟨g, 0 + i * 5 + j, none⟩ = some (cs.getD (i * 5 + j) (.bool false)) := fun j hj => by
          refine hk _ _ (by show ¬ (lo ≤ g ∧ g ≤ _); omega) ?_
          rw [Nat.zero_add, h1.cellAt _ (by omega)]
          simp [List.getD, List.getElem?_eq_getElem (show i * 5 + j < cs.length by omega)]
        unfold KidsIn
        refine ⟨⟨g, 0, _, _, _, _, _, rfl, hc 0 (by omega), hc 1 (by omega), hc 2 (by omega), hc 3 (by omega), hc 4 (by omega), ?_⟩, ih (i + 1) (by omega) fun j hj => ?_⟩
        · have := hr 0 (by simp)
          simpa [five] using this
        · have := hr (j + 1) (by simpa using hj)
          rw [show i + 1 + j = i + (j + 1) by omega]
          simpa using this
    exact hgen l 0 (by omega) fun j hj => by rw [Nat.zero_add]; exact h2 j hj w' (hk.weaken fun b hb => hb.2.2)
end Go.Proofs.YtfbeeaibejggdaaDoor
