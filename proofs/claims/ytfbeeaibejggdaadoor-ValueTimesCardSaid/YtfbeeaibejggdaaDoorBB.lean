import Derived.Test.YtfbeeaibejggdaaDoorBA
import Derived.Test.YtfbeeaibejggdaaDoorShelf
namespace Go.Proofs.YtfbeeaibejggdaaDoor
open Go.RowKit Go.Sort

theorem below_ahead {B : Nat} {a w : World} (h : Below B a w) (n : Nat) : Below B a (Sort.ahead w n) := ⟨h.os, h.tape, h.output, h.size, h.block⟩
theorem below_grow {B : Nat} {a w : World} (h : Below B a w) (hB : B ≤ w.heap.size) (os : Array Obj) : Below B a (grow w os) :=
  ⟨h.os, h.tape, h.output, by rw [size_grow]; have := h.size; omega, fun k hk => (heap_grow_old w os (by omega)).trans (h.block k hk)⟩
theorem below_putRow {α : Type} [Inhabited α] {B : Nat} {a w : World} (h : Below B a w) (enc : α → Value) {blk : Nat} (hb : B ≤ blk) (off : Nat) (d : Array α) : Below B a (putRow enc w blk off d) :=
  ⟨h.os, h.tape, h.output, by rw [size_putRow]; exact h.size, fun k hk => by
    rw [← h.block k hk]
    show (w.heap.modify blk _)[k]? = _
    rw [Array.getElem?_modify, if_neg (by omega)]⟩

/-! ### Sorted numbers without neighbours alike are all different. -/
def sorted (zs : List Int) : List Int := zs.mergeSort fun x y => decide (x ≤ y)
theorem sorted_pw (zs : List Int) : (sorted zs).Pairwise (· ≤ ·) := by
  have := List.pairwise_mergeSort (le := fun x y : Int => decide (x ≤ y)) (by intro a b c; simp; omega) (by intro a b; simp; omega) zs
  simpa [sorted] using this
theorem sorted_perm (zs : List Int) : (sorted zs).Perm zs := List.mergeSort_perm _ _
theorem sorted_len (zs : List Int) : (sorted zs).length = zs.length := (sorted_perm zs).length_eq

theorem compact_len_iff (zs : List Int) : (Lib.compact zs).length = zs.length ↔ ∀ j, j < zs.length → Lib.keeps zs.toArray j = true := by
  constructor
  · intro h j hj
    unfold Lib.compact Lib.compactUpTo at h
    rw [List.length_map] at h
    have h2 : ((List.range zs.length).filter (Lib.keeps zs.toArray)).length = (List.range zs.length).length := by rw [h, List.length_range]
    exact (List.length_filter_eq_length_iff.1 h2) j (List.mem_range.2 hj)
  · intro h; rw [Lib.compact_all zs h]

theorem nodup_iff (zs : List Int) (hs : zs.Pairwise (· ≤ ·)) : (∀ j, j < zs.length → Lib.keeps zs.toArray j = true) ↔ zs.Nodup := by
  have hget : ∀ j, j < zs.length → zs.toArray[j]! = zs.getD j 0 := fun j hj => by
    rw [getElem!_pos _ j (by simpa using hj)]; simp [hj]
  constructor
  · intro h
    rw [List.nodup_iff_pairwise_ne, List.pairwise_iff_getElem]
    intro i j hi hj hij heq
    have hk := h (i + 1) (by omega)
    unfold Lib.keeps at hk
    rw [decide_eq_true_iff, hget _ (by omega), Nat.add_sub_cancel, hget i hi] at hk
    have h1 : zs[i] ≤ zs[i + 1] := List.pairwise_iff_getElem.1 hs i (i + 1) hi (by omega) (by omega)
    have h2 : zs[i + 1] ≤ zs[j] := by
      by_cases e : i + 1 = j
      · subst e; exact Int.le_refl _
      · exact List.pairwise_iff_getElem.1 hs (i + 1) j (by omega) hj (by omega)
    rcases hk with hk | hk
    · omega
    · simp [hi, show i + 1 < zs.length by omega] at hk; omega
  · intro h j hj
    unfold Lib.keeps
    rw [decide_eq_true_iff]
    by_cases e : j = 0
    · exact .inl e
    · right
      rw [hget j hj, hget (j - 1) (by omega)]
      rw [List.nodup_iff_pairwise_ne, List.pairwise_iff_getElem] at h
      have := h (j - 1) j (by omega) hj (by omega)
      simp [hj, show j - 1 < zs.length by omega]
      exact fun h => this h.symm

theorem compact_sorted (zs : List Int) : (((Lib.compact (sorted zs)).length : Int) == (zs.length : Int)) = decide zs.Nodup := by
  have h1 := compact_len_iff (sorted zs)
  rw [nodup_iff _ (sorted_pw zs), (sorted_perm zs).nodup_iff, sorted_len] at h1
  by_cases h : zs.Nodup
  · rw [h1.2 h]; simp [h]
  · have : (Lib.compact (sorted zs)).length ≠ zs.length := fun e => h (h1.1 e)
    simp only [h, decide_false]
    rw [beq_eq_false_iff_ne]; omega

set_option maxHeartbeats 1000000 in
theorem allDifferent_any (b off c : Nat) (zs : List Int) (w : World) (hz0 : 0 < zs.length) (hz1 : zs.length ≤ 1000000) (hc : ∀ j, j < zs.length → w.cell? ⟨b, off + j, none⟩ = some (.int .i64 (zs.getD j 0))) :
    Calls Tryd.prog 108 #[.slice (some ⟨b, off, none⟩) zs.length c] w fun e w' => e = .returned (.bool (decide zs.Nodup)) ∧ Below w.heap.size w w' := by
  have hz1' : (zs.length : Int) ≤ 1000000 := by omega
  have hcl := Tryd.slices_Clone_int b off zs.length c zs w (Nat.le_refl _) (by omega) hc
  have hcl2 : Calls Tryd.prog 86 #[.slice (some ⟨b, off, none⟩) zs.length c] w fun e w' => ∃ g cap, e = .returned (.slice (some ⟨g, 0, none⟩) zs.length cap) ∧ (w.heap.size ≤ g ∧ g < w'.heap.size ∧ zs.length ≤ cap ∧ Holds (Value.int .i64) w' g 0 zs.toArray) ∧ Below w.heap.size w w' := by
    refine hcl.mono fun e w' => ?_
    rintro ⟨v', rfl, hown, _, hb⟩
    obtain ⟨g, cap, rfl, h1, _⟩ := own_shape hown hz0
    refine ⟨g, cap, rfl, ⟨(hown.lt g rfl).1, (hown.lt g rfl).2, h1, ?_⟩, hb⟩
    intro j hj
    have hj' : j < zs.length := by simpa using hj
    rw [Nat.zero_add]
    refine ⟨?_, hown.frozenAt j⟩
    rw [hown.cellAt j (by omega)]
    rw [List.take_length]
    simp [hj', getElem!_pos]
  have key := compact_sorted zs
  have Hkey := Lib.hid key
  clear key hcl
  go_enter Tryd.func108, Tryd.ntmps108
  go_wp2_with (go_at_call 86; refine hcl2.mono ?_; rintro e w1 ⟨g, cap, rfl, hH, hb1⟩)
  obtain ⟨h1, h2, h3, h4⟩ := hH
  have hsort : Calls Tryd.prog 114 #[.slice (some ⟨g, 0, none⟩) zs.length cap] w1 fun e w' => e = .returned (.tuple #[]) ∧ (g < w'.heap.size ∧ Holds (Value.int .i64) w' g 0 (sorted zs).toArray) ∧ Below w.heap.size w w' := by
    refine (Tryd.slices_Sort_int g 0 cap zs w1 h4 h2 (by omega)).mono fun e w' => ?_
    rintro ⟨rfl, n, os, rfl⟩
    have hs : (sorted zs).toArray.size = zs.toArray.size := by simp [sorted_len]
    have hp : Holds (Value.int .i64) (putRow (Value.int .i64) (Sort.ahead w1 n) g 0 (sorted zs).toArray) g 0 (sorted zs).toArray := holds_putRow _ _ _ _ _ _ (holds_ahead _ _ n _ _ _ h4) hs
    refine ⟨rfl, ⟨by rw [size_grow, size_putRow]; show g < w1.heap.size + _; omega, holds_grow _ _ _ _ _ _ (by rw [size_putRow]; exact h2) hp⟩, ?_⟩
    exact below_grow (below_putRow (below_ahead hb1 n) _ h1 _ _) (by rw [size_putRow]; show _ ≤ w1.heap.size; exact hb1.size) _
  go_wp2_with (go_at_call 114; refine hsort.mono ?_; rintro e w2 ⟨rfl, hH2, hb2⟩)
  obtain ⟨h5, h6⟩ := hH2
  have hcomp : Calls Tryd.prog 115 #[.slice (some ⟨g, 0, none⟩) zs.length cap] w2 fun e w' => e = .returned (.slice (some ⟨g, 0, none⟩) (Lib.compact (sorted zs)).length cap) ∧ Below w.heap.size w w' := by
    have := Tryd.slices_Compact_int g 0 cap (sorted zs) w2 h6 (by rw [sorted_len]; omega) (by rw [sorted_len]; exact h3)
    rw [sorted_len] at this
    refine this.mono fun e w' => ?_
    rintro ⟨rfl, q, rfl⟩
    exact ⟨rfl, below_putRow (below_ahead hb2 q) _ h1 _ _⟩
  go_wp2_with (go_at_call 115; refine hcomp.mono ?_; rintro e w3 ⟨rfl, hb3⟩)
  go_ret
  exact ⟨ret_bool Hkey.out, hb3⟩
end Go.Proofs.YtfbeeaibejggdaaDoor
namespace Go.Proofs.YtfbeeaibejggdaaDoor
open Go.RowKit

theorem Tryd.info3 : (Tryd.prog.info? 3).map (fun i => (i.zero, i.size, i.bytes)) = some (some (.int .i64 0), 1, 8) := by kernel_rfl

def choiceB (how : Int) (l : List T) : Bool :=
  (l.all fun t => decide (t.kind = 3)) && !(l.length == 0) &&
    (if how = 1 then l.length == 1 else if how = 2 then enumB (nAt l) l.length
     else if how = 3 then l.length == 3 && decide (nAt l 1 ≤ nAt l 0) && decide (nAt l 0 ≤ nAt l 2)
     else if how = 4 then l.length == 4 && decide (nAt l 1 ≤ nAt l 0) && decide (nAt l 0 ≤ nAt l 2) && decide (0 < nAt l 3) && stepB (nAt l 0) (nAt l 1) (nAt l 3) else false)

theorem choice_bad {l : List T} {j : Nat} (hj : j < l.length) (h : l[j].kind ≠ 3) (how : Int) : choiceB how l = false := by
  unfold choiceB
  have : (l.all fun t => decide (t.kind = 3)) = false := by rw [List.all_eq_false]; exact ⟨l[j], List.getElem_mem hj, by simp [h]⟩
  rw [this]; simp

def ints (l : List T) : List Int := l.map T.n
theorem ints_len (l : List T) : (ints l).length = l.length := by simp [ints]

theorem tail_get (l : List T) (j : Nat) (h : j < (ints l).tail.length) : (ints l).tail.getD j 0 = nAt l (j + 1) := by
  unfold nAt ints at *
  cases l with
  | nil => simp at h
  | cons t r => simp

theorem enum_eq (l : List T) (d : Int) (hd : nAt l 0 = d) : ((ints l).tail.contains d && decide (ints l).tail.Nodup) = enumB (nAt l) l.length := by
  have hl : (ints l).tail.length = l.length - 1 := by simp [ints]
  have h1 : (ints l).tail.contains d = ((List.range l.length).any fun i => !(i == 0) && nAt l i == nAt l 0) := by
    rw [Bool.eq_iff_iff, List.contains_iff_mem, List.mem_iff_getElem]
    simp only [List.any_eq_true, List.mem_range]
    constructor
    · rintro ⟨j, hj, he⟩
      refine ⟨j + 1, by omega, ?_⟩
      have := tail_get l j hj
      simp only [List.getD, List.getElem?_eq_getElem hj, Option.getD_some] at this
      rw [← this, he, hd]; simp
    · rintro ⟨i, hi, he⟩
      simp only [Bool.and_eq_true, Bool.not_eq_true', beq_eq_false_iff_ne, beq_iff_eq] at he
      have hj : i - 1 < (ints l).tail.length := by omega
      refine ⟨i - 1, hj, ?_⟩
      have := tail_get l (i - 1) hj
      simp only [List.getD, List.getElem?_eq_getElem hj, Option.getD_some] at this
      rw [this, show i - 1 + 1 = i by omega, he.2, hd]
  have h2 : decide (ints l).tail.Nodup = ((List.range l.length).all fun k => k == 0 || distinctAt (nAt l) k) := by
    rw [Bool.eq_iff_iff, decide_eq_true_iff, List.nodup_iff_pairwise_ne, List.pairwise_iff_getElem]
    simp only [List.all_eq_true, List.mem_range, distinctAt, Bool.or_eq_true, beq_iff_eq, Bool.not_eq_true', beq_eq_false_iff_ne]
    constructor
    · intro h k hk
      by_cases e : k = 0
      · exact .inl e
      · right
        intro j hj
        by_cases e2 : j = 0
        · exact .inl e2
        · right
          have ha : j - 1 < (ints l).tail.length := by omega
          have hb : k - 1 < (ints l).tail.length := by omega
          have := h (j - 1) (k - 1) ha hb (by omega)
          have g1 := tail_get l (j - 1) ha
          have g2 := tail_get l (k - 1) hb
          simp only [List.getD, List.getElem?_eq_getElem ha, Option.getD_some] at g1
          simp only [List.getD, List.getElem?_eq_getElem hb, Option.getD_some] at g2
          rw [g1, g2, show j - 1 + 1 = j by omega, show k - 1 + 1 = k by omega] at this
          exact this
    · intro h i j hi hj hij
      have g1 := tail_get l i hi
      have g2 := tail_get l j hj
      simp only [List.getD, List.getElem?_eq_getElem hi, Option.getD_some] at g1
      simp only [List.getD, List.getElem?_eq_getElem hj, Option.getD_some] at g2
      rw [g1, g2]
      rcases h (j + 1) (by omega) with h | h
      · omega
      · rcases h (i + 1) (by omega) with h | h
        · omega
        · exact h
  rw [h1, h2]; rfl

set_option maxHeartbeats 2000000 in
set_option maxRecDepth 100000 in
theorem choiceSound_any (t : T) (v : Value) (w : World) (hr : Rep w t v) (hlen : t.kids.length ≤ 100000) :
    Calls Tryd.prog 94 #[v] w fun e w' => e = .returned (.bool (choiceB t.n t.kids)) ∧ Below w.heap.size w w' := by
  obtain ⟨i0, hi, hz0, hz1, hz2⟩ := info_parts Tryd.info3
  obtain ⟨kd, n, s, keys, kids⟩ := t
  simp only [T.n, T.kids] at hlen ⊢
  obtain ⟨ka, va, kc, vc, rfl, _, _, hs, hkl, hvl, hkeys, hkids⟩ := rep_mk hr
  go_enter Tryd.func94, Tryd.ntmps94
  go_wp2_with fail
  go_loopw [3, 11] (fun x i wr => ∃ k : Nat, i = .int .i64 k ∧ k ≤ kids.length ∧ wr.ownsRow (w.heap.size + 1) 3 1 x k (((ints kids).take k).map (Value.int .i64)) ∧ (∀ j, (h : j < kids.length) → j < k → kids[j].kind = 3) ∧ Below (w.heap.size + 1) (w.alloc (.cells #[.int .i64 kd, .int .i64 n, .string s, .slice ka keys.length kc, .slice va kids.length vc] 25)) wr) (fun _ i _ => kids.length - (intOf i).toNat)
  case atStart => exact ⟨0, rfl, Nat.zero_le _, World.ownsRow_nil _ _ _ _, fun _ _ h => absurd h (Nat.not_lt_zero _), Below.refl _ _⟩
  case round =>
    obtain ⟨k, rfl, hk, hown, hok, hb⟩ := hrel
    have Hok := Lib.hid hok
    clear hok
    obtain ⟨x0, x1, x2, x3, x4⟩ := box_at hb
    have hsz := hb.size
    simp only [World.size_alloc] at hsz
    by_cases hlt : k < kids.length
    · obtain ⟨b, off, ka', kc', va', vc', s', keys', kids', kq, n', rfl, hlk, g0, g1, g2, g3, g4, _⟩ := kid_full (KidsIn.mono (Same.of_box hb) _ _ _ hkids) k hlt
      have Hlk := Lib.hid hlk
      clear hlk
      by_cases h3 : kq = 3
      · subst h3
        go_wp2_with (at_builtin; refine wpList_append_own _ rfl _ _ 22 rfl (w.heap.size + 1) 3 i0 (.int .i64 0) 1 8 Tryd.underlying22 hi hz0 hz1 hz2 rfl (by decide) _ _ _ rfl ((hown.alloc _).alloc _) ⟨wr.heap.size + 1, 0, none⟩ 1 1 [.int .i64 n'] rfl rfl ?c1 ?c2 ?c3 ?c4 ?c5 ?_)
        case c1 =>
          intro j u hj
          match j, hj with
          | 0, hj => simp at hj; subst hj; simp [Addr.add]
        case c2 => intro u hu; simp at hu; subst hu; rfl
        case c3 => unfold maxLen; omega
        case c4 => omega
        case c5 => simp; omega
        intro v' w1 hown' hgrow _
        have hb' : Below (w.heap.size + 1) (w.alloc (.cells #[.int .i64 kd, .int .i64 n, .string s, .slice ka keys.length kc, .slice (some ⟨b, off, none⟩) kids.length vc] 25)) w1 := ((hb.alloc (by omega) _).alloc (by simp; omega) _).grown hgrow (by simp; omega) (fun q hq => (hown.lt q hq).1)
        have Hown := Lib.hid hown'
        clear hown' hgrow hown hb
        go_wp2_with fail
        go_roundw
        case rel =>
          refine ⟨k + 1, by go_num, by omega, ?_, fun j hj hj' => ?_, hb'⟩
          · have : (ints kids).take (k + 1) = (ints kids).take k ++ [n'] := by
              rw [take_next _ k (by rw [ints_len]; exact hlt)]
              simp [ints, Hlk.out, T.n]
            rw [this, List.map_append, List.map_take]; exact Hown.out
          · by_cases e : j = k
            · subst e; rw [Hlk.out]; rfl
            · exact Hok.out j hj (by omega)
        case measure => simp [intOf]; omega
      · have h3' : (kq == 3) = false := by simp [h3]
        have H3 := Lib.hid h3
        clear h3
        go_wp2_with fail
        go_ret
        refine ⟨ret_bool (choice_bad hlt ?_ n).symm, box_out (hb.alloc (by omega) _)⟩
        rw [Hlk.out]; exact H3.out
    · obtain rfl : k = kids.length := by omega
      have hall : Hid ((kids.all fun t => decide (t.kind = 3)) = true) := Lib.hid (by
        rw [List.all_eq_true]; intro t ht; obtain ⟨j, hj, rfl⟩ := List.getElem_of_mem ht; simp [Hok.out j hj (by omega)])
      have hbo := box_out hb
      clear Hok hlt hk
      by_cases h0 : kids.length = 0
      · rcases hown.2 with ⟨rfl, _⟩ | ⟨g, cap, cur, rfl, _⟩
        all_goals
          clear hown
          go_wp2_with fail
          go_ret
          refine ⟨ret_bool ?_, hbo⟩
          simp [choiceB, h0]
      obtain ⟨g, cap, rfl, hcap, hcap2⟩ := own_shape hown (by omega)
      have hcell : ∀ j, j < kids.length → wr.cell? ⟨g, j, none⟩ = some (.int .i64 (nAt kids j)) := fun j hj => by
        rw [hown.cellAt j (by omega), List.take_of_length_le (by rw [ints_len]; omega)]
        simp [ints, nAt, hj]
      have Hcell := Lib.hid hcell
      clear hcell hown
      obtain ⟨d, hd⟩ : ∃ d, nAt kids 0 = d := ⟨_, rfl⟩
      have c0 := Hcell.out 0 (by omega)
      rw [hd] at c0
      have Hd := Lib.hid hd
      clear hd
      have w0 : (0 : Int) < (kids.length : Int) := by omega
      have w1 : (1 : Int) ≤ (kids.length : Int) := by omega
      have w2 : (kids.length : Int) ≤ (cap : Int) := by omega
      have h0' : ((kids.length : Int) == 0) = false := by rw [beq_eq_false_iff_ne]; omega
      have HB : Hid (choiceB n kids = (if n = 1 then kids.length == 1 else if n = 2 then enumB (nAt kids) kids.length
        else if n = 3 then kids.length == 3 && decide (nAt kids 1 ≤ nAt kids 0) && decide (nAt kids 0 ≤ nAt kids 2)
        else if n = 4 then kids.length == 4 && decide (nAt kids 1 ≤ nAt kids 0) && decide (nAt kids 0 ≤ nAt kids 2) && decide (0 < nAt kids 3) && stepB (nAt kids 0) (nAt kids 1) (nAt kids 3) else false)) := Lib.hid (by
        unfold choiceB; rw [hall.out]; simp [h0])
      clear h0 hall
      by_cases hl1 : kids.length = 1
      · have hR : Hid (choiceB n kids = decide (n = 1)) := Lib.hid (by
          have h1 : ¬ kids.length = 3 := by omega
          have h2 : ¬ kids.length = 4 := by omega
          rw [HB.out, hl1]
          have he : enumB (nAt kids) 1 = false := by
            unfold enumB; simp
          rw [he]
          by_cases e : n = 1 <;> simp [e])
        have hlz : kids.length - 1 = 0 := by omega
        have hcon : ∀ a q w, Calls Tryd.prog 107 #[.slice a (kids.length - 1) q, .int .i64 d] w fun e w' => e = .returned (.bool false) ∧ w' = w := fun a q w => by
          rw [hlz]; exact Tryd.slices_Contains_int_empty a q d w
        have q0 : (((kids.length - 1 : Nat) : Int) == 0) = true := by rw [hlz]; rfl
        have q2 : (((kids.length - 1 : Nat) : Int) == 2) = false := by rw [hlz]; rfl
        have q3 : (((kids.length - 1 : Nat) : Int) == 3) = false := by rw [hlz]; rfl
        clear HB hlz
        by_cases hcap1 : cap = 1
        · subst hcap1
          have w3 : ¬ 1 < (1 : Nat) := by omega
          clear hl1
          go_wp2_with fail
          go_quiet (fail)
          go_wp2_with fail
          · rename ((n == 1) = true) => e1
            go_ret
            exact ⟨ret_bool (by rw [hR.out, eq_of_beq e1]; rfl), below_drewN hbo _⟩
          · rename ((n == 2) = true) => e1
            go_wp2_with (go_at_call 107; refine (Tryd.slices_Contains_int_empty _ _ d _).mono ?_; rintro e w1 ⟨rfl, rfl⟩)
            go_ret
            exact ⟨ret_bool (by rw [hR.out, eq_of_beq e1]; rfl), below_drewN hbo _⟩
          · rename ((n == 3) = true) => e1
            go_ret
            exact ⟨ret_bool (by rw [hR.out, eq_of_beq e1]; rfl), below_drewN hbo _⟩
          · rename ((n == 4) = true) => e1
            go_quiet (fail)
            go_wp2_with fail
            go_ret
            exact ⟨ret_bool (by rw [hR.out, eq_of_beq e1]; rfl), below_drewN (below_drewN hbo _) _⟩
          · rename ((n == 1) = false) => e1
            go_ret
            exact ⟨ret_bool (by rw [hR.out]; simp at e1; simp [e1]), below_drewN hbo _⟩
        · have hcap3 : 1 < cap := by omega
          clear hl1
          go_wp2_with fail
          go_quiet (fail)
          go_wp2_with fail
          · rename ((n == 1) = true) => e1
            go_ret
            exact ⟨ret_bool (by rw [hR.out, eq_of_beq e1]; rfl), below_drewN hbo _⟩
          · rename ((n == 2) = true) => e1
            go_wp2_with (go_at_call 107; refine (hcon _ _ _).mono ?_; rintro e w1 ⟨rfl, rfl⟩)
            go_ret
            exact ⟨ret_bool (by rw [hR.out, eq_of_beq e1]; rfl), below_drewN hbo _⟩
          · rename ((n == 3) = true) => e1
            go_ret
            exact ⟨ret_bool (by rw [hR.out, eq_of_beq e1]; rfl), below_drewN hbo _⟩
          · rename ((n == 4) = true) => e1
            go_quiet (fail)
            go_wp2_with fail
            go_ret
            exact ⟨ret_bool (by rw [hR.out, eq_of_beq e1]; rfl), below_drewN (below_drewN hbo _) _⟩
          · rename ((n == 1) = false) => e1
            go_ret
            exact ⟨ret_bool (by rw [hR.out]; simp at e1; simp [e1]), below_drewN hbo _⟩
      · have hc2 : 1 < cap := by omega
        go_wp2_with fail
        go_quiet (fail)
        go_wp2_with fail
        · rename ((n == 1) = true) => e1
          go_ret
          refine ⟨ret_bool ?_, below_drewN hbo _⟩
          rw [HB.out, eq_of_beq e1]
          have q1 : (kids.length == 1) = false := by rw [beq_eq_false_iff_ne]; exact hl1
          simp [q1]
          omega
        · rename ((n == 2) = true) => e2
          have hzl : (ints kids).tail.length = kids.length - 1 := by simp [ints]
          have hcc : ∀ q, ∀ j, j < (ints kids).tail.length → (wr.drewN q).cell? ⟨g, 1 + j, none⟩ = some (.int .i64 ((ints kids).tail.getD j 0)) := fun q j hj => by
            rw [tail_get kids j hj, show 1 + j = j + 1 by omega]
            have := Hcell.out (j + 1) (by omega)
            simpa using this
          have hcon := fun q => Tryd.slices_Contains_int g 1 (kids.length - 1) (cap - 1) (ints kids).tail d (wr.drewN q) (by omega) (by omega) (hcc q)
          rw [← hzl, List.take_length, hzl] at hcon
          have hall := fun q => allDifferent_any g 1 (cap - 1) (ints kids).tail (wr.drewN q) (by omega) (by omega) (hcc q)
          rw [hzl] at hall
          have HE := Lib.hid (enum_eq kids d Hd.out)
          obtain ⟨cb, hcb⟩ : ∃ cb, (ints kids).tail.contains d = cb := ⟨_, rfl⟩
          rw [hcb] at hcon HE
          clear hcb hcc hzl
          go_wp2_with (first | (go_at_call 107; refine (hcon _).mono ?_; rintro e w1 ⟨rfl, rfl⟩) | (go_at_call 108; refine (hall _).mono ?_; rintro e w2 ⟨rfl, hb2⟩))
          all_goals
            go_ret
            refine ⟨ret_bool ?_, by first | exact (below_drewN hbo _).trans (hb2.mono (by have := hbo.size; simp; omega)) | exact below_drewN hbo _⟩
            rw [HB.out, eq_of_beq e2]
            simp only [Int.reduceEq, if_true, if_false, ← HE.out]
            simp_all
        · rename ((n == 3) = true) => e3
          rename (((kids.length - 1 : Nat) : Int) = 2) => hl3
          have hl3' : kids.length = 3 := by omega
          have hcc : ∀ q, ∀ j, j < kids.length → (wr.drewN q).cell? ⟨g, j, none⟩ = some (.int .i64 (nAt kids j)) := fun q j hj => by
            have := Hcell.out j hj
            simpa using this
          have hin := fun q => inRange_any d (nAt kids 1) (nAt kids 2) g 1 (kids.length - 1) (cap - 1) (wr.drewN q) (by omega) (hcc q 1 (by omega)) (hcc q 2 (by omega))
          obtain ⟨rb, hrb⟩ : ∃ rb, (decide (nAt kids 1 ≤ d) && decide (d ≤ nAt kids 2)) = rb := ⟨_, rfl⟩
          rw [hrb] at hin
          have Hl := Lib.hid (And.intro hl3' hrb)
          clear hl3 hl3' hcc hrb
          go_wp2_with (go_at_call 109; refine (hin _).mono ?_; rintro e w1 ⟨rfl, rfl⟩)
          go_ret
          refine ⟨ret_bool ?_, below_drewN hbo _⟩
          rw [HB.out, eq_of_beq e3, Hd.out, Hl.out.1, ← Hl.out.2]
          simp
        · rename ((n == 3) = true) => e3
          go_ret
          refine ⟨ret_bool ?_, below_drewN hbo _⟩
          rw [HB.out, eq_of_beq e3]
          have q1 : (kids.length == 3) = false := by rw [beq_eq_false_iff_ne]; intro h; omega
          simp [q1]
        · rename ((n == 4) = true) => e4
          by_cases hl4 : kids.length = 4
          · have hq3 : kids.length - 1 = 3 := by omega
            generalize hwd : wr.drewN nq = wd
            have hbd : Below w.heap.size w wd := by rw [← hwd]; exact below_drewN hbo _
            have hcc : ∀ q, ∀ j, j < kids.length → (wd.drewN q).cell? ⟨g, j, none⟩ = some (.int .i64 (nAt kids j)) := fun q j hj => by
              have := Hcell.out j hj
              rw [← hwd]
              simpa using this
            have r1 : wd.cell? ⟨g, 1, none⟩ = some (.int .i64 (nAt kids 1)) := by simpa using hcc 0 1 (by omega)
            have r3 : wd.cell? ⟨g, 3, none⟩ = some (.int .i64 (nAt kids 3)) := by simpa using hcc 0 3 (by omega)
            obtain ⟨m, hm⟩ : ∃ m, nAt kids 1 = m := ⟨_, rfl⟩
            obtain ⟨m', hm'⟩ : ∃ m', nAt kids 2 = m' := ⟨_, rfl⟩
            obtain ⟨st, hst⟩ : ∃ st, nAt kids 3 = st := ⟨_, rfl⟩
            have hin : ∀ q, Calls Tryd.prog 109 #[.int .i64 d, .slice (some ⟨g, 1, none⟩) 3 (cap - 1)] (wd.drewN q) fun e w' => e = .returned (.bool (decide (m ≤ d) && decide (d ≤ m'))) ∧ w' = wd.drewN q := fun q =>
              (inRange_any d m m' g 1 3 (cap - 1) (wd.drewN q) (by omega) (by rw [← hm]; exact hcc q 1 (by omega)) (by rw [← hm']; exact hcc q 2 (by omega))).mono fun _ _ h => ⟨h.1, h.2.symm⟩
            have hstI : I64 st := by
              obtain ⟨_, _, _, _, _, _, _, _, _, _, hl, _, _, _, _, _, _, _, hI⟩ := kid_at hkids 3 (by omega)
              rw [nAt_eq (by omega) hl] at hst; rw [← hst]; exact hI
            obtain ⟨rb, hrb⟩ : ∃ rb, (decide (m ≤ d) && decide (d ≤ m')) = rb := ⟨_, rfl⟩
            rw [hrb] at hin
            rw [hm] at r1
            rw [hst] at r3
            have hfin : choiceB n kids = (decide (0 < st) && rb && stepB d m st) := by
              rw [HB.out, eq_of_beq e4, Hd.out, hm, hm', hst, hl4, ← hrb]
              simp
              cases decide (m ≤ d) <;> cases decide (d ≤ m') <;> cases decide (0 < st) <;> simp
            have Hfin := Lib.hid hfin
            have z3 : (2 : Int) < ((3 : Nat) : Int) := by omega
            have z4 : (0 : Int) < ((3 : Nat) : Int) := by omega
            rw [hq3]
            clear hfin hm hm' hst hrb hcc hwd hq3 hl4 e4 hl1 w0 w1 w2
            unfold I64 at hstI
            by_cases t3 : 0 < st
            · have t3' : decide (0 < st) = true := by simp [t3]
              have hon := fun q => (onStep_any d m st (wd.drewN q) t3 hstI.2).mono fun _ _ (h : _ ∧ _) => (⟨h.1, h.2.symm⟩ : _ ∧ _)
              cases rb with
              | true =>
                go_quiet ((first | (go_at_call 109; exact Calls.quiet_of_same (hin _)) | (go_at_call 110; exact Calls.quiet_of_same (hon _))))
                go_wp2_with fail
                go_ret
                exact ⟨ret_bool (by rw [Hfin.out, t3']; simp), below_drewN hbd _⟩
              | false =>
                go_quiet ((first | (go_at_call 109; exact Calls.quiet_of_same (hin _)) | (go_at_call 110; exact Calls.quiet_of_same (hon _))))
                go_wp2_with fail
                go_ret
                exact ⟨ret_bool (by rw [Hfin.out, t3']; simp), below_drewN hbd _⟩
            · have t3' : decide (0 < st) = false := by simp; omega
              clear t3
              go_quiet (fail)
              go_wp2_with fail
              go_ret
              exact ⟨ret_bool (by rw [Hfin.out, t3']; simp), below_drewN hbd _⟩
          · have q1 : (((kids.length - 1 : Nat) : Int) == 3) = false := by rw [beq_eq_false_iff_ne]; omega
            go_quiet (fail)
            go_wp2_with fail
            go_ret
            refine ⟨ret_bool ?_, below_drewN (below_drewN hbo _) _⟩
            rw [HB.out, eq_of_beq e4]
            have q1 : (kids.length == 4) = false := by rw [beq_eq_false_iff_ne]; exact hl4
            simp [q1]
        · rename ((n == 1) = false) => e1
          rename ((n == 2) = false) => e2
          rename ((n == 3) = false) => e3
          rename ((n == 4) = false) => e4
          go_ret
          refine ⟨ret_bool ?_, below_drewN hbo _⟩
          rw [beq_eq_false_iff_ne] at e1 e2 e3 e4
          rw [HB.out, if_neg e1, if_neg e2, if_neg e3, if_neg e4]
end Go.Proofs.YtfbeeaibejggdaaDoor
namespace Go.Proofs.YtfbeeaibejggdaaDoor
open Go.RowKit

def flagsB (t : T) : Bool := bareB t (hasRow t.kind.toNat).1 (hasRow t.kind.toNat).2.1 (hasRow t.kind.toNat).2.2.1 (hasRow t.kind.toNat).2.2.2
def extraB (t : T) : Bool :=
  if t.kind = 2 then decide (t.n = 0) || decide (t.n = 1) else if t.kind = 4 then noZero t.s else if t.kind = 6 then listOk t.kids else if t.kind = 8 then objectB t
  else if t.kind = 9 then choiceB t.n t.kids else if t.kind = 10 then sequenceB t else true
def soundB (t : T) : Bool := decide (1 ≤ t.kind) && decide (t.kind ≤ 10) && flagsB t && extraB t

theorem noZero_index (s : ByteArray) : decide (Lib.indexByte s.data.toList 0 < 0) = noZero s := by
  have hge := Lib.indexByte_ge s.data.toList 0
  by_cases h : Lib.indexByte s.data.toList 0 < 0
  · have h1 : Lib.indexByte s.data.toList 0 = -1 := by omega
    have h2 := Lib.indexByte_none h1
    rw [decide_eq_true h]
    refine (all_yes fun j hj => ?_).symm
    have h3 := h2 j
    have hj' : j < s.data.size := hj
    rw [Array.getElem?_toList, Array.getElem?_eq_getElem hj'] at h3
    have h4 : s.data.getD j 0 = s.data[j] := by rw [str_at hj]; rfl
    rw [h4]
    simp only [Bool.not_eq_true', beq_eq_false_iff_ne]
    intro h5
    exact h3 (congrArg some (UInt8.toNat_inj.1 (by simpa using h5)))
  · rw [decide_eq_false h]
    have h1 : Lib.indexByte s.data.toList 0 = ((Lib.indexByte s.data.toList 0).toNat : Int) := by omega
    have h2 := (Lib.indexByte_some h1).1
    have hlt : (Lib.indexByte s.data.toList 0).toNat < s.data.toList.length := by
      rcases Nat.lt_or_ge (Lib.indexByte s.data.toList 0).toNat s.data.toList.length with h | h
      · exact h
      · rw [List.getElem?_eq_none h] at h2; cases h2
    have hlt' : (Lib.indexByte s.data.toList 0).toNat < s.size := by simpa using hlt
    refine (all_no hlt' ?_).symm
    rw [List.getElem?_eq_getElem hlt] at h2
    have h4 : s.data.getD (Lib.indexByte s.data.toList 0).toNat 0 = s.data[(Lib.indexByte s.data.toList 0).toNat]'hlt' := by rw [str_at hlt']; rfl
    have h5 : s.data[(Lib.indexByte s.data.toList 0).toNat]'hlt' = 0 := by
      have := Option.some.inj h2
      simpa using this
    rw [h4, h5]; rfl

theorem kind_nat {k : Int} (h1 : 1 ≤ k) (h2 : k ≤ 10) : ∃ m : Nat, k = m ∧ 1 ≤ m ∧ m ≤ 10 := ⟨k.toNat, by omega, by omega, by omega⟩

set_option maxHeartbeats 1000000 in
theorem sound_out (t : T) (v : Value) (w : World) (hr : Rep w t v) (h : (decide (1 ≤ t.kind) && decide (t.kind ≤ 10)) = false) :
    Calls Tryd.prog 63 #[v] w fun e w' => e = .returned (.bool false) ∧ Below w.heap.size w w' := by
  have hk := kindThere_any t.kind
  rw [h] at hk
  obtain ⟨kd, n, s, keys, kids⟩ := t
  obtain ⟨ka, va, kc, vc, rfl, _⟩ := rep_mk hr
  simp only [T.kind] at hk
  clear h
  go_enter Tryd.func63, Tryd.ntmps63
  go_wp2_with (go_at_call 72; refine (hk _).mono ?_; rintro e w1 ⟨rfl, rfl⟩)
  go_ret
  exact ⟨rfl, (Below.refl _ _).alloc (Nat.le_refl _) _⟩

theorem hasMore_laid (t : T) (v : Value) (w : World) (hr : Rep w t v) (hl : HasLaid w) (h : (decide (1 ≤ t.kind) && decide (t.kind ≤ 10)) = true) :
    Calls Tryd.prog 90 #[v] w fun e w' => e = .returned (.bool (!flagsB t)) ∧ Below w.heap.size w w' := by
  simp only [Bool.and_eq_true, decide_eq_true_eq] at h
  obtain ⟨c0, c1, c2, c3⟩ := hl t.kind.toNat (by omega)
  exact hasMore_any t v w hr t.kind.toNat (by omega) (by omega) _ _ _ _ c0 c1 c2 c3

set_option maxHeartbeats 1000000 in
theorem sound_bare (t : T) (v : Value) (w : World) (hr : Rep w t v) (hl : HasLaid w) (h : (decide (1 ≤ t.kind) && decide (t.kind ≤ 10)) = true) (hf : flagsB t = false) :
    Calls Tryd.prog 63 #[v] w fun e w' => e = .returned (.bool false) ∧ Below w.heap.size w w' := by
  have hk := kindThere_any t.kind
  rw [h] at hk
  have hm := hasMore_laid t v
  obtain ⟨kd, n, s, keys, kids⟩ := t
  obtain ⟨ka, va, kc, vc, rfl, _⟩ := rep_mk hr
  have hm1 := hm _ (Rep.mono (same_alloc w (.cells #[.int .i64 kd, .int .i64 n, .string s, .slice ka keys.length kc, .slice va kids.length vc] 25)) _ _ hr) (hl.mono (same_alloc w _)) h
  rw [hf] at hm1
  simp only [T.kind] at hk
  clear h hm hf
  go_enter Tryd.func63, Tryd.ntmps63
  go_wp2_with (first | (go_at_call 72; refine (hk _).mono ?_; rintro e w1 ⟨rfl, rfl⟩) | (go_at_call 90; refine hm1.mono ?_; rintro e w1 ⟨rfl, hb1⟩))
  go_ret
  exact ⟨rfl, box_out (box_first hb1)⟩

set_option maxHeartbeats 1000000 in
theorem sound_1 (n : Int) (s : ByteArray) (keys : List Int) (kids : List T) (v : Value) (w : World) (hr : Rep w (.mk 1 n s keys kids) v) (hl : HasLaid w) (hf : flagsB (.mk 1 n s keys kids) = true) :
    Calls Tryd.prog 63 #[v] w fun e w' => e = .returned (.bool (extraB (.mk 1 n s keys kids))) ∧ Below w.heap.size w w' := by
  have hk := kindThere_any 1
  rw [show (decide ((1 : Int) ≤ 1) && decide ((1 : Int) ≤ 10)) = true from rfl] at hk
  have hm := hasMore_laid (.mk 1 n s keys kids) v
  obtain ⟨ka, va, kc, vc, rfl, _, _, hs, hkl, hvl, hkeys, hkids⟩ := rep_mk hr
  have hm1 := hm _ (Rep.mono (same_alloc w (.cells #[.int .i64 1, .int .i64 n, .string s, .slice ka keys.length kc, .slice va kids.length vc] 25)) _ _ hr) (hl.mono (same_alloc w _)) rfl
  rw [hf] at hm1
  clear hm hf
  go_enter Tryd.func63, Tryd.ntmps63
  go_wp2_with (first | (go_at_call 72; refine (hk _).mono ?_; rintro e w1 ⟨rfl, rfl⟩) | (go_at_call 90; refine hm1.mono ?_; rintro e w1 ⟨rfl, hb1⟩; have hb2 := box_first hb1; obtain ⟨x0, x1, x2, x3, x4⟩ := box_at hb2))
  go_ret
  exact ⟨ret_bool rfl, box_out hb2⟩

set_option maxHeartbeats 1000000 in
theorem sound_3 (n : Int) (s : ByteArray) (keys : List Int) (kids : List T) (v : Value) (w : World) (hr : Rep w (.mk 3 n s keys kids) v) (hl : HasLaid w) (hf : flagsB (.mk 3 n s keys kids) = true) :
    Calls Tryd.prog 63 #[v] w fun e w' => e = .returned (.bool (extraB (.mk 3 n s keys kids))) ∧ Below w.heap.size w w' := by
  have hk := kindThere_any 3
  rw [show (decide ((1 : Int) ≤ 3) && decide ((3 : Int) ≤ 10)) = true from rfl] at hk
  have hm := hasMore_laid (.mk 3 n s keys kids) v
  obtain ⟨ka, va, kc, vc, rfl, _, _, hs, hkl, hvl, hkeys, hkids⟩ := rep_mk hr
  have hm1 := hm _ (Rep.mono (same_alloc w (.cells #[.int .i64 3, .int .i64 n, .string s, .slice ka keys.length kc, .slice va kids.length vc] 25)) _ _ hr) (hl.mono (same_alloc w _)) rfl
  rw [hf] at hm1
  clear hm hf
  go_enter Tryd.func63, Tryd.ntmps63
  go_wp2_with (first | (go_at_call 72; refine (hk _).mono ?_; rintro e w1 ⟨rfl, rfl⟩) | (go_at_call 90; refine hm1.mono ?_; rintro e w1 ⟨rfl, hb1⟩; have hb2 := box_first hb1; obtain ⟨x0, x1, x2, x3, x4⟩ := box_at hb2))
  go_ret
  exact ⟨ret_bool rfl, box_out hb2⟩

set_option maxHeartbeats 1000000 in
theorem sound_5 (n : Int) (s : ByteArray) (keys : List Int) (kids : List T) (v : Value) (w : World) (hr : Rep w (.mk 5 n s keys kids) v) (hl : HasLaid w) (hf : flagsB (.mk 5 n s keys kids) = true) :
    Calls Tryd.prog 63 #[v] w fun e w' => e = .returned (.bool (extraB (.mk 5 n s keys kids))) ∧ Below w.heap.size w w' := by
  have hk := kindThere_any 5
  rw [show (decide ((1 : Int) ≤ 5) && decide ((5 : Int) ≤ 10)) = true from rfl] at hk
  have hm := hasMore_laid (.mk 5 n s keys kids) v
  obtain ⟨ka, va, kc, vc, rfl, _, _, hs, hkl, hvl, hkeys, hkids⟩ := rep_mk hr
  have hm1 := hm _ (Rep.mono (same_alloc w (.cells #[.int .i64 5, .int .i64 n, .string s, .slice ka keys.length kc, .slice va kids.length vc] 25)) _ _ hr) (hl.mono (same_alloc w _)) rfl
  rw [hf] at hm1
  clear hm hf
  go_enter Tryd.func63, Tryd.ntmps63
  go_wp2_with (first | (go_at_call 72; refine (hk _).mono ?_; rintro e w1 ⟨rfl, rfl⟩) | (go_at_call 90; refine hm1.mono ?_; rintro e w1 ⟨rfl, hb1⟩; have hb2 := box_first hb1; obtain ⟨x0, x1, x2, x3, x4⟩ := box_at hb2))
  go_ret
  exact ⟨ret_bool rfl, box_out hb2⟩

set_option maxHeartbeats 1000000 in
theorem sound_7 (n : Int) (s : ByteArray) (keys : List Int) (kids : List T) (v : Value) (w : World) (hr : Rep w (.mk 7 n s keys kids) v) (hl : HasLaid w) (hf : flagsB (.mk 7 n s keys kids) = true) :
    Calls Tryd.prog 63 #[v] w fun e w' => e = .returned (.bool (extraB (.mk 7 n s keys kids))) ∧ Below w.heap.size w w' := by
  have hk := kindThere_any 7
  rw [show (decide ((1 : Int) ≤ 7) && decide ((7 : Int) ≤ 10)) = true from rfl] at hk
  have hm := hasMore_laid (.mk 7 n s keys kids) v
  obtain ⟨ka, va, kc, vc, rfl, _, _, hs, hkl, hvl, hkeys, hkids⟩ := rep_mk hr
  have hm1 := hm _ (Rep.mono (same_alloc w (.cells #[.int .i64 7, .int .i64 n, .string s, .slice ka keys.length kc, .slice va kids.length vc] 25)) _ _ hr) (hl.mono (same_alloc w _)) rfl
  rw [hf] at hm1
  clear hm hf
  go_enter Tryd.func63, Tryd.ntmps63
  go_wp2_with (first | (go_at_call 72; refine (hk _).mono ?_; rintro e w1 ⟨rfl, rfl⟩) | (go_at_call 90; refine hm1.mono ?_; rintro e w1 ⟨rfl, hb1⟩; have hb2 := box_first hb1; obtain ⟨x0, x1, x2, x3, x4⟩ := box_at hb2))
  go_ret
  exact ⟨ret_bool rfl, box_out hb2⟩

set_option maxHeartbeats 1000000 in
theorem sound_2 (n : Int) (s : ByteArray) (keys : List Int) (kids : List T) (v : Value) (w : World) (hr : Rep w (.mk 2 n s keys kids) v) (hl : HasLaid w) (hf : flagsB (.mk 2 n s keys kids) = true) :
    Calls Tryd.prog 63 #[v] w fun e w' => e = .returned (.bool (extraB (.mk 2 n s keys kids))) ∧ Below w.heap.size w w' := by
  have hk := kindThere_any 2
  rw [show (decide ((1 : Int) ≤ 2) && decide ((2 : Int) ≤ 10)) = true from rfl] at hk
  have hm := hasMore_laid (.mk 2 n s keys kids) v
  obtain ⟨ka, va, kc, vc, rfl, _, _, hs, hkl, hvl, hkeys, hkids⟩ := rep_mk hr
  have hm1 := hm _ (Rep.mono (same_alloc w (.cells #[.int .i64 2, .int .i64 n, .string s, .slice ka keys.length kc, .slice va kids.length vc] 25)) _ _ hr) (hl.mono (same_alloc w _)) rfl
  rw [hf] at hm1
  clear hm hf
  go_enter Tryd.func63, Tryd.ntmps63
  go_wp2_with (first | (go_at_call 72; refine (hk _).mono ?_; rintro e w1 ⟨rfl, rfl⟩) | (go_at_call 90; refine hm1.mono ?_; rintro e w1 ⟨rfl, hb1⟩; have hb2 := box_first hb1; obtain ⟨x0, x1, x2, x3, x4⟩ := box_at hb2))
  all_goals
    go_ret
    refine ⟨ret_bool ?_, box_out hb2⟩
    rw [show extraB (.mk 2 n s keys kids) = (decide (n = 0) || decide (n = 1)) from rfl]
    clear x0 x1 x2 x3 x4 hr hkids hkeys
    by_cases q0 : n = 0 <;> by_cases q1 : n = 1 <;> simp_all

set_option maxHeartbeats 1000000 in
theorem sound_4 (n : Int) (s : ByteArray) (keys : List Int) (kids : List T) (v : Value) (w : World) (hr : Rep w (.mk 4 n s keys kids) v) (hl : HasLaid w) (hf : flagsB (.mk 4 n s keys kids) = true) :
    Calls Tryd.prog 63 #[v] w fun e w' => e = .returned (.bool (extraB (.mk 4 n s keys kids))) ∧ Below w.heap.size w w' := by
  have hk := kindThere_any 4
  rw [show (decide ((1 : Int) ≤ 4) && decide ((4 : Int) ≤ 10)) = true from rfl] at hk
  have hm := hasMore_laid (.mk 4 n s keys kids) v
  obtain ⟨ka, va, kc, vc, rfl, _, _, hs, hkl, hvl, hkeys, hkids⟩ := rep_mk hr
  have hm1 := hm _ (Rep.mono (same_alloc w (.cells #[.int .i64 4, .int .i64 n, .string s, .slice ka keys.length kc, .slice va kids.length vc] 25)) _ _ hr) (hl.mono (same_alloc w _)) rfl
  rw [hf] at hm1
  clear hm hf
  go_enter Tryd.func63, Tryd.ntmps63
  go_wp2_with (first | (go_at_call 72; refine (hk _).mono ?_; rintro e w1 ⟨rfl, rfl⟩) | (go_at_call 90; refine hm1.mono ?_; rintro e w1 ⟨rfl, hb1⟩; have hb2 := box_first hb1; obtain ⟨x0, x1, x2, x3, x4⟩ := box_at hb2) | (go_at_call 91; refine (Tryd.strings_IndexByte s 0 _).mono ?_; rintro e w3 ⟨rfl, rfl⟩))
  all_goals
    go_ret
    refine ⟨ret_bool ?_, box_out hb2⟩
    rw [show extraB (.mk 4 n s keys kids) = noZero s from rfl, ← noZero_index]

set_option maxHeartbeats 1000000 in
theorem sound_6 (n : Int) (s : ByteArray) (keys : List Int) (kids : List T) (v : Value) (w : World) (hr : Rep w (.mk 6 n s keys kids) v) (hl : HasLaid w) (hf : flagsB (.mk 6 n s keys kids) = true) :
    Calls Tryd.prog 63 #[v] w fun e w' => e = .returned (.bool (extraB (.mk 6 n s keys kids))) ∧ Below w.heap.size w w' := by
  have hk := kindThere_any 6
  rw [show (decide ((1 : Int) ≤ 6) && decide ((6 : Int) ≤ 10)) = true from rfl] at hk
  have hm := hasMore_laid (.mk 6 n s keys kids) v
  obtain ⟨ka, va, kc, vc, rfl, _, _, hs, hkl, hvl, hkeys, hkids⟩ := rep_mk hr
  have hm1 := hm _ (Rep.mono (same_alloc w (.cells #[.int .i64 6, .int .i64 n, .string s, .slice ka keys.length kc, .slice va kids.length vc] 25)) _ _ hr) (hl.mono (same_alloc w _)) rfl
  rw [hf] at hm1
  clear hm hf
  go_enter Tryd.func63, Tryd.ntmps63
  go_wp2_with (first | (go_at_call 72; refine (hk _).mono ?_; rintro e w1 ⟨rfl, rfl⟩) | (go_at_call 90; refine hm1.mono ?_; rintro e w1 ⟨rfl, hb1⟩; have hb2 := box_first hb1; obtain ⟨x0, x1, x2, x3, x4⟩ := box_at hb2) | (go_at_call 92; refine (listSound_any kids va vc _ hvl (KidsIn.mono (Same.of_box hb2) _ _ _ hkids)).mono ?_; rintro e w3 ⟨rfl, hb3⟩))
  go_ret
  exact ⟨ret_bool rfl, box_out (box_next hb2 hb3)⟩

set_option maxHeartbeats 1000000 in
theorem sound_8 (n : Int) (s : ByteArray) (keys : List Int) (kids : List T) (v : Value) (w : World) (hr : Rep w (.mk 8 n s keys kids) v) (hl : HasLaid w) (hf : flagsB (.mk 8 n s keys kids) = true) :
    Calls Tryd.prog 63 #[v] w fun e w' => e = .returned (.bool (extraB (.mk 8 n s keys kids))) ∧ Below w.heap.size w w' := by
  have hk := kindThere_any 8
  rw [show (decide ((1 : Int) ≤ 8) && decide ((8 : Int) ≤ 10)) = true from rfl] at hk
  have hm := hasMore_laid (.mk 8 n s keys kids) v
  obtain ⟨ka, va, kc, vc, rfl, _, _, hs, hkl, hvl, hkeys, hkids⟩ := rep_mk hr
  have hm1 := hm _ (Rep.mono (same_alloc w (.cells #[.int .i64 8, .int .i64 n, .string s, .slice ka keys.length kc, .slice va kids.length vc] 25)) _ _ hr) (hl.mono (same_alloc w _)) rfl
  rw [hf] at hm1
  clear hm hf
  go_enter Tryd.func63, Tryd.ntmps63
  go_wp2_with (first | (go_at_call 72; refine (hk _).mono ?_; rintro e w1 ⟨rfl, rfl⟩) | (go_at_call 90; refine hm1.mono ?_; rintro e w1 ⟨rfl, hb1⟩; have hb2 := box_first hb1; obtain ⟨x0, x1, x2, x3, x4⟩ := box_at hb2) | (go_at_call 93; refine (objectSound_any _ _ _ (Rep.mono (Same.of_box hb2) _ _ hr)).mono ?_; rintro e w3 ⟨rfl, hb3⟩))
  go_ret
  exact ⟨ret_bool rfl, box_out (box_next hb2 hb3)⟩

set_option maxHeartbeats 1000000 in
theorem sound_9 (n : Int) (s : ByteArray) (keys : List Int) (kids : List T) (v : Value) (w : World) (hr : Rep w (.mk 9 n s keys kids) v) (hl : HasLaid w) (hf : flagsB (.mk 9 n s keys kids) = true) (hlen : kids.length ≤ 100000) :
    Calls Tryd.prog 63 #[v] w fun e w' => e = .returned (.bool (extraB (.mk 9 n s keys kids))) ∧ Below w.heap.size w w' := by
  have hk := kindThere_any 9
  rw [show (decide ((1 : Int) ≤ 9) && decide ((9 : Int) ≤ 10)) = true from rfl] at hk
  have hm := hasMore_laid (.mk 9 n s keys kids) v
  obtain ⟨ka, va, kc, vc, rfl, _, _, hs, hkl, hvl, hkeys, hkids⟩ := rep_mk hr
  have hm1 := hm _ (Rep.mono (same_alloc w (.cells #[.int .i64 9, .int .i64 n, .string s, .slice ka keys.length kc, .slice va kids.length vc] 25)) _ _ hr) (hl.mono (same_alloc w _)) rfl
  rw [hf] at hm1
  clear hm hf
  go_enter Tryd.func63, Tryd.ntmps63
  go_wp2_with (first | (go_at_call 72; refine (hk _).mono ?_; rintro e w1 ⟨rfl, rfl⟩) | (go_at_call 90; refine hm1.mono ?_; rintro e w1 ⟨rfl, hb1⟩; have hb2 := box_first hb1; obtain ⟨x0, x1, x2, x3, x4⟩ := box_at hb2) | (go_at_call 94; refine (choiceSound_any _ _ _ (Rep.mono (Same.of_box hb2) _ _ hr) hlen).mono ?_; rintro e w3 ⟨rfl, hb3⟩))
  go_ret
  exact ⟨ret_bool rfl, box_out (box_next hb2 hb3)⟩

set_option maxHeartbeats 1000000 in
theorem sound_10 (n : Int) (s : ByteArray) (keys : List Int) (kids : List T) (v : Value) (w : World) (hr : Rep w (.mk 10 n s keys kids) v) (hl : HasLaid w) (hf : flagsB (.mk 10 n s keys kids) = true) :
    Calls Tryd.prog 63 #[v] w fun e w' => e = .returned (.bool (extraB (.mk 10 n s keys kids))) ∧ Below w.heap.size w w' := by
  have hk := kindThere_any 10
  rw [show (decide ((1 : Int) ≤ 10) && decide ((10 : Int) ≤ 10)) = true from rfl] at hk
  have hm := hasMore_laid (.mk 10 n s keys kids) v
  obtain ⟨ka, va, kc, vc, rfl, _, _, hs, hkl, hvl, hkeys, hkids⟩ := rep_mk hr
  have hm1 := hm _ (Rep.mono (same_alloc w (.cells #[.int .i64 10, .int .i64 n, .string s, .slice ka keys.length kc, .slice va kids.length vc] 25)) _ _ hr) (hl.mono (same_alloc w _)) rfl
  rw [hf] at hm1
  clear hm hf
  go_enter Tryd.func63, Tryd.ntmps63
  go_wp2_with (first | (go_at_call 72; refine (hk _).mono ?_; rintro e w1 ⟨rfl, rfl⟩) | (go_at_call 90; refine hm1.mono ?_; rintro e w1 ⟨rfl, hb1⟩; have hb2 := box_first hb1; obtain ⟨x0, x1, x2, x3, x4⟩ := box_at hb2) | (go_at_call 95; refine (sequenceSound_any _ _ _ (Rep.mono (Same.of_box hb2) _ _ hr)).mono ?_; rintro e w3 ⟨rfl, hb3⟩))
  go_ret
  exact ⟨ret_bool rfl, box_out (box_next hb2 hb3)⟩

theorem sound_any (t : T) (v : Value) (w : World) (hr : Rep w t v) (hl : HasLaid w) (hlen : t.kids.length ≤ 100000) :
    Calls Tryd.prog 63 #[v] w fun e w' => e = .returned (.bool (soundB t)) ∧ Below w.heap.size w w' := by
  cases h : (decide (1 ≤ t.kind) && decide (t.kind ≤ 10)) with
  | false =>
    rw [show soundB t = false by unfold soundB; rw [h]; simp]
    exact sound_out t v w hr h
  | true =>
    cases hf : flagsB t with
    | false =>
      rw [show soundB t = false by unfold soundB; rw [hf]; simp]
      exact sound_bare t v w hr hl h hf
    | true =>
      rw [show soundB t = extraB t by unfold soundB; rw [h, hf]; simp]
      have h' := h
      simp only [Bool.and_eq_true, decide_eq_true_eq] at h'
      clear h
      obtain ⟨kd, n, s, keys, kids⟩ := t
      simp only [T.kind] at h'
      have hcases : kd = 1 ∨ kd = 2 ∨ kd = 3 ∨ kd = 4 ∨ kd = 5 ∨ kd = 6 ∨ kd = 7 ∨ kd = 8 ∨ kd = 9 ∨ kd = 10 := by omega
      rcases hcases with rfl | rfl | rfl | rfl | rfl | rfl | rfl | rfl | rfl | rfl
      · exact sound_1 n s keys kids v w hr hl hf
      · exact sound_2 n s keys kids v w hr hl hf
      · exact sound_3 n s keys kids v w hr hl hf
      · exact sound_4 n s keys kids v w hr hl hf
      · exact sound_5 n s keys kids v w hr hl hf
      · exact sound_6 n s keys kids v w hr hl hf
      · exact sound_7 n s keys kids v w hr hl hf
      · exact sound_8 n s keys kids v w hr hl hf
      · exact sound_9 n s keys kids v w hr hl hf hlen
      · exact sound_10 n s keys kids v w hr hl hf
end Go.Proofs.YtfbeeaibejggdaaDoor
