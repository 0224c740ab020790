import Derived.Test.YtfbeeaibejggdaaDoorB5
namespace Go.Proofs.YtfbeeaibejggdaaDoor
open Go.RowKit

theorem Tryd.info3 : (Tryd.prog.info? 3).map (fun i => (i.zero, i.size, i.bytes)) = some (some (.int .i64 0), 1, 8) := by kernel_rfl

def choiceB (how : Int) (l : List T) : Bool :=
  (l.all fun t => decide (t.kind = 3)) && !(l.length == 0) &&
    (if how = 1 then l.length == 1 else if how = 2 then enumB (nAt l) l.length
     else if how = 3 then l.length == 3 && decide (nAt l 1 ≤ nAt l 0) && decide (nAt l 0 ≤ nAt l 2)
     else if how = 4 then l.length == 4 && decide (nAt l 1 ≤ nAt l 0) && decide (nAt l 0 ≤ nAt l 2) && decide (0 < nAt l 3) && stepB (nAt l 0) (nAt l 1) (nAt l 3) else false)

theorem choice_bad {l : List T} {j : Nat} (hj : j < l.length) (h : l[j].kind ≠ 3) (how : Int) : choiceB how l = false := by
  unfold choiceB
  have : (l.all fun t => decide (t.kind = 3)) = false := by rw [List.all_eq_false]; exact ⟨l[j], List.getElem_mem hj, by simp [h]⟩
  rw [this]; simp

def ints (l : List T) : List Int := l.map T.n
theorem ints_len (l : List T) : (ints l).length = l.length := by simp [ints]

theorem tail_get (l : List T) (j : Nat) (h : j < (ints l).tail.length) : (ints l).tail.getD j 0 = nAt l (j + 1) := by
  unfold nAt ints at *
  cases l with
  | nil => simp at h
  | cons t r => simp

theorem enum_eq (l : List T) (d : Int) (hd : nAt l 0 = d) : ((ints l).tail.contains d && decide (ints l).tail.Nodup) = enumB (nAt l) l.length := by
  have hl : (ints l).tail.length = l.length - 1 := by simp [ints]
  have h1 : (ints l).tail.contains d = ((List.range l.length).any fun i => !(i == 0) && nAt l i == nAt l 0) := by
    rw [Bool.eq_iff_iff, List.contains_iff_mem, List.mem_iff_getElem]
    simp only [List.any_eq_true, List.mem_range]
    constructor
    · rintro ⟨j, hj, he⟩
      refine ⟨j + 1, by omega, ?_⟩
      have := tail_get l j hj
      simp only [List.getD, List.getElem?_eq_getElem hj, Option.getD_some] at this
      rw [← this, he, hd]; simp
    · rintro ⟨i, hi, he⟩
      simp only [Bool.and_eq_true, Bool.not_eq_true', beq_eq_false_iff_ne, beq_iff_eq] at he
      have hj : i - 1 < (ints l).tail.length := by omega
      refine ⟨i - 1, hj, ?_⟩
      have := tail_get l (i - 1) hj
      simp only [List.getD, List.getElem?_eq_getElem hj, Option.getD_some] at this
      rw [this, show i - 1 + 1 = i by omega, he.2, hd]
  have h2 : decide (ints l).tail.Nodup = ((List.range l.length).all fun k => k == 0 || distinctAt (nAt l) k) := by
    rw [Bool.eq_iff_iff, decide_eq_true_iff, List.nodup_iff_pairwise_ne, List.pairwise_iff_getElem]
    simp only [List.all_eq_true, List.mem_range, distinctAt, Bool.or_eq_true, beq_iff_eq, Bool.not_eq_true', beq_eq_false_iff_ne]
    constructor
    · intro h k hk
      by_cases e : k = 0
      · exact .inl e
      · right
        intro j hj
        by_cases e2 : j = 0
        · exact .inl e2
        · right
          have ha : j - 1 < (ints l).tail.length := by omega
          have hb : k - 1 < (ints l).tail.length := by omega
          have := h (j - 1) (k - 1) ha hb (by omega)
          have g1 := tail_get l (j - 1) ha
          have g2 := tail_get l (k - 1) hb
          simp only [List.getD, List.getElem?_eq_getElem ha, Option.getD_some] at g1
          simp only [List.getD, List.getElem?_eq_getElem hb, Option.getD_some] at g2
          rw [g1, g2, show j - 1 + 1 = j by omega, show k - 1 + 1 = k by omega] at this
          exact this
    · intro h i j hi hj hij
      have g1 := tail_get l i hi
      have g2 := tail_get l j hj
      simp only [List.getD, List.getElem?_eq_getElem hi, Option.getD_some] at g1
      simp only [List.getD, List.getElem?_eq_getElem hj, Option.getD_some] at g2
      rw [g1, g2]
      rcases h (j + 1) (by omega) with h | h
      · omega
      · rcases h (i + 1) (by omega) with h | h
        · omega
        · exact h
  rw [h1, h2]; rfl

set_option maxHeartbeats 2000000 in
set_option maxRecDepth 100000 in
theorem choiceSound_any (t : T) (v : Value) (w : World) (hr : Rep w t v) (hlen : t.kids.length ≤ 100000) :
    Calls Tryd.prog 94 #[v] w fun e w' => e = .returned (.bool (choiceB t.n t.kids)) ∧ Below w.heap.size w w' := by
  obtain ⟨i0, hi, hz0, hz1, hz2⟩ := info_parts Tryd.info3
  obtain ⟨kd, n, s, keys, kids⟩ := t
  simp only [T.n, T.kids] at hlen ⊢
  obtain ⟨ka, va, kc, vc, rfl, _, _, hs, hkl, hvl, hkeys, hkids⟩ := rep_mk hr
  go_enter Tryd.func94, Tryd.ntmps94
  go_wp2_with fail
  go_loopw [3, 11] (fun x i wr => ∃ k : Nat, i = .int .i64 k ∧ k ≤ kids.length ∧ wr.ownsRow (w.heap.size + 1) 3 1 x k (((ints kids).take k).map (Value.int .i64)) ∧ (∀ j, (h : j < kids.length) → j < k → kids[j].kind = 3) ∧ Below (w.heap.size + 1) (w.alloc (.cells #[.int .i64 kd, .int .i64 n, .string s, .slice ka keys.length kc, .slice va kids.length vc] 25)) wr) (fun _ i _ => kids.length - (intOf i).toNat)
  case atStart => exact ⟨0, rfl, Nat.zero_le _, World.ownsRow_nil _ _ _ _, fun _ _ h => absurd h (Nat.not_lt_zero _), Below.refl _ _⟩
  case round =>
    obtain ⟨k, rfl, hk, hown, hok, hb⟩ := hrel
    have Hok := Lib.hid hok
    clear hok
    obtain ⟨x0, x1, x2, x3, x4⟩ := box_at hb
    have hsz := hb.size
    simp only [World.size_alloc] at hsz
    by_cases hlt : k < kids.length
    · obtain ⟨b, off, ka', kc', va', vc', s', keys', kids', kq, n', rfl, hlk, g0, g1, g2, g3, g4, _⟩ := kid_full (KidsIn.mono (Same.of_box hb) _ _ _ hkids) k hlt
      have Hlk := Lib.hid hlk
      clear hlk
      by_cases h3 : kq = 3
      · subst h3
        go_wp2_with (at_builtin; refine wpList_append_own _ rfl _ _ 22 rfl (w.heap.size + 1) 3 i0 (.int .i64 0) 1 8 Tryd.underlying22 hi hz0 hz1 hz2 rfl (by decide) _ _ _ rfl ((hown.alloc _).alloc _) ⟨wr.heap.size + 1, 0, none⟩ 1 1 [.int .i64 n'] rfl rfl ?c1 ?c2 ?c3 ?c4 ?c5 ?_)
        case c1 =>
          intro j u hj
          match j, hj with
          | 0, hj => simp at hj; subst hj; simp [Addr.add]
        case c2 => intro u hu; simp at hu; subst hu; rfl
        case c3 => unfold maxLen; omega
        case c4 => omega
        case c5 => simp; omega
        intro v' w1 hown' hgrow _
        have hb' : Below (w.heap.size + 1) (w.alloc (.cells #[.int .i64 kd, .int .i64 n, .string s, .slice ka keys.length kc, .slice (some ⟨b, off, none⟩) kids.length vc] 25)) w1 := ((hb.alloc (by omega) _).alloc (by simp; omega) _).grown hgrow (by simp; omega) (fun q hq => (hown.lt q hq).1)
        have Hown := Lib.hid hown'
        clear hown' hgrow hown hb
        go_wp2_with fail
        go_roundw
        case rel =>
          refine ⟨k + 1, by go_num, by omega, ?_, fun j hj hj' => ?_, hb'⟩
          · have : (ints kids).take (k + 1) = (ints kids).take k ++ [n'] := by
              rw [take_next _ k (by rw [ints_len]; exact hlt)]
              simp [ints, Hlk.out, T.n]
            rw [this, List.map_append, List.map_take]; exact Hown.out
          · by_cases e : j = k
            · subst e; rw [Hlk.out]; rfl
            · exact Hok.out j hj (by omega)
        case measure => simp [intOf]; omega
      · have h3' : (kq == 3) = false := by simp [h3]
        have H3 := Lib.hid h3
        clear h3
        go_wp2_with fail
        go_ret
        refine ⟨ret_bool (choice_bad hlt ?_ n).symm, box_out (hb.alloc (by omega) _)⟩
        rw [Hlk.out]; exact H3.out
    · obtain rfl : k = kids.length := by omega
      have hall : Hid ((kids.all fun t => decide (t.kind = 3)) = true) := Lib.hid (by
        rw [List.all_eq_true]; intro t ht; obtain ⟨j, hj, rfl⟩ := List.getElem_of_mem ht; simp [Hok.out j hj (by omega)])
      have hbo := box_out hb
      clear Hok hlt hk
      by_cases h0 : kids.length = 0
      · rcases hown.2 with ⟨rfl, _⟩ | ⟨g, cap, cur, rfl, _⟩
        all_goals
          clear hown
          go_wp2_with fail
          go_ret
          refine ⟨ret_bool ?_, hbo⟩
          simp [choiceB, h0]
      obtain ⟨g, cap, rfl, hcap, hcap2⟩ := own_shape hown (by omega)
      have hcell : ∀ j, j < kids.length → wr.cell? ⟨g, j, none⟩ = some (.int .i64 (nAt kids j)) := fun j hj => by
        rw [hown.cellAt j (by omega), List.take_of_length_le (by rw [ints_len]; omega)]
        simp [ints, nAt, hj]
      have Hcell := Lib.hid hcell
      clear hcell hown
      obtain ⟨d, hd⟩ : ∃ d, nAt kids 0 = d := ⟨_, rfl⟩
      have c0 := Hcell.out 0 (by omega)
      rw [hd] at c0
      have Hd := Lib.hid hd
      clear hd
      have w0 : (0 : Int) < (kids.length : Int) := by omega
      have w1 : (1 : Int) ≤ (kids.length : Int) := by omega
      have w2 : (kids.length : Int) ≤ (cap : Int) := by omega
      have h0' : ((kids.length : Int) == 0) = false := by rw [beq_eq_false_iff_ne]; omega
      have HB : Hid (choiceB n kids = (if n = 1 then kids.length == 1 else if n = 2 then enumB (nAt kids) kids.length
        else if n = 3 then kids.length == 3 && decide (nAt kids 1 ≤ nAt kids 0) && decide (nAt kids 0 ≤ nAt kids 2)
        else if n = 4 then kids.length == 4 && decide (nAt kids 1 ≤ nAt kids 0) && decide (nAt kids 0 ≤ nAt kids 2) && decide (0 < nAt kids 3) && stepB (nAt kids 0) (nAt kids 1) (nAt kids 3) else false)) := Lib.hid (by
        unfold choiceB; rw [hall.out]; simp [h0])
      clear h0 hall
      by_cases hl1 : kids.length = 1
      · have hR : Hid (choiceB n kids = decide (n = 1)) := Lib.hid (by
          have h1 : ¬ kids.length = 3 := by omega
          have h2 : ¬ kids.length = 4 := by omega
          rw [HB.out, hl1]
          have he : enumB (nAt kids) 1 = false := by
            unfold enumB; simp
          rw [he]
          by_cases e : n = 1 <;> simp [e])
        have hlz : kids.length - 1 = 0 := by omega
        have hcon : ∀ a q w, Calls Tryd.prog 107 #[.slice a (kids.length - 1) q, .int .i64 d] w fun e w' => e = .returned (.bool false) ∧ w' = w := fun a q w => by
          rw [hlz]; exact Tryd.slices_Contains_int_empty a q d w
        have q0 : (((kids.length - 1 : Nat) : Int) == 0) = true := by rw [hlz]; rfl
        have q2 : (((kids.length - 1 : Nat) : Int) == 2) = false := by rw [hlz]; rfl
        have q3 : (((kids.length - 1 : Nat) : Int) == 3) = false := by rw [hlz]; rfl
        clear HB hlz
        by_cases hcap1 : cap = 1
        · subst hcap1
          have w3 : ¬ 1 < (1 : Nat) := by omega
          clear hl1
          go_wp2_with fail
          go_quiet (fail)
          go_wp2_with fail
          · rename ((n == 1) = true) => e1
            go_ret
            exact ⟨ret_bool (by rw [hR.out, eq_of_beq e1]; rfl), below_drewN hbo _⟩
          · rename ((n == 2) = true) => e1
            go_wp2_with (go_at_call 107; refine (Tryd.slices_Contains_int_empty _ _ d _).mono ?_; rintro e w1 ⟨rfl, rfl⟩)
            go_ret
            exact ⟨ret_bool (by rw [hR.out, eq_of_beq e1]; rfl), below_drewN hbo _⟩
          · rename ((n == 3) = true) => e1
            go_ret
            exact ⟨ret_bool (by rw [hR.out, eq_of_beq e1]; rfl), below_drewN hbo _⟩
          · rename ((n == 4) = true) => e1
            go_quiet (fail)
            go_wp2_with fail
            go_ret
            exact ⟨ret_bool (by rw [hR.out, eq_of_beq e1]; rfl), below_drewN (below_drewN hbo _) _⟩
          · rename ((n == 1) = false) => e1
            go_ret
            exact ⟨ret_bool (by rw [hR.out]; simp at e1; simp [e1]), below_drewN hbo _⟩
        · have hcap3 : 1 < cap := by omega
          clear hl1
          go_wp2_with fail
          go_quiet (fail)
          go_wp2_with fail
          · rename ((n == 1) = true) => e1
            go_ret
            exact ⟨ret_bool (by rw [hR.out, eq_of_beq e1]; rfl), below_drewN hbo _⟩
          · rename ((n == 2) = true) => e1
            go_wp2_with (go_at_call 107; refine (hcon _ _ _).mono ?_; rintro e w1 ⟨rfl, rfl⟩)
            go_ret
            exact ⟨ret_bool (by rw [hR.out, eq_of_beq e1]; rfl), below_drewN hbo _⟩
          · rename ((n == 3) = true) => e1
            go_ret
            exact ⟨ret_bool (by rw [hR.out, eq_of_beq e1]; rfl), below_drewN hbo _⟩
          · rename ((n == 4) = true) => e1
            go_quiet (fail)
            go_wp2_with fail
            go_ret
            exact ⟨ret_bool (by rw [hR.out, eq_of_beq e1]; rfl), below_drewN (below_drewN hbo _) _⟩
          · rename ((n == 1) = false) => e1
            go_ret
            exact ⟨ret_bool (by rw [hR.out]; simp at e1; simp [e1]), below_drewN hbo _⟩
      · have hc2 : 1 < cap := by omega
        go_wp2_with fail
        go_quiet (fail)
        go_wp2_with fail
        · rename ((n == 1) = true) => e1
          go_ret
          refine ⟨ret_bool ?_, below_drewN hbo _⟩
          rw [HB.out, eq_of_beq e1]
          have q1 : (kids.length == 1) = false := by rw [beq_eq_false_iff_ne]; exact hl1
          simp [q1]
          omega
        · rename ((n == 2) = true) => e2
          have hzl : (ints kids).tail.length = kids.length - 1 := by simp [ints]
          have hcc : ∀ q, ∀ j, j < (ints kids).tail.length → (wr.drewN q).cell? ⟨g, 1 + j, none⟩ = some (.int .i64 ((ints kids).tail.getD j 0)) := fun q j hj => by
            rw [tail_get kids j hj, show 1 + j = j + 1 by omega]
            have := Hcell.out (j + 1) (by omega)
            simpa using this
          have hcon := fun q => Tryd.slices_Contains_int g 1 (kids.length - 1) (cap - 1) (ints kids).tail d (wr.drewN q) (by omega) (by omega) (hcc q)
          rw [← hzl, List.take_length, hzl] at hcon
          have hall := fun q => allDifferent_any g 1 (cap - 1) (ints kids).tail (wr.drewN q) (by omega) (by omega) (hcc q)
          rw [hzl] at hall
          have HE := Lib.hid (enum_eq kids d Hd.out)
          obtain ⟨cb, hcb⟩ : ∃ cb, (ints kids).tail.contains d = cb := ⟨_, rfl⟩
          rw [hcb] at hcon HE
          clear hcb hcc hzl
          go_wp2_with (first | (go_at_call 107; refine (hcon _).mono ?_; rintro e w1 ⟨rfl, rfl⟩) | (go_at_call 108; refine (hall _).mono ?_; rintro e w2 ⟨rfl, hb2⟩))
          all_goals
            go_ret
            refine ⟨ret_bool ?_, by first | exact (below_drewN hbo _).trans (hb2.mono (by have := hbo.size; simp; omega)) | exact below_drewN hbo _⟩
            rw [HB.out, eq_of_beq e2]
            simp only [Int.reduceEq, if_true, if_false, ← HE.out]
            simp_all
        · rename ((n == 3) = true) => e3
          rename (((kids.length - 1 : Nat) : Int) = 2) => hl3
          have hl3' : kids.length = 3 := by omega
          have hcc : ∀ q, ∀ j, j < kids.length → (wr.drewN q).cell? ⟨g, j, none⟩ = some (.int .i64 (nAt kids j)) := fun q j hj => by
            have := Hcell.out j hj
            simpa using this
          have hin := fun q => inRange_any d (nAt kids 1) (nAt kids 2) g 1 (kids.length - 1) (cap - 1) (wr.drewN q) (by omega) (hcc q 1 (by omega)) (hcc q 2 (by omega))
          obtain ⟨rb, hrb⟩ : ∃ rb, (decide (nAt kids 1 ≤ d) && decide (d ≤ nAt kids 2)) = rb := ⟨_, rfl⟩
          rw [hrb] at hin
          have Hl := Lib.hid (And.intro hl3' hrb)
          clear hl3 hl3' hcc hrb
          go_wp2_with (go_at_call 109; refine (hin _).mono ?_; rintro e w1 ⟨rfl, rfl⟩)
          go_ret
          refine ⟨ret_bool ?_, below_drewN hbo _⟩
          rw [HB.out, eq_of_beq e3, Hd.out, Hl.out.1, ← Hl.out.2]
          simp
        · rename ((n == 3) = true) => e3
          go_ret
          refine ⟨ret_bool ?_, below_drewN hbo _⟩
          rw [HB.out, eq_of_beq e3]
          have q1 : (kids.length == 3) = false := by rw [beq_eq_false_iff_ne]; intro h; omega
          simp [q1]
        · rename ((n == 4) = true) => e4
          by_cases hl4 : kids.length = 4
          · have hq3 : kids.length - 1 = 3 := by omega
            generalize hwd : wr.drewN nq = wd
            have hbd : Below w.heap.size w wd := by rw [← hwd]; exact below_drewN hbo _
            have hcc : ∀ q, ∀ j, j < kids.length → (wd.drewN q).cell? ⟨g, j, none⟩ = some (.int .i64 (nAt kids j)) := fun q j hj => by
              have := Hcell.out j hj
              rw [← hwd]
              simpa using this
            have r1 : wd.cell? ⟨g, 1, none⟩ = some (.int .i64 (nAt kids 1)) := by simpa using hcc 0 1 (by omega)
            have r3 : wd.cell? ⟨g, 3, none⟩ = some (.int .i64 (nAt kids 3)) := by simpa using hcc 0 3 (by omega)
            obtain ⟨m, hm⟩ : ∃ m, nAt kids 1 = m := ⟨_, rfl⟩
            obtain ⟨m', hm'⟩ : ∃ m', nAt kids 2 = m' := ⟨_, rfl⟩
            obtain ⟨st, hst⟩ : ∃ st, nAt kids 3 = st := ⟨_, rfl⟩
            have hin : ∀ q, Calls Tryd.prog 109 #[.int .i64 d, .slice (some ⟨g, 1, none⟩) 3 (cap - 1)] (wd.drewN q) fun e w' => e = .returned (.bool (decide (m ≤ d) && decide (d ≤ m'))) ∧ w' = wd.drewN q := fun q =>
              (inRange_any d m m' g 1 3 (cap - 1) (wd.drewN q) (by omega) (by rw [← hm]; exact hcc q 1 (by omega)) (by rw [← hm']; exact hcc q 2 (by omega))).mono fun _ _ h => ⟨h.1, h.2.symm⟩
            have hstI : I64 st := by
              obtain ⟨_, _, _, _, _, _, _, _, _, _, hl, _, _, _, _, _, _, _, hI⟩ := kid_at hkids 3 (by omega)
              rw [nAt_eq (by omega) hl] at hst; rw [← hst]; exact hI
            obtain ⟨rb, hrb⟩ : ∃ rb, (decide (m ≤ d) && decide (d ≤ m')) = rb := ⟨_, rfl⟩
            rw [hrb] at hin
            rw [hm] at r1
            rw [hst] at r3
            have hfin : choiceB n kids = (decide (0 < st) && rb && stepB d m st) := by
              rw [HB.out, eq_of_beq e4, Hd.out, hm, hm', hst, hl4, ← hrb]
              simp
              cases decide (m ≤ d) <;> cases decide (d ≤ m') <;> cases decide (0 < st) <;> simp
            have Hfin := Lib.hid hfin
            have z3 : (2 : Int) < ((3 : Nat) : Int) := by omega
            have z4 : (0 : Int) < ((3 : Nat) : Int) := by omega
            rw [hq3]
            clear hfin hm hm' hst hrb hcc hwd hq3 hl4 e4 hl1 w0 w1 w2
            unfold I64 at hstI
            by_cases t3 : 0 < st
            · have t3' : decide (0 < st) = true := by simp [t3]
              have hon := fun q => (onStep_any d m st (wd.drewN q) t3 hstI.2).mono fun _ _ (h : _ ∧ _) => (⟨h.1, h.2.symm⟩ : _ ∧ _)
              cases rb with
              | true =>
                go_quiet ((first | (go_at_call 109; exact Calls.quiet_of_same (hin _)) | (go_at_call 110; exact Calls.quiet_of_same (hon _))))
                go_wp2_with fail
                go_ret
                exact ⟨ret_bool (by rw [Hfin.out, t3']; simp), below_drewN hbd _⟩
              | false =>
                go_quiet ((first | (go_at_call 109; exact Calls.quiet_of_same (hin _)) | (go_at_call 110; exact Calls.quiet_of_same (hon _))))
                go_wp2_with fail
                go_ret
                exact ⟨ret_bool (by rw [Hfin.out, t3']; simp), below_drewN hbd _⟩
            · have t3' : decide (0 < st) = false := by simp; omega
              clear t3
              go_quiet (fail)
              go_wp2_with fail
              go_ret
              exact ⟨ret_bool (by rw [Hfin.out, t3']; simp), below_drewN hbd _⟩
          · have q1 : (((kids.length - 1 : Nat) : Int) == 3) = false := by rw [beq_eq_false_iff_ne]; omega
            go_quiet (fail)
            go_wp2_with fail
            go_ret
            refine ⟨ret_bool ?_, below_drewN (below_drewN hbo _) _⟩
            rw [HB.out, eq_of_beq e4]
            have q1 : (kids.length == 4) = false := by rw [beq_eq_false_iff_ne]; exact hl4
            simp [q1]
        · rename ((n == 1) = false) => e1
          rename ((n == 2) = false) => e2
          rename ((n == 3) = false) => e3
          rename ((n == 4) = false) => e4
          go_ret
          refine ⟨ret_bool ?_, below_drewN hbo _⟩
          rw [beq_eq_false_iff_ne] at e1 e2 e3 e4
          rw [HB.out, if_neg e1, if_neg e2, if_neg e3, if_neg e4]
end Go.Proofs.YtfbeeaibejggdaaDoor
