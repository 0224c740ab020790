/- value.At: the values of a sequence at a time. -/
import Derived.Test.YtfbeeaibejggdaaDoorMB
import Derived.Test.YtfbeeaibejggdaaDoorE2
namespace Go.Proofs.YtfbeeaibejggdaaDoor
open Go.RowKit Go.Lib

def atL (keys : List Int) (kids : List T) (time : Int) : Nat → List T
  | 0 => []
  | k + 1 => atL keys kids time k ++ (if keys.getD k 0 = time then (kids[k]?).toList else [])
theorem atL_len (keys : List Int) (kids : List T) (time : Int) : ∀ k, (atL keys kids time k).length ≤ k
  | 0 => by simp [atL]
  | k + 1 => by
    have := atL_len keys kids time k
    rw [atL, List.length_append]
    split
    · have : (kids[k]?).toList.length ≤ 1 := by cases kids[k]? <;> simp
      omega
    · simp; omega
theorem atL_yes {keys : List Int} {kids : List T} {time x : Int} {k : Nat} (h : k < kids.length) (hx : Hid (keys.getD k 0 = x)) (e : x = time) : atL keys kids time (k + 1) = atL keys kids time k ++ [kids[k]] := by
  rw [atL, if_pos (hx.out.trans e), List.getElem?_eq_getElem h]; rfl
theorem atL_no {keys : List Int} {kids : List T} {time x : Int} {k : Nat} (hx : Hid (keys.getD k 0 = x)) (e : x ≠ time) : atL keys kids time (k + 1) = atL keys kids time k := by
  rw [atL, if_neg (by rw [hx.out]; exact e), List.append_nil]

/-- What At tells. -/
def atV (t : T) (time : Int) : List T × Int := if validB t then (if t.kind = 10 then (atL t.keys t.kids time t.keys.length, 0) else ([], 10)) else ([], 1)
def AtPost (t : T) (time : Int) (w : World) (e : Ending) (w' : World) : Prop :=
  ∃ a c, e = .returned (.tuple #[.slice a (atV t time).1.length c, .int .i64 (atV t time).2]) ∧ KidsIn w' a 0 (atV t time).1 ∧ Below w.heap.size w w'

theorem valid_sequence {n : Int} {s : ByteArray} {keys : List Int} {kids : List T} (h : validB (.mk 10 n s keys kids) = true) : keys.length = kids.length ∧ keysB keys 1000000000 false = true := by
  have hs := valid_shaped h
  rw [shapedB] at hs
  simp [wholeB_sequence] at hs
  exact ⟨hs.2.1.2, hs.2.2⟩

/-- The copy, its five parts told. -/
theorem clone_five (t : T) (v : Value) (w : World) (hr : Rep w t v) (hc : costT t ≤ 3000) :
    Calls Tryd.prog 49 #[v] w fun e w' => ∃ rk rn rs ra rb rc rd re rf, e = .returned (.agg #[.int .i64 rk, .int .i64 rn, .string rs, .slice ra rb rc, .slice rd re rf]) ∧
      OwnP (fun b => w.heap.size ≤ b) w' t (.agg #[.int .i64 rk, .int .i64 rn, .string rs, .slice ra rb rc, .slice rd re rf]) ∧ Below w.heap.size w w' := by
  refine (clone_any t v w hr hc).mono ?_
  rintro e w' ⟨v', rfl, hown, hb⟩
  obtain ⟨ra, rd, rc, rf, rfl, _⟩ := rep_agg hown.rep
  exact ⟨_, _, _, _, _, _, _, _, _, rfl, hown, hb⟩

theorem at_bad (t : T) (v : Value) (time : Int) (w : World) (hr : Rep w t v) (hl : HasLaid w) (hc : costT t ≤ 3000) (hv : validB t = false) : Calls Tryd.prog 29 #[v, .int .i64 time] w (AtPost t time w) := by
  obtain ⟨ka, va, kc, vc, rfl, _, _, _, _, _, _, _⟩ := rep_agg hr
  have hm := valid_any t _ _ (Rep.mono (same_alloc w (.cells #[.int .i64 t.kind, .int .i64 t.n, .string t.s, .slice ka t.keys.length kc, .slice va t.kids.length vc] 25)) _ _ hr) (hl.mono (same_alloc w _)) hc
  rw [hv] at hm
  have hV : Hid (atV t time = ([], 1)) := Lib.hid (by rw [atV, hv]; rfl)
  clear hv
  go_enter Tryd.func29, Tryd.ntmps29
  go_wp2_with (go_at_call 16; refine hm.mono ?_; rintro e w1 ⟨rfl, hb1⟩)
  go_ret2
  exact ⟨none, 0, by rw [hV.out]; rfl, by rw [hV.out]; unfold KidsIn; trivial, box_out (box_first hb1)⟩

theorem at_other (t : T) (v : Value) (time : Int) (w : World) (hr : Rep w t v) (hl : HasLaid w) (hc : costT t ≤ 3000) (hv : validB t = true) (hk : t.kind ≠ 10) : Calls Tryd.prog 29 #[v, .int .i64 time] w (AtPost t time w) := by
  obtain ⟨ka, va, kc, vc, rfl, _, _, _, _, _, _, _⟩ := rep_agg hr
  have hm := valid_any t _ _ (Rep.mono (same_alloc w (.cells #[.int .i64 t.kind, .int .i64 t.n, .string t.s, .slice ka t.keys.length kc, .slice va t.kids.length vc] 25)) _ _ hr) (hl.mono (same_alloc w _)) hc
  rw [hv] at hm
  have hV : Hid (atV t time = ([], 10)) := Lib.hid (by rw [atV, hv, if_pos rfl, if_neg hk])
  have hk' : (t.kind != 10) = true := by simp [hk]
  clear hv hk
  go_enter Tryd.func29, Tryd.ntmps29
  go_wp2_with (go_at_call 16; refine hm.mono ?_; rintro e w1 ⟨rfl, hb1⟩; obtain ⟨x0, x1, x2, x3, x4⟩ := box_at (box_first hb1))
  go_ret2
  exact ⟨none, 0, by rw [hV.out]; rfl, by rw [hV.out]; unfold KidsIn; trivial, box_out (box_first hb1)⟩

set_option maxRecDepth 100000 in
set_option maxHeartbeats 1600000 in
theorem at_good (n : Int) (s : ByteArray) (keys : List Int) (kids : List T) (v : Value) (time : Int) (w : World) (hr : Rep w (.mk 10 n s keys kids) v) (hl : HasLaid w) (hc : costT (.mk 10 n s keys kids) ≤ 3000) (hv : validB (.mk 10 n s keys kids) = true) :
    Calls Tryd.prog 29 #[v, .int .i64 time] w (AtPost (.mk 10 n s keys kids) time w) := by
  obtain ⟨i0, hi, hz0, hz1, hz2⟩ := info_parts Tryd.info25
  obtain ⟨hkk, _⟩ := valid_sequence hv
  obtain ⟨hc1, hc2, _⟩ := cost_bounds (.mk 10 n s keys kids)
  simp only [T.kids, T.keys] at hc1 hc2
  have hck := Lib.hid fun j (hj : j < kids.length) => Nat.le_trans (costT_kid (kd := 10) (n := n) (s := s) (keys := keys) hj) hc
  have hm0 := valid_any _ _ _ (Rep.mono (same_alloc w (.cells #[.int .i64 10, .int .i64 n, .string s, .slice none 0 0, .slice none 0 0] 25)) _ _ hr) (hl.mono (same_alloc w _)) hc
  clear hm0
  have hV : Hid (atV (.mk 10 n s keys kids) time = (atL keys kids time keys.length, 0)) := Lib.hid (by rw [atV, hv]; rfl)
  have hrep := hr
  obtain ⟨ka, va, kc, vc, rfl, _, _, hs, hkl, hvl, hkeys, hkids⟩ := rep_mk hr
  have hm := valid_any _ _ _ (Rep.mono (same_alloc w (.cells #[.int .i64 10, .int .i64 n, .string s, .slice ka keys.length kc, .slice va kids.length vc] 25)) _ _ hrep) (hl.mono (same_alloc w _)) hc
  rw [hv] at hm
  have HKK := Lib.hid hkk
  clear hkk hv hrep
  go_enter Tryd.func29, Tryd.ntmps29
  go_wp2_with (go_at_call 16; refine hm.mono ?_; rintro e w1 ⟨rfl, hb1⟩; obtain ⟨x0, x1, x2, x3, x4⟩ := box_at (box_first hb1))
  clear x0 x1 x2 x3 x4
  go_loopw [6, 18] (fun x i wr => ∃ k : Nat, i = .int .i64 k ∧ k ≤ keys.length ∧ Row25 (w.heap.size + 1) wr (.slice none 0 0) x w.heap.size w.heap.size (atL keys kids time k) ∧ Below (w.heap.size + 1) (w.alloc (.cells #[.int .i64 10, .int .i64 n, .string s, .slice ka keys.length kc, .slice va kids.length vc] 25)) wr) (fun _ i _ => keys.length - (intOf i).toNat)
  case atStart => exact ⟨0, rfl, Nat.zero_le _, Row25.nil _ _ _ _ _, box_first hb1⟩
  case round =>
    clear hb1
    obtain ⟨k, rfl, hk, hrow, hb⟩ := hrel
    obtain ⟨x0, x1, x2, x3, x4⟩ := box_at hb
    by_cases hlt : k < keys.length
    · obtain ⟨kb, ko, rfl, g, _⟩ := hkeys.mono (Same.of_box hb) k hlt
      obtain ⟨p, hp⟩ : ∃ p, keys.getD k 0 = p := ⟨_, rfl⟩
      rw [hp] at g
      have Hp := Lib.hid hp
      clear hp
      by_cases e : p = time
      · have hlt2 : k < kids.length := by rw [← HKK.out]; exact hlt
        have hyes := Lib.hid (atL_yes hlt2 Hp e)
        obtain ⟨b, off, v0, v1, v2, v3, v4, rfl, g0, g1, g2, g3, g4, hrk⟩ := KidsIn.at kids 0 k hlt2 (KidsIn.mono (Same.of_box hb) _ _ _ hkids)
        simp only [Nat.zero_add] at g0 g1 g2 g3 g4
        obtain ⟨qk, qn, qs, qa, qb, qc, qd, qe, qf, rfl, rfl, rfl, rfl, rfl⟩ := rep_fields hrk
        have hcl := clone_five _ _ _ hrk (hck.out k hlt2)
        have hal := atL_len keys kids time k
        obtain ⟨cs, hcs, hel⟩ := hrow
        have hsz := hb.size
        simp only [World.size_alloc] at hsz
        have Hel := Lib.hid hel
        have E : (p == time) = true := by simp [e]
        subst e
        clear hel
        go_wp2_with (first
          | (go_at_call 49; (with_reducible refine hcl.mono ?_); rintro e w1 ⟨rk, rn, rs, ra, rb, rc, rd, re, rf, rfl, hown, hb1⟩; have hs1 := hb1.size; skip)
          | (at_builtin; refine wpList_append_moves rfl _ _ 23 rfl (w.heap.size + 1) 25 i0 _ 5 80 Tryd.underlying23 hi hz0 hz1 hz2 rfl (by decide) _ _ _ rfl ((own_below hcs hb1).alloc _) ⟨w1.heap.size, 0, none⟩ 1 1 [.int .i64 rk, .int .i64 rn, .string rs, .slice ra rb rc, .slice rd re rf] rfl rfl ?c1 ?c2 ?c3 ?c4 ?c5 ?_))
        case c1 =>
          intro j u hj
          match j, hj with
          | 0, hj => simp at hj; subst hj; simp [Addr.add]
          | 1, hj => simp at hj; subst hj; simp [Addr.add]
          | 2, hj => simp at hj; subst hj; simp [Addr.add]
          | 3, hj => simp at hj; subst hj; simp [Addr.add]
          | 4, hj => simp at hj; subst hj; simp [Addr.add]
        case c2 => intro u hu; simp at hu; rcases hu with rfl | rfl | rfl | rfl | rfl <;> rfl
        case c3 => unfold maxLen; omega
        case c4 => omega
        case c5 => simp; omega
        intro v' w3 hown' hgrow hmv
        have hlt6 := fun q hq => hcs.lt q hq
        have hpush := Lib.hid (Row25.push (kv := .slice none 0 0) (lo := w.heap.size) (hi := w.heap.size) (t := kids[k]) ((own_below hcs hb1).alloc _) (fun j h => ((Hel.out j h).move (Keeps.below hb1)).move (Keeps.alloc _ _)) hown' hgrow hmv
          ((hown.weaken fun b hb2 => ⟨by simp [Value.ownBlock], fun e => by have := (hlt6 b e.symm).2; omega, by omega⟩).move (Keeps.alloc _ _)))
        have hb3 : Below (w.heap.size + 1) (w.alloc (.cells #[.int .i64 10, .int .i64 n, .string s, .slice (some ⟨kb, ko, none⟩) keys.length kc, .slice (some ⟨b, off, none⟩) kids.length vc] 25)) w3 :=
          ((hb.trans (hb1.mono (by omega))).alloc (by omega) _).grown hgrow (by simp; omega) (fun q hq => (hlt6 q hq).1)
        clear hown' hgrow hmv hown hb1 hcs hlt6 hb
        go_wp2_with fail
        go_roundw
        case rel => exact ⟨k + 1, by go_num, by omega, by rw [hyes.out]; exact hpush.out, hb3⟩
        case measure => simp [intOf]; omega
      · have E : (p == time) = false := by simp [e]
        have hno := Lib.hid (atL_no (kids := kids) Hp e)
        have HR := Lib.hid hrow
        clear hrow e
        go_wp2_with fail
        go_roundw
        case rel => exact ⟨k + 1, by go_num, by omega, by rw [hno.out]; exact HR.out, hb⟩
        case measure => simp [intOf]; omega
    · obtain rfl : k = keys.length := by omega
      obtain ⟨ra, rc, hra, hrk⟩ := hrow.kids
      subst hra
      have HR := Lib.hid hrk
      clear hrow hrk
      go_wp2_with fail
      go_ret2
      exact ⟨ra, rc, by rw [hV.out]; rfl, by rw [hV.out]; exact HR.out, box_out hb⟩

theorem at_any (t : T) (v : Value) (time : Int) (w : World) (hr : Rep w t v) (hl : HasLaid w) (hc : costT t ≤ 3000) : Calls Tryd.prog 29 #[v, .int .i64 time] w (AtPost t time w) := by
  cases hv : validB t with
  | false => exact at_bad t v time w hr hl hc hv
  | true =>
    by_cases hk : t.kind = 10
    · obtain ⟨kd, n, s, keys, kids⟩ := t
      simp only [T.kind] at hk
      subst hk
      exact at_good n s keys kids v time w hr hl hc hv
    · exact at_other t v time w hr hl hc hv hk
end Go.Proofs.YtfbeeaibejggdaaDoor
/- The document's At. -/
namespace Go.Proofs.YtfbeeaibejggdaaDoor
open Go.RowKit Go.Lib

theorem refAt_bad (t : T) (v : Value) (time : Int) (w : World) (hr : Rep w t v) (hc : costT t ≤ 3000) (hv : validB t = false) : Calls Tryd.prog 30 #[v, .int .i64 time] w (AtPost t time w) := by
  obtain ⟨ka, va, kc, vc, rfl, _, _, _, _, _, _, _⟩ := rep_agg hr
  have hm := refValid_any t _ _ (Rep.mono (same_alloc w (.cells #[.int .i64 t.kind, .int .i64 t.n, .string t.s, .slice ka t.keys.length kc, .slice va t.kids.length vc] 25)) _ _ hr) hc
  rw [hv] at hm
  have hV : Hid (atV t time = ([], 1)) := Lib.hid (by rw [atV, hv]; rfl)
  clear hv
  go_enter Tryd.func30, Tryd.ntmps30
  go_wp2_with (go_at_call 17; refine hm.mono ?_; rintro e w1 ⟨rfl, hb1⟩)
  go_ret2
  exact ⟨none, 0, by rw [hV.out]; rfl, by rw [hV.out]; unfold KidsIn; trivial, box_out (box_first hb1)⟩

theorem refAt_other (t : T) (v : Value) (time : Int) (w : World) (hr : Rep w t v) (hc : costT t ≤ 3000) (hv : validB t = true) (hk : t.kind ≠ 10) : Calls Tryd.prog 30 #[v, .int .i64 time] w (AtPost t time w) := by
  obtain ⟨ka, va, kc, vc, rfl, _, _, _, _, _, _, _⟩ := rep_agg hr
  have hm := refValid_any t _ _ (Rep.mono (same_alloc w (.cells #[.int .i64 t.kind, .int .i64 t.n, .string t.s, .slice ka t.keys.length kc, .slice va t.kids.length vc] 25)) _ _ hr) hc
  rw [hv] at hm
  have hV : Hid (atV t time = ([], 10)) := Lib.hid (by rw [atV, hv, if_pos rfl, if_neg hk])
  have hk' : (t.kind != 10) = true := by simp [hk]
  clear hv hk
  go_enter Tryd.func30, Tryd.ntmps30
  go_wp2_with (go_at_call 17; refine hm.mono ?_; rintro e w1 ⟨rfl, hb1⟩; obtain ⟨x0, x1, x2, x3, x4⟩ := box_at (box_first hb1))
  go_ret2
  exact ⟨none, 0, by rw [hV.out]; rfl, by rw [hV.out]; unfold KidsIn; trivial, box_out (box_first hb1)⟩

set_option maxRecDepth 100000 in
set_option maxHeartbeats 1600000 in
theorem refAt_good (n : Int) (s : ByteArray) (keys : List Int) (kids : List T) (v : Value) (time : Int) (w : World) (hr : Rep w (.mk 10 n s keys kids) v) (hc : costT (.mk 10 n s keys kids) ≤ 3000) (hv : validB (.mk 10 n s keys kids) = true) :
    Calls Tryd.prog 30 #[v, .int .i64 time] w (AtPost (.mk 10 n s keys kids) time w) := by
  obtain ⟨i0, hi, hz0, hz1, hz2⟩ := info_parts Tryd.info25
  obtain ⟨hkk, _⟩ := valid_sequence hv
  obtain ⟨hc1, hc2, _⟩ := cost_bounds (.mk 10 n s keys kids)
  simp only [T.kids, T.keys] at hc1 hc2
  have hck := Lib.hid fun j (hj : j < kids.length) => Nat.le_trans (costT_kid (kd := 10) (n := n) (s := s) (keys := keys) hj) hc
  have hV : Hid (atV (.mk 10 n s keys kids) time = (atL keys kids time keys.length, 0)) := Lib.hid (by rw [atV, hv]; rfl)
  have hrep := hr
  obtain ⟨ka, va, kc, vc, rfl, _, _, hs, hkl, hvl, hkeys, hkids⟩ := rep_mk hr
  have hm := refValid_any _ _ _ (Rep.mono (same_alloc w (.cells #[.int .i64 10, .int .i64 n, .string s, .slice ka keys.length kc, .slice va kids.length vc] 25)) _ _ hrep) hc
  rw [hv] at hm
  have HKK := Lib.hid hkk
  clear hkk hv hrep
  go_enter Tryd.func30, Tryd.ntmps30
  go_wp2_with (go_at_call 17; refine hm.mono ?_; rintro e w1 ⟨rfl, hb1⟩; obtain ⟨x0, x1, x2, x3, x4⟩ := box_at (box_first hb1))
  clear x0 x1 x2 x3 x4
  go_loopw [6, 7] (fun x i wr => ∃ k : Nat, i = .int .i64 k ∧ k ≤ keys.length ∧ Row25 (w.heap.size + 1) wr (.slice none 0 0) x w.heap.size w.heap.size (atL keys kids time k) ∧ Below (w.heap.size + 1) (w.alloc (.cells #[.int .i64 10, .int .i64 n, .string s, .slice ka keys.length kc, .slice va kids.length vc] 25)) wr) (fun _ i _ => keys.length - (intOf i).toNat)
  case atStart => exact ⟨0, rfl, Nat.zero_le _, Row25.nil _ _ _ _ _, box_first hb1⟩
  case round =>
    clear hb1
    obtain ⟨k, rfl, hk, hrow, hb⟩ := hrel
    obtain ⟨x0, x1, x2, x3, x4⟩ := box_at hb
    by_cases hlt : k < keys.length
    · obtain ⟨kb, ko, rfl, g, _⟩ := hkeys.mono (Same.of_box hb) k hlt
      obtain ⟨p, hp⟩ : ∃ p, keys.getD k 0 = p := ⟨_, rfl⟩
      rw [hp] at g
      have Hp := Lib.hid hp
      clear hp
      by_cases e : p = time
      · have hlt2 : k < kids.length := by rw [← HKK.out]; exact hlt
        have hyes := Lib.hid (atL_yes hlt2 Hp e)
        obtain ⟨b, off, v0, v1, v2, v3, v4, rfl, g0, g1, g2, g3, g4, hrk⟩ := KidsIn.at kids 0 k hlt2 hkids
        simp only [Nat.zero_add] at g0 g1 g2 g3 g4
        obtain ⟨qk, qn, qs, qa, qb, qc, qd, qe, qf, rfl, rfl, rfl, rfl, rfl⟩ := rep_fields hrk
        replace g0 := (Same.of_box hb).cell g0
        replace g1 := (Same.of_box hb).cell g1
        replace g2 := (Same.of_box hb).cell g2
        replace g3 := (Same.of_box hb).cell g3
        replace g4 := (Same.of_box hb).cell g4
        have Hrk := Lib.hid hrk
        clear hrk
        have hal := atL_len keys kids time k
        obtain ⟨cs, hcs, hel⟩ := hrow
        have hsz := hb.size
        simp only [World.size_alloc] at hsz
        have Hel := Lib.hid hel
        have E : (p == time) = true := by simp [e]
        subst e
        clear hel
        go_wp2_with ((at_builtin; refine wpList_append_moves rfl _ _ 23 rfl (w.heap.size + 1) 25 i0 _ 5 80 Tryd.underlying23 hi hz0 hz1 hz2 rfl (by decide) _ _ _ rfl (hcs.alloc _) ⟨wr.heap.size, 0, none⟩ 1 1 [.int .i64 qk, .int .i64 qn, .string qs, .slice qa qb qc, .slice qd qe qf] rfl rfl ?c1 ?c2 ?c3 ?c4 ?c5 ?_))
        case c1 =>
          intro j u hj
          match j, hj with
          | 0, hj => simp at hj; subst hj; simp [Addr.add]
          | 1, hj => simp at hj; subst hj; simp [Addr.add]
          | 2, hj => simp at hj; subst hj; simp [Addr.add]
          | 3, hj => simp at hj; subst hj; simp [Addr.add]
          | 4, hj => simp at hj; subst hj; simp [Addr.add]
        case c2 => intro u hu; simp at hu; rcases hu with rfl | rfl | rfl | rfl | rfl <;> rfl
        case c3 => unfold maxLen; omega
        case c4 => omega
        case c5 => simp; omega
        intro v' w3 hown' hgrow hmv
        have hlt6 := fun q hq => hcs.lt q hq
        have hrk0 := Hrk.out
        have hpush := Lib.hid (Row25.push (kv := .slice none 0 0) (lo := w.heap.size) (hi := w.heap.size) (t := kids[k]) (hcs.alloc _) (fun j h => (Hel.out j h).move (Keeps.alloc _ _)) hown' hgrow hmv
          ((OwnP.old hrk0 (Same.of_box hb) (by simp [Value.ownBlock]) (fun q hq => by have := (hlt6 q hq).1; omega) (Nat.le_refl _)).move (Keeps.alloc _ _)))
        have hb3 : Below (w.heap.size + 1) (w.alloc (.cells #[.int .i64 10, .int .i64 n, .string s, .slice (some ⟨kb, ko, none⟩) keys.length kc, .slice (some ⟨b, off, none⟩) kids.length vc] 25)) w3 :=
          (hb.alloc (by omega) _).grown hgrow (by simp; omega) (fun q hq => (hlt6 q hq).1)
        clear hown' hgrow hmv hcs hlt6 hb
        go_wp2_with fail
        go_roundw
        case rel => exact ⟨k + 1, by go_num, by omega, by rw [hyes.out]; exact hpush.out, hb3⟩
        case measure => simp [intOf]; omega
      · have E : (p == time) = false := by simp [e]
        have hno := Lib.hid (atL_no (kids := kids) Hp e)
        have HR := Lib.hid hrow
        clear hrow e
        go_wp2_with fail
        go_roundw
        case rel => exact ⟨k + 1, by go_num, by omega, by rw [hno.out]; exact HR.out, hb⟩
        case measure => simp [intOf]; omega
    · obtain rfl : k = keys.length := by omega
      obtain ⟨ra, rc, hra, hrk⟩ := hrow.kids
      subst hra
      have HR := Lib.hid hrk
      clear hrow hrk
      go_wp2_with fail
      go_ret2
      exact ⟨ra, rc, by rw [hV.out]; rfl, by rw [hV.out]; exact HR.out, box_out hb⟩

theorem refAt_any (t : T) (v : Value) (time : Int) (w : World) (hr : Rep w t v) (hc : costT t ≤ 3000) : Calls Tryd.prog 30 #[v, .int .i64 time] w (AtPost t time w) := by
  cases hv : validB t with
  | false => exact refAt_bad t v time w hr hc hv
  | true =>
    by_cases hk : t.kind = 10
    · obtain ⟨kd, n, s, keys, kids⟩ := t
      simp only [T.kind] at hk
      subst hk
      exact refAt_good n s keys kids v time w hr hc hv
    · exact refAt_other t v time w hr hc hv hk
end Go.Proofs.YtfbeeaibejggdaaDoor
