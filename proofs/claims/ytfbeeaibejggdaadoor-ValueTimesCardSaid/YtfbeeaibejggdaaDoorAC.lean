import Derived.Test.YtfbeeaibejggdaaDoorAB
namespace Go.Proofs.YtfbeeaibejggdaaDoor
open Go.RowKit

theorem zeros_nil (y : ByteArray) : y ++ zeros 0 = y := by
  apply ByteArray.ext; show (y ++ zeros 0).data = y.data; rw [ByteArray.data_append]; simp [zeros]
theorem zeros_next (y : ByteArray) (j : Nat) : y ++ zeros j ++ ⟨#[0]⟩ = y ++ zeros (j + 1) := by
  apply ByteArray.ext; rw [ByteArray.data_append, ByteArray.data_append, ByteArray.data_append]; simp [zeros, Array.replicate_succ]

set_option maxHeartbeats 1000000 in
set_option maxRecDepth 100000 in
theorem written_step (kd n : Int) (s : ByteArray) (keys : List Int) (kids : List T) (v : Value) (w : World) (hr : Rep w (.mk kd n s keys kids) v)
    (hlen : Hid ((kd == 8 || kd == 10) = true → keys.length = kids.length))
    (hcost : costT (.mk kd n s keys kids) ≤ 3000)
    (ih : ∀ j, (h : j < kids.length) → ∀ (v : Value) (w : World), Rep w kids[j] v → Calls Tryd.prog 36 #[v] w fun e w' => e = .returned (.string (writtenT kids[j])) ∧ Below w.heap.size w w') :
    Calls Tryd.prog 36 #[v] w fun e w' => e = .returned (.string (writtenT (.mk kd n s keys kids))) ∧ Below w.heap.size w w' := by
  obtain ⟨ka, va, kc, vc, rfl, _, _, hs, hkl, hvl, hkeys, hkids⟩ := rep_mk hr
  rw [costT] at hcost
  go_enter Tryd.func36, Tryd.ntmps36
  go_upto_block 0 with fail
  go_cut [3] (fun b wx => b = .string (startS kd n s) ∧ Below (w.heap.size + 1) (w.alloc (.cells #[.int .i64 kd, .int .i64 n, .string s, .slice ka keys.length kc, .slice va kids.length vc] 25)) wx)
  case first =>
    go_wp2_with (first | (go_at_call 61; (with_reducible refine (little4 n _).mono ?_); rintro e w1 ⟨rfl, hb1⟩) | (go_at_call 61; (with_reducible refine (little8 n _).mono ?_); rintro e w1 ⟨rfl, hb1⟩))
    all_goals
      go_meet
      case rel => exact ⟨by simp [startS, zero4, *], by first | exact box_first hb1 | exact Below.refl _ _⟩
  case rest =>
    obtain ⟨rfl, hbc⟩ := hcut
    go_wp2_with fail
    go_loopw [3, 4] (fun x i wr => ∃ k : Nat, i = .int .i64 k ∧ k ≤ kids.length ∧ x = .string (bodyL kd (startS kd n s) keys (kids.take k)) ∧ Below (w.heap.size + 1) (w.alloc (.cells #[.int .i64 kd, .int .i64 n, .string s, .slice ka keys.length kc, .slice va kids.length vc] 25)) wr) (fun _ i _ => kids.length - (intOf i).toNat)
    case atStart => exact ⟨0, rfl, Nat.zero_le _, by simp [bodyL], hbc⟩
    case round =>
      clear hbc
      obtain ⟨k, rfl, hk, rfl, hb⟩ := hrel
      obtain ⟨x0, x1, x2, x3, x4⟩ := box_at hb
      by_cases hlt : k < kids.length
      · obtain ⟨b, off, v0, v1, v2, v3, v4, rfl, g0, g1, g2, g3, g4, hrk⟩ := KidsIn.at kids 0 k hlt (KidsIn.mono (Same.of_box hb) _ _ _ hkids)
        simp only [Nat.zero_add] at g0 g1 g2 g3 g4
        have hS := bodyL_snoc kd kids[k] (kids.take k) (startS kd n s) keys
        rw [← take_next kids k hlt, List.length_take_of_le hk] at hS
        have hc1 := costL_take kids k hlt
        have hc2 := costL_le kids (k + 1)
        have z1 : (bodyL kd (startS kd n s) keys (kids.take k)).size ≤ 1000000 := by
          have := body_size kd (kids.take k) (startS kd n s) keys
          have := startS_size kd n s
          omega
        have z2 : (writtenT kids[k]).size ≤ 1000000 := by have := written_size kids[k]; omega
        clear hc1 hc2
        obtain ⟨bs, hbs⟩ : ∃ bs, bodyL kd (startS kd n s) keys (kids.take k) = bs := ⟨_, rfl⟩
        rw [hbs] at hS z1 ⊢
        clear hbs
        obtain ⟨ws, hws⟩ : ∃ ws, writtenT kids[k] = ws := ⟨_, rfl⟩
        have hih := ih k hlt
        rw [hws] at hS hih z2
        clear hws
        by_cases hq : (kd == 8 || kd == 10) = true
        · have hkl' := hlen.out hq
          obtain ⟨b', off', hka, hck, _⟩ := (hkeys.mono (Same.of_box hb)) k (by omega)
          obtain ⟨y, hy⟩ : ∃ y, keys.getD k 0 = y := ⟨_, rfl⟩
          rw [hy] at hck hS
          have hklt : k < keys.length := by omega
          have z3 : (numS y 4).size ≤ 4 := by rw [numS_size]; omega
          clear hy hkl'
          rw [keyS, if_pos hq] at hS
          have HS := Lib.hid hS
          clear hS
          subst hka
          rcases Bool.or_eq_true_iff.1 hq with h8 | h10
          · have HQ := Lib.hid hq
            clear hq
            go_wp2_with (first | (go_at_call 61; (with_reducible refine (little4 y _).mono ?_); rintro e w1 ⟨rfl, hb1⟩; have hb2 := box_next hb hb1; obtain ⟨y0, y1, y2, y3, y4⟩ := box_at hb2; have hrk2 := Rep.mono (Same.of_below hb1) _ _ hrk; have f0 := (Same.of_below hb1).cell g0; have f1 := (Same.of_below hb1).cell g1; have f2 := (Same.of_below hb1).cell g2; have f3 := (Same.of_below hb1).cell g3; have f4 := (Same.of_below hb1).cell g4) | (go_at_call 36; (with_reducible refine (hih _ _ hrk2).mono ?_); rintro e w2 ⟨rfl, hb3⟩))
            go_roundw
            case rel => exact ⟨k + 1, by go_num, by omega, by rw [HS.out]; rfl, box_next hb2 hb3⟩
            case measure => simp [intOf]; omega
          · have h8f : (kd == 8) = false := by have := eq_of_beq h10; subst this; rfl
            have HQ := Lib.hid hq
            clear hq
            go_wp2_with (first | (go_at_call 61; (with_reducible refine (little4 y _).mono ?_); rintro e w1 ⟨rfl, hb1⟩; have hb2 := box_next hb hb1; obtain ⟨y0, y1, y2, y3, y4⟩ := box_at hb2; have hrk2 := Rep.mono (Same.of_below hb1) _ _ hrk; have f0 := (Same.of_below hb1).cell g0; have f1 := (Same.of_below hb1).cell g1; have f2 := (Same.of_below hb1).cell g2; have f3 := (Same.of_below hb1).cell g3; have f4 := (Same.of_below hb1).cell g4) | (go_at_call 36; (with_reducible refine (hih _ _ hrk2).mono ?_); rintro e w2 ⟨rfl, hb3⟩))
            go_roundw
            case rel => exact ⟨k + 1, by go_num, by omega, by rw [HS.out]; rfl, box_next hb2 hb3⟩
            case measure => simp [intOf]; omega
        · have hq8 : (kd == 8) = false := by cases h : (kd == 8) <;> simp_all
          have hq10 : (kd == 10) = false := by cases h : (kd == 10) <;> simp_all
          rw [keyS, if_neg hq] at hS
          have HS := Lib.hid hS
          clear hS hq
          go_wp2_with (go_at_call 36; (with_reducible refine (hih _ _ hrk).mono ?_); rintro e w2 ⟨rfl, hb3⟩)
          go_roundw
          case rel => exact ⟨k + 1, by go_num, by omega, by rw [HS.out], box_next hb hb3⟩
          case measure => simp [intOf]; omega
      · have z0 : (bodyL kd (startS kd n s) keys kids).size ≤ 1000000 := by
          have := body_size kd kids (startS kd n s) keys
          have := startS_size kd n s
          omega
        have HT : Hid (writtenT (.mk kd n s keys kids) = closeS kd (bodyL kd (startS kd n s) keys kids)) := Lib.hid rfl
        rw [take_end _ _ hk hlt]
        obtain ⟨bs, hbs⟩ : ∃ bs, bodyL kd (startS kd n s) keys kids = bs := ⟨_, rfl⟩
        rw [hbs] at HT z0 ⊢
        clear hbs
        have z1 : (numS kd 4).size ≤ 4 := by rw [numS_size]; omega
        have z2 : (numS bs.size 4).size ≤ 4 := by rw [numS_size]; omega
        have q1 : ¬ 9223372036854775807 < (numS (bs.size : Int) 4).size + (numS kd 4).size := by omega
        have q2 : ¬ 9223372036854775807 < (numS (bs.size : Int) 4).size + (numS kd 4).size + bs.size := by omega
        go_upto_region 19 with fail
        go_cut [5] (fun x wx => x = .string (numS bs.size 4 ++ numS kd 4 ++ bs) ∧ Below (w.heap.size + 1) (w.alloc (.cells #[.int .i64 kd, .int .i64 n, .string s, .slice ka keys.length kc, .slice va kids.length vc] 25)) wx)
        case first =>
          go_region_held3 (fun w' => w'.cell? ⟨w.heap.size, 0, none⟩ = some (.int .i64 kd) ∧ Below (w.heap.size + 1) (w.alloc (.cells #[.int .i64 kd, .int .i64 n, .string s, .slice ka keys.length kc, .slice va kids.length vc] 25)) w')
            (first
              | exact ⟨by simpa using x0, hb.drew⟩
              | (go_split_ands; exact ⟨by assumption, by assumption⟩)
              | (go_split_ands
                 refine ⟨?_, ?_⟩
                 · exact (Same.of_below hb1).cell (by assumption)
                 · exact box_next (by assumption) hb1))
            (first | (go_at_call 61; (with_reducible refine (little4 (bs.size : Int) _).mono ?_); rintro e w1 ⟨rfl, hb1⟩) | (go_at_call 61; (with_reducible refine (little4 kd _).mono ?_); rintro e w1 ⟨rfl, hb1⟩))
          all_goals
            go_wp2_with fail
            go_meet
            case rel =>
              refine ⟨rfl, ?_⟩
              rename_i hH
              exact hH.2
        case rest =>
          obtain ⟨rfl, hbc⟩ := hcut
          have z3 : (numS (bs.size : Int) 4 ++ numS kd 4 ++ bs).size ≤ 1000100 := by simp only [app_size]; omega
          have HT2 : Hid (writtenT (.mk kd n s keys kids) = padS (numS (bs.size : Int) 4 ++ numS kd 4 ++ bs)) := Lib.hid HT.out
          obtain ⟨y, hy⟩ : ∃ y, numS (bs.size : Int) 4 ++ numS kd 4 ++ bs = y := ⟨_, rfl⟩
          rw [hy] at HT2 z3 ⊢
          clear hy q1 q2 HT
          go_wp2_with fail
          go_loopw [5] (fun x wr => ∃ j : Nat, x = .string (y ++ zeros j) ∧ j ≤ (8 - y.size % 8) % 8 ∧ Below (w.heap.size + 1) (w.alloc (.cells #[.int .i64 kd, .int .i64 n, .string s, .slice ka keys.length kc, .slice va kids.length vc] 25)) wr) (fun x _ => 8 - (match x with | .string q => q.size - y.size | _ => 0))
          case atStart => exact ⟨0, by rw [zeros_nil], Nat.zero_le _, hbc⟩
          case round =>
            clear hbc
            obtain ⟨j, rfl, hj, hb⟩ := hrel
            have hjs : (y ++ zeros j).size = y.size + j := by rw [app_size, zeros_size]
            have z4 : (y ++ zeros j).size ≤ 1000110 := by omega
            obtain ⟨q, hq⟩ : ∃ q, y ++ zeros j = q := ⟨_, rfl⟩
            rw [hq] at hjs z4 ⊢
            have Hq := Lib.hid (And.intro hq hjs)
            clear hq hjs
            by_cases hz : (q.size : Int) % 8 = 0
            · have hz' : ((q.size : Int) % 8 == 0) = true := by simp [hz]
              have Hz := Lib.hid hz
              clear hz
              go_wp2_with fail
              go_ret
              refine ⟨?_, box_out hb⟩
              have hjj : j = (8 - y.size % 8) % 8 := by
                have h1 := Hz.out
                have h2 := Hq.out.2
                omega
              rw [HT2.out, padS, ← hjj, Hq.out.1]
              rfl
            · have hz' : ((q.size : Int) % 8 == 0) = false := by simp [hz]
              have Hz := Lib.hid hz
              clear hz
              go_wp2_with fail
              go_roundw
              case rel => exact ⟨j + 1, by rw [← zeros_next, Hq.out.1], by have h1 := Hz.out; have h2 := Hq.out.2; omega, hb⟩
              case measure =>
                have h1 := Hz.out
                have h2 := Hq.out.2
                have h3 : (⟨#[0]⟩ : ByteArray).size = 1 := rfl
                simp [ByteArray.size_append]
                rw [h3]
                omega

def WrittenAt (t : T) : Prop := ∀ (v : Value) (w : World), Rep w t v → Calls Tryd.prog 36 #[v] w fun e w' => e = .returned (.string (writtenT t)) ∧ Below w.heap.size w w'

theorem bareB_kids {t : T} {a b c : Bool} (h : bareB t a b c false = true) : t.kids = [] := by
  unfold bareB at h
  simp at h
  exact h.2

theorem shaped_kids (kd n : Int) (s : ByteArray) (keys : List Int) (kids : List T) (h : shapedB (.mk kd n s keys kids) = true) : (∀ j, (hj : j < kids.length) → shapedB kids[j] = true) ∧ ((kd == 8 || kd == 10) = true → keys.length = kids.length) := by
  rw [shapedB] at h
  by_cases h1 : kd = 1
  · subst h1; have : kids = [] := bareB_kids (t := .mk 1 n s keys kids) (by simpa using h); subst this; exact ⟨fun j hj => absurd hj (Nat.not_lt_zero _), fun hq => by simp at hq⟩
  by_cases h2 : kd = 2
  · subst h2; simp at h; have : kids = [] := bareB_kids (t := .mk 2 n s keys kids) h.1; subst this; exact ⟨fun j hj => absurd hj (Nat.not_lt_zero _), fun hq => by simp at hq⟩
  by_cases h3 : kd = 3
  · subst h3; have : kids = [] := bareB_kids (t := .mk 3 n s keys kids) (by simpa using h); subst this; exact ⟨fun j hj => absurd hj (Nat.not_lt_zero _), fun hq => by simp at hq⟩
  by_cases h4 : kd = 4
  · subst h4; simp at h; have : kids = [] := bareB_kids (t := .mk 4 n s keys kids) h.1; subst this; exact ⟨fun j hj => absurd hj (Nat.not_lt_zero _), fun hq => by simp at hq⟩
  by_cases h5 : kd = 5
  · subst h5; have : kids = [] := bareB_kids (t := .mk 5 n s keys kids) (by simpa using h); subst this; exact ⟨fun j hj => absurd hj (Nat.not_lt_zero _), fun hq => by simp at hq⟩
  rw [if_neg h1, if_neg h2, if_neg h3, if_neg h4, if_neg h5] at h
  simp only [Bool.and_eq_true] at h
  obtain ⟨⟨⟨_, _⟩, hk⟩, hw⟩ := h
  refine ⟨fun j hj => ?_, fun hq => ?_⟩
  · cases hs : shapedB kids[j] with
    | true => rfl
    | false => rw [shapedL_no kids j hj hs] at hk; cases hk
  · rcases Bool.or_eq_true_iff.1 hq with h8 | h10
    · have := eq_of_beq h8; subst this
      rw [wholeB_object] at hw; simp only [Bool.and_eq_true] at hw; exact eq_of_beq hw.1.2
    · have := eq_of_beq h10; subst this
      rw [wholeB_sequence] at hw; simp only [Bool.and_eq_true] at hw; exact eq_of_beq hw.1.2

theorem cost_kid {l : List T} {j : Nat} (h : j < l.length) : costT l[j] ≤ costL l := by
  have h1 := costL_take l j h
  have h2 := costL_le l (j + 1)
  omega

theorem written_all (N : Nat) : ∀ t : T, SizeOf.sizeOf t ≤ N → shapedB t = true → costT t ≤ 3000 → WrittenAt t := by
  induction N with
  | zero => intro t; cases t; intro h; simp at h
  | succ N ih =>
    rintro ⟨kd, n, s, keys, kids⟩ ht hs hc v w hr
    obtain ⟨h1, h2⟩ := shaped_kids kd n s keys kids hs
    refine written_step kd n s keys kids v w hr (Lib.hid h2) hc fun j hj => ih _ (kid_size ht hj) (h1 j hj) ?_
    have := cost_kid hj
    rw [costT] at hc
    omega

theorem written_any (t : T) (hs : shapedB t = true) (hc : costT t ≤ 3000) : WrittenAt t := written_all _ t (Nat.le_refl _) hs hc
end Go.Proofs.YtfbeeaibejggdaaDoor
namespace Go.Proofs.YtfbeeaibejggdaaDoor
open Go.RowKit

mutual
theorem count_cost : ∀ t : T, countT t ≤ costT t
  | .mk _ _ s keys kids => by rw [countT, costT]; have := countL_cost kids; omega
theorem countL_cost : ∀ l : List T, countL l ≤ costL l
  | [] => by simp [countL, costL]
  | t :: r => by rw [countL, costL]; have := count_cost t; have := countL_cost r; omega
end
mutual
theorem deep_count : ∀ t : T, deepT t ≤ countT t
  | .mk _ _ s keys kids => by rw [countT, deepT]; have := deepL_count kids; omega
theorem deepL_count : ∀ l : List T, deepL l ≤ countL l
  | [] => by simp [countL, deepL]
  | t :: r => by rw [countL, deepL]; have := deep_count t; have := deepL_count r; omega
end

def validB (t : T) : Bool := shapedB t && decide ((deepT t : Int) ≤ 10) && decide ((countT t : Int) ≤ 500) && decide (((writtenT t).size : Int) ≤ 65536)

theorem rep_agg {w : World} {t : T} {v : Value} (h : Rep w t v) : ∃ (ka va : Option Addr) (kc vc : Nat), v = .agg #[.int .i64 t.kind, .int .i64 t.n, .string t.s, .slice ka t.keys.length kc, .slice va t.kids.length vc] ∧
      I64 t.kind ∧ I64 t.n ∧ t.s.size ≤ 140737488355328 ∧ t.keys.length ≤ 17592186044416 ∧ t.kids.length ≤ 17592186044416 ∧ KeysIn w ka t.keys ∧ KidsIn w va 0 t.kids := by
  obtain ⟨kd, n, s, keys, kids⟩ := t
  exact rep_mk h

set_option maxHeartbeats 1000000 in
theorem refValid_any (t0 : T) (v : Value) (w : World) (hr : Rep w t0 v) (hc : costT t0 ≤ 3000) :
    Calls Tryd.prog 17 #[v] w fun e w' => e = .returned (.bool (validB t0)) ∧ Below w.heap.size w w' := by
  have hc1 := count_cost t0
  have hc2 := deep_count t0
  have hsz := written_size t0
  obtain ⟨ka, va, kc, vc, rfl, _, _, _, _, _, _, _⟩ := rep_agg hr
  have hr1 := Rep.mono (same_alloc w (.cells #[.int .i64 t0.kind, .int .i64 t0.n, .string t0.s, .slice ka t0.keys.length kc, .slice va t0.kids.length vc] 25)) _ _ hr
  have HV : validB t0 = (shapedB t0 && decide ((deepT t0 : Int) ≤ 10) && decide ((countT t0 : Int) ≤ 500) && decide (((writtenT t0).size : Int) ≤ 65536)) := rfl
  rw [HV]
  have hd : deepT t0 ≤ 1000000 := by omega
  have hn : countT t0 ≤ 1000000 := by omega
  have hw : (writtenT t0).size ≤ 1000000 := by omega
  clear hc1 hc2 hsz HV
  cases hs : shapedB t0 with
  | false =>
    have Hs := Lib.hid hs
    have hsc := shaped_any t0
    unfold ShapedAt at hsc
    rw [hs] at hsc
    clear hs
    go_enter Tryd.func17, Tryd.ntmps17
    go_wp2_with (go_at_call 39; (with_reducible refine (hsc _ _ hr1).mono ?_); rintro e w1 ⟨rfl, hb1⟩)
    go_ret
    exact ⟨ret_bool (by simp), box_out (box_first hb1)⟩
  | true =>
    have hwr := written_any t0 hs hc
    unfold WrittenAt at hwr
    have hsc := shaped_any t0
    unfold ShapedAt at hsc
    rw [hs] at hsc
    clear hs
    go_enter Tryd.func17, Tryd.ntmps17
    go_wp2_with (first
      | (go_at_call 39; (with_reducible refine (hsc _ _ hr1).mono ?_); rintro e w1 ⟨rfl, hb1⟩; have hb2 := box_first hb1; obtain ⟨x0, x1, x2, x3, x4⟩ := box_at hb2; have hr2 := Rep.mono (Same.of_box hb2) _ _ hr)
      | (go_at_call 40; (with_reducible refine (deep_any _ _ _ hr2 hd).mono ?_); rintro e w2 ⟨rfl, hb3⟩; have hb4 := box_next hb2 hb3; obtain ⟨y0, y1, y2, y3, y4⟩ := box_at hb4; have hr3 := Rep.mono (Same.of_box hb4) _ _ hr)
      | (go_at_call 38; (with_reducible refine (counted_any _ _ _ hr3 hn).mono ?_); rintro e w3 ⟨rfl, hb5⟩; have hb6 := box_next hb4 hb5; obtain ⟨q0, q1, q2, q3, q4⟩ := box_at hb6; have hr4 := Rep.mono (Same.of_box hb6) _ _ hr)
      | (go_at_call 36; (with_reducible refine (hwr _ _ hr4).mono ?_); rintro e w4 ⟨rfl, hb7⟩))
    all_goals
      go_ret
      refine ⟨ret_bool ?_, box_out (by first | exact box_next hb6 hb7 | exact hb6 | exact hb4)⟩
      clear hr hr1 hr2
      try clear hr3
      try clear hr4
      try simp only [*]
      simp
      try omega
end Go.Proofs.YtfbeeaibejggdaaDoor
namespace Go.Proofs.YtfbeeaibejggdaaDoor
open Go.RowKit

/-- The table has: which fields a kind has. -/
def hasRow : Nat → Bool × Bool × Bool × Bool
  | 2 => (true, false, false, false) | 3 => (true, false, false, false)
  | 4 => (false, true, false, false) | 5 => (false, true, false, false)
  | 6 => (false, false, false, true) | 7 => (false, false, false, true)
  | 8 => (true, false, true, true) | 9 => (true, false, false, true) | 10 => (false, false, true, true)
  | _ => (false, false, false, false)
def HasLaid (w : World) : Prop := ∀ k, k ≤ 10 → w.cell? ⟨0, k * 4, none⟩ = some (.bool (hasRow k).1) ∧ w.cell? ⟨0, k * 4 + 1, none⟩ = some (.bool (hasRow k).2.1) ∧ w.cell? ⟨0, k * 4 + 2, none⟩ = some (.bool (hasRow k).2.2.1) ∧ w.cell? ⟨0, k * 4 + 3, none⟩ = some (.bool (hasRow k).2.2.2)
theorem HasLaid.mono {w w' : World} (h : HasLaid w) (hs : Same w w') : HasLaid w' := fun k hk => by
  obtain ⟨a, b, c, d⟩ := h k hk
  exact ⟨hs.cell a, hs.cell b, hs.cell c, hs.cell d⟩

theorem kindThere_any (k : Int) (w : World) : Calls Tryd.prog 72 #[.int .i64 k] w fun e w' => e = .returned (.bool (decide (1 ≤ k) && decide (k ≤ 10))) ∧ w = w' := by
  by_cases h1 : 1 ≤ k <;> by_cases h2 : k ≤ 10 <;>
  · go_enter Tryd.func72, Tryd.ntmps72
    go_wp2_with fail
    go_ret
    exact ⟨ret_bool (by simp [*] <;> omega), rfl⟩

theorem objectNumber_any (k : Int) (w : World) : Calls Tryd.prog 106 #[.int .i64 k] w fun e w' => e = .returned (.bool (decide (0 ≤ k) && decide (k ≤ 2147483647))) ∧ w = w' := by
  by_cases h1 : 0 ≤ k <;> by_cases h2 : k ≤ 2147483647 <;>
  · go_enter Tryd.func106, Tryd.ntmps106
    go_wp2_with fail
    go_ret
    exact ⟨ret_bool (by simp [*] <;> omega), rfl⟩

set_option maxHeartbeats 1000000 in
theorem hasMore_any (t : T) (v : Value) (w : World) (hr : Rep w t v) (k : Nat) (hk : t.kind = k) (hk1 : k ≤ 10) (fn fs fk fkids : Bool)
    (c0 : w.cell? ⟨0, k * 4, none⟩ = some (.bool fn)) (c1 : w.cell? ⟨0, k * 4 + 1, none⟩ = some (.bool fs)) (c2 : w.cell? ⟨0, k * 4 + 2, none⟩ = some (.bool fk)) (c3 : w.cell? ⟨0, k * 4 + 3, none⟩ = some (.bool fkids)) :
    Calls Tryd.prog 90 #[v] w fun e w' => e = .returned (.bool (!bareB t fn fs fk fkids)) ∧ Below w.heap.size w w' := by
  obtain ⟨kd, n, s, keys, kids⟩ := t
  obtain ⟨ka, va, kc, vc, rfl, _, _, _, _, _, _, _⟩ := rep_mk hr
  simp only [T.kind] at hk
  subst hk
  have hz := cell_lt c0
  have hS := same_alloc w (.cells #[.int .i64 k, .int .i64 n, .string s, .slice ka keys.length kc, .slice va kids.length vc] 25)
  have d0 := hS.cell c0
  have d1 := hS.cell c1
  have d2 := hS.cell c2
  have d3 := hS.cell c3
  clear c0 c1 c2 c3 hS
  go_enter Tryd.func90, Tryd.ntmps90
  go_wp2_with fail
  all_goals
    go_ret
    refine ⟨ret_bool ?_, (((Below.refl _ _).alloc (Nat.le_refl _) _).alloc (by simp) _)⟩
    simp only [bareB, T.n, T.s, T.keys, T.kids]
    clear hr d0 d1 d2 d3
    have a0 : (((keys.length : Nat) : Int) == 0) = !decide (0 < keys.length) := by cases keys.length <;> simp; omega
    have b0 : (((kids.length : Nat) : Int) == 0) = !decide (0 < kids.length) := by cases kids.length <;> simp; omega
    rw [a0, b0]
    clear a0 b0
    simp_all
end Go.Proofs.YtfbeeaibejggdaaDoor
