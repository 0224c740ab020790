/- The law ValueTimes where Cut tells no error. -/
import Derived.Test.YtfbeeaibejggdaaDoorOA
import Derived.StillTailTactics
import Derived.Outline
namespace Go.Proofs.YtfbeeaibejggdaaDoor
open Go.RowKit Go.Lib

set_option maxRecDepth 100000 in
set_option maxHeartbeats 3200000 in
theorem times_ok (n : Int) (s : ByteArray) (keys : List Int) (kids : List T) (v : Value) (time fr til : Int) (w : World) (hr : Rep w (.mk 10 n s keys kids) v) (hl : HasLaid w) (hlt : decide (0 < weightT (.mk 10 n s keys kids) 3000) = true) (hv : validB (.mk 10 n s keys kids) = true) (hx0 : 0 ≤ fr) (hx1 : fr ≤ til) (hx2 : til ≤ 1000000000) :
    Calls Tryd.prog 7 #[v, .int .i64 time, .int .i64 fr, .int .i64 til] w fun e w' => e = .returned (.bool true) ∧ Below w.heap.size w w' := by
  obtain ⟨t, ht⟩ : ∃ t : T, t = .mk 10 n s keys kids := ⟨_, rfl⟩
  have hcut : ∀ a b : Int, 0 ≤ a → a ≤ b → b ≤ 1000000000 → cutV t a b = (.mk 10 0 ⟨#[]⟩ (cutK keys a b keys.length) (cutL keys kids a b keys.length), 0) := fun a b h1 h2 h3 => by
    rw [ht, cutV, hv, if_pos rfl, if_pos (show (T.mk 10 n s keys kids).kind = 10 from rfl), if_neg (by omega)]; rfl
  obtain ⟨hkk, hkb⟩ := valid_sequence hv
  have hk0 : ∀ j, j < keys.length → 0 ≤ keys.getD j 0 := keys_nonneg hkb
  have hsum0 := cut_count keys kids til hk0 hx2 keys.length (Nat.le_refl _) (by omega)
  have hE2 : (cutV t fr til).2 = 0 := by rw [hcut fr til hx0 hx1 hx2]
  have hkeys0 : t.keys = keys := by rw [ht]; rfl
  rw [← ht] at hr hlt
  obtain ⟨LA, hLA⟩ : ∃ l, cutL keys kids 0 til keys.length = l := ⟨_, rfl⟩
  obtain ⟨LB, hLB⟩ : ∃ l, cutL keys kids til 1000000000 keys.length = l := ⟨_, rfl⟩
  rw [hLA, hLB] at hsum0
  clear hv ht hkb
  subst hkeys0
  have hr0 := hr
  have hc := light_cost hlt
  obtain ⟨ka, va, kc, vc, rfl, _, _, _, _, _, hkeys, _⟩ := rep_agg hr
  obtain ⟨X, hX⟩ : ∃ X : Obj, X = .cells #[.int .i64 t.kind, .int .i64 t.n, .string t.s, .slice ka t.keys.length kc, .slice va t.kids.length vc] 25 (0, 0) := ⟨_, rfl⟩
  obtain ⟨L, hL⟩ : ∃ L, (atV t time).1 = L := ⟨_, rfl⟩
  obtain ⟨E1, hE1⟩ : ∃ E, (atV t time).2 = E := ⟨_, rfl⟩
  obtain ⟨C, hC⟩ : ∃ C, (cutV t fr til).1 = C := ⟨_, rfl⟩
  have h8 := Lib.hid fun (wr : World) (hi : In1 w X wr) => (hlt ▸ light_any t _ wr (Rep.mono hi.same _ _ hr0))
  have h9 := Lib.hid fun (wr : World) (hi : In1 w X wr) => awake_any wr (hl.mono hi.same)
  have h29 := Lib.hid fun (wr : World) (hi : In1 w X wr) => (at_any t _ time wr (Rep.mono hi.same _ _ hr0) (hl.mono hi.same) hc).mono (R' := fun e w' => ∃ a c, e = .returned (.tuple #[.slice a L.length c, .int .i64 E1]) ∧ KidsIn w' a 0 L ∧ In1 w X w') fun e w' ⟨a, c, h1, h2, h3⟩ => ⟨a, c, by rw [h1, hL, hE1], hL ▸ h2, hi.next h3⟩
  have h30 := Lib.hid fun (wr : World) (hi : In1 w X wr) => (refAt_any t _ time wr (Rep.mono hi.same _ _ hr0) hc).mono (R' := fun e w' => ∃ a c, e = .returned (.tuple #[.slice a L.length c, .int .i64 E1]) ∧ KidsIn w' a 0 L ∧ In1 w X w' ∧ Below wr.heap.size wr w') fun e w' ⟨a, c, h1, h2, h3⟩ => ⟨a, c, by rw [h1, hL, hE1], hL ▸ h2, hi.next h3, h3⟩
  have h31 := Lib.hid fun (wr : World) (hi : In1 w X wr) => (cut_any t _ fr til wr (Rep.mono hi.same _ _ hr0) (hl.mono hi.same) hc).mono (R' := fun e w' => ∃ qk qn qs qa qb qc qd qe qf, e = .returned (.tuple #[.agg #[.int .i64 qk, .int .i64 qn, .string qs, .slice qa qb qc, .slice qd qe qf], .int .i64 0]) ∧ Rep w' C (.agg #[.int .i64 qk, .int .i64 qn, .string qs, .slice qa qb qc, .slice qd qe qf]) ∧ In1 w X w') fun e w' ⟨a1, a2, a3, a4, a5, a6, a7, a8, a9, h1, h2, h3⟩ => ⟨a1, a2, a3, a4, a5, a6, a7, a8, a9, by rw [h1, hE2], hC ▸ h2, hi.next h3⟩
  have h32 := Lib.hid fun (wr : World) (hi : In1 w X wr) => (refCut_any t _ fr til wr (Rep.mono hi.same _ _ hr0) hc).mono (R' := fun e w' => ∃ qk qn qs qa qb qc qd qe qf, e = .returned (.tuple #[.agg #[.int .i64 qk, .int .i64 qn, .string qs, .slice qa qb qc, .slice qd qe qf], .int .i64 0]) ∧ Rep w' C (.agg #[.int .i64 qk, .int .i64 qn, .string qs, .slice qa qb qc, .slice qd qe qf]) ∧ In1 w X w' ∧ Below wr.heap.size wr w') fun e w' ⟨a1, a2, a3, a4, a5, a6, a7, a8, a9, h1, h2, h3⟩ => ⟨a1, a2, a3, a4, a5, a6, a7, a8, a9, by rw [h1, hE2], hC ▸ h2, hi.next h3, h3⟩
  have h31a := Lib.hid fun (wr : World) (hi : In1 w X wr) => (cut_any t _ 0 til wr (Rep.mono hi.same _ _ hr0) (hl.mono hi.same) hc).mono (R' := fun e w' => ∃ ks qa qb qd qf, e = .returned (.tuple #[.agg #[.int .i64 10, .int .i64 0, .string ⟨#[]⟩, .slice qa ks qb, .slice qd LA.length qf], .int .i64 0]) ∧ In1 w X w') fun e w' ⟨a1, a2, a3, a4, a5, a6, a7, a8, a9, h1, h2, h3⟩ => by
    rw [hcut 0 til (by omega) (by omega) hx2, hLA] at h1 h2
    obtain ⟨_, _, _, _, h4, _⟩ := rep_mk h2
    rw [h4] at h1
    exact ⟨_, _, _, _, _, h1, hi.next h3⟩
  have h31b := Lib.hid fun (wr : World) (hi : In1 w X wr) => (cut_any t _ til 1000000000 wr (Rep.mono hi.same _ _ hr0) (hl.mono hi.same) hc).mono (R' := fun e w' => ∃ ks qa qb qd qf, e = .returned (.tuple #[.agg #[.int .i64 10, .int .i64 0, .string ⟨#[]⟩, .slice qa ks qb, .slice qd LB.length qf], .int .i64 0]) ∧ In1 w X w' ∧ Below wr.heap.size wr w') fun e w' ⟨a1, a2, a3, a4, a5, a6, a7, a8, a9, h1, h2, h3⟩ => by
    rw [hcut til 1000000000 (by omega) hx2 (by omega), hLB] at h1 h2
    obtain ⟨_, _, _, _, h4, _⟩ := rep_mk h2
    rw [h4] at h1
    exact ⟨_, _, _, _, _, h1, hi.next h3, h3⟩
  have HK := Lib.hid fun (wr : World) (hi : In1 w X wr) => KeysIn.mono hi.same hkeys
  have HC := Lib.hid fun (wr : World) (h : In1 w X wr) => In1.cells (hX ▸ h)
  have hll : L.length ≤ 3000 := hL ▸ at_short t time hc
  have hi0 := In1.first w X
  have hi0' : In1 w X (w.alloc (.cells #[.int .i64 t.kind, .int .i64 t.n, .string t.s, .slice ka t.keys.length kc, .slice va t.kids.length vc] 25)) := by rw [hX] at hi0 ⊢; exact hi0
  obtain ⟨x0, x1, x2, x3, x4⟩ := HC.out _ hi0'
  have hkl : t.keys.length ≤ 3000 := by
    obtain ⟨hc1, hc2, _⟩ := cost_bounds t
    omega
  have Hs := Lib.hid hsum0
  clear hX hi0 hlt hc hL hE1 hC hE2 hr hl hr0 hcut hkk hsum0 hLA hLB hkeys hk0
  go_enter Tryd.func7, Tryd.ntmps7
  go_wp2_with (first
    | (go_at_call 8; (with_reducible refine (h8.out _ hi0').mono ?_); rintro e w1 ⟨rfl, hb1⟩; have hi1 := In1.next hi0' hb1; clear x0 x1 x2 x3 x4; obtain ⟨x0, x1, x2, x3, x4⟩ := HC.out _ hi1; skip)
    | (go_at_call 29; (with_reducible refine (h29.out _ hi1).mono ?_); rintro e w2 ⟨a1, c1, rfl, hk1, hi2⟩; clear x0 x1 x2 x3 x4; obtain ⟨x0, x1, x2, x3, x4⟩ := HC.out _ hi2; skip)
    | (go_at_call 30; (with_reducible refine (h30.out _ hi2).mono ?_); rintro e w3 ⟨a2, c2, rfl, hk2, hi3, hb3⟩; have hk1' := KidsIn.mono (Same.of_below hb3) _ _ _ hk1; clear x0 x1 x2 x3 x4; skip))
  go_loopw [13] (fun i wr => ∃ k : Nat, i = .int .i64 k ∧ k ≤ L.length ∧ KidsIn wr a1 0 L ∧ KidsIn wr a2 0 L ∧ In1 w X wr) (fun i _ => L.length - (intOf i).toNat)
  case atStart => exact ⟨0, rfl, Nat.zero_le _, hk1', hk2, hi3⟩
  case round =>
    clear hk1' hk2 hi3 hb3 hk1 hi2 hi1 hb1 hi0'
    obtain ⟨k, rfl, hk, hka, hkb, hi4⟩ := hrel
    by_cases hlt : k < L.length
    · obtain ⟨b, off, u0, u1, u2, u3, u4, rfl, g0, g1, g2, g3, g4, hr1⟩ := KidsIn.at L 0 k hlt hka
      obtain ⟨b', off', v0, v1, v2, v3, v4, rfl, f0, f1, f2, f3, f4, hr2⟩ := KidsIn.at L 0 k hlt hkb
      simp only [Nat.zero_add] at g0 g1 g2 g3 g4 f0 f1 f2 f3 f4
      have w4 : (k : Int) < (L.length : Int) := by omega
      have hih := refSame_any L[k] L[k] _ _ _ (Rep.mono (Same.of_below (Below.refl _ wr).drew) _ _ hr1) (Rep.mono (Same.of_below (Below.refl _ wr).drew) _ _ hr2)
      rw [(sameT_iff L[k] L[k]).2 rfl] at hih
      have hi5 := hi4.drew
      have hka5 := KidsIn.mono (Same.of_below (Below.refl _ wr).drew) _ _ _ hka
      have hkb5 := KidsIn.mono (Same.of_below (Below.refl _ wr).drew) _ _ _ hkb
      go_upto_region 10 with fail
      go_still_tail 8, (by kernel_rfl)
      change wpList _ _ _ _ _ wr.drew
      generalize wr.drew = w6 at *
      clear hka hkb hi4
      go_wp2_with (go_at_call 19; refine hih.mono ?_; rintro e w7 ⟨rfl, hb7⟩)
      go_roundw
      case rel => exact ⟨k + 1, by go_num, by omega, KidsIn.mono (Same.of_below hb7) _ _ _ hka5, KidsIn.mono (Same.of_below hb7) _ _ _ hkb5, hi5.next hb7⟩
      case measure => simp [intOf]; omega
    · obtain rfl : k = L.length := by omega
      obtain ⟨x0, x1, x2, x3, x4⟩ := HC.out _ hi4
      clear hka hkb hlt hk
      go_wp2_with (first
        | (go_at_call 31; (with_reducible refine (h31.out _ hi4).mono ?_); rintro e w5 ⟨pk, pn, ps, pa, pb, pc, pd, pe, pf, rfl, hx, hi5⟩; have hi6 := In1.alloc hi5 (.cells #[.int .i64 pk, .int .i64 pn, .string ps, .slice pa pb pc, .slice pd pe pf] 25 (0, 0)); clear x0 x1 x2 x3 x4; obtain ⟨x0, x1, x2, x3, x4⟩ := HC.out _ hi6; skip)
        | (go_at_call 32; (with_reducible refine (h32.out _ hi6).mono ?_); rintro e w7 ⟨qk, qn, qs, qa, qb, qc, qd, qe, qf, rfl, hy, hi7, hb7⟩; have hi8 := In1.alloc hi7 (.cells #[.int .i64 qk, .int .i64 qn, .string qs, .slice qa qb qc, .slice qd qe qf] 25 (0, 0)); obtain ⟨z1, z2, z3, z4⟩ := two_answers (Y := .cells #[.int .i64 qk, .int .i64 qn, .string qs, .slice qa qb qc, .slice qd qe qf] 25 (0, 0)) hb7 hx hy; have h22 := told_same C _ _ 0 _ z1 z2; clear x0 x1 x2 x3 x4; obtain ⟨⟨y0, y1, y2, y3, y4⟩, _⟩ := five_all z3; clear z1 z2 z3 z4; obtain ⟨x0, x1, x2, x3, x4⟩ := HC.out _ hi8; skip)
        | (go_at_call 22; (with_reducible refine h22.mono ?_); rintro e w9 ⟨rfl, hb9⟩; have hi9 := hi8.next hb9; clear y0 y1 y2 y3 y4 x0 x1 x2 x3 x4; obtain ⟨x0, x1, x2, x3, x4⟩ := HC.out _ hi9; skip)
        | (go_at_call 31; (with_reducible refine (h31a.out _ hi9).mono ?_); rintro e w11 ⟨an, aa, ab, ac, ad, rfl, hi11⟩; have hi12 := In1.alloc hi11 (.cells #[.int .i64 10, .int .i64 0, .string ⟨#[]⟩, .slice aa an ab, .slice ac LA.length ad] 25 (0, 0)); clear x0 x1 x2 x3 x4; obtain ⟨x0, x1, x2, x3, x4⟩ := HC.out _ hi12; skip)
        | (go_at_call 31; (with_reducible refine (h31b.out _ hi12).mono ?_); rintro e w13 ⟨bn, ba, bb, bc, bd, rfl, hi13, hb13⟩; have hi14 := In1.alloc hi13 (.cells #[.int .i64 10, .int .i64 0, .string ⟨#[]⟩, .slice ba bn bb, .slice bc LB.length bd] 25 (0, 0)); obtain z3 := box_kept (Y := .cells #[.int .i64 10, .int .i64 0, .string ⟨#[]⟩, .slice ba bn bb, .slice bc LB.length bd] 25 (0, 0)) hb13; clear x0 x1 x2 x3 x4; obtain ⟨⟨_, _, _, _, y4⟩, _⟩ := five_all z3; clear z3; obtain ⟨x0, x1, x2, x3, x4⟩ := HC.out _ hi14; skip))
      go_loop [20, 21] (fun a b => ∃ k : Nat, b = .int .i64 k ∧ k ≤ t.keys.length ∧ a = .int .i64 (aheadK t.keys k : Nat)) (fun _ b => t.keys.length - (intOf b).toNat)
      case atStart => exact ⟨0, rfl, Nat.zero_le _, rfl⟩
      case round =>
        obtain ⟨k, rfl, hk, rfl⟩ := hrel
        have hak := ahead_le t.keys k
        by_cases hlt : k < t.keys.length
        · obtain ⟨kb, ko, rfl, g, _⟩ := HK.out _ hi14 k hlt
          obtain ⟨p, hp⟩ : ∃ p, t.keys.getD k 0 = p := ⟨_, rfl⟩
          rw [hp] at g
          have Hp := Lib.hid hp
          clear hp
          by_cases e : p < 1000000000
          · have hak1 := Lib.hid (ahead_yes Hp e)
            go_wp2_with fail
            go_round
            case rel => exact ⟨k + 1, by go_num, by omega, by rw [hak1.out]; go_num⟩
            case measure => simp [intOf]; omega
          · have hak1 := Lib.hid (ahead_no Hp e)
            have e' : 1000000000 ≤ p := by omega
            clear e
            go_wp2_with fail
            go_round
            case rel => exact ⟨k + 1, by go_num, by omega, by rw [hak1.out]⟩
            case measure => simp [intOf]; omega
        · obtain rfl : k = t.keys.length := by omega
          have hsm : ((LA.length : Int) + (LB.length : Int) == ((aheadK t.keys t.keys.length : Nat) : Int)) = true := by have := Hs.out; simp; omega
          have q1 : LA.length ≤ 3000 := by have := Hs.out; omega
          have q2 : LB.length ≤ 3000 := by have := Hs.out; omega
          clear hak hlt hk
          go_wp2_with (go_at_call 9; (with_reducible refine (h9.out _ hi14).mono ?_); rintro e w15 ⟨rfl, hb15⟩)
          go_ret
          exact ⟨rfl, (hi14.next hb15).out⟩
end Go.Proofs.YtfbeeaibejggdaaDoor
