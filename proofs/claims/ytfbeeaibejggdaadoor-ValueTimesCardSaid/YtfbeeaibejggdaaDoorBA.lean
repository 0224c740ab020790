import Derived.Test.YtfbeeaibejggdaaDoorAC
namespace Go.Proofs.YtfbeeaibejggdaaDoor
open Go.RowKit

theorem kid_full {w : World} {a : Option Addr} {l : List T} (h : KidsIn w a 0 l) (j : Nat) (hj : j < l.length) :
    ∃ b off ka kc va vc s keys kids kd n, a = some ⟨b, off, none⟩ ∧ l[j] = T.mk kd n s keys kids ∧ w.cell? ⟨b, off + j * 5, none⟩ = some (.int .i64 kd) ∧ w.cell? ⟨b, off + j * 5 + 1, none⟩ = some (.int .i64 n) ∧ w.cell? ⟨b, off + j * 5 + 2, none⟩ = some (.string s) ∧ w.cell? ⟨b, off + j * 5 + 3, none⟩ = some (.slice ka keys.length kc) ∧ w.cell? ⟨b, off + j * 5 + 4, none⟩ = some (.slice va kids.length vc) ∧
      Rep w l[j] (.agg #[.int .i64 kd, .int .i64 n, .string s, .slice ka keys.length kc, .slice va kids.length vc]) := by
  obtain ⟨b, off, v0, v1, v2, v3, v4, ha, g0, g1, g2, g3, g4, hr⟩ := KidsIn.at l 0 j hj h
  simp only [Nat.zero_add] at g0 g1 g2 g3 g4
  rcases hl : l[j] with ⟨kd, n, s, keys, kids⟩
  have hr' := hr
  rw [hl] at hr'
  obtain ⟨ka, va, kc, vc, hv, _⟩ := rep_mk hr'
  injection hv with hv
  have e0 : v0 = .int .i64 kd := by have := congrArg (fun x : Array Value => x[0]!) hv; simpa using this
  have e1 : v1 = .int .i64 n := by have := congrArg (fun x : Array Value => x[1]!) hv; simpa using this
  have e2 : v2 = .string s := by have := congrArg (fun x : Array Value => x[2]!) hv; simpa using this
  have e3 : v3 = .slice ka keys.length kc := by have := congrArg (fun x : Array Value => x[3]!) hv; simpa using this
  have e4 : v4 = .slice va kids.length vc := by have := congrArg (fun x : Array Value => x[4]!) hv; simpa using this
  subst e0; subst e1; subst e2; subst e3; subst e4
  exact ⟨b, off, ka, kc, va, vc, s, keys, kids, kd, n, ha, rfl, g0, g1, g2, g3, g4, hl ▸ hr⟩

def listAt (l : List T) (t : T) : Bool := decide (t.kind = (l.head?.map T.kind).getD 0) && (decide (t.kind = 2) || decide (t.kind = 3) || decide (t.kind = 4))

set_option maxHeartbeats 1000000 in
theorem listSound_any (kids : List T) (va : Option Addr) (vc : Nat) (w : World) (hvl : kids.length ≤ 17592186044416) (hkids : KidsIn w va 0 kids) :
    Calls Tryd.prog 92 #[.slice va kids.length vc] w fun e w' => e = .returned (.bool (listOk kids)) ∧ Below w.heap.size w w' := by
  go_enter Tryd.func92, Tryd.ntmps92
  go_wp2_with fail
  go_loopw [7] (fun i wr => ∃ (k : Nat), i = .int .i64 k ∧ k ≤ kids.length ∧ (∀ j, (h : j < kids.length) → j < k → listAt kids kids[j] = true) ∧ Below w.heap.size w wr) (fun i _ => kids.length - (intOf i).toNat)
  case atStart => exact ⟨0, rfl, Nat.zero_le _, fun _ _ h => absurd h (Nat.not_lt_zero _), Below.refl _ _⟩
  case round =>
    obtain ⟨k, rfl, hkl', hok, hb⟩ := hrel
    have Hok := Lib.hid hok
    clear hok
    have hkw := KidsIn.mono (Same.of_below hb) _ _ _ hkids
    by_cases hlt : k < kids.length
    · obtain ⟨b, off, ka', kc', va', vc', s', keys', kids', kd, n', rfl, hlk, g0, g1, g2, g3, g4, _⟩ := kid_full hkw k hlt
      have hkw2 := KidsIn.mono (same_alloc wr (.cells #[.int .i64 kd, .int .i64 n', .string s', .slice ka' keys'.length kc', .slice va' kids'.length vc'] 25)) _ _ _ hkw
      obtain ⟨b', off', va'', vb'', s'', keys'', kids'', kd0, n'', hbo, hl0, f0, _, _, _, _, _, _, _⟩ := kid_at hkw2 0 (by omega)
      cases hbo
      simp only [Nat.zero_mul, Nat.add_zero] at f0
      have Hhead : Hid ((kids.head?.map T.kind).getD 0 = kd0) := Lib.hid (by
        rw [List.head?_eq_getElem?, List.getElem?_eq_getElem (by omega : 0 < kids.length), hl0]; rfl)
      have Hat : Hid (listAt kids kids[k] = (decide (kd = kd0) && (decide (kd = 2) || decide (kd = 3) || decide (kd = 4)))) := Lib.hid (by
        unfold listAt; rw [Hhead.out, hlk]; rfl)
      have Hbad : Hid (listAt kids kids[k] = false → listOk kids = false) := Lib.hid (fun hf => by
        unfold listOk; rw [List.all_eq_false]; exact ⟨kids[k], List.getElem_mem hlt, by show ¬ listAt kids kids[k] = true; rw [hf]; simp⟩)
      have w0 : (0 : Int) < (kids.length : Int) := by omega
      clear hlk hl0 hkw2
      by_cases c0 : kd = kd0
      · subst c0
        go_wp2_with fail
        all_goals first
          | (go_ret
             exact ⟨ret_bool (Hbad.out (by rw [Hat.out]; clear Hok Hbad Hat; simp_all)).symm, hb.alloc hb.size _⟩)
          | (go_quiet (fail)
             go_wp2_with fail
             go_roundw
             case rel =>
               refine ⟨k + 1, by go_num, by omega, fun j hj hj' => ?_, below_drewN (hb.alloc hb.size _) _⟩
               by_cases e : j = k
               · subst e; rw [Hat.out]; clear Hok Hbad Hat; simp_all
               · exact Hok.out j hj (by omega)
             case measure => simp [intOf]; omega)
      · have c0' : (kd == kd0) = false := by simp [c0]
        have C0 := Lib.hid c0
        clear c0
        go_wp2_with fail
        all_goals first
          | (go_ret
             exact ⟨ret_bool (Hbad.out (by rw [Hat.out]; simp [C0.out])).symm, hb.alloc hb.size _⟩)
          | (go_quiet (fail)
             go_wp2_with fail
             go_ret
             exact ⟨ret_bool (Hbad.out (by rw [Hat.out]; simp [C0.out])).symm, below_drewN (hb.alloc hb.size _) _⟩)
    · go_wp2_with fail
      go_ret
      refine ⟨ret_bool ?_, hb⟩
      have : listOk kids = true := by
        unfold listOk; rw [List.all_eq_true]; intro t ht; obtain ⟨j, hj, rfl⟩ := List.getElem_of_mem ht; exact Hok.out j hj (by omega)
      exact this.symm

def objectB (t : T) : Bool := decide (0 ≤ t.n) && decide (t.n ≤ 2147483647) && t.keys.length == t.kids.length && keysB t.keys 2147483647 true

set_option maxHeartbeats 1000000 in
theorem objectSound_any (t : T) (v : Value) (w : World) (hr : Rep w t v) :
    Calls Tryd.prog 93 #[v] w fun e w' => e = .returned (.bool (objectB t)) ∧ Below w.heap.size w w' := by
  obtain ⟨kd, n, s, keys, kids⟩ := t
  obtain ⟨ka, va, kc, vc, rfl, _, _, hs, hkl, hvl, hkeys, hkids⟩ := rep_mk hr
  have HO : Hid (objectB (.mk kd n s keys kids) = (decide (0 ≤ n) && decide (n ≤ 2147483647) && keys.length == kids.length && keysB keys 2147483647 true)) := Lib.hid rfl
  obtain ⟨nb, hnb⟩ : ∃ nb, (decide (0 ≤ n) && decide (n ≤ 2147483647)) = nb := ⟨_, rfl⟩
  have hnum := objectNumber_any n
  rw [hnb] at hnum
  have Hnb := Lib.hid hnb
  clear hnb
  go_enter Tryd.func93, Tryd.ntmps93
  go_wp2_with (go_at_call 106; (with_reducible refine (hnum _).mono ?_); rintro e w1 ⟨rfl, rfl⟩)
  · go_ret
    exact ⟨ret_bool (by rw [HO.out, Hnb.out]; simp_all), (Below.refl _ _).alloc (Nat.le_refl _) _⟩
  · go_ret
    refine ⟨ret_bool ?_, (Below.refl _ _).alloc (Nat.le_refl _) _⟩
    have h2 : ((keys.length : Int) != (kids.length : Int)) = true := by assumption
    have h3 : (keys.length == kids.length) = false := by rw [beq_eq_false_iff_ne]; intro h; rw [h] at h2; simp at h2
    rw [HO.out, h3]; simp
  · rename (((keys.length : Int) != (kids.length : Int)) = false) => h2
    rename (nb = true) => e1
    have HB : Hid (objectB (.mk kd n s keys kids) = keysB keys 2147483647 true) := Lib.hid (by
      have h3 : (keys.length == kids.length) = true := by rw [beq_iff_eq]; have := eq_of_beq (not_f (by rw [← h2]; rfl)); omega
      rw [HO.out, Hnb.out, h3, e1]; simp)
    clear HO h2 e1
    go_loopw [21] (fun i wr => ∃ (k : Nat), i = .int .i64 k ∧ k ≤ keys.length ∧ (∀ j, j < k → okKey keys 2147483647 true j = true) ∧ Below (w.heap.size + 1) (w.alloc (.cells #[.int .i64 kd, .int .i64 n, .string s, .slice ka keys.length kc, .slice va kids.length vc] 25)) wr) (fun i _ => keys.length - (intOf i).toNat)
    case atStart => exact ⟨0, rfl, Nat.zero_le _, fun _ h => absurd h (Nat.not_lt_zero _), Below.refl _ _⟩
    case round =>
      obtain ⟨k, rfl, hkl', hok, hb⟩ := hrel
      have Hok := Lib.hid hok
      clear hok
      obtain ⟨x0, x1, x2, x3, x4⟩ := box_at hb
      by_cases hlt : k < keys.length
      · obtain ⟨b, off, rfl, hc, _⟩ := (hkeys.mono (Same.of_box hb)) k hlt
        obtain ⟨x, hx⟩ : ∃ x, keys.getD k 0 = x := ⟨_, rfl⟩
        rw [hx] at hc
        have Hx := Lib.hid hx
        clear hx
        obtain ⟨xb, hxb⟩ : ∃ xb, (decide (0 ≤ x) && decide (x ≤ 2147483647)) = xb := ⟨_, rfl⟩
        have hxnum := objectNumber_any x
        rw [hxb] at hxnum
        have Hxb := Lib.hid hxb
        clear hxb
        cases xb with
        | false =>
          go_wp2_with (go_at_call 106; (with_reducible refine (hxnum _).mono ?_); rintro e w1 ⟨rfl, rfl⟩)
          go_ret
          refine ⟨ret_bool ?_, box_out hb⟩
          rw [HB.out]
          refine (all_no hlt ?_).symm
          rw [okKey, Hx.out, Hxb.out, Bool.false_and]
        | true =>
          have hxx := Hxb.out
          simp only [Bool.and_eq_true, decide_eq_true_eq] at hxx
          have h1 := hxx.1
          have h2 := hxx.2
          clear hxx
          by_cases h3 : k = 0
          · subst h3
            simp only [Nat.add_zero] at hc
            go_wp2_with (go_at_call 106; (with_reducible refine (hxnum _).mono ?_); rintro e w1 ⟨rfl, rfl⟩)
            go_roundw
            case rel => exact ⟨0 + 1, rfl, by omega, ok_snoc Hok (okKey_zero Hx h1 h2), hb⟩
            case measure => simp [intOf]; omega
          · obtain ⟨b', off', hbo, hc', _⟩ := (hkeys.mono (Same.of_box hb)) (k - 1) (by omega)
            cases hbo
            obtain ⟨y, hy⟩ : ∃ y, keys.getD (k - 1) 0 = y := ⟨_, rfl⟩
            rw [hy] at hc'
            have Hy := Lib.hid hy
            clear hy
            have h3p : 0 < k := by omega
            by_cases h4 : x ≤ y
            · go_wp2_with (go_at_call 106; (with_reducible refine (hxnum _).mono ?_); rintro e w1 ⟨rfl, rfl⟩)
              go_ret
              refine ⟨ret_bool ?_, box_out hb⟩
              rw [HB.out]
              refine (all_no hlt ?_).symm
              by_cases h5 : y = x
              · exact okKey_same Hx Hy h3 rfl h5
              · exact okKey_falls Hx Hy h3 (by omega)
            · go_wp2_with (go_at_call 106; (with_reducible refine (hxnum _).mono ?_); rintro e w1 ⟨rfl, rfl⟩)
              go_roundw
              case rel => exact ⟨k + 1, by go_num, by omega, ok_snoc Hok (okKey_next Hx Hy h1 h2 (by omega) (by intro h; omega)), hb⟩
              case measure => simp [intOf]; omega
      · go_wp2_with fail
        go_ret
        exact ⟨ret_bool (by rw [HB.out]; exact (all_yes fun j hj => Hok.out j (by omega)).symm), box_out hb⟩
end Go.Proofs.YtfbeeaibejggdaaDoor
namespace Go.Proofs.YtfbeeaibejggdaaDoor
open Go.RowKit

def noSeq (kids : List T) : Bool := kids.all fun x => !decide (x.kind = 10)
def sequenceB (t : T) : Bool := t.keys.length == t.kids.length && keysB t.keys 1000000000 false && noSeq t.kids

theorem okKey_next' {l : List Int} {high x y : Int} {j : Nat} (hx : Hid (l.getD j 0 = x)) (hy : Hid (l.getD (j - 1) 0 = y)) (h1 : 0 ≤ x) (h2 : x ≤ high) (h3 : y ≤ x) : okKey l high false j = true := okKey_next hx hy h1 h2 h3 (by simp)

set_option maxHeartbeats 1600000 in
theorem sequenceSound_any (t : T) (v : Value) (w : World) (hr : Rep w t v) :
    Calls Tryd.prog 95 #[v] w fun e w' => e = .returned (.bool (sequenceB t)) ∧ Below w.heap.size w w' := by
  obtain ⟨kd, n, s, keys, kids⟩ := t
  obtain ⟨ka, va, kc, vc, rfl, _, _, hs, hkl, hvl, hkeys, hkids⟩ := rep_mk hr
  have HO : Hid (sequenceB (.mk kd n s keys kids) = (keys.length == kids.length && keysB keys 1000000000 false && noSeq kids)) := Lib.hid rfl
  go_enter Tryd.func95, Tryd.ntmps95
  go_wp2_with fail
  · rename (((keys.length : Int) != (kids.length : Int)) = true) => h2
    go_ret
    refine ⟨ret_bool ?_, (Below.refl _ _).alloc (Nat.le_refl _) _⟩
    have h3 : (keys.length == kids.length) = false := by rw [beq_eq_false_iff_ne]; intro h; rw [h] at h2; simp at h2
    rw [HO.out, h3]; simp
  · rename (((keys.length : Int) != (kids.length : Int)) = false) => h2
    have HL : Hid (keys.length = kids.length) := Lib.hid (by have := eq_of_beq (not_f (by rw [← h2]; rfl)); omega)
    have HB : Hid (sequenceB (.mk kd n s keys kids) = (keysB keys 1000000000 false && noSeq kids)) := Lib.hid (by
      have h3 : (keys.length == kids.length) = true := by rw [beq_iff_eq]; exact HL.out
      rw [HO.out, h3]; simp)
    clear HO h2
    go_loopw [15] (fun i wr => ∃ (k : Nat), i = .int .i64 k ∧ k ≤ keys.length ∧ (∀ j, j < k → okKey keys 1000000000 false j = true) ∧ (∀ j, (h : j < kids.length) → j < k → (!decide (kids[j].kind = 10)) = true) ∧ Below (w.heap.size + 1) (w.alloc (.cells #[.int .i64 kd, .int .i64 n, .string s, .slice ka keys.length kc, .slice va kids.length vc] 25)) wr) (fun i _ => keys.length - (intOf i).toNat)
    case atStart => exact ⟨0, rfl, Nat.zero_le _, fun _ h => absurd h (Nat.not_lt_zero _), fun _ _ h => absurd h (Nat.not_lt_zero _), Below.refl _ _⟩
    case round =>
      obtain ⟨k, rfl, hkl', hok, hok2, hb⟩ := hrel
      have Hok := Lib.hid hok
      have Hok2 := Lib.hid hok2
      clear hok hok2
      obtain ⟨x0, x1, x2, x3, x4⟩ := box_at hb
      by_cases hlt : k < keys.length
      · obtain ⟨b, off, rfl, hc, _⟩ := (hkeys.mono (Same.of_box hb)) k hlt
        obtain ⟨x, hx⟩ : ∃ x, keys.getD k 0 = x := ⟨_, rfl⟩
        rw [hx] at hc
        have Hx := Lib.hid hx
        clear hx
        have hltv : k < kids.length := by have := HL.out; omega
        obtain ⟨b2, off2, ka', kc', va', vc', s', keys', kids', kq, n', rfl, hlk, g0, _, _, _, _, _⟩ := kid_full (KidsIn.mono (Same.of_box hb) _ _ _ hkids) k hltv
        have Hlk := Lib.hid hlk
        clear hlk
        have hltv' : (k : Int) < (kids.length : Int) := by omega
        have Hbad : Hid (okKey keys 1000000000 false k = false → sequenceB (.mk kd n s keys kids) = false) := Lib.hid (fun hf => by rw [HB.out]; unfold keysB; rw [all_no hlt hf]; simp)
        have Hbad2 : Hid (kq = 10 → sequenceB (.mk kd n s keys kids) = false) := Lib.hid (fun hf => by
          have : noSeq kids = false := by
            unfold noSeq; rw [List.all_eq_false]; exact ⟨kids[k], List.getElem_mem hltv, by rw [Hlk.out]; simp [T.kind, hf]⟩
          rw [HB.out, this]; simp)
        have Hgood2 : Hid (kq ≠ 10 → ∀ j, (h : j < kids.length) → j < k + 1 → (!decide (kids[j].kind = 10)) = true) := Lib.hid (fun hf j hj hj' => by
          by_cases e : j = k
          · subst e; rw [Hlk.out]; simp [T.kind, hf]
          · exact Hok2.out j hj (by omega))
        clear Hlk
        by_cases h1 : x < 0
        · go_wp2_with fail
          go_ret
          exact ⟨ret_bool (Hbad.out (okKey_lt Hx h1)).symm, box_out hb⟩
        by_cases h2 : 1000000000 < x
        · go_wp2_with fail
          go_ret
          exact ⟨ret_bool (Hbad.out (okKey_gt Hx h2)).symm, box_out hb⟩
        by_cases h3 : k = 0
        · subst h3
          simp only [Nat.add_zero, Nat.zero_mul] at hc g0
          by_cases h5 : kq = 10
          · have h5' : (kq == 10) = true := by simp [h5]
            have H5 := Lib.hid h5
            clear h5
            go_wp2_with fail
            go_ret
            exact ⟨ret_bool (Hbad2.out H5.out).symm, box_out hb⟩
          · have h5' : (kq == 10) = false := by simp [h5]
            have H5 := Lib.hid h5
            clear h5
            go_wp2_with fail
            go_roundw
            case rel => exact ⟨0 + 1, rfl, by omega, ok_snoc Hok (okKey_zero Hx (by omega) (by omega)), Hgood2.out H5.out, hb⟩
            case measure => simp [intOf]; omega
        · obtain ⟨b', off', hbo, hc', _⟩ := (hkeys.mono (Same.of_box hb)) (k - 1) (by omega)
          cases hbo
          obtain ⟨y, hy⟩ : ∃ y, keys.getD (k - 1) 0 = y := ⟨_, rfl⟩
          rw [hy] at hc'
          have Hy := Lib.hid hy
          clear hy
          have h3p : 0 < k := by omega
          by_cases h4 : x < y
          · go_wp2_with fail
            go_ret
            exact ⟨ret_bool (Hbad.out (okKey_falls Hx Hy h3 h4)).symm, box_out hb⟩
          · by_cases h5 : kq = 10
            · have h5' : (kq == 10) = true := by simp [h5]
              have H5 := Lib.hid h5
              clear h5
              go_wp2_with fail
              go_ret
              exact ⟨ret_bool (Hbad2.out H5.out).symm, box_out hb⟩
            · have h5' : (kq == 10) = false := by simp [h5]
              have H5 := Lib.hid h5
              clear h5
              go_wp2_with fail
              go_roundw
              case rel => exact ⟨k + 1, by go_num, by omega, ok_snoc Hok (okKey_next' Hx Hy (by omega) (by omega) (by omega)), Hgood2.out H5.out, hb⟩
              case measure => simp [intOf]; omega
      · go_wp2_with fail
        go_ret
        refine ⟨ret_bool ?_, box_out hb⟩
        have e1 : keysB keys 1000000000 false = true := all_yes fun j hj => Hok.out j (by omega)
        have e2 : noSeq kids = true := by
          unfold noSeq; rw [List.all_eq_true]; intro t ht; obtain ⟨j, hj, rfl⟩ := List.getElem_of_mem ht; exact Hok2.out j hj (by have := HL.out; omega)
        rw [HB.out, e1, e2]; rfl
end Go.Proofs.YtfbeeaibejggdaaDoor
namespace Go.Proofs.YtfbeeaibejggdaaDoor
open Go.RowKit

set_option maxHeartbeats 1000000 in
theorem inRange_any (n lo hi : Int) (b off len cap : Nat) (w : World) (hl : 2 ≤ len) (c0 : w.cell? ⟨b, off, none⟩ = some (.int .i64 lo)) (c1 : w.cell? ⟨b, off + 1, none⟩ = some (.int .i64 hi)) :
    Calls Tryd.prog 109 #[.int .i64 n, .slice (some ⟨b, off, none⟩) len cap] w fun e w' => e = .returned (.bool (decide (lo ≤ n) && decide (n ≤ hi))) ∧ w = w' := by
  have l0 : (0 : Int) < (len : Int) := by omega
  have l1 : (1 : Int) < (len : Int) := by omega
  by_cases h1 : lo ≤ n <;> by_cases h2 : n ≤ hi <;>
  · go_enter Tryd.func109, Tryd.ntmps109
    go_wp2_with fail
    go_ret
    exact ⟨ret_bool (by simp [*] <;> omega), rfl⟩

set_option maxHeartbeats 1000000 in
theorem onStep_any (d lo st : Int) (w : World) (h0 : 0 < st) (h1 : st ≤ 9223372036854775807) :
    Calls Tryd.prog 110 #[.int .i64 d, .int .i64 lo, .int .i64 st] w fun e w' => e = .returned (.bool (stepB d lo st)) ∧ w = w' := by
  have hu : IntKind.u64.wrap st = st := u64_pos (by omega) (by omega)
  have hu1 : st ≠ 0 := by omega
  go_enter Tryd.func110, Tryd.ntmps110
  go_wp2_with fail
  go_ret
  exact ⟨ret_bool (by unfold stepB; rw [hu]), rfl⟩
end Go.Proofs.YtfbeeaibejggdaaDoor
