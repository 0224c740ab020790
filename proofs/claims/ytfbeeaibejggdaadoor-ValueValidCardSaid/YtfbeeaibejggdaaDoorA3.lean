import Derived.Test.YtfbeeaibejggdaaDoorA2
namespace Go.Proofs.YtfbeeaibejggdaaDoor
open Go.RowKit

/-- What the walk needs of a kid: its five cells. -/
theorem kid_at {w : World} {a : Option Addr} {l : List T} (h : KidsIn w a 0 l) (j : Nat) (hj : j < l.length) :
    ∃ b off va vb s keys kids kd n, a = some ⟨b, off, none⟩ ∧ l[j] = T.mk kd n s keys kids ∧ w.cell? ⟨b, off + j * 5, none⟩ = some (.int .i64 kd) ∧ w.cell? ⟨b, off + j * 5 + 1, none⟩ = some (.int .i64 n) ∧ w.cell? ⟨b, off + j * 5 + 2, none⟩ = some (.string s) ∧ w.cell? ⟨b, off + j * 5 + 3, none⟩ = some va ∧ w.cell? ⟨b, off + j * 5 + 4, none⟩ = some vb ∧
      Rep w l[j] (.agg #[.int .i64 kd, .int .i64 n, .string s, va, vb]) ∧ I64 kd ∧ I64 n := by
  obtain ⟨b, off, v0, v1, v2, v3, v4, ha, g0, g1, g2, g3, g4, hr⟩ := KidsIn.at l 0 j hj h
  simp only [Nat.zero_add] at g0 g1 g2 g3 g4
  rcases hl : l[j] with ⟨kd, n, s, keys, kids⟩
  have hr' := hr
  rw [hl] at hr'
  unfold Rep at hr'
  obtain ⟨ka, va, kc, vc, hv, b1, b2, _⟩ := hr'
  injection hv with hv
  have e0 : v0 = .int .i64 kd := by have := congrArg (fun x : Array Value => x[0]!) hv; simpa using this
  have e1 : v1 = .int .i64 n := by have := congrArg (fun x : Array Value => x[1]!) hv; simpa using this
  have e2 : v2 = .string s := by have := congrArg (fun x : Array Value => x[2]!) hv; simpa using this
  subst e0; subst e1; subst e2
  exact ⟨b, off, v3, v4, s, keys, kids, kd, n, ha, rfl, g0, g1, g2, g3, g4, hl ▸ hr, b1, b2⟩

def intOk (t : T) : Bool := decide (t.kind = 3) && bareB t true false false false
def nAt (l : List T) (j : Nat) : Int := (l.map T.n).getD j 0
def distinctAt (f : Nat → Int) (k : Nat) : Bool := (List.range k).all fun j => j == 0 || !(f j == f k)
def enumB (f : Nat → Int) (n : Nat) : Bool := ((List.range n).any fun i => !(i == 0) && f i == f 0) && (List.range n).all fun k => k == 0 || distinctAt f k
def stepB (d lo st : Int) : Bool := (IntKind.u64.wrap (IntKind.u64.wrap d - IntKind.u64.wrap lo)).tmod (IntKind.u64.wrap st) == 0
def numbersB (how : Int) (l : List T) : Bool :=
  l.all intOk && !(l.length == 0) &&
    (if how = 1 then l.length == 1 else if how = 2 then enumB (nAt l) l.length
     else if how = 3 then l.length == 3 && decide (nAt l 1 ≤ nAt l 0) && decide (nAt l 0 ≤ nAt l 2)
     else if how = 4 then l.length == 4 && decide (nAt l 1 ≤ nAt l 0) && decide (nAt l 0 ≤ nAt l 2) && decide (0 < nAt l 3) && stepB (nAt l 0) (nAt l 1) (nAt l 3) else false)

theorem nAt_eq {l : List T} {j : Nat} (hj : j < l.length) {kd n : Int} {s : ByteArray} {keys : List Int} {kids : List T} (h : l[j] = T.mk kd n s keys kids) : nAt l j = n := by
  unfold nAt; simp [hj, h, T.n]
theorem intOk_bad {l : List T} {j : Nat} (hj : j < l.length) (h : intOk l[j] = false) (how : Int) : numbersB how l = false := by
  unfold numbersB
  have : l.all intOk = false := by rw [List.all_eq_false]; exact ⟨l[j], List.getElem_mem hj, by simp [h]⟩
  simp [this]
theorem intOk_kind {l : List T} {j : Nat} (hj : j < l.length) {kd n : Int} {s : ByteArray} {keys : List Int} {kids : List T} (h : l[j] = T.mk kd n s keys kids) (hk : ¬ kd = 3) : intOk l[j] = false := by
  rw [h]; simp [intOk, T.kind, hk]
theorem intOk_mk {l : List T} {j : Nat} (hj : j < l.length) {kd n : Int} {s : ByteArray} {keys : List Int} {kids : List T} (h : l[j] = T.mk kd n s keys kids) (hk : kd = 3) {b : Bool} (hb : bareB l[j] true false false false = b) : intOk l[j] = b := by
  rw [intOk, hb, h]; simp [T.kind, hk]

theorem u64_pos {n : Int} (h : 0 ≤ n) (h' : n ≤ 9223372036854775807) : IntKind.u64.wrap n = n := by
  unfold IntKind.wrap
  simp [IntKind.bits, IntKind.signed]
  omega

def fnd (f : Nat → Int) (m : Nat) : Bool := (List.range m).any fun i => !(i == 0) && f i == f 0
theorem fnd_succ (f : Nat → Int) (m : Nat) : fnd f (m + 1) = (fnd f m || (!(m == 0) && f m == f 0)) := by
  unfold fnd; rw [List.range_succ, List.any_append]; simp
theorem distinctAt_yes {f : Nat → Int} {k : Nat} (h : ∀ p, p < k → p = 0 ∨ f p ≠ f k) : distinctAt f k = true := by
  unfold distinctAt; exact all_yes fun j hj => by rcases h j hj with h | h <;> simp [h]
theorem distinctAt_no {f : Nat → Int} {k p : Nat} (hp : p < k) (h0 : p ≠ 0) (h : f p = f k) : distinctAt f k = false := by
  unfold distinctAt; exact all_no hp (by simp [h0, h])
theorem enumB_no {f : Nat → Int} {n k p : Nat} (hk : k < n) (hp : p < k) (h0 : p ≠ 0) (h : f p = f k) : enumB f n = false := by
  unfold enumB
  have : ((List.range n).all fun k => k == 0 || distinctAt f k) = false := all_no hk (by simp [distinctAt_no hp h0 h]; omega)
  rw [this, Bool.and_false]
theorem enumB_yes {f : Nat → Int} {n : Nat} (h : ∀ k, k < n → k = 0 ∨ distinctAt f k = true) : enumB f n = fnd f n := by
  unfold enumB
  have : ((List.range n).all fun k => k == 0 || distinctAt f k) = true := all_yes fun k hk => by rcases h k hk with h | h <;> simp [h]
  rw [this, Bool.and_true]; rfl

set_option maxHeartbeats 2000000 in
set_option maxRecDepth 100000 in
theorem numbers_enum (l : List T) (a : Option Addr) (c : Nat) (w : World) (hl : l.length ≤ 17592186044416) (hk : KidsIn w a 0 l) :
    Calls Tryd.prog 97 #[.int .i64 2, .slice a l.length c] w fun e w' => e = .returned (.bool (numbersB 2 l)) ∧ Below w.heap.size w w' := by
  go_enter Tryd.func97, Tryd.ntmps97
  go_wp2_with fail
  go_loopw [5] (fun i wr => ∃ (k : Nat), i = .int .i64 k ∧ k ≤ l.length ∧ (∀ j, (h : j < l.length) → j < k → intOk l[j] = true) ∧ Below w.heap.size w wr) (fun i _ => l.length - (intOf i).toNat)
  case atStart => exact ⟨0, rfl, Nat.zero_le _, fun _ _ h => absurd h (Nat.not_lt_zero _), Below.refl _ _⟩
  case round =>
    obtain ⟨k, rfl, hkl, hok, hb⟩ := hrel
    have Hok := Lib.hid hok
    clear hok
    have hkw := KidsIn.mono (Same.of_below hb) _ _ _ hk
    by_cases hlt : k < l.length
    · obtain ⟨b, off, va, vb, s, keys, kids, kd, n, rfl, hlk, g0, g1, g2, g3, g4, hr, b1, b2⟩ := kid_at hkw k hlt
      have Hlk := Lib.hid hlk
      clear hlk
      by_cases h3 : kd = 3
      · subst h3
        go_wp2_with (go_at_call 65; refine (bare_any _ _ _ hr true false false false).mono ?_; rintro e w1 ⟨rfl, hb1⟩)
        · have hbb : bareB l[k] true false false false = false := by rename_i h; simpa using h
          go_ret
          exact ⟨ret_bool (intOk_bad hlt (intOk_mk hlt Hlk.out rfl hbb) 2).symm, hb.trans (hb1.mono hb.size)⟩
        · have hbb : bareB l[k] true false false false = true := by rename_i h; simpa using h
          go_roundw
          case rel =>
            refine ⟨k + 1, by go_num, by omega, fun j hj hj' => ?_, hb.trans (hb1.mono hb.size)⟩
            by_cases e : j = k
            · subst e; exact intOk_mk hlt Hlk.out rfl hbb
            · exact Hok.out j hj (by omega)
          case measure => simp [intOf]; omega
      · go_wp2_with fail
        go_ret
        exact ⟨ret_bool (intOk_bad hlt (intOk_kind hlt Hlk.out h3) 2).symm, hb⟩
    · have hall : Hid (l.all intOk = true) := Lib.hid (by rw [List.all_eq_true]; intro t ht; obtain ⟨j, hj, rfl⟩ := List.getElem_of_mem ht; exact Hok.out j hj (by omega))
      by_cases h0 : l.length = 0
      · go_wp2_with fail
        go_ret
        exact ⟨ret_bool (by simp [numbersB, h0]), hb⟩
      obtain ⟨b, off, va, vb, s, keys, kids, kd, d, rfl, hl0, _, g1, _, _, _, _, _, b2⟩ := kid_at hkw 0 (by omega)
      simp only [Nat.zero_mul, Nat.add_zero] at g1
      have Hl0 := Lib.hid (nAt_eq (by omega) hl0)
      clear hl0
      have HB : Hid (numbersB 2 l = enumB (nAt l) l.length) := Lib.hid (by simp [numbersB, hall.out, h0])
      go_wp2_with fail
      go_loopw [7, 8] (fun fv i wr => ∃ (m : Nat), i = .int .i64 m ∧ 1 ≤ m ∧ m ≤ l.length ∧ fv = .bool (fnd (nAt l) m) ∧ (∀ k, k < m → k = 0 ∨ distinctAt (nAt l) k = true) ∧ Below w.heap.size w wr) (fun _ i _ => l.length - (intOf i).toNat)
      case atStart => exact ⟨1, rfl, Nat.le_refl _, by omega, by simp [fnd], fun k hk => Or.inl (by omega), hb⟩
      case round =>
        clear hb hkw g1
        obtain ⟨m, rfl, hm1, hml, rfl, hd, hb⟩ := hrel
        have Hd := Lib.hid hd
        clear hd
        have hkw := KidsIn.mono (Same.of_below hb) _ _ _ hk
        by_cases hlt : m < l.length
        · obtain ⟨b', off', va, vb, s, keys, kids, kd, x, hbo, hlm, _, f1, _, _, _, _, _, b3⟩ := kid_at hkw m hlt
          cases hbo
          have Hlm := Lib.hid (nAt_eq hlt hlm)
          clear hlm
          obtain ⟨fb, hfb⟩ : ∃ fb, fnd (nAt l) m = fb := ⟨_, rfl⟩
          rw [hfb]
          have Hf : Hid (fnd (nAt l) (m + 1) = (fb || x == d)) := Lib.hid (by
            have h1 : (m == 0) = false := by rw [beq_eq_false_iff_ne]; omega
            rw [fnd_succ, hfb, Hlm.out, Hl0.out, h1]; simp)
          clear hfb
          cases fb
          all_goals
            go_wp2_with fail
            go_loopw [9] (fun j wr => ∃ (q : Nat), j = .int .i64 q ∧ 1 ≤ q ∧ q ≤ m ∧ (∀ p, p < q → p = 0 ∨ nAt l p ≠ nAt l m) ∧ Below w.heap.size w wr) (fun j _ => m - (intOf j).toNat)
            case atStart => exact ⟨1, rfl, Nat.le_refl _, by omega, fun k hk => Or.inl (by omega), hb⟩
            case round =>
              clear hb hkw f1
              obtain ⟨q, rfl, hq1, hqm, hne, hb⟩ := hrel
              have Hne := Lib.hid hne
              clear hne
              have hkw := KidsIn.mono (Same.of_below hb) _ _ _ hk
              by_cases hq : q < m
              · obtain ⟨b', off', va, vb, s, keys, kids, kd, x, hbo, hlm, _, f1, _, _, _, _, _, b3⟩ := kid_at hkw m hlt
                cases hbo
                obtain ⟨b', off', va, vb, s, keys, kids, kd, y, hbo, hlq, _, f2, _, _, _, _, _, b3⟩ := kid_at hkw q (by omega)
                cases hbo
                have Hlx := Lib.hid (nAt_eq hlt hlm)
                have Hlq := Lib.hid (nAt_eq (by omega) hlq)
                clear hlm hlq
                have w4 : (q : Int) < (l.length : Int) := by omega
                have w5 : (m : Int) < (l.length : Int) := by omega
                by_cases hyx : y = x
                · have hyx' : (y == x) = true := by simp [hyx]
                  have Hyx := Lib.hid hyx
                  clear hyx
                  go_wp2_with fail
                  go_quiet (fail)
                  go_wp2_with fail
                  go_ret
                  exact ⟨ret_bool (by rw [HB.out, enumB_no hlt hq (by omega) (by rw [Hlx.out, Hlq.out, Hyx.out])]), below_drewN hb _⟩
                · have hyx' : (y == x) = false := by simp [hyx]
                  have Hyx := Lib.hid hyx
                  clear hyx
                  go_wp2_with fail
                  go_quiet (fail)
                  go_wp2_with fail
                  go_roundw
                  case rel =>
                    refine ⟨q + 1, by go_num, by omega, by omega, fun p hp => ?_, below_drewN hb _⟩
                    by_cases e : p = q
                    · subst e; exact Or.inr (by rw [Hlx.out, Hlq.out]; exact Hyx.out)
                    · exact Hne.out p (by omega)
                  case measure => simp [intOf]; omega
              · go_wp2_with fail
                go_roundw
                case rel =>
                  refine ⟨m + 1, by go_num, by omega, by omega, by rw [Hf.out]; simp, fun k' hk' => ?_, hb⟩
                  by_cases e : k' = m
                  · subst e; exact Or.inr (distinctAt_yes fun p hp => Hne.out p (by omega))
                  · exact Hd.out k' (by omega)
                case measure => simp [intOf]; omega
        · go_wp2_with fail
          go_ret
          refine ⟨ret_bool ?_, hb⟩
          have e : m = l.length := by omega
          rw [HB.out, enumB_yes (fun k hk => Hd.out k (by omega)), e]

set_option maxHeartbeats 2000000 in
set_option maxRecDepth 100000 in
theorem numbers_any (how : Int) (l : List T) (a : Option Addr) (c : Nat) (w : World) (hl : l.length ≤ 17592186044416) (hk : KidsIn w a 0 l) :
    Calls Tryd.prog 97 #[.int .i64 how, .slice a l.length c] w fun e w' => e = .returned (.bool (numbersB how l)) ∧ Below w.heap.size w w' := by
  by_cases e2 : how = 2
  · subst e2; exact numbers_enum l a c w hl hk
  go_enter Tryd.func97, Tryd.ntmps97
  go_wp2_with fail
  go_loopw [5] (fun i wr => ∃ (k : Nat), i = .int .i64 k ∧ k ≤ l.length ∧ (∀ j, (h : j < l.length) → j < k → intOk l[j] = true) ∧ Below w.heap.size w wr) (fun i _ => l.length - (intOf i).toNat)
  case atStart => exact ⟨0, rfl, Nat.zero_le _, fun _ _ h => absurd h (Nat.not_lt_zero _), Below.refl _ _⟩
  case round =>
    obtain ⟨k, rfl, hkl, hok, hb⟩ := hrel
    have Hok := Lib.hid hok
    clear hok
    have hkw := KidsIn.mono (Same.of_below hb) _ _ _ hk
    by_cases hlt : k < l.length
    · obtain ⟨b, off, va, vb, s, keys, kids, kd, n, rfl, hlk, g0, g1, g2, g3, g4, hr, b1, b2⟩ := kid_at hkw k hlt
      have Hlk := Lib.hid hlk
      clear hlk
      by_cases h3 : kd = 3
      · subst h3
        go_wp2_with (go_at_call 65; refine (bare_any _ _ _ hr true false false false).mono ?_; rintro e w1 ⟨rfl, hb1⟩)
        · have hbb : bareB l[k] true false false false = false := by rename_i h; simpa using h
          go_ret
          exact ⟨ret_bool (intOk_bad hlt (intOk_mk hlt Hlk.out rfl hbb) how).symm, hb.trans (hb1.mono hb.size)⟩
        · have hbb : bareB l[k] true false false false = true := by rename_i h; simpa using h
          go_roundw
          case rel =>
            refine ⟨k + 1, by go_num, by omega, fun j hj hj' => ?_, hb.trans (hb1.mono hb.size)⟩
            by_cases e : j = k
            · subst e; exact intOk_mk hlt Hlk.out rfl hbb
            · exact Hok.out j hj (by omega)
          case measure => simp [intOf]; omega
      · go_wp2_with fail
        go_ret
        exact ⟨ret_bool (intOk_bad hlt (intOk_kind hlt Hlk.out h3) how).symm, hb⟩
    · have hall : Hid (l.all intOk = true) := Lib.hid (by rw [List.all_eq_true]; intro t ht; obtain ⟨j, hj, rfl⟩ := List.getElem_of_mem ht; exact Hok.out j hj (by omega))
      by_cases h0 : l.length = 0
      · go_wp2_with fail
        go_ret
        exact ⟨ret_bool (by simp [numbersB, h0]), hb⟩
      obtain ⟨b, off, va, vb, s, keys, kids, kd, d, rfl, hl0, _, g1, _, _, _, _, _, b2⟩ := kid_at hkw 0 (by omega)
      simp only [Nat.zero_mul, Nat.add_zero] at g1
      have Hl0 := Lib.hid (nAt_eq (by omega) hl0)
      clear hl0
      by_cases e1 : how = 1
      · subst e1
        go_wp2_with fail
        go_ret
        refine ⟨ret_bool ?_, hb⟩
        by_cases e : l.length = 1
        · simp [numbersB, hall.out, e]
        · have h1 : ((l.length : Int) == 1) = false := by rw [beq_eq_false_iff_ne]; omega
          have h2 : (l.length == 1) = false := by rw [beq_eq_false_iff_ne]; exact e
          simp [numbersB, hall.out, h1, h2]
      by_cases e3 : how = 3
      · subst e3
        by_cases h3 : l.length = 3
        · obtain ⟨b', off', va, vb, s, keys, kids, kd, m, hbo, hl1, _, f1, _, _, _, _, _, b2⟩ := kid_at hkw 1 (by omega)
          cases hbo
          obtain ⟨b', off', va, vb, s, keys, kids, kd, m', hbo, hl2, _, f2, _, _, _, _, _, b2⟩ := kid_at hkw 2 (by omega)
          cases hbo
          have Hl1 := Lib.hid (nAt_eq (by omega) hl1)
          have Hl2 := Lib.hid (nAt_eq (by omega) hl2)
          clear hl1 hl2
          go_wp2_with fail
          all_goals
            go_ret
            refine ⟨ret_bool ?_, hb⟩
            simp [numbersB, hall.out, h3, Hl0.out, Hl1.out, Hl2.out]
            try (intros; omega)
        · go_wp2_with fail
          go_ret
          exact ⟨ret_bool (by simp [numbersB, hall.out, h0, h3]), hb⟩
      by_cases e4 : how = 4
      · subst e4
        by_cases h4 : l.length = 4
        · obtain ⟨b', off', va, vb, s, keys, kids, kd, m, hbo, hl1, _, f1, _, _, _, _, _, b3⟩ := kid_at hkw 1 (by omega)
          cases hbo
          obtain ⟨b', off', va, vb, s, keys, kids, kd, m', hbo, hl2, _, f2, _, _, _, _, _, b4⟩ := kid_at hkw 2 (by omega)
          cases hbo
          obtain ⟨b', off', va, vb, s, keys, kids, kd, st, hbo, hl3, _, f3, _, _, _, _, _, b5⟩ := kid_at hkw 3 (by omega)
          cases hbo
          have Hl1 := Lib.hid (nAt_eq (by omega) hl1)
          have Hl2 := Lib.hid (nAt_eq (by omega) hl2)
          have Hl3 := Lib.hid (nAt_eq (by omega) hl3)
          clear hl1 hl2 hl3
          unfold I64 at b2 b3 b4 b5
          by_cases t1 : m ≤ d
          · have t1' : decide (m ≤ d) = true := by simp [t1]
            by_cases t2 : d ≤ m'
            · have t2' : decide (d ≤ m') = true := by simp [t2]
              by_cases t3 : 0 < st
              · have t3' : decide (0 < st) = true := by simp [t3]
                have hu : IntKind.u64.wrap st = st := u64_pos (by omega) (by omega)
                have hu1 : st ≠ 0 := by omega
                go_wp2_with fail
                go_quiet (fail)
                go_wp2_with fail
                go_ret
                refine ⟨ret_bool ?_, below_drewN hb _⟩
                simp [numbersB, hall.out, h4, Hl0.out, Hl1.out, Hl2.out, Hl3.out, t1, t2, t3, stepB]
                rw [hu]
              · have t3' : decide (0 < st) = false := by simp; omega
                clear t3
                go_wp2_with fail
                go_quiet (fail)
                go_wp2_with fail
                go_ret
                refine ⟨ret_bool ?_, below_drewN hb _⟩
                simp [numbersB, hall.out, h4, Hl0.out, Hl1.out, Hl2.out, Hl3.out]
                intros; simp at t3'; omega
            · have t2' : decide (d ≤ m') = false := by simp; omega
              clear t2
              go_wp2_with fail
              go_quiet (fail)
              go_wp2_with fail
              go_ret
              refine ⟨ret_bool ?_, below_drewN hb _⟩
              simp [numbersB, hall.out, h4, Hl0.out, Hl1.out, Hl2.out]
              intros; simp at t2'; omega
          · have t1' : decide (m ≤ d) = false := by simp; omega
            clear t1
            go_wp2_with fail
            go_quiet (fail)
            go_wp2_with fail
            go_ret
            refine ⟨ret_bool ?_, below_drewN hb _⟩
            simp [numbersB, hall.out, h4, Hl0.out, Hl1.out]
            intros; simp at t1'; omega
        · have h4' : ((l.length : Int) == 4) = false := by rw [beq_eq_false_iff_ne]; omega
          go_wp2_with fail
          go_quiet (fail)
          go_wp2_with fail
          go_ret
          exact ⟨ret_bool (by simp [numbersB, hall.out, h0, h4]), below_drewN hb _⟩
      · have e1' : (how == 1) = false := by simp [e1]
        have e2' : (how == 2) = false := by simp [e2]
        have e3' : (how == 3) = false := by simp [e3]
        have e4' : (how == 4) = false := by simp [e4]
        have E := Lib.hid (And.intro e1 (And.intro e2 (And.intro e3 e4)))
        clear e1 e2 e3 e4
        go_wp2_with fail
        go_ret
        exact ⟨ret_bool (by simp [numbersB, E.out]), hb⟩
end Go.Proofs.YtfbeeaibejggdaaDoor
