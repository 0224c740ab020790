import Derived.Test.YtfbeeaibejggdaaDoorProg
import Derived.Test.YtfbeeaibejggdaaDoorBase
import Derived.BigGuardPart
import Derived.Outline
import Derived.Deep.QuietTactic
import Derived.BigQuiet
import Derived.IntWalk
namespace Go.Proofs.YtfbeeaibejggdaaDoor
open Go.RowKit

set_option maxHeartbeats 400000 in
theorem weight_any (N : Nat) : ∀ (t : T) (v : Value) (left : Int) (w : World), SizeOf.sizeOf t ≤ N → Rep w t v → 0 < left → left ≤ 3000 →
    Calls Tryd.prog 33 #[v, .int .i64 left] w fun e w' => e = .returned (.int .i64 (weightT t left)) ∧ Below w.heap.size w w' := by
  induction N with
  | zero => intro t; cases t; intro _ _ _ h; simp at h
  | succ N ih =>
    rintro ⟨kd, n, s, keys, kids⟩ v left w hN hr h1 h2
    unfold Rep at hr
    obtain ⟨ka, va, kc, vc, rfl, _, _, hs, hkl, hvl, _, hkids⟩ := hr
    have hs0 : 0 ≤ (s.size : Int) / 64 := by omega
    have hs1 : (s.size : Int) / 64 ≤ 140737488355328 := by omega
    go_enter Tryd.func33, Tryd.ntmps33
    go_wp2_with fail
    go_loopw [1, 5] (fun l i wr => ∃ (k : Nat), i = .int .i64 k ∧ k ≤ kids.length ∧ l = .int .i64 (weightL (kids.take k) (left - 1 - keys.length - s.size / 64)) ∧ Below (w.heap.size + 1) (w.alloc (.cells #[.int .i64 kd, .int .i64 n, .string s, .slice ka keys.length kc, .slice va kids.length vc] 25)) wr) (fun _ i _ => kids.length - (intOf i).toNat)
    case atStart => exact ⟨0, rfl, Nat.zero_le _, by simp [weightL], Below.refl _ _⟩
    case round =>
      obtain ⟨k, rfl, hk, rfl, hb⟩ := hrel
      have hc4 : wr.cell? ⟨w.heap.size, 4, none⟩ = some (.slice va kids.length vc) := by rw [hb.cell (by simp)]; simp [go_sem]
      by_cases hlt : k < kids.length
      · by_cases hq : 0 < weightL (kids.take k) (left - 1 - keys.length - s.size / 64)
        · obtain ⟨b, off, v0, v1, v2, v3, v4, rfl, g0, g1, g2, g3, g4, hrk⟩ := KidsIn.at kids 0 k hlt (KidsIn.mono (Same.of_box hb) _ _ _ hkids)
          simp only [Nat.zero_add] at g0 g1 g2 g3 g4
          have hsz := kid_size hN hlt
          have hle : weightL (kids.take k) (left - 1 - keys.length - s.size / 64) ≤ 3000 := by have := weightL_le' (kids.take k) (left - 1 - keys.length - s.size / 64); omega
          have hn := weightL_snoc kids[k] (kids.take k) (left - 1 - keys.length - s.size / 64)
          rw [← take_next kids k hlt, if_pos hq] at hn
          have Hn := Lib.hid hn
          clear hn
          go_wp2_with (go_at_call 33; refine (ih _ _ _ _ hsz hrk hq hle).mono ?_; rintro e w1 ⟨rfl, hb1⟩)
          go_roundw
          case rel => exact ⟨k + 1, by go_num, by omega, by rw [Hn.out], hb.trans (hb1.mono (by have := hb.size; simp at this; omega))⟩
          case measure => simp [intOf]; omega
        · go_wp2_with fail
          go_ret
          refine ⟨?_, ?_⟩
          · rw [weightT, weightL_stop kids k _ (by omega)]; rfl
          · exact (((Below.refl _ _).alloc (Nat.le_refl _) _).trans (hb.mono (by omega)))
      · go_wp2_with fail
        go_ret
        refine ⟨?_, ?_⟩
        · rw [weightT, take_end _ _ hk hlt]; rfl
        · exact (((Below.refl _ _).alloc (Nat.le_refl _) _).trans (hb.mono (by omega)))
/-- Has a value none of the fields that are not allowed? -/
def bareB (t : T) (fn fs fk fkids : Bool) : Bool := (fn || decide (t.n = 0)) && (fs || t.s.toList.isEmpty) && (fk || (t.keys.length : Int) == 0) && (fkids || (t.kids.length : Int) == 0)

set_option maxHeartbeats 1000000 in
theorem bare_any (t : T) (v : Value) (w : World) (hr : Rep w t v) (fn fs fk fkids : Bool) :
    Calls Tryd.prog 65 #[v, .bool fn, .bool fs, .bool fk, .bool fkids] w fun e w' => e = .returned (.bool (bareB t fn fs fk fkids)) ∧ Below w.heap.size w w' := by
  obtain ⟨kd, n, s, keys, kids⟩ := t
  unfold Rep at hr
  obtain ⟨ka, va, kc, vc, rfl, _, _, _, _, _, _, _⟩ := hr
  go_enter Tryd.func65, Tryd.ntmps65
  go_wp2
  all_goals
    go_ret
    exact ⟨by simp only [bareB, T.n, T.s, T.keys, T.kids]; generalize (keys.length : Int) = a at *; generalize (kids.length : Int) = b at *; simp_all, (Below.refl _ _).alloc (Nat.le_refl _) _⟩
end Go.Proofs.YtfbeeaibejggdaaDoor
namespace Go.Proofs.YtfbeeaibejggdaaDoor
open Go.RowKit

theorem ret_bool {a b : Bool} (h : a = b) : Ending.returned (.bool a) = .returned (.bool b) := by rw [h]

def okKey (l : List Int) (high : Int) (strict : Bool) (j : Nat) : Bool :=
  decide (0 ≤ l.getD j 0) && decide (l.getD j 0 ≤ high) && (j == 0 || (decide (l.getD (j - 1) 0 ≤ l.getD j 0) && !(strict && decide (l.getD (j - 1) 0 = l.getD j 0))))
def keysB (l : List Int) (high : Int) (strict : Bool) : Bool := (List.range l.length).all (okKey l high strict)

theorem all_yes {n : Nat} {f : Nat → Bool} (h : ∀ j, j < n → f j = true) : (List.range n).all f = true := by
  simp only [List.all_eq_true, List.mem_range]; exact h
theorem all_no {n j : Nat} {f : Nat → Bool} (hj : j < n) (h : f j = false) : (List.range n).all f = false := by
  simp only [List.all_eq_false, List.mem_range]; exact ⟨j, hj, by simp [h]⟩
theorem okKey_lt {l : List Int} {high x : Int} {strict : Bool} {j : Nat} (hx : Hid (l.getD j 0 = x)) (h : x < 0) : okKey l high strict j = false := by unfold okKey; rw [hx.out]; simp; omega
theorem okKey_gt {l : List Int} {high x : Int} {strict : Bool} {j : Nat} (hx : Hid (l.getD j 0 = x)) (h : high < x) : okKey l high strict j = false := by unfold okKey; rw [hx.out]; simp; omega
theorem okKey_zero {l : List Int} {high x : Int} {strict : Bool} (hx : Hid (l.getD 0 0 = x)) (h1 : 0 ≤ x) (h2 : x ≤ high) : okKey l high strict 0 = true := by unfold okKey; rw [hx.out]; simp; omega
theorem okKey_next {l : List Int} {high x y : Int} {strict : Bool} {j : Nat} (hx : Hid (l.getD j 0 = x)) (hy : Hid (l.getD (j - 1) 0 = y)) (h1 : 0 ≤ x) (h2 : x ≤ high) (h3 : y ≤ x) (h4 : ¬ (strict = true ∧ y = x)) : okKey l high strict j = true := by
  unfold okKey; rw [hx.out, hy.out]; simp; cases strict <;> simp_all <;> omega
theorem okKey_falls {l : List Int} {high x y : Int} {strict : Bool} {j : Nat} (hx : Hid (l.getD j 0 = x)) (hy : Hid (l.getD (j - 1) 0 = y)) (h : j ≠ 0) (h3 : x < y) : okKey l high strict j = false := by
  unfold okKey; rw [hx.out, hy.out]; simp; omega
theorem okKey_same {l : List Int} {high x y : Int} {strict : Bool} {j : Nat} (hx : Hid (l.getD j 0 = x)) (hy : Hid (l.getD (j - 1) 0 = y)) (h : j ≠ 0) (hs : strict = true) (h3 : y = x) : okKey l high strict j = false := by
  unfold okKey; rw [hx.out, hy.out]; simp [hs, h3]; omega
theorem ok_snoc {f : Nat → Bool} {k : Nat} (h : Hid (∀ j, j < k → f j = true)) (hk : f k = true) : ∀ j, j < k + 1 → f j = true := fun j hj => by
  by_cases e : j = k
  · rw [e]; exact hk
  · exact h.out j (by omega)

set_option maxHeartbeats 1000000 in
theorem keys_any (l : List Int) (a : Option Addr) (c : Nat) (high : Int) (strict : Bool) (w : World) (hl : l.length ≤ 17592186044416) (hk : KeysIn w a l) :
    Calls Tryd.prog 96 #[.slice a l.length c, .int .i64 high, .bool strict] w fun e w' => e = .returned (.bool (keysB l high strict)) ∧ Below w.heap.size w w' := by
  go_enter Tryd.func96, Tryd.ntmps96
  go_wp2_with fail
  go_loopw [7] (fun i wr => ∃ (k : Nat), i = .int .i64 k ∧ k ≤ l.length ∧ (∀ j, j < k → okKey l high strict j = true) ∧ Below w.heap.size w wr) (fun i _ => l.length - (intOf i).toNat)
  case atStart => exact ⟨0, rfl, Nat.zero_le _, fun _ h => absurd h (Nat.not_lt_zero _), Below.refl _ _⟩
  case round =>
    obtain ⟨k, rfl, hkl, hok, hb⟩ := hrel
    have Hok := Lib.hid hok
    clear hok
    by_cases hlt : k < l.length
    · obtain ⟨b, off, rfl, hc, _⟩ := (hk.mono (Same.of_below hb)) k hlt
      obtain ⟨x, hx⟩ : ∃ x, l.getD k 0 = x := ⟨_, rfl⟩
      rw [hx] at hc
      have Hx := Lib.hid hx
      clear hx
      by_cases h1 : x < 0
      · go_wp2_with fail
        go_ret
        exact ⟨ret_bool (all_no hlt (okKey_lt Hx h1)).symm, hb⟩
      by_cases h2 : high < x
      · go_wp2_with fail
        go_ret
        exact ⟨ret_bool (all_no hlt (okKey_gt Hx h2)).symm, hb⟩
      by_cases h3 : k = 0
      · subst h3
        simp only [Nat.add_zero] at hc
        go_wp2_with fail
        go_quiet (fail)
        go_wp2_with fail
        go_roundw
        case rel => exact ⟨0 + 1, rfl, by omega, ok_snoc Hok (okKey_zero Hx h1 h2), below_drewN hb _⟩
        case measure => simp [intOf]; omega
      · obtain ⟨b', off', hbo, hc', _⟩ := (hk.mono (Same.of_below hb)) (k - 1) (by omega)
        cases hbo
        obtain ⟨y, hy⟩ : ∃ y, l.getD (k - 1) 0 = y := ⟨_, rfl⟩
        rw [hy] at hc'
        have Hy := Lib.hid hy
        clear hy
        have w1 : IntKind.i64.wrap ((k : Int) - 1) = (k : Int) - 1 := IntWalk.i64_in _ (by omega)
        have w2 : 0 ≤ (k : Int) - 1 := by omega
        have w3 : ((k : Int) - 1).toNat = k - 1 := by omega
        have w4 : (k : Int) - 1 < (l.length : Int) := by omega
        have w5 : decide (0 < k) = true := by simp; omega
        by_cases h4 : x < y
        · go_wp2_with fail
          go_quiet (fail)
          go_wp2_with fail
          go_ret
          exact ⟨ret_bool (all_no hlt (okKey_falls Hx Hy h3 h4)).symm, below_drewN hb _⟩
        have h4' : decide (x < y) = false := by simp; omega
        have h4n : y ≤ x := by omega
        clear h4
        cases strict with
        | false =>
          go_wp2_with fail
          go_quiet (fail)
          go_wp2_with fail
          go_roundw
          case rel => exact ⟨k + 1, by go_num, by omega, ok_snoc Hok (okKey_next Hx Hy h1 h2 h4n (by simp)), below_drewN hb _⟩
          case measure => simp [intOf]; omega
        | true =>
          by_cases h5 : y = x
          · have h5' : (y == x) = true := by simp [h5]
            have H5 := Lib.hid h5
            clear h5
            go_wp2_with fail
            go_quiet (fail)
            go_wp2_with fail
            go_ret
            exact ⟨ret_bool (all_no hlt (okKey_same Hx Hy h3 rfl H5.out)).symm, below_drewN hb _⟩
          · have h5' : (y == x) = false := by simp [h5]
            have H5 := Lib.hid h5
            clear h5
            go_wp2_with fail
            go_quiet (fail)
            go_wp2_with fail
            go_roundw
            case rel => exact ⟨k + 1, by go_num, by omega, ok_snoc Hok (okKey_next Hx Hy h1 h2 h4n (fun h => H5.out h.2)), below_drewN hb _⟩
            case measure => simp [intOf]; omega
    · go_wp2_with fail
      go_ret
      exact ⟨ret_bool (all_yes fun j hj => Hok.out j (by omega)).symm, hb⟩
end Go.Proofs.YtfbeeaibejggdaaDoor
namespace Go.Proofs.YtfbeeaibejggdaaDoor
open Go.RowKit

/-- What the walk needs of a kid: its five cells. -/
theorem kid_at {w : World} {a : Option Addr} {l : List T} (h : KidsIn w a 0 l) (j : Nat) (hj : j < l.length) :
    ∃ b off va vb s keys kids kd n, a = some ⟨b, off, none⟩ ∧ l[j] = T.mk kd n s keys kids ∧ w.cell? ⟨b, off + j * 5, none⟩ = some (.int .i64 kd) ∧ w.cell? ⟨b, off + j * 5 + 1, none⟩ = some (.int .i64 n) ∧ w.cell? ⟨b, off + j * 5 + 2, none⟩ = some (.string s) ∧ w.cell? ⟨b, off + j * 5 + 3, none⟩ = some va ∧ w.cell? ⟨b, off + j * 5 + 4, none⟩ = some vb ∧
      Rep w l[j] (.agg #[.int .i64 kd, .int .i64 n, .string s, va, vb]) ∧ I64 kd ∧ I64 n := by
  obtain ⟨b, off, v0, v1, v2, v3, v4, ha, g0, g1, g2, g3, g4, hr⟩ := KidsIn.at l 0 j hj h
  simp only [Nat.zero_add] at g0 g1 g2 g3 g4
  rcases hl : l[j] with ⟨kd, n, s, keys, kids⟩
  have hr' := hr
  rw [hl] at hr'
  unfold Rep at hr'
  obtain ⟨ka, va, kc, vc, hv, b1, b2, _⟩ := hr'
  injection hv with hv
  have e0 : v0 = .int .i64 kd := by have := congrArg (fun x : Array Value => x[0]!) hv; simpa using this
  have e1 : v1 = .int .i64 n := by have := congrArg (fun x : Array Value => x[1]!) hv; simpa using this
  have e2 : v2 = .string s := by have := congrArg (fun x : Array Value => x[2]!) hv; simpa using this
  subst e0; subst e1; subst e2
  exact ⟨b, off, v3, v4, s, keys, kids, kd, n, ha, rfl, g0, g1, g2, g3, g4, hl ▸ hr, b1, b2⟩

def intOk (t : T) : Bool := decide (t.kind = 3) && bareB t true false false false
def nAt (l : List T) (j : Nat) : Int := (l.map T.n).getD j 0
def distinctAt (f : Nat → Int) (k : Nat) : Bool := (List.range k).all fun j => j == 0 || !(f j == f k)
def enumB (f : Nat → Int) (n : Nat) : Bool := ((List.range n).any fun i => !(i == 0) && f i == f 0) && (List.range n).all fun k => k == 0 || distinctAt f k
def stepB (d lo st : Int) : Bool := (IntKind.u64.wrap (IntKind.u64.wrap d - IntKind.u64.wrap lo)).tmod (IntKind.u64.wrap st) == 0
def numbersB (how : Int) (l : List T) : Bool :=
  l.all intOk && !(l.length == 0) &&
    (if how = 1 then l.length == 1 else if how = 2 then enumB (nAt l) l.length
     else if how = 3 then l.length == 3 && decide (nAt l 1 ≤ nAt l 0) && decide (nAt l 0 ≤ nAt l 2)
     else if how = 4 then l.length == 4 && decide (nAt l 1 ≤ nAt l 0) && decide (nAt l 0 ≤ nAt l 2) && decide (0 < nAt l 3) && stepB (nAt l 0) (nAt l 1) (nAt l 3) else false)

theorem nAt_eq {l : List T} {j : Nat} (hj : j < l.length) {kd n : Int} {s : ByteArray} {keys : List Int} {kids : List T} (h : l[j] = T.mk kd n s keys kids) : nAt l j = n := by
  unfold nAt; simp [hj, h, T.n]
theorem intOk_bad {l : List T} {j : Nat} (hj : j < l.length) (h : intOk l[j] = false) (how : Int) : numbersB how l = false := by
  unfold numbersB
  have : l.all intOk = false := by rw [List.all_eq_false]; exact ⟨l[j], List.getElem_mem hj, by simp [h]⟩
  simp [this]
theorem intOk_kind {l : List T} {j : Nat} (hj : j < l.length) {kd n : Int} {s : ByteArray} {keys : List Int} {kids : List T} (h : l[j] = T.mk kd n s keys kids) (hk : ¬ kd = 3) : intOk l[j] = false := by
  rw [h]; simp [intOk, T.kind, hk]
theorem intOk_mk {l : List T} {j : Nat} (hj : j < l.length) {kd n : Int} {s : ByteArray} {keys : List Int} {kids : List T} (h : l[j] = T.mk kd n s keys kids) (hk : kd = 3) {b : Bool} (hb : bareB l[j] true false false false = b) : intOk l[j] = b := by
  rw [intOk, hb, h]; simp [T.kind, hk]

theorem u64_pos {n : Int} (h : 0 ≤ n) (h' : n ≤ 9223372036854775807) : IntKind.u64.wrap n = n := by
  unfold IntKind.wrap
  simp [IntKind.bits, IntKind.signed]
  omega

def fnd (f : Nat → Int) (m : Nat) : Bool := (List.range m).any fun i => !(i == 0) && f i == f 0
theorem fnd_succ (f : Nat → Int) (m : Nat) : fnd f (m + 1) = (fnd f m || (!(m == 0) && f m == f 0)) := by
  unfold fnd; rw [List.range_succ, List.any_append]; simp
theorem distinctAt_yes {f : Nat → Int} {k : Nat} (h : ∀ p, p < k → p = 0 ∨ f p ≠ f k) : distinctAt f k = true := by
  unfold distinctAt; exact all_yes fun j hj => by rcases h j hj with h | h <;> simp [h]
theorem distinctAt_no {f : Nat → Int} {k p : Nat} (hp : p < k) (h0 : p ≠ 0) (h : f p = f k) : distinctAt f k = false := by
  unfold distinctAt; exact all_no hp (by simp [h0, h])
theorem enumB_no {f : Nat → Int} {n k p : Nat} (hk : k < n) (hp : p < k) (h0 : p ≠ 0) (h : f p = f k) : enumB f n = false := by
  unfold enumB
  have : ((List.range n).all fun k => k == 0 || distinctAt f k) = false := all_no hk (by simp [distinctAt_no hp h0 h]; omega)
  rw [this, Bool.and_false]
theorem enumB_yes {f : Nat → Int} {n : Nat} (h : ∀ k, k < n → k = 0 ∨ distinctAt f k = true) : enumB f n = fnd f n := by
  unfold enumB
  have : ((List.range n).all fun k => k == 0 || distinctAt f k) = true := all_yes fun k hk => by rcases h k hk with h | h <;> simp [h]
  rw [this, Bool.and_true]; rfl

set_option maxHeartbeats 2000000 in
set_option maxRecDepth 100000 in
theorem numbers_enum (l : List T) (a : Option Addr) (c : Nat) (w : World) (hl : l.length ≤ 17592186044416) (hk : KidsIn w a 0 l) :
    Calls Tryd.prog 97 #[.int .i64 2, .slice a l.length c] w fun e w' => e = .returned (.bool (numbersB 2 l)) ∧ Below w.heap.size w w' := by
  go_enter Tryd.func97, Tryd.ntmps97
  go_wp2_with fail
  go_loopw [5] (fun i wr => ∃ (k : Nat), i = .int .i64 k ∧ k ≤ l.length ∧ (∀ j, (h : j < l.length) → j < k → intOk l[j] = true) ∧ Below w.heap.size w wr) (fun i _ => l.length - (intOf i).toNat)
  case atStart => exact ⟨0, rfl, Nat.zero_le _, fun _ _ h => absurd h (Nat.not_lt_zero _), Below.refl _ _⟩
  case round =>
    obtain ⟨k, rfl, hkl, hok, hb⟩ := hrel
    have Hok := Lib.hid hok
    clear hok
    have hkw := KidsIn.mono (Same.of_below hb) _ _ _ hk
    by_cases hlt : k < l.length
    · obtain ⟨b, off, va, vb, s, keys, kids, kd, n, rfl, hlk, g0, g1, g2, g3, g4, hr, b1, b2⟩ := kid_at hkw k hlt
      have Hlk := Lib.hid hlk
      clear hlk
      by_cases h3 : kd = 3
      · subst h3
        go_wp2_with (go_at_call 65; refine (bare_any _ _ _ hr true false false false).mono ?_; rintro e w1 ⟨rfl, hb1⟩)
        · have hbb : bareB l[k] true false false false = false := by rename_i h; simpa using h
          go_ret
          exact ⟨ret_bool (intOk_bad hlt (intOk_mk hlt Hlk.out rfl hbb) 2).symm, hb.trans (hb1.mono hb.size)⟩
        · have hbb : bareB l[k] true false false false = true := by rename_i h; simpa using h
          go_roundw
          case rel =>
            refine ⟨k + 1, by go_num, by omega, fun j hj hj' => ?_, hb.trans (hb1.mono hb.size)⟩
            by_cases e : j = k
            · subst e; exact intOk_mk hlt Hlk.out rfl hbb
            · exact Hok.out j hj (by omega)
          case measure => simp [intOf]; omega
      · go_wp2_with fail
        go_ret
        exact ⟨ret_bool (intOk_bad hlt (intOk_kind hlt Hlk.out h3) 2).symm, hb⟩
    · have hall : Hid (l.all intOk = true) := Lib.hid (by rw [List.all_eq_true]; intro t ht; obtain ⟨j, hj, rfl⟩ := List.getElem_of_mem ht; exact Hok.out j hj (by omega))
      by_cases h0 : l.length = 0
      · go_wp2_with fail
        go_ret
        exact ⟨ret_bool (by simp [numbersB, h0]), hb⟩
      obtain ⟨b, off, va, vb, s, keys, kids, kd, d, rfl, hl0, _, g1, _, _, _, _, _, b2⟩ := kid_at hkw 0 (by omega)
      simp only [Nat.zero_mul, Nat.add_zero] at g1
      have Hl0 := Lib.hid (nAt_eq (by omega) hl0)
      clear hl0
      have HB : Hid (numbersB 2 l = enumB (nAt l) l.length) := Lib.hid (by simp [numbersB, hall.out, h0])
      go_wp2_with fail
      go_loopw [7, 8] (fun fv i wr => ∃ (m : Nat), i = .int .i64 m ∧ 1 ≤ m ∧ m ≤ l.length ∧ fv = .bool (fnd (nAt l) m) ∧ (∀ k, k < m → k = 0 ∨ distinctAt (nAt l) k = true) ∧ Below w.heap.size w wr) (fun _ i _ => l.length - (intOf i).toNat)
      case atStart => exact ⟨1, rfl, Nat.le_refl _, by omega, by simp [fnd], fun k hk => Or.inl (by omega), hb⟩
      case round =>
        clear hb hkw g1
        obtain ⟨m, rfl, hm1, hml, rfl, hd, hb⟩ := hrel
        have Hd := Lib.hid hd
        clear hd
        have hkw := KidsIn.mono (Same.of_below hb) _ _ _ hk
        by_cases hlt : m < l.length
        · obtain ⟨b', off', va, vb, s, keys, kids, kd, x, hbo, hlm, _, f1, _, _, _, _, _, b3⟩ := kid_at hkw m hlt
          cases hbo
          have Hlm := Lib.hid (nAt_eq hlt hlm)
          clear hlm
          obtain ⟨fb, hfb⟩ : ∃ fb, fnd (nAt l) m = fb := ⟨_, rfl⟩
          rw [hfb]
          have Hf : Hid (fnd (nAt l) (m + 1) = (fb || x == d)) := Lib.hid (by
            have h1 : (m == 0) = false := by rw [beq_eq_false_iff_ne]; omega
            rw [fnd_succ, hfb, Hlm.out, Hl0.out, h1]; simp)
          clear hfb
          cases fb
          all_goals
            go_wp2_with fail
            go_loopw [9] (fun j wr => ∃ (q : Nat), j = .int .i64 q ∧ 1 ≤ q ∧ q ≤ m ∧ (∀ p, p < q → p = 0 ∨ nAt l p ≠ nAt l m) ∧ Below w.heap.size w wr) (fun j _ => m - (intOf j).toNat)
            case atStart => exact ⟨1, rfl, Nat.le_refl _, by omega, fun k hk => Or.inl (by omega), hb⟩
            case round =>
              clear hb hkw f1
              obtain ⟨q, rfl, hq1, hqm, hne, hb⟩ := hrel
              have Hne := Lib.hid hne
              clear hne
              have hkw := KidsIn.mono (Same.of_below hb) _ _ _ hk
              by_cases hq : q < m
              · obtain ⟨b', off', va, vb, s, keys, kids, kd, x, hbo, hlm, _, f1, _, _, _, _, _, b3⟩ := kid_at hkw m hlt
                cases hbo
                obtain ⟨b', off', va, vb, s, keys, kids, kd, y, hbo, hlq, _, f2, _, _, _, _, _, b3⟩ := kid_at hkw q (by omega)
                cases hbo
                have Hlx := Lib.hid (nAt_eq hlt hlm)
                have Hlq := Lib.hid (nAt_eq (by omega) hlq)
                clear hlm hlq
                have w4 : (q : Int) < (l.length : Int) := by omega
                have w5 : (m : Int) < (l.length : Int) := by omega
                by_cases hyx : y = x
                · have hyx' : (y == x) = true := by simp [hyx]
                  have Hyx := Lib.hid hyx
                  clear hyx
                  go_wp2_with fail
                  go_quiet (fail)
                  go_wp2_with fail
                  go_ret
                  exact ⟨ret_bool (by rw [HB.out, enumB_no hlt hq (by omega) (by rw [Hlx.out, Hlq.out, Hyx.out])]), below_drewN hb _⟩
                · have hyx' : (y == x) = false := by simp [hyx]
                  have Hyx := Lib.hid hyx
                  clear hyx
                  go_wp2_with fail
                  go_quiet (fail)
                  go_wp2_with fail
                  go_roundw
                  case rel =>
                    refine ⟨q + 1, by go_num, by omega, by omega, fun p hp => ?_, below_drewN hb _⟩
                    by_cases e : p = q
                    · subst e; exact Or.inr (by rw [Hlx.out, Hlq.out]; exact Hyx.out)
                    · exact Hne.out p (by omega)
                  case measure => simp [intOf]; omega
              · go_wp2_with fail
                go_roundw
                case rel =>
                  refine ⟨m + 1, by go_num, by omega, by omega, by rw [Hf.out]; simp, fun k' hk' => ?_, hb⟩
                  by_cases e : k' = m
                  · subst e; exact Or.inr (distinctAt_yes fun p hp => Hne.out p (by omega))
                  · exact Hd.out k' (by omega)
                case measure => simp [intOf]; omega
        · go_wp2_with fail
          go_ret
          refine ⟨ret_bool ?_, hb⟩
          have e : m = l.length := by omega
          rw [HB.out, enumB_yes (fun k hk => Hd.out k (by omega)), e]

set_option maxHeartbeats 2000000 in
set_option maxRecDepth 100000 in
theorem numbers_any (how : Int) (l : List T) (a : Option Addr) (c : Nat) (w : World) (hl : l.length ≤ 17592186044416) (hk : KidsIn w a 0 l) :
    Calls Tryd.prog 97 #[.int .i64 how, .slice a l.length c] w fun e w' => e = .returned (.bool (numbersB how l)) ∧ Below w.heap.size w w' := by
  by_cases e2 : how = 2
  · subst e2; exact numbers_enum l a c w hl hk
  go_enter Tryd.func97, Tryd.ntmps97
  go_wp2_with fail
  go_loopw [5] (fun i wr => ∃ (k : Nat), i = .int .i64 k ∧ k ≤ l.length ∧ (∀ j, (h : j < l.length) → j < k → intOk l[j] = true) ∧ Below w.heap.size w wr) (fun i _ => l.length - (intOf i).toNat)
  case atStart => exact ⟨0, rfl, Nat.zero_le _, fun _ _ h => absurd h (Nat.not_lt_zero _), Below.refl _ _⟩
  case round =>
    obtain ⟨k, rfl, hkl, hok, hb⟩ := hrel
    have Hok := Lib.hid hok
    clear hok
    have hkw := KidsIn.mono (Same.of_below hb) _ _ _ hk
    by_cases hlt : k < l.length
    · obtain ⟨b, off, va, vb, s, keys, kids, kd, n, rfl, hlk, g0, g1, g2, g3, g4, hr, b1, b2⟩ := kid_at hkw k hlt
      have Hlk := Lib.hid hlk
      clear hlk
      by_cases h3 : kd = 3
      · subst h3
        go_wp2_with (go_at_call 65; refine (bare_any _ _ _ hr true false false false).mono ?_; rintro e w1 ⟨rfl, hb1⟩)
        · have hbb : bareB l[k] true false false false = false := by rename_i h; simpa using h
          go_ret
          exact ⟨ret_bool (intOk_bad hlt (intOk_mk hlt Hlk.out rfl hbb) how).symm, hb.trans (hb1.mono hb.size)⟩
        · have hbb : bareB l[k] true false false false = true := by rename_i h; simpa using h
          go_roundw
          case rel =>
            refine ⟨k + 1, by go_num, by omega, fun j hj hj' => ?_, hb.trans (hb1.mono hb.size)⟩
            by_cases e : j = k
            · subst e; exact intOk_mk hlt Hlk.out rfl hbb
            · exact Hok.out j hj (by omega)
          case measure => simp [intOf]; omega
      · go_wp2_with fail
        go_ret
        exact ⟨ret_bool (intOk_bad hlt (intOk_kind hlt Hlk.out h3) how).symm, hb⟩
    · have hall : Hid (l.all intOk = true) := Lib.hid (by rw [List.all_eq_true]; intro t ht; obtain ⟨j, hj, rfl⟩ := List.getElem_of_mem ht; exact Hok.out j hj (by omega))
      by_cases h0 : l.length = 0
      · go_wp2_with fail
        go_ret
        exact ⟨ret_bool (by simp [numbersB, h0]), hb⟩
      obtain ⟨b, off, va, vb, s, keys, kids, kd, d, rfl, hl0, _, g1, _, _, _, _, _, b2⟩ := kid_at hkw 0 (by omega)
      simp only [Nat.zero_mul, Nat.add_zero] at g1
      have Hl0 := Lib.hid (nAt_eq (by omega) hl0)
      clear hl0
      by_cases e1 : how = 1
      · subst e1
        go_wp2_with fail
        go_ret
        refine ⟨ret_bool ?_, hb⟩
        by_cases e : l.length = 1
        · simp [numbersB, hall.out, e]
        · have h1 : ((l.length : Int) == 1) = false := by rw [beq_eq_false_iff_ne]; omega
          have h2 : (l.length == 1) = false := by rw [beq_eq_false_iff_ne]; exact e
          simp [numbersB, hall.out, h1, h2]
      by_cases e3 : how = 3
      · subst e3
        by_cases h3 : l.length = 3
        · obtain ⟨b', off', va, vb, s, keys, kids, kd, m, hbo, hl1, _, f1, _, _, _, _, _, b2⟩ := kid_at hkw 1 (by omega)
          cases hbo
          obtain ⟨b', off', va, vb, s, keys, kids, kd, m', hbo, hl2, _, f2, _, _, _, _, _, b2⟩ := kid_at hkw 2 (by omega)
          cases hbo
          have Hl1 := Lib.hid (nAt_eq (by omega) hl1)
          have Hl2 := Lib.hid (nAt_eq (by omega) hl2)
          clear hl1 hl2
          go_wp2_with fail
          all_goals
            go_ret
            refine ⟨ret_bool ?_, hb⟩
            simp [numbersB, hall.out, h3, Hl0.out, Hl1.out, Hl2.out]
            try (intros; omega)
        · go_wp2_with fail
          go_ret
          exact ⟨ret_bool (by simp [numbersB, hall.out, h0, h3]), hb⟩
      by_cases e4 : how = 4
      · subst e4
        by_cases h4 : l.length = 4
        · obtain ⟨b', off', va, vb, s, keys, kids, kd, m, hbo, hl1, _, f1, _, _, _, _, _, b3⟩ := kid_at hkw 1 (by omega)
          cases hbo
          obtain ⟨b', off', va, vb, s, keys, kids, kd, m', hbo, hl2, _, f2, _, _, _, _, _, b4⟩ := kid_at hkw 2 (by omega)
          cases hbo
          obtain ⟨b', off', va, vb, s, keys, kids, kd, st, hbo, hl3, _, f3, _, _, _, _, _, b5⟩ := kid_at hkw 3 (by omega)
          cases hbo
          have Hl1 := Lib.hid (nAt_eq (by omega) hl1)
          have Hl2 := Lib.hid (nAt_eq (by omega) hl2)
          have Hl3 := Lib.hid (nAt_eq (by omega) hl3)
          clear hl1 hl2 hl3
          unfold I64 at b2 b3 b4 b5
          by_cases t1 : m ≤ d
          · have t1' : decide (m ≤ d) = true := by simp [t1]
            by_cases t2 : d ≤ m'
            · have t2' : decide (d ≤ m') = true := by simp [t2]
              by_cases t3 : 0 < st
              · have t3' : decide (0 < st) = true := by simp [t3]
                have hu : IntKind.u64.wrap st = st := u64_pos (by omega) (by omega)
                have hu1 : st ≠ 0 := by omega
                go_wp2_with fail
                go_quiet (fail)
                go_wp2_with fail
                go_ret
                refine ⟨ret_bool ?_, below_drewN hb _⟩
                simp [numbersB, hall.out, h4, Hl0.out, Hl1.out, Hl2.out, Hl3.out, t1, t2, t3, stepB]
                rw [hu]
              · have t3' : decide (0 < st) = false := by simp; omega
                clear t3
                go_wp2_with fail
                go_quiet (fail)
                go_wp2_with fail
                go_ret
                refine ⟨ret_bool ?_, below_drewN hb _⟩
                simp [numbersB, hall.out, h4, Hl0.out, Hl1.out, Hl2.out, Hl3.out]
                intros; simp at t3'; omega
            · have t2' : decide (d ≤ m') = false := by simp; omega
              clear t2
              go_wp2_with fail
              go_quiet (fail)
              go_wp2_with fail
              go_ret
              refine ⟨ret_bool ?_, below_drewN hb _⟩
              simp [numbersB, hall.out, h4, Hl0.out, Hl1.out, Hl2.out]
              intros; simp at t2'; omega
          · have t1' : decide (m ≤ d) = false := by simp; omega
            clear t1
            go_wp2_with fail
            go_quiet (fail)
            go_wp2_with fail
            go_ret
            refine ⟨ret_bool ?_, below_drewN hb _⟩
            simp [numbersB, hall.out, h4, Hl0.out, Hl1.out]
            intros; simp at t1'; omega
        · have h4' : ((l.length : Int) == 4) = false := by rw [beq_eq_false_iff_ne]; omega
          go_wp2_with fail
          go_quiet (fail)
          go_wp2_with fail
          go_ret
          exact ⟨ret_bool (by simp [numbersB, hall.out, h0, h4]), below_drewN hb _⟩
      · have e1' : (how == 1) = false := by simp [e1]
        have e2' : (how == 2) = false := by simp [e2]
        have e3' : (how == 3) = false := by simp [e3]
        have e4' : (how == 4) = false := by simp [e4]
        have E := Lib.hid (And.intro e1 (And.intro e2 (And.intro e3 e4)))
        clear e1 e2 e3 e4
        go_wp2_with fail
        go_ret
        exact ⟨ret_bool (by simp [numbersB, E.out]), hb⟩
end Go.Proofs.YtfbeeaibejggdaaDoor
namespace Go.Proofs.YtfbeeaibejggdaaDoor
open Go.RowKit

/-- The cells of a boxed value, later. -/
theorem box_at {w wr : World} {c0 c1 c2 c3 c4 : Value} {t : TypeId} (h : Below (w.heap.size + 1) (w.alloc (.cells #[c0, c1, c2, c3, c4] t)) wr) :
    wr.cell? ⟨w.heap.size, 0, none⟩ = some c0 ∧ wr.cell? ⟨w.heap.size, 1, none⟩ = some c1 ∧ wr.cell? ⟨w.heap.size, 2, none⟩ = some c2 ∧ wr.cell? ⟨w.heap.size, 3, none⟩ = some c3 ∧ wr.cell? ⟨w.heap.size, 4, none⟩ = some c4 := by
  refine ⟨?_, ?_, ?_, ?_, ?_⟩ <;> (rw [h.cell (by simp)]; simp [go_sem])

theorem box_first {w w1 : World} {o : Obj} (h : Below (w.alloc o).heap.size (w.alloc o) w1) : Below (w.heap.size + 1) (w.alloc o) w1 := h.mono (by simp)
theorem box_next {w wr w1 : World} {o : Obj} (h : Below (w.heap.size + 1) (w.alloc o) wr) (h1 : Below wr.heap.size wr w1) : Below (w.heap.size + 1) (w.alloc o) w1 :=
  h.trans (h1.mono (by have := h.size; simp at this; omega))
theorem box_out {w wr : World} {o : Obj} (h : Below (w.heap.size + 1) (w.alloc o) wr) : Below w.heap.size w wr :=
  (((Below.refl _ _).alloc (Nat.le_refl _) _).trans (h.mono (by omega)))
theorem same_alloc (w : World) (o : Obj) : Same w (w.alloc o) := fun a ha => World.cell?_of_block (w := w) (Below.heap_alloc w o a.block ha)

def listOk (l : List T) : Bool := l.all fun t => decide (t.kind = (l.head?.map T.kind).getD 0) && (decide (t.kind = 2) || decide (t.kind = 3) || decide (t.kind = 4))
def wholeB (t : T) : Bool :=
  if t.kind = 6 then listOk t.kids && bareB t false false false true
  else if t.kind = 7 then bareB t false false false true
  else if t.kind = 8 then bareB t true false true true && decide (0 ≤ t.n) && decide (t.n ≤ 2147483647) && t.keys.length == t.kids.length && keysB t.keys 2147483647 true
  else if t.kind = 9 then bareB t true false false true && numbersB t.n t.kids
  else if t.kind = 10 then (t.kids.all fun x => !decide (x.kind = 10)) && bareB t false false true true && t.keys.length == t.kids.length && keysB t.keys 1000000000 false
  else true

theorem rep_mk {w : World} {kd n : Int} {s : ByteArray} {keys : List Int} {kids : List T} {v : Value} (h : Rep w (.mk kd n s keys kids) v) :
    ∃ (ka va : Option Addr) (kc vc : Nat), v = .agg #[.int .i64 kd, .int .i64 n, .string s, .slice ka keys.length kc, .slice va kids.length vc] ∧
      I64 kd ∧ I64 n ∧ s.size ≤ 140737488355328 ∧ keys.length ≤ 17592186044416 ∧ kids.length ≤ 17592186044416 ∧ KeysIn w ka keys ∧ KidsIn w va 0 kids := by
  unfold Rep at h; exact h

section
variable (n : Int) (s : ByteArray) (keys : List Int) (kids : List T)
theorem wholeB_list : wholeB (.mk 6 n s keys kids) = (listOk kids && bareB (.mk 6 n s keys kids) false false false true) := rfl
theorem wholeB_struct : wholeB (.mk 7 n s keys kids) = bareB (.mk 7 n s keys kids) false false false true := rfl
theorem wholeB_object : wholeB (.mk 8 n s keys kids) = (bareB (.mk 8 n s keys kids) true false true true && decide (0 ≤ n) && decide (n ≤ 2147483647) && keys.length == kids.length && keysB keys 2147483647 true) := rfl
theorem wholeB_choice : wholeB (.mk 9 n s keys kids) = (bareB (.mk 9 n s keys kids) true false false true && numbersB n kids) := rfl
theorem wholeB_sequence : wholeB (.mk 10 n s keys kids) = ((kids.all fun x => !decide (x.kind = 10)) && bareB (.mk 10 n s keys kids) false false true true && keys.length == kids.length && keysB keys 1000000000 false) := rfl
theorem wholeB_other {kd : Int} (h6 : kd ≠ 6) (h7 : kd ≠ 7) (h8 : kd ≠ 8) (h9 : kd ≠ 9) (h10 : kd ≠ 10) : wholeB (.mk kd n s keys kids) = true := by simp [wholeB, T.kind, h6, h7, h8, h9, h10]
end

set_option maxHeartbeats 1000000 in
theorem whole_object (n : Int) (s : ByteArray) (keys : List Int) (kids : List T) (v : Value) (w : World) (hr : Rep w (.mk 8 n s keys kids) v) :
    Calls Tryd.prog 67 #[v] w fun e w' => e = .returned (.bool (wholeB (.mk 8 n s keys kids))) ∧ Below w.heap.size w w' := by
  obtain ⟨ka, va, kc, vc, rfl, _, _, hs, hkl, hvl, hkeys, hkids⟩ := rep_mk hr
  have hr1 := Rep.mono (same_alloc w (.cells #[.int .i64 8, .int .i64 n, .string s, .slice ka keys.length kc, .slice va kids.length vc] 25)) _ _ hr
  go_enter Tryd.func67, Tryd.ntmps67
  go_wp2_with (first | (go_at_call 65; refine (bare_any _ _ _ hr1 true false true true).mono ?_; rintro e w1 ⟨rfl, hb1⟩; obtain ⟨x0, x1, x2, x3, x4⟩ := box_at (box_first hb1)) | (go_at_call 96; refine (keys_any keys ka kc 2147483647 true _ hkl (hkeys.mono (Same.of_box (box_first (by assumption))))).mono ?_; rintro e w2 ⟨rfl, hb2⟩))
  all_goals
    go_ret
    refine ⟨ret_bool ?_, box_out (by first | exact box_next (box_first hb1) hb2 | exact box_first hb1)⟩
    clear hr hr1 hkids hkeys x0 x1 x2 x3 x4
    rw [wholeB_object]
    simp only [*]
    simp
    first | done | (intros; omega)

set_option maxHeartbeats 1000000 in
theorem whole_choice (n : Int) (s : ByteArray) (keys : List Int) (kids : List T) (v : Value) (w : World) (hr : Rep w (.mk 9 n s keys kids) v) :
    Calls Tryd.prog 67 #[v] w fun e w' => e = .returned (.bool (wholeB (.mk 9 n s keys kids))) ∧ Below w.heap.size w w' := by
  obtain ⟨ka, va, kc, vc, rfl, _, _, hs, hkl, hvl, hkeys, hkids⟩ := rep_mk hr
  have hr1 := Rep.mono (same_alloc w (.cells #[.int .i64 9, .int .i64 n, .string s, .slice ka keys.length kc, .slice va kids.length vc] 25)) _ _ hr
  go_enter Tryd.func67, Tryd.ntmps67
  go_wp2_with (first | (go_at_call 65; refine (bare_any _ _ _ hr1 true false false true).mono ?_; rintro e w1 ⟨rfl, hb1⟩; obtain ⟨x0, x1, x2, x3, x4⟩ := box_at (box_first hb1)) | (go_at_call 97; refine (numbers_any n kids va vc _ hvl (KidsIn.mono (Same.of_box (box_first (by assumption))) _ _ _ hkids)).mono ?_; rintro e w2 ⟨rfl, hb2⟩))
  all_goals
    go_ret
    refine ⟨ret_bool ?_, box_out (by first | exact box_next (box_first hb1) hb2 | exact box_first hb1)⟩
    clear hr hr1 hkids hkeys x0 x1 x2 x3 x4
    rw [wholeB_choice]
    simp only [*]
    simp

set_option maxHeartbeats 1000000 in
theorem whole_struct (n : Int) (s : ByteArray) (keys : List Int) (kids : List T) (v : Value) (w : World) (hr : Rep w (.mk 7 n s keys kids) v) :
    Calls Tryd.prog 67 #[v] w fun e w' => e = .returned (.bool (wholeB (.mk 7 n s keys kids))) ∧ Below w.heap.size w w' := by
  obtain ⟨ka, va, kc, vc, rfl, _, _, hs, hkl, hvl, hkeys, hkids⟩ := rep_mk hr
  have hr1 := Rep.mono (same_alloc w (.cells #[.int .i64 7, .int .i64 n, .string s, .slice ka keys.length kc, .slice va kids.length vc] 25)) _ _ hr
  go_enter Tryd.func67, Tryd.ntmps67
  go_wp2_with (go_at_call 65; refine (bare_any _ _ _ hr1 false false false true).mono ?_; rintro e w1 ⟨rfl, hb1⟩)
  go_ret
  exact ⟨ret_bool (by rw [wholeB_struct]), box_out (box_first hb1)⟩

set_option maxHeartbeats 1000000 in
theorem whole_other (kd n : Int) (s : ByteArray) (keys : List Int) (kids : List T) (v : Value) (w : World) (hr : Rep w (.mk kd n s keys kids) v) (h6 : kd ≠ 6) (h7 : kd ≠ 7) (h8 : kd ≠ 8) (h9 : kd ≠ 9) (h10 : kd ≠ 10) :
    Calls Tryd.prog 67 #[v] w fun e w' => e = .returned (.bool (wholeB (.mk kd n s keys kids))) ∧ Below w.heap.size w w' := by
  obtain ⟨ka, va, kc, vc, rfl, _, _, hs, hkl, hvl, hkeys, hkids⟩ := rep_mk hr
  have HW := Lib.hid (wholeB_other n s keys kids h6 h7 h8 h9 h10)
  have e6 : (kd == 6) = false := by simp [h6]
  have e7 : (kd == 7) = false := by simp [h7]
  have e8 : (kd == 8) = false := by simp [h8]
  have e9 : (kd == 9) = false := by simp [h9]
  have e10 : (kd == 10) = false := by simp [h10]
  clear h6 h7 h8 h9 h10
  go_enter Tryd.func67, Tryd.ntmps67
  go_wp2_with fail
  go_ret
  exact ⟨ret_bool HW.out.symm, (Below.refl _ _).alloc (Nat.le_refl _) _⟩

set_option maxHeartbeats 1000000 in
theorem whole_list (n : Int) (s : ByteArray) (keys : List Int) (kids : List T) (v : Value) (w : World) (hr : Rep w (.mk 6 n s keys kids) v) :
    Calls Tryd.prog 67 #[v] w fun e w' => e = .returned (.bool (wholeB (.mk 6 n s keys kids))) ∧ Below w.heap.size w w' := by
  obtain ⟨ka, va, kc, vc, rfl, _, _, hs, hkl, hvl, hkeys, hkids⟩ := rep_mk hr
  go_enter Tryd.func67, Tryd.ntmps67
  go_wp2_with fail
  go_loopw [3] (fun i wr => ∃ (k : Nat), i = .int .i64 k ∧ k ≤ kids.length ∧ (∀ j, (h : j < kids.length) → j < k → (fun t : T => decide (t.kind = (kids.head?.map T.kind).getD 0) && (decide (t.kind = 2) || decide (t.kind = 3) || decide (t.kind = 4))) kids[j] = true) ∧ Below (w.heap.size + 1) (w.alloc (.cells #[.int .i64 6, .int .i64 n, .string s, .slice ka keys.length kc, .slice va kids.length vc] 25)) wr) (fun i _ => kids.length - (intOf i).toNat)
  case atStart => exact ⟨0, rfl, Nat.zero_le _, fun _ _ h => absurd h (Nat.not_lt_zero _), Below.refl _ _⟩
  case round =>
    obtain ⟨k, rfl, hkl', hok, hb⟩ := hrel
    have Hok := Lib.hid hok
    clear hok
    obtain ⟨x0, x1, x2, x3, x4⟩ := box_at hb
    have hkw := KidsIn.mono (Same.of_box hb) _ _ _ hkids
    by_cases hlt : k < kids.length
    · obtain ⟨b, off, va', vb', s', keys', kids', kd, n', rfl, hlk, g0, _, _, _, _, _, _, _⟩ := kid_at hkw k hlt
      obtain ⟨b', off', va'', vb'', s'', keys'', kids'', kd0, n'', hbo, hl0, f0, _, _, _, _, _, _, _⟩ := kid_at hkw 0 (by omega)
      cases hbo
      simp only [Nat.zero_mul, Nat.add_zero] at f0
      have Hhead : Hid ((kids.head?.map T.kind).getD 0 = kd0) := Lib.hid (by
        rw [List.head?_eq_getElem?, List.getElem?_eq_getElem (by omega : 0 < kids.length), hl0]; rfl)
      have Hlk := Lib.hid hlk
      clear hlk hl0
      have hbad : ∀ b : Bool, (decide (kd = kd0) && (decide (kd = 2) || decide (kd = 3) || decide (kd = 4))) = false → wholeB (.mk 6 n s keys kids) = false := fun _ hf => by
        have : listOk kids = false := by
          unfold listOk
          rw [List.all_eq_false]
          refine ⟨kids[k], List.getElem_mem hlt, ?_⟩
          rw [Hhead.out, Hlk.out]
          show ¬ (decide (kd = kd0) && (decide (kd = 2) || decide (kd = 3) || decide (kd = 4))) = true
          rw [hf]; simp
        rw [wholeB_list, this, Bool.false_and]
      have hgood : (decide (kd = kd0) && (decide (kd = 2) || decide (kd = 3) || decide (kd = 4))) = true → ∀ j, (h : j < kids.length) → j < k + 1 → (fun t : T => decide (t.kind = (kids.head?.map T.kind).getD 0) && (decide (t.kind = 2) || decide (t.kind = 3) || decide (t.kind = 4))) kids[j] = true := fun hf j hj hj' => by
        by_cases e : j = k
        · subst e
          show (decide (kids[j].kind = _) && _) = true
          rw [Hhead.out, Hlk.out]
          exact hf
        · exact Hok.out j hj (by omega)
      have Hbad := Lib.hid hbad
      have Hgood := Lib.hid hgood
      clear hbad hgood
      by_cases c0 : kd = kd0
      · subst c0
        go_wp2_with fail
        all_goals first
          | (go_ret
             exact ⟨ret_bool (Hbad.out true (by clear Hok Hbad Hgood; simp_all)).symm, box_out hb⟩)
          | (go_roundw
             case rel => exact ⟨k + 1, by go_num, by omega, Hgood.out (by clear Hok Hbad Hgood; simp_all), hb⟩
             case measure => simp [intOf]; omega)
      · have c0' : (kd == kd0) = false := by simp [c0]
        have C0 := Lib.hid c0
        clear c0
        go_wp2_with fail
        go_ret
        exact ⟨ret_bool (Hbad.out true (by simp [C0.out])).symm, box_out hb⟩
    · have hall : Hid (listOk kids = true) := Lib.hid (by
        unfold listOk; rw [List.all_eq_true]; intro t ht; obtain ⟨j, hj, rfl⟩ := List.getElem_of_mem ht; exact Hok.out j hj (by omega))
      have hr1 := Rep.mono (Same.of_box hb) _ _ hr
      go_wp2_with (go_at_call 65; refine (bare_any _ _ _ hr1 false false false true).mono ?_; rintro e w1 ⟨rfl, hb1⟩)
      go_ret
      exact ⟨ret_bool (by rw [wholeB_list, hall.out, Bool.true_and]), box_out (box_next hb hb1)⟩

set_option maxHeartbeats 1000000 in
theorem whole_sequence (n : Int) (s : ByteArray) (keys : List Int) (kids : List T) (v : Value) (w : World) (hr : Rep w (.mk 10 n s keys kids) v) :
    Calls Tryd.prog 67 #[v] w fun e w' => e = .returned (.bool (wholeB (.mk 10 n s keys kids))) ∧ Below w.heap.size w w' := by
  obtain ⟨ka, va, kc, vc, rfl, _, _, hs, hkl, hvl, hkeys, hkids⟩ := rep_mk hr
  go_enter Tryd.func67, Tryd.ntmps67
  go_wp2_with fail
  go_loopw [5] (fun i wr => ∃ (k : Nat), i = .int .i64 k ∧ k ≤ kids.length ∧ (∀ j, (h : j < kids.length) → j < k → (fun x : T => !decide (x.kind = 10)) kids[j] = true) ∧ Below (w.heap.size + 1) (w.alloc (.cells #[.int .i64 10, .int .i64 n, .string s, .slice ka keys.length kc, .slice va kids.length vc] 25)) wr) (fun i _ => kids.length - (intOf i).toNat)
  case atStart => exact ⟨0, rfl, Nat.zero_le _, fun _ _ h => absurd h (Nat.not_lt_zero _), Below.refl _ _⟩
  case round =>
    obtain ⟨k, rfl, hkl', hok, hb⟩ := hrel
    have Hok := Lib.hid hok
    clear hok
    obtain ⟨x0, x1, x2, x3, x4⟩ := box_at hb
    have hkw := KidsIn.mono (Same.of_box hb) _ _ _ hkids
    by_cases hlt : k < kids.length
    · obtain ⟨b, off, va', vb', s', keys', kids', kd, n', rfl, hlk, g0, _, _, _, _, _, _, _⟩ := kid_at hkw k hlt
      have Hlk := Lib.hid hlk
      clear hlk
      by_cases c0 : kd = 10
      · subst c0
        go_wp2_with fail
        go_ret
        refine ⟨ret_bool ?_, box_out hb⟩
        have : (kids.all fun x => !decide (x.kind = 10)) = false := by
          rw [List.all_eq_false]; exact ⟨kids[k], List.getElem_mem hlt, by rw [Hlk.out]; simp [T.kind]⟩
        rw [wholeB_sequence, this]; simp
      · have c0' : (kd == 10) = false := by simp [c0]
        have C0 := Lib.hid c0
        clear c0
        go_wp2_with fail
        go_roundw
        case rel =>
          refine ⟨k + 1, by go_num, by omega, fun j hj hj' => ?_, hb⟩
          by_cases e : j = k
          · subst e; show (!decide (kids[j].kind = 10)) = true; rw [Hlk.out]; simp [T.kind, C0.out]
          · exact Hok.out j hj (by omega)
        case measure => simp [intOf]; omega
    · have hall : Hid ((kids.all fun x => !decide (x.kind = 10)) = true) := Lib.hid (by
        rw [List.all_eq_true]; intro t ht; obtain ⟨j, hj, rfl⟩ := List.getElem_of_mem ht; exact Hok.out j hj (by omega))
      have hr1 := Rep.mono (Same.of_box hb) _ _ hr
      clear hkw
      go_wp2_with (first | (go_at_call 65; refine (bare_any _ _ _ hr1 false false true true).mono ?_; rintro e w1 ⟨rfl, hb1⟩; have hb2 := box_next hb hb1; obtain ⟨y0, y1, y2, y3, y4⟩ := box_at hb2) | (go_at_call 96; refine (keys_any keys ka kc 1000000000 false _ hkl (hkeys.mono (Same.of_box (by assumption)))).mono ?_; rintro e w2 ⟨rfl, hb3⟩))
      all_goals
        go_ret
        refine ⟨ret_bool ?_, box_out (by first | exact box_next hb2 hb3 | exact hb2)⟩
        rw [wholeB_sequence, hall.out]
        clear hr hr1 hkids hkeys x0 x1 x2 x3 x4 y0 y1 y2 y3 y4
        simp only [*]
        simp
        first | done | (intros; omega)

theorem whole_any (t : T) (v : Value) (w : World) (hr : Rep w t v) :
    Calls Tryd.prog 67 #[v] w fun e w' => e = .returned (.bool (wholeB t)) ∧ Below w.heap.size w w' := by
  obtain ⟨kd, n, s, keys, kids⟩ := t
  by_cases h6 : kd = 6
  · subst h6; exact whole_list n s keys kids v w hr
  by_cases h7 : kd = 7
  · subst h7; exact whole_struct n s keys kids v w hr
  by_cases h8 : kd = 8
  · subst h8; exact whole_object n s keys kids v w hr
  by_cases h9 : kd = 9
  · subst h9; exact whole_choice n s keys kids v w hr
  by_cases h10 : kd = 10
  · subst h10; exact whole_sequence n s keys kids v w hr
  exact whole_other kd n s keys kids v w hr h6 h7 h8 h9 h10
end Go.Proofs.YtfbeeaibejggdaaDoor
