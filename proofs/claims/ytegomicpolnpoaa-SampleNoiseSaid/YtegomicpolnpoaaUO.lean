/- Peak and Power: the program's (UN, UO). -/
import Derived.Test.YtegomicpolnpoaaUL
namespace Go.Proofs.Ytegomicpolnpoaa
open Go.RowKit Go.Deep Go.Shelf

def pk (l : List Int) : Int := l.foldl (fun a n => max a (max n (-n))) 0
def sq (l : List Int) : Int := l.foldl (fun a n => a + n * n) 0
def pw (l : List Int) : Int := rnd (sq l) (max (l.length : Int) 1)
theorem pk_snoc (l : List Int) (n : Int) : pk (l ++ [n]) = max (pk l) (max n (-n)) := by simp [pk]
theorem sq_snoc (l : List Int) (n : Int) : sq (l ++ [n]) = sq l + n * n := by simp [sq]
theorem sq_one {n : Int} (h : okS n) : 0 ≤ n * n ∧ n * n ≤ 70368727400449 := by
  obtain ⟨h1, h2⟩ := h
  rcases Int.le_total 0 n with h | h
  · exact ⟨Int.mul_nonneg h h, by
      calc n * n ≤ 8388607 * 8388607 := Int.mul_le_mul h2 h2 h (by decide)
        _ = 70368727400449 := by decide⟩
  · have e : n * n = (-n) * (-n) := (Int.neg_mul_neg n n).symm
    rw [e]
    exact ⟨Int.mul_nonneg (by omega) (by omega), by
      calc (-n) * (-n) ≤ 8388607 * 8388607 := Int.mul_le_mul (by omega) (by omega) (by omega) (by decide)
        _ = 70368727400449 := by decide⟩
theorem pk_take (l : List Int) (h : ∀ j, j < l.length → okS (l.getD j 0)) : ∀ j, j ≤ l.length → 0 ≤ pk (l.take j) ∧ pk (l.take j) ≤ 8388607
  | 0, _ => by simp [pk]
  | j + 1, hj => by
    have h1 := pk_take l h j (by omega)
    have h2 := h j (by omega)
    rw [take_snocD l j 0 (by omega), pk_snoc]
    unfold okS at h2
    omega
theorem sq_take (l : List Int) (h : ∀ j, j < l.length → okS (l.getD j 0)) : ∀ j, j ≤ l.length → 0 ≤ sq (l.take j) ∧ sq (l.take j) ≤ 70368727400449 * j
  | 0, _ => by simp [sq]
  | j + 1, hj => by
    have h1 := sq_take l h j (by omega)
    have h2 := sq_one (h j (by omega))
    rw [take_snocD l j 0 (by omega), sq_snoc]
    generalize l.getD j 0 * l.getD j 0 = x at *
    omega

set_option maxRecDepth 100000 in
set_option maxHeartbeats 1000000 in
theorem peak1_any (l : List Int) (v : Value) (w : World) (hv : RowIn w l v) (hl : l.length ≤ 4096) (hs : ∀ j, j < l.length → okS (l.getD j 0)) : Calls Try.prog 73 #[v] w fun e w' => e = .returned (.int .i64 (pk l)) ∧ w = w' := by
  obtain ⟨a, ca, rfl, hin, hal, _⟩ := hv
  have HPK := Lib.hid (pk_take l hs)
  have HS := Lib.hid hs
  clear hs
  go_enter Try.func73, Try.ntmps73
  go_wp2_with fail
  go_loop [3, 8] (fun s i => ∃ j : Nat, i = .int .i64 j ∧ j ≤ l.length ∧ s = .int .i64 (pk (l.take j))) (fun _ i => l.length - (RowKit.intOf i).toNat)
  case atStart => exact ⟨0, rfl, Nat.zero_le _, by simp [pk]⟩
  case round =>
    obtain ⟨j, rfl, hj, rfl⟩ := hrel
    by_cases hlt : j < l.length
    · obtain ⟨ba, off, rfl, hc, _⟩ := hin j hlt
      have hb := HPK.out j hj
      have hok := HS.out j hlt
      have HN := Lib.hid (show pk (l.take (j + 1)) = max (pk (l.take j)) (max (l.getD j 0) (-(l.getD j 0))) from by rw [take_snocD l j 0 hlt, pk_snoc])
      obtain ⟨p, hp⟩ : ∃ p, l.getD j 0 = p := ⟨_, rfl⟩
      obtain ⟨A, hA⟩ : ∃ A, pk (l.take j) = A := ⟨_, rfl⟩
      rw [hp, hA] at HN
      rw [hp] at hc hok
      rw [hA] at hb ⊢
      clear hp hA
      unfold okS at hok
      have w4 : (j : Int) < (l.length : Int) := by omega
      by_cases g1 : 0 ≤ p
      · by_cases g2 : A < p
        · go_wp2_with fail
          go_round
          case rel => exact ⟨j + 1, by go_num, by omega, by rw [HN.out]; congr 1; omega⟩
          case measure => simp [RowKit.intOf]; omega
        · go_wp2_with fail
          go_round
          case rel => exact ⟨j + 1, by go_num, by omega, by rw [HN.out]; congr 1; omega⟩
          case measure => simp [RowKit.intOf]; omega
      · by_cases g2 : A < -p
        · go_wp2_with fail
          go_round
          case rel => exact ⟨j + 1, by go_num, by omega, by rw [HN.out]; congr 1; omega⟩
          case measure => simp [RowKit.intOf]; omega
        · go_wp2_with fail
          go_round
          case rel => exact ⟨j + 1, by go_num, by omega, by rw [HN.out]; congr 1; omega⟩
          case measure => simp [RowKit.intOf]; omega
    · obtain rfl : j = l.length := by omega
      rw [List.take_length]
      go_wp2_with fail
      go_ret
      exact ⟨rfl, rfl⟩

set_option maxRecDepth 100000 in
set_option maxHeartbeats 1000000 in
theorem power1_any (l : List Int) (v : Value) (w : World) (hv : RowIn w l v) (hl : l.length ≤ 4096) (hs : ∀ j, j < l.length → okS (l.getD j 0)) : Calls Try.prog 74 #[v] w fun e w' => e = .returned (.int .i64 (pw l)) ∧ w = w' := by
  obtain ⟨a, ca, rfl, hin, hal, _⟩ := hv
  have HSQ := Lib.hid (sq_take l hs)
  have HS := Lib.hid hs
  clear hs
  go_enter Try.func74, Try.ntmps74
  go_wp2_with fail
  go_loop [3, 8] (fun s i => ∃ j : Nat, i = .int .i64 j ∧ j ≤ l.length ∧ s = .int .i64 (sq (l.take j))) (fun _ i => l.length - (RowKit.intOf i).toNat)
  case atStart => exact ⟨0, rfl, Nat.zero_le _, by simp [sq]⟩
  case round =>
    obtain ⟨j, rfl, hj, rfl⟩ := hrel
    by_cases hlt : j < l.length
    · obtain ⟨ba, off, rfl, hc, _⟩ := hin j hlt
      have hb := HSQ.out j hj
      have hok := HS.out j hlt
      have h1 := sq_one hok
      have HN := Lib.hid (show sq (l.take (j + 1)) = sq (l.take j) + l.getD j 0 * l.getD j 0 from by rw [take_snocD l j 0 hlt, sq_snoc])
      obtain ⟨p, hp⟩ : ∃ p, l.getD j 0 = p := ⟨_, rfl⟩
      obtain ⟨A, hA⟩ : ∃ A, sq (l.take j) = A := ⟨_, rfl⟩
      rw [hp, hA] at HN
      rw [hp] at hc hok h1
      rw [hA] at hb ⊢
      clear hp hA
      unfold okS at hok
      have w4 : (j : Int) < (l.length : Int) := by omega
      have w5 : IntKind.i64.wrap (p * p) = p * p := IntWalk.i64_in _ (by omega)
      have w6 : IntKind.i64.wrap (A + p * p) = A + p * p := IntWalk.i64_in _ (by omega)
      go_wp2_with fail
      go_round
      case rel => exact ⟨j + 1, by go_num, by omega, by rw [HN.out]⟩
      case measure => simp [RowKit.intOf]; omega
    · obtain rfl : j = l.length := by omega
      have hb := HSQ.out l.length (Nat.le_refl _)
      rw [List.take_length] at hb ⊢
      have HR := Lib.hid (rounded_any (sq l) (max (l.length : Int) 1) w (by omega) (by omega) (by omega) (by omega))
      go_wp2_with (go_at_call 75; (with_reducible refine HR.out.mono ?_); rintro e w1 ⟨rfl, rfl⟩)
      go_ret
      exact ⟨rfl, rfl⟩

/-- What a measure of a channel is. -/
structure Meas (fm : FuncId) (g : List Int → Int) : Prop where
  enter : ∀ args W, (callFunc fm args).run Try.prog W = .ok (.enter fm args) W
  call : ∀ l v X, RowIn X l v → l.length ≤ 4096 → (∀ j, j < l.length → okS (l.getD j 0)) → Calls Try.prog fm #[v] X fun e w' => e = .returned (.int .i64 (g l)) ∧ X = w'
  fits : ∀ l : List Int, l.length ≤ 4096 → (∀ j, j < l.length → okS (l.getD j 0)) → I64 (g l)

theorem row_in {w : World} {m : List (List Int)} {v : Value} (h : MatIn w m v) {k : Nat} (hk : k < m.length) : ∃ a cap b off u, v = .slice a m.length cap ∧ a = some ⟨b, off, none⟩ ∧ w.cell? ⟨b, off + k, none⟩ = some u ∧ RowIn w (m.getD k []) u := by
  obtain ⟨a, cap, rfl, hrows, _, _⟩ := h
  obtain ⟨b, off, u, rfl, hc, hr⟩ := hrows k hk
  exact ⟨_, _, b, off, u, rfl, rfl, hc, hr⟩

set_option maxHeartbeats 2000000 in
set_option maxRecDepth 100000 in
theorem ofChan1_yes {fm : FuncId} {g : List Int → Int} (hF : Meas fm g) (m : List (List Int)) (v : Value) (Bb Bf : Nat) (w : World) (hM : MatIn w m v) (hv : validB m = true)
    (k0 : w.cell? ⟨Bb, 0, none⟩ = some v) (k1 : w.cell? ⟨Bf, 0, none⟩ = some (.func (.func fm) #[] #[])) :
    Calls Try.prog 113 #[at0 Bb, at0 Bf] w (Gives (fun u w' => RowIn w' (m.map g) u) w) := by
  have h68 := validBlock_any m v w hM
  rw [hv] at h68
  have hmu := must_yes 1 w
  obtain ⟨hr1, hr8, hc4, hc⟩ := validB_parts hv
  have hok := validB_smp hv
  have HF := Lib.hid hF
  have hen := hF.enter
  obtain ⟨a, ca, rfl, _, hal, _⟩ := id hM
  have HM := Lib.hid hM
  have HC := Lib.hid hc
  have HOK := Lib.hid hok
  have HALL := Lib.hid (show okRow (m.map g) from ⟨by rw [List.length_map]; omega, fun i hi => by
    rw [List.length_map] at hi
    have e : (m.map g).getD i 0 = g (m.getD i []) := by simp [List.getD, hi]
    rw [e]
    exact hF.fits _ (by rw [hc i hi]; exact hc4) (fun j hj => hok i j hi (by rw [hc i hi] at hj; exact hj))⟩)
  clear hM hc hok hv hF
  go_enter Try.func113, Try.ntmps113
  go_wp2_with (first
    | (go_at_call 68; (with_reducible refine h68.mono ?_); rintro e w1 ⟨rfl, rfl⟩)
    | (go_at_call 53; (with_reducible refine hmu.mono ?_); rintro e w1 ⟨rfl, rfl⟩))
  clear h68 hmu
  go_loopw [3, 11] (fun s i wr => ∃ k : Nat, i = .int .i64 k ∧ k ≤ m.length ∧ wr.ownsRow w.heap.size 3 1 s k (((m.map g).take k).map (Value.int .i64)) ∧ Below w.heap.size w wr) (fun _ i _ => m.length - (RowKit.intOf i).toNat)
  case atStart => exact ⟨0, rfl, Nat.zero_le _, by simpa using World.ownsRow_nil _ _ _ _, Below.refl _ _⟩
  case round =>
    obtain ⟨k, rfl, hk, ho, hbl⟩ := hrel
    by_cases hlt : k < m.length
    · have w4 : (k : Int) < (m.length : Int) := by omega
      have d1 : decide (k < m.length) = true := decide_eq_true hlt
      have d2 : decide ((k : Int) < (m.length : Int)) = true := decide_eq_true w4
      obtain ⟨a', cap', b, off, u, e1, e2, hcu, hru⟩ := row_in (HM.out.mono (Same.of_below hbl)) hlt
      simp only [Value.slice.injEq, true_and] at e1
      obtain ⟨rfl, rfl⟩ := e1
      subst e2
      have hcall := HF.out.call _ _ _ hru (by rw [HC.out k hlt]; exact hc4) (fun j hj => HOK.out k j hlt (by rw [HC.out k hlt] at hj; exact hj))
      have kf := (Same.of_below hbl).cell k1
      have HROW := Lib.hid (show (m.map g).take (k + 1) = (m.map g).take k ++ [g (m.getD k [])] from by
        rw [take_snocD (m.map g) k 0 (by rw [List.length_map]; exact hlt)]
        simp [List.getD, hlt])
      generalize g (m.getD k []) = G at *
      obtain ⟨pa, pn, pc, rfl⟩ : ∃ pa pn pc, u = Value.slice pa pn pc := by obtain ⟨x1, x2, x3, _⟩ := hru; exact ⟨_, _, _, x3⟩
      have HCALL := Lib.hid hcall
      have HO := Lib.hid ho
      have HB := Lib.hid hbl
      clear hcall ho hbl hru
      go_wp2_with fail
      refine HCALL.out.mono ?_
      rintro e w1 ⟨rfl, rfl⟩
      go_wp2_with (at_builtin; refine wpList_append_ints rfl (.tmp 15) (.tmp 19) rfl w.heap.size _ k ((m.map g).take k) rfl (owns_below HO.out ((Below.refl _ _).alloc (Nat.le_refl _) _)) _ 1 1 rfl [G] rfl ?c1 ?c2 ?c3 ?_)
      case c1 =>
        intro _
        exact ⟨_, rfl, fun j hj => by obtain rfl : j = 0 := by omega
                                      simp [go_sem]⟩
      case c2 => omega
      case c3 => have := HB.out.size; simp; omega
      intro v2 w2 h21 h22 h23
      have hn1 : w2.ownsRow w.heap.size 3 1 v2 (k + 1) (((m.map g).take (k + 1)).map (Value.int .i64)) := by rw [HROW.out]; simpa using h21
      have hn2 : Below w.heap.size w w2 := (HB.out.alloc (by have := HB.out.size; omega) _).grown h22 (by have := HB.out.size; simp; omega) (fun g hg => (HO.out.lt g hg).1)
      have HN1 := Lib.hid hn1
      have HN2 := Lib.hid hn2
      clear h21 h22 h23 hn1 hn2
      go_wp2_with fail
      go_roundw
      case rel => exact ⟨k + 1, by go_num, by omega, HN1.out, HN2.out⟩
      case measure => simp [RowKit.intOf]; omega
    · obtain rfl : k = m.length := by omega
      have HO := Lib.hid ho
      have HB := Lib.hid hbl
      clear ho hbl
      go_wp2_with fail
      go_ret
      refine ⟨_, rfl, ?_, HB.out⟩
      have h := HO.out
      rw [List.take_of_length_le (by simp)] at h
      exact owns_row (by rw [List.length_map]; exact h) HALL.out (fun _ _ _ => rfl)
theorem ofChan1_no {fm : FuncId} (m : List (List Int)) (v : Value) (Bb Bf : Nat) (w : World) (hM : MatIn w m v) (hv : validB m = false) (k0 : w.cell? ⟨Bb, 0, none⟩ = some v) (k1 : w.cell? ⟨Bf, 0, none⟩ = some (.func (.func fm) #[] #[])) :
    Calls Try.prog 113 #[at0 Bb, at0 Bf] w (LeavesX 1 w) := by
  have h68 := validBlock_any m v w hM
  rw [hv] at h68
  have hmu := must_no 1 w
  clear hv hM
  go_enter Try.func113, Try.ntmps113
  go_wp2_with (first
      | (go_at_call 68; (with_reducible refine h68.mono ?_); rintro e w1 ⟨rfl, rfl⟩)
      | (go_at_call 53; (with_reducible refine hmu.mono ?_); rintro e w1 ⟨rfl, rfl⟩))
  exact ⟨rfl, rfl, Below.refl _ w⟩

/-- A row, or the error with which there is none. -/
def RowsTold (w : World) (l : List Int) (k : Int) (e : Ending) (w' : World) : Prop := ∃ u, e = .returned (.tuple #[u, .int .i64 k]) ∧ RowIn w' l u ∧ Below w.heap.size w w'
/-- What is told of each channel. -/
def toldOf (g : List Int → Int) (m : List (List Int)) : List Int := if validB m then m.map g else []
def toldE (m : List (List Int)) : Int := if validB m then 0 else 1

set_option maxRecDepth 100000 in
theorem ofChannels_any {fm : FuncId} {g : List Int → Int} (hF : Meas fm g) (m : List (List Int)) (v : Value) (w : World) (hM : MatIn w m v) : Calls Try.prog 72 #[v, .func (.func fm) #[] #[]] w (RowsTold w (toldOf g m) (toldE m)) := by
  have hmf := makes
  obtain ⟨a, ca, rfl, hin, hal, hac⟩ := id hM
  obtain ⟨W3, hW3⟩ : ∃ W3, (w.alloc (.cells #[.slice a m.length ca] 30)).alloc (.cells #[.func (.func fm) #[] #[]] 84) = W3 := ⟨_, rfl⟩
  have hbel : Below w.heap.size w W3 := by rw [← hW3]; exact ((Below.refl _ w).alloc (Nat.le_refl _) _).alloc (by simp) _
  have k0 : ∀ Z, (W3.alloc Z).cell? ⟨w.heap.size, 0, none⟩ = some (.slice a m.length ca) := fun Z => by refine (Same.alloc _ Z).cell ?_; rw [← hW3]; simp [go_sem]
  have k1 : ∀ Z, (W3.alloc Z).cell? ⟨w.heap.size + 1, 0, none⟩ = some (.func (.func fm) #[] #[]) := fun Z => by refine (Same.alloc _ Z).cell ?_; rw [← hW3]; simp [go_sem]
  have hM3 : ∀ Z, MatIn (W3.alloc Z) m (.slice a m.length ca) := fun Z => (hM.mono (Same.of_below hbel)).mono (Same.alloc _ Z)
  have hf : Calls Try.prog 112 #[.func (.func 113) #[] #[at0 w.heap.size, at0 (w.heap.size + 1)]] W3 (RowsTold W3 (toldOf g m) (toldE m)) := by
    unfold toldOf toldE
    by_cases hv : validB m = true
    · rw [if_pos hv, if_pos hv]
      refine (fitted112_ok 113 _ W3 (fun u w' => RowIn w' (m.map g) u) (fun u w1 w2 hs h => h.mono hs) (enters_of Try.func113 (by kernel_rfl) rfl _) (ofChan1_yes hF m _ _ _ _ (hM3 _) hv (k0 _) (k1 _))).mono ?_
      rintro x w' ⟨u, rfl, hu, hb⟩
      exact ⟨u, rfl, hu, hb⟩
    · rw [if_neg hv, if_neg hv]
      refine (fitted112_no 113 _ 1 W3 (enters_of Try.func113 (by kernel_rfl) rfl _) (ofChan1_no m _ _ _ _ (hM3 _) (by simpa using hv) (k0 _) (k1 _))).mono ?_
      rintro x w' ⟨rfl, hb⟩
      exact ⟨_, rfl, ⟨none, 0, rfl, fun i hi => absurd hi (Nat.not_lt_zero _), by simp, by simp⟩, hb⟩
  subst hW3
  have HBL := Lib.hid hbel
  have HF := Lib.hid hf
  clear hbel k0 k1 hM3 hM hin hf hF
  unfold RowsTold
  go_enter Try.func72, Try.ntmps72
  go_wp2_with (go_at_call 112; (with_reducible refine HF.out.mono ?_); rintro e w1 ⟨u, rfl, hu, hb1⟩; have HU := Lib.hid hu; clear hu)
  go_ret2
  exact ⟨_, rfl, HU.out, HBL.out.trans (hb1.mono HBL.out.size)⟩

theorem measPeak : Meas 73 pk := ⟨enters_of Try.func73 (by kernel_rfl) rfl, peak1_any, fun l hl h => by
  have := pk_take l h l.length (Nat.le_refl _)
  rw [List.take_length] at this
  unfold I64; omega⟩
theorem rnd_low {a n : Int} (h : 0 ≤ a) (hn : 1 ≤ n) : 0 ≤ rnd a n ∧ rnd a n ≤ a + n := by
  unfold rnd
  rw [if_neg (by omega)]
  have h2 : 0 ≤ n / 2 := Int.ediv_nonneg (by omega) (by decide)
  refine ⟨Int.ediv_nonneg (by omega) (by omega), ?_⟩
  have h3 : (a + n / 2) / n ≤ a + n / 2 := Int.ediv_le_self _ (by omega)
  omega
theorem measPower : Meas 74 pw := ⟨enters_of Try.func74 (by kernel_rfl) rfl, power1_any, fun l hl h => by
  have h1 := sq_take l h l.length (Nat.le_refl _)
  rw [List.take_length] at h1
  have h2 := rnd_low (a := sq l) (n := max (l.length : Int) 1) h1.1 (by omega)
  unfold I64 pw; omega⟩
set_option maxRecDepth 100000 in
theorem peak_any (m : List (List Int)) (v : Value) (w : World) (hM : MatIn w m v) : Calls Try.prog 22 #[v] w (RowsTold w (toldOf pk m) (toldE m)) := by
  have HF := Lib.hid (ofChannels_any measPeak m v w hM)
  obtain ⟨a, ca, rfl, hin, hal, hac⟩ := id hM
  clear hM hin
  unfold RowsTold at *
  go_enter Try.func22, Try.ntmps22
  go_wp2_with (go_at_call 72; (with_reducible refine HF.out.mono ?_); rintro e w1 ⟨u, rfl, hu, hb1⟩; have HU := Lib.hid hu; clear hu)
  go_ret2
  exact ⟨_, rfl, HU.out, hb1⟩
set_option maxRecDepth 100000 in
theorem power_any (m : List (List Int)) (v : Value) (w : World) (hM : MatIn w m v) : Calls Try.prog 24 #[v] w (RowsTold w (toldOf pw m) (toldE m)) := by
  have HF := Lib.hid (ofChannels_any measPower m v w hM)
  obtain ⟨a, ca, rfl, hin, hal, hac⟩ := id hM
  clear hM hin
  unfold RowsTold at *
  go_enter Try.func24, Try.ntmps24
  go_wp2_with (go_at_call 72; (with_reducible refine HF.out.mono ?_); rintro e w1 ⟨u, rfl, hu, hb1⟩; have HU := Lib.hid hu; clear hu)
  go_ret2
  exact ⟨_, rfl, HU.out, hb1⟩
end Go.Proofs.Ytegomicpolnpoaa
