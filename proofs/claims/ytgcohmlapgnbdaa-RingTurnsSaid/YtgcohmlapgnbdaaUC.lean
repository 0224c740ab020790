/- Play, whole, by whatever the turns do. -/
import Derived.Test.YtgcohmlapgnbdaaUB
namespace Go.Proofs.Ytgcohmlapgnbdaa
open Go.RowKit Go.Shelf Go.Deep

def playK (sz ch fi : Int) (l : List (List Int)) (ps : List Pass) : Int :=
  if frms ch l = false then 1 else if newB sz ch fi = false then 7 else if passesB ps = false then 7 else if l.length ≤ 2000 ∧ ps.length ≤ 5000 then 0 else 4
set_option maxHeartbeats 4000000 in
set_option maxRecDepth 100000 in
theorem play78_no (Bc Bf Bs Bi Bt : Nat) (sz ch fi : Int) (l : List (List Int)) (lv : Value) (ps : List Pass) (pv : Value) (w : World)
    (k0 : w.cell? ⟨Bc, 0, none⟩ = some (.int .i64 ch)) (k1 : w.cell? ⟨Bf, 0, none⟩ = some lv) (k2 : w.cell? ⟨Bs, 0, none⟩ = some (.int .i64 sz)) (k3 : w.cell? ⟨Bi, 0, none⟩ = some (.int .i64 fi)) (k4 : w.cell? ⟨Bt, 0, none⟩ = some pv)
    (hM : MatIn w l lv) (hP : PassIn w ps pv) (hk : playK sz ch fi l ps ≠ 0) :
    Calls Try.prog 78 #[at0 Bc, at0 Bf, at0 Bs, at0 Bi, at0 Bt] w (LeavesX (playK sz ch fi l ps) w) := by
  have h51 := frames_any ch l lv w hM
  cases hf : frms ch l with
  | false =>
    have h51' : Calls Try.prog 51 #[.int .i64 ch, lv] w fun e w' => e = .panicked (misfit 1) ∧ w = w' := h51.mono (by
      rintro e w' ⟨⟨h, _⟩ | ⟨_, rfl⟩, rfl⟩
      · rw [hf] at h; cases h
      · exact ⟨rfl, rfl⟩)
    rw [show playK sz ch fi l ps = 1 by unfold playK; rw [if_pos hf]]
    obtain ⟨al, cl, rfl, _, _, _⟩ := hM
    clear hk hf h51 hP
    go_enter Try.func78, Try.ntmps78
    go_wp2_with (go_at_call 51; (with_reducible refine h51'.mono ?_); rintro e w1 ⟨rfl, rfl⟩)
    exact ⟨rfl, rfl, Below.refl _ _⟩
  | true =>
    have hf' : ¬ frms ch l = false := by rw [hf]; decide
    have h51' : Calls Try.prog 51 #[.int .i64 ch, lv] w fun e w' => e = .returned (.tuple #[]) ∧ w = w' := h51.mono (by
      rintro e w' ⟨⟨_, rfl⟩ | ⟨h, _⟩, rfl⟩
      · exact ⟨rfl, rfl⟩
      · rw [hf] at h; cases h)
    cases hn : newB sz ch fi with
    | false =>
      have hnew : Calls Try.prog 10 #[.int .i64 sz, .int .i64 ch, .int .i64 fi] w fun e w' => e = .returned (.tuple #[.pointer none, .int .i64 7]) ∧ Below w.heap.size w w' := (new_any sz ch fi w).mono (by
        rintro e w' (⟨h, _⟩ | ⟨_, h⟩)
        · rw [hn] at h; cases h
        · exact h)
      have HN7 := Lib.hid (must_no 7)
      rw [show playK sz ch fi l ps = 7 by unfold playK; rw [if_neg hf', if_pos hn]]
      obtain ⟨al, cl, rfl, _, _, _⟩ := hM
      clear hk hf h51 hP hn hf'
      go_enter Try.func78, Try.ntmps78
      go_wp2_with (first
        | (go_at_call 51; (with_reducible refine h51'.mono ?_); rintro e w1 ⟨rfl, rfl⟩)
        | (go_at_call 10; (with_reducible refine hnew.mono ?_); rintro e w1 ⟨rfl, b1⟩)
        | (go_at_call 38; (with_reducible refine (HN7.out _).mono ?_); rintro e w1 ⟨rfl, rfl⟩))
      exact ⟨rfl, rfl, b1⟩
    | true =>
      have hn' : ¬ newB sz ch fi = false := by rw [hn]; decide
      have hnew : Calls Try.prog 10 #[.int .i64 sz, .int .i64 ch, .int .i64 fi] w fun e w' => ∃ P, e = .returned (.tuple #[.pointer (some ⟨P, 0, none⟩), .int .i64 0]) ∧ Below w.heap.size w w' := (new_any sz ch fi w).mono (by
        rintro e w' (⟨_, P, R, h, _, _, hb⟩ | ⟨h, _⟩)
        · exact ⟨P, h, hb⟩
        · rw [hn] at h; cases h)
      have HMY := Lib.hid (must_yes 0)
      have HX : Hid (∀ x, Below w.heap.size w x → x.cell? ⟨Bf, 0, none⟩ = some lv ∧ x.cell? ⟨Bt, 0, none⟩ = some pv) := Lib.hid fun x hx => ⟨(Same.of_below hx).cell k1, (Same.of_below hx).cell k4⟩
      cases hp : passesB ps with
      | false =>
        have H79 : Hid (∀ x, Below w.heap.size w x → Calls Try.prog 79 #[pv] x fun e w' => e = .panicked (misfit 7) ∧ Below x.heap.size x w') := Lib.hid fun x hx => (mustTurns_any ps pv x (hP.mono (Same.of_below hx))).mono (by
          rintro e w' ⟨⟨h, _⟩ | ⟨_, rfl⟩, hb⟩
          · rw [hp] at h; cases h
          · exact ⟨rfl, hb⟩)
        rw [show playK sz ch fi l ps = 7 by unfold playK; rw [if_neg hf', if_neg hn', if_pos hp]]
        obtain ⟨al, cl, rfl, _, _, _⟩ := hM
        obtain ⟨ap, cp, rfl, _, _, _⟩ := hP
        clear hk hf h51 hn hf' hn' hp
        go_enter Try.func78, Try.ntmps78
        go_upto_region 4 with (first
          | (go_at_call 51; (with_reducible refine h51'.mono ?_); rintro e w1 ⟨rfl, rfl⟩)
          | (go_at_call 10; (with_reducible refine hnew.mono ?_); rintro e w1 ⟨P, rfl, b1⟩; have HB1 := Lib.hid b1; clear b1)
          | (go_at_call 38; (with_reducible refine (HMY.out _).mono ?_); rintro e w1 ⟨rfl, rfl⟩))
        obtain ⟨m0, m1⟩ := HX.out _ HB1.out
        have h79 := H79.out _ HB1.out
        go_wp2_with (go_at_call 79; (with_reducible refine h79.mono ?_); rintro e w2 ⟨rfl, b2⟩)
        exact ⟨rfl, rfl, Below.then HB1.out (Nat.le_refl _) b2⟩
      | true =>
        have hp' : ¬ passesB ps = false := by rw [hp]; decide
        have hlim : ¬ (l.length ≤ 2000 ∧ ps.length ≤ 5000) := fun h => hk (by unfold playK; rw [if_neg hf', if_neg hn', if_neg hp', if_pos h])
        have H79 : Hid (∀ x, Below w.heap.size w x → Calls Try.prog 79 #[pv] x fun e w' => e = .returned (.tuple #[]) ∧ Below x.heap.size x w') := Lib.hid fun x hx => (mustTurns_any ps pv x (hP.mono (Same.of_below hx))).mono (by
          rintro e w' ⟨⟨_, rfl⟩ | ⟨h, _⟩, hb⟩
          · exact ⟨rfl, hb⟩
          · rw [hp] at h; cases h)
        have HN4 := Lib.hid (must_no 4)
        rw [show playK sz ch fi l ps = 4 by unfold playK; rw [if_neg hf', if_neg hn', if_neg hp', if_neg hlim]]
        obtain ⟨al, cl, rfl, _, _, _⟩ := hM
        obtain ⟨ap, cp, rfl, _, _, _⟩ := hP
        have hways : (2000 : Int) < (l.length : Int) ∨ ((l.length : Int) ≤ 2000 ∧ (5000 : Int) < (ps.length : Int)) := by omega
        clear hk hf h51 hn hf' hn' hp hp' hlim
        rcases hways with d1 | ⟨d1, d2⟩
        · have e1 : decide ((l.length : Int) ≤ 2000) = false := decide_eq_false (by omega)
          have e2 : ¬ (l.length : Int) ≤ 2000 := by omega
          go_enter Try.func78, Try.ntmps78
          go_upto_region 4 with (first
            | (go_at_call 51; (with_reducible refine h51'.mono ?_); rintro e w1 ⟨rfl, rfl⟩)
            | (go_at_call 10; (with_reducible refine hnew.mono ?_); rintro e w1 ⟨P, rfl, b1⟩; have HB1 := Lib.hid b1; clear b1)
            | (go_at_call 38; (with_reducible refine (HMY.out _).mono ?_); rintro e w1 ⟨rfl, rfl⟩))
          obtain ⟨m0, m1⟩ := HX.out _ HB1.out
          have h79 := H79.out _ HB1.out
          go_upto_region 5 with (go_at_call 79; (with_reducible refine h79.mono ?_); rintro e w2 ⟨rfl, b2⟩; have HB2 := Lib.hid (Below.then HB1.out (Nat.le_refl _) b2); clear b2)
          clear m0 m1
          obtain ⟨m0, m1⟩ := HX.out _ HB2.out
          go_wp2_with (go_at_call 38; (with_reducible refine (HN4.out _).mono ?_); rintro e w1 ⟨rfl, rfl⟩)
          exact ⟨rfl, rfl, HB2.out⟩
        · have e1 : decide ((ps.length : Int) ≤ 5000) = false := decide_eq_false (by omega)
          have e2 : ¬ (ps.length : Int) ≤ 5000 := by omega
          have e3 : decide ((l.length : Int) ≤ 2000) = true := decide_eq_true d1
          go_enter Try.func78, Try.ntmps78
          go_upto_region 4 with (first
            | (go_at_call 51; (with_reducible refine h51'.mono ?_); rintro e w1 ⟨rfl, rfl⟩)
            | (go_at_call 10; (with_reducible refine hnew.mono ?_); rintro e w1 ⟨P, rfl, b1⟩; have HB1 := Lib.hid b1; clear b1)
            | (go_at_call 38; (with_reducible refine (HMY.out _).mono ?_); rintro e w1 ⟨rfl, rfl⟩))
          obtain ⟨m0, m1⟩ := HX.out _ HB1.out
          have h79 := H79.out _ HB1.out
          go_upto_region 5 with (go_at_call 79; (with_reducible refine h79.mono ?_); rintro e w2 ⟨rfl, b2⟩; have HB2 := Lib.hid (Below.then HB1.out (Nat.le_refl _) b2); clear b2)
          clear m0 m1
          obtain ⟨m0, m1⟩ := HX.out _ HB2.out
          go_wp2_with (go_at_call 38; (with_reducible refine (HN4.out _).mono ?_); rintro e w1 ⟨rfl, rfl⟩)
          exact ⟨rfl, rfl, HB2.out⟩

/-- What Play's end knows. -/
structure PlayEnd (I : PlI) (n : Nat) (w0 : World) : Prop where
  fin : ∀ P R P0 x, I P R P0 n x → ∃ g rv, RingAt P R g x ∧ x.cell? ⟨P0, 0, none⟩ = some (.pointer (some ⟨P, 0, none⟩)) ∧ x.cell? ⟨P0, 4, none⟩ = some rv ∧ (w0.heap.size ≤ P ∧ w0.heap.size ≤ R ∧ w0.heap.size ≤ P0)
def PlayYes (I : World → PlI) (n : Nat) (w : World) (e : Ending) (w' : World) : Prop :=
  ∃ w0 P R P0 x1 g rv, e = .returned (.tuple #[rv, .int .i64 (aheadI g.wc g.rc), .int .i64 0]) ∧ (Below w.heap.size w w0 ∧ w.heap.size + 6 ≤ w0.heap.size) ∧ I w0 P R P0 n x1 ∧ RingAt P R g x1 ∧ x1.cell? ⟨P0, 4, none⟩ = some rv ∧ Near (w.heap.size + 5) x1 w' ∧ Below w.heap.size w w'
theorem near_then {n : Nat} {w1 w' w2 : World} (h : Near n w1 w') (h2 : Below w'.heap.size w' w2) : Near n w1 w2 :=
  ⟨⟨h2.os.trans h.1.1, h2.tape.trans h.1.2.1, h2.output.trans h.1.2.2⟩, Nat.le_trans h.2.1 h2.size, fun k hk hlt => (h2.block k (Nat.lt_of_lt_of_le hlt h.2.1)).trans (h.2.2 k hk hlt)⟩
set_option maxHeartbeats 2000000 in
set_option maxRecDepth 100000 in
theorem play_yes (sz ch : Nat) (fi : Int) (l : List (List Int)) (lv : Value) (ps : List Pass) (pv : Value) (w : World) (I : World → PlI) (hI : ∀ w0, Below w.heap.size w w0 → PlayOk sz ch fi lv ps w0 (I w0)) (hE : ∀ w0, Below w.heap.size w w0 → PlayEnd (I w0) ps.length w0)
    (hM : MatIn w l lv) (hP : PassIn w ps pv) (hk : playK sz ch fi l ps = 0) :
    Calls Try.prog 26 #[.int .i64 sz, .int .i64 ch, .int .i64 fi, lv, pv] w (PlayYes I ps.length w) := by
  have hmf := makes
  obtain ⟨hf, hn, hp, h1, h2⟩ : frms ch l = true ∧ newB sz ch fi = true ∧ passesB ps = true ∧ l.length ≤ 2000 ∧ ps.length ≤ 5000 := by
    unfold playK at hk
    split at hk
    · cases hk
    · split at hk
      · cases hk
      · split at hk
        · cases hk
        · split at hk
          · rename_i a b c d
            exact ⟨by simpa using a, by simpa using b, by simpa using c, d.1, d.2⟩
          · cases hk
  obtain ⟨O1, hO1⟩ : ∃ O1, Obj.cells #[.int .i64 sz] 3 = O1 := ⟨_, rfl⟩
  obtain ⟨O2, hO2⟩ : ∃ O2, Obj.cells #[.int .i64 ch] 3 = O2 := ⟨_, rfl⟩
  obtain ⟨O3, hO3⟩ : ∃ O3, Obj.cells #[.int .i64 fi] 3 = O3 := ⟨_, rfl⟩
  obtain ⟨O4, hO4⟩ : ∃ O4, Obj.cells #[lv] 29 = O4 := ⟨_, rfl⟩
  obtain ⟨O5, hO5⟩ : ∃ O5, Obj.cells #[pv] 54 = O5 := ⟨_, rfl⟩
  have hlv1 : lv.oneCell' = true := by obtain ⟨a, ca, rfl, _⟩ := hM; rfl
  have hpv1 : pv.oneCell' = true := by obtain ⟨a, ca, rfl, _⟩ := hP; rfl
  have hbel : Below w.heap.size w (((((w.alloc O1).alloc O2).alloc O3).alloc O4).alloc O5) := ((((((Below.refl _ w).alloc (Nat.le_refl _) _).alloc (by simp) _).alloc (by simp <;> omega) _).alloc (by simp <;> omega) _).alloc (by simp <;> omega) _)
  have hsz : (((((w.alloc O1).alloc O2).alloc O3).alloc O4).alloc O5).heap.size = w.heap.size + 1 + 1 + 1 + 1 + 1 := by simp
  have c1 : (((((w.alloc O1).alloc O2).alloc O3).alloc O4).alloc O5).cell? ⟨w.heap.size, 0, none⟩ = some (.int .i64 sz) := by
    refine (Same.alloc _ O5).cell ((Same.alloc _ O4).cell ((Same.alloc _ O3).cell ((Same.alloc _ O2).cell ?_))); rw [← hO1]; simp [go_sem]
  have c2 : (((((w.alloc O1).alloc O2).alloc O3).alloc O4).alloc O5).cell? ⟨w.heap.size + 1, 0, none⟩ = some (.int .i64 ch) := by
    refine (Same.alloc _ O5).cell ((Same.alloc _ O4).cell ((Same.alloc _ O3).cell ?_)); rw [← hO2]; simp [go_sem]
  have c3 : (((((w.alloc O1).alloc O2).alloc O3).alloc O4).alloc O5).cell? ⟨w.heap.size + 1 + 1, 0, none⟩ = some (.int .i64 fi) := by
    refine (Same.alloc _ O5).cell ((Same.alloc _ O4).cell ?_); rw [← hO3]; simp [go_sem]
  have c4 : (((((w.alloc O1).alloc O2).alloc O3).alloc O4).alloc O5).cell? ⟨w.heap.size + 1 + 1 + 1, 0, none⟩ = some lv := by
    refine (Same.alloc _ O5).cell ?_; rw [← hO4]; simp [go_sem]
  have c5 : (((((w.alloc O1).alloc O2).alloc O3).alloc O4).alloc O5).cell? ⟨w.heap.size + 1 + 1 + 1 + 1, 0, none⟩ = some pv := by rw [← hO5]; simp [go_sem]
  obtain ⟨Z, hZ⟩ : ∃ Z, ((((w.alloc O1).alloc O2).alloc O3).alloc O4).alloc O5 = Z := ⟨_, rfl⟩
  rw [hZ] at hbel hsz c1 c2 c3 c4 c5
  have hb0 : Below Z.heap.size Z (Z.alloc (.cells #[.int .i64 0] 26)) := (Below.refl _ Z).alloc (Nat.le_refl _) _
  have hb1 : Below w.heap.size w (Z.alloc (.cells #[.int .i64 0] 26)) := Below.then hbel (Nat.le_refl _) hb0
  have s0 := Same.of_below hb0
  have h78 := play78_yes (w.heap.size + 1) (w.heap.size + 1 + 1 + 1) w.heap.size (w.heap.size + 1 + 1) (w.heap.size + 1 + 1 + 1 + 1) sz ch fi l lv ps pv _ (I (Z.alloc (.cells #[.int .i64 0] 26))) (hI _ hb1) (s0.cell c2) (s0.cell c4) (s0.cell c1) (s0.cell c3) (s0.cell c5) (hM.mono (Same.of_below hb1)) (hP.mono (Same.of_below hb1)) hf hn hp h1 h2
  have hIok := hI _ hb1
  have hEok := hE _ hb1
  obtain ⟨w0, hw0⟩ : ∃ w0, Z.alloc (.cells #[.int .i64 0] 26) = w0 := ⟨_, rfl⟩
  rw [hw0] at h78 hIok hEok hb1
  have hs0 : w0.heap.size = w.heap.size + 6 := by rw [← hw0]; simp [hsz]
  have hf77 : Calls Try.prog 77 #[.func (.func 78) #[] #[at0 (w.heap.size + 1), at0 (w.heap.size + 1 + 1 + 1), at0 w.heap.size, at0 (w.heap.size + 1 + 1), at0 (w.heap.size + 1 + 1 + 1 + 1)]] Z fun e w' => ∃ P R P0 x1, e = .returned (.tuple #[.pointer (some ⟨P0, 0, none⟩), .int .i64 0]) ∧ I w0 P R P0 ps.length x1 ∧ Near (w.heap.size + 5) x1 w' := by
    refine (fitted77_any 78 _ Z (fun u k x => k = 0 ∧ ∃ P R P0, u = .pointer (some ⟨P0, 0, none⟩) ∧ I w0 P R P0 ps.length x) (enters_of Try.func78 (by kernel_rfl) rfl _) ?_).mono ?_
    · rw [hw0]
      refine h78.mono ?_
      rintro e w1 ⟨P, R, P0, rfl, hi⟩
      have hb := hIok.below _ _ _ _ _ hi
      exact ⟨⟨by rw [hb.block _ (by rw [hs0]; omega)], by have := hb.size; omega⟩, .inl ⟨_, rfl, rfl, P, R, P0, rfl, hi⟩⟩
    · rintro e w' ⟨u, k, w1, rfl, ⟨rfl, P, R, P0, rfl, hi⟩, _, hn⟩
      rw [show Z.heap.size = w.heap.size + 5 by rw [hsz]] at hn
      exact ⟨P, R, P0, w1, rfl, hi, hn⟩
  have HB := Lib.hid hb1
  have HS0 := Lib.hid hs0
  have HIK := Lib.hid hIok
  have HEK := Lib.hid hEok
  obtain ⟨al, cl, rfl, _, _, _⟩ := hM
  obtain ⟨ap, cp, rfl, _, _, _⟩ := hP
  clear h78 hb0 hb1 s0 hbel hsz c1 c2 c3 c4 c5 hI hE hIok hEok hw0 hs0 hf hn hp hk h1 h2 hlv1 hpv1
  subst hZ
  subst hO1
  subst hO2
  subst hO3
  subst hO4
  subst hO5
  go_enter Try.func26, Try.ntmps26
  go_upto_region 4 with (go_at_call 77; (with_reducible refine hf77.mono ?_); rintro e w1 ⟨P, R, P0, x1, rfl, hi, hn⟩; have HI1 := Lib.hid hi; have HN1 := Lib.hid hn; clear hi hn hf77)
  obtain ⟨g, rv, hr, hc0, hc4, hlo⟩ := HEK.out.fin _ _ _ _ HI1.out
  have hbx := HIK.out.below _ _ _ _ _ HI1.out
  have hs0 := HS0.out
  have hr1 : RingAt P R g w1 := ring_near hr (by omega) (by omega) HN1.out
  have m0 : w1.cell? ⟨P0, 0, none⟩ = some (.pointer (some ⟨P, 0, none⟩)) := by rw [World.cell?_of_block (a := ⟨P0, 0, none⟩) (HN1.out.2.2 P0 (by omega) (cell_lt hc0))]; exact hc0
  have m4 : w1.cell? ⟨P0, 4, none⟩ = some rv := by rw [World.cell?_of_block (a := ⟨P0, 4, none⟩) (HN1.out.2.2 P0 (by omega) (cell_lt hc4))]; exact hc4
  have hb1 : Below w.heap.size w w1 := ⟨HN1.out.1.1.trans (hbx.os.trans HB.out.os), HN1.out.1.2.1.trans (hbx.tape.trans HB.out.tape), HN1.out.1.2.2.trans (hbx.output.trans HB.out.output), by have := hbx.size; have := HN1.out.2.1; omega, fun k hk => (HN1.out.2.2 k (by omega) (by have := hbx.size; omega)).trans ((hbx.block k (by omega)).trans (HB.out.block k hk))⟩
  have hfl := filled81_any P R g w1.drew (hr1.below (below_drew (Below.refl _ _)))
  have HF := Lib.hid (And.intro HI1.out (And.intro hr hc4))
  have HB1 := Lib.hid hb1
  clear hr hc0 hc4 hlo hbx hs0 hr1 hb1
  have HM : Hid (∀ x, Below w1.heap.size w1 x → x.cell? ⟨P0, 0, none⟩ = some (.pointer (some ⟨P, 0, none⟩)) ∧ x.cell? ⟨P0, 4, none⟩ = some rv) := Lib.hid fun x hx => ⟨(Same.of_below hx).cell m0, (Same.of_below hx).cell m4⟩
  have H1N : Hid (Near (w.heap.size + 5) x1 w1) := HN1
  refine region_T (S := fun wx => wx.cell? ⟨P0, 0, none⟩ = some (.pointer (some ⟨P, 0, none⟩)) ∧ wx.cell? ⟨P0, 4, none⟩ = some rv) [9, 10, 11] (by kernel_rfl) (HM.out _ (below_drew (Below.refl _ _))) (fun _ => ?_)
  have hS0 := HM.out _ (below_drew (Below.refl _ w1))
  have HBW : Hid (Below w1.heap.size w1 w1.drew) := Lib.hid (below_drew (Below.refl _ w1))
  clear m0 m4
  change Calls Try.prog 81 #[Value.pointer (some { block := P, off := 0 })] w1.drew _ at hfl
  generalize w1.drew = W at *
  refine anyT_take (i := 0) (v := ?_) rfl (by kernel_rfl) (by kernel_rfl) (by kernel_rfl) (by kernel_rfl) (fun _ _ _ h => h) (Or.inl ⟨by rfl, ?_⟩) (by assumption) ?_
  rotate_left
  focus ((intro wq hSw; (try dsimp only at hSw); go_simp); try with_reducible rfl)
  try simp only [Act.put, List.getElem_toArray, List.getElem_cons_succ, List.getElem_cons_zero, List.setIfInBounds_toArray, List.set_cons_zero, List.set_cons_succ]
  refine anyT_take (i := 1) (v := ?_) rfl (by kernel_rfl) (by kernel_rfl) (by kernel_rfl) (by kernel_rfl) (fun _ _ _ h => h) (Or.inl ⟨by rfl, ?_⟩) (by assumption) ?_
  rotate_left
  focus ((intro wq hSw; (try dsimp only at hSw); go_simp); try with_reducible rfl)
  try simp only [Act.put, List.getElem_toArray, List.getElem_cons_succ, List.getElem_cons_zero, List.setIfInBounds_toArray, List.set_cons_zero, List.set_cons_succ]
  refine anyT_take (i := 2) (v := ?_) rfl (by kernel_rfl) (by kernel_rfl) (by kernel_rfl) (by kernel_rfl) (fun _ _ _ h => h) (Or.inl ⟨by rfl, ?_⟩) (by assumption) ?_
  rotate_left
  focus ((intro wq hSw; (try dsimp only at hSw); go_simp); try with_reducible rfl)
  try simp only [Act.put, List.getElem_toArray, List.getElem_cons_succ, List.getElem_cons_zero, List.setIfInBounds_toArray, List.set_cons_zero, List.set_cons_succ]
  refine anyT_take (i := 3) (v := ?_) rfl (by kernel_rfl) (by kernel_rfl) (by kernel_rfl) (by kernel_rfl) (fun _ _ _ h => h) (Or.inl ⟨by rfl, ?_⟩) (by assumption) ?_
  rotate_left
  focus ((intro wq hSw; (try dsimp only at hSw); go_simp); try with_reducible rfl)
  try simp only [Act.put, List.getElem_toArray, List.getElem_cons_succ, List.getElem_cons_zero, List.setIfInBounds_toArray, List.set_cons_zero, List.set_cons_succ]
  refine anyT_take (i := 4) (v := ?_) rfl (by kernel_rfl) (by kernel_rfl) (by kernel_rfl) (by kernel_rfl) (fun _ _ _ h => h) (Or.inl ⟨by rfl, ?_⟩) (by assumption) ?_
  rotate_left
  focus ((intro wq hSw; (try dsimp only at hSw); go_simp); try with_reducible rfl)
  try simp only [Act.put, List.getElem_toArray, List.getElem_cons_succ, List.getElem_cons_zero, List.setIfInBounds_toArray, List.set_cons_zero, List.set_cons_succ]
  refine anyT_take (i := 5) (v := ?_) rfl (by kernel_rfl) (by kernel_rfl) (by kernel_rfl) (by kernel_rfl) (fun _ _ _ h => h) (Or.inl ⟨by rfl, ?_⟩) (by assumption) ?_
  rotate_left
  focus ((intro wq hSw; (try dsimp only at hSw); go_simp); try with_reducible rfl)
  try simp only [Act.put, List.getElem_toArray, List.getElem_cons_succ, List.getElem_cons_zero, List.setIfInBounds_toArray, List.set_cons_zero, List.set_cons_succ]
  refine anyT_take (i := 6) (v := ?_) rfl (by kernel_rfl) (by kernel_rfl) (by kernel_rfl) (by kernel_rfl) (fun _ _ _ h => h) (Or.inl ⟨by rfl, ?_⟩) (by assumption) ?_
  rotate_left
  focus ((intro wq hSw; (try dsimp only at hSw); go_simp); try with_reducible rfl)
  try simp only [Act.put, List.getElem_toArray, List.getElem_cons_succ, List.getElem_cons_zero, List.setIfInBounds_toArray, List.set_cons_zero, List.set_cons_succ]
  refine anyT_take (i := 7) (v := ?_) rfl (by kernel_rfl) (by kernel_rfl) (by kernel_rfl) (by kernel_rfl) (fun _ _ _ h => h) (Or.inl ⟨by rfl, ?_⟩) (by assumption) ?_
  rotate_left
  focus ((intro wq hSw; (try dsimp only at hSw); go_simp); try with_reducible rfl)
  try simp only [Act.put, List.getElem_toArray, List.getElem_cons_succ, List.getElem_cons_zero, List.setIfInBounds_toArray, List.set_cons_zero, List.set_cons_succ]
  refine anyT_one (i := 8) (by kernel_rfl) rfl (fun K hK => ?_)
  go_simp
  refine hfl.mono ?_
  rintro e w2 ⟨rfl, b2⟩
  go_simp
  have HB2 := Lib.hid (Below.then HBW.out (Nat.le_refl _) b2)
  clear b2 hfl
  refine hK.out _ _ (fun _ => HM.out _ HB2.out) ?_
  clear hK K
  try simp only [Act.put, List.getElem_toArray, List.getElem_cons_succ, List.getElem_cons_zero, List.setIfInBounds_toArray, List.set_cons_zero, List.set_cons_succ]
  refine anyT_one (i := 9) (by kernel_rfl) rfl (fun K hK => ?_)
  go_simp
  refine hK.out _ _ (fun h => by cases h) ?_
  clear hK K
  try simp only [Act.put, List.getElem_toArray, List.getElem_cons_succ, List.getElem_cons_zero, List.setIfInBounds_toArray, List.set_cons_zero, List.set_cons_succ]
  refine anyT_one (i := 10) (by kernel_rfl) rfl (fun K hK => ?_)
  go_simp
  refine hK.out _ _ (fun h => by cases h) ?_
  clear hK K
  try simp only [Act.put, List.getElem_toArray, List.getElem_cons_succ, List.getElem_cons_zero, List.setIfInBounds_toArray, List.set_cons_zero, List.set_cons_succ]
  refine anyT_one (i := 11) (by kernel_rfl) rfl (fun K hK => ?_)
  go_simp
  refine hK.out _ _ (fun h => by cases h) ?_
  clear hK K
  try simp only [Act.put, List.getElem_toArray, List.getElem_cons_succ, List.getElem_cons_zero, List.setIfInBounds_toArray, List.set_cons_zero, List.set_cons_succ]
  refine anyT_done (by kernel_rfl) ?_ _
  go_wp2_with fail
  go_ret3
  exact ⟨w0, P, R, P0, x1, g, rv, rfl, ⟨HB.out, by have := HS0.out; omega⟩, HF.out.1, HF.out.2.1, HF.out.2.2, near_then HN1.out HB2.out, Below.then HB1.out (Nat.le_refl _) HB2.out⟩
end Go.Proofs.Ytgcohmlapgnbdaa
