/- RingTurns' law. -/
import Derived.Test.YtgcohmlapgnbdaaUW
import Derived.Test.YtgcohmlapgnbdaaAB
import Derived.Test.YtgcohmlapgnbdaaSA
import Derived.Test.YtgcohmlapgnbdaaVC
namespace Go.Proofs.Ytgcohmlapgnbdaa
open Go.RowKit Go.Shelf Go.Deep

theorem and16T (x : Int) : bits BinOp.and IntKind.i64 x 65535 = x % 65536 := by
  have e1 : (BitVec.ofInt 64 x).toNat = (x % 18446744073709551616).toNat := by rw [BitVec.toNat_ofInt]; rfl
  have e2 : (BitVec.ofInt 64 65535).toNat = 65535 := by decide
  have e3 : ∀ a : Nat, a &&& 65535 = a % 65536 := fun a => Nat.and_two_pow_sub_one_eq_mod a 16
  have e4 : bits BinOp.and IntKind.i64 x 65535 = IntKind.i64.wrap ((BitVec.ofInt 64 x &&& BitVec.ofInt 64 65535).toNat : Nat) := rfl
  rw [e4, BitVec.toNat_and, e1, e2, e3, IntKind.wrap_i64]
  have h0 := Int.emod_nonneg x (show (18446744073709551616 : Int) ≠ 0 by decide)
  have h1 : ((x % 18446744073709551616).toNat : Int) = x % 18446744073709551616 := Int.toNat_of_nonneg h0
  have h2 : (((x % 18446744073709551616).toNat % 65536 : Nat) : Int) = x % 65536 := by
    rw [Int.natCast_emod, h1]; omega
  rw [h2]
  omega

theorem mat_takeT {w : World} {l : List (List Int)} {a : Option Addr} {ca k : Nat} (h : MatIn w l (.slice a l.length ca)) (hk : k ≤ l.length) : MatIn w (l.take k) (.slice a k ca) := by
  obtain ⟨a2, c2, e, hin, h1, h2⟩ := h
  simp only [Value.slice.injEq, true_and] at e
  obtain ⟨rfl, rfl⟩ := e
  have hl : (l.take k).length = k := by rw [List.length_take]; omega
  refine ⟨a, ca, by rw [hl], fun i hi => ?_, by omega, by omega⟩
  rw [hl] at hi
  rw [show (l.take k).getD i [] = l.getD i [] by simp [List.getD, List.getElem?_take, hi]]
  exact hin i (by omega)
theorem playK_yes {sz ch fi : Int} {l : List (List Int)} {ps : List Pass} (hk : playK sz ch fi l ps = 0) : frms ch l = true ∧ newB sz ch fi = true ∧ passesB ps = true ∧ l.length ≤ 2000 ∧ ps.length ≤ 5000 := by
  unfold playK at hk
  split at hk
  · cases hk
  · split at hk
    · cases hk
    · split at hk
      · cases hk
      · split at hk
        · rename_i a b c d
          exact ⟨by simpa using a, by simpa using b, by simpa using c, d.1, d.2⟩
        · cases hk
def PG (m : List (List Int)) (n k : Int) (w : World) (e : Ending) (w' : World) : Prop := ∃ a c, e = .returned (.tuple #[.slice a m.length c, .int .i64 n, .int .i64 k]) ∧ MatIn w' m (.slice a m.length c) ∧ Below w.heap.size w w'
def plM (sz : Int) (l : List (List Int)) (ps : List Pass) (k : Int) : List (List Int) := if k = 0 then playR l sz.toNat ps else []
def plN (sz : Int) (l : List (List Int)) (ps : List Pass) (k : Int) : Int := if k = 0 then (playN l sz.toNat ps : Int) else 0
theorem nats_of {sz ch fi : Int} (hn : newB sz ch fi = true) : ∃ s c : Nat, sz = s ∧ ch = c := by
  simp only [newB, Bool.and_eq_true] at hn
  obtain ⟨a1, a2⟩ := sizB_t hn.1.1
  have h2 : 1 ≤ ch ∧ ch ≤ 8 := by simpa [chB] using hn.1.2
  exact ⟨sz.toNat, ch.toNat, by omega, by omega⟩
theorem matIn_nil (w : World) : MatIn w [] (.slice none 0 0) := ⟨none, 0, rfl, (fun i hi => by simp at hi), by simp, Nat.le_refl _⟩
theorem pg_of {sz : Nat} {l : List (List Int)} {ps : List Pass} {w w' : World} {e : Ending} (h : PlayAns l sz ps w e w') : PG (plM sz l ps 0) (plN sz l ps 0) 0 w e w' := by
  obtain ⟨rv, rfl, hm, hb⟩ := h
  have hm' := hm
  obtain ⟨a, c, rfl, _⟩ := hm'
  refine ⟨a, c, ?_, ?_, hb⟩
  · unfold plM plN; rw [if_pos rfl, if_pos rfl]; rfl
  · unfold plM; rw [if_pos rfl]; exact hm
theorem play_gen (sz ch fi : Int) (l : List (List Int)) (lv : Value) (ps : List Pass) (pv : Value) (w : World) (hM : MatIn w l lv) (hP : PassIn w ps pv) {k : Int} (hk : playK sz ch fi l ps = k) :
    Calls Try.prog 26 #[.int .i64 sz, .int .i64 ch, .int .i64 fi, lv, pv] w (PG (plM sz l ps k) (plN sz l ps k) k w) := by
  by_cases h0 : k = 0
  · subst h0
    obtain ⟨s, c, rfl, rfl⟩ := nats_of (playK_yes hk).2.1
    exact (play_counts s c fi l lv ps pv w hM hP hk).mono fun e w' h => pg_of h
  · refine (play_no sz ch fi l lv ps pv w hM hP (by rw [hk]; exact h0)).mono ?_
    rintro e w' ⟨rfl, hb⟩
    rw [hk]
    unfold plM plN
    rw [if_neg h0, if_neg h0]
    exact ⟨none, 0, rfl, matIn_nil _, hb⟩
theorem refPlay_gen (sz ch fi : Int) (l : List (List Int)) (lv : Value) (ps : List Pass) (pv : Value) (w : World) (hM : MatIn w l lv) (hP : PassIn w ps pv) {k : Int} (hk : playK sz ch fi l ps = k) :
    Calls Try.prog 27 #[.int .i64 sz, .int .i64 ch, .int .i64 fi, lv, pv] w (PG (plM sz l ps k) (plN sz l ps k) k w) := by
  by_cases h0 : k = 0
  · subst h0
    obtain ⟨h1, h2, h3, h4⟩ := playK_yes hk
    obtain ⟨s, c, rfl, rfl⟩ := nats_of h2
    exact (refPlay_yes s c fi l lv ps pv w hM hP h1 h2 h3 h4).mono fun e w' h => pg_of h
  · refine (refPlay_no sz ch fi l lv ps pv w hM hP (by rw [hk]; exact h0)).mono ?_
    rintro e w' ⟨rfl, hb⟩
    rw [hk]
    unfold plM plN
    rw [if_neg h0, if_neg h0]
    exact ⟨none, 0, rfl, matIn_nil _, hb⟩
theorem pl_facts (sz : Int) (l : List (List Int)) (ps : List Pass) : (plM sz l ps 0).length ≤ l.length ∧ l.take (plM sz l ps 0).length = plM sz l ps 0 ∧ 0 ≤ plN sz l ps 0 ∧ ((plM sz l ps 0).length : Int) + plN sz l ps 0 ≤ l.length := by
  have hk := runC_ok l.length sz.toNat ps ps.length
  have h1 := hk.rl; have h2 := hk.lw; have h3 := hk.wl
  have hl : (plM sz l ps 0).length = (runC l.length sz.toNat ps ps.length).R := by
    unfold plM playR; rw [if_pos rfl, List.length_take]; omega
  refine ⟨by omega, ?_, ?_, ?_⟩
  · rw [hl]; unfold plM playR; rw [if_pos rfl]
  · unfold plN; rw [if_pos rfl]; omega
  · rw [hl]; unfold plN playN; rw [if_pos rfl]; omega
theorem sameM (x : World) (m : List (List Int)) (va vb : Value) (ha : MatIn x m va) (hb : MatIn x m vb) : Calls Try.prog 28 #[va, vb] x fun e w' => e = .returned (.bool true) ∧ Below x.heap.size x w' :=
  (sameMatrix_any m m va vb x ha hb).mono fun e w' h => ⟨by rw [h.1]; simp, h.2⟩
set_option maxHeartbeats 2000000 in
set_option maxRecDepth 100000 in
theorem turns_dark (sz ch fi ot : Int) (l : List (List Int)) (lv : Value) (ps : List Pass) (pv : Value) (w : World) (hM : MatIn w l lv) (hP : PassIn w ps pv) (h : 300 < ps.length) :
    Calls Try.prog 5 #[.int .i64 sz, .int .i64 ch, .int .i64 fi, .int .i64 ot, lv, pv] w fun e w' => e = .returned (.bool true) ∧ Below w.heap.size w w' := by
  have h25 := frames25_any l lv w hM
  have HAW := Lib.hid awake_any
  obtain ⟨a, ca, rfl, _, _, _⟩ := hM
  obtain ⟨pa, pc, rfl, _, _, _⟩ := hP
  have e1 : (300 : Int) < (ps.length : Int) := by omega
  clear h
  go_enter Try.func5, Try.ntmps5
  go_wp2_with (first
    | (go_at_call 25; (with_reducible refine h25.mono ?_); rintro e w0 ⟨b, rfl, hb, rfl⟩; clear hb h25; cases b)
    | (go_at_call 9; (with_reducible refine (HAW.out _).mono ?_); rintro e w9 ⟨rfl, b9⟩))
  all_goals
    go_ret
    exact ⟨rfl, b9⟩
set_option maxHeartbeats 4000000 in
set_option maxRecDepth 100000 in
theorem turns_main (sz ch fi ot : Int) (l : List (List Int)) (lv : Value) (ps : List Pass) (pv : Value) (w : World) (hM : MatIn w l lv) (hP : PassIn w ps pv) (h : ps.length ≤ 300) :
    Calls Try.prog 5 #[.int .i64 sz, .int .i64 ch, .int .i64 fi, .int .i64 ot, lv, pv] w fun e w' => e = .returned (.bool true) ∧ Below w.heap.size w w' := by
  have h25 := frames25_any l lv w hM
  have HAW := Lib.hid awake_any
  have HS := Lib.hid sameM
  obtain ⟨k, hk⟩ : ∃ k, playK sz ch fi l ps = k := ⟨_, rfl⟩
  have HP1 := Lib.hid (play_gen sz ch fi l lv ps pv w hM hP hk)
  have HP2 := Lib.hid fun x (hx : Below w.heap.size w x) => refPlay_gen sz ch fi l lv ps pv x (hM.mono (Same.of_below hx)) (hP.mono (Same.of_below hx)) hk
  have e1 : ¬ (300 : Int) < (ps.length : Int) := by omega
  by_cases h0 : k = 0
  · subst h0
    have hk3 : playK sz ch (ot % 65536) l ps = 0 := by
      obtain ⟨k1, k2, k3, k4⟩ := playK_yes hk
      have hn : newB sz ch (ot % 65536) = true := by
        simp only [newB, Bool.and_eq_true] at k2 ⊢
        refine ⟨k2.1, ?_⟩
        simp only [ctrB, Bool.and_eq_true, decide_eq_true_eq]
        omega
      unfold playK
      rw [k1, hn, k3, if_neg (by decide), if_neg (by decide), if_neg (by decide), if_pos k4]
    have HP3 := Lib.hid fun x (hx : Below w.heap.size w x) => play_gen sz ch (ot % 65536) l lv ps pv x (hM.mono (Same.of_below hx)) (hP.mono (Same.of_below hx)) hk3
    obtain ⟨f1, f2, f3, f4⟩ := pl_facts sz l ps
    have hlen : l.length ≤ 2000 := (playK_yes hk).2.2.2.1
    generalize plM sz l ps 0 = m at *
    generalize plN sz l ps 0 = n at *
    have HM := Lib.hid hM
    obtain ⟨a, ca, rfl, _, _, hcap⟩ := hM
    obtain ⟨pa, pc, rfl, _, _, _⟩ := hP
    have e2 := and16T ot
    have e3 : IntKind.i64.wrap ((m.length : Int) + n) = (m.length : Int) + n := by rw [IntKind.wrap_i64]; omega
    have e4 : ¬ (l.length : Int) < (m.length : Int) := by omega
    have e5 : ¬ (l.length : Int) < (m.length : Int) + n := by omega
    have hsl := fun w => slice_pre (a := a) (L := l.length) (cap := ca) (n := m.length) (by omega) w
    have HTK := Lib.hid fun x (hx : Below w.heap.size w x) => (by have h := mat_takeT (HM.out.mono (Same.of_below hx)) f1; rw [f2] at h; exact h : MatIn x m (.slice a m.length ca))
    clear hk hk3 f1 f2 f3 f4 hlen h hcap
    go_enter Try.func5, Try.ntmps5
    go_upto_region 3 with (first
      | (go_at_call 25; (with_reducible refine h25.mono ?_); rintro e w0 ⟨b, rfl, hb, rfl⟩; clear hb h25; cases b)
      | (go_at_call 9; (with_reducible refine (HAW.out _).mono ?_); rintro e w9 ⟨rfl, b9⟩))
    · go_wp2_with (go_at_call 9; (with_reducible refine (HAW.out _).mono ?_); rintro e w9 ⟨rfl, b9⟩)
      go_ret
      exact ⟨rfl, b9⟩
    · go_upto_region 9 with (first
        | (go_at_call 26; (with_reducible refine HP1.out.mono ?_); rintro e w1 ⟨a1, c1, rfl, hm1, b1⟩; have HM1 := Lib.hid hm1; have HB1 := Lib.hid b1; clear hm1 b1)
        | (go_at_call 27; (with_reducible refine (HP2.out _ HB1.out).mono ?_); rintro e w2 ⟨a2, c2, rfl, hm2, b2⟩; have HM12 := Lib.hid (HM1.out.mono (Same.of_below b2)); have HM2 := Lib.hid hm2; have HB2 := Lib.hid (Below.then HB1.out (Nat.le_refl _) b2); clear hm2 b2)
        | (go_at_call 28; (with_reducible refine (HS.out _ m _ _ HM12.out HM2.out).mono ?_); rintro e w3 ⟨rfl, b3⟩; have HM3 := Lib.hid (HM12.out.mono (Same.of_below b3)); have HB3 := Lib.hid (Below.then HB2.out (Nat.le_refl _) b3); clear b3))
      go_upto_region 11 with (go_at_call 28; (with_reducible refine (HS.out _ m _ _ HM3.out (HTK.out _ HB3.out)).mono ?_); rintro e w4 ⟨rfl, b4⟩; have HM4 := Lib.hid (HM3.out.mono (Same.of_below b4)); have HB4 := Lib.hid (Below.then HB3.out (Nat.le_refl _) b4); clear b4)
      go_upto_region 12 with (go_at_call 26; (with_reducible refine (HP3.out _ HB4.out).mono ?_); rintro e w5 ⟨a5, c5, rfl, hm5, b5⟩; have HM45 := Lib.hid (HM4.out.mono (Same.of_below b5)); have HM5 := Lib.hid hm5; have HB5 := Lib.hid (Below.then HB4.out (Nat.le_refl _) b5); clear hm5 b5)
      go_wp2_with (first
        | (go_at_call 28; (with_reducible refine (HS.out _ m _ _ HM45.out HM5.out).mono ?_); rintro e w6 ⟨rfl, b6⟩; have HB6 := Lib.hid (Below.then HB5.out (Nat.le_refl _) b6); clear b6)
        | (go_at_call 9; (with_reducible refine (HAW.out _).mono ?_); rintro e w9 ⟨rfl, b9⟩))
      go_ret
      exact ⟨rfl, Below.then HB6.out (Nat.le_refl _) b9⟩
  · generalize plM sz l ps k = m at *
    generalize plN sz l ps k = n at *
    obtain ⟨a, ca, rfl, _, _, hcap⟩ := hM
    obtain ⟨pa, pc, rfl, _, _, _⟩ := hP
    clear hk h hcap
    have h0' : (k != 0) = true := by simpa using h0
    clear h0
    go_enter Try.func5, Try.ntmps5
    go_upto_region 3 with (first
      | (go_at_call 25; (with_reducible refine h25.mono ?_); rintro e w0 ⟨b, rfl, hb, rfl⟩; clear hb h25; cases b)
      | (go_at_call 9; (with_reducible refine (HAW.out _).mono ?_); rintro e w9 ⟨rfl, b9⟩))
    · go_wp2_with (go_at_call 9; (with_reducible refine (HAW.out _).mono ?_); rintro e w9 ⟨rfl, b9⟩)
      go_ret
      exact ⟨rfl, b9⟩
    · go_wp2_with (first
        | (go_at_call 26; (with_reducible refine HP1.out.mono ?_); rintro e w1 ⟨a1, c1, rfl, hm1, b1⟩; have HM1 := Lib.hid hm1; have HB1 := Lib.hid b1; clear hm1 b1)
        | (go_at_call 27; (with_reducible refine (HP2.out _ HB1.out).mono ?_); rintro e w2 ⟨a2, c2, rfl, hm2, b2⟩; have HM12 := Lib.hid (HM1.out.mono (Same.of_below b2)); have HM2 := Lib.hid hm2; have HB2 := Lib.hid (Below.then HB1.out (Nat.le_refl _) b2); clear hm2 b2)
        | (go_at_call 28; (with_reducible refine (HS.out _ m _ _ HM12.out HM2.out).mono ?_); rintro e w3 ⟨rfl, b3⟩; have HB3 := Lib.hid (Below.then HB2.out (Nat.le_refl _) b3); clear b3)
        | (go_at_call 9; (with_reducible refine (HAW.out _).mono ?_); rintro e w9 ⟨rfl, b9⟩))
      go_ret
      exact ⟨rfl, Below.then HB3.out (Nat.le_refl _) b9⟩
theorem turnsLaw_any (sz ch fi ot : Int) (l : List (List Int)) (lv : Value) (ps : List Pass) (pv : Value) (w : World) (hM : MatIn w l lv) (hP : PassIn w ps pv) :
    Calls Try.prog 5 #[.int .i64 sz, .int .i64 ch, .int .i64 fi, .int .i64 ot, lv, pv] w fun e w' => e = .returned (.bool true) ∧ Below w.heap.size w w' := by
  by_cases h : 300 < ps.length
  · exact turns_dark sz ch fi ot l lv ps pv w hM hP h
  · exact turns_main sz ch fi ot l lv ps pv w hM hP (by omega)
end Go.Proofs.Ytgcohmlapgnbdaa
