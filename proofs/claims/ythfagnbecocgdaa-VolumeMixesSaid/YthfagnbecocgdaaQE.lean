/- Where a sound is loud; the iterator over the gains of a block that is ducked. -/
import Derived.Test.YthfagnbecocgdaaQC
import Derived.Test.YthfagnbecocgdaaRE
namespace Go.Proofs.Ythfagnbecocgdaa
open Go.RowKit Go.Shelf Go.Deep
attribute [local go_sem] Oper.semAt_some

def loudR (bd : Int) (f : Nat) (r : List Int) : Bool := decide (bd ≤ max (r.getD f 0) (-(r.getD f 0)))
def loudB (m : List (List Int)) (bd : Int) (f : Nat) : Bool := m.any (loudR bd f)
theorem loudB_yes {m : List (List Int)} {bd : Int} {f k : Nat} (hk : k < m.length) (h : loudR bd f (m.getD k []) = true) : loudB m bd f = true := by
  unfold loudB
  rw [List.any_eq_true]
  exact ⟨m.getD k [], by rw [List.getD_eq_getElem?_getD, List.getElem?_eq_getElem hk]; exact List.getElem_mem _, h⟩
theorem loudB_no {m : List (List Int)} {bd : Int} {f : Nat} (h : ∀ k, k < m.length → loudR bd f (m.getD k []) = false) : loudB m bd f = false := by
  unfold loudB
  rw [List.any_eq_false]
  intro x hx
  obtain ⟨i, hi, rfl⟩ := List.getElem_of_mem hx
  have := h i hi
  simpa [List.getD, hi] using this

set_option maxRecDepth 100000 in
theorem loud1_any (r : List Int) (v : Value) (Fb Bb : Nat) (f : Nat) (bd : Int) (w : World) (hv : RowIn w r v) (hf : f < r.length) (hr : -8388607 ≤ r.getD f 0 ∧ r.getD f 0 ≤ 8388607) (k0 : w.cell? ⟨Fb, 0, none⟩ = some (.int .i64 f)) (k1 : w.cell? ⟨Bb, 0, none⟩ = some (.int .i64 bd)) :
    Calls Try.prog 127 #[v, at0 Fb, at0 Bb] w fun e w' => e = .returned (.bool (loudR bd f r)) ∧ w = w' := by
  obtain ⟨a, ca, rfl, hin, _, _⟩ := hv
  obtain ⟨ba, oa, rfl, hc, _⟩ := hin f hf
  unfold loudR
  obtain ⟨s, hs⟩ : ∃ s, r.getD f 0 = s := ⟨_, rfl⟩
  rw [hs] at hc hr ⊢
  obtain ⟨r1, r2⟩ := hr
  have iI : (f : Int) < (r.length : Int) := by omega
  clear hin hs
  go_enter Try.func127, Try.ntmps127
  go_wp2_with fail
  go_ret
  exact ⟨by first | rfl | simp, rfl⟩

set_option maxHeartbeats 1000000 in
set_option maxRecDepth 100000 in
theorem index_any (m : List (List Int)) (v : Value) (Fb Bb : Nat) (f : Nat) (bd : Int) (w : World) (hv : MatIn w m v) (hf : ∀ k, k < m.length → f < (m.getD k []).length) (hr : ∀ k, -8388607 ≤ (m.getD k []).getD f 0 ∧ (m.getD k []).getD f 0 ≤ 8388607)
    (k0 : w.cell? ⟨Fb, 0, none⟩ = some (.int .i64 f)) (k1 : w.cell? ⟨Bb, 0, none⟩ = some (.int .i64 bd)) :
    Calls Try.prog 128 #[v, .func (.func 127) #[] #[at0 Fb, at0 Bb]] w fun e w' => ((∃ i : Nat, e = .returned (.int .i64 i) ∧ loudB m bd f = true) ∨ (e = .returned (.int .i64 (-1)) ∧ loudB m bd f = false)) ∧ w = w' := by
  obtain ⟨a, ca, rfl, hin, hal, _⟩ := hv
  have HL := Lib.hid (fun (k : Nat) (hk : k < m.length) (u : Value) (hu : RowIn w (m.getD k []) u) => loud1_any (m.getD k []) u Fb Bb f bd w hu (hf k hk) (hr k) k0 k1)
  have hcf : ∀ (args : Array Value) (w : World), (callFunc 127 args).run Try.prog w = .ok (.enter 127 args) w := enters_of Try.func127 (by kernel_rfl) rfl
  clear hf hr k0 k1
  go_enter Try.func128, Try.ntmps128
  go_wp2_with fail
  go_loop [8] (fun i => ∃ j : Nat, i = .int .i64 j ∧ j ≤ m.length ∧ ∀ k, k < j → loudR bd f (m.getD k []) = false) (fun i => m.length - (intOf i).toNat)
  case atStart => exact ⟨0, rfl, Nat.zero_le _, fun k hk => absurd hk (Nat.not_lt_zero _)⟩
  case round =>
    obtain ⟨j, rfl, hj, hok⟩ := hrel
    have HOK := Lib.hid hok
    clear hok
    by_cases hlt : j < m.length
    · have w4 : (j : Int) < (m.length : Int) := by omega
      obtain ⟨ba, off, u, rfl, hc, hu⟩ := hin j hlt
      have h1 := HL.out j hlt u hu
      have hyes := loudB_yes (bd := bd) (f := f) hlt
      obtain ⟨q, hq⟩ : ∃ q, m.getD j [] = q := ⟨_, rfl⟩
      rw [hq] at hu h1 hyes
      have HQ := Lib.hid hq
      clear hq
      obtain ⟨p, c, rfl, _⟩ : ∃ p c, u = .slice p q.length c ∧ True := by obtain ⟨p, c, h, _⟩ := hu; exact ⟨p, c, h, trivial⟩
      cases hl : loudR bd f q with
      | true =>
        rw [hl] at h1
        have HY := Lib.hid (hyes hl)
        clear hyes hl hu
        go_wp2_with fail
        refine h1.mono ?_
        rintro e w1 ⟨rfl, rfl⟩
        go_wp2_with fail
        go_ret
        exact ⟨.inl ⟨j, rfl, HY.out⟩, rfl⟩
      | false =>
        rw [hl] at h1
        have HN := Lib.hid hl
        clear hyes hl hu
        go_wp2_with fail
        refine h1.mono ?_
        rintro e w1 ⟨rfl, rfl⟩
        go_wp2_with fail
        go_round
        case rel =>
          refine ⟨j + 1, by go_num, by omega, fun k hk => ?_⟩
          by_cases e : k = j
          · subst e; rw [HQ.out]; exact HN.out
          · exact HOK.out k (by omega)
        case measure => simp [intOf]; omega
    · have w4 : ¬ (j : Int) < (m.length : Int) := by omega
      obtain rfl : j = m.length := by omega
      go_wp2_with fail
      go_ret
      exact ⟨.inr ⟨rfl, loudB_no HOK.out⟩, rfl⟩
set_option maxRecDepth 100000 in
theorem contains_any (m : List (List Int)) (v : Value) (Fb Bb : Nat) (f : Nat) (bd : Int) (w : World) (hv : MatIn w m v) (hf : ∀ k, k < m.length → f < (m.getD k []).length) (hr : ∀ k, -8388607 ≤ (m.getD k []).getD f 0 ∧ (m.getD k []).getD f 0 ≤ 8388607)
    (k0 : w.cell? ⟨Fb, 0, none⟩ = some (.int .i64 f)) (k1 : w.cell? ⟨Bb, 0, none⟩ = some (.int .i64 bd)) :
    Calls Try.prog 126 #[v, .func (.func 127) #[] #[at0 Fb, at0 Bb]] w fun e w' => e = .returned (.bool (loudB m bd f)) ∧ w = w' := by
  have h := index_any m v Fb Bb f bd w hv hf hr k0 k1
  obtain ⟨a, ca, rfl, _, _, _⟩ := hv
  clear hf hr k0 k1
  cases hl : loudB m bd f with
  | true =>
    have h' : Calls Try.prog 128 #[.slice a m.length ca, .func (.func 127) #[] #[at0 Fb, at0 Bb]] w fun e w' => (∃ i : Nat, e = .returned (.int .i64 i)) ∧ w = w' := h.mono fun e w' ⟨h1, h2⟩ => ⟨h1.elim (fun ⟨i, p, _⟩ => ⟨i, p⟩) (fun p => by have := p.2; rw [hl] at this; cases this), h2⟩
    clear h hl
    go_enter Try.func126, Try.ntmps126
    go_wp2_with (go_at_call 128; (with_reducible refine h'.mono ?_); rintro e w1 ⟨⟨i, rfl⟩, rfl⟩)
    go_ret
    exact ⟨by simp, rfl⟩
  | false =>
    have h' : Calls Try.prog 128 #[.slice a m.length ca, .func (.func 127) #[] #[at0 Fb, at0 Bb]] w fun e w' => e = .returned (.int .i64 (-1)) ∧ w = w' := h.mono fun e w' ⟨h1, h2⟩ => ⟨h1.elim (fun ⟨i, _, p⟩ => by rw [hl] at p; cases p) (fun p => p.1), h2⟩
    clear h hl
    go_enter Try.func126, Try.ntmps126
    go_wp2_with (go_at_call 128; (with_reducible refine h'.mono ?_); rintro e w1 ⟨rfl, rfl⟩)
    go_ret
    exact ⟨rfl, rfl⟩
set_option maxRecDepth 100000 in
theorem isLoud_any (m : List (List Int)) (v : Value) (f : Nat) (bd : Int) (w : World) (hv : MatIn w m v) (hf : ∀ k, k < m.length → f < (m.getD k []).length) (hr : ∀ k, -8388607 ≤ (m.getD k []).getD f 0 ∧ (m.getD k []).getD f 0 ≤ 8388607) :
    Calls Try.prog 117 #[v, .int .i64 f, .int .i64 bd] w fun e w' => e = .returned (.bool (loudB m bd f)) ∧ Below w.heap.size w w' := by
  have hmf := makes
  have hbel : Below w.heap.size w ((w.alloc (.cells #[.int .i64 f] 3)).alloc (.cells #[.int .i64 bd] 3)) := ((Below.refl _ w).alloc (Nat.le_refl _) _).alloc (by simp) _
  have h := contains_any m v w.heap.size (w.heap.size + 1) f bd ((w.alloc (.cells #[.int .i64 f] 3)).alloc (.cells #[.int .i64 bd] 3)) (hv.mono (Same.of_below hbel)) hf hr (by simp [go_sem]) (by simp [go_sem])
  obtain ⟨a, ca, rfl, _, _, _⟩ := hv
  have HB := Lib.hid hbel
  generalize loudB m bd f = L at *
  clear hf hr hbel
  go_enter Try.func117, Try.ntmps117
  go_wp2_with (go_at_call 126; (with_reducible refine h.mono ?_); rintro e w1 ⟨rfl, rfl⟩)
  go_ret
  exact ⟨rfl, HB.out⟩

def duckG (m : List (List Int)) (bd g : Int) (f : Nat) : Int := if loudB m bd f then g else 65536
theorem ducked_any (v : Value) (h1 : v.oneCell' = true) (bd g : Int) (w : World) : Calls Try.prog 102 #[v, .int .i64 bd, .int .i64 g] w fun e w' =>
    e = .returned (.func (.func 116) #[] #[at0 w.heap.size, at0 (w.heap.size + 1), at0 (w.heap.size + 1 + 1)]) ∧ w' = ((w.alloc (.cells #[v] 34)).alloc (.cells #[.int .i64 bd] 3)).alloc (.cells #[.int .i64 g] 3) := by
  have hmf := makes
  go_enter Try.func102, Try.ntmps102
  go_wp2_with fail
  go_ret
  exact ⟨rfl, rfl⟩

set_option maxHeartbeats 4000000 in
set_option maxRecDepth 100000 in
theorem ducked_mine (n : Nat) (hn : 6 ≤ n) (m : List (List Int)) (v : Value) (bd g : Int) (A B C k : Nat) (hk : k ≤ 4096) (n0 Bd : Nat) (w X : World) (hv : MatIn w m v) (hm : 0 < m.length) (hrow : ∀ j, j < m.length → (m.getD j []).length = k)
    (hr : ∀ j f, -8388607 ≤ (m.getD j []).getD f 0 ∧ (m.getD j []).getD f 0 ≤ 8388607) (kA : w.cell? ⟨A, 0, none⟩ = some v) (kB : w.cell? ⟨B, 0, none⟩ = some (.int .i64 bd)) (kC : w.cell? ⟨C, 0, none⟩ = some (.int .i64 g)) (hX : Below w.heap.size w X) (hn0 : w.heap.size ≤ n0) :
    SeqMine Fence.wide n Try.prog 116 #[at0 A, at0 B, at0 C] (fun x : { i : Nat // i < k } => gainVals (duckG m bd g) x.1) (KpB n0 Bd) (fun ys => ys.map Subtype.val = List.range k) 5000 X := by
  intro l J W hW hJ hY h0
  have HY := Lib.hid hY
  have HJ := Lib.hid hJ
  have hWw : Below w.heap.size w W := hX.trans (hW.mono hX.size)
  have HL : Hid (∀ (f : Nat) (x : World), f < k → Below w.heap.size w x → Calls Try.prog 117 #[v, .int .i64 f, .int .i64 bd] x fun e w' => e = .returned (.bool (loudB m bd f)) ∧ Below x.heap.size x w') := Lib.hid fun f x hf hx =>
    isLoud_any m v f bd x (hv.mono (Same.of_below hx)) (fun j hj => by rw [hrow j hj]; exact hf) (fun j => hr j f)
  have HC : Hid (∀ x, Below w.heap.size w x → x.cell? ⟨A, 0, none⟩ = some v ∧ x.cell? ⟨B, 0, none⟩ = some (.int .i64 bd) ∧ x.cell? ⟨C, 0, none⟩ = some (.int .i64 g)) := Lib.hid fun x hx =>
    ⟨(Same.of_below hx).cell kA, (Same.of_below hx).cell kB, (Same.of_below hx).cell kC⟩
  have h0row := hrow 0 hm
  obtain ⟨a, ca, rfl, hin, _, _⟩ := hv
  obtain ⟨b1, o1, u1, rfl, hc1, hu1⟩ := hin 0 hm
  obtain ⟨a2, c2, rfl, _, _, _⟩ := hu1
  rw [h0row] at hc1
  rw [Nat.add_zero] at hc1
  have hc1W := (Same.of_below hWw).cell hc1
  obtain ⟨q0, _, _⟩ := HC.out W hWw
  have HWW := Lib.hid hWw
  have hmI : (0 : Int) < (m.length : Int) := by omega
  clear hY hJ hW hWw hin hc1 hrow hr kA kB kC h0row
  refine callsIn_of_wp Try.func116 rfl trivial ?_ rfl
  simp only [Try.ntmps116, List.size_toArray, List.length_cons, List.length_nil, Nat.reduceAdd, Nat.reduceSub, Array.replicate_succ, Array.replicate_zero, List.push_toArray, List.append_toArray, List.nil_append, List.cons_append]
  gi_wp2
  clear q0 hc1W
  gi_loopw [11] (fun i wr => ∃ j : Nat, j ≤ k ∧ i = .int .i64 j ∧ Below w.heap.size w wr ∧ ∃ q : List { i : Nat // i < k }, q.map Subtype.val = List.range j ∧ J q wr) (fun i _ => k - (intOf i).toNat)
  case atStart => exact ⟨0, Nat.zero_le _, rfl, HWW.out, [], rfl, h0⟩
  case round =>
    clear h0 HWW
    obtain ⟨j, hj, rfl, hb, q, hq, hJq⟩ := hrel
    by_cases hlt : j < k
    · have w4 : (j : Int) < (k : Int) := by omega
      obtain ⟨q0, q1, q2⟩ := HC.out wr hb
      have h117 := HL.out j wr hlt hb
      have hql : q.length = j := by have := congrArg List.length hq; simpa using this
      have hdg : duckG m bd g j = if loudB m bd j then g else 65536 := rfl
      have HDG := Lib.hid hdg
      have HB := Lib.hid hb
      have HQ := Lib.hid hq
      have HJQ := Lib.hid hJq
      clear hq hJq hb hdg
      generalize hlb : loudB m bd j = lb at *
      cases lb with
      | true =>
        have hdg2 : duckG m bd g j = g := by rw [HDG.out]; simp
        have HD2 := Lib.hid hdg2
        clear hlb hdg2 HDG
        gi_wp2
        refine ⟨trivial, fun _ => by omega, (callsIn_wide.2 h117).mono ?_⟩
        rintro e w1 ⟨rfl, hb1⟩
        have hb2 := Below.then HB.out (Nat.le_refl _) hb1
        obtain ⟨_, _, q3⟩ := HC.out w1 hb2
        have hJ1 := HJ.out.below HJQ.out hb1
        obtain ⟨fn, tmps, assign, body, hy, hRR⟩ := HY.out q ⟨j, hlt⟩ w1 hJ1 (by omega)
        unfold gainVals at hy
        dsimp only at hy
        rw [HD2.out] at hy
        have HB2 := Lib.hid hb2
        clear hJ1 hb1 h117 hb2 q0 q1 q2
        gi_wp2
        refine ⟨fun _ => by omega, hRR.mono ?_⟩
        rintro e W3 ⟨rfl, hJ3, hk3, _⟩
        have HF := Lib.hid (And.intro (HB2.out.trans (hk3.1.mono hn0)) hJ3)
        clear hk3 hJ3 hRR hy q3
        gi_wp2
        go_roundw
        case rel => exact ⟨j + 1, by omega, by go_num, HF.out.1, q ++ [⟨j, hlt⟩], by simp [HQ.out, List.range_succ], HF.out.2⟩
        case measure => simp [intOf]; omega
      | false =>
        have hdg2 : duckG m bd g j = 65536 := by rw [HDG.out]; simp
        have HD2 := Lib.hid hdg2
        clear hlb hdg2 HDG
        gi_wp2
        refine ⟨trivial, fun _ => by omega, (callsIn_wide.2 h117).mono ?_⟩
        rintro e w1 ⟨rfl, hb1⟩
        have hb2 := Below.then HB.out (Nat.le_refl _) hb1
        have hJ1 := HJ.out.below HJQ.out hb1
        obtain ⟨fn, tmps, assign, body, hy, hRR⟩ := HY.out q ⟨j, hlt⟩ w1 hJ1 (by omega)
        unfold gainVals at hy
        dsimp only at hy
        rw [HD2.out] at hy
        have HB2 := Lib.hid hb2
        clear hJ1 hb1 h117 hb2 q0 q1 q2
        gi_wp2
        refine ⟨fun _ => by omega, hRR.mono ?_⟩
        rintro e W3 ⟨rfl, hJ3, hk3, _⟩
        have HF := Lib.hid (And.intro (HB2.out.trans (hk3.1.mono hn0)) hJ3)
        clear hk3 hJ3 hRR hy
        gi_wp2
        go_roundw
        case rel => exact ⟨j + 1, by omega, by go_num, HF.out.1, q ++ [⟨j, hlt⟩], by simp [HQ.out, List.range_succ], HF.out.2⟩
        case measure => simp [intOf]; omega
    · obtain rfl : j = k := by omega
      have w4 : ¬ (j : Int) < (j : Int) := by omega
      gi_wp2
      go_end0
      exact ⟨⟨_, rfl⟩, q, hq, hJq⟩
theorem isGains_duck {m : List (List Int)} {v : Value} {bd g : Int} {A B C k : Nat} {w : World} (hk : k ≤ 4096) (hg : 0 ≤ g ∧ g ≤ 655360) (hv : MatIn w m v) (hm : 0 < m.length) (hrow : ∀ j, j < m.length → (m.getD j []).length = k)
    (hr : ∀ j f, -8388607 ≤ (m.getD j []).getD f 0 ∧ (m.getD j []).getD f 0 ≤ 8388607) (kA : w.cell? ⟨A, 0, none⟩ = some v) (kB : w.cell? ⟨B, 0, none⟩ = some (.int .i64 bd)) (kC : w.cell? ⟨C, 0, none⟩ = some (.int .i64 g)) :
    IsGains 116 #[at0 A, at0 B, at0 C] k (duckG m bd g) w :=
  ⟨enters_of Try.func116 (by kernel_rfl) rfl, fun i _ => by unfold duckG; split; exact hg; exact ⟨by decide, by decide⟩, fun n X n0 Bd hn hX hn0 _ => ducked_mine n hn m v bd g A B C k hk n0 Bd w X hv hm hrow hr kA kB kC hX hn0⟩
end Go.Proofs.Ythfagnbecocgdaa
