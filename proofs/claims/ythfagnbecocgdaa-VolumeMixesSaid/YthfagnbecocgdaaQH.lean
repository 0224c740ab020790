/- Part's answer, to be written: rows of one's own, each apart from the others. -/
import Derived.Test.YthfagnbecocgdaaTE
import Derived.Test.YthfagnbecocgdaaLA
import Derived.Test.YthfagnbecocgdaaRJ
namespace Go.Proofs.Ythfagnbecocgdaa
open Go.RowKit Go.Shelf Go.Deep

structure Pn (B : Nat) (vs : Nat → Value) (g r k : Nat) (F : Nat → Nat → Int) (W : World) : Prop where
  top : ∀ j, j < r → W.cell? ⟨g, j, none⟩ = some (vs j)
  off : ∀ j, j < r → (vs j).ownBlock ≠ some g
  inj : ∀ i j, i < r → j < r → ∀ q, (vs i).ownBlock = some q → (vs j).ownBlock = some q → i = j
  rows : ∀ j, j < r → W.ownsRow B 3 1 (vs j) k ((List.range k).map fun i => .int .i64 (F j i))
theorem Pn.congr {B g r k : Nat} {vs : Nat → Value} {F G : Nat → Nat → Int} {W : World} (h : Pn B vs g r k F W) (e : ∀ j i, j < r → i < k → F j i = G j i) : Pn B vs g r k G W :=
  ⟨h.top, h.off, h.inj, fun j hj => by
    have := h.rows j hj
    rwa [List.map_congr_left (fun i hi => by rw [e j i hj (List.mem_range.1 hi)] : ∀ i ∈ List.range k, (.int .i64 (F j i) : Value) = .int .i64 (G j i))] at this⟩
theorem Pn.drewN {B g r k : Nat} {vs : Nat → Value} {F : Nat → Nat → Int} {W : World} (h : Pn B vs g r k F W) (n : Nat) : Pn B vs g r k F (W.drewN n) := ⟨h.top, h.off, h.inj, h.rows⟩
theorem Pn.drew {B g r k : Nat} {vs : Nat → Value} {F : Nat → Nat → Int} {W : World} (h : Pn B vs g r k F W) : Pn B vs g r k F W.drew := ⟨h.top, h.off, h.inj, h.rows⟩
theorem Pn.slice {B g r k : Nat} {vs : Nat → Value} {F : Nat → Nat → Int} {W : World} (h : Pn B vs g r k F W) {j : Nat} (hj : j < r) (hk : 0 < k) : ∃ q c, vs j = .slice (some ⟨q, 0, none⟩) k c ∧ B ≤ q := by
  rcases (h.rows j hj).2 with ⟨_, h0⟩ | ⟨q, cap, cur, he, hb, _⟩
  · omega
  · exact ⟨q, cap, he, hb⟩
theorem Pn.put {B g r k : Nat} {vs : Nat → Value} {F : Nat → Nat → Int} {W : World} (h : Pn B vs g r k F W) {j : Nat} (hj : j < r) {i : Nat} (hi : i < k) {q c : Nat} (hq : vs j = .slice (some ⟨q, 0, none⟩) k c) (x : Int) :
    W.cell? ⟨q, i, none⟩ = some (.int .i64 (F j i)) ∧ W.frozen? ⟨q, i, none⟩ = false ∧ Pn B vs g r k (fun a b => if a = j ∧ b = i then x else F a b) (W.setCell ⟨q, i, none⟩ (.int .i64 x)) := by
  have hr := h.rows j hj
  rw [hq] at hr
  refine ⟨by rw [hr.cellAt i (by omega)]; simp [hi], hr.frozenAt i, fun a ha => ?_, h.off, h.inj, fun a ha => ?_⟩
  · rw [World.cell?_setCell_other _ _ _ _ (fun e => h.off j hj (by rw [hq]; simp only [Addr.mk.injEq] at e; simp [Value.ownBlock, e.1]))]
    exact h.top a ha
  · obtain ⟨s1, s2⟩ := hr.stored i (.int .i64 x)
    by_cases e : a = j
    · subst e
      rw [hq]
      suffices hE : ((List.range k).map fun b => (.int .i64 (F a b) : Value)).set i (.int .i64 x) = (List.range k).map fun b => .int .i64 (if a = a ∧ b = i then x else F a b) by rw [hE] at s1; exact s1
      apply List.ext_getElem?
      intro b
      rw [List.getElem?_set]
      by_cases hb : b < k
      · by_cases eb : i = b
        · subst eb; simp [hi]
        · have : ¬ b = i := fun e => eb e.symm
          simp [hb, eb, this]
      · have : ¬ i = b := by omega
        simp [hb, this]
    · have h1 := owns_grown (h.rows a ha) s2 (fun p hp ep => e (h.inj a j ha hj p hp (by rw [hq]; simp only [Option.some.injEq] at ep; simp [Value.ownBlock, ep])))
      rwa [List.map_congr_left (fun b _ => by rw [if_neg (fun hh => e hh.1)] : ∀ b ∈ List.range k, (.int .i64 (if a = j ∧ b = i then x else F a b) : Value) = .int .i64 (F a b))]
theorem Pn.mat {B g r k cap : Nat} {vs : Nat → Value} {F : Nat → Nat → Int} {W : World} (h : Pn B vs g r k F W) (hr : r ≤ 8) (hk : k ≤ 4096) (hcap : r ≤ cap) (hF : ∀ j i, j < r → i < k → I64 (F j i)) : MatIn W (tabM r k F) (.slice (some ⟨g, 0, none⟩) r cap) := by
  refine ⟨some ⟨g, 0, none⟩, cap, by simp [tabM_len], fun i hi => ?_, by simp [tabM_len]; omega, by simpa [tabM_len] using hcap⟩
  simp [tabM_len] at hi
  refine ⟨g, 0, vs i, rfl, by rw [Nat.zero_add]; exact h.top i hi, ?_⟩
  rw [tabM_row F hi]
  refine owns_row (B := B) (w := W) ?_ ⟨by simp; omega, fun f hf => ?_⟩ (fun _ _ _ => rfl)
  · have := h.rows i hi
    simpa [List.map_map, Function.comp_def] using this
  · simp at hf
    have := hF i f hi hf
    simpa [List.getD, hf] using this

def PW (vals : List Value) : Prop := ∀ i j, i < j → j < vals.length → ∀ q, (vals.getD i undef).ownBlock = some q → (vals.getD j undef).ownBlock ≠ some q
theorem PW.snoc {vals : List Value} {u : Value} (h : PW vals) (hu : ∀ i, i < vals.length → ∀ q, (vals.getD i undef).ownBlock = some q → True ∧ u.ownBlock ≠ some q) : PW (vals ++ [u]) := by
  intro i j hij hj q hq
  simp at hj
  rw [getD_snoc_lt (by omega)] at hq
  by_cases e : j < vals.length
  · rw [getD_snoc_lt e]; exact h i j hij e q hq
  · obtain rfl : j = vals.length := by omega
    rw [getD_snoc_eq]
    exact (hu i hij q hq).2
theorem Rz.pn {w wr : World} {rows : List (List Int)} {vals : List Value} {v : Value} {k : Nat} (h : Rz w wr rows vals v) (hp : PW vals) (hk : ∀ j, j < rows.length → (rows.getD j []).length = k) (h1 : 1 ≤ rows.length) :
    ∃ g cap vs, v = .slice (some ⟨g, 0, none⟩) rows.length cap ∧ rows.length ≤ cap ∧ Pn w.heap.size vs g rows.length k (cellM rows) wr := by
  have hol := h.own
  rcases hol.2 with ⟨rfl, h0⟩ | ⟨g, cap, cur, rfl, hb, hgg, hn, hcm, _, _⟩
  · omega
  · refine ⟨g, cap, fun j => vals.getD j undef, rfl, hn, fun j hj => ?_, fun j hj e => ?_, fun i j hi hj q hq hq2 => ?_, fun j hj => ?_⟩
    · have h1 := hol.cells (g := g) rfl j (vals.getD j undef) (by simp [List.getD, show j < vals.length by rw [h.len]; exact hj])
      rw [add_at, Nat.zero_add] at h1
      exact h1
    · exact (h.row j hj).2 g e rfl
    · rcases Nat.lt_trichotomy i j with hij | hij | hij
      · exact absurd hq2 (hp i j hij (by rw [h.len]; exact hj) q hq)
      · exact hij
      · exact absurd hq (hp j i hij (by rw [h.len]; exact hi) q hq2)
    · have := (h.row j hj).1
      rw [hk j hj] at this
      suffices hE : (rows.getD j []).map (Value.int .i64) = (List.range k).map fun i => .int .i64 (cellM rows j i) by rw [hE] at this; exact this
      apply List.ext_getElem?
      intro i
      by_cases hi : i < k
      · have h2 : i < (rows.getD j []).length := by rw [hk j hj]; exact hi
        simp only [List.getElem?_map, List.getElem?_range hi, Option.map_some, cellM]
        rw [show (rows.getD j [])[i]? = some ((rows.getD j []).getD i 0) by rw [List.getD_eq_getElem?_getD (l := rows.getD j []), List.getElem?_eq_getElem h2]; rfl]
        rfl
      · have h2 : ¬ i < (rows.getD j []).length := by rw [hk j hj]; exact hi
        rw [List.getElem?_eq_none (by rw [List.length_map]; omega), List.getElem?_eq_none (by rw [List.length_map, List.length_range]; omega)]

def PartAns (w : World) (m : List (List Int)) (f t : Nat) (e : Ending) (w' : World) : Prop := ∃ g cap vs, e = .returned (.slice (some ⟨g, 0, none⟩) m.length cap) ∧ m.length ≤ cap ∧ Pn w.heap.size vs g m.length (t - f) (cellM (partM m f t)) w' ∧ Below w.heap.size w w'
set_option maxHeartbeats 8000000 in
set_option maxRecDepth 100000 in
theorem part_own (m : List (List Int)) (v : Value) (w : World) (hM : MatIn w m v) (h8 : m.length ≤ 8) (f t : Nat) (hft : f ≤ t) (ht : ∀ k, k < m.length → t ≤ (m.getD k []).length) (ht2 : t ≤ 4096) (h1 : 1 ≤ m.length) :
    Calls Try.prog 45 #[v, .int .i64 f, .int .i64 t] w (PartAns w m f t) := by
  obtain ⟨a, ca, rfl, hin, hal, _⟩ := id hM
  obtain ⟨i1, hi1, hy0, hy1, hy2⟩ := info_parts Try.info40
  have HT := Lib.hid ht
  have HM := Lib.hid hM
  clear hin ht hM
  go_enter Try.func45, Try.ntmps45
  go_wp2_with fail
  go_loopw [7, 8] (fun v i wr => ∃ (k : Nat) (vals : List Value), i = .int .i64 k ∧ k ≤ m.length ∧ Rz w wr ((partM m f t).take k) vals v ∧ PW vals) (fun _ i _ => m.length - (RowKit.intOf i).toNat)
  case atStart => exact ⟨0, [], rfl, Nat.zero_le _, by simpa using Rz.start w, fun i j hij hj => absurd hj (Nat.not_lt_zero _)⟩
  case round =>
    obtain ⟨k, vals, rfl, hk, hz, hpw⟩ := hrel
    rename_i vo _ _
    by_cases hlt : k < m.length
    · have w4 : (k : Int) < (m.length : Int) := by omega
      obtain ⟨a2, ca2, e2, hin2, _, _⟩ := HM.out.mono (Same.of_below hz.below)
      simp only [Value.slice.injEq, true_and] at e2
      obtain ⟨rfl, rfl⟩ := e2
      obtain ⟨bb, ob, u, rfl, hcj, hu⟩ := hin2 k hlt
      have htk := HT.out k hlt
      obtain ⟨aj, cj, rfl, hrin, hrl, hcap⟩ := hu
      obtain ⟨r, hr⟩ : ∃ r, m.getD k [] = r := ⟨_, rfl⟩
      rw [hr] at hcj htk hrin hrl hcap
      have HR := Lib.hid hr
      obtain ⟨sp, sc, hsl, hsrc⟩ := cut_row hrin hcap hft htk
      have hok := cut_ok (f := f) (n := t - f) hrin hrl
      have hcj2 := (Same.alloc wr (.cells #[] 3)).cell hcj
      have HSRC : Hid (0 < t - f → ∃ ad, sp = some ad ∧ ∀ j, j < t - f → (wr.alloc (.cells #[] 3)).cell? (ad.add j) = some (.int .i64 (((r.drop f).take (t - f)).getD j 0))) := Lib.hid fun h => by
        obtain ⟨ad, h1, h2⟩ := hsrc h
        exact ⟨ad, h1, fun j hj => (Same.alloc wr _).cell (h2 j hj)⟩
      have hlen : ((r.drop f).take (t - f)).length = t - f := by rw [List.length_take, List.length_drop]; omega
      have HROW : Hid ((partM m f t).take (k + 1) = (partM m f t).take k ++ [(r.drop f).take (t - f)] ∧ ((partM m f t).take k).length = k) := Lib.hid ⟨by
        rw [take_snocD _ k [] (by rw [partM_len]; exact hlt), partM_at hlt, hr], by rw [List.length_take, partM_len]; omega⟩
      obtain ⟨q, hq⟩ : ∃ q, (r.drop f).take (t - f) = q := ⟨_, rfl⟩
      rw [hq] at HSRC HROW hlen hok
      have HZ := Lib.hid hz
      have HPW := Lib.hid hpw
      clear hpw
      have HOK := Lib.hid hok
      have HLEN := Lib.hid hlen
      clear hz hin2 hrin hr hq hsrc hok hlen hcj
      have hE : (wr.alloc (.cells #[] 3)).ownsRow wr.heap.size 3 1 (.slice (some ⟨wr.heap.size, 0, none⟩) 0 0) 0 (([] : List Int).map (Value.int .i64)) := by
        simpa using World.ownsRow_made (base := wr.heap.size) (size := 1) (e := 3) wr #[] 0 (Nat.le_refl _) (by simp) (by simp)
      go_wp2_with (at_builtin; refine wpList_append_ints rfl (.tmp 16) (.tmp 23) rfl wr.heap.size _ 0 [] rfl hE sp (t - f) sc rfl q HLEN.out HSRC.out (by omega) (by simp) ?_)
      intro u1 w1 ho1 hg1 _
      obtain ⟨p1, l1, c1, rfl⟩ : ∃ p l c, u1 = .slice p l c := by
        rcases ho1.2 with ⟨rfl, _⟩ | ⟨_, _, _, rfl, _⟩
        · exact ⟨_, _, _, rfl⟩
        · exact ⟨_, _, _, rfl⟩
      have hb1 : Below wr.heap.size wr w1 := ((Below.refl _ wr).alloc (Nat.le_refl _) _).grown hg1 (by simp) fun g hg => by cases hg; exact Nat.le_refl _
      have HO1 : Hid (w1.ownsRow wr.heap.size 3 1 (.slice p1 l1 c1) q.length (q.map (Value.int .i64))) := Lib.hid (by rw [HLEN.out]; simpa using ho1)
      have HB1 := Lib.hid hb1
      clear ho1 hg1 hb1 hE hcj2
      have hown2 : (w1.alloc (.cells #[.slice p1 l1 c1] 40)).ownsRow w.heap.size 40 1 u7 k vals := by
        have := owns_below (HZ.out.own) (HB1.out.alloc (by have := HB1.out.size; omega) (.cells #[.slice p1 l1 c1] 40))
        rwa [HROW.out.2] at this
      go_wp2_with (at_builtin; refine wpList_append_moves rfl (.tmp 15) (.tmp 25) 34 rfl w.heap.size 40 i1 _ 1 24 Try.underlying34 hi1 hy0 hy1 hy2 rfl (by decide) u7 k vals rfl hown2 ⟨w1.heap.size, 0, none⟩ 1 1 [.slice p1 l1 c1] rfl rfl ?c1 ?c2 ?c3 ?c4 ?c5 ?_)
      case c1 =>
        intro j x hx
        match j with
        | 0 => simp at hx; subst hx; simp [go_sem]
        | j + 1 => simp at hx
      case c2 =>
        intro x hx; simp at hx; subst hx; rfl
      case c3 => unfold maxLen; omega
      case c4 => omega
      case c5 => have := HZ.out.below.size; have := HB1.out.size; simp; omega
      intro v2 w2 h21 h22 h23
      have hz2 := HZ.out.step (HB1.out.alloc (by have := HB1.out.size; omega) (.cells #[.slice p1 l1 c1] 40)) (HO1.out.alloc _) (by rw [HROW.out.2]; exact h21) h22 h23 HOK.out
      rw [← HROW.out.1] at hz2
      have HZ2 := Lib.hid hz2
      have HPW2 : Hid (PW (vals ++ [.slice p1 l1 c1])) := Lib.hid (HPW.out.snoc fun i hi q hq => ⟨trivial, fun e => by have := (HO1.out.lt q e).1; have := ((HZ.out.row i (by rw [← HZ.out.len]; exact hi)).1.lt q hq).2; omega⟩)
      clear h21 h22 h23 hz2 hown2
      go_wp2_with fail
      go_roundw
      case rel => exact ⟨k + 1, _, by go_num, by omega, HZ2.out, HPW2.out⟩
      case measure => simp [RowKit.intOf]; omega
    · have w4 : ¬ (k : Int) < (m.length : Int) := by omega
      obtain rfl : k = m.length := by omega
      rw [List.take_of_length_le (by rw [partM_len]; exact Nat.le_refl _)] at hz
      have hlen : ∀ j, j < (partM m f t).length → ((partM m f t).getD j []).length = t - f := fun j hj => by
        rw [partM_len] at hj
        rw [partM_at hj, List.length_take, List.length_drop]
        have := HT.out j hj
        omega
      obtain ⟨g, cap, vs, rfl, hcap, hpn⟩ := hz.pn hpw hlen (by rw [partM_len]; exact h1)
      rw [partM_len] at hcap hpn
      have HB := Lib.hid hz.below
      have HPN := Lib.hid (And.intro hcap hpn)
      clear hz hpw hlen hcap hpn
      go_wp2_with fail
      go_ret
      exact ⟨g, cap, vs, by show Ending.returned (.slice _ _ _) = _; rw [partM_len], HPN.out.1, HPN.out.2, HB.out⟩
end Go.Proofs.Ythfagnbecocgdaa
