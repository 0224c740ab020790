/- Numbers appended to a row of the call's own; the document's Part. -/
import Derived.Test.YtegomicpolnpoaaTD
import Derived.Laws.OwnMore
namespace Go.Proofs.Ytegomicpolnpoaa
open Go.RowKit Go.Shelf Go.Deep

theorem run_append_zero {P : Program} (w : World) (base : Nat) (t ty e : TypeId) (i : TypeInfo) (size : Nat) (ht : P.underlying t = some (.slice e)) (hi : P.info? e = some i)
    (v : Value) (n : Nat) (xs : List Value) (hown : w.ownsRow base e size v n xs) (p : Option Addr) (c : Nat) :
    (Builtin.append_ #[t, t] ty #[v, .slice p 0 c]).run P w = .ok v w := by
  have hl : ∀ (x : Addr), (loadCells x 0).run P w = .ok #[] w := fun x => by simpa using run_loadCells_list (P := P) w x [] (by simp)
  rcases hown.2 with ⟨rfl, rfl⟩ | ⟨g, cap, cur, rfl, _, _, hnc, _⟩
  · cases p <;> simp [Builtin.append_, run_underlying ht, sizeOf, typeInfo, hi, Builtin.lenOf, Builtin.firstCells, hl]
  · cases p <;> simp [Builtin.append_, run_underlying ht, sizeOf, typeInfo, hi, Builtin.lenOf, Builtin.firstCells, hnc, storeCells, hl]

theorem wpList_append_ints {w : World} {ops : Array Oper} {rest : List Oper} {o : Oper} {a : Act} {Q : Exit → Act → World → Prop} (hgd : o.guard = none) (s x : Operand)
    (ho : o.op = .call { callee := .builtin .append, args := #[s, x], argTypes := #[34, 34] }) (B : Nat) (v : Value) (n : Nat) (xs : List Int) (hs : a.eval s = v) (hown : w.ownsRow B 3 1 v n (xs.map (Value.int .i64)))
    (sp : Option Addr) (m sc : Nat) (hx : a.eval x = .slice sp m sc) (L : List Int) (hl : L.length = m) (hsrc : 0 < m → ∃ ad, sp = some ad ∧ ∀ j, j < m → w.cell? (ad.add j) = some (.int .i64 (L.getD j 0)))
    (hn : n + m ≤ 17592186044416) (hB : B ≤ w.heap.size)
    (h : ∀ v' w', w'.ownsRow B 3 1 v' (n + m) ((xs ++ L).map (Value.int .i64)) → w.grownBy w' v.ownBlock → Moved w v v' → wpList Try.prog ops Q rest (a.put o.dst v') w') : wpList Try.prog ops Q (o :: rest) a w := by
  obtain ⟨i0, hi, hz0, hz1, hz2⟩ := info_parts Try.info3
  by_cases h0 : m = 0
  · subst h0
    obtain rfl : L = [] := List.eq_nil_of_length_eq_zero hl
    refine wpList_plain hgd fun K hK => ?_
    have hrun := run_append_zero (P := Try.prog) w B 34 o.type 3 i0 1 Try.underlying34 hi v n _ hown sp sc
    unfold Oper.wp
    simp [execOp, ho, resolve, invoke, builtin, hs, hx, hrun, Result.andThen]
    exact hK _ _ (h v w (by simpa using hown) ⟨rfl, rfl, rfl, Nat.le_refl _, fun _ _ _ => rfl⟩ (.inl rfl))
  · obtain ⟨ad, rfl, hc⟩ := hsrc (by omega)
    refine wpList_append_moves hgd s x 34 ho B 3 i0 _ 1 8 Try.underlying34 hi hz0 hz1 hz2 rfl (by decide) v n _ hs hown ad m sc (L.map (Value.int .i64)) hx (by simp [hl]) (fun j u hu => ?_) (fun u hu => ?_) (by unfold maxLen; omega) (by omega) hB fun v' w' h1 h2 h3 => h v' w' (by simpa using h1) h2 h3
    · simp only [List.getElem?_map, Option.map_eq_some_iff] at hu
      obtain ⟨y, hy, rfl⟩ := hu
      have hj : j < m := by have := (List.getElem?_eq_some_iff.1 hy).1; omega
      have := hc j hj
      simpa [List.getD, hy] using this
    · simp only [List.mem_map] at hu; obtain ⟨y, _, rfl⟩ := hu; rfl

/-- A row cut: what comes out, in one form. -/
theorem cut_row {w : World} {a : Option Addr} {r : List Int} {cap f t : Nat} (hr : IntsIn w a r) (hc : r.length ≤ cap) (h1 : f ≤ t) (h2 : t ≤ r.length) :
    ∃ sp sc, (∀ w' : World, (Instr.sliceAt 34 (.slice a r.length cap) (some (.int .i64 f)) (some (.int .i64 t)) none).run Try.prog w' = .ok (.slice sp (t - f) sc) w') ∧
      (0 < t - f → ∃ ad, sp = some ad ∧ ∀ j, j < t - f → w.cell? (ad.add j) = some (.int .i64 (((r.drop f).take (t - f)).getD j 0))) := by
  refine ⟨if cap = f then a else a.map (·.add (f * 1)), cap - f, fun w' => ?_, fun h => ?_⟩
  · rw [run_sliceAt_slice _ _ _ _ _ _ (by kernel_rfl), run_slice_lh _ _ _ _ _ (by kernel_rfl) _ _ _ _ (by omega) (by omega) (by omega)]
    have hs : (sizeOf (Try.prog.elem 34)).run Try.prog w' = .ok 1 w' := by kernel_rfl
    rw [hs]
    simp [Result.andThen, sliced]
  · obtain ⟨b, o, rfl, _, _⟩ := hr f (by omega)
    refine ⟨⟨b, o + f, none⟩, ?_, fun j hj => ?_⟩
    · rw [if_neg (by omega)]
      simp only [Option.map_some, Option.some.injEq, Nat.mul_one]
      unfold Addr.add; split <;> simp_all
    · obtain ⟨_, _, e, hcj, _⟩ := hr (f + j) (by omega)
      simp only [Option.some.injEq, Addr.mk.injEq, and_true] at e
      obtain ⟨rfl, rfl⟩ := e
      have : (⟨b, o + f, none⟩ : Addr).add j = ⟨b, o + (f + j), none⟩ := by unfold Addr.add; split <;> simp_all [Nat.add_assoc]
      rw [this, hcj]
      simp [List.getD, List.getElem?_take, hj]
theorem cut_ok {w : World} {a : Option Addr} {r : List Int} {f n : Nat} (hr : IntsIn w a r) (hl : r.length ≤ 17592186044416) : okRow ((r.drop f).take n) := by
  refine ⟨by rw [List.length_take, List.length_drop]; omega, fun i hi => ?_⟩
  rw [List.length_take, List.length_drop] at hi
  obtain ⟨_, _, _, _, h⟩ := hr (f + i) (by omega)
  have : ((r.drop f).take n).getD i 0 = r.getD (f + i) 0 := by simp [List.getD, List.getElem?_take, show i < n by omega]
  rw [this]; exact h

def partM (m : List (List Int)) (f t : Nat) : List (List Int) := m.map fun r => (r.drop f).take (t - f)
theorem partM_len (m : List (List Int)) (f t : Nat) : (partM m f t).length = m.length := by simp [partM]
theorem partM_at {m : List (List Int)} {f t k : Nat} (h : k < m.length) : (partM m f t).getD k [] = ((m.getD k []).drop f).take (t - f) := by simp [partM, List.getD, h]
theorem take_snocD {α : Type} (l : List α) (k : Nat) (d : α) (h : k < l.length) : l.take (k + 1) = l.take k ++ [l.getD k d] := by
  rw [List.take_succ_eq_append_getElem h]; simp [List.getD, h]

set_option maxHeartbeats 4000000 in
set_option maxRecDepth 100000 in
theorem part_any (m : List (List Int)) (v : Value) (w : World) (hM : MatIn w m v) (h8 : m.length ≤ 8) (f t : Nat) (hft : f ≤ t) (ht : ∀ k, k < m.length → t ≤ (m.getD k []).length) (ht2 : t ≤ 4096) :
    Calls Try.prog 48 #[v, .int .i64 f, .int .i64 t] w fun e w' => ∃ u, e = .returned u ∧ MatNew w.heap.size w' (partM m f t) u ∧ Below w.heap.size w w' := by
  obtain ⟨a, ca, rfl, hin, hal, _⟩ := id hM
  obtain ⟨i1, hi1, hy0, hy1, hy2⟩ := info_parts Try.info34
  have HT := Lib.hid ht
  have HM := Lib.hid hM
  clear hin ht hM
  go_enter Try.func48, Try.ntmps48
  go_wp2_with fail
  go_loopw [7, 8] (fun v i wr => ∃ (k : Nat) (vals : List Value), i = .int .i64 k ∧ k ≤ m.length ∧ Rz w wr ((partM m f t).take k) vals v) (fun _ i _ => m.length - (RowKit.intOf i).toNat)
  case atStart => exact ⟨0, [], rfl, Nat.zero_le _, by simpa using Rz.start w⟩
  case round =>
    obtain ⟨k, vals, rfl, hk, hz⟩ := hrel
    rename_i vo _ _
    by_cases hlt : k < m.length
    · have w4 : (k : Int) < (m.length : Int) := by omega
      obtain ⟨a2, ca2, e2, hin2, _, _⟩ := HM.out.mono (Same.of_below hz.below)
      simp only [Value.slice.injEq, true_and] at e2
      obtain ⟨rfl, rfl⟩ := e2
      obtain ⟨bb, ob, u, rfl, hcj, hu⟩ := hin2 k hlt
      have htk := HT.out k hlt
      obtain ⟨aj, cj, rfl, hrin, hrl, hcap⟩ := hu
      obtain ⟨r, hr⟩ : ∃ r, m.getD k [] = r := ⟨_, rfl⟩
      rw [hr] at hcj htk hrin hrl hcap
      have HR := Lib.hid hr
      obtain ⟨sp, sc, hsl, hsrc⟩ := cut_row hrin hcap hft htk
      have hok := cut_ok (f := f) (n := t - f) hrin hrl
      have hcj2 := (Same.alloc wr (.cells #[] 3)).cell hcj
      have HSRC : Hid (0 < t - f → ∃ ad, sp = some ad ∧ ∀ j, j < t - f → (wr.alloc (.cells #[] 3)).cell? (ad.add j) = some (.int .i64 (((r.drop f).take (t - f)).getD j 0))) := Lib.hid fun h => by
        obtain ⟨ad, h1, h2⟩ := hsrc h
        exact ⟨ad, h1, fun j hj => (Same.alloc wr _).cell (h2 j hj)⟩
      have hlen : ((r.drop f).take (t - f)).length = t - f := by rw [List.length_take, List.length_drop]; omega
      have HROW : Hid ((partM m f t).take (k + 1) = (partM m f t).take k ++ [(r.drop f).take (t - f)] ∧ ((partM m f t).take k).length = k) := Lib.hid ⟨by
        rw [take_snocD _ k [] (by rw [partM_len]; exact hlt), partM_at hlt, hr], by rw [List.length_take, partM_len]; omega⟩
      obtain ⟨q, hq⟩ : ∃ q, (r.drop f).take (t - f) = q := ⟨_, rfl⟩
      rw [hq] at HSRC HROW hlen hok
      have HZ := Lib.hid hz
      have HOK := Lib.hid hok
      have HLEN := Lib.hid hlen
      clear hz hin2 hrin hr hq hsrc hok hlen hcj
      have hE : (wr.alloc (.cells #[] 3)).ownsRow wr.heap.size 3 1 (.slice (some ⟨wr.heap.size, 0, none⟩) 0 0) 0 (([] : List Int).map (Value.int .i64)) := by
        simpa using World.ownsRow_made (base := wr.heap.size) (size := 1) (e := 3) wr #[] 0 (Nat.le_refl _) (by simp) (by simp)
      go_wp2_with (at_builtin; refine wpList_append_ints rfl (.tmp 16) (.tmp 23) rfl wr.heap.size _ 0 [] rfl hE sp (t - f) sc rfl q HLEN.out HSRC.out (by omega) (by simp) ?_)
      intro u1 w1 ho1 hg1 _
      obtain ⟨p1, l1, c1, rfl⟩ : ∃ p l c, u1 = .slice p l c := by
        rcases ho1.2 with ⟨rfl, _⟩ | ⟨_, _, _, rfl, _⟩
        · exact ⟨_, _, _, rfl⟩
        · exact ⟨_, _, _, rfl⟩
      have hb1 : Below wr.heap.size wr w1 := ((Below.refl _ wr).alloc (Nat.le_refl _) _).grown hg1 (by simp) fun g hg => by cases hg; exact Nat.le_refl _
      have HO1 : Hid (w1.ownsRow wr.heap.size 3 1 (.slice p1 l1 c1) q.length (q.map (Value.int .i64))) := Lib.hid (by rw [HLEN.out]; simpa using ho1)
      have HB1 := Lib.hid hb1
      clear ho1 hg1 hb1 hE hcj2
      have hown2 : (w1.alloc (.cells #[.slice p1 l1 c1] 34)).ownsRow w.heap.size 34 1 u7 k vals := by
        have := owns_below (HZ.out.own) (HB1.out.alloc (by have := HB1.out.size; omega) (.cells #[.slice p1 l1 c1] 34))
        rwa [HROW.out.2] at this
      go_wp2_with (at_builtin; refine wpList_append_moves rfl (.tmp 15) (.tmp 25) 30 rfl w.heap.size 34 i1 _ 1 24 Try.underlying30 hi1 hy0 hy1 hy2 rfl (by decide) u7 k vals rfl hown2 ⟨w1.heap.size, 0, none⟩ 1 1 [.slice p1 l1 c1] rfl rfl ?c1 ?c2 ?c3 ?c4 ?c5 ?_)
      case c1 =>
        intro j x hx
        match j with
        | 0 => simp at hx; subst hx; simp [go_sem]
        | j + 1 => simp at hx
      case c2 =>
        intro x hx; simp at hx; subst hx; rfl
      case c3 => unfold maxLen; omega
      case c4 => omega
      case c5 => have := HZ.out.below.size; have := HB1.out.size; simp; omega
      intro v2 w2 h21 h22 h23
      have hz2 := HZ.out.step (HB1.out.alloc (by have := HB1.out.size; omega) (.cells #[.slice p1 l1 c1] 34)) (HO1.out.alloc _) (by rw [HROW.out.2]; exact h21) h22 h23 HOK.out
      rw [← HROW.out.1] at hz2
      have HZ2 := Lib.hid hz2
      clear h21 h22 h23 hz2 hown2
      go_wp2_with fail
      go_roundw
      case rel => exact ⟨k + 1, _, by go_num, by omega, HZ2.out⟩
      case measure => simp [RowKit.intOf]; omega
    · have w4 : ¬ (k : Int) < (m.length : Int) := by omega
      obtain rfl : k = m.length := by omega
      rw [List.take_of_length_le (by rw [partM_len]; exact Nat.le_refl _)] at hz
      have HZ := Lib.hid hz
      clear hz
      go_wp2_with fail
      go_ret
      exact ⟨_, rfl, HZ.out.mat (by rw [partM_len]; exact hal), HZ.out.below⟩
end Go.Proofs.Ytegomicpolnpoaa
