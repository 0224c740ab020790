/- Behind: one block behind the other, the document's. -/
import Derived.Test.YtegomicpolnpoaaTF
import Derived.Test.YtegomicpolnpoaaNB
namespace Go.Proofs.Ytegomicpolnpoaa
open Go.RowKit Go.Shelf Go.Deep

theorem op_append_moves {P : Program} {w : World} {o : Oper} {a : Act} {K : Act → World → Prop} {Q : Exit → Act → World → Prop} (s x : Operand) (t : TypeId)
    (ho : o.op = .call { callee := .builtin .append, args := #[s, x], argTypes := #[t, t] })
    (base : Nat) (e : TypeId) (i : TypeInfo) (z : Value) (size bytes : Nat) (ht : P.underlying t = some (.slice e)) (hi : P.info? e = some i) (hz : i.zero = some z)
    (hsize : i.size = size) (hby : i.bytes = bytes) (hzs : z.cells.size = size) (hsz : 0 < size)
    (v : Value) (n : Nat) (xs : List Value) (hs : a.eval s = v) (hown : w.ownsRow base e size v n xs)
    (ad : Addr) (m c : Nat) (news : List Value) (hx : a.eval x = .slice (some ad) m c) (hl : news.length = m * size) (hnews : ∀ j u, news[j]? = some u → w.cell? (ad.add j) = some u) (h1 : ∀ u ∈ news, u.oneCell' = true)
    (h63 : n + m ≤ maxLen) (hbytes : (n + m) * bytes ≤ 140737488355328) (hbase : base ≤ w.heap.size)
    (h : ∀ v' w', w'.ownsRow base e size v' (n + m) (xs ++ news) → w.grownBy w' v.ownBlock → Moved w v v' → K (a.put o.dst v') w') : Oper.wp P o a w K Q := by
  obtain ⟨v', w', hr, h2, h3, h4⟩ := run_append_moves (P := P) w base t o.type e i z size bytes ht hi hz hsize hby hzs hsz v n xs hown ad m c news hl hnews h1 h63 hbytes hbase
  unfold Oper.wp execOp
  simp only [ho, resolve, invoke, builtin, Sem.run_bind, Sem.run_pure, Result.andThen_ok, List.map_toArray, List.map_cons, List.map_nil, hs, hx, hr]
  exact h v' w' h2 h3 h4
theorem op_append_ints {w : World} {o : Oper} {a : Act} {K : Act → World → Prop} {Q : Exit → Act → World → Prop} (s x : Operand)
    (ho : o.op = .call { callee := .builtin .append, args := #[s, x], argTypes := #[34, 34] }) (B : Nat) (v : Value) (n : Nat) (xs : List Int) (hs : a.eval s = v) (hown : w.ownsRow B 3 1 v n (xs.map (Value.int .i64)))
    (sp : Option Addr) (m sc : Nat) (hx : a.eval x = .slice sp m sc) (L : List Int) (hl : L.length = m) (hsrc : 0 < m → ∃ ad, sp = some ad ∧ ∀ j, j < m → w.cell? (ad.add j) = some (.int .i64 (L.getD j 0)))
    (hn : n + m ≤ 17592186044416) (hB : B ≤ w.heap.size)
    (h : ∀ v' w', w'.ownsRow B 3 1 v' (n + m) ((xs ++ L).map (Value.int .i64)) → w.grownBy w' v.ownBlock → Moved w v v' → K (a.put o.dst v') w') : Oper.wp Try.prog o a w K Q := by
  obtain ⟨i0, hi, hz0, hz1, hz2⟩ := info_parts Try.info3
  by_cases h0 : m = 0
  · subst h0
    obtain rfl : L = [] := List.eq_nil_of_length_eq_zero hl
    have hrun := run_append_zero (P := Try.prog) w B 34 o.type 3 i0 1 Try.underlying34 hi v n _ hown sp sc
    unfold Oper.wp
    simp [execOp, ho, resolve, invoke, builtin, hs, hx, hrun, Result.andThen]
    exact h v w (by simpa using hown) ⟨rfl, rfl, rfl, Nat.le_refl _, fun _ _ _ => rfl⟩ (.inl rfl)
  · obtain ⟨ad, rfl, hc⟩ := hsrc (by omega)
    refine op_append_moves s x 34 ho B 3 i0 _ 1 8 Try.underlying34 hi hz0 hz1 hz2 rfl (by decide) v n _ hs hown ad m sc (L.map (Value.int .i64)) hx (by simp [hl]) (fun j u hu => ?_) (fun u hu => ?_) (by unfold maxLen; omega) (by omega) hB fun v' w' h1 h2 h3 => h v' w' (by simpa using h1) h2 h3
    · simp only [List.getElem?_map, Option.map_eq_some_iff] at hu
      obtain ⟨y, hy, rfl⟩ := hu
      have hj : j < m := by have := (List.getElem?_eq_some_iff.1 hy).1; omega
      have := hc j hj
      simpa [List.getD, hy] using this
    · simp only [List.mem_map] at hu; obtain ⟨y, _, rfl⟩ := hu; rfl

/-- The rows of one behind those of the other. -/
def behindM (a b : List (List Int)) : List (List Int) := (List.range a.length).map fun i => a.getD i [] ++ b.getD i []
theorem behindM_len (a b : List (List Int)) : (behindM a b).length = a.length := by simp [behindM]
theorem behindM_at {a b : List (List Int)} {k : Nat} (h : k < a.length) : (behindM a b).getD k [] = a.getD k [] ++ b.getD k [] := by simp [behindM, List.getD, h]
theorem row_src {w : World} {a : Option Addr} {r : List Int} (h : IntsIn w a r) : 0 < r.length → ∃ ad, a = some ad ∧ ∀ j, j < r.length → w.cell? (ad.add j) = some (.int .i64 (r.getD j 0)) := fun h0 => by
  obtain ⟨b, o, rfl, _, _⟩ := h 0 h0
  refine ⟨_, rfl, fun j hj => ?_⟩
  obtain ⟨_, _, e, hc, _⟩ := h j hj
  simp only [Option.some.injEq, Addr.mk.injEq, and_true] at e
  obtain ⟨rfl, rfl⟩ := e
  have : (⟨b, o, none⟩ : Addr).add j = ⟨b, o + j, none⟩ := by unfold Addr.add; split <;> simp_all
  rw [this]; exact hc
theorem app_ok {r s : List Int} (h1 : ∀ i, i < r.length → I64 (r.getD i 0)) (h2 : ∀ i, i < s.length → I64 (s.getD i 0)) (hl : r.length + s.length ≤ 17592186044416) : okRow (r ++ s) := by
  refine ⟨by rw [List.length_append]; exact hl, fun i hi => ?_⟩
  rw [List.length_append] at hi
  by_cases h : i < r.length
  · have : (r ++ s).getD i 0 = r.getD i 0 := by simp [List.getD, List.getElem?_append_left h]
    rw [this]; exact h1 i h
  · have : (r ++ s).getD i 0 = s.getD (i - r.length) 0 := by simp [List.getD, List.getElem?_append_right (show r.length ≤ i by omega)]
    rw [this]; exact h2 _ (by omega)
theorem slice_of_owns {w : World} {B n : Nat} {e : TypeId} {u : Value} {xs : List Value} (h : w.ownsRow B e 1 u n xs) : ∃ p c, u = .slice p n c := by
  rcases h.2 with ⟨rfl, rfl⟩ | ⟨_, _, _, rfl, _⟩
  · exact ⟨_, _, rfl⟩
  · exact ⟨_, _, rfl⟩

set_option maxHeartbeats 8000000 in
set_option maxRecDepth 100000 in
theorem behind_any (m s : List (List Int)) (v vs : Value) (w : World) (hM : MatIn w m v) (hS : MatIn w s vs) (h8 : m.length ≤ 8) (hl : m.length ≤ s.length) (hb : ∀ k, k < m.length → (m.getD k []).length + (s.getD k []).length ≤ 17592186044416) :
    Calls Try.prog 99 #[v, vs] w fun e w' => ∃ u, e = .returned u ∧ MatNew w.heap.size w' (behindM m s) u ∧ Below w.heap.size w w' := by
  obtain ⟨a, ca, rfl, hin, hal, _⟩ := id hM
  obtain ⟨b, cb, rfl, hinS, hbl, _⟩ := id hS
  obtain ⟨i1, hi1, hy0, hy1, hy2⟩ := info_parts Try.info34
  have HL := Lib.hid hb
  have HM := Lib.hid hM
  have HSM := Lib.hid hS
  clear hin hinS hb hM hS
  go_enter Try.func99, Try.ntmps99
  go_wp2_with fail
  go_loopw [5, 6] (fun v i wr => ∃ (k : Nat) (vals : List Value), i = .int .i64 k ∧ k ≤ m.length ∧ Rz w wr ((behindM m s).take k) vals v) (fun _ i _ => m.length - (RowKit.intOf i).toNat)
  case atStart => exact ⟨0, [], rfl, Nat.zero_le _, by simpa using Rz.start w⟩
  case round =>
    obtain ⟨k, vals, rfl, hk, hz⟩ := hrel
    by_cases hlt : k < m.length
    · have w4 : (k : Int) < (m.length : Int) := by omega
      obtain ⟨a2, ca2, e2, hin2, _, _⟩ := HM.out.mono (Same.of_below hz.below)
      simp only [Value.slice.injEq, true_and] at e2
      obtain ⟨rfl, rfl⟩ := e2
      obtain ⟨bb, ob, u, rfl, hcj, hu⟩ := hin2 k hlt
      obtain ⟨aj, cj, rfl, hrin, hrl, hcap⟩ := hu
      obtain ⟨a3, ca3, e3, hin3, _, _⟩ := HSM.out.mono (Same.of_below hz.below)
      simp only [Value.slice.injEq, true_and] at e3
      obtain ⟨rfl, rfl⟩ := e3
      obtain ⟨bs, os, u2, rfl, hcs, hu2⟩ := hin3 k (by omega)
      obtain ⟨az, cs, rfl, hsin, hsl, hscap⟩ := hu2
      have hbk := HL.out k hlt
      have HROW : Hid ((behindM m s).take (k + 1) = (behindM m s).take k ++ [m.getD k [] ++ s.getD k []] ∧ ((behindM m s).take k).length = k) := Lib.hid ⟨by
        rw [take_snocD _ k [] (by rw [behindM_len]; exact hlt), behindM_at hlt], by rw [List.length_take, behindM_len]; omega⟩
      obtain ⟨r, hr⟩ : ∃ r, m.getD k [] = r := ⟨_, rfl⟩
      obtain ⟨q, hq⟩ : ∃ q, s.getD k [] = q := ⟨_, rfl⟩
      rw [hr] at hcj hrin hrl hcap hbk HROW
      rw [hq] at hcs hsin hsl hscap hbk HROW
      have HOK := Lib.hid (app_ok (fun i hi => by obtain ⟨_, _, _, _, h⟩ := hrin i hi; exact h) (fun i hi => by obtain ⟨_, _, _, _, h⟩ := hsin i hi; exact h) hbk)
      have w5 : (k : Int) < (s.length : Int) := by omega
      have hks : k < s.length := by omega
      have HSR : Hid (∀ wx : World, Below wr.heap.size wr wx → (0 < r.length → ∃ ad, aj = some ad ∧ ∀ j, j < r.length → wx.cell? (ad.add j) = some (.int .i64 (r.getD j 0))) ∧ (0 < q.length → ∃ ad, az = some ad ∧ ∀ j, j < q.length → wx.cell? (ad.add j) = some (.int .i64 (q.getD j 0)))) :=
        Lib.hid fun wx hx => ⟨row_src (hrin.mono (Same.of_below hx)), row_src (hsin.mono (Same.of_below hx))⟩
      have HCC : Hid (∀ wx : World, Below wr.heap.size wr wx → wx.cell? ⟨bb, ob + k, none⟩ = some (.slice aj r.length cj) ∧ wx.cell? ⟨bs, os + k, none⟩ = some (.slice az q.length cs) ∧ Below wr.heap.size wr wx) :=
        Lib.hid fun wx hx => ⟨(Same.of_below hx).cell hcj, (Same.of_below hx).cell hcs, hx⟩
      have HZ := Lib.hid hz
      clear hz hin2 hin3 hrin hsin hr hq hcj hcs
      go_wp2_with fail
      refine region_T (S := fun wx => wx.cell? ⟨bb, ob + k, none⟩ = some (.slice aj r.length cj) ∧ wx.cell? ⟨bs, os + k, none⟩ = some (.slice az q.length cs) ∧ Below wr.heap.size wr wx) [13, 14] (by kernel_rfl) (HCC.out _ (Below.refl _ _).drew) (fun _ => ?_)
      have hS0 := HCC.out _ (Below.drew (Below.refl wr.heap.size wr))
      have hW0 : wr.drew.heap.size = wr.heap.size := rfl
      obtain ⟨W, hW⟩ : ∃ W, wr.drew = W := ⟨_, rfl⟩
      rw [hW] at hS0 hW0 ⊢
      clear hW
      refine anyT_take (i := 0) (v := ?_) rfl (by kernel_rfl) (by kernel_rfl) (by kernel_rfl) (by kernel_rfl) (fun _ _ _ h => h) (Or.inl ⟨by rfl, ?_⟩) (by assumption) ?_
      rotate_left
      focus ((intro wq hSw; (try dsimp only at hSw); go_simp); try with_reducible rfl)
      try simp only [Act.put, List.setIfInBounds_toArray, List.set_cons_zero, List.set_cons_succ]
      refine anyT_take (i := 2) (v := ?_) rfl (by kernel_rfl) (by kernel_rfl) (by kernel_rfl) (by kernel_rfl) (fun _ _ _ h => h) (Or.inl ⟨by rfl, ?_⟩) (by assumption) ?_
      rotate_left
      focus ((intro wq hSw; (try dsimp only at hSw); go_simp); try with_reducible rfl)
      try simp only [Act.put, List.setIfInBounds_toArray, List.set_cons_zero, List.set_cons_succ]
      refine anyT_take (i := 3) (v := ?_) rfl (by kernel_rfl) (by kernel_rfl) (by kernel_rfl) (by kernel_rfl) (fun _ _ _ h => h) (Or.inl ⟨by rfl, ?_⟩) (by assumption) ?_
      rotate_left
      focus ((intro wq hSw; (try dsimp only at hSw); go_simp); try with_reducible rfl)
      try simp only [Act.put, List.setIfInBounds_toArray, List.set_cons_zero, List.set_cons_succ]
      refine anyT_take (i := 4) (v := ?_) rfl (by kernel_rfl) (by kernel_rfl) (by kernel_rfl) (by kernel_rfl) (fun _ _ _ h => h) (Or.inl ⟨by rfl, ?_⟩) (by assumption) ?_
      rotate_left
      focus ((intro wq hSw; (try dsimp only at hSw); go_simp); try with_reducible rfl)
      try simp only [Act.put, List.setIfInBounds_toArray, List.set_cons_zero, List.set_cons_succ]
      refine anyT_take (i := 5) (v := ?_) rfl (by kernel_rfl) (by kernel_rfl) (by kernel_rfl) (by kernel_rfl) (fun _ _ _ h => h) (Or.inl ⟨by rfl, ?_⟩) (by assumption) ?_
      rotate_left
      focus ((intro wq hSw; (try dsimp only at hSw); go_simp); try with_reducible rfl)
      try simp only [Act.put, List.setIfInBounds_toArray, List.set_cons_zero, List.set_cons_succ]
      refine anyT_take (i := 7) (v := ?_) rfl (by kernel_rfl) (by kernel_rfl) (by kernel_rfl) (by kernel_rfl) (fun _ _ _ h => h) (Or.inl ⟨by rfl, ?_⟩) (by assumption) ?_
      rotate_left
      focus ((intro wq hSw; (try dsimp only at hSw); go_simp); try with_reducible rfl)
      try simp only [Act.put, List.setIfInBounds_toArray, List.set_cons_zero, List.set_cons_succ]
      refine anyT_take (i := 8) (v := ?_) rfl (by kernel_rfl) (by kernel_rfl) (by kernel_rfl) (by kernel_rfl) (fun _ _ _ h => h) (Or.inl ⟨by rfl, ?_⟩) (by assumption) ?_
      rotate_left
      focus ((intro wq hSw; (try dsimp only at hSw); go_simp); try with_reducible rfl)
      try simp only [Act.put, List.setIfInBounds_toArray, List.set_cons_zero, List.set_cons_succ]
      refine anyT_take (i := 9) (v := ?_) rfl (by kernel_rfl) (by kernel_rfl) (by kernel_rfl) (by kernel_rfl) (fun _ _ _ h => h) (Or.inl ⟨by rfl, ?_⟩) (by assumption) ?_
      rotate_left
      focus ((intro wq hSw; (try dsimp only at hSw); go_simp); try with_reducible rfl)
      try simp only [Act.put, List.setIfInBounds_toArray, List.set_cons_zero, List.set_cons_succ]
      refine anyT_take (i := 10) (v := ?_) rfl (by kernel_rfl) (by kernel_rfl) (by kernel_rfl) (by kernel_rfl) (fun _ _ _ h => h) (Or.inl ⟨by rfl, ?_⟩) (by assumption) ?_
      rotate_left
      focus ((intro wq hSw; (try dsimp only at hSw); go_simp); try with_reducible rfl)
      try simp only [Act.put, List.setIfInBounds_toArray, List.set_cons_zero, List.set_cons_succ]
      refine anyT_one (i := 1) (by kernel_rfl) rfl (fun K hK => ?_)
      go_simp
      refine hK.out _ _ (fun _ => HCC.out _ (hS0.2.2.alloc (by omega) _)) ?_
      clear hK K
      try simp only [Act.put, List.setIfInBounds_toArray, List.set_cons_zero, List.set_cons_succ]
      refine anyT_one (i := 6) (by kernel_rfl) rfl (fun K hK => ?_)
      rw [if_pos (by rfl)]
      have hbE := hS0.2.2.alloc (by omega) (.cells #[] 3)
      have hE : (W.alloc (.cells #[] 3)).ownsRow wr.heap.size 3 1 (.slice (some ⟨wr.heap.size, 0, none⟩) 0 0) 0 (([] : List Int).map (Value.int .i64)) := by
        have := World.ownsRow_made (base := wr.heap.size) (size := 1) (e := 3) W #[] 0 (by omega) (by simp) (by simp)
        rw [hW0] at this
        simpa using this
      refine op_append_ints (.tmp 14) (.tmp 18) rfl wr.heap.size _ 0 [] rfl hE aj r.length cj rfl r rfl (HSR.out _ hbE).1 (by omega) (by simp; omega) ?_
      intro u1 w1 ho1 hg1 _
      have hb1 : Below wr.heap.size wr w1 := hbE.grown hg1 (by simp; omega) fun g hg => by cases hg; exact Nat.le_refl _
      simp only [Nat.zero_add, List.nil_append] at ho1
      refine hK.out _ _ (fun _ => HCC.out _ hb1) ?_
      clear hK K hg1 hE
      try simp only [Act.put, List.setIfInBounds_toArray, List.set_cons_zero, List.set_cons_succ]
      refine anyT_one (i := 11) (by kernel_rfl) rfl (fun K hK => ?_)
      rw [if_pos (by rfl)]
      refine op_append_ints (.tmp 19) (.tmp 23) rfl wr.heap.size u1 r.length r rfl ho1 az q.length cs rfl q rfl (HSR.out _ hb1).2 (by omega) hb1.size ?_
      intro u2 w2 ho2 hg2 _
      have hb2 : Below wr.heap.size wr w2 := hb1.grown hg2 hb1.size fun g hg => (ho1.lt g hg).1
      obtain ⟨p2, c2, rfl⟩ := slice_of_owns ho2
      refine hK.out _ _ (fun _ => HCC.out _ hb2) ?_
      clear hK K hg2
      try simp only [Act.put, List.setIfInBounds_toArray, List.set_cons_zero, List.set_cons_succ]
      refine anyT_one (i := 12) (by kernel_rfl) rfl (fun K hK => ?_)
      go_simp
      refine hK.out _ _ (fun _ => HCC.out _ (hb2.alloc hb2.size _)) ?_
      clear hK K
      try simp only [Act.put, List.setIfInBounds_toArray, List.set_cons_zero, List.set_cons_succ]
      refine anyT_one (i := 13) (by kernel_rfl) rfl (fun K hK => ?_)
      rw [if_pos (by rfl)]
      obtain ⟨N, hN⟩ : ∃ N, r.length + q.length = N := ⟨_, rfl⟩
      rw [hN] at ho2 ⊢
      have hown2 : (w2.alloc (.cells #[.slice p2 N c2] 34)).ownsRow w.heap.size 34 1 u5 k vals := by
        have := owns_below (HZ.out.own) (hb2.alloc hb2.size (.cells #[.slice p2 N c2] 34))
        rwa [HROW.out.2] at this
      refine op_append_moves (.tmp 13) (.tmp 25) 30 rfl w.heap.size 34 i1 _ 1 24 Try.underlying30 hi1 hy0 hy1 hy2 rfl (by decide) u5 k vals rfl hown2 ⟨w2.heap.size, 0, none⟩ 1 1 [.slice p2 N c2] rfl rfl ?c1 ?c2 ?c3 ?c4 ?c5 ?_
      case c1 =>
        intro j x hx
        match j with
        | 0 => simp at hx; subst hx; simp [go_sem]
        | j + 1 => simp at hx
      case c2 => intro x hx; simp at hx; subst hx; rfl
      case c3 => unfold maxLen; omega
      case c4 => omega
      case c5 => have := HZ.out.below.size; have := hb2.size; simp; omega
      intro v2 w3 h21 h22 h23
      have ho3 : w2.ownsRow wr.heap.size 3 1 (.slice p2 N c2) (r ++ q).length ((r ++ q).map (Value.int .i64)) := by rw [List.length_append, hN]; exact ho2
      have hz2 := HZ.out.step (hb2.alloc hb2.size (.cells #[.slice p2 N c2] 34)) (ho3.alloc _) (by rw [HROW.out.2]; exact h21) h22 h23 HOK.out
      rw [← HROW.out.1] at hz2
      have HZ2 := Lib.hid hz2
      refine hK.out _ _ (fun h => by cases h) ?_
      clear hK K h21 h22 h23 hz2 hown2 ho3 ho2 ho1 hb1 hb2 hbE hS0
      try simp only [Act.put, List.setIfInBounds_toArray, List.set_cons_zero, List.set_cons_succ]
      refine anyT_one (i := 14) (by kernel_rfl) rfl (fun K hK => ?_)
      go_simp
      refine hK.out _ _ (fun h => by cases h) ?_
      clear hK K
      try simp only [Act.put, List.setIfInBounds_toArray, List.set_cons_zero, List.set_cons_succ]
      refine anyT_done (by kernel_rfl) ?_ _
      go_wp2_with fail
      go_roundw
      case rel => exact ⟨k + 1, _, by go_num, by omega, HZ2.out⟩
      case measure => simp [RowKit.intOf]; omega
    · have w4 : ¬ (k : Int) < (m.length : Int) := by omega
      obtain rfl : k = m.length := by omega
      rw [List.take_of_length_le (by rw [behindM_len]; exact Nat.le_refl _)] at hz
      have HZ := Lib.hid hz
      clear hz
      go_wp2_with fail
      go_ret
      exact ⟨_, rfl, HZ.out.mat (by rw [behindM_len]; exact hal), HZ.out.below⟩
end Go.Proofs.Ytegomicpolnpoaa
