/- The iterator over the weights: what has come is a beginning of all of them. -/
import Derived.Test.YtpjmiiejmkgmdaaGA
import Derived.Test.YtpjmiiejmkgmdaaLE
namespace Go.Proofs.Ytpjmiiejmkgmdaa
open Go.RowKit Go.Shelf
attribute [local go_sem] Oper.semAt_some

theorem nzRow_prefix (j : Nat) (r : List Int) {k n : Nat} (h : k ≤ n) : nzRow j r k <+: nzRow j r n := by
  obtain ⟨d, rfl⟩ := Nat.exists_eq_add_of_le h
  clear h
  induction d with
  | zero => exact List.prefix_refl _
  | succ d ih =>
    refine ih.trans ?_
    by_cases h : r.getD (k + d) 0 = 0
    · rw [show k + (d + 1) = (k + d) + 1 by omega, nzRow_no h]; exact List.prefix_refl _
    · rw [show k + (d + 1) = (k + d) + 1 by omega, nzRow_yes h]; exact List.prefix_append _ _
theorem nzTo_prefix (m : List (List Int)) {k n : Nat} (h : k ≤ n) : nzTo m k <+: nzTo m n := by
  obtain ⟨d, rfl⟩ := Nat.exists_eq_add_of_le h
  clear h
  induction d with
  | zero => exact List.prefix_refl _
  | succ d ih =>
    refine ih.trans ?_
    rw [show k + (d + 1) = (k + d) + 1 by omega, nzTo_succ]; exact List.prefix_append _ _
theorem nz_prefix {m : List (List Int)} {j k : Nat} (hj : j < m.length) (hk : k ≤ (m.getD j []).length) : nzTo m j ++ nzRow j (m.getD j []) k <+: nzTo m m.length := by
  refine List.IsPrefix.trans ?_ (nzTo_prefix m (show j + 1 ≤ m.length from hj))
  rw [nzTo_succ]
  exact (List.prefix_append_right_inj _).2 (nzRow_prefix j _ hk)

/-- Weights at places of their own. -/
theorem nzRow_mem {j k : Nat} {r : List Int} {x : Wt} (h : x ∈ nzRow j r k) : x.1.1 = j ∧ x.1.2 < k ∧ x.2 = r.getD x.1.2 0 ∧ x.2 ≠ 0 := by
  unfold nzRow at h
  rw [List.mem_filter, List.mem_map] at h
  obtain ⟨⟨c, hc, rfl⟩, h2⟩ := h
  exact ⟨rfl, List.mem_range.1 hc, rfl, by simpa using h2⟩
theorem nzTo_mem {m : List (List Int)} {n : Nat} {x : Wt} (h : x ∈ nzTo m n) : x.1.1 < n ∧ x.1.2 < (m.getD x.1.1 []).length ∧ x.2 = wAt m x.1.1 x.1.2 ∧ x.2 ≠ 0 := by
  unfold nzTo at h
  rw [List.mem_flatMap] at h
  obtain ⟨j, hj, hx⟩ := h
  obtain ⟨h1, h2, h3, h4⟩ := nzRow_mem hx
  subst h1
  exact ⟨List.mem_range.1 hj, h2, h3, h4⟩
theorem mem_nzRow {j k : Nat} {r : List Int} {c : Nat} (hc : c < k) (h : r.getD c 0 ≠ 0) : ((j, c), r.getD c 0) ∈ nzRow j r k := by
  unfold nzRow
  rw [List.mem_filter, List.mem_map]
  exact ⟨⟨c, List.mem_range.2 hc, rfl⟩, by simpa using h⟩
theorem mem_nzTo {m : List (List Int)} {n i k : Nat} (hi : i < n) (hk : k < (m.getD i []).length) (h : wAt m i k ≠ 0) : ((i, k), wAt m i k) ∈ nzTo m n := by
  unfold nzTo
  rw [List.mem_flatMap]
  exact ⟨i, List.mem_range.2 hi, mem_nzRow hk h⟩
theorem nzRow_nodup (j : Nat) (r : List Int) (k : Nat) : ((nzRow j r k).map Prod.fst).Nodup := by
  induction k with
  | zero => simp [nzRow]
  | succ k ih =>
    by_cases h : r.getD k 0 = 0
    · rw [nzRow_no h]; exact ih
    · rw [nzRow_yes h, List.map_append, List.nodup_append]
      refine ⟨ih, by simp, fun a ha b hb e => ?_⟩
      simp at hb
      subst hb
      obtain ⟨x, hx, he⟩ := List.mem_map.1 ha
      have h2 := (nzRow_mem hx).2.1
      rw [e] at he
      rw [he] at h2
      simp at h2
theorem nzTo_nodup (m : List (List Int)) : ∀ n, ((nzTo m n).map Prod.fst).Nodup
  | 0 => by simp [nzTo]
  | n + 1 => by
    rw [nzTo_succ, List.map_append, List.nodup_append]
    refine ⟨nzTo_nodup m n, nzRow_nodup _ _ _, fun a ha b hb e => ?_⟩
    obtain ⟨x, hx, he⟩ := List.mem_map.1 ha
    obtain ⟨y, hy, he2⟩ := List.mem_map.1 hb
    have h1 := (nzTo_mem hx).1
    have h2 := (nzRow_mem hy).1
    rw [← e, ← he] at he2
    rw [he2] at h2
    omega

set_option maxRecDepth 100000 in
set_option maxHeartbeats 2000000 in
theorem all1p_in (F : Fence) (n : Nat) (h78 : F.fn 78) (hro : F.round = none) (hn : 1 ≤ n) (l Bm : Nat) (m : List (List Int)) (v : Value) (w : World) (hM : MatIn w m v) (hm8 : m.length ≤ 8) (hc8 : ∀ j, (m.getD j []).length ≤ 8)
    (Good : Wt → Prop) (hgood : ∀ j k, j < m.length → k < (m.getD j []).length → Good ((j, k), (m.getD j []).getD k 0)) (J Jx : List Wt → World → Prop)
    (hY : ∀ pre x W, J pre W → pre.length < 100 → Good x → YieldAt F (n - 1) Try.prog l (wtVals x) W fun e W' =>
      (e = .returned (.bool true) ∧ J (pre ++ [x]) W' ∧ Below w.heap.size W W') ∨ (e = .returned (.bool false) ∧ Jx (pre ++ [x]) W'))
    (W : World) (hbW : Below w.heap.size w W) (hB2 : W.cell? ⟨Bm, 2, none⟩ = some v) (h0 : J [] W) :
    CallsIn F n Try.prog 78 #[.func (.yield l) #[] #[], .pointer (some ⟨Bm, 0, none⟩)] W fun e W' => (∃ v, e = .returned v) ∧
      ((∃ ys, ys = nzTo m m.length ∧ J ys W') ∨ (∃ pre, pre <+: nzTo m m.length ∧ Jx pre W')) := by
  obtain ⟨a, ca, rfl, hin, hal, _⟩ := hM
  have HIN := Lib.hid hin
  have HY := Lib.hid hY
  have HC8 := Lib.hid hc8
  have HG := Lib.hid hgood
  clear hin hY hc8 hgood
  refine callsIn_of_wp Try.func78 rfl h78 ?_ hro
  simp only [Try.ntmps78, List.size_toArray, List.length_cons, List.length_nil, Nat.reduceAdd, Nat.reduceSub, Array.replicate_succ, Array.replicate_zero, List.push_toArray, List.append_toArray, List.nil_append, List.cons_append]
  gi_wp2
  clear hB2
  gi_loopw [10] (fun i wr => ∃ j : Nat, j ≤ m.length ∧ i = .int .i64 j ∧ J (nzTo m j) wr ∧ Below w.heap.size w wr) (fun i _ => m.length - (intOf i).toNat)
  case atStart => exact ⟨0, Nat.zero_le _, rfl, h0, hbW⟩
  case round =>
    obtain ⟨j, hj, rfl, hJs, hnx⟩ := hrel
    by_cases hlt : j < m.length
    · obtain ⟨ba, off, u, rfl, hcj, hu⟩ := (RowsIn.mono (Same.of_below hnx) HIN.out) j hlt
      have hpl := HC8.out j
      have hgd := fun k => HG.out j k hlt
      obtain ⟨p, hp⟩ : ∃ p, m.getD j [] = p := ⟨_, rfl⟩
      rw [hp] at hu hpl hgd
      obtain ⟨aj, cj, rfl, _, _, _⟩ := hu
      have hrow : ∀ wr', Below w.heap.size w wr' → IntsIn wr' aj p := fun wr' hb' => by
        obtain ⟨_, _, u', e1, hcj', hu'⟩ := (RowsIn.mono (Same.of_below hb') HIN.out) j hlt
        simp only [Option.some.injEq, Addr.mk.injEq, and_true] at e1
        obtain ⟨rfl, rfl⟩ := e1
        have hsame : u' = .slice aj p.length cj := by
          obtain ⟨_, _, u0, e0, hc0, _⟩ := HIN.out j hlt
          simp only [Option.some.injEq, Addr.mk.injEq, and_true] at e0
          obtain ⟨rfl, rfl⟩ := e0
          have k1 := (Same.of_below hb').cell hc0
          have k2 := (Same.of_below hnx).cell hc0
          rw [k1] at hcj'; rw [k2] at hcj
          exact (Option.some.inj hcj').symm.trans (Option.some.inj hcj)
        subst hsame
        rw [hp] at hu'
        obtain ⟨a2, c2, e2, h2, _, _⟩ := hu'
        simp only [Value.slice.injEq] at e2
        obtain ⟨rfl, _, _⟩ := e2
        exact h2
      have Hrow := Lib.hid hrow
      have Hp := Lib.hid hp
      have Hgd := Lib.hid hgd
      clear hrow hp hgd
      have w4 : (j : Int) < (m.length : Int) := by omega
      gi_wp2
      clear hcj
      obtain ⟨wo, rfl⟩ : ∃ wo : World, wo = wr := ⟨_, rfl⟩
      gi_loopw [17] (fun i wr => ∃ k : Nat, k ≤ p.length ∧ i = .int .i64 k ∧ J (nzTo m j ++ nzRow j p k) wr ∧ Below w.heap.size w wr) (fun i _ => p.length - (intOf i).toNat)
      case atStart => exact ⟨0, Nat.zero_le _, rfl, by simpa [nzRow] using hJs, hnx⟩
      case round =>
        clear hJs hnx
        obtain ⟨k, hk, rfl, hJs, hnx⟩ := hrel
        by_cases hlt2 : k < p.length
        · obtain ⟨bp, op, rfl, hcp, _⟩ := Hrow.out wr hnx k hlt2
          have w5 : (k : Int) < (p.length : Int) := by omega
          have hyes := nzRow_yes (i := j) (k := k) (r := p)
          have hno := nzRow_no (i := j) (k := k) (r := p)
          have hgk := Hgd.out k hlt2
          obtain ⟨x, hx⟩ : ∃ x, p.getD k 0 = x := ⟨_, rfl⟩
          rw [hx] at hcp hyes hno hgk
          by_cases g : x = 0
          · have e1 : (x != 0) = false := by simp [g]
            have HN := Lib.hid (hno g)
            clear hno hyes hx g hgk
            gi_wp2
            refine ⟨fun _ h => (by cases h), ?_⟩
            gi_wp2
            go_roundw
            case rel => exact ⟨k + 1, by omega, by go_num, by rw [HN.out]; exact hJs, hnx⟩
            case measure => simp [intOf]; omega
          · have e1 : (x != 0) = true := by simp [g]
            have HN := Lib.hid (hyes g)
            clear hno hyes hx g
            have hlen : (nzTo m j ++ nzRow j p k).length < 100 := by
              have h1 := nzTo_len HC8.out j
              have h2 := nzRow_len j p k
              rw [List.length_append]; omega
            obtain ⟨fn, tmps, assign, body, hy, hR⟩ := HY.out _ ((j, k), x) wr hJs hlen hgk
            unfold wtVals at hy
            dsimp only at hy
            clear hlen hgk
            gi_wp2
            refine hR.mono ?_
            rintro e W3 (⟨rfl, hJ3, hk3⟩ | ⟨rfl, hJx3⟩)
            · gi_wp2
              go_roundw
              case rel => exact ⟨k + 1, by omega, by go_num, by rw [HN.out, ← List.append_assoc]; exact hJ3, hnx.trans hk3⟩
              case measure => simp [intOf]; omega
            · gi_wp2
              refine bodyPost_ret (results_none rfl _ _ _) rfl ?_
              refine ⟨⟨_, rfl⟩, .inr ⟨_, ?_, hJx3⟩⟩
              rw [List.append_assoc, ← HN.out, ← Hp.out]
              exact nz_prefix hlt (by rw [Hp.out]; omega)
        · obtain rfl : k = p.length := by omega
          gi_wp2
          go_roundw
          case rel => exact ⟨j + 1, by omega, by go_num, by rw [nzTo_succ, Hp.out]; exact hJs, hnx⟩
          case measure => simp [intOf]; omega
    · obtain rfl : j = m.length := by omega
      gi_wp2
      go_end0
      exact ⟨⟨_, rfl⟩, .inl ⟨_, rfl, hJs⟩⟩

theorem all_stopsp (F : Fence) (n : Nat) (h78 : F.fn 78) (hro : F.round = none) (hn : 1 ≤ n) (Bm : Nat) (m : List (List Int)) (v : Value) (w : World) (hM : MatIn w m v) (hm8 : m.length ≤ 8) (hc8 : ∀ j, (m.getD j []).length ≤ 8)
    (P : Wt → Prop) (hgood : ∀ j k, j < m.length → k < (m.getD j []).length → P ((j, k), (m.getD j []).getD k 0)) (W : World) (hbW : Below w.heap.size w W) (hBm : Bm < W.heap.size) (hB2 : W.cell? ⟨Bm, 2, none⟩ = some v) :
    SeqStopsK F n Try.prog 78 #[.pointer (some ⟨Bm, 0, none⟩)] (fun x : GoodWt P => wtVals x.1) (Below w.heap.size) (fun ys => ys.map Subtype.val = nzTo m m.length) (fun pre => pre.map Subtype.val <+: nzTo m m.length) 100 W := by
  intro l J Jx W1 hW1 _ _ hY h0
  refine (all1p_in F n h78 hro hn l Bm m v w hM hm8 hc8 P hgood (fun pre X => ∃ q : List (GoodWt P), q.map Subtype.val = pre ∧ J q X) (fun pre X => ∃ q : List (GoodWt P), q.map Subtype.val = pre ∧ Jx q X) ?_ W1
    (hbW.trans (hW1.mono hbW.size)) ((hW1.cell (p := ⟨Bm, 2, none⟩) hBm).trans hB2) ⟨[], rfl, h0⟩).mono ?_
  · rintro pre x X ⟨q, rfl, hq⟩ hlen hx
    refine (hY q ⟨x, hx⟩ X hq (by simpa using hlen)).mono ?_
    rintro e X' (⟨he, hj, hk⟩ | ⟨he, hj⟩)
    · exact .inl ⟨he, ⟨_, by simp, hj⟩, hk⟩
    · exact .inr ⟨he, ⟨_, by simp, hj⟩⟩
  · rintro e X' ⟨hv, ⟨ys, hys, q, hq, hj⟩ | ⟨pre, hpre, q, hq, hj⟩⟩
    · exact ⟨hv, .inl ⟨q, hq.trans hys, hj⟩⟩
    · exact ⟨hv, .inr ⟨q, (show q.map Subtype.val <+: nzTo m m.length by rw [hq]; exact hpre), hj⟩⟩
end Go.Proofs.Ytpjmiiejmkgmdaa
