/- The document's matrix of zeros: rows appended to a row of the call's own. -/
import Derived.Test.YtegomicpolnpoaaBA
import Derived.Laws.AppendOwn
import Derived.Lib.Walk
import Derived.Lib.SliceRun
namespace Go.Proofs.Ytegomicpolnpoaa
open Go.RowKit Go.Lib Go.Deep

def Moved (w : World) (v v' : Value) : Prop := v'.ownBlock = v.ownBlock ∨ ∃ g, v'.ownBlock = some g ∧ w.heap.size ≤ g

theorem run_append_moves {P : Program} (w : World) (base : Nat) (t ty e : TypeId) (i : TypeInfo) (z : Value) (size bytes : Nat) (ht : P.underlying t = some (.slice e)) (hi : P.info? e = some i) (hz : i.zero = some z)
    (hsize : i.size = size) (hby : i.bytes = bytes) (hzs : z.cells.size = size) (hsz : 0 < size)
    (v : Value) (n : Nat) (xs : List Value) (hown : w.ownsRow base e size v n xs)
    (a : Addr) (m c : Nat) (news : List Value) (hl : news.length = m * size) (hnews : ∀ j u, news[j]? = some u → w.cell? (a.add j) = some u) (h1 : ∀ u ∈ news, u.oneCell' = true)
    (h63 : n + m ≤ maxLen) (hbytes : (n + m) * bytes ≤ 140737488355328) (hbase : base ≤ w.heap.size) :
    ∃ v' w', (Builtin.append_ #[t, t] ty #[v, .slice (some a) m c]).run P w = .ok v' w' ∧ w'.ownsRow base e size v' (n + m) (xs ++ news) ∧ w.grownBy w' v.ownBlock ∧ Moved w v v' := by
  obtain ⟨v', w', hr, h2, h3, _⟩ := run_append_own (P := P) w base t ty e i z size bytes ht hi hz hsize hby hzs hsz v n xs hown a m c news hl hnews h1 h63 hbytes hbase
  refine ⟨v', w', hr, h2, h3, ?_⟩
  rcases hown.2 with ⟨rfl, rfl⟩ | ⟨g, cap, cur, rfl, hbg, hg, hnc, hcm, hcs, htake⟩
  · have hx : xs = [] := List.eq_nil_of_length_eq_zero (by simpa using hown.1)
    subst hx
    obtain ⟨v2, w2, hr2, k2, _, _⟩ := run_append_own (P := P) w w.heap.size t ty e i z size bytes ht hi hz hsize hby hzs hsz (.slice none 0 0) 0 [] (World.ownsRow_nil w _ e size) a m c news hl hnews h1 h63 hbytes (Nat.le_refl _)
    rw [hr] at hr2
    injection hr2 with e1 e2
    subst e1
    subst e2
    cases ho : v'.ownBlock with
    | none => exact .inl (by rw [ho]; rfl)
    | some g => exact .inr ⟨g, ho, (k2.lt g ho).1⟩
  · subst hsize
    by_cases hroom : n + m ≤ cap
    · have hfit : n * i.size + news.length ≤ cur.size := by rw [hl, hcs, ← Nat.add_mul]; exact Nat.mul_le_mul_right _ hroom
      have hr2 := run_append_room (P := P) w t ty e i ht hi g n cap cur hg a m c news hl hnews h1 hroom hfit
      rw [hr] at hr2
      injection hr2 with e1 _
      subst e1
      exact .inl rfl
    · have holds : ∀ j u, xs[j]? = some u → w.cell? ((⟨g, 0, none⟩ : Addr).add j) = some u := hown.cells (g := g) rfl
      have hr2 := run_append_grow (P := P) w t ty e i z ht hi hz ⟨g, 0, none⟩ n cap xs hown.1 holds a m c news hl hnews (by omega) (by unfold maxLen at h63; omega) (by subst hby; exact growslice_fits (by omega) hbytes)
      rw [hr] at hr2
      injection hr2 with e1 _
      subst e1
      exact .inr ⟨w.heap.size, rfl, Nat.le_refl _⟩

theorem wpList_append_moves {P : Program} {w : World} {ops : Array Oper} {rest : List Oper} {o : Oper} {a : Act} {Q : Exit → Act → World → Prop} (hgd : o.guard = none) (s x : Operand) (t : TypeId)
    (ho : o.op = .call { callee := .builtin .append, args := #[s, x], argTypes := #[t, t] })
    (base : Nat) (e : TypeId) (i : TypeInfo) (z : Value) (size bytes : Nat) (ht : P.underlying t = some (.slice e)) (hi : P.info? e = some i) (hz : i.zero = some z)
    (hsize : i.size = size) (hby : i.bytes = bytes) (hzs : z.cells.size = size) (hsz : 0 < size)
    (v : Value) (n : Nat) (xs : List Value) (hs : a.eval s = v) (hown : w.ownsRow base e size v n xs)
    (ad : Addr) (m c : Nat) (news : List Value) (hx : a.eval x = .slice (some ad) m c) (hl : news.length = m * size) (hnews : ∀ j u, news[j]? = some u → w.cell? (ad.add j) = some u) (h1 : ∀ u ∈ news, u.oneCell' = true)
    (h63 : n + m ≤ maxLen) (hbytes : (n + m) * bytes ≤ 140737488355328) (hbase : base ≤ w.heap.size)
    (h : ∀ v' w', w'.ownsRow base e size v' (n + m) (xs ++ news) → w.grownBy w' v.ownBlock → Moved w v v' → wpList P ops Q rest (a.put o.dst v') w') : wpList P ops Q (o :: rest) a w := by
  refine wpList_plain hgd fun K hK => ?_
  obtain ⟨v', w', hr, h2, h3, h4⟩ := run_append_moves (P := P) w base t o.type e i z size bytes ht hi hz hsize hby hzs hsz v n xs hown ad m c news hl hnews h1 h63 hbytes hbase
  unfold Oper.wp execOp
  simp only [ho, resolve, invoke, builtin, Sem.run_bind, Sem.run_pure, Result.andThen_ok, List.map_toArray, List.map_cons, List.map_nil, hs, hx, hr]
  exact hK _ _ (h v' w' h2 h3 h4)

/-- The cells of the outer row: a slice for each inner row's block. -/
def outs (c : Nat) (gs : List Nat) : List Value := gs.map fun g => .slice (some ⟨g, 0, none⟩) c c

/-- What holds at the loop's head: rows of zeros lie in the blocks gs; the outer row is v. -/
structure Nz (w wr : World) (c : Nat) (gs : List Nat) (v : Value) : Prop where
  below : Below w.heap.size w wr
  own : wr.ownsRow w.heap.size 34 1 v gs.length (outs c gs)
  rows : ∀ g ∈ gs, wr.rowIs g 3 c (fun _ => .int .i64 0) ∧ v.ownBlock ≠ some g

theorem Nz.start (w : World) (c : Nat) : Nz w w c [] (.slice none 0 0) := ⟨Below.refl _ _, World.ownsRow_nil _ _ _ _, fun g hg => by simp at hg⟩

theorem rowIs_grown {w w' : World} {b t n : Nat} {f : Nat → Value} {row : Option Nat} (h : w.rowIs b t n f) (hg : w.grownBy w' row) (hne : row ≠ some b) : w'.rowIs b t n f :=
  h.of_block (hg.block b h.lt fun e => hne e.symm)

theorem Nz.step {w wr w1 : World} {c : Nat} {gs : List Nat} {v v' : Value} (h : Nz w wr c gs v) {X : Obj}
    (hown : w1.ownsRow w.heap.size 34 1 v' (gs.length + 1) (outs c gs ++ [.slice (some ⟨wr.heap.size, 0, none⟩) c c]))
    (hg : ((wr.alloc (.cells (madeCells #[.int .i64 0] c) 3)).alloc X).grownBy w1 v.ownBlock) (hm : Moved ((wr.alloc (.cells (madeCells #[.int .i64 0] c) 3)).alloc X) v v') : Nz w w1 c (gs ++ [wr.heap.size]) v' := by
  have hsz := h.below.size
  have hnew := (World.rowIs_made wr (.int .i64 0) c 3).alloc X
  have hvne : v.ownBlock ≠ some wr.heap.size := fun e => by have := (h.own.lt _ e).2; omega
  refine ⟨?_, by simpa [outs] using hown, fun g hg' => ?_⟩
  · exact (((h.below.alloc hsz _).alloc (by simp; omega) X).grown hg (by simp; omega) fun k hk => (h.own.lt k hk).1)
  · rw [List.mem_append] at hg'
    rcases hg' with hg' | hg'
    · obtain ⟨h1, h2⟩ := h.rows g hg'
      refine ⟨rowIs_grown ((h1.alloc _).alloc _) hg h2, fun e => ?_⟩
      rcases hm with hm | ⟨q, hq, hq2⟩
      · exact h2 (hm.symm.trans e)
      · have hlt := h1.lt
        rw [hq] at e; cases e
        simp at hq2; omega
    · simp at hg'; subst hg'
      refine ⟨rowIs_grown hnew hg hvne, fun e => ?_⟩
      rcases hm with hm | ⟨q, hq, hq2⟩
      · exact hvne (hm.symm.trans e)
      · rw [hq] at e; cases e
        simp at hq2; omega

theorem Nz.mat {w wr : World} {c : Nat} {gs : List Nat} {v : Value} (h : Nz w wr c gs v) (hr : gs.length ≤ 8) (hc : c ≤ 4096) : MatIn wr (zeroM gs.length c) v := by
  have hol := h.own
  rcases hol.2 with ⟨rfl, h0⟩ | ⟨g, cap, cur, rfl, hb, hgg, hn, hcm, _, _⟩
  · rw [h0]
    exact ⟨none, 0, rfl, (fun i hi => by simp [zeroM] at hi), by simp [zeroM], Nat.le_refl _⟩
  · refine ⟨some ⟨g, 0, none⟩, cap, by simp [zeroM], fun i hi => ?_, by simp [zeroM]; omega, by simpa [zeroM] using hn⟩
    simp [zeroM] at hi
    have hcell := hol.cells (g := g) rfl i (.slice (some ⟨gs[i], 0, none⟩) c c) (by simp [outs, hi])
    refine ⟨g, 0, .slice (some ⟨gs[i], 0, none⟩) c c, rfl, ?_, ?_⟩
    · by_cases i0 : i = 0
      · subst i0; simpa [Addr.add] using hcell
      · simpa [Addr.add, i0] using hcell
    · rw [show (zeroM gs.length c).getD i [] = List.replicate c 0 by simp [zeroM, List.getD, List.getElem?_replicate, hi]]
      exact rowIn_zero (h.rows _ (List.getElem_mem hi)).1 hc (Nat.le_refl _)

set_option maxHeartbeats 1000000 in
set_option maxRecDepth 100000 in
theorem nothing_any (r c : Nat) (hr : r ≤ 8) (hc : c ≤ 4096) (w : World) : Calls Try.prog 84 #[.int .i64 r, .int .i64 c] w (MatGiven w (zeroM r c)) := by
  obtain ⟨i0, hi, hz0, hz1, hz2⟩ := info_parts Try.info34
  go_enter Try.func84, Try.ntmps84
  go_wp2_with fail
  go_loopw [5, 6] (fun v i wr => ∃ (gs : List Nat) (k : Nat), i = .int .i64 k ∧ k = gs.length ∧ k ≤ r ∧ Nz w wr c gs v) (fun _ i _ => r - (RowKit.intOf i).toNat)
  case atStart => exact ⟨[], 0, rfl, rfl, Nat.zero_le _, Nz.start w c⟩
  case round =>
    obtain ⟨gs, k, rfl, hkl, hk, hz⟩ := hrel
    have HK := Lib.hid hkl
    clear hkl
    by_cases hlt : k < r
    · have w4 : (k : Int) < (r : Int) := by omega
      have hmk22 := run_make_row' (P := Try.prog) 34 3 (.int .i64 0) 8 Try.underlying34 Try.info3 rfl .i64 .i64 c (by omega) (by omega)
      have hown := (hz.own.alloc (.cells (madeCells #[.int .i64 0] c) 3)).alloc (.cells #[.slice (some ⟨wr.heap.size, 0, none⟩) c c] 34)
      have HZ := Lib.hid hz
      clear hz
      go_wp2_with (at_builtin; refine wpList_append_moves rfl _ _ 29 rfl w.heap.size 34 i0 _ 1 24 Try.underlying29 hi hz0 hz1 hz2 rfl (by decide) _ _ _ rfl hown ⟨wr.heap.size + 1, 0, none⟩ 1 1 [.slice (some ⟨wr.heap.size, 0, none⟩) c c] rfl rfl ?c1 ?c2 ?c3 ?c4 ?c5 ?_)
      case c1 =>
        intro j u hu
        match j with
        | 0 => simp at hu; subst hu; simp [go_sem]
        | j + 1 => simp at hu
      case c2 => intro u hu; simp at hu; subst hu; rfl
      case c3 => have := HK.out; unfold maxLen; omega
      case c4 => have := HK.out; omega
      case c5 => have := HZ.out.below.size; simp; omega
      intro v' w1 hown1 hg1 hm1
      have HN := Lib.hid (HZ.out.step hown1 hg1 hm1)
      clear hown1 hg1 hm1 hown
      go_wp2_with fail
      go_roundw
      case rel => exact ⟨gs ++ [wr.heap.size], k + 1, by go_num, by simp [HK.out], by omega, HN.out⟩
      case measure => simp [RowKit.intOf]; omega
    · have w4 : ¬ (k : Int) < (r : Int) := by omega
      obtain rfl : k = r := by omega
      go_wp2_with fail
      go_ret
      have hm := hz.mat (by have := HK.out; omega) hc
      rw [← HK.out] at hm
      exact ⟨_, rfl, hm, hz.below⟩
end Go.Proofs.Ytegomicpolnpoaa
