/- Rows compared, the world but for draws as it was; a block turned round. -/
import Derived.Test.YtpjmiiejmkgmdaaJA
namespace Go.Proofs.Ytpjmiiejmkgmdaa
open Go.RowKit Go.Deep

set_option maxHeartbeats 1000000 in
theorem sameRow_drew (xs ys : List Int) (va vb : Value) (w : World) (ha : RowIn w xs va) (hb : RowIn w ys vb) :
    Calls Try.prog 24 #[va, vb] w fun e w' => e = .returned (.bool (decide (xs = ys))) ∧ ∃ n, w' = w.drewN n := by
  obtain ⟨a, ca, rfl, hin, hal, _⟩ := ha
  obtain ⟨b, cb, rfl, hinb, hbl, _⟩ := hb
  by_cases hl : xs.length = ys.length
  · have HL := Lib.hid hl
    rw [← hl]
    clear hl hbl
    go_enter Try.func24, Try.ntmps24
    go_wp2_with fail
    go_loopw [5] (fun i wr => ∃ k n : Nat, i = .int .i64 k ∧ k ≤ xs.length ∧ (∀ j, j < k → xs.getD j 0 = ys.getD j 0) ∧ wr = w.drewN n) (fun i _ => xs.length - (intOf i).toNat)
    case atStart => exact ⟨0, 0, rfl, Nat.zero_le _, fun _ h => absurd h (Nat.not_lt_zero _), rfl⟩
    case round =>
      obtain ⟨k, n, rfl, hk, hok, rfl⟩ := hrel
      have Hok := Lib.hid hok
      clear hok
      by_cases hlt : k < xs.length
      · obtain ⟨ba, off, rfl, hc, _⟩ := hin k hlt
        obtain ⟨bb, off', rfl, hc', _⟩ := hinb k (by have := HL.out; omega)
        obtain ⟨p, hp⟩ : ∃ p, xs.getD k 0 = p := ⟨_, rfl⟩
        obtain ⟨q, hq⟩ : ∃ q, ys.getD k 0 = q := ⟨_, rfl⟩
        rw [hp] at hc
        rw [hq] at hc'
        have Hpq := Lib.hid (And.intro hp hq)
        clear hp hq
        have w4 : (k : Int) < (xs.length : Int) := by omega
        by_cases e : p = q
        · have e' : (p != q) = false := by simp [e]
          have E := Lib.hid e
          clear e
          go_wp2_with fail
          go_quiet (fail)
          go_wp2_with fail
          go_roundw
          case rel =>
            refine ⟨k + 1, _, by go_num, by omega, fun j hj => ?_, rfl⟩
            by_cases ej : j = k
            · subst ej; rw [Hpq.out.1, Hpq.out.2]; exact E.out
            · exact Hok.out j (by omega)
          case measure => simp [intOf]; omega
        · have e' : (p != q) = true := by simp [e]
          have E := Lib.hid e
          clear e
          go_wp2_with fail
          go_quiet (fail)
          go_wp2_with fail
          go_ret
          refine ⟨ret_bool ?_, _, World.drewN_drewN ..⟩
          have : ¬ xs = ys := fun h => E.out (by rw [← Hpq.out.1, ← Hpq.out.2, h])
          simp [this]
      · have w4 : ¬ (k : Int) < (xs.length : Int) := by omega
        go_wp2_with fail
        go_ret
        refine ⟨ret_bool ?_, n, rfl⟩
        simp [list_eq_of HL.out fun j hj => Hok.out j (by omega)]
  · have hne : ((xs.length : Int) != (ys.length : Int)) = true := by simp; omega
    have HL := Lib.hid hl
    clear hl
    go_enter Try.func24, Try.ntmps24
    go_wp2_with fail
    go_ret
    refine ⟨ret_bool ?_, 0, rfl⟩
    have : ¬ xs = ys := fun h => HL.out (by rw [h])
    simp [this]

def negR (l : List Int) : List Int := l.map fun x => -x
def negM (b : List (List Int)) : List (List Int) := b.map negR
theorem negR_at {l : List Int} {i : Nat} (h : i < l.length) : (negR l).getD i 0 = -(l.getD i 0) := by simp [negR, List.getD, h]

theorem take_neg {p : List Int} {q : Nat} (hq : q < p.length) : (negR p).take (q + 1) = (negR p).take q ++ [-(p.getD q 0)] := by
  rw [List.take_succ_eq_append_getElem (by simpa [negR] using hq)]
  simp [negR, List.getD, hq]
/-- A row that is done: it lies in a block of numbers from B on. -/
def FinR (wr : World) (B : Nat) (l : List Int) (t : Value) : Prop := RowIn wr l t ∧ ∀ g, t.ownBlock = some g → B ≤ g ∧ ∃ cur, wr.heap[g]? = some (.cells cur 3 (0, 0))
theorem RowIn.grown {w w1 : World} {l : List Int} {t : Value} {row : Option Nat} (h : RowIn w l t) (hg : w.grownBy w1 row) (hne : ∀ g, t.ownBlock = some g → row ≠ some g) : RowIn w1 l t := by
  obtain ⟨a, cap, rfl, h2, h3, h4⟩ := h
  refine ⟨a, cap, rfl, fun i hi => ?_, h3, h4⟩
  obtain ⟨b, off, rfl, hc, hb⟩ := h2 i hi
  exact ⟨b, off, rfl, hg.cell hc (fun e => hne b rfl e.symm), hb⟩
theorem FinR.grown {w w1 : World} {B : Nat} {l : List Int} {t : Value} {row : Option Nat} (h : FinR w B l t) (hg : w.grownBy w1 row) (hne : ∀ g, t.ownBlock = some g → row ≠ some g) : FinR w1 B l t := by
  refine ⟨h.1.grown hg hne, fun g e => ?_⟩
  obtain ⟨h1, cur, h2⟩ := h.2 g e
  exact ⟨h1, cur, (hg.block g (Array.getElem?_eq_some_iff.1 h2).1 (fun e2 => hne g e e2.symm)).trans h2⟩
theorem own_type {w : World} {base : Nat} {e : TypeId} {v : Value} {n : Nat} {xs : List Value} (h : w.ownsRow base e 1 v n xs) {g : Nat} (hv : v.ownBlock = some g) : ∃ cur, w.heap[g]? = some (.cells cur e (0, 0)) := by
  rcases h.2 with ⟨rfl, _⟩ | ⟨g', cap, cur, rfl, _, hgg, _⟩
  · simp [Value.ownBlock] at hv
  · simp [Value.ownBlock] at hv; subst hv; exact ⟨cur, hgg⟩
theorem own_apart {w : World} {base base' : Nat} {e e' : TypeId} {v v' : Value} {n n' : Nat} {xs xs' : List Value} (h : w.ownsRow base e 1 v n xs) (h' : w.ownsRow base' e' 1 v' n' xs') (hne : e ≠ e') : v.ownBlock = none ∨ v.ownBlock ≠ v'.ownBlock := by
  cases hv : v.ownBlock with
  | none => exact .inl rfl
  | some g =>
    refine .inr fun e2 => hne ?_
    obtain ⟨c1, k1⟩ := own_type h hv
    obtain ⟨c2, k2⟩ := own_type h' e2.symm
    rw [k1] at k2; cases k2; rfl
theorem fin_apart {w : World} {base B : Nat} {e : TypeId} {v t : Value} {n : Nat} {xs : List Value} {l : List Int} (h : w.ownsRow base e 1 v n xs) (hf : FinR w B l t) (hne : e ≠ 3) : ∀ g, t.ownBlock = some g → v.ownBlock ≠ some g := fun g hg e2 => by
  obtain ⟨c1, k1⟩ := own_type h e2
  obtain ⟨_, c2, k2⟩ := hf.2 g hg
  rw [k1] at k2; cases k2; exact hne rfl
theorem fin_of_own {w : World} {base n : Nat} {l : List Int} {u : Value} (h : w.ownsRow base 3 1 u n (l.map (Value.int .i64))) (hl : l.length = n) (h2 : l.length ≤ 4096) (hb : ∀ i, I64 (l.getD i 0)) : FinR w base l u := by
  refine ⟨?_, fun g hg => ⟨(h.lt g hg).1, own_type h hg⟩⟩
  have hh := h
  rcases h.2 with ⟨rfl, h0⟩ | ⟨g, cap, cur, rfl, hbg, hgg, hnc, hcm, hcs, htake⟩
  · have : l = [] := List.eq_nil_of_length_eq_zero (by omega)
    subst this
    exact row_nil w
  · refine ⟨some ⟨g, 0, none⟩, cap, by rw [hl], fun i hi => ⟨g, 0, rfl, ?_, hb i⟩, by omega, by omega⟩
    have := hh.cells (g := g) rfl i (.int .i64 (l.getD i 0)) (by simp [List.getElem?_map, List.getD, hi])
    by_cases i0 : i = 0
    · subst i0; simpa [Addr.add] using this
    · simpa [Addr.add, i0] using this

/-- What holds between two channels: k of them are turned round. -/
structure Tn (w wr : World) (b : List (List Int)) (k : Nat) (v : Value) (ts : List Value) : Prop where
  below : Below w.heap.size w wr
  own : wr.ownsRow w.heap.size 22 1 v k ts
  done : ∀ j, j < k → ∃ t, ts[j]? = some t ∧ FinR wr w.heap.size (negR (b.getD j [])) t
/-- And within a channel: q of its samples are. -/
structure Ti (w wr : World) (b : List (List Int)) (k : Nat) (v : Value) (ts : List Value) (q : Nat) (u : Value) : Prop where
  out : Tn w wr b k v ts
  own : wr.ownsRow w.heap.size 3 1 u q (((negR (b.getD k [])).take q).map (Value.int .i64))
  apart : ∀ (j : Nat) (t : Value), ts[j]? = some t → ∀ g, t.ownBlock = some g → u.ownBlock ≠ some g
theorem Tn.inner {w wr : World} {b : List (List Int)} {k : Nat} {v : Value} {ts : List Value} (h : Tn w wr b k v ts) : Ti w wr b k v ts 0 (.slice none 0 0) :=
  ⟨h, by simpa using World.ownsRow_nil wr w.heap.size 3 1, fun _ _ _ _ _ e => by simp [Value.ownBlock] at e⟩
theorem Ti.step {w wr w1 : World} {b : List (List Int)} {k : Nat} {v u u' : Value} {ts : List Value} {q : Nat} (h : Ti w wr b k v ts q u) (hq : q < (b.getD k []).length) {X : Obj}
    (hown : w1.ownsRow w.heap.size 3 1 u' (q + 1) (((negR (b.getD k [])).take q).map (Value.int .i64) ++ [.int .i64 (-((b.getD k []).getD q 0))]))
    (hg : (wr.alloc X).grownBy w1 u.ownBlock) (hm : Moved (wr.alloc X) u u') : Ti w w1 b k v ts (q + 1) u' := by
  have hsz := h.out.below.size
  have hlen := h.out.own.1
  have hkeep : ∀ j t, ts[j]? = some t → ∀ l, FinR wr w.heap.size l t → FinR w1 w.heap.size l t := fun j t hj l hf => by
    have h1 : FinR (wr.alloc X) w.heap.size l t := hf.grown (World.grownBy_alloc wr X none) (fun g _ e => by cases e)
    exact h1.grown hg (fun g e => h.apart j t hj g e)
  refine ⟨⟨(h.out.below.alloc hsz X).grown hg (by simp; omega) fun g e => (h.own.lt g e).1, ?_, fun j hj => ?_⟩, ?_, fun j t hj g e1 e2 => ?_⟩
  · exact (h.out.own.alloc X).kept hg (own_apart h.out.own h.own (by decide))
  · obtain ⟨t, ht, hf⟩ := h.out.done j hj
    exact ⟨t, ht, hkeep j t ht _ hf⟩
  · rw [take_neg hq, List.map_append]; exact hown
  · rcases hm with hm | ⟨q2, hq2, hq3⟩
    · exact h.apart j t hj g e1 (hm.symm.trans e2)
    · rw [hq2] at e2; cases e2
      have hjk : j < k := by
        have := (List.getElem?_eq_some_iff.1 hj).1
        omega
      obtain ⟨t2, ht2, hf⟩ := h.out.done j hjk
      rw [hj] at ht2; cases ht2
      obtain ⟨_, cur, hc⟩ := hf.2 _ e1
      have := (Array.getElem?_eq_some_iff.1 hc).1
      simp at hq3; omega
theorem Ti.done {w wr w1 : World} {b : List (List Int)} {k : Nat} {v v' u : Value} {ts : List Value} (h : Ti w wr b k v ts (b.getD k []).length u) (hl : (b.getD k []).length ≤ 4096) (hb : ∀ f, ((b.getD k []).getD f 0).natAbs ≤ 8388607) {X : Obj}
    (hown : w1.ownsRow w.heap.size 22 1 v' (k + 1) (ts ++ [u])) (hg : (wr.alloc X).grownBy w1 v.ownBlock) : Tn w w1 b (k + 1) v' (ts ++ [u]) := by
  have hsz := h.out.below.size
  have hlen := h.out.own.1
  have hfu : FinR wr w.heap.size (negR (b.getD k [])) u := by
    have h0 := h.own
    rw [List.take_of_length_le (by simp [negR])] at h0
    refine fin_of_own h0 (by simp [negR]) (by simpa [negR] using hl) fun i => ?_
    by_cases hi : i < (b.getD k []).length
    · rw [negR_at hi]; have := hb i; unfold I64; omega
    · rw [getD_out (by simpa [negR] using Nat.le_of_not_lt hi)]; unfold I64; omega
  have hkeep : ∀ l t, FinR wr w.heap.size l t → FinR w1 w.heap.size l t := fun l t hf => by
    have h1 : FinR (wr.alloc X) w.heap.size l t := hf.grown (World.grownBy_alloc wr X none) (fun g _ e => by cases e)
    exact h1.grown hg (fin_apart (h.out.own.alloc X) h1 (by decide))
  refine ⟨(h.out.below.alloc hsz X).grown hg (by simp; omega) fun g e => (h.out.own.lt g e).1, hown, fun j hj => ?_⟩
  by_cases e : j = k
  · subst e
    exact ⟨u, by simp [show ts.length = j by omega], hkeep _ _ hfu⟩
  · obtain ⟨t, ht, hf⟩ := h.out.done j (by omega)
    exact ⟨t, by rw [List.getElem?_append_left (by omega)]; exact ht, hkeep _ _ hf⟩
theorem Tn.mat {w wr : World} {b : List (List Int)} {v : Value} {ts : List Value} (h : Tn w wr b b.length v ts) (hb8 : b.length ≤ 8) : MatIn wr (negM b) v := by
  have hh := h.own
  rcases h.own.2 with ⟨rfl, h0⟩ | ⟨g, cap, cur, rfl, hbg, hgg, hnc, hcm, hcs, htake⟩
  · have : b = [] := List.eq_nil_of_length_eq_zero h0
    subst this
    exact mat_nil wr
  · refine ⟨some ⟨g, 0, none⟩, cap, by simp [negM], fun i hi => ?_, by simp [negM]; omega, by simpa [negM] using hnc⟩
    simp [negM] at hi
    obtain ⟨t, ht, hf⟩ := h.done i hi
    refine ⟨g, 0, t, rfl, ?_, ?_⟩
    · have := hh.cells (g := g) rfl i t ht
      by_cases i0 : i = 0
      · subst i0; simpa [Addr.add] using this
      · simpa [Addr.add, i0] using this
    · rw [show (negM b).getD i [] = negR (b.getD i []) by simp [negM, List.getD, hi]]
      exact hf.1
end Go.Proofs.Ytpjmiiejmkgmdaa
