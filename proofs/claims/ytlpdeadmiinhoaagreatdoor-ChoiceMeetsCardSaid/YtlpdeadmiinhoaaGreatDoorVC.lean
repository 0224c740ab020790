/- The library calls that the machine knows as a whole; the awake of the format gives true. -/
import Derived.Test.YtlpdeadmiinhoaaGreatDoorVB
import Derived.Test.YtlpdeadmiinhoaaGreatDoorShelf
import Derived.Lib.AtoiErrMem
import Derived.Lib.AppendIntMem
import Derived.KernelRfl

/- EvW: Library calls that the machine knows as a whole. -/
namespace Go.Ev
open Go.RowKit

def cutL (sep : List UInt8) : List UInt8 → Option (List UInt8 × List UInt8)
  | [] => if sep.isEmpty then some ([], []) else none
  | b :: r => if sep.isPrefixOf (b :: r) then some ([], (b :: r).drop sep.length) else (cutL sep r).map fun p => (b :: p.1, p.2)
theorem cutL_none {sep : List UInt8} : ∀ {s : List UInt8}, cutL sep s = none → Lib.index s sep = -1
  | [], h => by
    unfold cutL at h
    split at h
    · cases h
    · rename_i hs
      unfold Lib.index
      rw [if_neg hs]
  | b :: r, h => by
    unfold cutL at h
    split at h
    · cases h
    · rename_i hp
      have h' : cutL sep r = none := by
        cases hr : cutL sep r with
        | none => rfl
        | some p => rw [hr] at h; cases h
      unfold Lib.index
      rw [if_neg hp, cutL_none h']
      rfl
theorem cutL_some {sep : List UInt8} : ∀ {s a c : List UInt8}, cutL sep s = some (a, c) → Lib.index s sep = (a.length : Int) ∧ s.take a.length = a ∧ s.drop (a.length + sep.length) = c
  | [], a, c, h => by
    unfold cutL at h
    split at h
    · rename_i hs
      simp only [Option.some.injEq, Prod.mk.injEq] at h
      obtain ⟨rfl, rfl⟩ := h
      unfold Lib.index
      rw [if_pos hs]
      simp
    · cases h
  | b :: r, a, c, h => by
    unfold cutL at h
    split at h
    · rename_i hp
      simp only [Option.some.injEq, Prod.mk.injEq] at h
      obtain ⟨rfl, rfl⟩ := h
      unfold Lib.index
      rw [if_pos hp]
      simp
    · rename_i hp
      cases hr : cutL sep r with
      | none => rw [hr] at h; cases h
      | some p =>
        obtain ⟨a', c'⟩ := p
        rw [hr] at h
        simp only [Option.map_some, Option.some.injEq, Prod.mk.injEq] at h
        obtain ⟨rfl, rfl⟩ := h
        obtain ⟨h1, h2, h3⟩ := cutL_some hr
        refine ⟨?_, by simp [h2], by simpa [Nat.add_right_comm] using h3⟩
        unfold Lib.index
        rw [if_neg hp, h1]
        have : ((a'.length : Int) == -1) = false := by rw [beq_eq_false_iff_ne]; omega
        simp [this]

def splitL (sep : List UInt8) : Nat → List UInt8 → List (List UInt8)
  | 0, s => [s]
  | k + 1, s => match cutL sep s with
    | none => [s]
    | some (a, c) => a :: splitL sep k c
theorem splitL_eq {sep : List UInt8} : ∀ (k : Nat) (s : List UInt8), Lib.splitK sep 0 (Lib.countFrom sep k s) s = splitL sep k s ∧ (splitL sep k s).length = Lib.countFrom sep k s + 1
  | 0, s => by simp [Lib.countFrom, Lib.splitK, splitL]
  | k + 1, s => by
    unfold splitL
    cases hc : cutL sep s with
    | none =>
      have h := cutL_none hc
      have e : Lib.countFrom sep (k + 1) s = 0 := by unfold Lib.countFrom; simp [h]
      rw [e]
      exact ⟨rfl, rfl⟩
    | some p =>
      obtain ⟨a, c⟩ := p
      obtain ⟨h1, h2, h3⟩ := cutL_some hc
      have hn : ((a.length : Int) == -1) = false := by rw [beq_eq_false_iff_ne]; omega
      have e : Lib.countFrom sep (k + 1) s = Lib.countFrom sep k c + 1 := by
        conv => lhs; unfold Lib.countFrom
        rw [h1, hn]
        simp only [Bool.false_eq_true, if_false, Int.toNat_natCast, h3]
        omega
      obtain ⟨i1, i2⟩ := splitL_eq (sep := sep) k c
      rw [e]
      refine ⟨?_, by simp [i2]⟩
      unfold Lib.splitK
      rw [h1, hn]
      simp only [Bool.false_eq_true, if_false, Int.toNat_natCast, Nat.add_zero, h2, h3, i1]

def strS (l : List UInt8) : SV := .str ⟨l.toArray⟩
theorem strS_dens (ν : Nat → Value) (E : Env) : ∀ l : List (List UInt8), dens ν E (l.map strS) = some (l.map fun x => .string ⟨x.toArray⟩)
  | [] => by simp [dens]
  | x :: r => by
    have := strS_dens ν E r
    simp only [List.map_cons]
    exact dens_cons.2 ⟨_, _, by simp [strS, den], this, rfl⟩
def digsF : Nat → Nat → List UInt8 → List UInt8
  | 0, _, acc => acc
  | f + 1, n, acc => if n < 10 then UInt8.ofNat (48 + n) :: acc else digsF f (n / 10) (UInt8.ofNat (48 + n % 10) :: acc)
theorem digsF_eq : ∀ (f n : Nat) (acc : List UInt8), n < 10 ^ f → f ≠ 0 → digsF f n acc = Lib.decDigits n ++ acc
  | 0, _, _, _, h => absurd rfl h
  | f + 1, n, acc, h, _ => by
    unfold digsF
    rw [Lib.decDigits]
    split
    · rfl
    · rename_i hn
      have hf : f ≠ 0 := by
        intro e
        subst e
        simp at h
        exact hn h
      rw [digsF_eq f (n / 10) _ (by rw [Nat.pow_succ] at h; exact Nat.div_lt_of_lt_mul (by omega)) hf]
      simp
theorem itoa_eq {n : Nat} (h : n < 1000000000000000000) : Lib.itoa (Int.ofNat n) = digsF 18 n [] := by
  rw [digsF_eq 18 n [] (by simpa using h) (by decide)]
  unfold Lib.itoa
  simp
def strsOf : List SV → Option (List ByteArray)
  | [] => some []
  | .str s :: r => (strsOf r).map (s :: ·)
  | _ => none
theorem strsOf_dens {ν : Nat → Value} {E : Env} : ∀ {l : List SV} {xs : List ByteArray}, strsOf l = some xs → dens ν E l = some (xs.map .string)
  | [], xs, h => by simp [strsOf] at h; subst h; simp [dens]
  | x :: r, xs, h => by
    cases x <;> simp only [strsOf, reduceCtorEq] at h
    cases hr : strsOf r with
    | none => rw [hr] at h; cases h
    | some ys =>
      rw [hr] at h
      simp at h; subst h
      exact dens_cons.2 ⟨_, _, by simp [den], strsOf_dens hr, rfl⟩

/-- What the row of a slice's block has room for. -/
def joinOk (P : Program) (H : List SO) : SV → Bool
  | .slice _ _ len cap => decide (len ≤ cap)
  | .gslice b off skip len => match H[b]? with
    | some (.row _ t) => decide (skip ≤ off) && sizeOfT P t == some 1
    | _ => false
  | _ => false
def joinS (P : Program) (H : List SO) (x : SV) (sep : ByteArray) : Option SV :=
  if joinOk P H x then match contents P H 1 x with
    | some (l, n) => match strsOf l with
      | some xs => if n ≤ 140737488355328 ∧ (Lib.join (xs.map (·.data.toList)) sep.data.toList).length ≤ 140737488355328 then some (strS (Lib.join (xs.map (·.data.toList)) sep.data.toList)) else none
      | none => none
    | none => none
  else none
theorem joinS_of {P : Program} {ν : Nat → Value} {w0 w : World} {E : Env} {H : List SO} (h : WRel P ν w0 E H w) {x : SV} {sep : ByteArray} {v : SV} (hj : joinS P H x sep = some v) {u : Value} (hx : den ν E x = some u) :
    ∃ (bk o c : Nat) (xs : List ByteArray), u = .slice (some ⟨bk, o, none⟩) xs.length c ∧ bk < w.heap.size ∧ xs.length ≤ 140737488355328 ∧ xs.length ≤ c ∧ (∀ (j : Nat) y, xs[j]? = some y → w.cell? ⟨bk, o + j, none⟩ = some (.string y)) ∧
      (Lib.join (xs.map (·.data.toList)) sep.data.toList).length ≤ 140737488355328 ∧ v = strS (Lib.join (xs.map (·.data.toList)) sep.data.toList) := by
  unfold joinS at hj
  split at hj
  · rename_i hok
    split at hj
    · rename_i l n hc
      split at hj
      · rename_i xs hs
        split at hj
        · rename_i hb
          simp only [Option.some.injEq] at hj
          obtain ⟨l', g1, g2, g3⟩ := contents_run h hc hx
          have g4 := strsOf_dens (ν := ν) (E := E) hs
          obtain rfl := Option.some.inj (g1.symm.trans g4)
          have hlen : xs.length = n := by
            have := dens_len g1
            simp at this
            omega
          rcases g3 with ⟨rfl, _⟩ | ⟨a, cap, g5, g6⟩
          · simp [joinOk] at hok
          · have key : ∀ b off, blk E b = some (a.block, cap) ∨ True → a = ⟨a.block, off, none⟩ → a.block < w.heap.size → n ≤ cap →
                ∃ (bk o c : Nat) (xs : List ByteArray), u = .slice (some ⟨bk, o, none⟩) xs.length c ∧ bk < w.heap.size ∧ xs.length ≤ 140737488355328 ∧ xs.length ≤ c ∧ (∀ (j : Nat) y, xs[j]? = some y → w.cell? ⟨bk, o + j, none⟩ = some (.string y)) ∧
                  (Lib.join (xs.map (·.data.toList)) sep.data.toList).length ≤ 140737488355328 ∧ v = strS (Lib.join (xs.map (·.data.toList)) sep.data.toList) := by
              intro b off _ ea hlt hcap
              refine ⟨a.block, off, cap, xs, by rw [g5, hlen]; rw [← ea], hlt, by omega, by omega, fun j y hy => ?_, hb.2, hj.symm⟩
              have := g6 j (.string y) (by rw [List.getElem?_map, hy]; rfl)
              rw [ea] at this
              by_cases j0 : j = 0
              · subst j0; simpa [Addr.add] using this
              · simpa [Addr.add, j0] using this
            cases x with
            | slice b off len c =>
              obtain ⟨r, k, e1, e2⟩ := den_slice.1 hx
              rw [e2] at g5
              simp only [Value.slice.injEq, Option.some.injEq] at g5
              obtain ⟨rfl, rfl, rfl⟩ := g5
              simp only [joinOk, decide_eq_true_eq] at hok
              have hH : ∃ o, H[b]? = some o := by
                have := (List.getElem?_eq_some_iff.1 e1).1
                rw [h.len] at this
                exact ⟨_, List.getElem?_eq_getElem this⟩
              obtain ⟨o, ho⟩ := hH
              exact key b off (.inr trivial) rfl (h.obj b o r k ho e1).2.1 hok
            | gslice b off skip len =>
              simp only [joinOk] at hok
              split at hok
              · rename_i cc t hb'
                simp only [Bool.and_eq_true, decide_eq_true_eq, beq_iff_eq] at hok
                rw [den] at hx
                cases hbl : blk E b with
                | none => rw [hbl] at hx; cases hx
                | some p =>
                  obtain ⟨r, k⟩ := p
                  rw [hbl] at hx
                  simp only [Option.map_some, Option.some.injEq] at hx
                  rw [← hx] at g5
                  simp only [Value.slice.injEq, Option.some.injEq] at g5
                  obtain ⟨rfl, rfl, rfl⟩ := g5
                  obtain ⟨o1, o2, o3⟩ := h.obj b _ r k hb' (blk_eq.1 hbl)
                  obtain ⟨ob, q1, lq, rest, nn, q2, q3, q4, q5, q6⟩ := o3 rfl
                  rw [hok.2] at q4
                  cases q4
                  have hroom : off + len ≤ cc.length := by
                    unfold contents at hc
                    simp only [hb', Option.bind_some, rowOf] at hc
                    split at hc
                    · rename_i hle; simpa using hle
                    · cases hc
                  exact key b off (.inr trivial) rfl o2 (by omega)
              · cases hok
            | _ => simp [joinOk] at hok
        · cases hj
      · cases hj
    · cases hj
  · cases hj
end Go.Ev

/- EvX: The text's library calls that the machine knows as a whole. -/
namespace Go.Proofs.YtlpdeadmiinhoaaGreatDoor
open Go.Ev Go.RowKit

noncomputable def hooks : Hooks := fun f args H =>
  match f, args with
  | 114, [.str s, .str sep] =>
    if s.size < 4294967281 ∧ 1 ≤ sep.size then
      some (.slice H.length 0 (splitL sep.data.toList (s.data.toList.length + 1) s.data.toList).length (splitL sep.data.toList (s.data.toList.length + 1) s.data.toList).length, H ++ [.cells ((splitL sep.data.toList (s.data.toList.length + 1) s.data.toList).map strS) 9])
    else none
  | 116, [.str s, .str sep] =>
    if s.size < 4294967281 then
      match cutL sep.data.toList s.data.toList with
      | some (a, b) => some (.tuple [strS a, strS b, .bool true], H)
      | none => some (.tuple [.str s, strS [], .bool false], H)
    else none
  | 138, [.str s] =>
    if s.size ≤ 18 then
      match Lib.atoi s.data.toList with
      | some n => some (.tuple [.int .i64 n, .nili], H)
      | none => none
    else none
  | 112, [.int .i64 (.ofNat n)] => if n < 1000000000000000000 then some (strS (digsF 18 n []), H) else none
  | 113, [x, .str sep] => (joinS Tryz.prog H x sep).map fun v => (v, H)
  | _, _ => none

/-- What the library's own variables hold. -/
structure Tabs (w : World) : Prop where
  maxLen : ∃ m, w.cell? ⟨1, 0, none⟩ = some (.int .i64 m)
  pow : Lib.TabIs Tryz.prog w "internal/strconv.uint64pow10" .u64 Lib.pow10Tab

theorem Tabs.on {w w' : World} (h : Tabs w) (hb : Below w.heap.size w w') : Tabs w' := by
  obtain ⟨m, hm⟩ := h.maxLen
  have hlt : 1 < w.heap.size := by
    rcases Nat.lt_or_ge 1 w.heap.size with hn | hn
    · exact hn
    · have h0 : w.heap[1]? = none := Array.getElem?_eq_none hn
      simp [World.cell?, h0] at hm
  exact ⟨⟨m, by rw [hb.cell (p := ⟨1, 0, none⟩) hlt]; exact hm⟩, Lib.tabBelow_of_tabIs h.pow w' hb⟩

theorem dens_one {ν : Nat → Value} {E : Env} {x : SV} {vs : Array Value} (h : dens ν E [x] = some vs.toList) : ∃ u, den ν E x = some u ∧ vs = #[u] := by
  obtain ⟨u, t, h1, h2, h3⟩ := dens_cons.1 h
  simp [dens] at h2; subst h2
  exact ⟨u, h1, by apply Array.ext'; simpa using h3⟩
theorem dens_two {ν : Nat → Value} {E : Env} {x y : SV} {vs : Array Value} (h : dens ν E [x, y] = some vs.toList) : ∃ u v, den ν E x = some u ∧ den ν E y = some v ∧ vs = #[u, v] := by
  obtain ⟨u, t, h1, h2, h3⟩ := dens_cons.1 h
  obtain ⟨v, t', h4, h5, h6⟩ := dens_cons.1 h2
  simp [dens] at h5; subst h5; subst h6
  exact ⟨u, v, h1, h4, by apply Array.ext'; simpa using h3⟩

theorem below_drewN (w : World) (n : Nat) : Below w.heap.size w (w.drewN n) := ⟨rfl, rfl, rfl, Nat.le_refl _, fun _ _ => rfl⟩

theorem hooks_ok (ν : Nat → Value) {w0 : World} (h0 : Tabs w0) : HookOk Tryz.prog ν w0 hooks := by
  intro E H w g args vs v H' hk hW ha
  have hT := h0.on hW.below
  obtain ⟨m, hm⟩ := hT.maxLen
  have same : ∀ {w' : World}, Below w.heap.size w w' → WRel Tryz.prog ν w0 E H w' := fun hb => hW.others hb
  unfold hooks at hk
  split at hk
  · rename_i s sep
    split at hk
    · rename_i hc
      simp only [Option.some.injEq, Prod.mk.injEq] at hk
      obtain ⟨rfl, rfl⟩ := hk
      obtain ⟨u1, u2, e1, e2, rfl⟩ := dens_two ha
      simp [den] at e1 e2; subst e1; subst e2
      obtain ⟨s1, s2⟩ := splitL_eq (sep := sep.data.toList) (s.data.toList.length + 1) s.data.toList
      have hcount : Lib.countB s sep = Lib.countFrom sep.data.toList (s.data.toList.length + 1) s.data.toList := rfl
      refine (Tryz.strings_Split s sep m w hc.1 hm hc.2).mono fun e w' ⟨he, hw⟩ => ?_
      refine ⟨E ++ [.lies w.heap.size 0], _, fun d => Ext.push d E _, he, ?_, ?_⟩
      · refine den_slice.2 ⟨w.heap.size, 0, by rw [← hW.len]; simp, ?_⟩
        rw [s2, hcount]
      · rw [hw]
        refine hW.new (o := .cells _ 9) (ob := .cells _ 9) ⟨_, strS_dens ν _ _, ?_⟩
        congr 1
        rw [← s1, ← hcount, ← Lib.splitB_data]
        simp
    · cases hk
  · rename_i s sep
    split at hk
    · rename_i hc
      obtain ⟨u1, u2, e1, e2, rfl⟩ := dens_two ha
      simp [den] at e1 e2; subst e1; subst e2
      split at hk
      · rename_i a b hcut
        simp only [Option.some.injEq, Prod.mk.injEq] at hk
        obtain ⟨rfl, rfl⟩ := hk
        obtain ⟨c1, c2, c3⟩ := cutL_some hcut
        have hcu : Lib.cut s.data.toList sep.data.toList = (a, b, true) := by
          unfold Lib.cut
          rw [c1, if_pos (by omega)]
          simp only [Int.toNat_natCast, c2, c3]
        refine (Tryz.strings_Cut s sep m w hc hm).mono fun e w' ⟨he, n, hw⟩ => ?_
        rw [hcu] at he
        refine ⟨E, _, fun d => Ext.refl d E, he, ?_, ?_⟩
        · exact den_tuple.2 ⟨_, dens_cons.2 ⟨_, _, by simp [strS, den], dens_cons.2 ⟨_, _, by simp [strS, den], dens_cons.2 ⟨_, _, by simp [den], by simp [dens], rfl⟩, rfl⟩, rfl⟩, rfl⟩
        · rw [hw]; exact same (below_drewN w n)
      · rename_i hcut
        simp only [Option.some.injEq, Prod.mk.injEq] at hk
        obtain ⟨rfl, rfl⟩ := hk
        have hcu : Lib.cut s.data.toList sep.data.toList = (s.data.toList, [], false) := by
          unfold Lib.cut
          rw [cutL_none hcut, if_neg (by decide)]
        refine (Tryz.strings_Cut s sep m w hc hm).mono fun e w' ⟨he, n, hw⟩ => ?_
        rw [hcu] at he
        refine ⟨E, _, fun d => Ext.refl d E, he, ?_, ?_⟩
        · exact den_tuple.2 ⟨_, dens_cons.2 ⟨_, _, by simp [den], dens_cons.2 ⟨_, _, by simp [strS, den], dens_cons.2 ⟨_, _, by simp [den], by simp [dens], rfl⟩, rfl⟩, rfl⟩, rfl⟩
        · rw [hw]; exact same (below_drewN w n)
    · cases hk
  · rename_i s
    split at hk
    · rename_i hc
      obtain ⟨u1, e1, rfl⟩ := dens_one ha
      simp [den] at e1; subst e1
      split at hk
      · rename_i n hn
        simp only [Option.some.injEq, Prod.mk.injEq] at hk
        obtain ⟨rfl, rfl⟩ := hk
        refine (Tryz.strconv_Atoi s n hc hn w).mono fun e w' ⟨he, t, hw⟩ => ?_
        refine ⟨E, _, fun d => Ext.refl d E, he, ?_, ?_⟩
        · exact den_tuple.2 ⟨_, dens_cons.2 ⟨_, _, by simp [den], dens_cons.2 ⟨_, _, by simp [den], by simp [dens], rfl⟩, rfl⟩, rfl⟩
        · rw [hw]; exact same (Lib.bytesWorld_below w 5 t)
      · cases hk
    · cases hk
  · rename_i n
    split at hk
    · rename_i hc
      simp only [Option.some.injEq, Prod.mk.injEq] at hk
      obtain ⟨rfl, rfl⟩ := hk
      obtain ⟨u1, e1, rfl⟩ := dens_one ha
      simp [den] at e1; subst e1
      refine (Tryz.strconv_Itoa (Int.ofNat n) (by simp only [Int.ofNat_eq_natCast]; omega) (by simp only [Int.ofNat_eq_natCast]; omega) w hT.pow).mono fun e w' ⟨he, k, os, hw⟩ => ?_
      rw [itoa_eq hc] at he
      refine ⟨E, _, fun d => Ext.refl d E, he, by simp [strS, den], ?_⟩
      rw [hw]; exact same (Lib.below_grow _ w (Nat.le_refl _) k os)
    · cases hk
  · rename_i x sep
    cases hj : joinS Tryz.prog H x sep with
    | none => rw [hj] at hk; cases hk
    | some y =>
      rw [hj] at hk
      simp only [Option.map_some, Option.some.injEq, Prod.mk.injEq] at hk
      obtain ⟨rfl, rfl⟩ := hk
      obtain ⟨u1, u2, e1, e2, rfl⟩ := dens_two ha
      simp [den] at e2; subst e2
      obtain ⟨bk, o, c, xs, rfl, j1, j2, j3, j4, j5, rfl⟩ := joinS_of hW hj e1
      refine (Tryz.strings_Join bk o c xs sep w j4 j1 j2 j3 j5).mono fun e w' ⟨he, hb⟩ => ?_
      exact ⟨E, _, fun d => Ext.refl d E, he, by simp [strS, den], same hb⟩
  · cases hk
end Go.Proofs.YtlpdeadmiinhoaaGreatDoor

/- EvY: The format's awake gives true. -/
namespace Go.Proofs.YtlpdeadmiinhoaaGreatDoor
open Go.Ev Go.RowKit
def saysTrue : Option (SV × List SO) → Bool
  | some (.bool true, _) => true
  | _ => false
theorem saysTrue_of {x : Option (SV × List SO)} (h : saysTrue x = true) : ∃ H, x = some (.bool true, H) := by
  unfold saysTrue at h
  split at h
  · exact ⟨_, rfl⟩
  · cases h
set_option maxRecDepth 100000 in
theorem awake_runs : saysTrue (callAt Tryz.prog (fun _ => []) hooks 10000 9 [] []) = true := by kernel_rfl

theorem awake_any (w : World) (h : Tabs w) : Calls Tryz.prog 9 #[] w fun e w' => e = .returned (.bool true) ∧ Below w.heap.size w w' := by
  obtain ⟨H', hr⟩ := saysTrue_of awake_runs
  refine (call_run (ν := fun _ => .bool true) (hooks_ok _ h) (fun g hg => absurd rfl hg) (by simp [dens]) hr).mono fun e w' ⟨E', u, he, hu, hW⟩ => ?_
  simp [den] at hu; subst hu
  exact ⟨he, hW.below⟩
end Go.Proofs.YtlpdeadmiinhoaaGreatDoor
