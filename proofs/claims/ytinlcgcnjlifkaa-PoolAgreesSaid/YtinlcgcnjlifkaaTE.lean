/- Numbers appended to a row of the call's own; the document's Part. -/
import Derived.Test.YtinlcgcnjlifkaaTD
import Derived.Laws.OwnMore
namespace Go.Proofs.Ytinlcgcnjlifkaa
open Go.RowKit Go.Shelf Go.Deep

theorem run_append_zero {P : Program} (w : World) (base : Nat) (t ty e : TypeId) (i : TypeInfo) (size : Nat) (ht : P.underlying t = some (.slice e)) (hi : P.info? e = some i)
    (v : Value) (n : Nat) (xs : List Value) (hown : w.ownsRow base e size v n xs) (p : Option Addr) (c : Nat) :
    (Builtin.append_ #[t, t] ty #[v, .slice p 0 c]).run P w = .ok v w := by
  have hl : ∀ (x : Addr), (loadCells x 0).run P w = .ok #[] w := fun x => by simpa using run_loadCells_list (P := P) w x [] (by simp)
  rcases hown.2 with ⟨rfl, rfl⟩ | ⟨g, cap, cur, rfl, _, _, hnc, _⟩
  · cases p <;> simp [Builtin.append_, run_underlying ht, sizeOf, typeInfo, hi, Builtin.lenOf, Builtin.firstCells, hl]
  · cases p <;> simp [Builtin.append_, run_underlying ht, sizeOf, typeInfo, hi, Builtin.lenOf, Builtin.firstCells, hnc, storeCells, hl]

theorem wpList_append_ints {w : World} {ops : Array Oper} {rest : List Oper} {o : Oper} {a : Act} {Q : Exit → Act → World → Prop} (hgd : o.guard = none) (s x : Operand)
    (ho : o.op = .call { callee := .builtin .append, args := #[s, x], argTypes := #[37, 37] }) (B : Nat) (v : Value) (n : Nat) (xs : List Int) (hs : a.eval s = v) (hown : w.ownsRow B 3 1 v n (xs.map (Value.int .i64)))
    (sp : Option Addr) (m sc : Nat) (hx : a.eval x = .slice sp m sc) (L : List Int) (hl : L.length = m) (hsrc : 0 < m → ∃ ad, sp = some ad ∧ ∀ j, j < m → w.cell? (ad.add j) = some (.int .i64 (L.getD j 0)))
    (hn : n + m ≤ 17592186044416) (hB : B ≤ w.heap.size)
    (h : ∀ v' w', w'.ownsRow B 3 1 v' (n + m) ((xs ++ L).map (Value.int .i64)) → w.grownBy w' v.ownBlock → Moved w v v' → wpList Try.prog ops Q rest (a.put o.dst v') w') : wpList Try.prog ops Q (o :: rest) a w := by
  obtain ⟨i0, hi, hz0, hz1, hz2⟩ := info_parts Try.info3
  by_cases h0 : m = 0
  · subst h0
    obtain rfl : L = [] := List.eq_nil_of_length_eq_zero hl
    refine wpList_plain hgd fun K hK => ?_
    have hrun := run_append_zero (P := Try.prog) w B 37 o.type 3 i0 1 Try.underlying37 hi v n _ hown sp sc
    unfold Oper.wp
    simp [execOp, ho, resolve, invoke, builtin, hs, hx, hrun, Result.andThen]
    exact hK _ _ (h v w (by simpa using hown) ⟨rfl, rfl, rfl, Nat.le_refl _, fun _ _ _ => rfl⟩ (.inl rfl))
  · obtain ⟨ad, rfl, hc⟩ := hsrc (by omega)
    refine wpList_append_moves hgd s x 37 ho B 3 i0 _ 1 8 Try.underlying37 hi hz0 hz1 hz2 rfl (by decide) v n _ hs hown ad m sc (L.map (Value.int .i64)) hx (by simp [hl]) (fun j u hu => ?_) (fun u hu => ?_) (by unfold maxLen; omega) (by omega) hB fun v' w' h1 h2 h3 => h v' w' (by simpa using h1) h2 h3
    · simp only [List.getElem?_map, Option.map_eq_some_iff] at hu
      obtain ⟨y, hy, rfl⟩ := hu
      have hj : j < m := by have := (List.getElem?_eq_some_iff.1 hy).1; omega
      have := hc j hj
      simpa [List.getD, hy] using this
    · simp only [List.mem_map] at hu; obtain ⟨y, _, rfl⟩ := hu; rfl

/-- A row cut: what comes out, in one form. -/
theorem cut_row {w : World} {a : Option Addr} {r : List Int} {cap f t : Nat} (hr : IntsIn w a r) (hc : r.length ≤ cap) (h1 : f ≤ t) (h2 : t ≤ r.length) :
    ∃ sp sc, (∀ w' : World, (Instr.sliceAt 37 (.slice a r.length cap) (some (.int .i64 f)) (some (.int .i64 t)) none).run Try.prog w' = .ok (.slice sp (t - f) sc) w') ∧
      (0 < t - f → ∃ ad, sp = some ad ∧ ∀ j, j < t - f → w.cell? (ad.add j) = some (.int .i64 (((r.drop f).take (t - f)).getD j 0))) := by
  refine ⟨if cap = f then a else a.map (·.add (f * 1)), cap - f, fun w' => ?_, fun h => ?_⟩
  · rw [run_sliceAt_slice _ _ _ _ _ _ (by kernel_rfl), run_slice_lh _ _ _ _ _ (by kernel_rfl) _ _ _ _ (by omega) (by omega) (by omega)]
    have hs : (sizeOf (Try.prog.elem 37)).run Try.prog w' = .ok 1 w' := by kernel_rfl
    rw [hs]
    simp [Result.andThen, sliced]
  · obtain ⟨b, o, rfl, _, _⟩ := hr f (by omega)
    refine ⟨⟨b, o + f, none⟩, ?_, fun j hj => ?_⟩
    · rw [if_neg (by omega)]
      simp only [Option.map_some, Option.some.injEq, Nat.mul_one]
      unfold Addr.add; split <;> simp_all
    · obtain ⟨_, _, e, hcj, _⟩ := hr (f + j) (by omega)
      simp only [Option.some.injEq, Addr.mk.injEq, and_true] at e
      obtain ⟨rfl, rfl⟩ := e
      have : (⟨b, o + f, none⟩ : Addr).add j = ⟨b, o + (f + j), none⟩ := by unfold Addr.add; split <;> simp_all [Nat.add_assoc]
      rw [this, hcj]
      simp [List.getD, List.getElem?_take, hj]
theorem cut_ok {w : World} {a : Option Addr} {r : List Int} {f n : Nat} (hr : IntsIn w a r) (hl : r.length ≤ 17592186044416) : okRow ((r.drop f).take n) := by
  refine ⟨by rw [List.length_take, List.length_drop]; omega, fun i hi => ?_⟩
  rw [List.length_take, List.length_drop] at hi
  obtain ⟨_, _, _, _, h⟩ := hr (f + i) (by omega)
  have : ((r.drop f).take n).getD i 0 = r.getD (f + i) 0 := by simp [List.getD, List.getElem?_take, show i < n by omega]
  rw [this]; exact h

theorem take_snocD {α : Type} (l : List α) (k : Nat) (d : α) (h : k < l.length) : l.take (k + 1) = l.take k ++ [l.getD k d] := by
  rw [List.take_succ_eq_append_getElem h]; simp [List.getD, h]

end Go.Proofs.Ytinlcgcnjlifkaa
