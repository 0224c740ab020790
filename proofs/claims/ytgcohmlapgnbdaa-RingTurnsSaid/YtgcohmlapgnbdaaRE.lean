/- A frame put: copied to its place. -/
import Derived.Test.YtgcohmlapgnbdaaRD
import Derived.Laws.CopyOwn
namespace Go.Proofs.Ytgcohmlapgnbdaa
open Go.RowKit Go.Shelf Go.Deep

theorem Try.one3 : (Try.prog.info? 3).map (·.size) = some 1 := by kernel_rfl
theorem grown_setRow (w : World) (g : Nat) (cs : Array Value) : w.grownBy (w.setRow g cs) (some g) :=
  ⟨rfl, rfl, rfl, by simp [World.setRow], fun k _ hk => setRow_other w g k cs (fun e => hk (by rw [e]))⟩

/-- What a row holds when m numbers were copied to its place off. -/
def spl (f : Nat → Value) (off m : Nat) (L : Nat → Int) : Nat → Value := fun j => if off ≤ j ∧ j < off + m then .int .i64 (L (j - off)) else f j

theorem wpList_copy_grid {P : Program} {w : World} {ops : Array Oper} {rest : List Oper} {o : Oper} {a : Act} {Q : Exit → Act → World → Prop} (hgd : o.guard = none) (d s : Operand) (dT sT : TypeId)
    (ho : o.op = .call { callee := .builtin .copy, args := #[d, s], argTypes := #[dT, sT] }) (elem : TypeId) (hu : P.underlying dT = some (.slice elem)) (hsz : (P.info? elem).map (·.size) = some 1)
    (dp sp : Option Addr) (dLen dCap sLen sCap : Nat) (hd : a.eval d = .slice dp dLen dCap) (hs : a.eval s = .slice sp sLen sCap)
    (g off n : Nat) (f : Nat → Value) (t : TypeId) (hr : w.rowIs g t n f) (m : Nat) (L : Nat → Int) (hm : m = Nat.min sLen dLen)
    (hpos : 0 < m → dp = some ⟨g, off, none⟩ ∧ ∃ ad, sp = some ad ∧ ∀ j, j < m → w.cell? (ad.add j) = some (.int .i64 (L j))) (hfit : off + m ≤ n)
    (h : ∀ w', w'.rowIs g t n (spl f off m L) → w.grownBy w' (some g) → wpList P ops Q rest (a.put o.dst (goInt m)) w') : wpList P ops Q (o :: rest) a w := by
  by_cases h0 : m = 0
  · subst h0
    refine wpList_copy_nothing hgd d s dT sT ho elem hu hsz dp sp dLen dCap sLen sCap hd hs hm.symm ?_
    exact h w (hr.congr fun j _ => by unfold spl; rw [if_neg (by omega)]) ⟨rfl, rfl, rfl, Nat.le_refl _, fun _ _ _ => rfl⟩
  · obtain ⟨rfl, ad, rfl, hsrc⟩ := hpos (by omega)
    obtain ⟨c, hb, hcs, hc⟩ := hr
    have hlen : ((List.range m).map fun j => Value.int .i64 (L j)).length = m := by simp
    have hsrc' : ∀ j v, ((List.range m).map fun j => Value.int .i64 (L j))[j]? = some v → w.cell? (ad.add j) = some v := by
      intro j v hj
      have hj' : j < m := by have := (List.getElem?_eq_some_iff.1 hj).1; simpa using this
      simp [hj'] at hj
      rw [← hj]; exact hsrc j hj'
    refine wpList_copy_own hgd d s dT sT ho elem hu hsz g off dLen dCap ad sLen sCap hd hs c t hb ((List.range m).map fun j => Value.int .i64 (L j)) (by rw [hlen]; exact hm) hsrc' (by rw [hlen]; omega) (by intro v hv; simp at hv; obtain ⟨j, _, rfl⟩ := hv; rfl) ?_
    rw [hlen]
    refine h _ ⟨_, setRow_heap w g _ _ t _ hb, by simp [hcs]; omega, fun i hi => ?_⟩ (grown_setRow w g _)
    unfold spl
    rw [List.getElem?_toArray]
    by_cases h1 : i < off
    · rw [if_neg (by omega), List.getElem?_append_left (by simp [hcs]; omega), List.getElem?_take_of_lt h1]
      simpa using hc i hi
    · have hl1 : (c.toList.take off).length = off := by simp [hcs]; omega
      rw [List.getElem?_append_right (by omega), hl1]
      by_cases h2 : i < off + m
      · rw [if_pos ⟨by omega, h2⟩, List.getElem?_append_left (by simp; omega)]
        simp [show i - off < m by omega]
      · rw [if_neg (by omega), List.getElem?_append_right (by simp; omega), List.getElem?_drop]
        simp only [List.length_map, List.length_range]
        rw [show off + m + (i - off - m) = i by omega]
        simpa using hc i hi


set_option maxRecDepth 100000
def fAt (f : List Int) (j : Nat) : Int := f.getD j 0
def Rg.put (g : Rg) (c : Int) (f : List Int) : Rg := { g with m := g.m.set (plp g c) f }
theorem RingAt.copied {P R : Nat} {g : Rg} {w w' : World} (h : RingAt P R g w) (hk : g.Ok) {c : Int} {f : List Int} (hf : f.length = g.ch) {N : Nat} {G : Nat → Value} (hG : ∀ i, i < g.sz * g.ch → G i = .int .i64 (g.smp i)) (hN : g.sz * g.ch ≤ N)
    (hr : w'.rowIs R 3 N (spl G (plc g c) g.ch (fAt f))) (hg : w.grownBy w' (some R)) : RingAt P R (g.put c f) w' := by
  have hp := plp_lt hk.s1 c
  have hq := plc_lt hk.s1 c
  obtain ⟨cap, h0, h1⟩ := h.cap
  refine ⟨h.ne, by rw [show (g.put c f).m = g.m.set (plp g c) f from rfl, List.length_set]; exact h.len, fun p hp2 => ?_, ⟨cap, h0, (h1.of_block (hg.block P h.lt.1 (fun e => h.ne (by cases e; rfl)))).congr fun i hi => ?_⟩, N, _, hr, hN, fun i hi => ?_⟩
  · show ((g.m.set (plp g c) f).getD p []).length = g.ch
    rw [List.getD_eq_getElem?_getD, List.getElem?_set]
    by_cases e : plp g c = p
    · rw [if_pos e, if_pos (by rw [h.len]; exact hp)]; exact hf
    · rw [if_neg e, ← List.getD_eq_getElem?_getD]; exact h.rl p hp2
  · match i with
    | 0 => rfl | 1 => rfl | 2 => rfl | 3 => rfl | 4 => rfl | 5 => rfl | 6 => rfl | 7 => rfl | 8 => rfl | 9 => rfl | i + 10 => rfl
  · have hch := hk.c1
    have hi' : i < g.sz * g.ch := hi
    unfold spl
    show _ = Value.int .i64 (((g.m.set (plp g c) f).getD (i / g.ch) []).getD (i % g.ch) 0)
    rw [List.getD_eq_getElem?_getD (l := g.m.set _ _), List.getElem?_set]
    have hdm := Nat.div_add_mod i g.ch
    have hml := Nat.mod_lt i (show 0 < g.ch by omega)
    have hpl : plc g c = g.ch * plp g c := by rw [Nat.mul_comm]; rfl
    by_cases e : plp g c = i / g.ch
    · rw [if_pos e]
      have hlp : plp g c < g.m.length := by rw [h.len]; exact hp
      rw [if_pos hlp]
      rw [e] at hpl
      rw [if_pos ⟨by omega, by omega⟩, show i - plc g c = i % g.ch by omega]
      rfl
    · rw [if_neg e, ← List.getD_eq_getElem?_getD, hG i hi']
      have hne : ¬ (plc g c ≤ i ∧ i < plc g c + g.ch) := fun ⟨a1, a2⟩ => e (by
        have : i / g.ch = plp g c := by
          apply Nat.div_eq_of_lt_le
          · rw [show plp g c * g.ch = plc g c from rfl]; exact a1
          · rw [Nat.add_mul, Nat.one_mul, show plp g c * g.ch = plc g c from rfl]; exact a2
        exact this.symm)
      rw [if_neg hne]
      rfl
def DoesPut (P R : Nat) (g : Rg) (w : World) (e : Ending) (w' : World) : Prop := e = .returned (.tuple #[]) ∧ RingAt P R g w' ∧ Gw P R w w'
theorem put_no (P R : Nat) (g : Rg) (i : Int) (v : Value) (w : World) (h : RingAt P R g w) (hk : atK i g.wh g.wn ≠ 0) : Calls Try.prog 53 #[.pointer (some ⟨P, 0, none⟩), .int .i64 i, v] w fun e w' => e = .panicked (misfit (atK i g.wh g.wn)) ∧ Below w.heap.size w w' := by
  have h95 := at_no P 3 i g.wn g.wh w hk (h.c (k := 5) (by decide) (by decide)) (h.c (k := 6) (by decide) (by decide))
  clear h
  go_enter Try.func53, Try.ntmps53
  go_wp2_with (go_at_call 95; (with_reducible refine h95.mono ?_); rintro e w1 ⟨rfl, rfl⟩)
  exact ⟨rfl, rfl, Below.refl _ _⟩
theorem gw_grown {P R : Nat} {w w' : World} (h : w.grownBy w' (some R)) : Gw P R w w' := ⟨h.os, h.tape, h.output, h.size, fun k hk _ hr => h.block k hk (fun e => hr (by cases e; rfl))⟩
theorem src_of {w : World} {f : List Int} {av : Option Addr} {n cv : Nat} (h : RowIn w f (.slice av n cv)) (hf : f.length = n) : 0 < n → ∃ ad, av = some ad ∧ ∀ j, j < n → w.cell? (ad.add j) = some (.int .i64 (fAt f j)) := by
  intro hpos
  obtain ⟨a2, c2, e2, hin, _, _⟩ := h
  simp only [Value.slice.injEq] at e2
  obtain ⟨rfl, _, rfl⟩ := e2
  obtain ⟨b0, o0, rfl, _, _⟩ := hin 0 (by omega)
  refine ⟨⟨b0, o0, none⟩, rfl, fun j hj => ?_⟩
  obtain ⟨b', o', e, hcj, _⟩ := hin j (by omega)
  simp only [Option.some.injEq, Addr.mk.injEq, and_true] at e
  obtain ⟨rfl, rfl⟩ := e
  have : (⟨b0, o0, none⟩ : Addr).add j = ⟨b0, o0 + j, none⟩ := by unfold Addr.add; split <;> simp_all
  rw [this]; exact hcj
theorem put_yes (P R : Nat) (g : Rg) (i : Int) (f : List Int) (v : Value) (w : World) (h : RingAt P R g w) (hok : g.Ok) (hk : atK i g.wh g.wn = 0) (hf : f.length = g.ch) (hv : RowIn w f v) :
    Calls Try.prog 53 #[.pointer (some ⟨P, 0, none⟩), .int .i64 i, v] w (DoesPut P R (g.put ((g.wc + i) % 65536) f) w) := by
  have h95 := at_yes P 3 i g.wn g.wc g.wh w hk (h.c (k := 3) (by decide) (by decide)) (h.c (k := 5) (by decide) (by decide)) (h.c (k := 6) (by decide) (by decide))
  have h94 := place_any P R g ((g.wc + i) % 65536) w h hok (by omega) (by omega)
  obtain ⟨c, hc⟩ : ∃ c, (g.wc + i) % 65536 = c := ⟨_, rfl⟩
  rw [hc] at h95 h94 ⊢
  have hq := plc_lt hok.s1 c
  have hch := hok.c1
  have hu : Try.prog.underlying 39 = some (.slice 3) := Try.underlying39
  have HX : Hid (∀ x, Below w.heap.size w x → RingAt P R g x ∧ RowIn x f v) := Lib.hid fun x hx => ⟨h.below hx, hv.mono (Same.of_below hx)⟩
  have HOK := Lib.hid hok
  have HF := Lib.hid hf
  have HQ := Lib.hid hq
  obtain ⟨av, cv, rfl, _, _, _⟩ := hv
  rw [hf] at HX ⊢
  clear h hok hk hc hf hq
  go_enter Try.func53, Try.ntmps53
  go_wp2_with (first
    | (go_at_call 95; (with_reducible refine h95.mono ?_); rintro e w1 ⟨rfl, rfl⟩)
    | (go_at_call 94; (with_reducible refine h94.mono ?_); rintro e w1 ⟨cap, hcap, rfl, hb⟩; have HB := Lib.hid hb; clear hb
       obtain ⟨hr, hvx⟩ := HX.out w1 HB.out
       obtain ⟨N, G, r1, r2, r3⟩ := hr.row
       have HR := Lib.hid hr
       have HV := Lib.hid hvx
       have R1 := Lib.hid r1
       have R3 := Lib.hid r3
       have R2 := Lib.hid r2
       have HSRC := Lib.hid (src_of hvx HF.out)
       clear hr hvx r1 r3 r2)
    | (refine wpList_copy_grid rfl (.tmp 13) (.tmp 14) 39 39 rfl 3 hu Try.one3 (some ⟨R, plc g c, none⟩) av g.ch cap g.ch cv rfl rfl R (plc g c) N G 3 R1.out g.ch (fAt f) (by simp) (fun hp => ⟨rfl, HSRC.out hp⟩) (Nat.le_trans HQ.out R2.out) ?_; intro w2 hr2 hg2; have HW1 := Lib.hid hr2; have HW2 := Lib.hid hg2; clear hr2 hg2))
  go_end0
  exact ⟨rfl, HR.out.copied HOK.out HF.out R3.out R2.out HW1.out HW2.out, Gw.trans (gw_below HB.out) (gw_grown HW2.out)⟩
end Go.Proofs.Ytgcohmlapgnbdaa
