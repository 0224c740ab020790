/- A block turned round. -/
import Derived.Test.YtpjmiiejmkgmdaaJB
namespace Go.Proofs.Ytpjmiiejmkgmdaa
open Go.RowKit Go.Deep

theorem own_slice {w : World} {base : Nat} {e : TypeId} {v : Value} {n : Nat} {xs : List Value} (h : w.ownsRow base e 1 v n xs) : ∃ a cap, v = .slice a n cap := by
  rcases h.2 with ⟨rfl, rfl⟩ | ⟨g, cap, cur, rfl, _⟩
  · exact ⟨none, 0, rfl⟩
  · exact ⟨_, cap, rfl⟩
set_option maxHeartbeats 2000000 in
set_option maxRecDepth 100000 in
theorem turned_any (b : List (List Int)) (v : Value) (w : World) (hv : MatIn w b v) (hb8 : b.length ≤ 8) (hl : ∀ j, j < b.length → (b.getD j []).length ≤ 4096) (hbd : ∀ j f, ((b.getD j []).getD f 0).natAbs ≤ 8388607) :
    Calls Try.prog 40 #[v] w (MatGiven w (negM b)) := by
  obtain ⟨a, ca, rfl, hin, hal, _⟩ := hv
  obtain ⟨i3, hi3, y0, y1, y2⟩ := info_parts Try.info3
  obtain ⟨i22, hi22, z0, z1, z2⟩ := info_parts Try.info22
  have HL := Lib.hid hl
  have HBD := Lib.hid hbd
  clear hl hbd
  go_enter Try.func40, Try.ntmps40
  go_wp2_with fail
  go_loopw [3, 4] (fun v i wr => ∃ (k : Nat) (ts : List Value), i = .int .i64 k ∧ k ≤ b.length ∧ Tn w wr b k v ts) (fun _ i _ => b.length - (intOf i).toNat)
  case atStart => exact ⟨0, [], rfl, Nat.zero_le _, Below.refl _ _, World.ownsRow_nil _ _ _ _, fun j hj => absurd hj (Nat.not_lt_zero _)⟩
  case round =>
    obtain ⟨k, ts, rfl, hk, hN⟩ := hrel
    by_cases hlt : k < b.length
    · obtain ⟨ba, off, u0, rfl, hc, hu⟩ := (hin.mono (Same.of_below hN.below)) k hlt
      have hlk := HL.out k hlt
      have hbk := HBD.out k
      have HIN := Lib.hid (fun (x : World) (hx : Below w.heap.size w x) => (hin.mono (Same.of_below hx)) k hlt)
      have hdone := fun (w1 : World) (X : Obj) (v' u : Value) (wr' : World) (hti : Ti w wr' b k u3 ts (b.getD k []).length u) hown hg => hti.done (w1 := w1) (v' := v') (X := X) hlk hbk hown hg
      have hstep := fun (wr' : World) (q : Nat) (u u' : Value) (w1 : World) (X : Obj) (hti : Ti w wr' b k u3 ts q u) (hq : q < (b.getD k []).length) hown hg hm => hti.step (w1 := w1) (u' := u') (X := X) hq hown hg hm
      have hownp := fun (wr' : World) (q : Nat) (u : Value) (hti : Ti w wr' b k u3 ts q u) => hti.own
      have hcell0 : ∀ x, Below w.heap.size w x → ∃ y, x.cell? ⟨ba, off + k, none⟩ = some y ∧ RowIn x (b.getD k []) y := fun x hx => by
        obtain ⟨b1, o1, u1, e1, hc1, hu1⟩ := HIN.out x hx
        simp only [Option.some.injEq, Addr.mk.injEq, and_true] at e1
        obtain ⟨rfl, rfl⟩ := e1
        exact ⟨u1, hc1, hu1⟩
      obtain ⟨ug, hug, _⟩ := hcell0 w (Below.refl _ _)
      have hcellw : ∀ x, Below w.heap.size w x → x.cell? ⟨ba, off + k, none⟩ = some ug ∧ RowIn x (b.getD k []) ug := fun x hx => by
        obtain ⟨y, h1, h2⟩ := hcell0 x hx
        have := (Same.of_below hx).cell hug
        rw [h1] at this; cases this
        exact ⟨h1, h2⟩
      obtain ⟨p, hp⟩ : ∃ p, b.getD k [] = p := ⟨_, rfl⟩
      have hin0 := hN.inner
      rw [hp] at hlk hbk hdone hstep hcellw hownp
      obtain ⟨au, cu, rfl, hau⟩ : ∃ au cu, ug = .slice au p.length cu ∧ (∀ x, Below w.heap.size w x → IntsIn x au p) := by
        obtain ⟨_, au, cu, e, _⟩ := hcellw w (Below.refl _ _)
        refine ⟨au, cu, e, fun x hx => ?_⟩
        obtain ⟨_, a2, c2, e2, h2, _⟩ := hcellw x hx
        rw [e] at e2
        simp only [Value.slice.injEq] at e2
        obtain ⟨rfl, _, _⟩ := e2
        exact h2
      have HCW := Lib.hid (fun x hx => (hcellw x hx).1)
      have HAU := Lib.hid hau
      have HST := Lib.hid hstep
      have HDN := Lib.hid hdone
      have HBK := Lib.hid hbk
      have HOP := Lib.hid hownp
      have hne38 : (22 : Nat) ≠ 3 := by decide
      have w4 : (k : Int) < (b.length : Int) := by omega
      clear hN hc hu hug hcell0 hcellw hau hstep hdone hbk hp hownp
      go_wp2_with fail
      obtain ⟨wo, rfl⟩ : ∃ wo : World, wo = wr := ⟨_, rfl⟩
      go_loopw [5, 6] (fun u i wr => ∃ q : Nat, i = .int .i64 q ∧ q ≤ p.length ∧ Ti w wr b k u3 ts q u) (fun _ i _ => p.length - (intOf i).toNat)
      case atStart => exact ⟨0, rfl, Nat.zero_le _, hin0⟩
      case round =>
        clear hin0
        obtain ⟨q, rfl, hq, hti⟩ := hrel
        have hcc := HCW.out wr hti.out.below
        by_cases hlt2 : q < p.length
        · obtain ⟨bp, op, rfl, hcp, _⟩ := HAU.out wr hti.out.below q hlt2
          have hx1 := HBK.out q
          have hst := fun u' w1 X => HST.out wr q _ u' w1 X hti hlt2
          obtain ⟨x, hx⟩ : ∃ x, p.getD q 0 = x := ⟨_, rfl⟩
          rw [hx] at hcp hx1 hst
          have hown := (HOP.out _ _ _ hti).alloc (.cells #[.int .i64 (-x)] 3)
          obtain ⟨L, hL⟩ : ∃ L, ((negR p).take q).map (Value.int .i64) = L := ⟨_, rfl⟩
          rw [hL] at hown hst
          have hlen := hti.own.1
          have hsz := hti.out.below.size
          have hbelow := hti.out.below
          have x1 : -8388607 ≤ x := by omega
          have x2 : x ≤ 8388607 := by omega
          have w5 : (q : Int) < (p.length : Int) := by omega
          have HSX := Lib.hid hst
          have HLEN := Lib.hid hlen
          have HSZ := Lib.hid hsz
          clear hx hx1 hst hlen hti hsz hbelow hL
          go_wp2_with (at_builtin; refine wpList_append_moves rfl _ _ 22 rfl w.heap.size 3 i3 _ 1 8 Try.underlying22 hi3 y0 y1 y2 rfl (by decide) _ _ _ rfl hown ⟨wr.heap.size, 0, none⟩ 1 1 [.int .i64 (-x)] rfl rfl ?c1 ?c2 ?c3 ?c4 ?c5 ?_)
          case c1 =>
            intro j u hu
            match j with
            | 0 => simp at hu; subst hu; simp [go_sem]
            | j + 1 => simp at hu
          case c2 => intro u hu; simp at hu; subst hu; rfl
          case c3 => unfold maxLen; omega
          case c4 => omega
          case c5 => have := HSZ.out; simp; omega
          intro u' w1 hown1 hg1 hm1
          have HN := Lib.hid (HSX.out _ _ _ hown1 hg1 hm1)
          clear hown1 hg1 hm1 hown
          go_wp2_with fail
          go_roundw
          case rel => exact ⟨q + 1, by go_num, by omega, HN.out⟩
          case measure => simp [intOf]; omega
        · have w5 : ¬ (q : Int) < (p.length : Int) := by omega
          obtain rfl : q = p.length := by omega
          obtain ⟨a5, c5, rfl⟩ := own_slice hti.own
          have hown := hti.out.own.alloc (.cells #[.slice a5 p.length c5] 22)
          have hsz := hti.out.below.size
          have HTI := Lib.hid hti
          have HSZ := Lib.hid hsz
          have hfin := fun v' w1 X => HDN.out w1 X v' _ wr HTI.out
          have HFIN := Lib.hid hfin
          have hlen := HTI.out.out.own.1
          have HLEN := Lib.hid hlen
          clear hti hsz hfin hlen
          go_wp2_with (at_builtin; refine wpList_append_moves rfl _ _ 38 rfl w.heap.size 22 i22 _ 1 24 Try.underlying38 hi22 z0 z1 z2 rfl (by decide) _ _ _ rfl hown ⟨wr.heap.size, 0, none⟩ 1 1 [.slice a5 p.length c5] rfl rfl ?d1 ?d2 ?d3 ?d4 ?d5 ?_)
          case d2 => rfl
          case d3 => unfold maxLen; omega
          case d4 => omega
          case d5 => have := HSZ.out; simp; omega
          intro v' w1 hown1 hg1 _
          have HN := Lib.hid (HFIN.out _ _ _ hown1 hg1)
          clear hown1 hg1 hown
          go_wp2_with fail
          go_roundw
          case rel => exact ⟨k + 1, _, by go_num, by omega, HN.out⟩
          case measure => simp [intOf]; omega
    · have w4 : ¬ (k : Int) < (b.length : Int) := by omega
      obtain rfl : k = b.length := by omega
      have hm := hN.mat hb8
      have hb := hN.below
      have HM := Lib.hid hm
      have HB := Lib.hid hb
      clear hN hm hb
      go_wp2_with fail
      go_ret
      exact ⟨_, rfl, HM.out, HB.out⟩
end Go.Proofs.Ytpjmiiejmkgmdaa
