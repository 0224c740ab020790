/- The turns see, look, take, claim, put, commit. -/
import Derived.Test.YtgcohmlapgnbdaaUF
namespace Go.Proofs.Ytgcohmlapgnbdaa
open Go.RowKit Go.Shelf Go.Deep
variable {B0 B P R P0 : Nat} {l : List (List Int)} {s : Pl} {x : World}

theorem seeT (n : Int) (h : PlAt B0 B P R P0 l s x) (hs : s.g.sz ≤ 1024) : Calls Try.prog 106 #[.pointer (some ⟨P0, 0, none⟩), .int .i64 n] x (Turned B0 B P R P0 l { s with g := s.g.seen } x) := by
  obtain ⟨fv, gv, rv, gs, rs, hm⟩ := h
  refine (see106 P R P0 s.g n x hm.ring hs (hm.row.cell (i := 0) (by decide))).mono ?_
  rintro e w' ⟨rfl, hr, hg⟩
  exact hm.turned hr hg
theorem lookT (n : Int) (h : PlAt B0 B P R P0 l s x) : Calls Try.prog 110 #[.pointer (some ⟨P0, 0, none⟩), .int .i64 n] x (Turned B0 B P R P0 l { s with g := s.g.looked } x) := by
  obtain ⟨fv, gv, rv, gs, rs, hm⟩ := h
  have c0 : x.cell? ⟨P0, 0, none⟩ = some (.pointer (some ⟨P, 0, none⟩)) := hm.row.cell (i := 0) (by decide)
  have hse := lookM_any P R s.g x hm.ring
  have HM := Lib.hid hm
  clear hm
  go_enter Try.func110, Try.ntmps110
  go_wp2_with (go_at_call 31; (with_reducible refine hse.mono ?_); rintro e w1 ⟨rfl, hr, hg⟩)
  go_end0
  exact HM.out.turned hr hg
theorem takeT (n : Int) (h : PlAt B0 B P R P0 l s x) (hs : s.g.sz ≤ 1024) : Calls Try.prog 111 #[.pointer (some ⟨P0, 0, none⟩), .int .i64 n] x (Turned B0 B P R P0 l { s with g := takeR s.g n } x) := by
  obtain ⟨fv, gv, rv, gs, rs, hm⟩ := h
  have c0 : x.cell? ⟨P0, 0, none⟩ = some (.pointer (some ⟨P, 0, none⟩)) := hm.row.cell (i := 0) (by decide)
  have hse := take_any P R s.g n x hm.ring hs
  have HM := Lib.hid hm
  clear hm
  go_enter Try.func111, Try.ntmps111
  go_wp2_with (go_at_call 32; (with_reducible refine hse.mono ?_); rintro e w1 ⟨rfl, hr, hg⟩)
  go_end0
  exact HM.out.turned hr hg
set_option maxRecDepth 100000 in
theorem claimT (n : Int) (h : PlAt B0 B P R P0 l s x) (hs : s.g.sz ≤ 1024) (hd : s.d ≤ l.length) : Calls Try.prog 107 #[.pointer (some ⟨P0, 0, none⟩), .int .i64 n] x (Turned B0 B P R P0 l { s with g := claimR s.g (min n ((l.length - s.d : Nat) : Int)) } x) := by
  obtain ⟨fv, gv, rv, gs, rs, hm⟩ := h
  have c0 : x.cell? ⟨P0, 0, none⟩ = some (.pointer (some ⟨P, 0, none⟩)) := hm.row.cell (i := 0) (by decide)
  have c1 : x.cell? ⟨P0, 1, none⟩ = some fv := hm.row.cell (i := 1) (by decide)
  have hse := claim_any P R s.g (min n ((l.length - s.d : Nat) : Int)) (x.drewN 1) (hm.ring.below (below_drewN (Below.refl _ _) 1)) hs
  have HG : Hid (Gw P R x (x.drewN 1)) := Lib.hid ((Gw.refl P R x).drewN 1)
  obtain ⟨a, ca, rfl, _⟩ := hm.mat.here
  have HM := Lib.hid hm
  clear hm
  have hln : (l.drop s.d).length = l.length - s.d := List.length_drop
  rw [hln] at c1
  rw [hln] at HM
  obtain ⟨k, hk⟩ : ∃ k, l.length - s.d = k := ⟨_, rfl⟩
  rw [hk] at c1 hse HM ⊢
  clear hk hln
  go_enter Try.func107, Try.ntmps107
  go_still_tail 11, (by kernel_rfl)
  change wpList _ _ _ _ _ (x.drewN 1)
  generalize x.drewN 1 = W at *
  go_wp2_with (go_at_call 29; (with_reducible refine hse.mono ?_); rintro e w1 ⟨rfl, hr, hg⟩)
  go_end0
  exact HM.out.turned hr (HG.out.trans hg)
end Go.Proofs.Ytgcohmlapgnbdaa
namespace Go.Proofs.Ytgcohmlapgnbdaa
open Go.RowKit Go.Shelf Go.Deep
variable {B0 B P R P0 : Nat} {l : List (List Int)} {s : Pl} {x : World}

theorem PlMem.setPut {fv gv rv : Value} {gs rs : List Value} (h : PlMem B0 B P R P0 l s fv gv rv gs rs x) (n : Nat) : PlMem B0 B P R P0 l { s with put := n } fv gv rv gs rs (x.setCell ⟨P0, 2, none⟩ (.int .i64 n)) := by
  have hg : ∀ k, k ≠ P0 → (x.setCell ⟨P0, 2, none⟩ (.int .i64 n)).heap[k]? = x.heap[k]? := fun k hk => blk_setCell_other _ _ _ _ (fun e => hk e)
  exact {
    ring := h.ring.of_blocks (hg _ h.ne.1) (hg _ h.ne.2)
    row := (h.row.set 2 (.int .i64 n)).congr fun i hi => by
      match i with
      | 0 => rfl
      | 1 => rfl
      | 2 => rfl
      | 3 => rfl
      | 4 => rfl
    ne := h.ne
    lt := ⟨h.lt.1, by simpa using h.lt.2⟩
    lo := h.lo
    mat := h.mat.keep fun k hk => hg k (by have := h.lo.1.2.2; omega)
    got := h.got.keep fun g h1 _ => hg g (by have := h.lt.1.2.2; omega)
    out := h.out.keep fun g h1 _ => hg g (by have := h.lt.1.2.2; omega)
    apart := h.apart }
theorem PlMem.setBelow {fv gv rv : Value} {gs rs : List Value} (h : PlMem B0 B P R P0 l s fv gv rv gs rs x) (i : Nat) (v : Value) : Below B0 x (x.setCell ⟨P0, i, none⟩ v) :=
  ⟨rfl, rfl, rfl, by simp, fun k hk => blk_setCell_other _ _ _ _ (fun e => by have := h.lo.1.2.2; simp only at e; omega)⟩
theorem gw_low {y : World} {fv gv rv : Value} {gs rs : List Value} (h : PlMem B0 B P R P0 l s fv gv rv gs rs x) (hg : Gw P R x y) : Below B0 x y :=
  ⟨hg.os, hg.tape, hg.output, hg.size, fun k hk => hg.block k (by have := h.lt.2; have := h.lo.2; omega) (by have := h.lo.1.1; omega) (by have := h.lo.1.2.1; omega)⟩
def putP (l : List (List Int)) (s : Pl) : Pl := if (s.put : Int) < s.g.wn then { s with g := putR s.g s.put (l.getD (s.d + s.put) []), put := s.put + 1 } else s
set_option maxHeartbeats 1000000 in
set_option maxRecDepth 100000 in
theorem putT (n : Int) (h : PlAt B0 B P R P0 l s x) (hok : s.g.Ok) (hd : s.d ≤ l.length) (hw : s.g.wn ≤ ((l.length - s.d : Nat) : Int)) (hl : l.length ≤ 2000) : Calls Try.prog 108 #[.pointer (some ⟨P0, 0, none⟩), .int .i64 n] x (Turned B0 B P R P0 l (putP l s) x) := by
  obtain ⟨fv, gv, rv, gs, rs, hm⟩ := h
  have hx : ∀ y, Below x.heap.size x y → (y.cell? ⟨P0, 0, none⟩ = some (.pointer (some ⟨P, 0, none⟩)) ∧ y.cell? ⟨P0, 1, none⟩ = some fv) ∧ y.cell? ⟨P0, 2, none⟩ = some (.int .i64 s.put) := fun y hy => ⟨⟨(hm.below hy).row.cell (i := 0) (by decide), (hm.below hy).row.cell (i := 1) (by decide)⟩, (hm.below hy).row.cell (i := 2) (by decide)⟩
  have HX := Lib.hid hx
  obtain ⟨⟨c0, c1⟩, c2⟩ := hx x (Below.refl _ _)
  have hcl := claimed_any P R s.g x hm.ring
  have HM := Lib.hid hm
  have HOK := Lib.hid hok
  clear hm hok hx
  by_cases hlt : (s.put : Int) < s.g.wn
  · have hi : s.put < (l.drop s.d).length := by rw [List.length_drop]; omega
    obtain ⟨a, ca, rfl, hin, _, _⟩ := HM.out.mat.here
    obtain ⟨bb, ob, v, rfl, _, _⟩ := hin s.put hi
    rw [show putP l s = { s with g := putR s.g s.put (l.getD (s.d + s.put) []), put := s.put + 1 } by unfold putP; rw [if_pos hlt]]
    go_enter Try.func108, Try.ntmps108
    go_upto_region 2 with (go_at_call 73; (with_reducible refine hcl.mono ?_); rintro e w1 ⟨rfl, hb⟩; obtain ⟨⟨m0, m1⟩, m2⟩ := HX.out _ hb; have HB := Lib.hid hb; clear hb c0 c1 c2)
    have hbw : Below x.heap.size x (w1.drewN 1) := Below.then HB.out (Nat.le_refl _) (below_drewN (Below.refl _ w1) 1)
    obtain ⟨a2, ca2, e2, hin2, _, _⟩ := (HM.out.below hbw).mat.here
    simp only [Value.slice.injEq, true_and] at e2
    obtain ⟨rfl, rfl⟩ := e2
    obtain ⟨b2, o2, v2, e3, hcv, hvr⟩ := hin2 s.put hi
    simp only [Option.some.injEq, Addr.mk.injEq, and_true] at e3
    obtain ⟨rfl, rfl⟩ := e3
    rw [show (l.drop s.d).getD s.put [] = l.getD (s.d + s.put) [] by simp [List.getD]] at hvr
    have hpm := putM_any P R s.g s.put _ v2 _ ((HM.out.below hbw).ring) HOK.out hvr
    have HBW := Lib.hid hbw
    have hcv' : w1.cell? ⟨bb, ob + s.put, none⟩ = some v2 := hcv
    have HI := Lib.hid hi
    have wp : IntKind.i64.wrap ((s.put : Int) + 1) = ((s.put + 1 : Nat) : Int) := by
      have : s.put < 2000 := by have := hi; rw [List.length_drop] at this; omega
      rw [IntKind.wrap_i64]; omega
    have hi1 : s.put < l.length - s.d := by have := hi; rw [List.length_drop] at this; exact this
    have hi2 : (s.put : Int) < ((l.length - s.d : Nat) : Int) := by omega
    have hi3 : (0 : Int) ≤ (s.put : Int) := by omega
    clear hin hin2 hcv hvr hbw
    go_still_tail 18, (by kernel_rfl)
    change wpList _ _ _ _ _ (w1.drewN 1)
    generalize w1.drewN 1 = W at *
    clear m0 m1 m2 hcv'
    go_wp2_with (go_at_call 30; (with_reducible refine hpm.mono ?_); rintro e w2 ⟨rfl, hr, hg⟩; have HM2 := Lib.hid ((HM.out.below HBW.out).ringed hr hg); have HG2 := Lib.hid ((gw_below HBW.out : Gw P R x W).trans hg); have q2 := HM2.out.row.cell (i := 2) (by decide); have z2 := HM2.out.row.frozen 2; clear hr hg hpm; dsimp only [plVal] at q2)
    go_end0
    rw [show ((s.put : Int) + 1) = ((s.put + 1 : Nat) : Int) by omega]
    exact ⟨rfl, ⟨_, _, _, _, _, HM2.out.setPut (s.put + 1)⟩, (gw_k115 HM.out.ring HG2.out).trans (k115_set HM2.out.row (by decide) 2 _), (gw_low HM.out HG2.out).trans (HM2.out.setBelow 2 _)⟩
  · rw [show putP l s = s by unfold putP; rw [if_neg hlt]]
    go_enter Try.func108, Try.ntmps108
    go_wp2_with (go_at_call 73; (with_reducible refine hcl.mono ?_); rintro e w1 ⟨rfl, hb⟩; obtain ⟨⟨m0, m1⟩, m2⟩ := HX.out _ hb; have HB := Lib.hid hb; clear hb c0 c1 c2)
    go_end0
    exact HM.out.turned (HM.out.ring.below HB.out) (gw_below HB.out)
end Go.Proofs.Ytgcohmlapgnbdaa
namespace Go.Proofs.Ytgcohmlapgnbdaa
open Go.RowKit Go.Shelf Go.Deep
variable {B0 B P R P0 : Nat} {l : List (List Int)} {s : Pl} {x : World}

theorem low_set {B0 P0 i : Nat} {v : Value} {x y : World} (h : Below B0 x y) (hl : B0 ≤ P0) : Below B0 x (y.setCell ⟨P0, i, none⟩ v) :=
  ⟨h.os, h.tape, h.output, by simpa using h.size, fun k hk => (blk_setCell_other _ _ _ _ (fun e => by simp only at e; omega)).trans (h.block k hk)⟩
def commitP (s : Pl) : Pl := { s with g := commitR s.g s.put, d := s.d + s.put, put := 0 }
theorem PlMem.committed {fv gv rv fv' : Value} {gs rs : List Value} (h : PlMem B0 B P R P0 l s fv gv rv gs rs x) (hm : MatLow B0 x (l.drop (s.d + s.put)) fv') : PlMem B0 B P R P0 l { s with d := s.d + s.put, put := 0 } fv' gv rv gs rs ((x.setCell ⟨P0, 1, none⟩ fv').setCell ⟨P0, 2, none⟩ (.int .i64 0)) := by
  have hg : ∀ k, k ≠ P0 → ((x.setCell ⟨P0, 1, none⟩ fv').setCell ⟨P0, 2, none⟩ (.int .i64 0)).heap[k]? = x.heap[k]? := fun k hk => (blk_setCell_other _ _ _ _ (fun e => hk e)).trans (blk_setCell_other _ _ _ _ (fun e => hk e))
  exact {
    ring := h.ring.of_blocks (hg _ h.ne.1) (hg _ h.ne.2)
    row := ((h.row.set 1 fv').set 2 (.int .i64 0)).congr fun i hi => by
      match i with
      | 0 => rfl
      | 1 => rfl
      | 2 => rfl
      | 3 => rfl
      | 4 => rfl
    ne := h.ne
    lt := ⟨h.lt.1, by simpa using h.lt.2⟩
    lo := h.lo
    mat := hm.keep fun k hk => hg k (by have := h.lo.1.2.2; omega)
    got := h.got.keep fun g h1 _ => hg g (by have := h.lt.1.2.2; omega)
    out := h.out.keep fun g h1 _ => hg g (by have := h.lt.1.2.2; omega)
    apart := h.apart }
set_option maxHeartbeats 1000000 in
set_option maxRecDepth 100000 in
theorem commitT (n : Int) (h : PlAt B0 B P R P0 l s x) (hp : s.put ≤ l.length - s.d) : Calls Try.prog 109 #[.pointer (some ⟨P0, 0, none⟩), .int .i64 n] x (Turned B0 B P R P0 l (commitP s) x) := by
  obtain ⟨fv, gv, rv, gs, rs, hm⟩ := h
  have hx : ∀ y, Below x.heap.size x y → (y.cell? ⟨P0, 0, none⟩ = some (.pointer (some ⟨P, 0, none⟩)) ∧ y.cell? ⟨P0, 1, none⟩ = some fv) ∧ y.cell? ⟨P0, 2, none⟩ = some (.int .i64 s.put) := fun y hy => ⟨⟨(hm.below hy).row.cell (i := 0) (by decide), (hm.below hy).row.cell (i := 1) (by decide)⟩, (hm.below hy).row.cell (i := 2) (by decide)⟩
  obtain ⟨⟨c0, c1⟩, c2⟩ := hx x (Below.refl _ _)
  have hcl := commit_any P R s.g s.put (x.drewN 1) (hm.ring.below (below_drewN (Below.refl _ _) 1))
  have HG : Hid (Gw P R x (x.drewN 1)) := Lib.hid ((Gw.refl P R x).drewN 1)
  obtain ⟨a, ca, rfl, _⟩ := hm.mat.here
  have HM := Lib.hid hm
  have HP := Lib.hid hp
  clear hm hx
  go_enter Try.func109, Try.ntmps109
  go_upto_region 1 with fail
  go_still_tail 8, (by kernel_rfl)
  change wpList _ _ _ _ _ (x.drewN 1)
  generalize x.drewN 1 = W at *
  go_upto_region 1 with (go_at_call 16; (with_reducible refine hcl.mono ?_); rintro e w2 ⟨rfl, hr, hg⟩; have HM2 := Lib.hid (HM.out.ringed hr (HG.out.trans hg)); have HG2 := Lib.hid (HG.out.trans hg); clear hr hg hcl c0 c1 c2)
  have q1 : w2.cell? ⟨P0, 1, none⟩ = some (.slice a (l.drop s.d).length ca) := HM2.out.row.cell (i := 1) (by decide)
  have q2 : w2.cell? ⟨P0, 2, none⟩ = some (.int .i64 s.put) := HM2.out.row.cell (i := 2) (by decide)
  have z1 := HM2.out.row.frozen 1
  have z2 := HM2.out.row.frozen 2
  have hl : s.put ≤ (l.drop s.d).length := by rw [List.length_drop]; exact HP.out
  have hsl := fun w => slice_post a (l.drop s.d).length ca s.put hl w
  have HFV : Hid (MatLow B0 w2 (l.drop (s.d + s.put)) (.slice (if ca = s.put then a else a.map (·.add s.put)) ((l.drop s.d).length - s.put) (ca - s.put))) := Lib.hid (fun y hy => by
    have := mat_drop (HM2.out.mat y hy) hl
    rw [List.drop_drop] at this
    exact this)
  clear hl
  generalize (l.drop s.d).length = L at *
  obtain ⟨fa, hfa⟩ : ∃ fa, (if ca = s.put then a else a.map (·.add s.put)) = fa := ⟨_, rfl⟩
  obtain ⟨fc, hfc⟩ : ∃ fc, ca - s.put = fc := ⟨_, rfl⟩
  obtain ⟨fl, hfl⟩ : ∃ fl, L - s.put = fl := ⟨_, rfl⟩
  rw [hfa, hfc, hfl] at hsl HFV
  clear hfa hfc hfl
  go_region
  go_end0
  have hlo : B0 ≤ P0 := HM2.out.lo.1.2.2
  exact ⟨rfl, ⟨_, _, _, _, _, ((HM2.out.committed HFV.out).below (below_drew (Below.refl _ _)))⟩,
    (((gw_k115 HM.out.ring HG2.out).trans (k115_set HM2.out.row (by decide) 1 _)).trans (k115_set (HM2.out.row.set 1 _) (by decide) 2 _)).trans (k115_below (below_drew (Below.refl _ _))),
    (low_set (low_set (gw_low HM.out HG2.out) hlo) hlo).drew⟩
end Go.Proofs.Ytgcohmlapgnbdaa
