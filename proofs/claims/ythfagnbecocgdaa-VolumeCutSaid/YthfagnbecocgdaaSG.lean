/- Set and Mute: all channels changed. -/
import Derived.Test.YthfagnbecocgdaaSF
namespace Go.Proofs.Ythfagnbecocgdaa
open Go.RowKit Go.Shelf Go.Deep

def MapTo (h : Nat → Ch → Ch) (cs ds : List Ch) (j : Nat) : Prop := ds.length = cs.length ∧ ∀ i, i < cs.length → chAt ds i = if i < j then h i (chAt cs i) else chAt cs i
theorem MapTo.start (h : Nat → Ch → Ch) (cs : List Ch) : MapTo h cs cs 0 := ⟨rfl, fun i _ => by rw [if_neg (Nat.not_lt_zero _)]⟩
theorem MapTo.step {h : Nat → Ch → Ch} {cs ds : List Ch} {j : Nat} (m : MapTo h cs ds j) (hj : j < cs.length) : MapTo h cs (ds.set j (h j (chAt cs j))) (j + 1) := by
  refine ⟨by rw [List.length_set]; exact m.1, fun i hi => ?_⟩
  rw [chAt_set _ (by rw [m.1]; exact hj)]
  by_cases e : i = j
  · subst e; rw [if_pos rfl, if_pos (by omega)]
  · rw [if_neg e, m.2 i hi]
    by_cases e2 : i < j
    · rw [if_pos e2, if_pos (by omega)]
    · rw [if_neg e2, if_neg (by omega)]
/-- All channels by their number. -/
def mapC (h : Nat → Ch → Ch) (cs : List Ch) : List Ch := (List.range cs.length).map fun i => h i (chAt cs i)
theorem mapC_len (h : Nat → Ch → Ch) (cs : List Ch) : (mapC h cs).length = cs.length := by simp [mapC]
theorem mapC_at {h : Nat → Ch → Ch} {cs : List Ch} {i : Nat} (hi : i < cs.length) : chAt (mapC h cs) i = h i (chAt cs i) := by simp [mapC, chAt, List.getD, hi]
theorem MapTo.done {h : Nat → Ch → Ch} {cs ds : List Ch} (m : MapTo h cs ds cs.length) : ds = mapC h cs :=
  chs_eq (by rw [m.1, mapC_len]) fun i hi => by rw [m.1] at hi; rw [m.2 i hi, if_pos hi, mapC_at hi]

/-- What a setter does to channel j. -/
def Sets (s : Nat) (Bg : Nat) (P R : Nat) (cs : List Ch) (upd : Nat → Ch → Ch) (w : World) : Prop :=
  (∀ args w, (callFunc s args).run Try.prog w = .ok (.enter s args) w) ∧ ∀ j, j < cs.length → ∀ ds x, VolAt P R ds x → w.grownBy x (some R) → ds.length = cs.length → chAt ds j = chAt cs j →
    Calls Try.prog s #[.int .i64 j, .pointer (some ⟨R, j * 6, none⟩), at0 Bg] x (TurnAns P R (ds.set j (upd j (chAt cs j))) x)
set_option maxHeartbeats 2000000 in
set_option maxRecDepth 100000 in
theorem change_any (P R s Bg : Nat) (cs : List Ch) (upd : Nat → Ch → Ch) (fr : Int) (w : World) (hV : VolAt P R cs w) (hS : Sets s Bg P R cs upd w) (h8 : cs.length ≤ 8)
    (hup : ∀ j, j < cs.length → RampOk (upd j (chAt cs j)).f (upd j (chAt cs j)).t (upd j (chAt cs j)).n (upd j (chAt cs j)).a) :
    Calls Try.prog 63 #[.pointer (some ⟨P, 0, none⟩), .int .i64 fr, .func (.func s) #[] #[at0 Bg]] w (TurnAns P R (mapC (fun j c => turnC fr (upd j c)) cs) w) := by
  obtain ⟨cap, htop⟩ := hV.top
  obtain ⟨hcf, hst⟩ := hS
  have HTOP := Lib.hid (fun (x : World) (hx : w.grownBy x (some R)) => gb_cell htop hx hV.ne)
  have HST := Lib.hid hst
  have HUP := Lib.hid hup
  have HV := Lib.hid hV
  obtain ⟨L, hL⟩ : ∃ L, cs.length = L := ⟨_, rfl⟩
  have htop' := htop
  rw [hL] at htop' HTOP HST HUP h8
  clear hV hst hup htop
  go_enter Try.func63, Try.ntmps63
  go_wp2_with fail
  go_loopw [13] (fun i wr => ∃ (j : Nat) (ds : List Ch), i = .int .i64 j ∧ j ≤ L ∧ MapTo (fun j c => turnC fr (upd j c)) cs ds j ∧ VolAt P R ds wr ∧ w.grownBy wr (some R)) (fun i _ => L - (intOf i).toNat)
  case atStart => exact ⟨0, cs, rfl, Nat.zero_le _, MapTo.start _ _, HV.out, gb_refl _ _⟩
  case round =>
    clear htop'
    obtain ⟨j, ds, rfl, hj, hm, hvol, hg⟩ := hrel
    have ht := HTOP.out _ hg
    have HM := Lib.hid hm
    have HG := Lib.hid hg
    have HVO := Lib.hid hvol
    by_cases hlt : j < L
    · have w4 : (j : Int) < (L : Int) := by omega
      have hdj : chAt ds j = chAt cs j := by rw [hm.2 j (by omega), if_neg (Nat.lt_irrefl _)]
      have hset := HST.out j hlt ds wr hvol hg (hm.1.trans hL) hdj
      have hjd : j < ds.length := by rw [hm.1, hL]; exact hlt
      have H111 := Lib.hid (fun (x : World) (hx : VolAt P R (ds.set j (upd j (chAt cs j))) x) => by
        have h := turn_any P R (ds.set j (upd j (chAt cs j))) j fr x hx (by rw [List.length_set]; exact hjd) (by rw [chAt_set _ hjd, if_pos rfl]; exact HUP.out j hlt)
        rw [chAt_set _ hjd, if_pos rfl, List.set_set] at h
        exact h)
      have HNX := Lib.hid (hm.step (by omega : j < cs.length))
      clear hdj hm hvol hg hL
      go_wp2_with fail
      refine hset.mono ?_
      rintro e w1 ⟨rfl, hv1, hg1⟩
      have h111 := H111.out w1 hv1
      have HG1 := Lib.hid (gb_trans HG.out hg1)
      clear hset hv1 hg1
      go_wp2_with (go_at_call 111; (with_reducible refine h111.mono ?_); rintro e w2 ⟨rfl, hv2, hg2⟩; have HR := Lib.hid (And.intro hv2 (gb_trans HG1.out hg2)); clear hv2 hg2)
      go_roundw
      case rel => exact ⟨j + 1, _, by go_num, by omega, HNX.out, HR.out.1, HR.out.2⟩
      case measure => simp [intOf]; omega
    · have w4 : ¬ (j : Int) < (L : Int) := by omega
      obtain rfl : j = L := by omega
      have hds : ds = mapC (fun j c => turnC fr (upd j c)) cs := MapTo.done (by rw [hL]; exact hm)
      subst hds
      clear hm hvol hg hL
      go_wp2_with fail
      go_end0
      exact ⟨rfl, HVO.out, HG.out⟩

def setU (gs : List Int) (j : Nat) (c : Ch) : Ch := { c with g := gs.getD j 0 }
def muteU (ms : List Bool) (j : Nat) (c : Ch) : Ch := { c with m := ms.getD j false }
set_option maxRecDepth 100000 in
theorem set64_any (P R Bg : Nat) (cs : List Ch) (gs : List Int) (u : Value) (w : World) (hu : ∀ x, w.grownBy x (some R) → RowIn x gs u ∧ x.cell? ⟨Bg, 0, none⟩ = some u) (hl : gs.length = cs.length) : Sets 64 Bg P R cs (setU gs) w := by
  refine ⟨enters_of Try.func64 (by kernel_rfl) rfl, fun j hj ds x hv hg hdl hdj => ?_⟩
  obtain ⟨hr, hc⟩ := hu x hg
  have hz := hv.frozen (j * 6 + 4)
  have hput := hv.put (i := j) (by omega) (j := 4) (by omega) (setU gs j (chAt cs j)) (.int .i64 (gs.getD j 0)) rfl (fun k hk hne => by
    rw [hdj]
    match k with | 0 => rfl | 1 => rfl | 2 => rfl | 3 => rfl | 4 => exact absurd rfl hne | 5 => rfl | k + 6 => omega)
  obtain ⟨a, ca, rfl, hin, _, _⟩ := hr
  obtain ⟨bb, ob, rfl, hcj, _⟩ := hin j (by omega)
  have w4 : (j : Int) < (gs.length : Int) := by omega
  generalize gs.getD j 0 = gv at *
  have h4 := hv.cell (i := j) (by omega) (j := 4) (by omega)
  have HP := Lib.hid hput
  clear hput hin hu hv hdj hg
  go_enter Try.func64, Try.ntmps64
  go_wp2_with fail
  go_end0
  exact ⟨rfl, HP.out, gb_set _ _ _ _⟩
end Go.Proofs.Ythfagnbecocgdaa
