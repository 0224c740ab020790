/- See and Look, within: the view is set, and what there is is told. A place; a frame put and got. -/
import Derived.Test.YtgcohmlapgnbdaaRB
namespace Go.Proofs.Ytgcohmlapgnbdaa
open Go.RowKit Go.Shelf Go.Deep

set_option maxRecDepth 100000
def Rg.room (g : Rg) : Int := g.sz - aheadI g.wc g.wv
def Rg.filled (g : Rg) : Int := aheadI g.rv g.rc
def Rg.seen (g : Rg) : Rg := { g with wv := g.rc }
def Rg.looked (g : Rg) : Rg := { g with rv := g.wc }
theorem RingAt.see {P R : Nat} {g : Rg} {w : World} (h : RingAt P R g w) : RingAt P R g.seen (w.setCell ⟨P, 4, none⟩ (.int .u16 g.rc)) :=
  h.put g.seen 4 _ rfl rfl rfl rfl (by decide) fun j hj hne => by
    match j with
    | 0 => rfl | 1 => rfl | 2 => rfl | 3 => rfl | 4 => exact absurd rfl hne | 5 => rfl | 6 => rfl | 7 => rfl | 8 => rfl | 9 => rfl | j + 10 => rfl
theorem RingAt.look {P R : Nat} {g : Rg} {w : World} (h : RingAt P R g w) : RingAt P R g.looked (w.setCell ⟨P, 8, none⟩ (.int .u16 g.wc)) :=
  h.put g.looked 8 _ rfl rfl rfl rfl (by decide) fun j hj hne => by
    match j with
    | 0 => rfl | 1 => rfl | 2 => rfl | 3 => rfl | 4 => rfl | 5 => rfl | 6 => rfl | 7 => rfl | 8 => exact absurd rfl hne | 9 => rfl | j + 10 => rfl
theorem room_any (P R : Nat) (g : Rg) (w : World) (h : RingAt P R g w) (hs : g.sz ≤ 1024) : Calls Try.prog 84 #[.pointer (some ⟨P, 0, none⟩)] w fun e w' => e = .returned (.int .i64 g.room) ∧ ∃ m, w' = w.drewN m := by
  have k0 : w.cell? ⟨P, 0, none⟩ = some (.int .i64 g.sz) := h.c (k := 0) (by decide) (by decide)
  have H : Hid (∀ x n, x = w.drewN n → Calls Try.prog 114 #[.pointer (some ⟨P, 3, none⟩), .int .i64 g.sz] x fun e w' => e = .returned (.int .i64 g.room) ∧ ∃ m, w' = x.drewN m) := Lib.hid fun x n hx => by
    have hr := h.below (w' := x) (by rw [hx]; exact below_drewN (Below.refl _ _) _)
    exact room114_any P 3 g.wc g.wv g.sz x (hr.c (k := 3) (by decide) (by decide)) (hr.c (k := 4) (by decide) (by decide)) (by omega)
  have h114 := H.out w.drew 1 rfl
  generalize g.room = A at *
  clear h
  go_enter Try.func84, Try.ntmps84
  go_wp2_with fail
  go_still_tail 7, (by kernel_rfl)
  go_wp2_with (go_at_call 114; (with_reducible refine h114.mono ?_); rintro e w1 ⟨rfl, m, rfl⟩)
  go_ret
  refine ⟨rfl, 1 + m, ?_⟩
  rfl
end Go.Proofs.Ytgcohmlapgnbdaa
