/- See and Look, within; a place; a frame got. -/
import Derived.Test.YtgcohmlapgnbdaaRB
namespace Go.Proofs.Ytgcohmlapgnbdaa
open Go.RowKit Go.Shelf Go.Deep

set_option maxRecDepth 100000
def DoesInt (P R : Nat) (g : Rg) (n : Int) (w : World) (e : Ending) (w' : World) : Prop := e = .returned (.int .i64 n) ∧ RingAt P R g w' ∧ Gw P R w w'
theorem see_any (P R : Nat) (g : Rg) (w : World) (h : RingAt P R g w) (hs : g.sz ≤ 1024) : Calls Try.prog 44 #[.pointer (some ⟨P, 0, none⟩)] w (DoesInt P R g.seen g.seen.room w) := by
  have k7 : w.cell? ⟨P, 7, none⟩ = some (.int .u16 g.rc) := h.c (k := 7) (by decide) (by decide)
  have k4 : w.cell? ⟨P, 4, none⟩ = some (.int .u16 g.wv) := h.c (k := 4) (by decide) (by decide)
  have z4 := h.frozen 4
  have HS := Lib.hid h.see
  have h84 := room_any P R g.seen _ h.see hs
  have HG := Lib.hid ((Gw.refl P R w).setP 4 (.int .u16 g.rc))
  generalize g.seen.room = A at *
  clear h
  go_enter Try.func44, Try.ntmps44
  go_wp2_with (go_at_call 84; (with_reducible refine h84.mono ?_); rintro e w1 ⟨rfl, m, rfl⟩)
  go_ret
  exact ⟨rfl, HS.out.below (below_drewN (Below.refl _ _) _), HG.out.drewN m⟩
theorem look_any (P R : Nat) (g : Rg) (w : World) (h : RingAt P R g w) : Calls Try.prog 87 #[.pointer (some ⟨P, 0, none⟩)] w (DoesInt P R g.looked g.looked.filled w) := by
  have k3 : w.cell? ⟨P, 3, none⟩ = some (.int .u16 g.wc) := h.c (k := 3) (by decide) (by decide)
  have k8 : w.cell? ⟨P, 8, none⟩ = some (.int .u16 g.rv) := h.c (k := 8) (by decide) (by decide)
  have z8 := h.frozen 8
  have HS := Lib.hid h.look
  have h89 := filled89_any P 7 g.rc g.wc (w.setCell ⟨P, 8, none⟩ (.int .u16 g.wc)) (h.look.c (k := 7) (by decide) (by decide)) (h.look.c (k := 8) (by decide) (by decide))
  have HG := Lib.hid ((Gw.refl P R w).setP 8 (.int .u16 g.wc))
  rw [show aheadI g.wc g.rc = g.looked.filled from rfl] at h89
  generalize g.looked.filled = A at *
  clear h
  go_enter Try.func87, Try.ntmps87
  go_wp2_with (go_at_call 89; (with_reducible refine h89.mono ?_); rintro e w1 ⟨rfl, m, rfl⟩)
  go_ret
  exact ⟨rfl, HS.out.below (below_drewN (Below.refl _ _) _), HG.out.drewN m⟩

/-- Where the frame with a counter begins. -/
def plc (g : Rg) (c : Int) : Nat := c.toNat % g.sz * g.ch
theorem plc_lt {g : Rg} (h : 1 ≤ g.sz) (c : Int) : plc g c + g.ch ≤ g.sz * g.ch := by
  unfold plc
  have : c.toNat % g.sz + 1 ≤ g.sz := Nat.mod_lt _ h
  calc c.toNat % g.sz * g.ch + g.ch = (c.toNat % g.sz + 1) * g.ch := by rw [Nat.add_mul, Nat.one_mul]
    _ ≤ g.sz * g.ch := Nat.mul_le_mul_right _ this
theorem slice_at {R L cap q t : Nat} (h1 : q ≤ t) (h2 : t ≤ L) (h3 : L ≤ cap) (h4 : q < cap) (w : World) : (Instr.sliceAt 39 (.slice (some ⟨R, 0, none⟩) L cap) (some (.int .i64 q)) (some (.int .i64 t)) none).run Try.prog w = .ok (.slice (some ⟨R, q, none⟩) (t - q) (cap - q)) w := by
  rw [run_sliceAt_slice _ _ _ _ _ _ (by kernel_rfl), run_slice_lh _ _ _ _ _ (by kernel_rfl) _ _ _ _ (by omega) (by omega) (by omega)]
  have hs : (sizeOf (Try.prog.elem 39)).run Try.prog w = .ok 1 w := by kernel_rfl
  rw [hs]
  have hne : ¬ cap = q := by omega
  simp [Result.andThen, sliced, hne, add_at]
def PlaceAns (R ch q : Nat) (w : World) (e : Ending) (w' : World) : Prop := ∃ cap, ch ≤ cap ∧ e = .returned (.slice (some ⟨R, q, none⟩) ch cap) ∧ Below w.heap.size w w'
theorem place_any (P R : Nat) (g : Rg) (c : Int) (w : World) (h : RingAt P R g w) (hk : g.Ok) (h0 : 0 ≤ c) (h1 : c ≤ 65535) : Calls Try.prog 94 #[.pointer (some ⟨P, 0, none⟩), .int .u16 c] w (PlaceAns R g.ch (plc g c) w) := by
  have hz1 := hk.s1
  have hz2 := hk.s2
  have hc1 := hk.c1
  have hc2 := hk.c2
  obtain ⟨cap, hcap, hc⟩ := h.cells
  have k0 : w.cell? ⟨P, 0, none⟩ = some (.int .i64 g.sz) := hc 0 (by decide)
  have k1 : w.cell? ⟨P, 1, none⟩ = some (.int .i64 g.ch) := hc 1 (by decide)
  have k2 : w.cell? ⟨P, 2, none⟩ = some (.slice (some ⟨R, 0, none⟩) (g.sz * g.ch) cap) := hc 2 (by decide)
  have hle := plc_lt hz1 c
  have hsz := h.size_le hk
  have hmul : wrap64 (c % (g.sz : Int) * (g.ch : Int)) = ((plc g c : Nat) : Int) := by
    have e1 : c % (g.sz : Int) = ((c.toNat % g.sz : Nat) : Int) := by rw [Int.natCast_emod, Int.toNat_of_nonneg h0]
    rw [e1, ← Int.natCast_mul]
    unfold wrap64
    unfold plc at hle ⊢
    omega
  obtain ⟨q, hq⟩ : ∃ q, plc g c = q := ⟨_, rfl⟩
  rw [hq] at hle hmul ⊢
  obtain ⟨T, hT⟩ : ∃ T, g.sz * g.ch = T := ⟨_, rfl⟩
  rw [hT] at hle hsz hcap k2
  have hsl := fun w => slice_at (R := R) (L := T) (cap := cap) (q := q) (t := q + g.ch) (by omega) hle hcap (by omega) w
  simp only [show q + g.ch - q = g.ch by omega, show ((q + g.ch : Nat) : Int) = (q : Int) + (g.ch : Int) by omega] at hsl
  have hzz : ¬ (g.sz : Int) = 0 := by omega
  generalize g.sz = sz at *
  generalize g.ch = ch at *
  have HM := Lib.hid hmul
  clear h hk hc hq hT hmul
  go_enter Try.func94, Try.ntmps94
  go_wp2_with fail
  go_quiet (fail)
  rw [HM.out]
  go_wp2_with fail
  go_quiet (fail)
  go_wp2_with fail
  go_ret
  exact ⟨cap - q, by omega, rfl, below_drewN (below_drewN (Below.refl _ _) _) _⟩

/-- The frame's place. -/
def plp (g : Rg) (c : Int) : Nat := c.toNat % g.sz
theorem plp_lt {g : Rg} (h : 1 ≤ g.sz) (c : Int) : plp g c < g.sz := Nat.mod_lt _ h
def Rg.frame (g : Rg) (c : Int) : List Int := g.m.getD (plp g c) []
theorem smp_at {g : Rg} {p i : Nat} (hi : i < g.ch) : g.smp (p * g.ch + i) = (g.m.getD p []).getD i 0 := by
  unfold Rg.smp
  rw [Nat.mul_comm, Nat.mul_add_div (by omega), Nat.div_eq_of_lt hi, Nat.mul_add_mod, Nat.mod_eq_of_lt hi, Nat.add_zero]
theorem frame_row {P R : Nat} {g : Rg} {w : World} (h : RingAt P R g w) (hk : g.Ok) {c : Int} {cap : Nat} (hc : g.ch ≤ cap) : RowIn w (g.frame c) (.slice (some ⟨R, plc g c, none⟩) g.ch cap) := by
  have hp := plp_lt hk.s1 c
  have hl : (g.frame c).length = g.ch := h.rl _ hp
  have := hk.c2
  have hq := plc_lt hk.s1 c
  refine ⟨some ⟨R, plc g c, none⟩, cap, by rw [hl], fun i hi => ⟨R, plc g c, rfl, ?_, hk.vals _ _⟩, by omega, by omega⟩
  rw [h.sample (by omega), show plc g c = plp g c * g.ch from rfl, smp_at (by omega)]
  rfl
/-- A frame of new memory. -/
def RowNew (B : Nat) (w : World) (r : List Int) (v : Value) : Prop := w.ownsRow B 3 1 v r.length (r.map (Value.int .i64)) ∧ okRow r
theorem RowNew.here {B : Nat} {w : World} {r : List Int} {v : Value} (h : RowNew B w r v) : RowIn w r v := owns_row h.1 h.2 fun _ _ _ => rfl
set_option maxHeartbeats 1000000 in
theorem clone_new (l : List Int) (v : Value) (w : World) (hv : RowIn w l v) (h1 : 1 ≤ l.length) (h2 : l.length ≤ 4096) :
    Calls Try.prog 97 #[v] w fun e w' => ∃ u, e = .returned u ∧ RowNew w.heap.size w' l u ∧ Below w.heap.size w w' := by
  have hok : okRow l := ⟨by obtain ⟨_, _, _, _, h, _⟩ := hv; exact h, fun i hi => by obtain ⟨_, _, _, h, _⟩ := hv; obtain ⟨_, _, _, _, h3⟩ := h i hi; exact h3⟩
  obtain ⟨a, ca, rfl, hin, hal, hcap⟩ := hv
  obtain ⟨b, off, rfl, _, _⟩ := hin 0 (by omega)
  have hnews : ∀ j u, (l.map (Value.int .i64))[j]? = some u → (w.alloc (.cells #[] 3)).cell? ((⟨b, off, none⟩ : Addr).add j) = some u := by
    intro j u hu
    simp only [List.getElem?_map, Option.map_eq_some_iff] at hu
    obtain ⟨x, hx, rfl⟩ := hu
    have hj : j < l.length := (List.getElem?_eq_some_iff.1 hx).1
    obtain ⟨b', off', e, hc, _⟩ := hin j hj
    simp only [Option.some.injEq, Addr.mk.injEq, and_true] at e
    obtain ⟨rfl, rfl⟩ := e
    have hx2 : l.getD j 0 = x := by simp [List.getD, hx]
    rw [hx2] at hc
    have hc2 := (Same.alloc w (.cells #[] 3)).cell hc
    by_cases j0 : j = 0
    · subst j0; simpa [Addr.add] using hc2
    · simpa [Addr.add, j0] using hc2
  obtain ⟨i0, hi, hz0, hz1, hz2⟩ := info_parts Try.info3
  have hown : (w.alloc (.cells #[] 3)).ownsRow w.heap.size 3 1 (.slice (some ⟨w.heap.size, 0, none⟩) 0 0) 0 [] := World.ownsRow_made w #[] 0 (Nat.le_refl _) (by simp) (by simp)
  have HN := Lib.hid hnews
  have HO := Lib.hid hown
  have HOK := Lib.hid hok
  have hnil : ∀ w : World, (binOp BinOp.eql 39 (.slice (some ⟨b, off, none⟩) l.length ca) (.slice none 0 0)).run Try.prog w = .ok (.bool false) w := fun _ => by kernel_rfl
  clear hnews hin hown hok
  go_enter Try.func97, Try.ntmps97
  go_wp2_with (at_builtin; refine wpList_append_moves rfl _ _ 39 rfl w.heap.size 3 i0 _ 1 8 Try.underlying39 hi hz0 hz1 hz2 rfl (by decide) _ _ _ rfl HO.out ⟨b, off, none⟩ l.length ca (l.map (Value.int .i64)) rfl (by simp) HN.out ?c2 ?c3 ?c4 ?c5 ?_)
  case c2 => intro u hu; simp only [List.mem_map] at hu; obtain ⟨x, _, rfl⟩ := hu; rfl
  case c3 => unfold maxLen; omega
  case c4 => omega
  case c5 => simp
  intro v' w1 hown1 hg1 hm1
  have HO1 : Hid (w1.ownsRow w.heap.size 3 1 v' l.length (l.map (Value.int .i64))) := Lib.hid (by simpa using hown1)
  have HB : Hid (Below w.heap.size w w1) := Lib.hid (((Below.refl _ w).alloc (Nat.le_refl _) _).grown hg1 (by simp) fun k hk => by cases hk; exact Nat.le_refl _)
  clear hown1 hg1 hm1
  go_wp2_with fail
  go_ret
  exact ⟨_, rfl, ⟨HO1.out, HOK.out⟩, HB.out⟩
def GetAns (l : List Int) (w : World) (e : Ending) (w' : World) : Prop := ∃ u, e = .returned u ∧ RowNew w.heap.size w' l u ∧ Below w.heap.size w w'
theorem get_no (P R : Nat) (g : Rg) (i : Int) (w : World) (h : RingAt P R g w) (hk : atK i g.rh g.rn ≠ 0) : Calls Try.prog 56 #[.pointer (some ⟨P, 0, none⟩), .int .i64 i] w fun e w' => e = .panicked (misfit (atK i g.rh g.rn)) ∧ Below w.heap.size w w' := by
  have h95 := at_no P 7 i g.rn g.rh w hk (h.c (k := 9) (by decide) (by decide)) (h.c (k := 10) (by decide) (by decide))
  clear h
  go_enter Try.func56, Try.ntmps56
  go_wp2_with (go_at_call 95; (with_reducible refine h95.mono ?_); rintro e w1 ⟨rfl, rfl⟩)
  exact ⟨rfl, rfl, Below.refl _ _⟩
theorem get_yes (P R : Nat) (g : Rg) (i : Int) (w : World) (h : RingAt P R g w) (hok : g.Ok) (hk : atK i g.rh g.rn = 0) : Calls Try.prog 56 #[.pointer (some ⟨P, 0, none⟩), .int .i64 i] w (GetAns (g.frame ((g.rc + i) % 65536)) w) := by
  have h95 := at_yes P 7 i g.rn g.rc g.rh w hk (h.c (k := 7) (by decide) (by decide)) (h.c (k := 9) (by decide) (by decide)) (h.c (k := 10) (by decide) (by decide))
  have h94 := place_any P R g ((g.rc + i) % 65536) w h hok (by omega) (by omega)
  have hlen : (g.frame ((g.rc + i) % 65536)).length = g.ch := h.rl _ (plp_lt hok.s1 _)
  have HC : Hid (∀ x cap, g.ch ≤ cap → Below w.heap.size w x → Calls Try.prog 97 #[.slice (some ⟨R, plc g ((g.rc + i) % 65536), none⟩) g.ch cap] x (GetAns (g.frame ((g.rc + i) % 65536)) x)) := Lib.hid fun x cap hc hb => clone_new _ _ x (frame_row (h.below hb) hok hc) (by rw [hlen]; exact hok.c1) (by rw [hlen]; have := hok.c2; omega)
  generalize g.frame ((g.rc + i) % 65536) = F at *
  obtain ⟨q, hq⟩ : ∃ q, plc g ((g.rc + i) % 65536) = q := ⟨_, rfl⟩
  rw [hq] at h94 HC
  generalize (g.rc + i) % 65536 = c at *
  generalize g.ch = ch at *
  clear h hok hk hlen hq
  go_enter Try.func56, Try.ntmps56
  go_wp2_with (first
    | (go_at_call 95; (with_reducible refine h95.mono ?_); rintro e w1 ⟨rfl, rfl⟩)
    | (go_at_call 94; (with_reducible refine h94.mono ?_); rintro e w1 ⟨cap, hcap, rfl, hb⟩; have h97 := HC.out w1 cap hcap hb; have HB := Lib.hid hb; clear hb)
    | (go_at_call 97; (with_reducible refine h97.mono ?_); rintro e w2 ⟨u, rfl, hu, hb2⟩; have HU := Lib.hid hu; have HB2 := Lib.hid hb2; clear hu hb2))
  go_ret
  exact ⟨_, rfl, ⟨owns_base HU.out.1 HB.out.size, HU.out.2⟩, Below.then HB.out (Nat.le_refl _) HB2.out⟩
end Go.Proofs.Ytgcohmlapgnbdaa
