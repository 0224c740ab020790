/- Read. -/
import Derived.Test.YtgcohmlapgnbdaaRR
namespace Go.Proofs.Ytgcohmlapgnbdaa
open Go.RowKit Go.Shelf Go.Deep
attribute [local go_sem] Oper.semAt_some

theorem Try.underlying29 : Try.prog.underlying 29 = some (.slice 39) := by kernel_rfl
theorem slice_owns {w : World} {B n : Nat} {e : TypeId} {u : Value} {xs : List Value} (h : w.ownsRow B e 1 u n xs) : ∃ p c, u = .slice p n c := by
  rcases h.2 with ⟨rfl, rfl⟩ | ⟨g, cap, cur, rfl, _⟩
  · exact ⟨none, 0, rfl⟩
  · exact ⟨_, _, rfl⟩
def frL (g : Rg) (k : Nat) : List (List Int) := (List.range k).map (frJ g)
theorem frL_succ (g : Rg) (k : Nat) : frL g (k + 1) = frL g k ++ [frJ g k] := by simp [frL, List.range_succ]
theorem frL_len (g : Rg) (k : Nat) : (frL g k).length = k := by simp [frL]
def readN (g : Rg) (n : Int) : Nat := (min n g.fill).toNat
theorem fill_bd (g : Rg) : 0 ≤ g.fill ∧ g.fill < 65536 := ahead_bd _ _
theorem box_far {W W' : World} {row : Option Nat} {B : Nat} {t : TypeId} {v : Value} (h : Boxed W B t v) (hg : W.grownBy W' row) (hr : ∀ r, row = some r → ∃ o : Obj, W.heap[r]? = some o ∧ o.isCells = false) : Boxed W' B t v := h.kept hg fun e => by
  obtain ⟨o, ho, hc⟩ := hr B e.symm
  have := h.symm.trans ho
  cases this; cases hc
theorem Rk.low {B : Nat} {W W' : World} {k : Nat} {rows : List (List Int)} {vals : List Value} {v : Value} {p : Nat} (h : Rk B W k rows vals v) (hg : W.grownBy W' (some p)) (hp : p < B) : Rk B W' k rows vals v :=
  ⟨h.len, owns_grown h.own hg (fun g hv e => by have := (h.own.lt g hv).1; cases e; omega), fun j hj => ⟨owns_grown (h.row j hj).1 hg (fun g hv e => by have := ((h.row j hj).1.lt g hv).1; cases e; omega), (h.row j hj).2⟩, h.ok⟩
/-- What the round knows and keeps. -/
def RdI (P : Nat) (g : Rg) (w1 : World) (Bo : Nat) (pre : List Value) (W : World) : Prop := ∃ v, (Boxed W Bo 29 v ∧ Rk w1.heap.size W pre.length (frL g pre.length) pre v) ∧ Below w1.heap.size w1 W ∧ Boxed W (Bo + 1) 25 (at0 P)
def RdA (P : Nat) (g : Rg) (w1 : World) (Bo : Nat) (pre : List Value) (x : Value) (W : World) : Prop := ∃ v, (Boxed W Bo 29 v ∧ Rk w1.heap.size W pre.length (frL g (pre.length + 1)) (pre ++ [x]) v) ∧ Below w1.heap.size w1 W ∧ Boxed W (Bo + 1) 25 (at0 P)
theorem RdI.far {P : Nat} {g : Rg} {w1 : World} {Bo : Nat} {pre : List Value} {W W' : World} {row : Option Nat} (h : RdI P g w1 Bo pre W) (hg : W.grownBy W' row) (hr : ∀ r, row = some r → w1.heap.size ≤ r ∧ ∃ o : Obj, W.heap[r]? = some o ∧ o.isCells = false) : RdI P g w1 Bo pre W' := by
  obtain ⟨v, ⟨h1, h2⟩, h3, h4⟩ := h
  exact ⟨v, ⟨box_far h1 hg fun r e => (hr r e).2, h2.far hg fun r e => (hr r e).2⟩, h3.grown hg h3.size (fun k e => (hr k e).1), box_far h4 hg fun r e => (hr r e).2⟩
theorem RdA.far {P : Nat} {g : Rg} {w1 : World} {Bo : Nat} {pre : List Value} {x : Value} {W W' : World} {row : Option Nat} (h : RdA P g w1 Bo pre x W) (hg : W.grownBy W' row) (hr : ∀ r, row = some r → w1.heap.size ≤ r ∧ ∃ o : Obj, W.heap[r]? = some o ∧ o.isCells = false) : RdA P g w1 Bo pre x W' := by
  obtain ⟨v, ⟨h1, h2⟩, h3, h4⟩ := h
  exact ⟨v, ⟨box_far h1 hg fun r e => (hr r e).2, h2.far hg fun r e => (hr r e).2⟩, h3.grown hg h3.size (fun k e => (hr k e).1), box_far h4 hg fun r e => (hr r e).2⟩
theorem RdI.add {P : Nat} {g : Rg} {w1 : World} {Bo : Nat} {pre : List Value} {x : Value} {W0 W : World} (h : RdI P g w1 Bo pre W0) (hb : Below W0.heap.size W0 W) (hy : takenY g pre x W0 W) : RdA P g w1 Bo pre x W := by
  obtain ⟨v, ⟨h1, h2⟩, h3, h5⟩ := h
  have hg : W0.grownBy W none := ⟨hb.os, hb.tape, hb.output, hb.size, fun k hk _ => hb.block k hk⟩
  have h2' : Rk w1.heap.size W0 (frL g pre.length).length (frL g pre.length) pre v := by rw [frL_len]; exact h2
  have h4 := h2'.add hb h3.size hy
  rw [frL_len, ← frL_succ] at h4
  exact ⟨v, ⟨h1.kept hg (fun e => by cases e), h4⟩, h3.trans (hb.mono h3.size), h5.kept hg (fun e => by cases e)⟩
set_option maxRecDepth 100000 in
theorem taken48_any (P : Nat) (w : World) : Calls Try.prog 48 #[.pointer (some ⟨P, 0, none⟩)] w fun e w' => e = .returned (.func (.func 93) #[] #[at0 w.heap.size]) ∧ w' = w.alloc (.cells #[.pointer (some ⟨P, 0, none⟩)] 25) := by
  have hmf := makes
  go_enter Try.func48, Try.ntmps48
  go_wp2_with fail
  go_ret
  exact ⟨rfl, rfl⟩
def ReadClos (P R : Nat) (g : Rg) (L : List (List Int)) (w : World) (e : Ending) (w' : World) : Prop := ∃ u, e = .returned u ∧ MatNew w.heap.size w' L u ∧ RingAt P R g w' ∧ Gw P R w w'
set_option maxHeartbeats 8000000 in
set_option maxRecDepth 100000 in
theorem read46_yes (P R Bv Bn : Nat) (g : Rg) (n : Int) (w : World) (h : RingAt P R g w) (hok : g.Ok) (hk : skipK g n = 0) (n0 : Bv ≠ P) (n1 : Bv ≠ R) (k0 : w.cell? ⟨Bv, 0, none⟩ = some (.pointer (some ⟨P, 0, none⟩))) (k1 : w.cell? ⟨Bn, 0, none⟩ = some (.int .i64 n)) :
    Calls Try.prog 46 #[at0 Bv, at0 Bn] w (ReadClos P R (skipR g n) (frL g (readN g n)) w) := by
  have ht := takeNow_any P R g n w h
  rw [show tnR g n = g.tn n by unfold tnR; rw [if_pos hk], show skipU g n = min n g.fill by unfold skipU; rw [if_pos hk], hk] at ht
  rw [show skipR g n = (g.tn n).doned (min n g.fill) by unfold skipR; rw [if_pos hk]]
  have hn0 : 0 ≤ n := by
    unfold skipK at hk
    split at hk
    · cases hk
    · omega
  have hf := fill_bd g
  have hmin : min n g.fill = (readN g n : Int) := by unfold readN; omega
  have hkb : readN g n ≤ 100000 := by unfold readN; omega
  have hoktn : (g.tn n).Ok := ⟨hok.s1, hok.s2, hok.c1, hok.c2, hok.wc, hok.rc, hok.vals⟩
  have hrn : (g.tn n).rn = (readN g n : Int) := hmin
  have hrh : (g.tn n).rh = true := rfl
  have hrc : (g.tn n).rc = g.rc := rfl
  have hfr : ∀ j, frJ (g.tn n) j = frJ g j := fun _ => rfl
  have hfrL : frL (g.tn n) (readN g n) = frL g (readN g n) := rfl
  rw [hmin] at ht ⊢
  rw [← hfrL]
  obtain ⟨k, hkk⟩ : ∃ k, readN g n = k := ⟨_, rfl⟩
  rw [hkk] at ht hkb hrn ⊢
  obtain ⟨g2, hg2⟩ : ∃ g2, g.tn n = g2 := ⟨_, rfl⟩
  rw [hg2] at ht hoktn hrn hrh hrc ⊢
  have HT : Hid (∀ x, RingAt P R g2 x → Calls Try.prog 49 #[.pointer (some ⟨P, 7, none⟩), .int .i64 k] x fun e w' => e = .returned (.tuple #[]) ∧ RingAt P R (g2.doned k) w' ∧ w' = (((x.setCell ⟨P, 7, none⟩ (.int .u16 ((g2.rc + k) % 65536))).setCell ⟨P, 7 + 2, none⟩ (.bool false)).setCell ⟨P, 7 + 3, none⟩ (.int .i64 0))) := Lib.hid fun x hx =>
    (end_yes P 7 k k g2.rc true x (by unfold endK; rw [if_neg (by omega)]; simp) (hx.c (k := 7) (by decide) (by decide)) (by rw [hx.c (k := 9) (by decide) (by decide), show g2.val 0 0 9 = .bool g2.rh from rfl, hrh]) (by rw [hx.c (k := 10) (by decide) (by decide), show g2.val 0 0 10 = .int .i64 g2.rn from rfl, hrn]) hx.frozen).mono (by
      rintro e w' ⟨rfl, rfl⟩
      exact ⟨rfl, hx.doned k, rfl⟩)
  have HC : Hid (∀ x, Gw P R w x → x.cell? ⟨Bv, 0, none⟩ = some (.pointer (some ⟨P, 0, none⟩))) := Lib.hid fun x hx => hx.cell k0 n0 n1
  have HOK := Lib.hid hoktn
  have HRH := Lib.hid (And.intro hrh hrn)
  obtain ⟨i1, hi1, hy0, hy1, hy2⟩ := info_parts Try.info39
  clear h hok hk hf hmin hoktn hrn hrh hrc hfr hfrL hkk hg2
  refine (callsIn_wide (n := 9)).1 ?_
  refine callsIn_of_wp_marks Try.func46 rfl trivial ?_ rfl
  simp only [Try.ntmps46, List.size_toArray, List.length_cons, List.length_nil, Nat.reduceAdd, Nat.reduceSub, Array.replicate_succ, Array.replicate_zero, List.push_toArray, List.append_toArray, List.nil_append, List.cons_append]
  gi_wp2
  refine ⟨trivial, (callsIn_wide.2 ht).mono ?_⟩
  rintro e w1 ⟨rfl, hr1, hg1⟩
  have HR1 := Lib.hid hr1
  have HG1 := Lib.hid hg1
  have m0 := HC.out w1 hg1
  have m1 := (Same.alloc w1 (.cells #[.slice none 0 0] 29)).cell m0
  rw [endOf_yes]
  clear hr1 hg1 ht k0 k1
  gi_wp2
  refine ⟨trivial, (callsIn_wide.2 (taken48_any P _)).mono ?_⟩
  rintro e w2 ⟨rfl, rfl⟩
  gi_wp2
  obtain ⟨N0, hN0⟩ : ∃ N0, w1.heap.size = N0 := ⟨_, rfl⟩
  have hbox : Boxed ((w1.alloc (.cells #[.slice none 0 0] 29)).alloc (.cells #[.pointer (some ⟨P, 0, none⟩)] 25)) N0 29 (.slice none 0 0) := by
    rw [← hN0]; exact (Boxed.new w1 29 (.slice none 0 0)).alloc _
  have hbx2 : Boxed ((w1.alloc (.cells #[.slice none 0 0] 29)).alloc (.cells #[.pointer (some ⟨P, 0, none⟩)] 25)) (N0 + 1) 25 (at0 P) := by
    have := Boxed.new (w1.alloc (.cells #[.slice none 0 0] 29)) 25 (at0 P)
    rwa [show (w1.alloc (.cells #[.slice none 0 0] 29)).heap.size = N0 + 1 by simp [hN0]] at this
  have hbt : ((w1.alloc (.cells #[.slice none 0 0] 29)).alloc (.cells #[.pointer (some ⟨P, 0, none⟩)] 25)).cell? ⟨N0 + 1, 0, none⟩ = some (.pointer (some ⟨P, 0, none⟩)) := by
    rw [← hN0]; simp [go_sem]
  have hbb : Below w1.heap.size w1 ((w1.alloc (.cells #[.slice none 0 0] 29)).alloc (.cells #[.pointer (some ⟨P, 0, none⟩)] 25)) := (((Below.refl _ w1).alloc (Nat.le_refl _) _).alloc (by simp) _)
  have hs0 : ((w1.alloc (.cells #[.slice none 0 0] 29)).alloc (.cells #[.pointer (some ⟨P, 0, none⟩)] 25)).heap.size = N0 + 2 := by simp [hN0]
  have hs1 : (w1.alloc (.cells #[.slice none 0 0] 29)).heap.size = N0 + 1 := by simp [hN0]
  rw [hN0]
  obtain ⟨W0, hW0⟩ : ∃ W0, (w1.alloc (.cells #[.slice none 0 0] 29)).alloc (.cells #[.pointer (some ⟨P, 0, none⟩)] 25) = W0 := ⟨_, rfl⟩
  rw [hW0] at hbox hbt hbb hs0 hbx2 ⊢
  have hRW := HR1.out.below hbb
  obtain ⟨hP1, hR1⟩ := HR1.out.lt
  have HLT := Lib.hid (And.intro (show P < N0 by omega) (show R < N0 by omega))
  have HBB := Lib.hid hbb
  have HN0 := Lib.hid hN0
  clear hW0 m0 m1 hP1 hR1 hs1
  refine range_y rfl (by omega) (gf := 93) (lb := #[at0 (N0 + 1)]) rfl trivial (enters_of Try.func93 (by kernel_rfl) rfl)
    (taken_seq (9 - 1) (by omega) P R (N0 + 1) k N0 g2 W0 hRW HOK.out HRH.out.1 HRH.out.2 hkb HLT.out.1 HLT.out.2 (by omega) hbt) KpI.trans
    (fun W l o o' hl ho hc => KpI.put (by omega) (by omega) W o' (Array.getElem?_eq_some_iff.1 ho).1) (Below.refl _ _) rfl
    (RdI P g2 w1 N0)
    (fun pre X Y row hs hg hr => hs.far hg fun r e => ⟨by have := (hr r e).1; omega, (hr r e).2⟩)
    ⟨_, ⟨hbox, Rk.start _ _⟩, hbb, hbx2⟩
    (fun pre x a' X => a' = { tmps := #[at0 Bv, at0 Bn, .slice none 0 0, .int .i64 k, .pointer (some ⟨N0, 0, none⟩), x, .pointer (some ⟨P, 0, none⟩), .int .i64 n, .int .i64 k, .pointer (some ⟨P, 0, none⟩), .func (.func 93) #[] #[at0 (N0 + 1)], x, undef, undef, undef, undef, undef, undef, undef, undef, undef, undef, undef], defers := [] } ∧ RdA P g2 w1 N0 pre x X)
    (fun pre x a' _ X Y row hs hg hr => ⟨hs.1, hs.2.far hg fun r e => ⟨by have := (hr r e).1; omega, (hr r e).2⟩⟩)
    ?assign ?body ?done
  case assign =>
    rintro l pre x X0 X K hI hb hY hK
    have hA := hI.add hb hY
    clear hbox hbt hbb hRW hbx2
    gi_wp2
    exact hK _ _ (KeepsFrom.refl _ _) (KpI.refl _ _ _) ⟨rfl, hA⟩
  case body =>
    rintro l pre x a' X ⟨rfl, v, ⟨hb, hk⟩, hB, hb2⟩ hlen
    have HB2 := Lib.hid hb2
    have hc := hb.cell
    have hx1 : x.oneCell' = true ∧ ∃ ax lx cx, x = .slice ax lx cx := by
      have h1 := (hk.row pre.length (by rw [frL_len]; omega)).1
      rw [getD_snoc_eq] at h1
      obtain ⟨ax, cx, rfl⟩ := slice_owns h1
      exact ⟨rfl, _, _, _, rfl⟩
    obtain ⟨hx1, ax, lx, cx, rfl⟩ := hx1
    have hown := hk.own
    rw [show (pre ++ [Value.slice ax lx cx]).take pre.length = pre by simp] at hown
    have HK := Lib.hid hk
    have HB := Lib.hid hb
    have HBL := Lib.hid hB
    have HO := Lib.hid hown
    have hNX := hB.size
    have hXl := hb.lt
    clear hk hB hbox hbt hbb hRW
    gi_wp2_with (gi_at_builtin; refine wpListIn_append_moves _ rfl _ _ 29 rfl N0 39 i1 (.slice none 0 0) 1 24 Try.underlying29 hi1 hy0 hy1 hy2 rfl (by decide) _ _ _ rfl (by rw [← HN0.out]; exact hown.alloc (.cells #[.slice ax lx cx] 39)) ⟨X.heap.size, 0, none⟩ 1 1 [.slice ax lx cx] rfl rfl (cell_one_new _ _ _) (by simp [Value.oneCell']) (by unfold maxLen; omega) (by omega) (by simp; omega) ?_)
    intro v' w3 hown' hgrow hmv
    obtain ⟨p', c', rfl⟩ := slice_owns hown'
    have hO2 : X.ownsRow N0 39 1 v pre.length pre := by rw [← HN0.out]; exact HO.out
    obtain ⟨hb1, hbn, ho2, hk2, hbl2⟩ := Boxed.appended (tmp := .cells #[.slice ax lx cx] 39) HB.out (by decide) hO2 (by rw [← HN0.out]; exact hNX) (Nat.le_refl _) hown' hgrow
    have hc1 := hb1.cell
    have hzf := hb1.frozen
    have hne : v.ownBlock ≠ some (N0 + 1) := fun e => HB2.out.not_row (by decide) hO2 e.symm
    have hrk := (HK.out.app (by rw [frL_len]) (by rw [HN0.out]; exact hown') hgrow hmv).box hb1 (by decide) (by decide) (.slice p' (pre.length + 1) c')
    have hblk : (w3.setCell ⟨N0, 0, none⟩ (.slice p' (pre.length + 1) c')).heap[N0 + 1]? = X.heap[N0 + 1]? := by
      rw [blk_setCell_other _ _ _ _ (by show N0 + 1 ≠ N0; omega), hgrow.block _ (by have := HB2.out.lt; simp; omega) (fun e => hne e.symm)]
      exact Below.heap_alloc _ _ _ HB2.out.lt
    have HF := Lib.hid (show KeepsFrom W0.heap.size X (w3.setCell ⟨N0, 0, none⟩ (.slice p' (pre.length + 1) c')) ∧ KpI N0 (N0 + 1) X (w3.setCell ⟨N0, 0, none⟩ (.slice p' (pre.length + 1) c')) ∧ RdI P g2 w1 N0 (pre ++ [.slice ax lx cx]) (w3.setCell ⟨N0, 0, none⟩ (.slice p' (pre.length + 1) c')) from
      ⟨hk2.from _, ⟨hbl2, fun o ho _ => hblk.trans ho⟩, _, ⟨hbn, by rw [List.length_append]; exact hrk⟩, by rw [HN0.out]; exact (HN0.out ▸ HBL.out).trans hbl2, hblk.trans HB2.out⟩)
    clear hown' hgrow hmv hb1 hbn ho2 hk2 hbl2 hblk hne hrk hO2
    obtain ⟨X5, hX5⟩ : ∃ X5, w3.setCell ⟨N0, 0, none⟩ (.slice p' (pre.length + 1) c') = X5 := ⟨_, rfl⟩
    rw [hX5] at HF
    rw [hs0] at HF
    clear HO HB HBL HK HB2
    gi_wp2
    exact HF.out
  case done =>
    rintro D xs Y hD hxs ⟨v, ⟨hb, hk⟩, hB, _⟩ hKD
    have hBN : Below N0 w1 Y := by rw [← HN0.out]; exact hB
    have hrY : RingAt P R g2 Y := HR1.out.of_blocks (hBN.block _ HLT.out.1) (hBN.block _ HLT.out.2)
    have m0 : Y.cell? ⟨Bv, 0, none⟩ = some (.pointer (some ⟨P, 0, none⟩)) := by
      have h1 := HC.out w1 HG1.out
      rw [hBN.cell (by have := cell_lt h1; rw [HN0.out] at this; exact this)]; exact h1
    have h49 := HT.out Y hrY
    have HGY := Lib.hid (HG1.out.trans (gw_below (by rw [HN0.out]; exact hBN)))
    have HRK : Hid (Rk N0 Y (frL g2 k).length (frL g2 k) xs v) := Lib.hid (by rw [frL_len, ← HN0.out]; rw [hxs] at hk; exact hk)
    have HBX := Lib.hid hb
    have HKD := Lib.hid hKD
    have HDL := Lib.hid hD
    clear hk hB hBN hbox hbt hbb hRW hb hrY hbx2 hKD
    gi_wp2
    refine ⟨trivial, (callsIn_wide.2 h49).mono ?_⟩
    rintro e w4 ⟨rfl, hr4, hw4⟩
    have hblk : ∀ b, b ≠ P → w4.heap[b]? = Y.heap[b]? := fun b hb => by rw [hw4, blk_setCell_other _ _ _ _ hb, blk_setCell_other _ _ _ _ hb, blk_setCell_other _ _ _ _ hb]
    have hg4 : Y.grownBy w4 (some P) := by rw [hw4]; exact ⟨rfl, rfl, rfl, by simp, fun b _ hb => by rw [blk_setCell_other _ _ _ _ (fun e => hb (by rw [e])), blk_setCell_other _ _ _ _ (fun e => hb (by rw [e])), blk_setCell_other _ _ _ _ (fun e => hb (by rw [e]))]⟩
    have hb4 : Boxed w4 N0 29 v := (hblk N0 (by have := HLT.out.1; omega)).trans HBX.out
    have hc4 := hb4.cell
    have hKD4 : w4.heap[D]? = some (.deferred (some [])) := (hblk D (by have := HLT.out.1; have := HDL.out; omega)).trans HKD.out
    have HF := Lib.hid (show (MatNew w.heap.size (w4.putObj D (.deferred none)) (frL g2 k) v ∧ RingAt P R (g2.doned k) (w4.putObj D (.deferred none)) ∧ Gw P R w (w4.putObj D (.deferred none))) from by
      have h1 := (HRK.out.low hg4 HLT.out.1).far (grownBy_putObj' w4 D (.deferred none)) (fun r e => by cases e; exact ⟨_, hKD4, rfl⟩)
      have hDP : D ≠ P ∧ D ≠ R := by have := HLT.out; have := HDL.out; exact ⟨by omega, by omega⟩
      refine ⟨(h1.mat (by rw [frL_len]; omega)).mono (by rw [← HN0.out]; exact HG1.out.size) (Nat.le_refl _) (fun _ _ _ => rfl), hr4.of_blocks (World.putObj_heap_other (Ne.symm hDP.1)) (World.putObj_heap_other (Ne.symm hDP.2)), ?_⟩
      have hgy : Gw P R w w4 := HGY.out.trans ⟨hg4.os, hg4.tape, hg4.output, hg4.size, fun b hb h1 _ => hg4.block b hb (fun e => h1 (by cases e; rfl))⟩
      have hgp := grownBy_putObj' w4 D (.deferred none)
      exact ⟨hgp.os.trans hgy.os, hgp.tape.trans hgy.tape, hgp.output.trans hgy.output, Nat.le_trans hgy.size hgp.size, fun b hb h1 h2 => (hgp.block b (Nat.lt_of_lt_of_le hb hgy.size) (fun e => by have := HG1.out.size; have := HN0.out; have := HDL.out; cases e; omega)).trans (hgy.block b hb h1 h2)⟩)
    clear hr4 hw4 hblk hg4 hb4 h49 m0
    gi_wp2
    refine ⟨by simp, .inl ⟨_, _, rfl, run_takeDeferred hKD4, ?_⟩⟩
    refine ⟨_, results_tmp rfl _ _ _, _, rfl, ?_, HF.out.2.1, HF.out.2.2⟩
    exact HF.out.1
set_option maxRecDepth 100000 in
theorem read46_no (P R Bv Bn : Nat) (g : Rg) (n : Int) (w : World) (h : RingAt P R g w) (hk : skipK g n ≠ 0) (k0 : w.cell? ⟨Bv, 0, none⟩ = some (.pointer (some ⟨P, 0, none⟩))) (k1 : w.cell? ⟨Bn, 0, none⟩ = some (.int .i64 n)) :
    Calls Try.prog 46 #[at0 Bv, at0 Bn] w fun e w' => e = .panicked (misfit (skipK g n)) ∧ RingAt P R g w' ∧ Gw P R w w' := by
  have ht := takeNow_any P R g n w h
  rw [show tnR g n = g by unfold tnR; rw [if_neg hk]] at ht
  have HK := Lib.hid hk
  generalize skipU g n = u at *
  generalize skipK g n = k at *
  clear h hk
  go_enter Try.func46, Try.ntmps46
  go_wp2_with (go_at_call 47; (with_reducible refine ht.mono ?_); rintro e w1 ⟨rfl, h1, h2⟩; have HH := Lib.hid (And.intro h1 h2); clear h1 h2; rw [endOf_no _ HK.out])
  exact ⟨rfl, rfl, HH.out.1, HH.out.2⟩
/-- Read, whole. -/
def readL (g : Rg) (n : Int) : List (List Int) := if skipK g n = 0 then frL g (readN g n) else []
def ReadM (P R : Nat) (g : Rg) (L : List (List Int)) (k : Int) (w : World) (e : Ending) (w' : World) : Prop := ∃ u, e = .returned (.tuple #[u, .int .i64 k]) ∧ MatNew w.heap.size w' L u ∧ RingAt P R g w' ∧ Gw P R w w'
theorem matNew_nil (B : Nat) (w : World) : MatNew B w [] (.slice none 0 0) := fun w' _ => ⟨none, 0, rfl, (fun i hi => by simp at hi), by simp, Nat.le_refl _⟩
theorem matNew_near {n : Nat} {w1 w' : World} {l : List (List Int)} {u : Value} (h : MatNew (n + 1) w1 l u) (hn : Near n w1 w') : MatNew n w' l u :=
  h.mono (by omega) hn.2.1 fun k hk hlt => hn.2.2 k (by omega) hlt
set_option maxHeartbeats 1000000 in
set_option maxRecDepth 100000 in
theorem readM_any (P R : Nat) (g : Rg) (n : Int) (w : World) (h : RingAt P R g w) (hok : g.Ok) : Calls Try.prog 13 #[.pointer (some ⟨P, 0, none⟩), .int .i64 n] w (ReadM P R (skipR g n) (readL g n) (skipK g n) w) := by
  have hmf := makes
  obtain ⟨hP, hR⟩ := h.lt
  obtain ⟨X, hX⟩ : ∃ X, Obj.cells #[.pointer (some ⟨P, 0, none⟩)] 25 = X := ⟨_, rfl⟩
  obtain ⟨Y, hY⟩ : ∃ Y, Obj.cells #[.int .i64 n] 3 = Y := ⟨_, rfl⟩
  have hbel : Below w.heap.size w ((w.alloc X).alloc Y) := (((Below.refl _ w).alloc (Nat.le_refl _) _).alloc (by simp) _)
  have c0 : ((w.alloc X).alloc Y).cell? ⟨w.heap.size, 0, none⟩ = some (.pointer (some ⟨P, 0, none⟩)) := by
    refine (Same.alloc _ Y).cell ?_; rw [← hX]; simp [go_sem]
  have c1 : ((w.alloc X).alloc Y).cell? ⟨w.heap.size + 1, 0, none⟩ = some (.int .i64 n) := by rw [← hY]; simp [go_sem]
  obtain ⟨Z, hZ⟩ : ∃ Z, (w.alloc X).alloc Y = Z := ⟨_, rfl⟩
  rw [hZ] at hbel c0 c1
  have hb0 : Below Z.heap.size Z (Z.alloc (.cells #[.int .i64 0] 26)) := (Below.refl _ Z).alloc (Nat.le_refl _) _
  have hsz := hbel.size
  have he := enters_of Try.func46 (by kernel_rfl) rfl #[at0 w.heap.size, at0 (w.heap.size + 1)]
  have hf : Calls Try.prog 45 #[.func (.func 46) #[] #[at0 w.heap.size, at0 (w.heap.size + 1)]] Z (ReadM P R (skipR g n) (readL g n) (skipK g n) Z) := by
    refine (fitted45_any 46 _ Z (fun u k x => k = skipK g n ∧ MatNew (Z.heap.size + 1) x (readL g n) u ∧ RingAt P R (skipR g n) x ∧ Gw P R (Z.alloc (.cells #[.int .i64 0] 26)) x) he ?_).mono ?_
    · by_cases hk : skipK g n = 0
      · rw [show readL g n = frL g (readN g n) by unfold readL; rw [if_pos hk], hk]
        refine (read46_yes P R _ _ g n _ ((h.below hbel).below hb0) hok hk (by omega) (by omega) ((Same.of_below hb0).cell c0) ((Same.of_below hb0).cell c1)).mono ?_
        rintro e w1 ⟨u, rfl, h1, h2, h3⟩
        exact ⟨keeps_gw h3 (by omega) (by omega), .inl ⟨u, rfl, rfl, by simpa using h1, h2, h3⟩⟩
      · rw [show readL g n = [] by unfold readL; rw [if_neg hk], show skipR g n = g by unfold skipR; rw [if_neg hk]]
        refine (read46_no P R _ _ g n _ ((h.below hbel).below hb0) hk ((Same.of_below hb0).cell c0) ((Same.of_below hb0).cell c1)).mono ?_
        rintro e w1 ⟨rfl, h2, h3⟩
        exact ⟨keeps_gw h3 (by omega) (by omega), .inr ⟨_, rfl, rfl, matNew_nil _ _, h2, h3⟩⟩
    · rintro e w' ⟨u, k, w1, rfl, ⟨rfl, h1, h2, h3⟩, _, hn⟩
      exact ⟨u, rfl, matNew_near h1 hn, ring_near h2 (by omega) (by omega) hn, gw_near h3 hn⟩
  have HB := Lib.hid hbel
  unfold ReadM at hf
  generalize readL g n = L at *
  generalize skipR g n = g2 at *
  generalize skipK g n = k at *
  clear hbel c0 c1 h hok hb0 he hsz
  subst hZ
  subst hX
  subst hY
  go_enter Try.func13, Try.ntmps13
  go_wp2_with (go_at_call 45; (with_reducible refine hf.mono ?_); rintro e w1 ⟨u, rfl, h1, h2, h3⟩; have HH := Lib.hid (And.intro (h1.mono HB.out.size (Nat.le_refl _) (fun _ _ _ => rfl)) (And.intro h2 ((gw_below HB.out).trans h3))); clear h1 h2 h3)
  go_ret2
  exact ⟨_, rfl, HH.out.1, HH.out.2.1, HH.out.2.2⟩
end Go.Proofs.Ytgcohmlapgnbdaa
