import Derived.RangeFuncNested
import Derived.RangeFuncBound
import Derived.RangeFuncCalls
import Derived.RangeFuncLeaves
import Derived.RangeFuncKeeps
import Derived.RangeFuncFrom
import Derived.Shelf.Abstract
import Derived.Shelf.RegionOpen
import Derived.OwnWalkIn
import Derived.TacticsInMore
import Derived.LoopNIn
import Derived.LoopIn
import Derived.Test.YtfbeeaibejggdaaDoorAB
import Derived.Test.YtfbeeaibejggdaaDoorBA
import Derived.Test.YtfbeeaibejggdaaDoorBB
import Derived.RangeFuncBox
namespace Go.Proofs.YtfbeeaibejggdaaDoor
open Go.RowKit Go.Shelf
attribute [local go_sem] Oper.semAt_some

theorem room_of_none {F : Fence} (hd : F.depth = none) (k : Nat) : F.room k := fun d h => by rw [hd] at h; cases h
theorem RoundIn.anyDepth {F : Fence} (hd : F.depth = none) {m m' : Nat} {P : Program} {l : Nat} {f : FuncId} {tmps : Array Value} {assign body : Code} {w : World} {R : Ending → World → Prop}
    (h : RoundIn F m P l f tmps assign body w R) : RoundIn F m' P l f tmps assign body w R := ⟨h.1, fun c cs _ => h.2 c cs (room_of_none hd _)⟩
theorem YieldAt.anyDepth {F : Fence} (hd : F.depth = none) {m : Nat} (m' : Nat) {P : Program} {l : Nat} {args : Array Value} {W : World} {R : Ending → World → Prop} (h : YieldAt F m P l args W R) : YieldAt F m' P l args W R := by
  obtain ⟨fn, tmps, assign, body, hy, hR⟩ := h
  exact ⟨fn, tmps, assign, body, hy, RoundIn.anyDepth hd hR⟩

/-- What is handed to yield: a value, what it stands for, its level. -/
abbrev El (w : World) := { x : T × Value × Nat // Rep w x.1 x.2.1 ∧ costT x.1 ≤ 3000 ∧ x.2.2 ≤ 1000000 }
def El.key {w : World} (x : El w) : T × Nat := (x.1.1, x.1.2.2)
def encEl {w : World} (x : El w) : Array Value := #[x.1.2.1, .int .i64 (x.1.2.2 : Nat)]

mutual
def preT : T → Nat → List (T × Nat)
  | .mk kd n s keys kids, lvl => (.mk kd n s keys kids, lvl) :: preL kids (lvl + 1)
def preL : List T → Nat → List (T × Nat)
  | [], _ => []
  | t :: r, lvl => preT t lvl ++ preL r lvl
end
theorem preL_append : ∀ (a b : List T) (lvl : Nat), preL (a ++ b) lvl = preL a lvl ++ preL b lvl
  | [], b, lvl => by simp [preL]
  | t :: r, b, lvl => by simp only [List.cons_append, preL, preL_append r b lvl, List.append_assoc]
theorem preL_take (l : List T) (k : Nat) (h : k < l.length) (lvl : Nat) : preL (l.take (k + 1)) lvl = preL (l.take k) lvl ++ preT l[k] lvl := by rw [take_next l k h, preL_append]; simp [preL]
mutual
theorem preT_len : ∀ (t : T) (lvl : Nat), (preT t lvl).length = countT t
  | .mk kd n s keys kids, lvl => by rw [preT, countT, List.length_cons, preL_len kids (lvl + 1)]; omega
theorem preL_len : ∀ (l : List T) (lvl : Nat), (preL l lvl).length = countL l
  | [], lvl => by simp [preL, countL]
  | t :: r, lvl => by rw [preL, countL, List.length_append, preT_len t lvl, preL_len r lvl]
end

/-- What a round keeps: what lies below A, and the cells from B on. -/
def Kp (A B : Nat) (W W' : World) : Prop := Below A W W' ∧ ∀ (a : Addr) (v : Value), B ≤ a.block → W.cell? a = some v → W'.cell? a = some v
theorem Kp.refl (A B : Nat) (W : World) : Kp A B W W := ⟨Below.refl _ _, fun _ _ _ h => h⟩
theorem Kp.trans {A B : Nat} {W W' W'' : World} (h : Kp A B W W') (k : Kp A B W' W'') : Kp A B W W'' := ⟨h.1.trans k.1, fun a v hb hc => k.2 a v hb (h.2 a v hb hc)⟩
theorem Kp.alloc {A B : Nat} {W W' : World} (h : Kp A B W W') (hA : A ≤ W'.heap.size) (o : Obj) : Kp A B W (W'.alloc o) :=
  ⟨h.1.alloc hA o, fun a v hb hc => (same_alloc W' o).cell (h.2 a v hb hc)⟩

theorem abide_alloc {β : Type} {B : Nat} {J : β → World → Prop} (h : AbidesFrom B J) {s : β} {W : World} (hj : J s W) (o : Obj) : J s (W.alloc o) :=
  h s W _ none hj (World.grownBy_alloc W o none) (fun _ e => by cases e)

theorem cost_kid' {l : List T} {j : Nat} (h : j < l.length) : costT l[j] ≤ costL l := by
  have h1 := costL_take l j h
  have h2 := costL_le l (j + 1)
  omega

def VisitPost (w : World) (A B : Nat) (J Jx : List (El w) → World → Prop) (t : T) (lvl : Nat) (pre : List (El w)) (W : World) (e : Ending) (W' : World) : Prop :=
  (e = .returned (.bool true) ∧ ∃ ys : List (El w), ys.map El.key = preT t lvl ∧ J (pre ++ ys) W' ∧ Kp A B W W') ∨ (e = .returned (.bool false) ∧ ∃ ys : List (El w), ys.map El.key <+: preT t lvl ∧ Jx (pre ++ ys) W')

set_option maxRecDepth 100000 in
set_option maxHeartbeats 2000000 in
theorem visit_in (F : Fence) (hd : F.depth = none) (h89 : F.fn 89) (hro : F.round = none) (l : Nat) (w : World) (B N D : Nat) (J Jx : List (El w) → World → Prop) (hJ : AbidesFrom D J)
    (hY : ∀ m pre x W, J pre W → pre.length < N → YieldAt F m Tryd.prog l (encEl x) W fun e W' =>
      (e = .returned (.bool true) ∧ J (pre ++ [x]) W' ∧ Kp w.heap.size B W W') ∨ (e = .returned (.bool false) ∧ Jx (pre ++ [x]) W')) (M : Nat) :
    ∀ (t : T) (n : Nat) (v : Value) (lvl : Nat) (pre : List (El w)) (W : World), SizeOf.sizeOf t ≤ M → Rep w t v → Below w.heap.size w W → B ≤ W.heap.size → J pre W → pre.length + countT t ≤ N → lvl + deepT t ≤ 1000000 → costT t ≤ 3000 →
      CallsIn F n Tryd.prog 89 #[v, .int .i64 (lvl : Nat), .func (.yield l) #[] #[]] W (VisitPost w w.heap.size B J Jx t lvl pre W) := by
  induction M with
  | zero => intro t; cases t; intro _ _ _ _ _ h; simp at h
  | succ M ih =>
    rintro ⟨kd, nn, s, keys, kids⟩ n v lvl pre W hM hr hbw hBW hj hN hlv hcost
    have hdd : ∀ k : Nat, (F.depth.isSome = true → 1 ≤ k) := fun k h => by rw [hd] at h; cases h
    have hr0 := And.intro hr (And.intro hcost (show lvl ≤ 1000000 by omega))
    obtain ⟨ka, va, kc, vc, rfl, _, _, hs, hkl, hvl, hkeys, hkids⟩ := rep_mk hr
    have hj1 := abide_alloc hJ hj (.cells #[.int .i64 kd, .int .i64 nn, .string s, .slice ka keys.length kc, .slice va kids.length vc] 25)
    obtain ⟨bx, hbx⟩ : ∃ bx : Obj, bx = .cells #[.int .i64 kd, .int .i64 nn, .string s, .slice ka keys.length kc, .slice va kids.length vc] 25 := ⟨_, rfl⟩
    have p4 : (W.alloc bx).cell? ⟨W.heap.size, 4, none⟩ = some (.slice va kids.length vc) := by
      subst hbx; exact (box_at (Below.refl (W.heap.size + 1) _)).2.2.2.2
    rw [← hbx] at hj1
    have hy0 := YieldAt.mono (hY (n - 1) pre ⟨(.mk kd nn s keys kids, .agg #[.int .i64 kd, .int .i64 nn, .string s, .slice ka keys.length kc, .slice va kids.length vc], lvl), hr0⟩ _ hj1 (by rw [countT] at hN; omega))
      (R' := fun e W' => (e = .returned (.bool true) ∧ (J (pre ++ [⟨(.mk kd nn s keys kids, .agg #[.int .i64 kd, .int .i64 nn, .string s, .slice ka keys.length kc, .slice va kids.length vc], lvl), hr0⟩]) W' ∧ Kp w.heap.size B (W.alloc bx) W') ∧ W'.cell? ⟨W.heap.size, 4, none⟩ = some (.slice va kids.length vc)) ∨ (e = .returned (.bool false) ∧ Jx (pre ++ [⟨(.mk kd nn s keys kids, .agg #[.int .i64 kd, .int .i64 nn, .string s, .slice ka keys.length kc, .slice va kids.length vc], lvl), hr0⟩]) W'))
      (fun e W' h => h.elim (fun ⟨h1, h2, h3⟩ => .inl ⟨h1, ⟨h2, h3⟩, h3.2 _ _ hBW p4⟩) .inr)
    obtain ⟨fn, tmps, assign, body, hy, hR⟩ := hy0
    dsimp only [encEl] at hy
    subst hbx
    clear p4
    refine callsIn_of_wp Tryd.func89 rfl h89 ?_ hro
    simp only [Tryd.ntmps89, List.size_toArray, List.length_cons, List.length_nil, Nat.reduceAdd, Nat.reduceSub, Array.replicate_succ, Array.replicate_zero, List.push_toArray, List.append_toArray, List.nil_append, List.cons_append]
    gi_wp2_with ((try refine ⟨hdd _, ?_⟩); refine hR.mono ?_; clear hR; rintro e W2 (⟨rfl, hJ2, x4⟩ | ⟨rfl, hx2⟩))
    · obtain ⟨hJ2, hk2⟩ := hJ2
      clear hy x4 hj1
      gi_loopw [17] (fun i wr => ∃ (k : Nat) (ys : List (El w)), i = .int .i64 k ∧ k ≤ kids.length ∧ ys.map El.key = (.mk kd nn s keys kids, lvl) :: preL (kids.take k) (lvl + 1) ∧ J (pre ++ ys) wr ∧ Kp w.heap.size B W wr) (fun i _ => kids.length - (intOf i).toNat)
      case atStart =>
        refine ⟨0, [⟨(.mk kd nn s keys kids, .agg #[.int .i64 kd, .int .i64 nn, .string s, .slice ka keys.length kc, .slice va kids.length vc], lvl), hr0⟩], rfl, Nat.zero_le _, by simp [preL, El.key], hJ2, ?_⟩
        exact ((Kp.refl _ _ W).alloc hbw.size _).trans hk2
      case round =>
        clear hJ2 hk2
        obtain ⟨k, ys, rfl, hk, hys, hJk, hkp⟩ := hrel
        have hbk : Below w.heap.size w wr := hbw.trans hkp.1
        have hBk : B ≤ wr.heap.size := Nat.le_trans hBW hkp.1.size
        by_cases hlt : k < kids.length
        · obtain ⟨b, off, ka', kc', va', vc', s', keys', kids', kd', n', rfl, hlk, g0, g1, g2, g3, g4, _⟩ := kid_full (KidsIn.mono (Same.of_below hbk) _ _ _ hkids) k hlt
          obtain ⟨b2, off2, ka2, kc2, va2, vc2, s2, keys2, kids2, kd2, n2, hbo, hlk2, f0, f1, f2, f3, f4, hrk⟩ := kid_full hkids k hlt
          cases hbo
          have f0' := (Same.of_below hbk).cell f0
          have f1' := (Same.of_below hbk).cell f1
          have f2' := (Same.of_below hbk).cell f2
          have f3' := (Same.of_below hbk).cell f3
          have f4' := (Same.of_below hbk).cell f4
          clear g0 g1 g2 g3 g4 f0 f1 f2 f3 f4 hlk hlk2
          have hcnt := countL_take kids k hlt
          have hcnt2 := countL_le kids (k + 1)
          have hdt := deepL_take kids k hlt
          have hdt2 := deepL_le kids (k + 1)
          have hylen : ys.length = 1 + countL (kids.take k) := by
            have := congrArg List.length hys
            rw [List.length_map, List.length_cons, preL_len] at this; omega
          have hpre := preL_take kids k hlt (lvl + 1)
          rw [countT] at hN
          rw [deepT] at hlv
          have hih := ih kids[k] (n - 1) _ (lvl + 1) (pre ++ ys) (wr.alloc (.cells #[.int .i64 kd2, .int .i64 n2, .string s2, .slice ka2 keys2.length kc2, .slice va2 kids2.length vc2] 25)) (kid_size hM hlt) hrk (hbk.alloc hbk.size _) (by simp; omega) (abide_alloc hJ hJk _) (by rw [List.length_append]; omega) (by omega) (by have := cost_kid' hlt; rw [costT] at hcost; omega)
          have Hp := Lib.hid (And.intro hys hpre)
          have hlv2 : (lvl : Int) + 1 ≤ 1000000 := by omega
          rw [show (((lvl + 1 : Nat)) : Int) = (lvl : Int) + 1 by omega] at hih
          clear hcnt hcnt2 hdt hdt2 hylen hpre hys ih
          gi_wp2_with ((try refine ⟨hdd _, ?_⟩); gi_at_call 89; refine hih.mono ?_; clear hih; rintro e W3 (⟨rfl, hJ3⟩ | ⟨rfl, hx3⟩))
          · obtain ⟨zs, hz, hJ3, hk3⟩ := hJ3
            go_roundw
            case rel =>
              refine ⟨k + 1, ys ++ zs, by go_num, by omega, ?_, by rw [← List.append_assoc]; exact hJ3, (hkp.alloc hbk.size _).trans hk3⟩
              rw [List.map_append, Hp.out.1, hz, Hp.out.2]; rfl
            case measure => simp [intOf]; omega
          · obtain ⟨zs, hz, hx3⟩ := hx3
            go_ret
            refine .inr ⟨rfl, ys ++ zs, ?_, by rw [← List.append_assoc]; exact hx3⟩
            rw [List.map_append, Hp.out.1]
            obtain ⟨r, hr'⟩ := hz
            refine ⟨r ++ preL (kids.drop (k + 1)) (lvl + 1), ?_⟩
            have e1 := preL_append (kids.take (k + 1)) (kids.drop (k + 1)) (lvl + 1)
            rw [List.take_append_drop, Hp.out.2, ← hr'] at e1
            rw [preT, e1]
            simp
        · gi_wp2
          go_ret
          refine .inl ⟨rfl, ys, ?_, hJk, hkp⟩
          rw [hys, take_end _ _ hk hlt, preT]
    · go_ret
      exact .inr ⟨rfl, [⟨(.mk kd nn s keys kids, .agg #[.int .i64 kd, .int .i64 nn, .string s, .slice ka keys.length kc, .slice va kids.length vc], lvl), hr0⟩], ⟨preL kids (lvl + 1), by simp [preT, El.key]⟩, hx2⟩
end Go.Proofs.YtfbeeaibejggdaaDoor
namespace Go.Proofs.YtfbeeaibejggdaaDoor
open Go.RowKit Go.Shelf
attribute [local go_sem] Oper.semAt_some

theorem within_in (F : Fence) (n : Nat) (h62 : F.fn 62) (hro : F.round = none) (c0 c1 c2 c3 c4 : Value) (w : World) :
    CallsIn F n Tryd.prog 62 #[.agg #[c0, c1, c2, c3, c4]] w fun e w' => e = .returned (.func (.func 88) #[] #[.pointer (some ⟨w.heap.size, 0, none⟩)]) ∧ w' = w.alloc (.cells #[c0, c1, c2, c3, c4] 25) := by
  refine callsIn_of_wp Tryd.func62 rfl h62 ?_ hro
  simp only [Tryd.ntmps62, List.size_toArray, List.length_cons, List.length_nil, Nat.reduceAdd, Nat.reduceSub, Array.replicate_succ, Array.replicate_zero, List.push_toArray, List.append_toArray, List.nil_append, List.cons_append]
  gi_wp2
  go_ret
  exact ⟨rfl, rfl⟩

set_option maxRecDepth 100000 in
set_option maxHeartbeats 1000000 in
theorem within_stops (F : Fence) (hd : F.depth = none) (n : Nat) (h88 : F.fn 88) (h89 : F.fn 89) (hro : F.round = none) (w w0 : World) (B Bt : Nat) (t : T) (v : Value) (hr : Rep w t v) (hw : Below w.heap.size w w0) (hB : B ≤ w0.heap.size)
    (k nn : Int) (s : ByteArray) (ka va : Option Addr) (kl kc vl vc : Nat) (hv : v = .agg #[.int .i64 k, .int .i64 nn, .string s, .slice ka kl kc, .slice va vl vc])
    (g0 : w0.cell? ⟨Bt, 0, none⟩ = some (.int .i64 k)) (g1 : w0.cell? ⟨Bt, 1, none⟩ = some (.int .i64 nn)) (g2 : w0.cell? ⟨Bt, 2, none⟩ = some (.string s)) (g3 : w0.cell? ⟨Bt, 3, none⟩ = some (.slice ka kl kc)) (g4 : w0.cell? ⟨Bt, 4, none⟩ = some (.slice va vl vc))
    (hdp : deepT t ≤ 900000) (hcost : costT t ≤ 3000) :
    SeqStopsK F n Tryd.prog 88 #[.pointer (some ⟨Bt, 0, none⟩)] (encEl (w := w)) (Kp w.heap.size B) (fun ys => ys.map El.key = preT t 1) (fun pre => pre.map El.key <+: preT t 1) (countT t) w0 := fun l J Jx W hW hJ _ hY h0 => by
  have hdd : ∀ k : Nat, (F.depth.isSome = true → 1 ≤ k) := fun k h => by rw [hd] at h; cases h
  have hp := visit_in F hd h89 hro l w B (countT t) W.heap.size J Jx hJ (fun m pre x W1 hj hl => YieldAt.anyDepth hd m (hY pre x W1 hj hl)) _ t (n - 1) v 1 [] W (Nat.le_refl _) hr (hw.trans (hW.mono hw.size)) (Nat.le_trans hB hW.size) h0 (by simp) (by omega) hcost
  have f0 := (Same.of_below hW).cell g0
  have f1 := (Same.of_below hW).cell g1
  have f2 := (Same.of_below hW).cell g2
  have f3 := (Same.of_below hW).cell g3
  have f4 := (Same.of_below hW).cell g4
  subst hv
  clear g0 g1 g2 g3 g4
  refine callsIn_of_wp Tryd.func88 rfl h88 ?_ hro
  simp only [Tryd.ntmps88, List.size_toArray, List.length_cons, List.length_nil, Nat.reduceAdd, Nat.reduceSub, Array.replicate_succ, Array.replicate_zero, List.push_toArray, List.append_toArray, List.nil_append, List.cons_append]
  gi_wp2_with ((try refine ⟨hdd _, ?_⟩); gi_at_call 89; refine hp.mono ?_; clear hp; rintro e W1 (⟨rfl, hJ1⟩ | ⟨rfl, hx⟩))
  · obtain ⟨ys, hys, hJ1, _⟩ := hJ1
    go_end0
    exact ⟨⟨_, rfl⟩, .inl ⟨ys, hys, by simpa using hJ1⟩⟩
  · obtain ⟨ys, hys, hx⟩ := hx
    go_end0
    exact ⟨⟨_, rfl⟩, .inr ⟨ys, hys, by simpa using hx⟩⟩
end Go.Proofs.YtfbeeaibejggdaaDoor
namespace Go.Proofs.YtfbeeaibejggdaaDoor
open Go.RowKit Go.Shelf

theorem padded_any (n : Nat) (w : World) (h : n ≤ 1000000) : Calls Tryd.prog 60 #[.int .i64 n] w fun e w' => e = .returned (.int .i64 (((n : Int) + 7) / 8 * 8)) ∧ w = w' := by
  have h1 : 0 ≤ ((n : Int) + 7) / 8 := by omega
  have h2 : ((n : Int) + 7) / 8 * 8 ≤ 2000000 := by omega
  have h3 : 0 ≤ (n : Int) + 7 := by omega
  have h4 : ((n : Int) + 7) / 8 ≤ 2000000 := by omega
  go_enter Tryd.func60, Tryd.ntmps60
  go_wp2_with fail
  go_ret
  exact ⟨rfl, rfl⟩

/-- What a value has as written without its kids. -/
def ownT (t : T) : Int :=
  if t.kind == 2 || t.kind == 3 || t.kind == 9 then 16 else if t.kind == 4 || t.kind == 5 then 8 + ((t.s.size : Int) + 7) / 8 * 8
  else if t.kind == 8 then 16 + 8 * (t.keys.length : Int) else if t.kind == 10 then 8 + 8 * (t.keys.length : Int) else 8

set_option maxHeartbeats 1000000 in
theorem ownSize_any (t : T) (v : Value) (w : World) (hr : Rep w t v) (hs : t.s.size ≤ 1000000) (hk : t.keys.length ≤ 1000000) :
    Calls Tryd.prog 64 #[v] w fun e w' => e = .returned (.int .i64 (ownT t)) ∧ Below w.heap.size w w' := by
  obtain ⟨kd, n, s, keys, kids⟩ := t
  obtain ⟨ka, va, kc, vc, rfl, _, _, _, hkl, hvl, hkeys, hkids⟩ := rep_mk hr
  simp only [T.s, T.keys] at hs hk
  have hs' : (s.size : Int) ≤ 1000000 := by omega
  have hk' : (keys.length : Int) ≤ 1000000 := by omega
  have hp0 : 0 ≤ ((s.size : Int) + 7) / 8 * 8 := by omega
  have hp1 : ((s.size : Int) + 7) / 8 * 8 ≤ 2000000 := by omega
  have hO : ∀ x, ownT (.mk kd n s keys kids) = x → Ending.returned (Value.int .i64 (ownT (.mk kd n s keys kids))) = .returned (.int .i64 x) := fun x h => by rw [h]
  have HO := Lib.hid hO
  clear hO
  go_enter Tryd.func64, Tryd.ntmps64
  go_wp2_with (go_at_call 60; refine (padded_any s.size _ hs).mono ?_; rintro e w1 ⟨rfl, rfl⟩)
  all_goals
    go_ret
    refine ⟨(HO.out _ ?_).symm, (Below.refl _ _).alloc (Nat.le_refl _) _⟩
    clear HO
    simp [ownT, T.kind, T.s, T.keys, *]
end Go.Proofs.YtfbeeaibejggdaaDoor
namespace Go.Proofs.YtfbeeaibejggdaaDoor
open Go.RowKit Go.Shelf
attribute [local go_sem] Oper.semAt_some

def sumOwn : List (T × Nat) → Int
  | [] => 0
  | x :: r => ownT x.1 + sumOwn r
def goodStep (p : List (T × Nat)) (x : T × Nat) : Bool := decide ((x.2 : Int) ≤ 10) && soundB x.1 && decide ((p.length : Int) + 1 + x.1.kids.length ≤ 500) && decide (sumOwn p + ownT x.1 ≤ 65536)
def Good (l : List (T × Nat)) : Prop := ∀ p x r, l = p ++ x :: r → goodStep p x = true
theorem good_nil : Good [] := fun p x r h => by simp at h
theorem good_sum {l : List (T × Nat)} (hg : Good l) : sumOwn l ≤ 65536 := by
  rcases List.eq_nil_or_concat l with rfl | ⟨r, z, hz⟩
  · simp [sumOwn]
  · rw [List.concat_eq_append] at hz
    have := hg r z [] hz
    unfold goodStep at this
    simp only [Bool.and_eq_true, decide_eq_true_eq] at this
    rw [hz]
    have h : sumOwn (r ++ [z]) = sumOwn r + ownT z.1 := by
      clear this hz hg
      induction r with
      | nil => simp [sumOwn]
      | cons a b ih => simp only [List.cons_append, sumOwn, ih]; omega
    rw [h]; exact this.2
theorem sum_lo : ∀ l : List (T × Nat), 0 ≤ sumOwn l
  | [] => by simp [sumOwn]
  | x :: r => by
    have h1 := sum_lo r
    have h2 : 0 ≤ ownT x.1 := by unfold ownT; repeat' split
                                 all_goals omega
    rw [sumOwn]; omega
theorem own_hi (t : T) (h1 : t.s.size ≤ 1000000) (h2 : t.keys.length ≤ 1000000) : ownT t ≤ 10000000 := by
  unfold ownT; repeat' split
  all_goals omega
theorem good_prefix {l l' : List (T × Nat)} (h : l <+: l') (hg : Good l') : Good l := fun p x r e => by
  obtain ⟨q, hq⟩ := h
  exact hg p x (r ++ q) (by rw [← hq, e]; simp)
theorem good_snoc {l : List (T × Nat)} {x : T × Nat} (hg : Good l) (h : goodStep l x = true) : Good (l ++ [x]) := fun p y r e => by
  rcases List.eq_nil_or_concat r with rfl | ⟨r', z, hz⟩
  · have := List.append_inj' e rfl
    obtain ⟨rfl, h2⟩ := this
    simp at h2; subst h2; exact h
  · rw [hz, List.concat_eq_append, show p ++ y :: (r' ++ [z]) = (p ++ y :: r') ++ [z] by simp] at e
    have := List.append_inj' e rfl
    exact hg p y r' this.1
theorem good_bad {l : List (T × Nat)} {x : T × Nat} (h : goodStep l x = false) : ¬ Good (l ++ [x]) := fun hg => by
  have := hg l x [] rfl
  rw [h] at this; cases this
theorem sumOwn_append : ∀ (a b : List (T × Nat)), sumOwn (a ++ b) = sumOwn a + sumOwn b
  | [], b => by simp [sumOwn]
  | x :: r, b => by simp only [List.cons_append, sumOwn, sumOwn_append r b]; omega
theorem sumOwn_snoc (a : List (T × Nat)) (x : T × Nat) : sumOwn (a ++ [x]) = sumOwn a + ownT x.1 := by rw [sumOwn_append]; simp [sumOwn]
theorem ownT_lo (t : T) : 0 ≤ ownT t := by
  unfold ownT; repeat' split
  all_goals omega

theorem Kp.setCell {A B : Nat} {W W' : World} (h : Kp A B W W') {a : Addr} (h1 : A ≤ a.block) (h2 : a.block < B) (u : Value) : Kp A B W (W'.setCell a u) :=
  ⟨h.1.setCell h1 u, fun b v hb hc => by
    have hne : b.block ≠ a.block := by omega
    have := World.cell?_of_block (w := W') (w' := W'.setCell a u) (a := b) (Below.heap_setCell W' a u b.block hne)
    rw [this]; exact h.2 b v hb hc⟩
theorem Kp.drew {A B : Nat} {W W' : World} (h : Kp A B W W') : Kp A B W W'.drew := ⟨h.1.drew, fun b v hb hc => by have := h.2 b v hb hc; simpa using this⟩
theorem Kp.putObj {A B : Nat} {w : World} (hA : A ≤ w.heap.size) (W : World) (l : Nat) (o o' : Obj) (hl : w.heap.size ≤ l) (h : W.heap[l]? = some o) (ho : o.isCells = false) (_ : o.isWalk = false) : Kp A B W (W.putObj l o') :=
  ⟨belowK_b hA W l o o' hl h ho ‹_›, fun a v _ hc => by
    have hne : a.block ≠ l := by
      intro e
      unfold World.cell? at hc
      rw [e, h] at hc
      cases o <;> simp [Obj.isCells] at ho hc
    exact cell_kept hc (grownBy_putObj' W l o') (fun r e => by cases e; exact ⟨o, h, ho⟩)⟩

theorem cells_own {β : Type} (B : Nat) (t : TypeId) (cs : Array Value) : Own (fun (_ : β) W => W.heap[B]? = some (.cells cs t (0, 0))) := fun s X Y row hs hg hrow => by
  refine (hg.block B (Array.getElem?_eq_some_iff.1 hs).1 ?_).trans hs
  intro e
  obtain ⟨o, ho, hc⟩ := hrow B e.symm
  rw [hs] at ho
  cases ho
  simp [Obj.isCells] at hc

theorem cost_bounds (t : T) : t.kids.length ≤ costT t ∧ t.keys.length ≤ costT t ∧ t.s.size ≤ 64 * costT t + 63 := by
  obtain ⟨kd, n, s, keys, kids⟩ := t
  have h : ∀ l : List T, l.length ≤ costL l := fun l => by
    induction l with
    | nil => simp
    | cons x r ih => rw [costL, List.length_cons]; have : 1 ≤ costT x := by { obtain ⟨_, _, _, _, _⟩ := x; rw [costT]; omega }
                     omega
  have := h kids
  rw [costT]
  simp only [T.kids, T.keys, T.s]
  omega

theorem boxed_below {W W1 : World} {B : Nat} {t : TypeId} {v : Value} (h : Boxed W B t v) (hb : Below W.heap.size W W1) : Boxed W1 B t v := (hb.block B h.lt).trans h
theorem keeps_below {W W1 : World} (hb : Below W.heap.size W W1) : KeepsOthers W W1 := ⟨hb.size, fun k o hk _ => (hb.block k (Array.getElem?_eq_some_iff.1 hk).1).trans hk⟩
theorem kp_below {A B : Nat} {W W1 : World} (hb : Below W.heap.size W W1) (hA : A ≤ W.heap.size) : Kp A B W W1 := ⟨hb.mono hA, fun _ _ _ hc => (Same.of_below hb).cell hc⟩

theorem fail_end {w W W1 : World} {D : Nat} {u1 u2 : Value} {pre : List (El w)} {q : List (T × Nat)} (hq : pre.map El.key = q) (hB : Below w.heap.size w W1) (hk : KeepsFrom D W W1) (bC : Boxed W1 (w.heap.size + 1) 3 u1) (bS : Boxed W1 (w.heap.size + 1 + 1) 3 u2) (bK : Boxed W1 (w.heap.size + 1 + 1 + 1) 4 (.bool false)) (hbad : ¬ Good q) :
    KeepsFrom D W (((W1.setCell ⟨w.heap.size + 1, 0, none⟩ (.int .i64 0)).setCell ⟨w.heap.size + 1 + 1, 0, none⟩ (.int .i64 0)).setCell ⟨w.heap.size + 1 + 1 + 1, 0, none⟩ (.bool false)) ∧
      (Boxed (((W1.setCell ⟨w.heap.size + 1, 0, none⟩ (.int .i64 0)).setCell ⟨w.heap.size + 1 + 1, 0, none⟩ (.int .i64 0)).setCell ⟨w.heap.size + 1 + 1 + 1, 0, none⟩ (.bool false)) (w.heap.size + 1) 3 (.int .i64 0) ∧
       Boxed (((W1.setCell ⟨w.heap.size + 1, 0, none⟩ (.int .i64 0)).setCell ⟨w.heap.size + 1 + 1, 0, none⟩ (.int .i64 0)).setCell ⟨w.heap.size + 1 + 1 + 1, 0, none⟩ (.bool false)) (w.heap.size + 1 + 1) 3 (.int .i64 0) ∧
       Boxed (((W1.setCell ⟨w.heap.size + 1, 0, none⟩ (.int .i64 0)).setCell ⟨w.heap.size + 1 + 1, 0, none⟩ (.int .i64 0)).setCell ⟨w.heap.size + 1 + 1 + 1, 0, none⟩ (.bool false)) (w.heap.size + 1 + 1 + 1) 4 (.bool false)) ∧
      (Code.ret = Code.ret ∧ ¬ Good (pre.map El.key)) ∧
      Below w.heap.size w (((W1.setCell ⟨w.heap.size + 1, 0, none⟩ (.int .i64 0)).setCell ⟨w.heap.size + 1 + 1, 0, none⟩ (.int .i64 0)).setCell ⟨w.heap.size + 1 + 1 + 1, 0, none⟩ (.bool false)) :=
  ⟨hk.trans ((((KeepsOthers.setCell W1 ⟨w.heap.size + 1, 0, none⟩ (.int .i64 0)).trans (KeepsOthers.setCell _ ⟨w.heap.size + 1 + 1, 0, none⟩ (.int .i64 0))).trans (KeepsOthers.setCell _ ⟨w.heap.size + 1 + 1 + 1, 0, none⟩ (.bool false))).from _),
   ⟨((bC.set _).other (by omega) _).other (by omega) _, ((bS.other (by omega) _).set _).other (by omega) _, ((bK.other (by omega) _).other (by omega) _).set _⟩,
   ⟨rfl, by rw [hq]; exact hbad⟩,
   ((hB.setCell (p := ⟨w.heap.size + 1, 0, none⟩) (by simp) _).setCell (p := ⟨w.heap.size + 1 + 1, 0, none⟩) (by simp; omega) _).setCell (p := ⟨w.heap.size + 1 + 1 + 1, 0, none⟩) (by simp; omega) _⟩

theorem cells5 {W : World} {B : Nat} {t : TypeId} {c0 c1 c2 c3 c4 : Value} (h : W.heap[B]? = some (.cells #[c0, c1, c2, c3, c4] t (0, 0))) :
    W.cell? ⟨B, 0, none⟩ = some c0 ∧ W.cell? ⟨B, 1, none⟩ = some c1 ∧ W.cell? ⟨B, 2, none⟩ = some c2 ∧ W.cell? ⟨B, 3, none⟩ = some c3 ∧ W.cell? ⟨B, 4, none⟩ = some c4 := by
  refine ⟨?_, ?_, ?_, ?_, ?_⟩ <;> simp [World.cell?, h]

set_option maxRecDepth 100000 in
set_option maxHeartbeats 4000000 in
theorem measure_any (t : T) (v : Value) (w : World) (hr : Rep w t v) (hl : HasLaid w) (hc : costT t ≤ 3000) :
    Calls Tryd.prog 37 #[v] w fun e w' => ((Good (preT t 1) ∧ e = .returned (.tuple #[.int .i64 (countT t), .int .i64 (sumOwn (preT t 1)), .bool true])) ∨ (¬ Good (preT t 1) ∧ e = .returned (.tuple #[.int .i64 0, .int .i64 0, .bool false]))) ∧ Below w.heap.size w w' := by
  refine (callsIn_wide (n := 9)).1 ?_
  have hrr := hr
  obtain ⟨ka, va, kc, vc, rfl, _, _, _, _, _, _, _⟩ := rep_agg hr
  refine callsIn_of_wp_marks Tryd.func37 rfl trivial ?_ rfl
  simp only [Tryd.ntmps37, List.size_toArray, List.length_cons, List.length_nil, Nat.reduceAdd, Nat.reduceSub, Array.replicate_succ, Array.replicate_zero, List.push_toArray, List.append_toArray, List.nil_append, List.cons_append]
  gi_wp2_with ((try refine ⟨trivial, ?_⟩); gi_at_call 62; refine (within_in Fence.wide _ trivial rfl _ _ _ _ _ _).mono ?_; rintro e w' ⟨rfl, rfl⟩)
  obtain ⟨X, hX⟩ : ∃ X : Obj, X = .cells #[.int .i64 t.kind, .int .i64 t.n, .string t.s, .slice ka t.keys.length kc, .slice va t.kids.length vc] 25 := ⟨_, rfl⟩
  have bC := (((Boxed.new (w.alloc X) 3 (.int .i64 0)).alloc (.cells #[.int .i64 0] 3)).alloc (.cells #[.bool false] 4)).alloc X
  have bS := ((Boxed.new ((w.alloc X).alloc (.cells #[.int .i64 0] 3)) 3 (.int .i64 0)).alloc (.cells #[.bool false] 4)).alloc X
  have bK := (Boxed.new (((w.alloc X).alloc (.cells #[.int .i64 0] 3)).alloc (.cells #[.int .i64 0] 3)) 4 (.bool false)).alloc X
  have hg5 : Below (((((w.alloc X).alloc (.cells #[.int .i64 0] 3)).alloc (.cells #[.int .i64 0] 3)).alloc (.cells #[.bool false] 4)).heap.size + 1) (((((w.alloc X).alloc (.cells #[.int .i64 0] 3)).alloc (.cells #[.int .i64 0] 3)).alloc (.cells #[.bool false] 4)).alloc X) (((((w.alloc X).alloc (.cells #[.int .i64 0] 3)).alloc (.cells #[.int .i64 0] 3)).alloc (.cells #[.bool false] 4)).alloc X) := Below.refl _ _
  have hb0 : Below w.heap.size w (((((w.alloc X).alloc (.cells #[.int .i64 0] 3)).alloc (.cells #[.int .i64 0] 3)).alloc (.cells #[.bool false] 4)).alloc X) := (((((Below.refl _ w).alloc (Nat.le_refl _) _).alloc (by simp) _).alloc (by simp; omega) _).alloc (by simp; omega) _).alloc (by simp; omega) _
  have hsz : (((((w.alloc X).alloc (.cells #[.int .i64 0] 3)).alloc (.cells #[.int .i64 0] 3)).alloc (.cells #[.bool false] 4)).alloc X).heap.size = w.heap.size + 5 := by simp
  have hg := box_at (hX ▸ hg5)
  rw [← hX] at hg
  simp only [World.size_alloc] at bC bS bK hg
  obtain ⟨g0, g1, g2, g3, g4⟩ := hg
  rw [← hX]
  obtain ⟨W0, hW0⟩ : ∃ W0, ((((w.alloc X).alloc (.cells #[.int .i64 0] 3)).alloc (.cells #[.int .i64 0] 3)).alloc (.cells #[.bool false] 4)).alloc X = W0 := ⟨_, rfl⟩
  rw [hW0] at bC bS bK hb0 hsz g0 g1 g2 g3 g4 ⊢
  clear hW0 hg5 hX
  have hc1 := count_cost t
  have hc2 := deep_count t
  refine wpIn_rangeFunc_ownH rfl (by omega) (gf := 88) (lb := #[.pointer (some ⟨w.heap.size + 1 + 1 + 1 + 1, 0, none⟩)]) rfl trivial (enters_of Tryd.func88 (by kernel_rfl) rfl)
    (within_stops Fence.wide rfl (9 - 1) trivial trivial rfl w W0 (w.heap.size + 4) (w.heap.size + 1 + 1 + 1 + 1) t _ hrr hb0 (by omega) t.kind t.n t.s ka va _ kc _ vc rfl g0 g1 g2 g3 g4 (by omega) hc)
    (fun h k => h.trans k) (Kp.putObj (by omega)) (Below.refl _ _) (fun _ => rfl)
    (fun (pre : List (El w)) W => (Boxed W (w.heap.size + 1) 3 (.int .i64 (pre.length : Nat)) ∧ Boxed W (w.heap.size + 1 + 1) 3 (.int .i64 (sumOwn (pre.map El.key))) ∧ Boxed W (w.heap.size + 1 + 1 + 1) 4 (.bool false)) ∧ Good (pre.map El.key) ∧ Below w.heap.size w W)
    (fun c (pre : List (El w)) W => (Boxed W (w.heap.size + 1) 3 (.int .i64 0) ∧ Boxed W (w.heap.size + 1 + 1) 3 (.int .i64 0) ∧ Boxed W (w.heap.size + 1 + 1 + 1) 4 (.bool false)) ∧ (c = .ret ∧ ¬ Good (pre.map El.key)) ∧ Below w.heap.size w W)
    (OwnFrom.and (OwnFrom.and (Own.from (boxed_own _ _ _) _) (OwnFrom.and (Own.from (boxed_own _ _ _) _) (Own.from (boxed_own _ _ _) _))) (OwnFrom.and (ownFrom_pure _ _) (ownFrom_below (Nat.le_refl _) (by omega))))
    (fun c => OwnFrom.and (OwnFrom.and (Own.from (boxed_own _ _ (fun _ => .int .i64 0)) _) (OwnFrom.and (Own.from (boxed_own _ _ (fun _ => .int .i64 0)) _) (Own.from (boxed_own _ _ (fun _ => .bool false)) _))) (OwnFrom.and (ownFrom_pure _ (fun (pre : List (El w)) => c = .ret ∧ ¬ Good (pre.map El.key))) (ownFrom_below (Nat.le_refl _) (by omega))))
    ⟨⟨bC, bS, bK⟩, good_nil, hb0⟩
    (fun x a' W => ∃ Bx, w.heap.size + 4 ≤ Bx ∧ W.heap[Bx]? = some (.cells x.1.2.1.cells 25 (0, 0)) ∧ a' = { tmps := #[.agg #[.int .i64 t.kind, .int .i64 t.n, .string t.s, .slice ka t.keys.length kc, .slice va t.kids.length vc], .pointer (some ⟨w.heap.size, 0, none⟩), .pointer (some ⟨w.heap.size + 1, 0, none⟩), .pointer (some ⟨w.heap.size + 1 + 1, 0, none⟩), .pointer (some ⟨w.heap.size + 1 + 1 + 1, 0, none⟩), .pointer (some ⟨Bx, 0, none⟩), .int .i64 (x.1.2.2 : Nat), .agg #[.int .i64 t.kind, .int .i64 t.n, .string t.s, .slice ka t.keys.length kc, .slice va t.kids.length vc], .func (.func 88) #[] #[.pointer (some ⟨w.heap.size + 1 + 1 + 1 + 1, 0, none⟩)], x.1.2.1, .int .i64 (x.1.2.2 : Nat), undef, undef, undef, undef, undef, undef, undef, undef, undef, undef, undef, undef, undef, undef, undef, undef, undef, undef, undef, undef, undef, undef, undef, undef, undef], defers := [] })
    (fun x a' _ Y Z row hs hg hr => by obtain ⟨Bx, h1, h2, h3⟩ := hs; exact ⟨Bx, h1, cells_own Bx 25 _ () Y Z row h2 hg (fun r e => (hr r e).2), h3⟩)
    ?assign ?body ?done ?stop
  case assign =>
    rintro l pre ⟨⟨tx, vx, lx⟩, hx, hcx, hlx⟩ W K ⟨⟨bC1, bS1, bK1⟩, hG, hB1⟩ hK
    dsimp only at hx hcx hlx
    obtain ⟨ka', va', kc', vc', rfl, _⟩ := rep_agg hx
    dsimp only [encEl] at *
    gi_wp2
    refine hK _ _ ((KeepsOthers.alloc _ _).from _) ((Kp.refl _ _ W).alloc hB1.size _) ⟨⟨bC1.alloc _, bS1.alloc _, bK1.alloc _⟩, hG, hB1.alloc hB1.size _⟩ ⟨W.heap.size, ?_, ?_, rfl⟩
    · have := bK1.lt; omega
    · exact World.alloc_heap_new W _
  case body =>
    rintro l pre ⟨⟨tx, vx, lx⟩, hx, hcx, hlx⟩ a' W hl' ⟨r, hr'⟩ ⟨⟨bC1, bS1, bK1⟩, hG, hB1⟩ ⟨Bx, hBx, bX, rfl⟩ hlt
    dsimp only at hx hcx hlx bX
    obtain ⟨ka', va', kc', vc', rfl, _, _, _, _, _, _, _⟩ := rep_agg hx
    obtain ⟨x0, x1, x2, x3, x4⟩ := cells5 (by simpa [Value.cells] using bX)
    have hcb := cost_bounds tx
    have hkey : ((pre ++ [⟨(tx, .agg #[.int .i64 tx.kind, .int .i64 tx.n, .string tx.s, .slice ka' tx.keys.length kc', .slice va' tx.kids.length vc'], lx), hx, hcx, hlx⟩] : List (El w)).map El.key) = pre.map El.key ++ [(tx, lx)] := by simp [El.key]
    have hlen : (pre.map El.key).length = pre.length := List.length_map _
    have hgs : goodStep (pre.map El.key) (tx, lx) = (decide ((lx : Int) ≤ 10) && soundB tx && decide ((pre.length : Int) + 1 + tx.kids.length ≤ 500) && decide (sumOwn (pre.map El.key) + ownT tx ≤ 65536)) := by unfold goodStep; rw [hlen]
    have hso := sumOwn_snoc (pre.map El.key) (tx, lx)
    have Hkey := Lib.hid (And.intro hkey (And.intro hgs hso))
    clear hkey hgs hlen hso
    have k1 := bC1.cell
    have k2 := bS1.cell
    have k3 := bK1.cell
    have k1f := bC1.frozen
    have k2f := bS1.frozen
    have k3f := bK1.frozen
    have hpl : (pre.length : Int) ≤ 3000 := by omega
    dsimp only
    by_cases hlv : lx ≤ 10
    · obtain ⟨sb, hsb⟩ : ∃ sb, soundB tx = sb := ⟨_, rfl⟩
      have hsnd := sound_any tx _ W (Rep.mono (Same.of_below hB1) _ _ hx) (hl.mono (Same.of_below hB1)) (by omega)
      rw [hsb] at hsnd
      have h1' : 1 ≤ 9 - 1 - 1 := by omega
      cases sb with
      | false =>
        have hbad : ¬ Good (pre.map El.key ++ [(tx, lx)]) := good_bad (by rw [Hkey.out.2.1, hsb]; simp)
        have Hbad := Lib.hid hbad
        clear hbad hsb
        gi_wp2
        refine ⟨trivial, ?_⟩
        gi_at_call 63
        refine (CallsIn.inRound l (callsIn_wide.2 hsnd)).mono ?_
        rintro e w1 ⟨rfl, hb1⟩
        have bC2 := boxed_below bC1 hb1
        have bS2 := boxed_below bS1 hb1
        have bK2 := boxed_below bK1 hb1
        have k1 := bC2.cell
        have k2 := bS2.cell
        have k3 := bK2.cell
        have k1f := bC2.frozen
        have k2f := bS2.frozen
        have k3f := bK2.frozen
        have y0 := (Same.of_below hb1).cell x0
        have y1 := (Same.of_below hb1).cell x1
        have y2 := (Same.of_below hb1).cell x2
        have y3 := (Same.of_below hb1).cell x3
        have y4 := (Same.of_below hb1).cell x4
        have hbw1 := hB1.trans (hb1.mono hB1.size)
        gi_wp2
        exact fail_end Hkey.out.1 hbw1 ((keeps_below hb1).from _) bC2 bS2 bK2 Hbad.out
      | true =>
        have hmx : Tryd.prog.follows .mixedOrders = true := by kernel_rfl
        have HS := Lib.hid hsb
        clear hsb
        gi_wp2
        refine ⟨trivial, ?_⟩
        gi_at_call 63
        refine (CallsIn.inRound l (callsIn_wide.2 hsnd)).mono ?_
        rintro e w1 ⟨rfl, hb1⟩
        have bC2 := boxed_below bC1 hb1
        have bS2 := boxed_below bS1 hb1
        have bK2 := boxed_below bK1 hb1
        have k1 := bC2.cell
        have k2 := bS2.cell
        have k3 := bK2.cell
        have k1f := bC2.frozen
        have k2f := bS2.frozen
        have k3f := bK2.frozen
        have y0 := (Same.of_below hb1).cell x0
        have y1 := (Same.of_below hb1).cell x1
        have y2 := (Same.of_below hb1).cell x2
        have y3 := (Same.of_below hb1).cell x3
        have y4 := (Same.of_below hb1).cell x4
        have hbw1 := hB1.trans (hb1.mono hB1.size)
        gi_wp2
        have bC3 := bC2.set (.int .i64 ((pre.length : Int) + 1))
        have bS3 := bS2.other (by omega : w.heap.size + 1 + 1 ≠ w.heap.size + 1) (.int .i64 ((pre.length : Int) + 1))
        have bK3 := bK2.other (by omega : w.heap.size + 1 + 1 + 1 ≠ w.heap.size + 1) (.int .i64 ((pre.length : Int) + 1))
        have hbw2 := hbw1.setCell (p := ⟨w.heap.size + 1, 0, none⟩) (by simp) (.int .i64 ((pre.length : Int) + 1))
        have hkf := ((keeps_below hb1).trans (KeepsOthers.setCell w1 ⟨w.heap.size + 1, 0, none⟩ (.int .i64 ((pre.length : Int) + 1)))).from W0.heap.size
        have hkp := (kp_below (A := w.heap.size) (B := w.heap.size + 4) hb1 hB1.size).setCell (a := ⟨w.heap.size + 1, 0, none⟩) (by simp) (by simp) (.int .i64 ((pre.length : Int) + 1))
        have z0 := hkp.2 ⟨Bx, 0, none⟩ _ hBx x0
        have z1 := hkp.2 ⟨Bx, 1, none⟩ _ hBx x1
        have z2 := hkp.2 ⟨Bx, 2, none⟩ _ hBx x2
        have z3 := hkp.2 ⟨Bx, 3, none⟩ _ hBx x3
        have z4 := hkp.2 ⟨Bx, 4, none⟩ _ hBx x4
        clear y0 y1 y2 y3 y4 k1 k2 k3 k1f k2f k3f
        generalize w1.setCell ⟨w.heap.size + 1, 0, none⟩ (.int .i64 ((pre.length : Int) + 1)) = W2 at *
        have hr2 := Rep.mono (Same.of_below hbw2) _ _ hx
        have hr2d := Rep.mono (Same.of_below hbw2.drew) _ _ hx
        have k2 := bS3.cell
        have k2f := bS3.frozen
        have hs1 := good_sum hG
        have hs0 := sum_lo (pre.map El.key)
        have ho0 := ownT_lo tx
        have ho1 := own_hi tx (by omega) (by omega)
        obtain ⟨S0, hS0⟩ : ∃ S0, sumOwn (pre.map El.key) = S0 := ⟨_, rfl⟩
        obtain ⟨O0, hO0⟩ : ∃ O0, ownT tx = O0 := ⟨_, rfl⟩
        have hown := fun W' hr' => ownSize_any tx (.agg #[.int .i64 tx.kind, .int .i64 tx.n, .string tx.s, .slice ka' tx.keys.length kc', .slice va' tx.kids.length vc']) W' hr' (by omega) (by omega)
        rw [hO0] at hown
        rw [hS0] at k2 bS3 hs1 hs0
        rw [hO0] at ho0 ho1
        have hwr : IntKind.i64.wrap (S0 + O0) = S0 + O0 := IntWalk.i64_in _ (by omega)
        have HSO := Lib.hid (And.intro hS0 hO0)
        clear hS0 hO0
        gi_region_with_o (refine ⟨trivial, ?_⟩; gi_at_call 64; refine (CallsIn.inRound l (callsIn_wide.2 (hown _ (by first | exact hr2 | exact hr2d)))).mono ?_; rintro e w3 ⟨rfl, hb3⟩; have bS4 := boxed_below (W := W2.drew) bS3 hb3; have k4 := bS4.cell; have k4f := bS4.frozen)
        all_goals
          have hbw3 : Below w.heap.size w w3 := hbw2.drew.trans (hb3.mono hbw2.size)
          have hkf3 : KeepsFrom W0.heap.size W w3 := (hkf.trans ((KeepsOthers.drew _).from _)).trans ((keeps_below hb3).from _)
          have hkp3 : Kp w.heap.size (w.heap.size + 4) W w3 := hkp.drew.trans (kp_below hb3 hbw2.size)
          have bC4 := boxed_below (W := W2.drew) bC3 hb3
          have bK4 := boxed_below (W := W2.drew) bK3 hb3
          have bC5 := bC4.other (by omega : w.heap.size + 1 ≠ w.heap.size + 1 + 1) (.int .i64 (S0 + O0))
          have bS5 := bS4.set (.int .i64 (S0 + O0))
          have bK5 := bK4.other (by omega : w.heap.size + 1 + 1 + 1 ≠ w.heap.size + 1 + 1) (.int .i64 (S0 + O0))
          have hbw4 := hbw3.setCell (p := ⟨w.heap.size + 1 + 1, 0, none⟩) (by simp; omega) (.int .i64 (S0 + O0))
          have hkf4 := hkf3.trans ((KeepsOthers.setCell w3 ⟨w.heap.size + 1 + 1, 0, none⟩ (.int .i64 (S0 + O0))).from W0.heap.size)
          have hkp4 := hkp3.setCell (a := ⟨w.heap.size + 1 + 1, 0, none⟩) (by simp; omega) (by simp) (.int .i64 (S0 + O0))
          have v4 := hkp4.2 ⟨Bx, 4, none⟩ _ hBx x4
          clear k2 k2f k4 k4f hbw3 hkf3 hkp3 bC4 bS4 bK4 hwr
          generalize w3.setCell ⟨w.heap.size + 1 + 1, 0, none⟩ (.int .i64 (S0 + O0)) = W4 at *
          have k1 := bC5.cell
          have k2 := bS5.cell
          have k3 := bK5.cell
          have k1f := bC5.frozen
          have k2f := bS5.frozen
          have k3f := bK5.frozen
          have hkl : (tx.kids.length : Int) ≤ 3000 := by omega
          have hgs : goodStep (pre.map El.key) (tx, lx) = (decide ((pre.length : Int) + 1 + tx.kids.length ≤ 500) && decide (S0 + O0 ≤ 65536)) := by
            rw [Hkey.out.2.1, HS.out, HSO.out.1, HSO.out.2]
            have : decide ((lx : Int) ≤ 10) = true := by simp; omega
            rw [this]; simp
          have Hgs := Lib.hid hgs
          clear hgs
          by_cases c1 : (pre.length : Int) + 1 + tx.kids.length ≤ 500
          · by_cases c2 : S0 + O0 ≤ 65536
            · have hgood : Good (pre.map El.key ++ [(tx, lx)]) := good_snoc hG (by rw [Hgs.out]; simp [c1, c2])
              have Hgood := Lib.hid hgood
              clear hgood
              gi_wp2
              refine ⟨hkf4, hkp4, ⟨?_, ?_, bK5⟩, ?_, hbw4⟩
              · rw [List.length_append]; exact bC5
              · rw [Hkey.out.1, Hkey.out.2.2, HSO.out.1, HSO.out.2]; exact bS5
              · rw [Hkey.out.1]; exact Hgood.out
            · have hbad : ¬ Good (pre.map El.key ++ [(tx, lx)]) := good_bad (by rw [Hgs.out]; simp [c2])
              have Hbad := Lib.hid hbad
              clear hbad
              gi_wp2
              first | exact fail_end Hkey.out.1 hbw4 hkf4 bC5 bS5 bK5 Hbad.out | exact fail_end Hkey.out.1 hbw4 (hsz ▸ hkf4) bC5 bS5 bK5 Hbad.out
          · have hbad : ¬ Good (pre.map El.key ++ [(tx, lx)]) := good_bad (by rw [Hgs.out]; simp [c1])
            have Hbad := Lib.hid hbad
            clear hbad
            gi_wp2
            first | exact fail_end Hkey.out.1 hbw4 hkf4 bC5 bS5 bK5 Hbad.out | exact fail_end Hkey.out.1 hbw4 (hsz ▸ hkf4) bC5 bS5 bK5 Hbad.out
    · have hbad : ¬ Good (pre.map El.key ++ [(tx, lx)]) := good_bad (by rw [Hkey.out.2.1]; simp; intro h; omega)
      have Hbad := Lib.hid hbad
      clear hbad
      gi_wp2
      refine ⟨trivial, ?_⟩
      gi_wp2
      exact fail_end Hkey.out.1 hB1 (KeepsFrom.refl _ _) bC1 bS1 bK1 Hbad.out
  case done =>
    rintro D ys W hD hys ⟨⟨bC1, bS1, bK1⟩, hG, hB1⟩ hK
    rw [hys] at hG bS1
    have hln : ys.length = countT t := by have := congrArg List.length hys; rw [List.length_map, preT_len] at this; exact this
    rw [hln] at bC1
    have k1 := bC1.cell
    have k2 := bS1.cell
    have k3 := bK1.cell
    have k1f := bC1.frozen
    have k2f := bS1.frozen
    have k3f := bK1.frozen
    gi_wp2
    gi_region
    gi_wp2
    have hk1 := (((KeepsOthers.setCell W ⟨w.heap.size + 1, 0, none⟩ (.int .i64 (countT t))).trans (KeepsOthers.setCell _ ⟨w.heap.size + 1 + 1, 0, none⟩ (.int .i64 (sumOwn (preT t 1))))).trans ((KeepsOthers.setCell _ ⟨w.heap.size + 1 + 1 + 1, 0, none⟩ (.bool true)).trans (KeepsOthers.drew _))).same D _ hK rfl
    have b1 : Boxed ((((W.setCell ⟨w.heap.size + 1, 0, none⟩ (.int .i64 (countT t))).setCell ⟨w.heap.size + 1 + 1, 0, none⟩ (.int .i64 (sumOwn (preT t 1)))).setCell ⟨w.heap.size + 1 + 1 + 1, 0, none⟩ (.bool true)).drew) (w.heap.size + 1) 3 (.int .i64 (countT t)) := ((bC1.set _).other (by omega) _).other (by omega) _
    have b2 : Boxed ((((W.setCell ⟨w.heap.size + 1, 0, none⟩ (.int .i64 (countT t))).setCell ⟨w.heap.size + 1 + 1, 0, none⟩ (.int .i64 (sumOwn (preT t 1)))).setCell ⟨w.heap.size + 1 + 1 + 1, 0, none⟩ (.bool true)).drew) (w.heap.size + 1 + 1) 3 (.int .i64 (sumOwn (preT t 1))) := ((bS1.other (by omega) _).set _).other (by omega) _
    have b3 : Boxed ((((W.setCell ⟨w.heap.size + 1, 0, none⟩ (.int .i64 (countT t))).setCell ⟨w.heap.size + 1 + 1, 0, none⟩ (.int .i64 (sumOwn (preT t 1)))).setCell ⟨w.heap.size + 1 + 1 + 1, 0, none⟩ (.bool true)).drew) (w.heap.size + 1 + 1 + 1) 4 (.bool true) := ((bK1.other (by omega) _).other (by omega) _).set _
    have hB2 : Below w.heap.size w ((((W.setCell ⟨w.heap.size + 1, 0, none⟩ (.int .i64 (countT t))).setCell ⟨w.heap.size + 1 + 1, 0, none⟩ (.int .i64 (sumOwn (preT t 1)))).setCell ⟨w.heap.size + 1 + 1 + 1, 0, none⟩ (.bool true)).drew) := (((hB1.setCell (p := ⟨w.heap.size + 1, 0, none⟩) (by simp) _).setCell (p := ⟨w.heap.size + 1 + 1, 0, none⟩) (by simp; omega) _).setCell (p := ⟨w.heap.size + 1 + 1 + 1, 0, none⟩) (by simp; omega) _).drew
    refine ⟨by simp, .inl ⟨_, _, rfl, run_takeDeferred hk1, ?_⟩⟩
    generalize ((((W.setCell ⟨w.heap.size + 1, 0, none⟩ (.int .i64 (countT t))).setCell ⟨w.heap.size + 1 + 1, 0, none⟩ (.int .i64 (sumOwn (preT t 1)))).setCell ⟨w.heap.size + 1 + 1 + 1, 0, none⟩ (.bool true)).drew) = W1 at *
    have kp : ∀ {a : Addr} {v : Value}, W1.cell? a = some v → (W1.putObj D (.deferred none)).cell? a = some v := fun h => cell_kept h (grownBy_putObj' W1 D (.deferred none)) (fun r e => by cases e; exact ⟨_, hk1, rfl⟩)
    have k1 := kp b1.cell
    have k2 := kp b2.cell
    have k3 := kp b3.cell
    refine ⟨.tuple #[.int .i64 (countT t), .int .i64 (sumOwn (preT t 1)), .bool true], ?_, .inl ⟨hG, rfl⟩, hB2.trans (belowK_b (w := w) (Nat.le_refl _) W1 D _ _ (by omega) hk1 rfl rfl)⟩
    simp [results, Tryd.results37, go_sem, k1, k2, k3]
  case stop =>
    rintro D c pre W hD hSp ⟨⟨bC1, bS1, bK1⟩, ⟨rfl, hbad⟩, hB1⟩ hK
    gi_wp2
    refine ⟨by simp, .inl ⟨_, _, rfl, run_takeDeferred hK, ?_⟩⟩
    have kp : ∀ {a : Addr} {v : Value}, W.cell? a = some v → (W.putObj D (.deferred none)).cell? a = some v := fun h => cell_kept h (grownBy_putObj' W D (.deferred none)) (fun r e => by cases e; exact ⟨_, hK, rfl⟩)
    have k1 := kp bC1.cell
    have k2 := kp bS1.cell
    have k3 := kp bK1.cell
    refine ⟨.tuple #[.int .i64 0, .int .i64 0, .bool false], ?_, .inr ⟨fun h => hbad (good_prefix hSp h), rfl⟩, hB1.trans (belowK_b (w := w) (Nat.le_refl _) W D _ _ (by omega) hK rfl rfl)⟩
    simp [results, Tryd.results37, go_sem, k1, k2, k3]
end Go.Proofs.YtfbeeaibejggdaaDoor
