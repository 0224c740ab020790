import Derived.RangeFuncNested
import Derived.RangeFuncBound
import Derived.RangeFuncCalls
import Derived.RangeFuncLeaves
import Derived.RangeFuncKeeps
import Derived.RangeFuncFrom
import Derived.Shelf.Abstract
import Derived.Shelf.RegionOpen
import Derived.OwnWalkIn
import Derived.TacticsInMore
import Derived.LoopNIn
import Derived.LoopIn
import Derived.Test.YtfbeeaibejggdaaDoorA8
import Derived.Test.YtfbeeaibejggdaaDoorB2
namespace Go.Proofs.YtfbeeaibejggdaaDoor
open Go.RowKit Go.Shelf
attribute [local go_sem] Oper.semAt_some

theorem room_of_none {F : Fence} (hd : F.depth = none) (k : Nat) : F.room k := fun d h => by rw [hd] at h; cases h
theorem RoundIn.anyDepth {F : Fence} (hd : F.depth = none) {m m' : Nat} {P : Program} {l : Nat} {f : FuncId} {tmps : Array Value} {assign body : Code} {w : World} {R : Ending → World → Prop}
    (h : RoundIn F m P l f tmps assign body w R) : RoundIn F m' P l f tmps assign body w R := ⟨h.1, fun c cs _ => h.2 c cs (room_of_none hd _)⟩
theorem YieldAt.anyDepth {F : Fence} (hd : F.depth = none) {m : Nat} (m' : Nat) {P : Program} {l : Nat} {args : Array Value} {W : World} {R : Ending → World → Prop} (h : YieldAt F m P l args W R) : YieldAt F m' P l args W R := by
  obtain ⟨fn, tmps, assign, body, hy, hR⟩ := h
  exact ⟨fn, tmps, assign, body, hy, RoundIn.anyDepth hd hR⟩

/-- What is handed to yield: a value, what it stands for, its level. -/
abbrev El (w : World) := { x : T × Value × Nat // Rep w x.1 x.2.1 ∧ costT x.1 ≤ 3000 ∧ x.2.2 ≤ 1000000 }
def El.key {w : World} (x : El w) : T × Nat := (x.1.1, x.1.2.2)
def encEl {w : World} (x : El w) : Array Value := #[x.1.2.1, .int .i64 (x.1.2.2 : Nat)]

mutual
def preT : T → Nat → List (T × Nat)
  | .mk kd n s keys kids, lvl => (.mk kd n s keys kids, lvl) :: preL kids (lvl + 1)
def preL : List T → Nat → List (T × Nat)
  | [], _ => []
  | t :: r, lvl => preT t lvl ++ preL r lvl
end
theorem preL_append : ∀ (a b : List T) (lvl : Nat), preL (a ++ b) lvl = preL a lvl ++ preL b lvl
  | [], b, lvl => by simp [preL]
  | t :: r, b, lvl => by simp only [List.cons_append, preL, preL_append r b lvl, List.append_assoc]
theorem preL_take (l : List T) (k : Nat) (h : k < l.length) (lvl : Nat) : preL (l.take (k + 1)) lvl = preL (l.take k) lvl ++ preT l[k] lvl := by rw [take_next l k h, preL_append]; simp [preL]
mutual
theorem preT_len : ∀ (t : T) (lvl : Nat), (preT t lvl).length = countT t
  | .mk kd n s keys kids, lvl => by rw [preT, countT, List.length_cons, preL_len kids (lvl + 1)]; omega
theorem preL_len : ∀ (l : List T) (lvl : Nat), (preL l lvl).length = countL l
  | [], lvl => by simp [preL, countL]
  | t :: r, lvl => by rw [preL, countL, List.length_append, preT_len t lvl, preL_len r lvl]
end

/-- What a round keeps: what lies below A, and the cells from B on. -/
def Kp (A B : Nat) (W W' : World) : Prop := Below A W W' ∧ ∀ (a : Addr) (v : Value), B ≤ a.block → W.cell? a = some v → W'.cell? a = some v
theorem Kp.refl (A B : Nat) (W : World) : Kp A B W W := ⟨Below.refl _ _, fun _ _ _ h => h⟩
theorem Kp.trans {A B : Nat} {W W' W'' : World} (h : Kp A B W W') (k : Kp A B W' W'') : Kp A B W W'' := ⟨h.1.trans k.1, fun a v hb hc => k.2 a v hb (h.2 a v hb hc)⟩
theorem Kp.alloc {A B : Nat} {W W' : World} (h : Kp A B W W') (hA : A ≤ W'.heap.size) (o : Obj) : Kp A B W (W'.alloc o) :=
  ⟨h.1.alloc hA o, fun a v hb hc => (same_alloc W' o).cell (h.2 a v hb hc)⟩

theorem abide_alloc {β : Type} {B : Nat} {J : β → World → Prop} (h : AbidesFrom B J) {s : β} {W : World} (hj : J s W) (o : Obj) : J s (W.alloc o) :=
  h s W _ none hj (World.grownBy_alloc W o none) (fun _ e => by cases e)

theorem cost_kid' {l : List T} {j : Nat} (h : j < l.length) : costT l[j] ≤ costL l := by
  have h1 := costL_take l j h
  have h2 := costL_le l (j + 1)
  omega

def VisitPost (w : World) (A B : Nat) (J Jx : List (El w) → World → Prop) (t : T) (lvl : Nat) (pre : List (El w)) (W : World) (e : Ending) (W' : World) : Prop :=
  (e = .returned (.bool true) ∧ ∃ ys : List (El w), ys.map El.key = preT t lvl ∧ J (pre ++ ys) W' ∧ Kp A B W W') ∨ (e = .returned (.bool false) ∧ ∃ ys : List (El w), ys.map El.key <+: preT t lvl ∧ Jx (pre ++ ys) W')

set_option maxRecDepth 100000 in
set_option maxHeartbeats 2000000 in
theorem visit_in (F : Fence) (hd : F.depth = none) (h89 : F.fn 89) (hro : F.round = none) (l : Nat) (w : World) (B N D : Nat) (J Jx : List (El w) → World → Prop) (hJ : AbidesFrom D J)
    (hY : ∀ m pre x W, J pre W → pre.length < N → YieldAt F m Tryd.prog l (encEl x) W fun e W' =>
      (e = .returned (.bool true) ∧ J (pre ++ [x]) W' ∧ Kp w.heap.size B W W') ∨ (e = .returned (.bool false) ∧ Jx (pre ++ [x]) W')) (M : Nat) :
    ∀ (t : T) (n : Nat) (v : Value) (lvl : Nat) (pre : List (El w)) (W : World), SizeOf.sizeOf t ≤ M → Rep w t v → Below w.heap.size w W → B ≤ W.heap.size → J pre W → pre.length + countT t ≤ N → lvl + deepT t ≤ 1000000 → costT t ≤ 3000 →
      CallsIn F n Tryd.prog 89 #[v, .int .i64 (lvl : Nat), .func (.yield l) #[] #[]] W (VisitPost w w.heap.size B J Jx t lvl pre W) := by
  induction M with
  | zero => intro t; cases t; intro _ _ _ _ _ h; simp at h
  | succ M ih =>
    rintro ⟨kd, nn, s, keys, kids⟩ n v lvl pre W hM hr hbw hBW hj hN hlv hcost
    have hdd : ∀ k : Nat, (F.depth.isSome = true → 1 ≤ k) := fun k h => by rw [hd] at h; cases h
    have hr0 := And.intro hr (And.intro hcost (show lvl ≤ 1000000 by omega))
    obtain ⟨ka, va, kc, vc, rfl, _, _, hs, hkl, hvl, hkeys, hkids⟩ := rep_mk hr
    have hj1 := abide_alloc hJ hj (.cells #[.int .i64 kd, .int .i64 nn, .string s, .slice ka keys.length kc, .slice va kids.length vc] 25)
    obtain ⟨bx, hbx⟩ : ∃ bx : Obj, bx = .cells #[.int .i64 kd, .int .i64 nn, .string s, .slice ka keys.length kc, .slice va kids.length vc] 25 := ⟨_, rfl⟩
    have p4 : (W.alloc bx).cell? ⟨W.heap.size, 4, none⟩ = some (.slice va kids.length vc) := by
      subst hbx; exact (box_at (Below.refl (W.heap.size + 1) _)).2.2.2.2
    rw [← hbx] at hj1
    have hy0 := YieldAt.mono (hY (n - 1) pre ⟨(.mk kd nn s keys kids, .agg #[.int .i64 kd, .int .i64 nn, .string s, .slice ka keys.length kc, .slice va kids.length vc], lvl), hr0⟩ _ hj1 (by rw [countT] at hN; omega))
      (R' := fun e W' => (e = .returned (.bool true) ∧ (J (pre ++ [⟨(.mk kd nn s keys kids, .agg #[.int .i64 kd, .int .i64 nn, .string s, .slice ka keys.length kc, .slice va kids.length vc], lvl), hr0⟩]) W' ∧ Kp w.heap.size B (W.alloc bx) W') ∧ W'.cell? ⟨W.heap.size, 4, none⟩ = some (.slice va kids.length vc)) ∨ (e = .returned (.bool false) ∧ Jx (pre ++ [⟨(.mk kd nn s keys kids, .agg #[.int .i64 kd, .int .i64 nn, .string s, .slice ka keys.length kc, .slice va kids.length vc], lvl), hr0⟩]) W'))
      (fun e W' h => h.elim (fun ⟨h1, h2, h3⟩ => .inl ⟨h1, ⟨h2, h3⟩, h3.2 _ _ hBW p4⟩) .inr)
    obtain ⟨fn, tmps, assign, body, hy, hR⟩ := hy0
    dsimp only [encEl] at hy
    subst hbx
    clear p4
    refine callsIn_of_wp Tryd.func89 rfl h89 ?_ hro
    simp only [Tryd.ntmps89, List.size_toArray, List.length_cons, List.length_nil, Nat.reduceAdd, Nat.reduceSub, Array.replicate_succ, Array.replicate_zero, List.push_toArray, List.append_toArray, List.nil_append, List.cons_append]
    gi_wp2_with ((try refine ⟨hdd _, ?_⟩); refine hR.mono ?_; clear hR; rintro e W2 (⟨rfl, hJ2, x4⟩ | ⟨rfl, hx2⟩))
    · obtain ⟨hJ2, hk2⟩ := hJ2
      clear hy x4 hj1
      gi_loopw [17] (fun i wr => ∃ (k : Nat) (ys : List (El w)), i = .int .i64 k ∧ k ≤ kids.length ∧ ys.map El.key = (.mk kd nn s keys kids, lvl) :: preL (kids.take k) (lvl + 1) ∧ J (pre ++ ys) wr ∧ Kp w.heap.size B W wr) (fun i _ => kids.length - (intOf i).toNat)
      case atStart =>
        refine ⟨0, [⟨(.mk kd nn s keys kids, .agg #[.int .i64 kd, .int .i64 nn, .string s, .slice ka keys.length kc, .slice va kids.length vc], lvl), hr0⟩], rfl, Nat.zero_le _, by simp [preL, El.key], hJ2, ?_⟩
        exact ((Kp.refl _ _ W).alloc hbw.size _).trans hk2
      case round =>
        clear hJ2 hk2
        obtain ⟨k, ys, rfl, hk, hys, hJk, hkp⟩ := hrel
        have hbk : Below w.heap.size w wr := hbw.trans hkp.1
        have hBk : B ≤ wr.heap.size := Nat.le_trans hBW hkp.1.size
        by_cases hlt : k < kids.length
        · obtain ⟨b, off, ka', kc', va', vc', s', keys', kids', kd', n', rfl, hlk, g0, g1, g2, g3, g4, _⟩ := kid_full (KidsIn.mono (Same.of_below hbk) _ _ _ hkids) k hlt
          obtain ⟨b2, off2, ka2, kc2, va2, vc2, s2, keys2, kids2, kd2, n2, hbo, hlk2, f0, f1, f2, f3, f4, hrk⟩ := kid_full hkids k hlt
          cases hbo
          have f0' := (Same.of_below hbk).cell f0
          have f1' := (Same.of_below hbk).cell f1
          have f2' := (Same.of_below hbk).cell f2
          have f3' := (Same.of_below hbk).cell f3
          have f4' := (Same.of_below hbk).cell f4
          clear g0 g1 g2 g3 g4 f0 f1 f2 f3 f4 hlk hlk2
          have hcnt := countL_take kids k hlt
          have hcnt2 := countL_le kids (k + 1)
          have hdt := deepL_take kids k hlt
          have hdt2 := deepL_le kids (k + 1)
          have hylen : ys.length = 1 + countL (kids.take k) := by
            have := congrArg List.length hys
            rw [List.length_map, List.length_cons, preL_len] at this; omega
          have hpre := preL_take kids k hlt (lvl + 1)
          rw [countT] at hN
          rw [deepT] at hlv
          have hih := ih kids[k] (n - 1) _ (lvl + 1) (pre ++ ys) (wr.alloc (.cells #[.int .i64 kd2, .int .i64 n2, .string s2, .slice ka2 keys2.length kc2, .slice va2 kids2.length vc2] 25)) (kid_size hM hlt) hrk (hbk.alloc hbk.size _) (by simp; omega) (abide_alloc hJ hJk _) (by rw [List.length_append]; omega) (by omega) (by have := cost_kid' hlt; rw [costT] at hcost; omega)
          have Hp := Lib.hid (And.intro hys hpre)
          have hlv2 : (lvl : Int) + 1 ≤ 1000000 := by omega
          rw [show (((lvl + 1 : Nat)) : Int) = (lvl : Int) + 1 by omega] at hih
          clear hcnt hcnt2 hdt hdt2 hylen hpre hys ih
          gi_wp2_with ((try refine ⟨hdd _, ?_⟩); gi_at_call 89; refine hih.mono ?_; clear hih; rintro e W3 (⟨rfl, hJ3⟩ | ⟨rfl, hx3⟩))
          · obtain ⟨zs, hz, hJ3, hk3⟩ := hJ3
            go_roundw
            case rel =>
              refine ⟨k + 1, ys ++ zs, by go_num, by omega, ?_, by rw [← List.append_assoc]; exact hJ3, (hkp.alloc hbk.size _).trans hk3⟩
              rw [List.map_append, Hp.out.1, hz, Hp.out.2]; rfl
            case measure => simp [intOf]; omega
          · obtain ⟨zs, hz, hx3⟩ := hx3
            go_ret
            refine .inr ⟨rfl, ys ++ zs, ?_, by rw [← List.append_assoc]; exact hx3⟩
            rw [List.map_append, Hp.out.1]
            obtain ⟨r, hr'⟩ := hz
            refine ⟨r ++ preL (kids.drop (k + 1)) (lvl + 1), ?_⟩
            have e1 := preL_append (kids.take (k + 1)) (kids.drop (k + 1)) (lvl + 1)
            rw [List.take_append_drop, Hp.out.2, ← hr'] at e1
            rw [preT, e1]
            simp
        · gi_wp2
          go_ret
          refine .inl ⟨rfl, ys, ?_, hJk, hkp⟩
          rw [hys, take_end _ _ hk hlt, preT]
    · go_ret
      exact .inr ⟨rfl, [⟨(.mk kd nn s keys kids, .agg #[.int .i64 kd, .int .i64 nn, .string s, .slice ka keys.length kc, .slice va kids.length vc], lvl), hr0⟩], ⟨preL kids (lvl + 1), by simp [preT, El.key]⟩, hx2⟩
end Go.Proofs.YtfbeeaibejggdaaDoor
