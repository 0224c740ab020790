import Derived.Test.YtfbeeaibejggdaaDoorBA
import Derived.StillTailTactics
import Derived.Deep.Cut
namespace Go.Proofs.YtfbeeaibejggdaaDoor
open Go.RowKit

mutual
def sameT : T → T → Bool
  | .mk k n s keys kids, t => decide (k = t.kind) && decide (n = t.n) && decide (s = t.s) && decide (keys = t.keys) && sameL kids t.kids
def sameL : List T → List T → Bool
  | [], [] => true
  | a :: r, b :: q => sameT a b && sameL r q
  | [], _ :: _ => false
  | _ :: _, [] => false
end

theorem sameL_len : ∀ (a b : List T), sameL a b = true → a.length = b.length
  | [], [], _ => rfl
  | a :: r, b :: q, h => by rw [sameL, Bool.and_eq_true] at h; simp [sameL_len r q h.2]
  | [], _ :: _, h => by simp [sameL] at h
  | _ :: _, [], h => by simp [sameL] at h
theorem sameL_yes : ∀ (a b : List T) (hl : a.length = b.length), (∀ j, (h : j < a.length) → sameT a[j] (b[j]'(by omega)) = true) → sameL a b = true
  | [], [], _, _ => rfl
  | a :: r, b :: q, hl, h => by
    rw [sameL, sameL_yes r q (by simpa using hl) (fun j hj => by have := h (j + 1) (by simpa using hj); simpa using this)]
    have := h 0 (by simp)
    simpa using this
theorem sameL_no : ∀ (a b : List T) (hl : a.length = b.length) (j : Nat) (h : j < a.length), sameT a[j] (b[j]'(by omega)) = false → sameL a b = false
  | [], _, _, _, h, _ => absurd h (Nat.not_lt_zero _)
  | a :: r, [], hl, _, _, _ => by simp at hl
  | a :: r, b :: q, hl, j, h, hf => by
    rw [sameL]
    cases j with
    | zero => have : sameT a b = false := by simpa using hf
              rw [this, Bool.false_and]
    | succ j => rw [sameL_no r q (by simpa using hl) j (by simpa using h) (by simpa using hf), Bool.and_false]
mutual
theorem sameT_iff : ∀ (a b : T), sameT a b = true ↔ a = b
  | .mk k n s keys kids, .mk k' n' s' keys' kids' => by
    show (decide (k = k') && decide (n = n') && decide (s = s') && decide (keys = keys') && sameL kids kids') = true ↔ _
    simp only [Bool.and_eq_true, decide_eq_true_eq, sameL_iff kids kids', T.mk.injEq, and_assoc]
theorem sameL_iff : ∀ (a b : List T), sameL a b = true ↔ a = b
  | [], [] => by simp [sameL]
  | a :: r, b :: q => by rw [sameL, Bool.and_eq_true, sameT_iff a b, sameL_iff r q]; simp
  | [], _ :: _ => by simp [sameL]
  | _ :: _, [] => by simp [sameL]
end

def Head (a b : T) : Prop := a.kind = b.kind ∧ a.n = b.n ∧ a.s = b.s ∧ a.keys.length = b.keys.length ∧ a.kids.length = b.kids.length
theorem head_of_same {a b : T} (h : sameT a b = true) : Head a b := by
  have := (sameT_iff a b).1 h; subst this; exact ⟨rfl, rfl, rfl, rfl, rfl⟩
theorem toList_inj {s s' : ByteArray} (h : s.toList = s'.toList) : s = s' := by
  obtain ⟨⟨l⟩⟩ := s; obtain ⟨⟨l'⟩⟩ := s'; simp at h; rw [h]

set_option maxHeartbeats 1000000 in
theorem refSame_head (a b : T) (va vb : Value) (w : World) (ha : Rep w a va) (hb : Rep w b vb) (hd : ¬ Head a b) :
    Calls Tryd.prog 19 #[va, vb] w fun e w' => e = .returned (.bool false) ∧ Below w.heap.size w w' := by
  obtain ⟨kd, n, s, keys, kids⟩ := a
  obtain ⟨kd', n', s', keys', kids'⟩ := b
  obtain ⟨ka, va, kc, vc, rfl, _, _, hs, hkl, hvl, hkeys, hkids⟩ := rep_mk ha
  obtain ⟨ka', va', kc', vc', rfl, _, _, hs', hkl', hvl', hkeys', hkids'⟩ := rep_mk hb
  have HD := Lib.hid hd
  clear hd
  go_enter Tryd.func19, Tryd.ntmps19
  go_wp2_with fail
  · go_ret
    exact ⟨rfl, ((Below.refl _ _).alloc (Nat.le_refl _) _).alloc (by simp) _⟩
  · go_ret
    exact ⟨rfl, ((Below.refl _ _).alloc (Nat.le_refl _) _).alloc (by simp) _⟩
  · go_ret
    exact ⟨rfl, ((Below.refl _ _).alloc (Nat.le_refl _) _).alloc (by simp) _⟩
  · go_ret
    exact ⟨rfl, ((Below.refl _ _).alloc (Nat.le_refl _) _).alloc (by simp) _⟩
  · go_ret
    exact ⟨rfl, ((Below.refl _ _).alloc (Nat.le_refl _) _).alloc (by simp) _⟩
  · rename (kd = kd') => e1
    rename (n = n') => e2
    rename (s.toList = s'.toList) => e3
    rename ((keys.length : Int) = (keys'.length : Int)) => e4
    rename (((kids.length : Int) != (kids'.length : Int)) = false) => e5
    exact absurd ⟨e1, e2, toList_inj e3, by show keys.length = keys'.length; omega, by show kids.length = kids'.length; have := eq_of_beq (not_f (by rw [← e5]; rfl)); omega⟩ HD.out

set_option maxHeartbeats 2000000 in
set_option maxRecDepth 100000 in
theorem refSame_step (kd n : Int) (s : ByteArray) (keys keys' : List Int) (kids kids' : List T) (va vb : Value) (w : World) (ha : Rep w (.mk kd n s keys kids) va) (hb : Rep w (.mk kd n s keys' kids') vb)
    (HL : Hid (keys'.length = keys.length ∧ kids'.length = kids.length))
    (ih : ∀ j, (h : j < kids.length) → ∀ (va vb : Value) (w : World), Rep w kids[j] va → Rep w (kids'[j]'(by have := HL.out.2; omega)) vb → Calls Tryd.prog 19 #[va, vb] w fun e w' => e = .returned (.bool (sameT kids[j] (kids'[j]'(by have := HL.out.2; omega)))) ∧ Below w.heap.size w w') :
    Calls Tryd.prog 19 #[va, vb] w fun e w' => e = .returned (.bool (decide (keys = keys') && sameL kids kids')) ∧ Below w.heap.size w w' := by
  obtain ⟨ka, va, kc, vc, rfl, _, _, hs, hkl, hvl, hkeys, hkids⟩ := rep_mk ha
  obtain ⟨ka', va', kc', vc', rfl, _, _, hs', hkl', hvl', hkeys', hkids'⟩ := rep_mk hb
  rw [HL.out.1, HL.out.2]
  obtain ⟨X, hX⟩ : ∃ X : Obj, X = .cells #[.int .i64 kd, .int .i64 n, .string s, .slice ka keys.length kc, .slice va kids.length vc] 25 := ⟨_, rfl⟩
  obtain ⟨Y, hY⟩ : ∃ Y : Obj, Y = .cells #[.int .i64 kd, .int .i64 n, .string s, .slice ka' keys.length kc', .slice va' kids.length vc'] 25 := ⟨_, rfl⟩
  have hcells : ∀ wr, Below (w.heap.size + 2) ((w.alloc X).alloc Y) wr → (wr.cell? ⟨w.heap.size, 3, none⟩ = some (.slice ka keys.length kc) ∧ wr.cell? ⟨w.heap.size, 4, none⟩ = some (.slice va kids.length vc)) ∧ wr.cell? ⟨w.heap.size + 1, 3, none⟩ = some (.slice ka' keys.length kc') ∧ wr.cell? ⟨w.heap.size + 1, 4, none⟩ = some (.slice va' kids.length vc') := fun wr h => by
    subst hX; subst hY
    refine ⟨⟨?_, ?_⟩, ?_, ?_⟩ <;> (rw [h.cell (by simp)]; simp [go_sem])
  have hold : ∀ wr, Below (w.heap.size + 2) ((w.alloc X).alloc Y) wr → Below w.heap.size w wr := fun wr h =>
    (((Below.refl _ w).alloc (Nat.le_refl _) X).alloc (by simp) Y).trans (h.mono (by omega))
  have Hc := Lib.hid hcells
  have Ho := Lib.hid hold
  clear hcells hold
  go_enter Tryd.func19, Tryd.ntmps19
  go_wp2_with fail
  rw [← hX, ← hY]
  go_loopw [5] (fun i wr => ∃ k : Nat, i = .int .i64 k ∧ k ≤ keys.length ∧ (∀ j, j < k → keys.getD j 0 = keys'.getD j 0) ∧ Below (w.heap.size + 2) ((w.alloc X).alloc Y) wr) (fun i _ => keys.length - (intOf i).toNat)
  case atStart => exact ⟨0, rfl, Nat.zero_le _, fun _ h => absurd h (Nat.not_lt_zero _), Below.refl _ _⟩
  case round =>
    obtain ⟨k, rfl, hk, hok, hbl⟩ := hrel
    have Hok := Lib.hid hok
    clear hok
    obtain ⟨⟨x3, x4⟩, y3, y4⟩ := Hc.out wr hbl
    have hw := Ho.out wr hbl
    by_cases hlt : k < keys.length
    · obtain ⟨b, off, rfl, hc, _⟩ := (hkeys.mono (Same.of_below hw)) k hlt
      obtain ⟨b', off', rfl, hc', _⟩ := (hkeys'.mono (Same.of_below hw)) k (by have := HL.out.1; omega)
      obtain ⟨p, hp⟩ : ∃ p, keys.getD k 0 = p := ⟨_, rfl⟩
      obtain ⟨q, hq⟩ : ∃ q, keys'.getD k 0 = q := ⟨_, rfl⟩
      rw [hp] at hc
      rw [hq] at hc'
      have Hpq := Lib.hid (And.intro hp hq)
      clear hp hq
      have w4 : (k : Int) < (keys.length : Int) := by omega
      by_cases e : p = q
      · have e' : (p != q) = false := by simp [e]
        have E := Lib.hid e
        clear e
        go_wp2_with fail
        go_quiet (fail)
        go_wp2_with fail
        go_roundw
        case rel =>
          refine ⟨k + 1, by go_num, by omega, fun j hj => ?_, below_drewN hbl _⟩
          by_cases ej : j = k
          · subst ej; rw [Hpq.out.1, Hpq.out.2]; exact E.out
          · exact Hok.out j (by omega)
        case measure => simp [intOf]; omega
      · have e' : (p != q) = true := by simp [e]
        have E := Lib.hid e
        clear e
        go_wp2_with fail
        go_quiet (fail)
        go_wp2_with fail
        go_ret
        refine ⟨ret_bool ?_, below_drewN hw _⟩
        have : keys ≠ keys' := fun h => E.out (by rw [← Hpq.out.1, ← Hpq.out.2, h])
        simp [this]
    · have hkk : Hid (keys = keys') := Lib.hid (by
        apply List.ext_getElem (by have := HL.out.1; omega)
        intro j h1 h2
        have := Hok.out j (by omega)
        simpa [h1, h2] using this)
      go_wp2_with fail
      clear x3 x4 y3 y4 hw
      go_loopw [6] (fun i wr => ∃ k : Nat, i = .int .i64 k ∧ k ≤ kids.length ∧ (∀ j, (h : j < kids.length) → j < k → sameT kids[j] (kids'[j]'(by have := HL.out.2; omega)) = true) ∧ Below (w.heap.size + 2) ((w.alloc X).alloc Y) wr) (fun i _ => kids.length - (intOf i).toNat)
      case atStart => exact ⟨0, rfl, Nat.zero_le _, fun _ _ h => absurd h (Nat.not_lt_zero _), hbl⟩
      case round =>
        clear hbl Hok hlt hk
        obtain ⟨k, rfl, hk, hok, hbl⟩ := hrel
        have Hok := Lib.hid hok
        clear hok
        obtain ⟨⟨x3, x4⟩, y3, y4⟩ := Hc.out wr hbl
        have hw := Ho.out wr hbl
        by_cases hlt : k < kids.length
        · have hlt' : k < kids'.length := by have := HL.out.2; omega
          obtain ⟨b, off, u0, u1, u2, u3, u4, rfl, g0, g1, g2, g3, g4, hr1⟩ := KidsIn.at kids 0 k hlt (KidsIn.mono (Same.of_below hw) _ _ _ hkids)
          obtain ⟨b', off', v0, v1, v2, v3, v4, rfl, f0, f1, f2, f3, f4, hr2⟩ := KidsIn.at kids' 0 k hlt' (KidsIn.mono (Same.of_below hw) _ _ _ hkids')
          simp only [Nat.zero_add] at g0 g1 g2 g3 g4 f0 f1 f2 f3 f4
          have w4 : (k : Int) < (kids.length : Int) := by omega
          have hih := ih k hlt _ _ _ (Rep.mono (Same.of_below (Below.refl _ wr).drew) _ _ hr1) (Rep.mono (Same.of_below (Below.refl _ wr).drew) _ _ hr2)
          obtain ⟨sb, hsb⟩ : ∃ sb, sameT kids[k] kids'[k] = sb := ⟨_, rfl⟩
          rw [hsb] at hih
          have Hsb := Lib.hid hsb
          clear hsb
          have hbl2 := hbl.drew
          have hw2 := hw.drew
          go_upto_region 11 with fail
          go_still_tail 10, (by kernel_rfl)
          change wpList _ _ _ _ _ wr.drew
          generalize wr.drew = w2 at *
          clear hbl hw x3 x4 y3 y4
          go_wp2_with (go_at_call 19; refine hih.mono ?_; rintro e w1 ⟨rfl, hb1⟩)
          · rename ((!sb) = true) => e1
            go_ret
            refine ⟨ret_bool ?_, hw2.trans (hb1.mono hw2.size)⟩
            rw [sameL_no kids kids' HL.out.2.symm k hlt (by rw [Hsb.out]; exact not_t e1)]; simp
          · rename ((!sb) = false) => e1
            go_roundw
            case rel =>
              refine ⟨k + 1, by go_num, by omega, fun j hj hj' => ?_, hbl2.trans (hb1.mono (by have := hbl2.size; simp at this; omega))⟩
              by_cases ej : j = k
              · subst ej; rw [Hsb.out]; exact not_f e1
              · exact Hok.out j hj (by omega)
            case measure => simp [intOf]; omega
        · go_wp2_with fail
          go_ret
          refine ⟨ret_bool ?_, hw⟩
          have h1 : sameL kids kids' = true := sameL_yes kids kids' HL.out.2.symm (fun j hj => Hok.out j hj (by omega))
          rw [h1, decide_eq_true hkk.out]; rfl

theorem refSame_all (N : Nat) : ∀ (a b : T) (va vb : Value) (w : World), SizeOf.sizeOf a ≤ N → Rep w a va → Rep w b vb →
    Calls Tryd.prog 19 #[va, vb] w fun e w' => e = .returned (.bool (sameT a b)) ∧ Below w.heap.size w w' := by
  induction N with
  | zero => intro a; cases a; intro _ _ _ _ h; simp at h
  | succ N ih =>
    intro a b va vb w hN ha hb
    by_cases hd : Head a b
    · obtain ⟨kd, n, s, keys, kids⟩ := a
      obtain ⟨kd', n', s', keys', kids'⟩ := b
      obtain ⟨h1, h2, h3, h4, h5⟩ := hd
      simp only [T.kind, T.n, T.s, T.keys, T.kids] at h1 h2 h3 h4 h5
      subst h1; subst h2; subst h3
      have := refSame_step kd n s keys keys' kids kids' va vb w ha hb (Lib.hid ⟨h4.symm, h5.symm⟩) (fun j hj va vb w h1 h2 => ih _ _ va vb w (kid_size hN hj) h1 h2)
      refine this.mono fun e w' ⟨he, hb⟩ => ⟨?_, hb⟩
      rw [he]
      exact ret_bool (by
        show _ = (decide (kd = kd) && decide (n = n) && decide (s = s) && decide (keys = keys') && sameL kids kids')
        simp)
    · have : sameT a b = false := by
        cases h : sameT a b with
        | false => rfl
        | true => exact absurd (head_of_same h) hd
      rw [this]
      exact refSame_head a b va vb w ha hb hd

theorem refSame_any (a b : T) (va vb : Value) (w : World) (ha : Rep w a va) (hb : Rep w b vb) :
    Calls Tryd.prog 19 #[va, vb] w fun e w' => e = .returned (.bool (sameT a b)) ∧ Below w.heap.size w w' := refSame_all _ a b va vb w (Nat.le_refl _) ha hb
end Go.Proofs.YtfbeeaibejggdaaDoor
