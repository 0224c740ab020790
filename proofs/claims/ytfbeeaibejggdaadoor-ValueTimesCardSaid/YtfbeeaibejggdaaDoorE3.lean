/- value.Same is the document's. -/
import Derived.Test.YtfbeeaibejggdaaDoorE1
import Derived.Test.YtfbeeaibejggdaaDoorFA
import Derived.Test.YtfbeeaibejggdaaDoorAC
import Derived.Test.YtfbeeaibejggdaaDoorAB
import Derived.Test.YtfbeeaibejggdaaDoorShelf
namespace Go.Proofs.YtfbeeaibejggdaaDoor
open Go.RowKit Go.Shelf

theorem equal_len (n m c d : Nat) (a a' : Option Addr) (w : World) (hn : n ≤ 17592186044416) (hm : m ≤ 17592186044416) (h : n ≠ m) :
    Calls Tryd.prog 68 #[.slice a n c, .slice a' m d] w fun e w' => e = .returned (.bool false) ∧ ∃ q, w' = w.drewN q := by
  have h1 : ((n : Int) != (m : Int)) = true := by rw [bne_iff_ne]; omega
  clear h
  go_enter Tryd.func68, Tryd.ntmps68
  go_wp2_with fail
  go_ret
  exact ⟨rfl, 0, rfl⟩

theorem keysEqual_any (keys keys' : List Int) (ka ka' : Option Addr) (c d : Nat) (w : World) (hn : keys.length ≤ 17592186044416) (hm : keys'.length ≤ 17592186044416) (hk : KeysIn w ka keys) (hk' : KeysIn w ka' keys') :
    Calls Tryd.prog 68 #[.slice ka keys.length c, .slice ka' keys'.length d] w fun e w' => e = .returned (.bool (decide (keys = keys'))) ∧ ∃ q, w' = w.drewN q := by
  by_cases h : keys.length = keys'.length
  · by_cases h0 : keys.length = 0
    · have e1 : keys = [] := List.length_eq_zero_iff.1 h0
      have e2 : keys' = [] := List.length_eq_zero_iff.1 (by omega)
      subst e1; subst e2
      refine (Tryd.slices_Equal_int_empty ka ka' c 0 d w (by omega)).mono ?_
      rintro e w' ⟨rfl, rfl⟩
      exact ⟨rfl, 0, rfl⟩
    · obtain ⟨b, off, rfl, _, _⟩ := hk 0 (by omega)
      obtain ⟨b', off', rfl, _, _⟩ := hk' 0 (by omega)
      refine (Tryd.slices_Equal_int b off keys.length c b' off' keys'.length d keys keys' w (Nat.le_refl _) (Nat.le_refl _) (by omega) (by omega) (fun j hj => ?_) (fun j hj => ?_)).mono ?_
      · obtain ⟨b1, o1, he, hc, _⟩ := hk j hj
        simp only [Option.some.injEq, Addr.mk.injEq, and_true] at he
        obtain ⟨rfl, rfl⟩ := he
        exact hc
      · obtain ⟨b1, o1, he, hc, _⟩ := hk' j hj
        simp only [Option.some.injEq, Addr.mk.injEq, and_true] at he
        obtain ⟨rfl, rfl⟩ := he
        exact hc
      · rintro e w' ⟨rfl, hq⟩
        refine ⟨ret_bool ?_, hq⟩
        rw [List.take_length, List.take_length]
        by_cases e : keys = keys'
        · subst e; simp
        · rw [decide_eq_false e]; simpa using e
  · rw [decide_eq_false (fun e => h (by rw [e]))]
    exact equal_len _ _ _ _ _ _ w hn hm h

theorem below_drewQ {B : Nat} {w w' : World} (h : Below B w w') {q : Nat} {w2 : World} (e : w2 = w'.drewN q) : Below B w w2 := by rw [e]; exact below_drewN h q

def Head2 (a b : T) : Prop := a.kind = b.kind ∧ a.n = b.n ∧ a.s = b.s ∧ a.kids.length = b.kids.length

set_option maxHeartbeats 1000000 in
set_option maxRecDepth 100000 in
theorem same_head (a b : T) (va vb : Value) (lv : Int) (w : World) (ha : Rep w a va) (hb : Rep w b vb) (h1 : 1 ≤ lv) (h2 : lv ≤ 262144) (hd : ¬ Head2 a b) :
    Calls Tryd.prog 41 #[va, vb, .int .i64 lv] w fun e w' => e = .returned (.bool false) ∧ Below w.heap.size w w' := by
  obtain ⟨kd, n, s, keys, kids⟩ := a
  obtain ⟨kd', n', s', keys', kids'⟩ := b
  obtain ⟨ka, va, kc, vc, rfl, _, _, hs, hkl, hvl, hkeys, hkids⟩ := rep_mk ha
  obtain ⟨ka', va', kc', vc', rfl, _, _, hs', hkl', hvl', hkeys', hkids'⟩ := rep_mk hb
  have HD := Lib.hid hd
  have hlv : decide ((262144 : Int) < lv) = false := by simp; omega
  clear hd
  go_enter Tryd.func41, Tryd.ntmps41
  go_wp2_with fail
  · go_ret
    exact ⟨rfl, ((Below.refl _ _).alloc (Nat.le_refl _) _).alloc (by simp) _⟩
  · go_ret
    exact ⟨rfl, ((Below.refl _ _).alloc (Nat.le_refl _) _).alloc (by simp) _⟩
  · go_ret
    exact ⟨rfl, ((Below.refl _ _).alloc (Nat.le_refl _) _).alloc (by simp) _⟩
  · go_ret
    exact ⟨rfl, ((Below.refl _ _).alloc (Nat.le_refl _) _).alloc (by simp) _⟩
  · rename (kd = kd') => e1
    rename (n = n') => e2
    rename ((!s.toList == s'.toList) = false) => e3
    rename ((kids.length : Int) = (kids'.length : Int)) => e4
    exact absurd ⟨e1, e2, toList_inj (eq_of_beq (not_f e3)), by show kids.length = kids'.length; omega⟩ HD.out

theorem deep_kid {l : List T} {k : Nat} (h : k < l.length) : deepT l[k] ≤ deepL l := by
  have h1 := deepL_take l k h
  have h2 := deepL_le l (k + 1)
  omega

set_option maxHeartbeats 2000000 in
set_option maxRecDepth 100000 in
theorem same_step (kd n : Int) (s : ByteArray) (keys keys' : List Int) (kids kids' : List T) (va vb : Value) (lv lv1 : Int) (w : World) (ha : Rep w (.mk kd n s keys kids) va) (hb : Rep w (.mk kd n s keys' kids') vb)
    (h1 : 1 ≤ lv) (h2 : lv ≤ 262144) (HLV : Hid (lv + 1 = lv1)) (HL : Hid (kids'.length = kids.length))
    (ih : ∀ j, (h : j < kids.length) → ∀ (va vb : Value) (w : World), Rep w kids[j] va → Rep w (kids'[j]'(by have := HL.out; omega)) vb → Calls Tryd.prog 41 #[va, vb, .int .i64 lv1] w fun e w' => e = .returned (.bool (sameT kids[j] (kids'[j]'(by have := HL.out; omega)))) ∧ Below w.heap.size w w') :
    Calls Tryd.prog 41 #[va, vb, .int .i64 lv] w fun e w' => e = .returned (.bool (decide (keys = keys') && sameL kids kids')) ∧ Below w.heap.size w w' := by
  obtain ⟨ka, va, kc, vc, rfl, _, _, hs, hkl, hvl, hkeys, hkids⟩ := rep_mk ha
  obtain ⟨ka', va', kc', vc', rfl, _, _, hs', hkl', hvl', hkeys', hkids'⟩ := rep_mk hb
  rw [HL.out]
  obtain ⟨X, hX⟩ : ∃ X : Obj, X = .cells #[.int .i64 kd, .int .i64 n, .string s, .slice ka keys.length kc, .slice va kids.length vc] 25 := ⟨_, rfl⟩
  obtain ⟨Y, hY⟩ : ∃ Y : Obj, Y = .cells #[.int .i64 kd, .int .i64 n, .string s, .slice ka' keys'.length kc', .slice va' kids.length vc'] 25 := ⟨_, rfl⟩
  have hcells : ∀ wr, Below (w.heap.size + 2) ((w.alloc X).alloc Y) wr → (wr.cell? ⟨w.heap.size, 3, none⟩ = some (.slice ka keys.length kc) ∧ wr.cell? ⟨w.heap.size, 4, none⟩ = some (.slice va kids.length vc)) ∧ wr.cell? ⟨w.heap.size + 1, 3, none⟩ = some (.slice ka' keys'.length kc') ∧ wr.cell? ⟨w.heap.size + 1, 4, none⟩ = some (.slice va' kids.length vc') := fun wr h => by
    subst hX; subst hY
    refine ⟨⟨?_, ?_⟩, ?_, ?_⟩ <;> (rw [h.cell (by simp)]; simp [go_sem])
  have hold : ∀ wr, Below (w.heap.size + 2) ((w.alloc X).alloc Y) wr → Below w.heap.size w wr := fun wr h =>
    (((Below.refl _ w).alloc (Nat.le_refl _) X).alloc (by simp) Y).trans (h.mono (by omega))
  have hsz : ((w.alloc X).alloc Y).heap.size = w.heap.size + 2 := by simp
  have hK := keysEqual_any keys keys' ka ka' kc kc' ((w.alloc X).alloc Y) hkl hkl' (hkeys.mono (Same.of_below (hold _ (Below.refl _ _)))) (hkeys'.mono (Same.of_below (hold _ (Below.refl _ _))))
  have Hc := Lib.hid hcells
  have Ho := Lib.hid hold
  have HZ := Lib.hid hsz
  have hlv : decide ((262144 : Int) < lv) = false := by simp; omega
  have hwr : IntKind.i64.wrap (lv + 1) = lv1 := by rw [← HLV.out]; exact IntWalk.i64_in _ (by omega)
  have HWR := Lib.hid hwr
  clear hcells hold hsz hwr
  by_cases hkk : keys = keys'
  · rw [decide_eq_true hkk] at hK ⊢
    clear hkk
    rw [hX, hY] at hK
    go_enter Tryd.func41, Tryd.ntmps41
    go_wp2_with (go_at_call 68; refine hK.mono ?_; rintro e w1 ⟨rfl, q, rfl⟩)
    rw [← hX, ← hY]
    clear hK
    go_loopw [50] (fun i wr => ∃ k : Nat, i = .int .i64 k ∧ k ≤ kids.length ∧ (∀ j, (h : j < kids.length) → j < k → sameT kids[j] (kids'[j]'(by have := HL.out; omega)) = true) ∧ Below (w.heap.size + 2) ((w.alloc X).alloc Y) wr) (fun i _ => kids.length - (intOf i).toNat)
    case atStart => exact ⟨0, rfl, Nat.zero_le _, fun _ _ h => absurd h (Nat.not_lt_zero _), below_drewN (Below.refl _ _) q⟩
    case round =>
      obtain ⟨k, rfl, hk, hok, hbl⟩ := hrel
      have Hok := Lib.hid hok
      clear hok
      by_cases hlt : k < kids.length
      · have hlt' : k < kids'.length := by have := HL.out; omega
        have hw0 := Ho.out wr hbl
        have hszr : w.heap.size + 2 ≤ wr.heap.size := by have := hbl.size; have := HZ.out; omega
        obtain ⟨b, off, u0, u1, u2, u3, u4, rfl, g0, g1, g2, g3, g4, hr1⟩ := KidsIn.at kids 0 k hlt (KidsIn.mono (Same.of_below hw0) _ _ _ hkids)
        simp only [Nat.zero_add] at g0 g1 g2 g3 g4
        obtain ⟨kk, kn, ks, sa, sb', sc, ta, tb', tc, rfl, rfl, rfl, rfl, rfl⟩ := rep_fields hr1
        obtain ⟨W2, hW2⟩ : ∃ W2, W2 = wr.alloc (.cells #[.int .i64 kk, .int .i64 kn, .string ks, .slice sa sb' sc, .slice ta tb' tc] 25) := ⟨_, rfl⟩
        have hbl2 : Below (w.heap.size + 2) ((w.alloc X).alloc Y) W2 := by rw [hW2]; exact hbl.alloc (by omega) _
        have hw := Ho.out W2 hbl2
        obtain ⟨b', off', v0, v1, v2, v3, v4, rfl, f0, f1, f2, f3, f4, hr2⟩ := KidsIn.at kids' 0 k hlt' (KidsIn.mono (Same.of_below hw) _ _ _ hkids')
        simp only [Nat.zero_add] at f0 f1 f2 f3 f4
        have hr1' := Rep.mono (same_alloc wr (.cells #[.int .i64 kk, .int .i64 kn, .string ks, .slice sa sb' sc, .slice ta tb' tc] 25)) _ _ hr1
        rw [← hW2] at hr1'
        obtain ⟨_, y3, y4⟩ := Hc.out W2 hbl2
        have hbx := heap_alloc_new wr (.cells #[.int .i64 kk, .int .i64 kn, .string ks, .slice sa sb' sc, .slice ta tb' tc] 25)
        rw [← hW2] at hbx
        obtain ⟨b0, b1, b2, b3, b4⟩ := five_cells hbx
        have w4 : (k : Int) < (kids.length : Int) := by omega
        have hih := ih k hlt _ _ W2.drew (Rep.mono (Same.of_below (Below.refl _ W2).drew) _ _ hr1') (Rep.mono (Same.of_below (Below.refl _ W2).drew) _ _ hr2)
        obtain ⟨sb, hsb⟩ : ∃ sb, sameT kids[k] kids'[k] = sb := ⟨_, rfl⟩
        rw [hsb] at hih
        have Hsb := Lib.hid hsb
        clear hsb
        have hbl3 := hbl2.drew
        have hw3 := hw.drew
        have hwr := HWR.out
        clear hbl hw0 hr1 hr1' hr2 hw y3 hbl2 hbx
        go_upto_region 8 with fail
        rw [← hW2]
        have HW2 := Lib.hid hW2
        clear hW2 g0 g1 g2 g3 g4
        go_still_tail 8, (by kernel_rfl)
        change wpList _ _ _ _ _ W2.drew
        generalize W2.drew = w2 at *
        clear y4 f0 f1 f2 f3 f4 b0 b1 b2 b3 b4 hwr
        go_wp2_with (go_at_call 41; refine hih.mono ?_; rintro e w1 ⟨rfl, hb1⟩)
        · rename ((!sb) = true) => e1
          go_ret
          refine ⟨ret_bool ?_, hw3.trans (hb1.mono hw3.size)⟩
          rw [sameL_no kids kids' HL.out.symm k hlt (by rw [Hsb.out]; exact not_t e1)]; rfl
        · rename ((!sb) = false) => e1
          go_roundw
          case rel =>
            refine ⟨k + 1, by go_num, by omega, fun j hj hj' => ?_, hbl3.trans (hb1.mono (by have := hbl3.size; have := HZ.out; omega))⟩
            by_cases ej : j = k
            · subst ej; rw [Hsb.out]; exact not_f e1
            · exact Hok.out j hj (by omega)
          case measure => simp [intOf]; omega
      · go_wp2_with fail
        go_ret
        refine ⟨ret_bool ?_, Ho.out wr hbl⟩
        have h1 : sameL kids kids' = true := sameL_yes kids kids' HL.out.symm (fun j hj => Hok.out j hj (by omega))
        rw [h1]; rfl
  · rw [decide_eq_false hkk] at hK ⊢
    clear hkk
    rw [hX, hY] at hK
    go_enter Tryd.func41, Tryd.ntmps41
    go_wp2_with (go_at_call 68; refine hK.mono ?_; rintro e w1 ⟨rfl, q, rfl⟩)
    go_ret
    exact ⟨ret_bool (by simp), Ho.out _ (by rw [hX, hY]; exact below_drewN (Below.refl _ _) q)⟩

theorem same_all (N : Nat) : ∀ (a b : T) (va vb : Value) (lv : Int) (w : World), SizeOf.sizeOf a ≤ N → Rep w a va → Rep w b vb → 1 ≤ lv → lv + deepT a ≤ 262145 →
    Calls Tryd.prog 41 #[va, vb, .int .i64 lv] w fun e w' => e = .returned (.bool (sameT a b)) ∧ Below w.heap.size w w' := by
  induction N with
  | zero => intro a; cases a; intro _ _ _ _ _ h; simp at h
  | succ N ih =>
    intro a b va vb lv w hN ha hb h1 h2
    have hdp : 1 ≤ deepT a := by cases a; rw [deepT]; omega
    by_cases hd : Head2 a b
    · obtain ⟨kd, n, s, keys, kids⟩ := a
      obtain ⟨kd', n', s', keys', kids'⟩ := b
      obtain ⟨e1, e2, e3, e5⟩ := hd
      simp only [T.kind, T.n, T.s, T.kids] at e1 e2 e3 e5
      subst e1; subst e2; subst e3
      rw [deepT] at h2
      have := same_step kd n s keys keys' kids kids' va vb lv (lv + 1) w ha hb h1 (by omega) (Lib.hid rfl) (Lib.hid e5.symm) (fun j hj va vb w g1 g2 => ih _ _ va vb (lv + 1) w (kid_size hN hj) g1 g2 (by omega) (by have := deep_kid hj; omega))
      refine this.mono fun e w' ⟨he, hb⟩ => ⟨?_, hb⟩
      rw [he]
      exact ret_bool (by
        show _ = (decide (kd = kd) && decide (n = n) && decide (s = s) && decide (keys = keys') && sameL kids kids')
        simp)
    · have : sameT a b = false := by
        cases h : sameT a b with
        | false => rfl
        | true => exact absurd (by have := head_of_same h; exact ⟨this.1, this.2.1, this.2.2.1, this.2.2.2.2⟩) hd
      rw [this]
      exact same_head a b va vb lv w ha hb h1 (by omega) hd

set_option maxHeartbeats 1000000 in
theorem same_any (a b : T) (va vb : Value) (w : World) (ha : Rep w a va) (hb : Rep w b vb) (hd : deepT a ≤ 262144) :
    Calls Tryd.prog 18 #[va, vb] w fun e w' => e = .returned (.bool (sameT a b)) ∧ Below w.heap.size w w' := by
  obtain ⟨ka, va, kc, vc, rfl, _, _, _, _, _, _, _⟩ := rep_agg ha
  obtain ⟨ka', va', kc', vc', rfl, _, _, _, _, _, _, _⟩ := rep_agg hb
  have hs : Same w ((w.alloc (.cells #[.int .i64 a.kind, .int .i64 a.n, .string a.s, .slice ka a.keys.length kc, .slice va a.kids.length vc] 25)).alloc (.cells #[.int .i64 b.kind, .int .i64 b.n, .string b.s, .slice ka' b.keys.length kc', .slice va' b.kids.length vc'] 25)) := fun x hx => by
    rw [same_alloc (w.alloc _) _ x (by simp; omega), same_alloc w _ x hx]
  have hm := same_all _ a b _ _ 1 _ (Nat.le_refl _) (Rep.mono hs _ _ ha) (Rep.mono hs _ _ hb) (by omega) (by omega)
  go_enter Tryd.func18, Tryd.ntmps18
  go_wp2_with (go_at_call 41; refine hm.mono ?_; rintro e w1 ⟨rfl, hb1⟩)
  go_ret
  exact ⟨rfl, (((Below.refl _ w).alloc (Nat.le_refl _) _).alloc (by simp) _).trans (hb1.mono (by simp; omega))⟩
end Go.Proofs.YtfbeeaibejggdaaDoor
