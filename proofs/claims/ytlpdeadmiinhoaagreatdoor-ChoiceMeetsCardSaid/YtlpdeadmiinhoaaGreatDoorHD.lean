/- firstList: those of one's list that the other one has. -/
import Derived.Test.YtlpdeadmiinhoaaGreatDoorHC
namespace Go.Proofs.YtlpdeadmiinhoaaGreatDoor
open Go.RowKit

theorem filter_snoc {l : List Int} {p : Int → Bool} {k : Nat} {x : Int} (hk : k < l.length) (hx : l.getD k 0 = x) : (l.take (k + 1)).filter p = if p x = true then (l.take k).filter p ++ [x] else (l.take k).filter p := by
  rw [take_snoc l k hk, hx, List.filter_append]
  by_cases h : p x = true <;> simp [h]
theorem chOut_mk {w w' : World} {c : Ch} {ck cd : Int} {cl : List Int} {a2 : Option Addr} {c2 : Nat} (h : Hid (c = ⟨ck, cd, cl⟩)) (hr : Row w.heap.size w' (.slice a2 cl.length c2) cl) (hb : Below w.heap.size w w') :
    ChOut w c (.returned (.agg #[.int .i64 ck, .int .i64 cd, .slice a2 cl.length c2])) w' := by
  rw [h.out]
  exact ⟨a2, c2, rfl, hr, hb⟩
theorem filter_short (l : List Int) (p : Int → Bool) (k : Nat) : ((l.take k).filter p).length ≤ l.length := by
  have h1 := List.length_filter_le p (l.take k)
  rw [List.length_take] at h1
  omega

set_option maxRecDepth 100000 in
set_option maxHeartbeats 3200000 in
theorem firstList_list (x y : Ch) (vx vy : Value) (w : World) (l : List Int) (hN : numsOf y = .list l) (hx : ChIn w x vx) (hy : ChIn w y vy) (hby : boundB y.list = true) (hlen : x.list.length ≤ 20) :
    Calls Tryz.prog 121 #[vx, vy] w (ChOut w (bareOf (x.list.filter l.contains))) := by
  have hy0 := hy
  obtain ⟨a, ca, rfl, _, _, hla, hina, _⟩ := hx
  obtain ⟨b, cb, rfl, _, _, _, _, _⟩ := hy
  obtain ⟨i0, hi0, hz0, hz1, hz2⟩ := info_parts Tryz.info3
  obtain ⟨X, hX⟩ : ∃ X : Obj, X = .cells #[.int .i64 x.kind, .int .i64 x.dflt, .slice a x.list.length ca] 24 := ⟨_, rfl⟩
  obtain ⟨Y, hY⟩ : ∃ Y : Obj, Y = .cells #[.int .i64 y.kind, .int .i64 y.dflt, .slice b y.list.length cb] 24 := ⟨_, rfl⟩
  obtain ⟨Z, hZ⟩ : ∃ Z : Obj, Z = .cells #[.int .i64 0, .int .i64 0, .slice none 0 0] 24 := ⟨_, rfl⟩
  have HI1 := Lib.hid fun (wr : World) (hi : In3 w X Y Z wr) => hina.mono hi.same
  have HA := Lib.hid fun (wr : World) (hi : In3 w X Y Z wr) => (ask_list hN hy0 hby wr hi.same).mono fun e w' ⟨a', cap', h1, h2, h3, h4⟩ => (⟨a', cap', h1, h2, h3, hi.next h4⟩ : ∃ a' cap', e = Ending.returned (.iface 107 (.slice a' l.length cap')) ∧ l.length ≤ 17592186044416 ∧ IntsIn w' a' l ∧ In3 w X Y Z w')
  have HC := Lib.hid fun (wr : World) (h : In3 w X Y Z wr) => In3.cells (hX ▸ hY ▸ hZ ▸ h)
  have HF : In3 w X Y Z (((w.alloc (.cells #[.int .i64 x.kind, .int .i64 x.dflt, .slice a x.list.length ca] 24)).alloc (.cells #[.int .i64 y.kind, .int .i64 y.dflt, .slice b y.list.length cb] 24)).alloc (.cells #[.int .i64 0, .int .i64 0, .slice none 0 0] 24)) := hX ▸ hY ▸ hZ ▸ In3.first w X Y Z
  have HFr := Lib.hid fun (wr : World) (o : Nat) (h : In3 w X Y Z wr) => In3.free hZ h o
  have hm := m_listed_has
  obtain ⟨xk, xd, L⟩ := x
  obtain ⟨yk, yd, M⟩ := y
  simp only at hla hlen HI1 HA HC HF ⊢
  clear hX hY hZ hy0 hby hina hN
  obtain ⟨⟨p0, p1, p2⟩, ⟨q0, q1, q2⟩, r0, r1, r2⟩ := HC.out _ HF
  go_enter Tryz.func121, Tryz.ntmps121
  go_upto_region 3 with (go_at_call 52; (with_reducible refine (HA.out _ HF).mono ?_); rintro e w1 ⟨a', cap', rfl, hk1, hk2, hi1⟩)
  clear HF p0 p1 p2 q0 q1 q2 r0 r1 r2
  have HH := Lib.hid fun (wr : World) (n : Int) (hb : Below w1.heap.size w1 wr) => listed_has l a' cap' n wr hk1 (hk2.mono (Same.of_below hb))
  obtain ⟨⟨p0, p1, p2⟩, ⟨q0, q1, q2⟩, r0, r1, r2⟩ := HC.out _ hi1
  go_wp2_with fail
  have hw1 : w.heap.size + 3 ≤ w1.heap.size := hi1.size
  clear p0 p1 p2 q0 q1 q2 r0 r1 r2
  go_loopw [6, 14] (fun v i wr => ∃ k : Nat, i = .int .i64 k ∧ k ≤ L.length ∧ Row w1.heap.size wr v ((L.take k).filter (l.contains)) ∧ Below w1.heap.size w1 wr) (fun _ i _ => L.length - (intOf i).toNat)
  case atStart => exact ⟨0, rfl, Nat.zero_le _, Row.nil _ _, Below.refl _ _⟩
  case round =>
    obtain ⟨k, rfl, hk, hrow, hbl⟩ := hrel
    rename_i wr _
    by_cases hlt : k < L.length
    · obtain ⟨bl, off, rfl, hcell, _⟩ := HI1.out _ (hi1.next hbl) k hlt
      obtain ⟨z, hz⟩ : ∃ z, L.getD k 0 = z := ⟨_, rfl⟩
      rw [hz] at hcell
      have hcall := HH.out wr z hbl
      have hsn := filter_snoc (p := l.contains) hlt hz
      have Hlen : Hid (((L.take k).filter (l.contains)).length ≤ 100) := Lib.hid (by have := filter_short L (l.contains) k; omega)
      have hbs : w1.heap.size ≤ wr.heap.size := hbl.size
      obtain ⟨B, hB⟩ : ∃ B, (l.contains) z = B := ⟨_, rfl⟩
      rw [hB] at hcall hsn
      have Hsn := Lib.hid hsn
      obtain ⟨P, hP⟩ : ∃ P, (L.take k).filter (l.contains) = P := ⟨_, rfl⟩
      rw [hP] at hrow Hsn Hlen
      clear hz hB hsn hP
      cases B with
      | true =>
        have HT : Hid ((L.take (k + 1)).filter (l.contains) = P ++ [z]) := Lib.hid (by have hq := Hsn.out; rw [if_pos rfl] at hq; exact hq)
        clear Hsn
        go_wp2_with (first
          | (go_at_call 245; (with_reducible refine hcall.mono ?_); rintro e w2 ⟨rfl, rfl⟩)
          | (at_builtin; refine wpList_append_own _ rfl _ _ 22 rfl w1.heap.size 3 i0 (.int .i64 0) 1 8 Tryz.underlying22 hi0 hz0 hz1 hz2 rfl (by decide) _ _ _ rfl (World.ownsRow.alloc hrow _) ⟨wr.heap.size, 0, none⟩ 1 1 [.int .i64 z] rfl rfl ?c1 ?c2 ?c3 ?c4 ?c5 ?_))
        case c1 =>
          intro j u hj
          match j, hj with
          | 0, hj => simp at hj; subst hj; simp [Addr.add]
        case c2 => intro u hu; simp at hu; subst hu; rfl
        case c3 => have := Hlen.out; unfold maxLen; omega
        case c4 => have := Hlen.out; omega
        case c5 => have := Below.size hbl; simp; omega
        · intro v' w3 hown' hgrow _
          have hb1 := Row.grown hrow hbl (Below.size hbl) hgrow
          have hr1 := Row.push hown'
          clear hown' hgrow hrow hbl
          go_wp2_with fail
          go_roundw
          case rel => exact ⟨k + 1, by go_num, by omega, by rw [HT.out]; exact hr1, hb1⟩
          case measure => simp [intOf]; omega
      | false =>
        have HT : Hid ((L.take (k + 1)).filter (l.contains) = P) := Lib.hid (by have hq := Hsn.out; rw [if_neg (by simp)] at hq; exact hq)
        clear Hsn
        go_wp2_with (go_at_call 245; (with_reducible refine hcall.mono ?_); rintro e w2 ⟨rfl, rfl⟩)
        go_roundw
        case rel => exact ⟨k + 1, by go_num, by omega, by rw [HT.out]; exact hrow, hbl⟩
        case measure => simp [intOf]; omega
    · have HT : Hid ((L.take k).filter (l.contains) = L.filter (l.contains)) := Lib.hid (by rw [List.take_of_length_le (by omega)])
      obtain ⟨av, cv, rfl⟩ := hrow.slice
      have Hlen : Hid (((L.take k).filter (l.contains)).length ≤ 100) := Lib.hid (by have := filter_short L (l.contains) k; omega)
      rw [HT.out] at hrow Hlen ⊢
      obtain ⟨R, hR⟩ : ∃ R, L.filter (l.contains) = R := ⟨_, rfl⟩
      have HR := Lib.hid hR
      rw [hR] at hrow Hlen ⊢
      have hlo := listOf_any R av cv wr (by have := Hlen.out; omega)
      obtain ⟨a2, c2, hv, hlist, hrw⟩ := listV_eq R av cv
      rw [hv] at hlo
      have Hrw := Lib.hid hrw
      have hi2 := hi1.next hbl
      clear hR HT hv hrw hlist
      obtain ⟨ck, hck⟩ : ∃ ck, (bareOf R).kind = ck := ⟨_, rfl⟩
      obtain ⟨cd, hcd⟩ : ∃ cd, (bareOf R).dflt = cd := ⟨_, rfl⟩
      obtain ⟨cl, hcl⟩ : ∃ cl, (bareOf R).list = cl := ⟨_, rfl⟩
      have HK : Hid (bareOf R = ⟨ck, cd, cl⟩) := Lib.hid (by rw [← hck, ← hcd, ← hcl])
      rw [hck, hcd, hcl] at hlo
      rw [hcl] at Hrw
      clear hck hcd hcl
      go_wp2_with (go_at_call 141; (with_reducible refine hlo.mono ?_); rintro e w4 ⟨rfl, hb4⟩; have hi4 := hi2.next hb4; obtain ⟨_, _, r0, r1, r2⟩ := HC.out _ hi4; have f0 := HFr.out w4 0 hi4; have f1 := HFr.out w4 1 hi4; have f2 := HFr.out w4 2 hi4)
      have HKK : Hid (bareOf (L.filter (l.contains)) = ⟨ck, cd, cl⟩) := Lib.hid (by rw [HR.out, HK.out])
      refine bodyPost_ret (v := .agg #[.int .i64 ck, .int .i64 cd, .slice a2 cl.length c2]) (by simp [results, Tryz.results121, go_sem, r0, r1, r2]) rfl (chOut_mk HKK ?_ ?_)
      · have hr4 := Hrw.out _ _ (hrow.below hb4)
        exact (((hr4.setCell (by simp; omega) _).setCell (by simp; omega) _).setCell (by simp; omega) _).weaken (by omega)
      · exact ((hi4.out.setCell (by simp; omega) _).setCell (by simp; omega) _).setCell (by simp; omega) _

set_option maxRecDepth 100000 in
set_option maxHeartbeats 3200000 in
theorem firstList_step (x y : Ch) (vx vy : Value) (w : World) (s : Sp) (hN : numsOf y = .step s) (hx : ChIn w x vx) (hy : ChIn w y vy) (hby : boundB y.list = true) (hlen : x.list.length ≤ 20) :
    Calls Tryz.prog 121 #[vx, vy] w (ChOut w (bareOf (x.list.filter s.has))) := by
  have hy0 := hy
  obtain ⟨a, ca, rfl, _, _, hla, hina, _⟩ := hx
  obtain ⟨b, cb, rfl, _, _, _, _, _⟩ := hy
  obtain ⟨i0, hi0, hz0, hz1, hz2⟩ := info_parts Tryz.info3
  obtain ⟨X, hX⟩ : ∃ X : Obj, X = .cells #[.int .i64 x.kind, .int .i64 x.dflt, .slice a x.list.length ca] 24 := ⟨_, rfl⟩
  obtain ⟨Y, hY⟩ : ∃ Y : Obj, Y = .cells #[.int .i64 y.kind, .int .i64 y.dflt, .slice b y.list.length cb] 24 := ⟨_, rfl⟩
  obtain ⟨Z, hZ⟩ : ∃ Z : Obj, Z = .cells #[.int .i64 0, .int .i64 0, .slice none 0 0] 24 := ⟨_, rfl⟩
  have HI1 := Lib.hid fun (wr : World) (hi : In3 w X Y Z wr) => hina.mono hi.same
  have HA := Lib.hid fun (wr : World) (hi : In3 w X Y Z wr) => (ask_step hN hy0 hby wr hi.same).mono fun e w' ⟨h1, h2, h4⟩ => (⟨h1, h2, hi.next h4⟩ : e = Ending.returned (.iface 110 s.val) ∧ s.Nice ∧ In3 w X Y Z w')
  have HC := Lib.hid fun (wr : World) (h : In3 w X Y Z wr) => In3.cells (hX ▸ hY ▸ hZ ▸ h)
  have HF : In3 w X Y Z (((w.alloc (.cells #[.int .i64 x.kind, .int .i64 x.dflt, .slice a x.list.length ca] 24)).alloc (.cells #[.int .i64 y.kind, .int .i64 y.dflt, .slice b y.list.length cb] 24)).alloc (.cells #[.int .i64 0, .int .i64 0, .slice none 0 0] 24)) := hX ▸ hY ▸ hZ ▸ In3.first w X Y Z
  have HFr := Lib.hid fun (wr : World) (o : Nat) (h : In3 w X Y Z wr) => In3.free hZ h o
  have hm := m_stepped_has
  obtain ⟨xk, xd, L⟩ := x
  obtain ⟨yk, yd, M⟩ := y
  simp only at hla hlen HI1 HA HC HF ⊢
  obtain ⟨sl, sh, st⟩ := s
  unfold Sp.val at HA
  simp only at HA
  clear hX hY hZ hy0 hby hina hN
  obtain ⟨⟨p0, p1, p2⟩, ⟨q0, q1, q2⟩, r0, r1, r2⟩ := HC.out _ HF
  go_enter Tryz.func121, Tryz.ntmps121
  go_upto_region 3 with (go_at_call 52; (with_reducible refine (HA.out _ HF).mono ?_); rintro e w1 ⟨rfl, hk1, hi1⟩)
  clear HF p0 p1 p2 q0 q1 q2 r0 r1 r2
  have HH := Lib.hid fun (wr : World) (n : Int) (_ : Below w1.heap.size w1 wr) => stepped_has ⟨sl, sh, st⟩ n wr hk1
  unfold Sp.val at HH
  simp only at HH
  obtain ⟨⟨p0, p1, p2⟩, ⟨q0, q1, q2⟩, r0, r1, r2⟩ := HC.out _ hi1
  go_wp2_with fail
  have hw1 : w.heap.size + 3 ≤ w1.heap.size := hi1.size
  clear p0 p1 p2 q0 q1 q2 r0 r1 r2
  go_loopw [6, 14] (fun v i wr => ∃ k : Nat, i = .int .i64 k ∧ k ≤ L.length ∧ Row w1.heap.size wr v ((L.take k).filter (Sp.has ⟨sl, sh, st⟩)) ∧ Below w1.heap.size w1 wr) (fun _ i _ => L.length - (intOf i).toNat)
  case atStart => exact ⟨0, rfl, Nat.zero_le _, Row.nil _ _, Below.refl _ _⟩
  case round =>
    obtain ⟨k, rfl, hk, hrow, hbl⟩ := hrel
    rename_i wr _
    by_cases hlt : k < L.length
    · obtain ⟨bl, off, rfl, hcell, _⟩ := HI1.out _ (hi1.next hbl) k hlt
      obtain ⟨z, hz⟩ : ∃ z, L.getD k 0 = z := ⟨_, rfl⟩
      rw [hz] at hcell
      have hcall := HH.out wr z hbl
      have hsn := filter_snoc (p := Sp.has ⟨sl, sh, st⟩) hlt hz
      have Hlen : Hid (((L.take k).filter (Sp.has ⟨sl, sh, st⟩)).length ≤ 100) := Lib.hid (by have := filter_short L (Sp.has ⟨sl, sh, st⟩) k; omega)
      have hbs : w1.heap.size ≤ wr.heap.size := hbl.size
      obtain ⟨B, hB⟩ : ∃ B, (Sp.has ⟨sl, sh, st⟩) z = B := ⟨_, rfl⟩
      rw [hB] at hcall hsn
      have Hsn := Lib.hid hsn
      obtain ⟨P, hP⟩ : ∃ P, (L.take k).filter (Sp.has ⟨sl, sh, st⟩) = P := ⟨_, rfl⟩
      rw [hP] at hrow Hsn Hlen
      clear hz hB hsn hP
      cases B with
      | true =>
        have HT : Hid ((L.take (k + 1)).filter (Sp.has ⟨sl, sh, st⟩) = P ++ [z]) := Lib.hid (by have hq := Hsn.out; rw [if_pos rfl] at hq; exact hq)
        clear Hsn
        go_wp2_with (first
          | (go_at_call 190; (with_reducible refine hcall.mono ?_); rintro e w2 ⟨rfl, hb2⟩; have hrow2 := hrow.below hb2; have hbl2 := hbl.trans (hb2.mono hbl.size); clear hrow hbl hb2)
          | (at_builtin; refine wpList_append_own _ rfl _ _ 22 rfl w1.heap.size 3 i0 (.int .i64 0) 1 8 Tryz.underlying22 hi0 hz0 hz1 hz2 rfl (by decide) _ _ _ rfl (World.ownsRow.alloc hrow2 _) ⟨w2.heap.size, 0, none⟩ 1 1 [.int .i64 z] rfl rfl ?c1 ?c2 ?c3 ?c4 ?c5 ?_))
        case c1 =>
          intro j u hj
          match j, hj with
          | 0, hj => simp at hj; subst hj; simp [Addr.add]
        case c2 => intro u hu; simp at hu; subst hu; rfl
        case c3 => have := Hlen.out; unfold maxLen; omega
        case c4 => have := Hlen.out; omega
        case c5 => have := Below.size hbl2; simp; omega
        · intro v' w3 hown' hgrow _
          have hb1 := Row.grown hrow2 hbl2 (Below.size hbl2) hgrow
          have hr1 := Row.push hown'
          clear hown' hgrow hrow2 hbl2
          go_wp2_with fail
          go_roundw
          case rel => exact ⟨k + 1, by go_num, by omega, by rw [HT.out]; exact hr1, hb1⟩
          case measure => simp [intOf]; omega
      | false =>
        have HT : Hid ((L.take (k + 1)).filter (Sp.has ⟨sl, sh, st⟩) = P) := Lib.hid (by have hq := Hsn.out; rw [if_neg (by simp)] at hq; exact hq)
        clear Hsn
        go_wp2_with (go_at_call 190; (with_reducible refine hcall.mono ?_); rintro e w2 ⟨rfl, hb2⟩; have hrow2 := hrow.below hb2; have hbl2 := hbl.trans (hb2.mono hbl.size); clear hrow hbl hb2)
        go_roundw
        case rel => exact ⟨k + 1, by go_num, by omega, by rw [HT.out]; exact hrow2, hbl2⟩
        case measure => simp [intOf]; omega
    · have HT : Hid ((L.take k).filter (Sp.has ⟨sl, sh, st⟩) = L.filter (Sp.has ⟨sl, sh, st⟩)) := Lib.hid (by rw [List.take_of_length_le (by omega)])
      obtain ⟨av, cv, rfl⟩ := hrow.slice
      have Hlen : Hid (((L.take k).filter (Sp.has ⟨sl, sh, st⟩)).length ≤ 100) := Lib.hid (by have := filter_short L (Sp.has ⟨sl, sh, st⟩) k; omega)
      rw [HT.out] at hrow Hlen ⊢
      obtain ⟨R, hR⟩ : ∃ R, L.filter (Sp.has ⟨sl, sh, st⟩) = R := ⟨_, rfl⟩
      have HR := Lib.hid hR
      rw [hR] at hrow Hlen ⊢
      have hlo := listOf_any R av cv wr (by have := Hlen.out; omega)
      obtain ⟨a2, c2, hv, hlist, hrw⟩ := listV_eq R av cv
      rw [hv] at hlo
      have Hrw := Lib.hid hrw
      have hi2 := hi1.next hbl
      clear hR HT hv hrw hlist
      obtain ⟨ck, hck⟩ : ∃ ck, (bareOf R).kind = ck := ⟨_, rfl⟩
      obtain ⟨cd, hcd⟩ : ∃ cd, (bareOf R).dflt = cd := ⟨_, rfl⟩
      obtain ⟨cl, hcl⟩ : ∃ cl, (bareOf R).list = cl := ⟨_, rfl⟩
      have HK : Hid (bareOf R = ⟨ck, cd, cl⟩) := Lib.hid (by rw [← hck, ← hcd, ← hcl])
      rw [hck, hcd, hcl] at hlo
      rw [hcl] at Hrw
      clear hck hcd hcl
      go_wp2_with (go_at_call 141; (with_reducible refine hlo.mono ?_); rintro e w4 ⟨rfl, hb4⟩; have hi4 := hi2.next hb4; obtain ⟨_, _, r0, r1, r2⟩ := HC.out _ hi4; have f0 := HFr.out w4 0 hi4; have f1 := HFr.out w4 1 hi4; have f2 := HFr.out w4 2 hi4)
      have HKK : Hid (bareOf (L.filter (Sp.has ⟨sl, sh, st⟩)) = ⟨ck, cd, cl⟩) := Lib.hid (by rw [HR.out, HK.out])
      refine bodyPost_ret (v := .agg #[.int .i64 ck, .int .i64 cd, .slice a2 cl.length c2]) (by simp [results, Tryz.results121, go_sem, r0, r1, r2]) rfl (chOut_mk HKK ?_ ?_)
      · have hr4 := Hrw.out _ _ (hrow.below hb4)
        exact (((hr4.setCell (by simp; omega) _).setCell (by simp; omega) _).setCell (by simp; omega) _).weaken (by omega)
      · exact ((hi4.out.setCell (by simp; omega) _).setCell (by simp; omega) _).setCell (by simp; omega) _

theorem firstList_any (x y : Ch) (vx vy : Value) (w : World) (hx : ChIn w x vx) (hy : ChIn w y vy) (hvy : validC y = true) (hlen : x.list.length ≤ 20) :
    Calls Tryz.prog 121 #[vx, vy] w (ChOut w (bareOf (listMet x y))) := by
  unfold listMet
  have hf : y.has = fun n => (numsOf y).has n := by funext n; exact (nums_has hvy n).symm
  rw [hf]
  cases hN : numsOf y with
  | list l => exact firstList_list x y vx vy w l hN hx hy (valid_bound hvy) hlen
  | step s => exact firstList_step x y vx vy w s hN hx hy (valid_bound hvy) hlen
end Go.Proofs.YtlpdeadmiinhoaaGreatDoor
