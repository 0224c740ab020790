/- First and Numbers of the document's answers. -/
import Derived.Test.YtlpdeadmiinhoaaGreatDoorGA
namespace Go.Proofs.YtlpdeadmiinhoaaGreatDoor
open Go.RowKit

theorem Row.weaken {B B' : Nat} {w : World} {v : Value} {l : List Int} (h : Row B w v l) (hB : B' ≤ B) : Row B' w v l := by
  obtain ⟨h1, h2⟩ := h
  refine ⟨h1, ?_⟩
  rcases h2 with hn | ⟨g, cap, cur, rfl, hb, hg, r⟩
  · exact Or.inl hn
  · exact Or.inr ⟨g, cap, cur, rfl, by omega, hg, r⟩
theorem In1.size {w wr : World} {X : Obj} (h : In1 w X wr) : w.heap.size + 1 ≤ wr.heap.size := by
  have hs : (w.alloc X).heap.size = w.heap.size + 1 := by simp
  have := Below.size h
  omega

theorem rows_any (l m : List Int) (a b : Option Addr) (ca cb : Nat) (w : World) (hl : l.length ≤ 17592186044416) (hm : m.length ≤ 17592186044416) (hca : l.length ≤ ca) (hcb : m.length ≤ cb) (h1 : IntsIn w a l) (h2 : IntsIn w b m) :
    Calls Tryz.prog 16 #[.slice a l.length ca, .slice b m.length cb] w fun e w' => e = .returned (.bool (l == m)) ∧ Below w.heap.size w w' := by
  have hz : I64 0 := by unfold I64; omega
  have h := sameChoice_any ⟨0, 0, l⟩ ⟨0, 0, m⟩ _ _ w ⟨a, ca, rfl, hz, hz, hl, h1, hca⟩ ⟨b, cb, rfl, hz, hz, hm, h2, hcb⟩
  have e : sameB ⟨0, 0, l⟩ ⟨0, 0, m⟩ = (l == m) := by unfold sameB; simp
  rw [e] at h
  obtain ⟨B, hB⟩ : ∃ B, (l == m) = B := ⟨_, rfl⟩
  rw [hB] at h ⊢
  simp only at h
  clear hB e h1 h2
  go_enter Tryz.func16, Tryz.ntmps16
  go_wp2_with (go_at_call 19; (with_reducible refine h.mono ?_); rintro e w1 ⟨rfl, hb1⟩)
  go_ret
  exact ⟨rfl, hb1⟩

set_option maxRecDepth 100000 in
set_option maxHeartbeats 1600000 in
theorem first_list1 (d : Int) (l : List Int) (v : Value) (most : Nat) (w : World) (hc : ChIn w ⟨1, d, l⟩ v) (hlen : l.length ≤ 20) (hm : most ≤ 1000) :
    Calls Tryz.prog 54 #[v, .int .i64 most] w fun e w' => RowOut w (l.take most) e w' := by
  obtain ⟨a, cap, rfl, _, _, hl, hin, _⟩ := hc
  obtain ⟨i0, hi, hz0, hz1, hz2⟩ := info_parts Tryz.info3
  simp only at hl hin ⊢
  obtain ⟨X, hX⟩ : ∃ X : Obj, X = .cells #[.int .i64 1, .int .i64 d, .slice a l.length cap] 24 := ⟨_, rfl⟩
  have HIn := Lib.hid fun (wr : World) (hi : In1 w X wr) => hin.mono hi.same
  have HC := Lib.hid fun (wr : World) (h : In1 w X wr) => In1.cells3 (hX ▸ h)
  have HF : In1 w X (w.alloc (.cells #[.int .i64 1, .int .i64 d, .slice a l.length cap] 24)) := hX ▸ In1.first w X
  clear hin hX
  go_enter Tryz.func54, Tryz.ntmps54
  go_wp2_with fail
  go_loopw [5, 6] (fun v i wr => ∃ k : Nat, i = .int .i64 k ∧ k ≤ l.length ∧ k ≤ most ∧ Row (w.heap.size + 1) wr v (l.take k) ∧ In1 w X wr) (fun _ i _ => 1000 - (intOf i).toNat)
  case atStart => exact ⟨0, rfl, Nat.zero_le _, Nat.zero_le _, Row.nil _ _, HF⟩
  case round =>
    obtain ⟨k, rfl, hk1, hk2, hrow, hi1⟩ := hrel
    clear HF
    rename_i wr _
    obtain ⟨p0, p1, p2⟩ := HC.out _ hi1
    by_cases h1 : k < l.length
    · by_cases h2 : k < most
      · obtain ⟨b, off, rfl, hcell, _⟩ := HIn.out _ hi1 k h1
        obtain ⟨x, hx⟩ : ∃ x, l.getD k 0 = x := ⟨_, rfl⟩
        rw [hx] at hcell
        have Hsn : Hid (l.take (k + 1) = l.take k ++ [x]) := Lib.hid (by rw [take_snoc l k h1, hx])
        have Hlen : Hid ((l.take k).length ≤ 100) := Lib.hid (by rw [List.length_take]; omega)
        have hbs : w.heap.size + 1 ≤ wr.heap.size := hi1.size
        clear hx
        obtain ⟨P, hP⟩ : ∃ P, l.take k = P := ⟨_, rfl⟩
        rw [hP] at hrow Hsn Hlen
        clear hP
        go_wp2_with (at_builtin; refine wpList_append_own _ rfl _ _ 22 rfl (w.heap.size + 1) 3 i0 (.int .i64 0) 1 8 Tryz.underlying22 hi hz0 hz1 hz2 rfl (by decide) _ _ _ rfl (World.ownsRow.alloc hrow _) ⟨wr.heap.size, 0, none⟩ 1 1 [.int .i64 x] rfl rfl ?c1 ?c2 ?c3 ?c4 ?c5 ?_)
        case c1 =>
          intro j u hj
          match j, hj with
          | 0, hj => simp at hj; subst hj; simp [Addr.add]
        case c2 => intro u hu; simp at hu; subst hu; rfl
        case c3 => have := Hlen.out; unfold maxLen; omega
        case c4 => have := Hlen.out; omega
        case c5 => simp; omega
        · intro v' w1 hown' hgrow _
          have hb1 : In1 w X w1 := Row.grown (w := w.alloc X) hrow hi1 hbs hgrow
          have hr1 := Row.push hown'
          clear hown' hgrow hrow hi1
          go_wp2_with fail
          go_roundw
          case rel => exact ⟨k + 1, by go_num, by omega, by omega, by rw [Hsn.out]; exact hr1, hb1⟩
          case measure => simp [intOf]; omega
      · have HT : Hid (l.take most = l.take k) := Lib.hid (by rw [show most = k by omega])
        go_wp2_with fail
        go_ret
        exact ⟨_, rfl, by rw [HT.out]; exact hrow.weaken (by omega), hi1.out⟩
    · have HT : Hid (l.take most = l.take k) := Lib.hid (by rw [List.take_of_length_le (show l.length ≤ most by omega), List.take_of_length_le (show l.length ≤ k by omega)])
      go_wp2_with fail
      go_ret
      exact ⟨_, rfl, by rw [HT.out]; exact hrow.weaken (by omega), hi1.out⟩

set_option maxRecDepth 100000 in
set_option maxHeartbeats 1600000 in
theorem first_list2 (d : Int) (l : List Int) (v : Value) (most : Nat) (w : World) (hc : ChIn w ⟨2, d, l⟩ v) (hlen : l.length ≤ 20) (hm : most ≤ 1000) :
    Calls Tryz.prog 54 #[v, .int .i64 most] w fun e w' => RowOut w (l.take most) e w' := by
  obtain ⟨a, cap, rfl, _, _, hl, hin, _⟩ := hc
  obtain ⟨i0, hi, hz0, hz1, hz2⟩ := info_parts Tryz.info3
  simp only at hl hin ⊢
  obtain ⟨X, hX⟩ : ∃ X : Obj, X = .cells #[.int .i64 2, .int .i64 d, .slice a l.length cap] 24 := ⟨_, rfl⟩
  have HIn := Lib.hid fun (wr : World) (hi : In1 w X wr) => hin.mono hi.same
  have HC := Lib.hid fun (wr : World) (h : In1 w X wr) => In1.cells3 (hX ▸ h)
  have HF : In1 w X (w.alloc (.cells #[.int .i64 2, .int .i64 d, .slice a l.length cap] 24)) := hX ▸ In1.first w X
  clear hin hX
  go_enter Tryz.func54, Tryz.ntmps54
  go_wp2_with fail
  go_loopw [5, 6] (fun v i wr => ∃ k : Nat, i = .int .i64 k ∧ k ≤ l.length ∧ k ≤ most ∧ Row (w.heap.size + 1) wr v (l.take k) ∧ In1 w X wr) (fun _ i _ => 1000 - (intOf i).toNat)
  case atStart => exact ⟨0, rfl, Nat.zero_le _, Nat.zero_le _, Row.nil _ _, HF⟩
  case round =>
    obtain ⟨k, rfl, hk1, hk2, hrow, hi1⟩ := hrel
    clear HF
    rename_i wr _
    obtain ⟨p0, p1, p2⟩ := HC.out _ hi1
    by_cases h1 : k < l.length
    · by_cases h2 : k < most
      · obtain ⟨b, off, rfl, hcell, _⟩ := HIn.out _ hi1 k h1
        obtain ⟨x, hx⟩ : ∃ x, l.getD k 0 = x := ⟨_, rfl⟩
        rw [hx] at hcell
        have Hsn : Hid (l.take (k + 1) = l.take k ++ [x]) := Lib.hid (by rw [take_snoc l k h1, hx])
        have Hlen : Hid ((l.take k).length ≤ 100) := Lib.hid (by rw [List.length_take]; omega)
        have hbs : w.heap.size + 1 ≤ wr.heap.size := hi1.size
        clear hx
        obtain ⟨P, hP⟩ : ∃ P, l.take k = P := ⟨_, rfl⟩
        rw [hP] at hrow Hsn Hlen
        clear hP
        go_wp2_with (at_builtin; refine wpList_append_own _ rfl _ _ 22 rfl (w.heap.size + 1) 3 i0 (.int .i64 0) 1 8 Tryz.underlying22 hi hz0 hz1 hz2 rfl (by decide) _ _ _ rfl (World.ownsRow.alloc hrow _) ⟨wr.heap.size, 0, none⟩ 1 1 [.int .i64 x] rfl rfl ?c1 ?c2 ?c3 ?c4 ?c5 ?_)
        case c1 =>
          intro j u hj
          match j, hj with
          | 0, hj => simp at hj; subst hj; simp [Addr.add]
        case c2 => intro u hu; simp at hu; subst hu; rfl
        case c3 => have := Hlen.out; unfold maxLen; omega
        case c4 => have := Hlen.out; omega
        case c5 => simp; omega
        · intro v' w1 hown' hgrow _
          have hb1 : In1 w X w1 := Row.grown (w := w.alloc X) hrow hi1 hbs hgrow
          have hr1 := Row.push hown'
          clear hown' hgrow hrow hi1
          go_wp2_with fail
          go_roundw
          case rel => exact ⟨k + 1, by go_num, by omega, by omega, by rw [Hsn.out]; exact hr1, hb1⟩
          case measure => simp [intOf]; omega
      · have HT : Hid (l.take most = l.take k) := Lib.hid (by rw [show most = k by omega])
        go_wp2_with fail
        go_ret
        exact ⟨_, rfl, by rw [HT.out]; exact hrow.weaken (by omega), hi1.out⟩
    · have HT : Hid (l.take most = l.take k) := Lib.hid (by rw [List.take_of_length_le (show l.length ≤ most by omega), List.take_of_length_le (show l.length ≤ k by omega)])
      go_wp2_with fail
      go_ret
      exact ⟨_, rfl, by rw [HT.out]; exact hrow.weaken (by omega), hi1.out⟩

end Go.Proofs.YtlpdeadmiinhoaaGreatDoor
