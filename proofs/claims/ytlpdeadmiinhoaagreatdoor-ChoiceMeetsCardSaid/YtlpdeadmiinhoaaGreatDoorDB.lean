/- A choice read as numbers, joined. -/
import Derived.Test.YtlpdeadmiinhoaaGreatDoorCD

/- DA: Rows of numbers of the call's own; the first numbers. -/
namespace Go.Proofs.YtlpdeadmiinhoaaGreatDoor
open Go.RowKit

theorem Tryz.info3 : (Tryz.prog.info? 3).map (fun i => (i.zero, i.size, i.bytes)) = some (some (.int .i64 0), 1, 8) := by kernel_rfl

def Row (B : Nat) (w : World) (v : Value) (l : List Int) : Prop := w.ownsRow B 3 1 v l.length (l.map (Value.int .i64))
theorem Row.nil (B : Nat) (w : World) : Row B w (.slice none 0 0) [] := World.ownsRow_nil _ _ _ _
theorem Row.alloc {B : Nat} {w : World} {v : Value} {l : List Int} (h : Row B w v l) (o : Obj) : Row B (w.alloc o) v l := World.ownsRow.alloc h o
theorem Row.push {B : Nat} {w1 : World} {v' : Value} {l : List Int} {x : Int} (h : w1.ownsRow B 3 1 v' (l.length + 1) (l.map (Value.int .i64) ++ [.int .i64 x])) : Row B w1 v' (l ++ [x]) := by
  unfold Row; simpa using h
theorem Row.below {B : Nat} {w w1 : World} {v : Value} {l : List Int} (h : Row B w v l) (hb : Below w.heap.size w w1) : Row B w1 v l := by
  obtain ⟨h1, h2⟩ := h
  refine ⟨h1, ?_⟩
  rcases h2 with hn | ⟨g, cap, cur, rfl, hB, hg, r⟩
  · exact Or.inl hn
  · exact Or.inr ⟨g, cap, cur, rfl, hB, (hb.block g (Array.getElem?_eq_some_iff.1 hg).1).trans hg, r⟩
theorem Row.out {B : Nat} {w : World} {v : Value} {l : List Int} (h : Row B w v l) (hI : ∀ n ∈ l, I64 n) : ∃ a cap, v = .slice a l.length cap ∧ IntsIn w a l ∧ l.length ≤ cap := by
  have hc := h
  obtain ⟨_, h2⟩ := h
  rcases h2 with ⟨rfl, hn⟩ | ⟨g, cap, cur, rfl, _, hg, hcap, _⟩
  · refine ⟨none, 0, by rw [hn], fun i hi => by omega, by omega⟩
  · refine ⟨some ⟨g, 0, none⟩, cap, rfl, fun i hi => ⟨g, 0, rfl, ?_, ?_⟩, hcap⟩
    · have := World.ownsRow.cells hc (g := g) rfl i (.int .i64 (l.getD i 0)) (by simp [hi])
      by_cases hi0 : i = 0
      · subst hi0; simpa [Addr.add] using this
      · simpa [Addr.add, hi0] using this
    · have : l.getD i 0 = l[i] := by simp [hi]
      rw [this]
      exact hI _ (List.getElem_mem hi)
theorem Row.grown {B : Nat} {w wr w1 : World} {v : Value} {l : List Int} {o : Obj} (h : Row B wr v l) (hb : Below B w wr) (hB : B ≤ wr.heap.size) (hg : (wr.alloc o).grownBy w1 v.ownBlock) : Below B w w1 :=
  (hb.alloc hB o).grown hg (by simp; omega) (fun j hj => (World.ownsRow.lt h j hj).1)
theorem take_snoc (l : List Int) (k : Nat) (h : k < l.length) : l.take (k + 1) = l.take k ++ [l.getD k 0] := by
  rw [List.take_succ_eq_append_getElem h]; simp [h]

/-- A row that was handed back. -/
def RowOut (w : World) (l : List Int) (e : Ending) (w' : World) : Prop := ∃ v, e = .returned v ∧ Row w.heap.size w' v l ∧ Below w.heap.size w w'

set_option maxRecDepth 100000 in
set_option maxHeartbeats 1000000 in
theorem firstOf_list1 (l : List Int) (a : Option Addr) (cap : Nat) (most : Nat) (w : World) (hl : l.length ≤ 100) (hm : most ≤ 1000) (hin : IntsIn w a l) (hlm : l.length < most) :
    Calls Tryz.prog 53 #[.iface 107 (.slice a l.length cap), .int .i64 most] w fun e w' => RowOut w (l.take most) e w' := by
  obtain ⟨i0, hi, hz0, hz1, hz2⟩ := info_parts Tryz.info3
  have c1 := fun w1 => listed_count l a cap w1
  have c2 := fun (k : Nat) (w1 : World) (h : k < l.length) (hb : Below w.heap.size w w1) => listed_at l a cap k w1 h (hin.mono (Same.of_below hb))
  have hm1 := m_listed_count
  have hm2 := m_listed_at
  clear hin
  have C2 := Lib.hid c2
  clear c2
  go_enter Tryz.func53, Tryz.ntmps53
  go_wp2_with (go_at_call 244; (with_reducible refine (c1 _).mono ?_); rintro e w' ⟨rfl, rfl⟩)
  go_loopw [5, 11] (fun v i wr => ∃ k : Nat, i = .int .i64 k ∧ k ≤ l.length ∧ Row w.heap.size wr v (l.take k) ∧ Below w.heap.size w wr) (fun _ i _ => 1000 - (intOf i).toNat)
  case atStart => exact ⟨0, rfl, Nat.zero_le _, Row.nil _ _, Below.refl _ _⟩
  case round =>
    obtain ⟨k, rfl, hk, hrow, hb⟩ := hrel
    by_cases hlt : k < l.length
    · have hkl : k < l.length := by omega
      have c3 := C2.out k wr hkl hb
      obtain ⟨x, hx⟩ : ∃ x, l.getD k 0 = x := ⟨_, rfl⟩
      rw [hx] at c3
      have Hsn : Hid (l.take (k + 1) = l.take k ++ [x]) := Lib.hid (by rw [take_snoc l k hkl, hx])
      have Hlen : Hid ((l.take k).length ≤ 100) := Lib.hid (by rw [List.length_take]; omega)
      have hbs : w.heap.size ≤ wr.heap.size := hb.size
      clear hx
      obtain ⟨P, hP⟩ : ∃ P, l.take k = P := ⟨_, rfl⟩
      rw [hP] at hrow Hsn Hlen
      clear hP
      go_wp2_with (first
        | (go_at_call 243; (with_reducible refine c3.mono ?_); rintro e w' ⟨rfl, rfl⟩)
        | (at_builtin; refine wpList_append_own _ rfl _ _ 22 rfl w.heap.size 3 i0 (.int .i64 0) 1 8 Tryz.underlying22 hi hz0 hz1 hz2 rfl (by decide) _ _ _ rfl (World.ownsRow.alloc hrow _) ⟨wr.heap.size, 0, none⟩ 1 1 [.int .i64 x] rfl rfl ?c1 ?c2 ?c3 ?c4 ?c5 ?_))
      case c1 =>
        intro j u hj
        match j, hj with
        | 0, hj => simp at hj; subst hj; simp [Addr.add]
      case c2 => intro u hu; simp at hu; subst hu; rfl
      case c3 => have := Hlen.out; unfold maxLen; omega
      case c4 => have := Hlen.out; omega
      case c5 => simp; omega
      · intro v' w1 hown' hgrow _
        have hb1 := Row.grown hrow hb hbs hgrow
        have hr1 := Row.push hown'
        clear hown' hgrow hrow
        go_wp2_with fail
        go_roundw
        case rel => exact ⟨k + 1, by go_num, by omega, by rw [Hsn.out]; exact hr1, hb1⟩
        case measure => simp [intOf]; omega
    · have hkb : k = l.length := by omega
      have HT : Hid (l.take most = l.take k) := Lib.hid (by rw [hkb, List.take_of_length_le (by omega), List.take_of_length_le (by omega)])
      clear hkb
      go_wp2_with fail
      go_ret
      exact ⟨_, rfl, by rw [HT.out]; exact hrow, hb⟩

set_option maxRecDepth 100000 in
set_option maxHeartbeats 1000000 in
theorem firstOf_list2 (l : List Int) (a : Option Addr) (cap : Nat) (most : Nat) (w : World) (hl : l.length ≤ 100) (hm : most ≤ 1000) (hin : IntsIn w a l) (hlm : ¬ l.length < most) :
    Calls Tryz.prog 53 #[.iface 107 (.slice a l.length cap), .int .i64 most] w fun e w' => RowOut w (l.take most) e w' := by
  obtain ⟨i0, hi, hz0, hz1, hz2⟩ := info_parts Tryz.info3
  have c1 := fun w1 => listed_count l a cap w1
  have c2 := fun (k : Nat) (w1 : World) (h : k < l.length) (hb : Below w.heap.size w w1) => listed_at l a cap k w1 h (hin.mono (Same.of_below hb))
  have hm1 := m_listed_count
  have hm2 := m_listed_at
  clear hin
  have C2 := Lib.hid c2
  clear c2
  go_enter Tryz.func53, Tryz.ntmps53
  go_wp2_with (go_at_call 244; (with_reducible refine (c1 _).mono ?_); rintro e w' ⟨rfl, rfl⟩)
  go_loopw [5, 11] (fun v i wr => ∃ k : Nat, i = .int .i64 k ∧ k ≤ most ∧ Row w.heap.size wr v (l.take k) ∧ Below w.heap.size w wr) (fun _ i _ => 1000 - (intOf i).toNat)
  case atStart => exact ⟨0, rfl, Nat.zero_le _, Row.nil _ _, Below.refl _ _⟩
  case round =>
    obtain ⟨k, rfl, hk, hrow, hb⟩ := hrel
    by_cases hlt : k < most
    · have hkl : k < l.length := by omega
      have c3 := C2.out k wr hkl hb
      obtain ⟨x, hx⟩ : ∃ x, l.getD k 0 = x := ⟨_, rfl⟩
      rw [hx] at c3
      have Hsn : Hid (l.take (k + 1) = l.take k ++ [x]) := Lib.hid (by rw [take_snoc l k hkl, hx])
      have Hlen : Hid ((l.take k).length ≤ 100) := Lib.hid (by rw [List.length_take]; omega)
      have hbs : w.heap.size ≤ wr.heap.size := hb.size
      clear hx
      obtain ⟨P, hP⟩ : ∃ P, l.take k = P := ⟨_, rfl⟩
      rw [hP] at hrow Hsn Hlen
      clear hP
      go_wp2_with (first
        | (go_at_call 243; (with_reducible refine c3.mono ?_); rintro e w' ⟨rfl, rfl⟩)
        | (at_builtin; refine wpList_append_own _ rfl _ _ 22 rfl w.heap.size 3 i0 (.int .i64 0) 1 8 Tryz.underlying22 hi hz0 hz1 hz2 rfl (by decide) _ _ _ rfl (World.ownsRow.alloc hrow _) ⟨wr.heap.size, 0, none⟩ 1 1 [.int .i64 x] rfl rfl ?c1 ?c2 ?c3 ?c4 ?c5 ?_))
      case c1 =>
        intro j u hj
        match j, hj with
        | 0, hj => simp at hj; subst hj; simp [Addr.add]
      case c2 => intro u hu; simp at hu; subst hu; rfl
      case c3 => have := Hlen.out; unfold maxLen; omega
      case c4 => have := Hlen.out; omega
      case c5 => simp; omega
      · intro v' w1 hown' hgrow _
        have hb1 := Row.grown hrow hb hbs hgrow
        have hr1 := Row.push hown'
        clear hown' hgrow hrow
        go_wp2_with fail
        go_roundw
        case rel => exact ⟨k + 1, by go_num, by omega, by rw [Hsn.out]; exact hr1, hb1⟩
        case measure => simp [intOf]; omega
    · have hkb : k = most := by omega
      have HT : Hid (l.take most = l.take k) := Lib.hid (by rw [hkb])
      clear hkb
      go_wp2_with fail
      go_ret
      exact ⟨_, rfl, by rw [HT.out]; exact hrow, hb⟩

theorem firstOf_list (l : List Int) (a : Option Addr) (cap : Nat) (most : Nat) (w : World) (hl : l.length ≤ 100) (hm : most ≤ 1000) (hin : IntsIn w a l) :
    Calls Tryz.prog 53 #[.iface 107 (.slice a l.length cap), .int .i64 most] w fun e w' => RowOut w (l.take most) e w' := by
  by_cases h : l.length < most
  · exact firstOf_list1 l a cap most w hl hm hin h
  · exact firstOf_list2 l a cap most w hl hm hin h
end Go.Proofs.YtlpdeadmiinhoaaGreatDoor

/- DB: The first numbers of steps. -/
namespace Go.Proofs.YtlpdeadmiinhoaaGreatDoor
open Go.RowKit

def Sp.upTo (s : Sp) (k : Nat) : List Int := (List.range k).map fun i : Nat => s.lo + (i : Int) * s.st
theorem upTo_snoc (s : Sp) (k : Nat) : s.upTo (k + 1) = s.upTo k ++ [s.lo + (k : Int) * s.st] := by unfold Sp.upTo; rw [List.range_succ, List.map_append]; rfl
theorem upTo_len (s : Sp) (k : Nat) : (s.upTo k).length = k := by unfold Sp.upTo; simp
theorem upTo_firsts (s : Sp) (most : Nat) : s.firsts most = s.upTo (min most s.count.toNat) := rfl
theorem at_le {s : Sp} (h : s.lo ≤ s.hi) (h1 : 1 ≤ s.st) {k : Nat} (hk : (k : Int) < s.count) : s.lo + (k : Int) * s.st ≤ s.hi := by
  have hq := Int.mul_ediv_add_emod (s.hi - s.lo) s.st
  have hr0 := Int.emod_nonneg (s.hi - s.lo) (show s.st ≠ 0 by omega)
  unfold Sp.count at hk
  have := Int.mul_le_mul_of_nonneg_left (show (k : Int) ≤ (s.hi - s.lo) / s.st by omega) (show 0 ≤ s.st by omega)
  have e : (k : Int) * s.st = s.st * k := Int.mul_comm _ _
  omega
theorem count_le {s : Sp} (hs : s.Nice) (h : s.lo ≤ s.hi) : s.count ≤ 1000000001 := by
  obtain ⟨h1, h2, h3, h4, h5, h6⟩ := hs
  have := Int.ediv_le_self s.st (show 0 ≤ s.hi - s.lo by omega)
  unfold Sp.count
  omega

set_option maxRecDepth 100000 in
set_option maxHeartbeats 1000000 in
theorem firstOf_step1 (s : Sp) (most m : Nat) (w : World) (hs : s.Nice) (hle : s.lo ≤ s.hi) (hmc : s.count = (m : Int)) (hm : most ≤ 1000) (hlm : m < most) :
    Calls Tryz.prog 53 #[.iface 110 s.val, .int .i64 most] w fun e w' => RowOut w (s.firsts most) e w' := by
  obtain ⟨i0, hi, hz0, hz1, hz2⟩ := info_parts Tryz.info3
  have c1 := stepped_count s w hs hle
  have C2 := Lib.hid fun (k : Nat) (w1 : World) (h : (k : Int) < (m : Int)) => stepped_at s k w1 hs (by have := at_le hle hs.2.2.2.2.1 (hmc ▸ h); have := hs.2.2.2.1; omega)
  have hmle := count_le hs hle
  have hm1 := m_stepped_count
  have hm2 := m_stepped_at
  have HF : Hid (s.firsts most = s.upTo (min most m)) := Lib.hid (by rw [upTo_firsts, hmc]; rfl)
  have HSn := Lib.hid fun k => upTo_snoc s k
  have HLn := Lib.hid fun k => upTo_len s k
  rw [hmc] at c1 hmle
  obtain ⟨U, hU⟩ : ∃ U, s.upTo = U := ⟨_, rfl⟩
  obtain ⟨V, hV⟩ : ∃ V, s.val = V := ⟨_, rfl⟩
  have hU0 : Hid (U 0 = []) := Lib.hid (by rw [← hU]; rfl)
  rw [hU] at HF HSn HLn
  have hFs : Hid (s.firsts most = U (min most m)) := HF
  obtain ⟨G, hG⟩ : ∃ G, s.firsts most = G := ⟨_, rfl⟩
  rw [hG] at hFs ⊢
  clear hG HF hU hV V hs hle hmc
  obtain ⟨lo, hi', st⟩ := s
  unfold Sp.val at c1 C2 ⊢
  simp only at c1 C2 HSn ⊢
  go_enter Tryz.func53, Tryz.ntmps53
  go_wp2_with (go_at_call 167; (with_reducible refine c1.mono ?_); rintro e w1 ⟨rfl, hb1⟩)
  go_loopw [5, 11] (fun v i wr => ∃ k : Nat, i = .int .i64 k ∧ k ≤ m ∧ Row w.heap.size wr v (U k) ∧ Below w.heap.size w wr) (fun _ i _ => 1000 - (intOf i).toNat)
  case atStart => exact ⟨0, rfl, Nat.zero_le _, by rw [hU0.out]; exact Row.nil _ _, hb1⟩
  case round =>
    obtain ⟨k, rfl, hk, hrow, hb⟩ := hrel
    by_cases hlt : k < m
    · have c3 := C2.out k wr (by omega)
      obtain ⟨x, hx⟩ : ∃ x, lo + (k : Int) * st = x := ⟨_, rfl⟩
      have Hsn : Hid (U (k + 1) = U k ++ [x]) := Lib.hid (by rw [HSn.out k, hx])
      have Hlen : Hid ((U k).length ≤ 1000) := Lib.hid (by rw [HLn.out]; omega)
      rw [hx] at c3
      have hbs : w.heap.size ≤ wr.heap.size := hb.size
      clear hx
      obtain ⟨P, hP⟩ : ∃ P, U k = P := ⟨_, rfl⟩
      rw [hP] at hrow Hsn Hlen
      clear hP
      go_wp2_with (first
        | (go_at_call 248; (with_reducible refine c3.mono ?_); rintro e w2 ⟨rfl, hb2⟩; have hrow2 := Row.below hrow hb2; have hb3 := hb.trans (hb2.mono hbs); have hbs2 : w.heap.size ≤ w2.heap.size := hb3.size; clear hrow hb hb2)
        | (at_builtin; refine wpList_append_own _ rfl _ _ 22 rfl w.heap.size 3 i0 (.int .i64 0) 1 8 Tryz.underlying22 hi hz0 hz1 hz2 rfl (by decide) _ _ _ rfl (World.ownsRow.alloc hrow2 _) ⟨w2.heap.size, 0, none⟩ 1 1 [.int .i64 x] rfl rfl ?c1 ?c2 ?c3 ?c4 ?c5 ?_))
      case c1 =>
        intro j u hj
        match j, hj with
        | 0, hj => simp at hj; subst hj; simp [Addr.add]
      case c2 => intro u hu; simp at hu; subst hu; rfl
      case c3 => have := Hlen.out; unfold maxLen; omega
      case c4 => have := Hlen.out; omega
      case c5 => simp; omega
      · intro v' w3 hown' hgrow _
        have hb1 := Row.grown hrow2 hb3 hbs2 hgrow
        have hr1 := Row.push hown'
        clear hown' hgrow hrow2 hb3
        go_wp2_with fail
        go_roundw
        case rel => exact ⟨k + 1, by go_num, by omega, by rw [Hsn.out]; exact hr1, hb1⟩
        case measure => simp [intOf]; omega
    · have HT : Hid (G = U k) := Lib.hid (by rw [hFs.out, show min most m = k by omega])
      go_wp2_with fail
      go_ret
      exact ⟨_, rfl, by rw [HT.out]; exact hrow, hb⟩

set_option maxRecDepth 100000 in
set_option maxHeartbeats 1000000 in
theorem firstOf_step2 (s : Sp) (most m : Nat) (w : World) (hs : s.Nice) (hle : s.lo ≤ s.hi) (hmc : s.count = (m : Int)) (hm : most ≤ 1000) (hlm : ¬ m < most) :
    Calls Tryz.prog 53 #[.iface 110 s.val, .int .i64 most] w fun e w' => RowOut w (s.firsts most) e w' := by
  obtain ⟨i0, hi, hz0, hz1, hz2⟩ := info_parts Tryz.info3
  have c1 := stepped_count s w hs hle
  have C2 := Lib.hid fun (k : Nat) (w1 : World) (h : (k : Int) < (m : Int)) => stepped_at s k w1 hs (by have := at_le hle hs.2.2.2.2.1 (hmc ▸ h); have := hs.2.2.2.1; omega)
  have hmle := count_le hs hle
  have hm1 := m_stepped_count
  have hm2 := m_stepped_at
  have HF : Hid (s.firsts most = s.upTo (min most m)) := Lib.hid (by rw [upTo_firsts, hmc]; rfl)
  have HSn := Lib.hid fun k => upTo_snoc s k
  have HLn := Lib.hid fun k => upTo_len s k
  rw [hmc] at c1 hmle
  obtain ⟨U, hU⟩ : ∃ U, s.upTo = U := ⟨_, rfl⟩
  obtain ⟨V, hV⟩ : ∃ V, s.val = V := ⟨_, rfl⟩
  have hU0 : Hid (U 0 = []) := Lib.hid (by rw [← hU]; rfl)
  rw [hU] at HF HSn HLn
  have hFs : Hid (s.firsts most = U (min most m)) := HF
  obtain ⟨G, hG⟩ : ∃ G, s.firsts most = G := ⟨_, rfl⟩
  rw [hG] at hFs ⊢
  clear hG HF hU hV V hs hle hmc
  obtain ⟨lo, hi', st⟩ := s
  unfold Sp.val at c1 C2 ⊢
  simp only at c1 C2 HSn ⊢
  go_enter Tryz.func53, Tryz.ntmps53
  go_wp2_with (go_at_call 167; (with_reducible refine c1.mono ?_); rintro e w1 ⟨rfl, hb1⟩)
  go_loopw [5, 11] (fun v i wr => ∃ k : Nat, i = .int .i64 k ∧ k ≤ most ∧ Row w.heap.size wr v (U k) ∧ Below w.heap.size w wr) (fun _ i _ => 1000 - (intOf i).toNat)
  case atStart => exact ⟨0, rfl, Nat.zero_le _, by rw [hU0.out]; exact Row.nil _ _, hb1⟩
  case round =>
    obtain ⟨k, rfl, hk, hrow, hb⟩ := hrel
    by_cases hlt : k < most
    · have c3 := C2.out k wr (by omega)
      obtain ⟨x, hx⟩ : ∃ x, lo + (k : Int) * st = x := ⟨_, rfl⟩
      have Hsn : Hid (U (k + 1) = U k ++ [x]) := Lib.hid (by rw [HSn.out k, hx])
      have Hlen : Hid ((U k).length ≤ 1000) := Lib.hid (by rw [HLn.out]; omega)
      rw [hx] at c3
      have hbs : w.heap.size ≤ wr.heap.size := hb.size
      clear hx
      obtain ⟨P, hP⟩ : ∃ P, U k = P := ⟨_, rfl⟩
      rw [hP] at hrow Hsn Hlen
      clear hP
      go_wp2_with (first
        | (go_at_call 248; (with_reducible refine c3.mono ?_); rintro e w2 ⟨rfl, hb2⟩; have hrow2 := Row.below hrow hb2; have hb3 := hb.trans (hb2.mono hbs); have hbs2 : w.heap.size ≤ w2.heap.size := hb3.size; clear hrow hb hb2)
        | (at_builtin; refine wpList_append_own _ rfl _ _ 22 rfl w.heap.size 3 i0 (.int .i64 0) 1 8 Tryz.underlying22 hi hz0 hz1 hz2 rfl (by decide) _ _ _ rfl (World.ownsRow.alloc hrow2 _) ⟨w2.heap.size, 0, none⟩ 1 1 [.int .i64 x] rfl rfl ?c1 ?c2 ?c3 ?c4 ?c5 ?_))
      case c1 =>
        intro j u hj
        match j, hj with
        | 0, hj => simp at hj; subst hj; simp [Addr.add]
      case c2 => intro u hu; simp at hu; subst hu; rfl
      case c3 => have := Hlen.out; unfold maxLen; omega
      case c4 => have := Hlen.out; omega
      case c5 => simp; omega
      · intro v' w3 hown' hgrow _
        have hb1 := Row.grown hrow2 hb3 hbs2 hgrow
        have hr1 := Row.push hown'
        clear hown' hgrow hrow2 hb3
        go_wp2_with fail
        go_roundw
        case rel => exact ⟨k + 1, by go_num, by omega, by rw [Hsn.out]; exact hr1, hb1⟩
        case measure => simp [intOf]; omega
    · have HT : Hid (G = U k) := Lib.hid (by rw [hFs.out, show min most m = k by omega])
      go_wp2_with fail
      go_ret
      exact ⟨_, rfl, by rw [HT.out]; exact hrow, hb⟩

theorem firstOf_step (s : Sp) (most : Nat) (w : World) (hs : s.Nice) (hle : s.lo ≤ s.hi) (hm : most ≤ 1000) :
    Calls Tryz.prog 53 #[.iface 110 s.val, .int .i64 most] w fun e w' => RowOut w (s.firsts most) e w' := by
  have hp := count_pos' hle hs.2.2.2.2.1
  have hmc : s.count = (s.count.toNat : Int) := by omega
  by_cases h : s.count.toNat < most
  · exact firstOf_step1 s most _ w hs hle hmc hm h
  · exact firstOf_step2 s most _ w hs hle hmc hm h
end Go.Proofs.YtlpdeadmiinhoaaGreatDoor
