/- A machine that runs a call whose values are known: what it gives is what the call gives. -/
import Derived.Test.YtegomicpolnpoaaVA
import Derived.Laws.AppendOwn
import Derived.Laws.MakeOwn
import Derived.Laws.CopyRow
import Derived.RangeFuncRecord

/- EvL: A machine that runs a call whose values are known: operations that write. -/
namespace Go.Ev
open Go.RowKit

variable {P : Program} {ν : Nat → Value}

theorem oneS_one {E : Env} {s : SV} {v : Value} (h : oneS s = true) (hd : den ν E s = some v) : v.oneCell' = true := by
  have h1 := den_cells hd
  cases s <;> simp [oneS] at h
  case opq k =>
    rw [den] at hd
    split at hd
    · rename_i ho
      simp at hd; subst hd
      cases hk : ν k <;> rw [hk] at ho <;> simp [oneV] at ho <;> rfl
    · cases hd
  case ptr b off => obtain ⟨r, k, _, rfl⟩ := den_ptr.1 hd; rfl
  case slice => obtain ⟨r, k, _, rfl⟩ := den_slice.1 hd; rfl
  case gslice => obtain ⟨r, k, _, rfl⟩ := den_gslice.1 hd; rfl
  case map => obtain ⟨r, k, _, rfl⟩ := den_map.1 hd; rfl
  case yield => obtain ⟨r, k, _, rfl⟩ := den_yield.1 hd; rfl
  case func => obtain ⟨_, _, _, _, rfl⟩ := den_func.1 hd; rfl
  case iface => obtain ⟨_, _, rfl⟩ := den_iface.1 hd; rfl
  all_goals (simp [den] at hd; subst hd; rfl)
theorem ones_all {E : Env} : ∀ {l : List SV} {vs : List Value}, l.all oneS = true → dens ν E l = some vs → ∀ v ∈ vs, v.oneCell' = true
  | [], vs, _, hd => by simp [dens] at hd; subst hd; intro v hv; cases hv
  | x :: r, vs, h, hd => by
    obtain ⟨v, t, h1, h2, rfl⟩ := dens_cons.1 hd
    simp only [List.all_cons, Bool.and_eq_true] at h
    intro u hu
    rcases List.mem_cons.1 hu with rfl | hu
    · exact oneS_one h.1 h1
    · exact ones_all h.2 h2 u hu

theorem setRow_set (w : World) (r : Nat) (cs : Array Value) {c : Array Value} {t : TypeId} {fz : Nat × Nat} (h : w.heap[r]? = some (.cells c t fz)) :
    w.setRow r cs = { w with heap := w.heap.setIfInBounds r (.cells cs t fz) } := by
  have hlt := (Array.getElem?_eq_some_iff.1 h).1
  unfold World.setRow
  congr 1
  apply Array.ext_getElem?
  intro i
  rw [Array.getElem?_modify, Array.getElem?_setIfInBounds]
  by_cases hi : r = i
  · subst hi
    have hg : w.heap[r] = .cells c t fz := (Array.getElem?_eq_some_iff.1 h).2
    simp [hlt, hg]
  · simp [hi]

/-- What an operation that writes comes to. -/
def Writes (P : Program) (ν : Nat → Value) (w0 : World) (E : Env) (x : Sem Value) (w : World) (v : SV) (H' : List SO) : Prop :=
  ∃ E' w' u, (∀ d, Ext d E E') ∧ x.run P w = .ok u w' ∧ den ν E' v = some u ∧ WRel P ν w0 E' H' w'

theorem storeS_run {w0 w : World} {E : Env} {H H' : List SO} (hW : WRel P ν w0 E H w) {t : TypeId} {a v : SV} (h : storeS P H t a v = some H') {x y : Value} (hx : den ν E a = some x) (hy : den ν E v = some y) :
    ∃ w', (Instr.storeAt t x y).run P w = .ok () w' ∧ WRel P ν w0 E H' w' := by
  unfold storeS at h
  split at h
  · rename_i b off n hn
    obtain ⟨r, k, hE, rfl⟩ := den_ptr.1 hx
    split at h
    · rename_i hc
      simp only [Bool.and_eq_true, decide_eq_true_eq] at hc
      have hd := den_cells hy
      have hlen := dens_len hd
      simp at hlen
      have hone := ones_all hc.2 hd
      have hsz : y.cells.size = n := by omega
      have main : ∀ (c : List SV) (e : TypeId) (l rest : List Value), dens ν E c = some l → w.heap[r]? = some (.cells (l ++ rest).toArray e) → off + n ≤ c.length →
          (Instr.storeAt t (.pointer (some ⟨r, off, none⟩)) y).run P w = .ok () { w with heap := w.heap.setIfInBounds r (.cells ((l.take off ++ y.cells.toList ++ l.drop (off + n)) ++ rest).toArray e) } ∧
          dens ν E (c.take off ++ cellsS v ++ c.drop (off + n)) = some (l.take off ++ y.cells.toList ++ l.drop (off + n)) := by
        intro c e l rest hl hw hle
        have hll := dens_len hl
        have hs := run_storeCells_at P r off e y.cells.toList 0 (l ++ rest).toArray w hw (by simp; omega) hone
        refine ⟨?_, dens_append (dens_append (dens_take _ hl) hd) (dens_drop _ hl)⟩
        have e1 : (l ++ rest).take off = l.take off := by rw [List.take_append_of_le_length (by omega)]
        have e2 : (l ++ rest).drop (off + n) = l.drop (off + n) ++ rest := by rw [List.drop_append_of_le_length (by omega)]
        simp only [Nat.add_zero, Array.length_toList, hsz, e1, e2] at hs
        rw [setRow_set _ _ _ hw] at hs
        simp only [Instr.storeAt, Instr.sureAddr, storeVar, Sem.run_bind, Sem.run_pure, Result.andThen_ok, run_sizeOfT hn, hsz]
        rw [if_neg (by simp)]
        simp only [hs, List.append_assoc]
      split at h
      · rename_i c e hb
        split at h
        · rename_i hle
          simp only [Option.some.injEq] at h; subst h
          obtain ⟨_, _, h3⟩ := hW.obj b _ r k hb hE
          obtain ⟨ob, h4, l, h5, h6⟩ := h3 rfl
          obtain ⟨g1, g2⟩ := main c e l [] h5 (by rw [h4, h6]; simp) hle
          exact ⟨_, g1, hW.upd hb hE rfl ⟨_, g2, by simp⟩⟩
        · cases h
      · rename_i c e hb
        split at h
        · rename_i hle
          simp only [Option.some.injEq] at h; subst h
          obtain ⟨_, _, h3⟩ := hW.obj b _ r k hb hE
          obtain ⟨ob, h4, l, rest, n', h5, h6, h7, h8, h9⟩ := h3 rfl
          obtain ⟨g1, g2⟩ := main c e l rest h5 (by rw [h4, h6]) hle
          have hll := dens_len h5
          have hl2 := dens_len g2
          have hlv := dens_len hd
          simp only [Array.length_toList] at hlv
          refine ⟨_, g1, hW.upd hb hE rfl ⟨_, rest, n', g2, rfl, h7, ?_, ?_⟩⟩
          · simp only [List.length_append, List.length_take, List.length_drop, Array.length_toList] at h8 ⊢; omega
          · simp only [List.length_append, List.length_take, List.length_drop]; omega
        · cases h
      · cases h
    · cases h
  · cases h

theorem WRel.drew {w0 : World} {E : Env} {H : List SO} {w : World} (h : WRel P ν w0 E H w) : WRel P ν w0 E H w.drew := h.others (Below.drew (Below.refl _ _))

theorem appendS_run {w0 w : World} {E : Env} {H H' : List SO} (hW : WRel P ν w0 E H w) {st ty : TypeId} {s x v : SV} (h : appendS P H st s x = some (v, H')) {a b : Value} (ha : den ν E s = some a) (hb : den ν E x = some b) :
    Writes P ν w0 E (Builtin.append_ #[st, st] ty #[a, b]) w v H' := by
  unfold appendS at h
  split at h
  · rename_i elem hu
    split at h
    · rename_i size bytes z hs hby hz
      split at h
      · rename_i old m new n ho hn
        split at h
        · rename_i hc
          simp only [Bool.and_eq_true, decide_eq_true_eq] at hc
          obtain ⟨⟨⟨⟨⟨c1, c2⟩, c3⟩, c4⟩, c5⟩, c6⟩ := hc
          obtain ⟨lo, o1, o2, o3⟩ := contents_run hW ho ha
          obtain ⟨ln, n1, n2, n3⟩ := contents_run hW hn hb
          obtain ⟨i, hi⟩ : ∃ i, P.info? elem = some i := by
            unfold sizeOfT at hs
            cases hi : P.info? elem with
            | none => rw [hi] at hs; cases hs
            | some i => exact ⟨i, rfl⟩
          have hsz : i.size = size := by unfold sizeOfT at hs; rw [hi] at hs; simpa using hs
          have hbb : i.bytes = bytes := by rw [hi] at hby; simpa using hby
          obtain ⟨zv, hzv, hzd⟩ : ∃ zv, i.zero = some zv ∧ ∀ E, den ν E z = some zv := by
            unfold zeroS at hz
            rw [hi] at hz
            simp only [Option.bind_some] at hz
            cases hq : i.zero with
            | none => rw [hq] at hz; cases hz
            | some zv => rw [hq] at hz; exact ⟨zv, rfl, fun E => ofV_den hz E⟩
          have hzl : zv.cells.size = size := by
            have := dens_len (den_cells (hzd E)); simp at this; omega
          have nn : ∃ a' c', b = .slice (some a') n c' ∧ ∀ j u, ln[j]? = some u → w.cell? (a'.add j) = some u := by
            rcases n3 with ⟨_, e, _⟩ | h
            · omega
            · exact h
          obtain ⟨ax, cx, rfl, hnews⟩ := nn
          have hlnl := dens_len n1
          have hlol := dens_len o1
          have hln : ln.length = n * i.size := by rw [hlnl, n2, hsz]
          have hlo : lo.length = m * i.size := by rw [hlol, o2, hsz]
          have hone := ones_all c5 n1
          subst hsz; subst hbb
          have pow1 : (2 : Nat) ^ 47 = 140737488355328 := by decide
          have pow2 : (2 : Nat) ^ 60 = 1152921504606846976 := by decide
          rw [pow1] at c1; rw [pow2] at c2
          -- what a grown row stands for
          have grown : ∀ (cs : List SV) (l : List Value) (N old : Nat), dens ν E cs = some l → l.length = N * i.size → N = m + n →
              WRel P ν w0 (E ++ [.lies w.heap.size (grownCap w N old elem)]) (H ++ [.row cs elem]) (w.drew.alloc (.cells (l.toArray ++ Builtin.zeroCells zv.cells (grownCap w N old elem - N)) elem)) := by
            intro cs l N old hl hlen hN
            have hge := grownCap_ge w N old elem
            have hx := Ext.push 0 E (.lies w.heap.size (grownCap w N old elem))
            have hlc := dens_len hl
            have := (hW.drew).new (k := grownCap w N old elem) (o := .row cs elem) (ob := .cells (l.toArray ++ Builtin.zeroCells zv.cells (grownCap w N old elem - N)) elem)
              ⟨l, (Builtin.zeroCells zv.cells (grownCap w N old elem - N)).toList, i.size, dens_mono hx _ _ hl, by congr 1; apply Array.ext'; simp, hs, by
                simp only [List.length_append, Array.length_toList, size_zeroCells, hzl, hlen, ← Nat.add_mul]
                exact Nat.mul_le_mul_right _ (by omega), by rw [← hlc, hlen]; exact Nat.mul_le_mul_right _ hge⟩
            exact this
          split at h
          · rename_i e
            simp [den] at ha; subst ha
            have hm0 : m = 0 := by
              rcases o3 with ⟨_, e, _⟩ | ⟨a', c', e, _⟩
              · exact e
              · cases e
            subst hm0
            simp only [Option.some.injEq, Prod.mk.injEq] at h
            obtain ⟨rfl, rfl⟩ := h
            have hr := run_append_nil (P := P) w st ty elem i zv hu hi hzv ax n cx ln hln hnews (by omega) (by omega) (by simp only [Nat.zero_add] at c1; omega)
            have hw := grown new ln n 0 n1 hln (by omega)
            refine ⟨_, _, _, fun d => Ext.push d E _, hr, den_gslice.2 ⟨w.heap.size, grownCap w n 0 elem, by rw [← hW.len]; exact List.getElem?_concat_length .., by simp⟩, hw⟩
          · rename_i e b' off len cap
            obtain ⟨r, k, hE, rfl⟩ := den_slice.1 ha
            have hml : len = m ∧ ∀ j u, lo[j]? = some u → w.cell? ((⟨r, off, none⟩ : Addr).add j) = some u := by
              rcases o3 with ⟨e, _⟩ | ⟨a', c', e, h3⟩
              · cases e
              · cases e; exact ⟨rfl, h3⟩
            obtain ⟨rfl, holds⟩ := hml
            split at h
            · rename_i hroom
              split at h
              · rename_i c e hbo
                split at h
                · rename_i hd
                  simp only [Bool.and_eq_true, decide_eq_true_eq] at hd
                  obtain ⟨rfl, hfit⟩ := hd
                  simp only [Option.some.injEq, Prod.mk.injEq] at h
                  obtain ⟨rfl, rfl⟩ := h
                  obtain ⟨_, _, h3⟩ := hW.obj b' _ r k hbo hE
                  obtain ⟨ob, h4, l, h5, h6⟩ := h3 rfl
                  have hcl := dens_len h5
                  have hr := run_append_room (P := P) w st ty e i hu hi r len cap l.toArray (by rw [h4, h6]) ax n cx ln hln hnews hone hroom (by rw [hln, ← Nat.add_mul]; simp; omega)
                  rw [setRow_set _ _ _ (by rw [h4, h6])] at hr
                  refine ⟨E, _, _, fun d => Ext.refl d E, hr, den_slice.2 ⟨r, k, hE, rfl⟩, hW.upd hbo hE rfl ⟨_, dens_append (dens_append (dens_take (len * i.size) h5) n1) (dens_drop (len * i.size + new.length) h5), ?_⟩⟩
                  simp [hlnl]
                · cases h
              · cases h
            · rename_i hroom
              simp only [Option.some.injEq, Prod.mk.injEq] at h
              obtain ⟨rfl, rfl⟩ := h
              have hr := run_append_grow (P := P) w st ty elem i zv hu hi hzv ⟨r, off, none⟩ len cap lo hlo holds ax n cx ln hln hnews (by omega) (by omega) (growslice_fits (by omega) c1)
              have hw := grown (old ++ new) (lo ++ ln) (len + n) cap (dens_append o1 n1) (by rw [List.length_append, hlo, hln, Nat.add_mul]) rfl
              refine ⟨_, _, _, fun d => Ext.push d E _, hr, den_gslice.2 ⟨w.heap.size, grownCap w (len + n) cap elem, by rw [← hW.len]; exact List.getElem?_concat_length .., by simp⟩, ?_⟩
              simpa using hw
          · rename_i e b' len
            obtain ⟨r, k, hE, rfl⟩ := den_gslice.1 ha
            have hml : len = m ∧ ∀ j u, lo[j]? = some u → w.cell? ((⟨r, 0, none⟩ : Addr).add j) = some u := by
              rcases o3 with ⟨e, _⟩ | ⟨a', c', e, h3⟩
              · cases e
              · cases e; exact ⟨rfl, h3⟩
            obtain ⟨rfl, holds⟩ := hml
            simp only [Nat.sub_zero]
            split at h
            · rename_i c e hbo
              split at h
              · rename_i hd
                simp only [Bool.and_eq_true, decide_eq_true_eq] at hd
                obtain ⟨hcl, rfl⟩ := hd
                simp only [Option.some.injEq, Prod.mk.injEq] at h
                obtain ⟨rfl, rfl⟩ := h
                obtain ⟨_, _, h3⟩ := hW.obj b' _ r k hbo hE
                obtain ⟨ob, h4, l, rest, n', h5, h6, h7, h8, h9⟩ := h3 rfl
                rw [hs] at h7
                cases h7
                have hcl2 := dens_len h5
                by_cases hroom : len + n ≤ k
                · have hcur : len * i.size + ln.length ≤ (l ++ rest).toArray.size := by
                    have := Nat.mul_le_mul_right i.size hroom
                    rw [Nat.add_mul] at this
                    simp only [List.size_toArray]
                    omega
                  have hr := run_append_room (P := P) w st ty e i hu hi r len k (l ++ rest).toArray (by rw [h4, h6]) ax n cx ln hln hnews hone hroom hcur
                  rw [setRow_set _ _ _ (by rw [h4, h6])] at hr
                  have hold : old = c := by
                    unfold contents at ho
                    simp only [hbo, Option.bind_some, rowOf] at ho
                    split at ho
                    · simp at ho
                      rw [← ho, List.take_of_length_le (by omega)]
                    · cases ho
                  subst hold
                  rw [o1] at h5
                  cases h5
                  have htk : (lo ++ rest).take (len * i.size) = lo := by rw [List.take_append_of_le_length (by omega), List.take_of_length_le (by omega)]
                  simp only [htk] at hr
                  have hup := hW.upd (o' := .row (old ++ new) e) (ob := .cells ((lo ++ ln) ++ (lo ++ rest).drop (len * i.size + ln.length)).toArray e) hbo hE rfl
                    ⟨lo ++ ln, (lo ++ rest).drop (len * i.size + ln.length), i.size, dens_append o1 n1, rfl, hs, by
                      simp only [List.length_append, List.length_drop] at h8 ⊢; omega, by
                      have := Nat.mul_le_mul_right i.size hroom
                      rw [Nat.add_mul] at this
                      simp only [List.length_append]; omega⟩
                  have hbl := (List.getElem?_eq_some_iff.1 hbo).1
                  have hre := hup.rename (b := b') (List.getElem?_set_self hbl) hE
                  rw [List.set_set] at hre
                  refine ⟨_, _, _, fun d => Ext.push d E _, hr, den_gslice.2 ⟨r, k, by rw [← hW.len]; exact List.getElem?_concat_length .., by simp⟩, hre⟩
                · have hr := run_append_grow (P := P) w st ty e i zv hu hi hzv ⟨r, 0, none⟩ len k lo hlo holds ax n cx ln hln hnews (by omega) (by omega) (growslice_fits (by omega) c1)
                  have hw := grown (old ++ new) (lo ++ ln) (len + n) k (dens_append o1 n1) (by rw [List.length_append, hlo, hln, Nat.add_mul]) rfl
                  have hbl := (List.getElem?_eq_some_iff.1 hbo).1
                  have hf := hw.forget b'
                  rw [List.set_append_left _ _ hbl] at hf
                  refine ⟨_, _, _, fun d => Ext.push d E _, hr, den_gslice.2 ⟨w.heap.size, grownCap w (len + n) k e, by rw [← hW.len]; exact List.getElem?_concat_length .., by simp⟩, ?_⟩
                  simpa using hf
              · cases h
            · cases h
          · cases h
        · cases h
      · cases h
    · cases h
  · cases h

theorem makeSliceS_run {w0 w : World} {E : Env} {H H' : List SO} (hW : WRel P ν w0 E H w) {t : TypeId} {l c v : SV} (h : makeSliceS P H t l c = some (v, H')) {a b : Value} (ha : den ν E l = some a) (hb : den ν E c = some b) :
    Writes P ν w0 E (Instr.makeSlice t a b) w v H' := by
  unfold makeSliceS at h
  split at h
  · rename_i elem l c hu
    simp [den] at ha hb
    subst ha; subst hb
    split at h
    · rename_i size bytes z hs hby hz
      split at h
      · rename_i hc
        simp only [Bool.and_eq_true, decide_eq_true_eq] at hc
        obtain ⟨⟨⟨⟨⟨c1, c2⟩, c3⟩, c4⟩, c5⟩, c6⟩ := hc
        simp only [Option.some.injEq, Prod.mk.injEq] at h
        obtain ⟨rfl, rfl⟩ := h
        obtain ⟨i, hi⟩ : ∃ i, P.info? elem = some i := by
          unfold sizeOfT at hs
          cases hi : P.info? elem with
          | none => rw [hi] at hs; cases hs
          | some i => exact ⟨i, rfl⟩
        have hsz : i.size = size := by unfold sizeOfT at hs; rw [hi] at hs; simpa using hs
        have hbb : i.bytes = bytes := by rw [hi] at hby; simpa using hby
        obtain ⟨zv, hzv, hzd⟩ : ∃ zv, i.zero = some zv ∧ ∀ E, den ν E z = some zv := by
          unfold zeroS at hz
          rw [hi] at hz
          simp only [Option.bind_some] at hz
          cases hq : i.zero with
          | none => rw [hq] at hz; cases hz
          | some zv => rw [hq] at hz; exact ⟨zv, rfl, fun E => ofV_den hz E⟩
        have hzc := den_cells (hzd E)
        have hzl : zv.cells.toList.length = size := by rw [dens_len hzc]; omega
        subst hsz; subst hbb
        have pow1 : (2 : Nat) ^ 47 = 140737488355328 := by decide
        have pow2 : (2 : Nat) ^ 40 = 1099511627776 := by decide
        rw [pow1] at c3; rw [pow2] at c2
        have hbytes : (i.bytes : Int) * (c : Int) ≤ 281474976710656 := by
          have : ((i.bytes * c : Nat) : Int) ≤ 281474976710656 := by omega
          rwa [Int.natCast_mul] at this
        have hr := run_make (P := P) w t elem i zv hu hi hzv .i64 .i64 l c (by omega) (by omega) hbytes (by omega)
        simp only [Int.toNat_natCast] at hr
        have hz2 := zeros_range zv.cells.toList (by omega) c
        rw [hzl] at hz2
        have hm : madeCells zv.cells (c * i.size) = (zerosV zv.cells.toList c).toArray := by
          rw [← hz2]; simp [madeCells]
        rw [hm] at hr
        have hx := Ext.push 0 E (.lies w.heap.size 0)
        have hw := hW.new (k := 0) (o := .cells (zerosS (cellsS z) c) elem) (ob := .cells (zerosV zv.cells.toList c).toArray elem) ⟨_, dens_mono hx _ _ (zeros_dens hzc c), rfl⟩
        exact ⟨_, _, _, fun d => Ext.push d E _, hr, den_slice.2 ⟨w.heap.size, 0, by rw [← hW.len]; exact List.getElem?_concat_length .., rfl⟩, hw⟩
      · cases h
    · cases h
  · cases h

theorem densM_append {E : Env} : ∀ {s t : List (SV × SV × Nat)} {l m : List MapEntry}, densM ν E s = some l → densM ν E t = some m → densM ν E (s ++ t) = some (l ++ m)
  | [], t, l, m, h, h' => by simp [densM] at h; subst h; simpa using h'
  | (x, v, b) :: r, t, l, m, h, h' => by
    rw [densM] at h
    cases hx : den ν E x with
    | none => rw [hx] at h; cases h
    | some x' => cases hv : den ν E v with
      | none => rw [hx, hv] at h; cases h
      | some v' => cases hr : densM ν E r with
        | none => rw [hx, hv, hr] at h; cases h
        | some l' =>
          rw [hx, hv, hr] at h
          simp at h; subst h
          rw [List.cons_append, densM, hx, hv, densM_append hr h']
          rfl
theorem densM_set {E : Env} : ∀ {s : List (SV × SV × Nat)} {l : List MapEntry} (i : Nat) {x v : SV} {x' v' : Value} {b : Nat} {y z : SV}, densM ν E s = some l → s[i]? = some (y, z, b) → den ν E x = some x' → den ν E v = some v' →
    densM ν E (s.set i (x, v, b)) = some (l.modify i fun e => { e with key := x', val := v' })
  | [], l, i, x, v, x', v', b, y, z, h, hi, _, _ => by simp at hi
  | (p, q, c) :: r, l, i, x, v, x', v', b, y, z, h, hi, hx', hv' => by
    rw [densM] at h
    cases hx : den ν E p with
    | none => rw [hx] at h; cases h
    | some p' => cases hv : den ν E q with
      | none => rw [hx, hv] at h; cases h
      | some q' => cases hr : densM ν E r with
        | none => rw [hx, hv, hr] at h; cases h
        | some l' =>
          rw [hx, hv, hr] at h
          simp at h; subst h
          cases i with
          | zero =>
            simp at hi
            obtain ⟨rfl, rfl, rfl⟩ := hi
            simp [densM, hx', hv', hr]
          | succ i =>
            simp at hi
            have ih := densM_set i hr hi hx' hv'
            simp [densM, hx, hv, ih]

theorem insertS_run {w0 w : World} {E : Env} {H H' : List SO} (hW : WRel P ν w0 E H w) {t : TypeId} {m k v : SV} (h : insertS P H t m k v = some H') {u x y : Value} (hm : den ν E m = some u) (hk : den ν E k = some x) (hv : den ν E v = some y) :
    ∃ w', (Instr.mapUpdate t u x y).run P w = .ok () w' ∧ WRel P ν w0 E H' w' := by
  unfold insertS at h
  split at h
  · rename_i key elem b hu
    obtain ⟨r, kk, hE, rfl⟩ := den_map.1 hm
    split at h
    · rename_i d es clock hd hb
      obtain ⟨l, hl, hw⟩ := map_of hW hb hE
      split at h
      · rename_i hf
        have hck := checkKey_run (w := w) hd hf hk
        split at h
        · rename_i i y' hfs
          simp only [Option.some.injEq] at h; subst h
          obtain ⟨e, h1, h2, h3, h4⟩ := findS_now hf hk 0 hfs hl
          have hfk := MapKept.run_findKey (w := w) hd h4
          have hself : Instr.sameBits 10000 x x = true := by
            cases d <;> cases k <;> simp [fitsK] at hf <;> simp [den] at hk <;> subst hk
            · show Instr.sameBits (9999 + 1) _ _ = true
              simp [Instr.sameBits]
            · show Instr.sameBits (9999 + 1) _ _ = true
              simp [Instr.sameBits, beq_bytes]
          have hlen := densM_len hl
          have hil := (List.getElem?_eq_some_iff.1 h1).1
          obtain ⟨⟨p, q, bb⟩, hes⟩ : ∃ z, es[i]? = some z := ⟨_, List.getElem?_eq_getElem (by omega)⟩
          have hset := densM_set i hl hes hk hv
          have e1 : setMap k v i es = es.set i (k, v, bb) := by unfold setMap; rw [hes]
          rw [e1]
          refine ⟨_, ?_, hW.upd hb hE rfl (ob := .map (l.modify i fun e => { e with key := x, val := y }).toArray clock) ⟨_, hset, rfl⟩⟩
          have hkey : ((l.toArray[i]?).map (·.key)).getD x = x := by simp [h1, h2]
          have hks : (Instr.keyThatStays x x).run P w = .ok x w := by simp [Instr.keyThatStays, hself]
          simp only [Instr.mapUpdate, Sem.run_bind, run_underlying hu, Result.andThen_ok, MapKept.run_getObj_map hw, hck, hfk, Nat.zero_add, hkey, hks, MapKept.run_setObj_map _ hw]
          simp
        · rename_i hfs
          simp only [Option.some.injEq] at h; subst h
          have h4 := findS_now hf hk 0 hfs hl
          simp only [FoundAt] at h4
          have hfk := MapKept.run_findKey (w := w) hd h4
          refine ⟨_, ?_, hW.upd hb hE rfl (ob := .map (l ++ [MapEntry.mk x y clock]).toArray (clock + 1)) ⟨l ++ [MapEntry.mk x y clock], densM_append hl (by simp [densM, hk, hv]), rfl⟩⟩
          simp only [Instr.mapUpdate, Sem.run_bind, run_underlying hu, Result.andThen_ok, MapKept.run_getObj_map hw, hck, hfk, MapKept.run_setObj_map _ hw]
          simp
        · cases h
      · cases h
    · cases h
  · cases h
end Go.Ev

/- EvM: A machine that runs a call whose values are known: its frames, and the steps that run no operation. -/
namespace Go.Ev
open Go.RowKit

section
variable (P : Program) (ν : Nat → Value)

def itemOf (E : Env) : SI → Option Item
  | .code c => some (.code c)
  | .inBlock id => some (.inBlock id)
  | .inLoop c => some (.inLoop c)
  | .inScope c => some (.inScope c)
  | .inReg ops l => some (.inRegion ops l)
  | .inDraw .. => none
  | .inRF b => (blk E b).map fun p => .inRangeFunc p.1
  | .endRF b => (blk E b).map fun p => .endRangeFunc p.1
  | .beginRound => some .beginRound
def itemsOf (E : Env) : List SI → Option (List Item)
  | [] => some []
  | x :: r => (itemOf E x).bind fun i => (itemsOf E r).map fun l => i :: l

def chainOf (E : Env) : List (SV × Bool) → Option (List PanicEntry)
  | [] => some []
  | (v, b) :: r => (den ν E v).bind fun v' => (chainOf E r).map fun l => { v := v', recovered := b } :: l

def MoRel (E : Env) : SM → FrameMode → Prop
  | .run, m => m = .run
  | .ret, m => m = .returning
  | .pan l, m => ∃ c, chainOf ν E l = some c ∧ m = .panicking c

def RnRel (E : Env) : Option Nat → Option Nat → Prop
  | none, r => r = none
  | some b, r => ∃ a k, E[b]? = some (.lies a k) ∧ r = some a

structure FBase (E : Env) (f : SF) (fr : Frame) : Prop where
  fn : fr.fn = f.fn
  kind : fr.kind = f.kind
  defers : densD ν E f.defers = some fr.defers
  mode : MoRel ν E f.mode fr.mode
  rnd : RnRel E f.rnd fr.roundOf

structure FPlain (E : Env) (f : SF) (fr : Frame) : Prop where
  base : FBase ν E f fr
  tmps : dens ν E f.tmps = some fr.tmps.toList
  todo : itemsOf E f.todo = some fr.todo

/-- Whatever order is left. -/
inductive Order (ops : Array Oper) : Array Bool → List Nat → Prop where
  | nil {dr : Array Bool} (h : ∀ i, i < ops.size → dr.getD i false = true) : Order ops dr []
  | cons {dr : Array Bool} {i : Nat} {l : List Nat} (hi : i ∈ Region.ready .any ops dr) (h : Order ops (dr.setIfInBounds i true) l) : Order ops dr (i :: l)

def Closed (ops : Array Oper) (dr : Array Bool) : Prop := ∀ (i : Nat) (o : Oper), ops[i]? = some o → dr.getD i false = true → ∀ e ∈ o.after, Region.binds .any e = true → dr.getD e.on false = true

/-- In the middle of a region whose order is open: what has come up really may lag behind. -/
structure Draws (E : Env) (d : Nat) (ops : Array Oper) (done : Array Bool) (lag : List (Nat × Option Nat)) (tmps : List SV) (rt : Array Value) (dr : Array Bool) (l : List Nat) : Prop where
  back : backB ops = true
  size : dr.size = ops.size
  dsize : done.size = ops.size
  ord : Order ops dr l
  sub : ∀ i, dr.getD i false = true → done.getD i false = true
  cov : ∀ i, done.getD i false = true → dr.getD i false = true ∨ ∃ ob, (i, ob) ∈ lag
  closed : Closed ops dr
  fresh : ∀ x ∈ lag, Ev.fresh ops (Region.before ops) x.1 = true
  len : tmps.length = rt.size
  tmps : ∀ (t : Nat) (s : SV), tmps[t]? = some s → (∀ x ∈ lag, dr.getD x.1 false = false → dstOf ops x.1 ≠ some t) → ∃ v, rt[t]? = some v ∧ den ν E s = some v
  lagDone : ∀ x ∈ lag, done.getD x.1 false = true
  uniq : ∀ (i i' b : Nat), (i, some b) ∈ lag → (i', some b) ∈ lag → i = i'
  owedLt : ∀ (i b : Nat), (i, some b) ∈ lag → b < E.length
  owed : ∀ (i b : Nat), (i, some b) ∈ lag → dr.getD i false = false → E[b]? = some (.pend d)

structure FDrawn (E : Env) (d : Nat) (f : SF) (fr : Frame) (ops : Array Oper) (done : Array Bool) (lag : List (Nat × Option Nat)) (pend : Option Nat) (k : List SI) : Prop where
  base : FBase ν E f fr
  head : f.todo = .inDraw ops done lag pend :: k
  body : ∃ its l dr, itemsOf E k = some its ∧ fr.todo = .inRegion ops l :: its ∧ Draws ν E d ops done lag f.tmps fr.tmps dr l ∧ (∀ i, pend = some i → ∃ l', l = i :: l' ∧ done.getD i false = false)

def FRel (E : Env) (d : Nat) (f : SF) (fr : Frame) : Prop := FPlain ν E f fr ∨ ∃ ops done lag pend k, FDrawn ν E d f fr ops done lag pend k

def Stack (E : Env) : List SF → List Frame → Prop
  | [], cs => cs = []
  | f :: r, cs => ∃ fr rest, cs = fr :: rest ∧ FRel ν E r.length f fr ∧ Stack E r rest

structure MRel (G : Nat → List SV) (w0 : World) (E : Env) (s : St) (fr : Frame) (cs : List Frame) (w : World) : Prop where
  mem : WRel P ν w0 E s.H w
  top : FRel ν E s.cs.length s.fr fr
  stk : Stack ν E s.cs cs
  lag : ∀ ops done lag k, s.fr.todo = .inDraw ops done lag none :: k → ∀ x ∈ lag, lagOk P G ops s.fr.tmps s.H x = true
end

variable {P : Program} {ν : Nat → Value}

theorem itemOf_mono {d : Nat} {E E' : Env} (h : Ext d E E') {x : SI} {i : Item} (e : itemOf E x = some i) : itemOf E' x = some i := by
  cases x with
  | inRF b =>
    simp only [itemOf] at e ⊢
    cases hx : blk E b with
    | none => rw [hx] at e; cases e
    | some p => obtain ⟨r, k⟩ := p; rw [hx] at e; rw [h.blk hx]; exact e
  | endRF b =>
    simp only [itemOf] at e ⊢
    cases hx : blk E b with
    | none => rw [hx] at e; cases e
    | some p => obtain ⟨r, k⟩ := p; rw [hx] at e; rw [h.blk hx]; exact e
  | _ => exact e
theorem itemsOf_cons {E : Env} {x : SI} {r : List SI} {l : List Item} : itemsOf E (x :: r) = some l ↔ ∃ i t, itemOf E x = some i ∧ itemsOf E r = some t ∧ l = i :: t := by
  rw [itemsOf]
  cases hx : itemOf E x with
  | none => simp
  | some v => cases hr : itemsOf E r with
    | none => simp
    | some t => simp [eq_comm]
theorem itemsOf_mono {d : Nat} {E E' : Env} (h : Ext d E E') : ∀ {s : List SI} {l : List Item}, itemsOf E s = some l → itemsOf E' s = some l
  | [], l, e => by simpa [itemsOf] using e
  | x :: r, l, e => by
    obtain ⟨i, t, h1, h2, rfl⟩ := itemsOf_cons.1 e
    exact itemsOf_cons.2 ⟨i, t, itemOf_mono h h1, itemsOf_mono h h2, rfl⟩
theorem chainOf_mono {d : Nat} {E E' : Env} (h : Ext d E E') : ∀ {s : List (SV × Bool)} {l : List PanicEntry}, chainOf ν E s = some l → chainOf ν E' s = some l
  | [], l, e => by simpa [chainOf] using e
  | (v, b) :: r, l, e => by
    rw [chainOf] at e ⊢
    cases hv : den ν E v with
    | none => rw [hv] at e; cases e
    | some v' => cases hr : chainOf ν E r with
      | none => rw [hv, hr] at e; cases e
      | some r' => rw [den_mono h _ _ hv, chainOf_mono h hr]; rw [hv, hr] at e; exact e
theorem MoRel.mono {d : Nat} {E E' : Env} (h : Ext d E E') {m : SM} {fm : FrameMode} (e : MoRel ν E m fm) : MoRel ν E' m fm := by
  cases m with
  | run => exact e
  | ret => exact e
  | pan l => obtain ⟨c, h1, h2⟩ := e; exact ⟨c, chainOf_mono h h1, h2⟩
theorem RnRel.mono {d : Nat} {E E' : Env} (h : Ext d E E') {b r : Option Nat} (e : RnRel E b r) : RnRel E' b r := by
  cases b with
  | none => exact e
  | some b => obtain ⟨a, k, h1, h2⟩ := e; exact ⟨a, k, h.lies b a k h1, h2⟩
theorem FBase.mono {d : Nat} {E E' : Env} (h : Ext d E E') {f : SF} {fr : Frame} (e : FBase ν E f fr) : FBase ν E' f fr :=
  ⟨e.fn, e.kind, densD_mono h _ _ e.defers, e.mode.mono h, e.rnd.mono h⟩
theorem FPlain.mono {d : Nat} {E E' : Env} (h : Ext d E E') {f : SF} {fr : Frame} (e : FPlain ν E f fr) : FPlain ν E' f fr :=
  ⟨e.base.mono h, dens_mono h _ _ e.tmps, itemsOf_mono h e.todo⟩
theorem Draws.mono {d d' : Nat} {E E' : Env} (h : Ext d' E E') (hd : d ≠ d') {ops : Array Oper} {done : Array Bool} {lag : List (Nat × Option Nat)} {tmps : List SV} {rt : Array Value} {dr : Array Bool} {l : List Nat}
    (e : Draws ν E d ops done lag tmps rt dr l) : Draws ν E' d ops done lag tmps rt dr l :=
  ⟨e.back, e.size, e.dsize, e.ord, e.sub, e.cov, e.closed, e.fresh, e.len, fun t s h1 h2 => let ⟨v, h3, h4⟩ := e.tmps t s h1 h2; ⟨v, h3, den_mono h _ _ h4⟩, e.lagDone, e.uniq, fun i b h1 => Nat.lt_of_lt_of_le (e.owedLt i b h1) h.len, fun i b h1 h2 => h.pend b d (e.owed i b h1 h2) hd⟩
theorem FRel.mono {d d' : Nat} {E E' : Env} (h : Ext d' E E') (hd : d ≠ d') {f : SF} {fr : Frame} (e : FRel ν E d f fr) : FRel ν E' d f fr := by
  rcases e with e | ⟨ops, done, lag, pend, k, e⟩
  · exact .inl (e.mono h)
  · refine .inr ⟨ops, done, lag, pend, k, e.base.mono h, e.head, ?_⟩
    obtain ⟨its, l, dr, h1, h2, h3, h4⟩ := e.body
    exact ⟨its, l, dr, itemsOf_mono h h1, h2, h3.mono h hd, h4⟩
theorem Stack.mono {d : Nat} {E E' : Env} (h : Ext d E E') : ∀ {s : List SF} {cs : List Frame}, s.length ≤ d → Stack ν E s cs → Stack ν E' s cs
  | [], cs, _, e => e
  | f :: r, cs, hd, e => by
    obtain ⟨fr, rest, h1, h2, h3⟩ := e
    simp at hd
    exact ⟨fr, rest, h1, h2.mono h (by omega), Stack.mono h (by omega) h3⟩

/-- All that a step leaves behind. -/
def Goes (P : Program) (ν : Nat → Value) (G : Nat → List SV) (w0 : World) (cs0 : List Frame) (m : Machine) (s' : St) : Prop :=
  ∃ E' fr' cs' w', MRel P ν G w0 E' s' fr' cs' w' ∧ Steps P m (lone fr' (cs' ++ cs0) w')

theorem FRel.plain {E : Env} {d : Nat} {f : SF} {fr : Frame} (h : FRel ν E d f fr) (hn : ∀ ops done lag pend k, f.todo ≠ .inDraw ops done lag pend :: k) : FPlain ν E f fr := by
  rcases h with h | ⟨ops, done, lag, pend, k, h⟩
  · exact h
  · exact absurd h.head (hn _ _ _ _ _)

/-- A step that turns the list of what is to do alone. -/
theorem toF_goes {G : Nat → List SV} {w0 : World} {E : Env} {s : St} {fr : Frame} {cs cs0 : List Frame} {w : World} (h : MRel P ν G w0 E s fr cs w) {k : List SI} {its : List Item} (hp : FPlain ν E s.fr fr) (hk : itemsOf E k = some its)
    (hstep : ∀ (cs : List Frame), step P (lone fr cs w) = .next (lone { fr with todo := its } cs w)) : Goes P ν G w0 cs0 (lone fr (cs ++ cs0) w) { s with fr := { s.fr with todo := k } } := by
  refine ⟨E, { fr with todo := its }, cs, w, ⟨h.mem, .inl ⟨⟨hp.base.fn, hp.base.kind, hp.base.defers, hp.base.mode, hp.base.rnd⟩, hp.tmps, hk⟩, h.stk, ?_⟩, .one (hstep _)⟩
  intro ops done lag k' e
  simp only at e
  subst e
  obtain ⟨i, t, h1, _⟩ := itemsOf_cons.1 hk
  simp [itemOf] at h1

theorem exitS_of {E : Env} {id : Nat} : ∀ {k k' : List SI} {its : List Item}, itemsOf E k = some its → exitS id k = some k' → ∃ its', exitTo id its = some its' ∧ itemsOf E k' = some its'
  | [], k', its, h, e => by simp [exitS] at e
  | x :: r, k', its, h, e => by
    obtain ⟨i, t, h1, h2, rfl⟩ := itemsOf_cons.1 h
    cases x with
    | inBlock id' =>
      simp [itemOf] at h1; subst h1
      simp only [exitS, exitTo] at e ⊢
      split at e
      · rename_i hc; simp at e; subst e; rw [if_pos hc]; exact ⟨t, rfl, h2⟩
      · rename_i hc; rw [if_neg hc]; exact exitS_of h2 e
    | inDraw => simp [itemOf] at h1
    | inRF b =>
      simp only [itemOf] at h1
      cases hb : blk E b with
      | none => rw [hb] at h1; cases h1
      | some p => rw [hb] at h1; simp at h1; subst h1; simp only [exitS, exitTo] at e ⊢; exact exitS_of h2 e
    | endRF b =>
      simp only [itemOf] at h1
      cases hb : blk E b with
      | none => rw [hb] at h1; cases h1
      | some p => rw [hb] at h1; simp at h1; subst h1; simp only [exitS, exitTo] at e ⊢; exact exitS_of h2 e
    | _ => simp [itemOf] at h1; subst h1; simp only [exitS, exitTo] at e ⊢; exact exitS_of h2 e
theorem exitS_no {E : Env} {id : Nat} : ∀ {k : List SI} {its : List Item}, itemsOf E k = some its → exitS id k = none → exitTo id its = none
  | [], its, h, e => by simp [itemsOf] at h; subst h; rfl
  | x :: r, its, h, e => by
    obtain ⟨i, t, h1, h2, rfl⟩ := itemsOf_cons.1 h
    cases x with
    | inBlock id' =>
      simp [itemOf] at h1; subst h1
      simp only [exitS, exitTo] at e ⊢
      split at e
      · cases e
      · rename_i hc; rw [if_neg hc]; exact exitS_no h2 e
    | inDraw => simp [itemOf] at h1
    | inRF b =>
      simp only [itemOf] at h1
      cases hb : blk E b with
      | none => rw [hb] at h1; cases h1
      | some p => rw [hb] at h1; simp at h1; subst h1; simp only [exitS, exitTo] at e ⊢; exact exitS_no h2 e
    | endRF b =>
      simp only [itemOf] at h1
      cases hb : blk E b with
      | none => rw [hb] at h1; cases h1
      | some p => rw [hb] at h1; simp at h1; subst h1; simp only [exitS, exitTo] at e ⊢; exact exitS_no h2 e
    | _ => simp [itemOf] at h1; subst h1; simp only [exitS, exitTo] at e ⊢; exact exitS_no h2 e
theorem gotoS_of {E : Env} {id : Nat} : ∀ {k k' : List SI} {its : List Item}, itemsOf E k = some its → gotoS id k = some k' → ∃ its', gotoIn id its = some its' ∧ itemsOf E k' = some its'
  | [], k', its, h, e => by simp [gotoS] at e
  | x :: r, k', its, h, e => by
    obtain ⟨i, t, h1, h2, rfl⟩ := itemsOf_cons.1 h
    cases x with
    | inScope body =>
      simp [itemOf] at h1; subst h1
      simp only [gotoS, gotoIn] at e ⊢
      split at e
      · rename_i rest hc; simp at e; subst e; rw [hc]; exact ⟨_, rfl, itemsOf_cons.2 ⟨_, _, rfl, itemsOf_cons.2 ⟨_, _, rfl, h2, rfl⟩, rfl⟩⟩
      · rename_i hc; rw [hc]; exact gotoS_of h2 e
    | inDraw => simp [itemOf] at h1
    | inRF b =>
      simp only [itemOf] at h1
      cases hb : blk E b with
      | none => rw [hb] at h1; cases h1
      | some p => rw [hb] at h1; simp at h1; subst h1; simp only [gotoS, gotoIn] at e ⊢; exact gotoS_of h2 e
    | endRF b =>
      simp only [itemOf] at h1
      cases hb : blk E b with
      | none => rw [hb] at h1; cases h1
      | some p => rw [hb] at h1; simp at h1; subst h1; simp only [gotoS, gotoIn] at e ⊢; exact gotoS_of h2 e
    | _ => simp [itemOf] at h1; subst h1; simp only [gotoS, gotoIn] at e ⊢; exact gotoS_of h2 e
theorem gotoS_no {E : Env} {id : Nat} : ∀ {k : List SI} {its : List Item}, itemsOf E k = some its → gotoS id k = none → gotoIn id its = none
  | [], its, h, e => by simp [itemsOf] at h; subst h; rfl
  | x :: r, its, h, e => by
    obtain ⟨i, t, h1, h2, rfl⟩ := itemsOf_cons.1 h
    cases x with
    | inScope body =>
      simp [itemOf] at h1; subst h1
      simp only [gotoS, gotoIn] at e ⊢
      split at e
      · cases e
      · rename_i hc; rw [hc]; exact gotoS_no h2 e
    | inDraw => simp [itemOf] at h1
    | inRF b =>
      simp only [itemOf] at h1
      cases hb : blk E b with
      | none => rw [hb] at h1; cases h1
      | some p => rw [hb] at h1; simp at h1; subst h1; simp only [gotoS, gotoIn] at e ⊢; exact gotoS_no h2 e
    | endRF b =>
      simp only [itemOf] at h1
      cases hb : blk E b with
      | none => rw [hb] at h1; cases h1
      | some p => rw [hb] at h1; simp at h1; subst h1; simp only [gotoS, gotoIn] at e ⊢; exact gotoS_no h2 e
    | _ => simp [itemOf] at h1; subst h1; simp only [gotoS, gotoIn] at e ⊢; exact gotoS_no h2 e

/-- What an operand comes to in a frame. -/
theorem ev_eval {E : Env} {tmps : List SV} {fr : Frame} (h : dens ν E tmps = some fr.tmps.toList) {x : Operand} {s : SV} (hs : ev tmps x = some s) : den ν E s = some (fr.eval x) := by
  cases x with
  | tmp t =>
    simp [ev] at hs
    subst hs
    cases ht : tmps[t]? with
    | some s =>
      obtain ⟨v, h1, h2⟩ := dens_get h ht
      simp at h1
      simp [Frame.eval, h1, h2]
    | none =>
      have hl := dens_len h
      have : fr.tmps.size ≤ t := by
        have := List.getElem?_eq_none_iff.1 ht
        simp at hl; omega
      simp [Frame.eval, Array.getElem?_eq_none this, undefS, undef, den, dens]
  | const v => simp [ev] at hs; simpa [Frame.eval] using ofV_den hs E
  | global g => simp [ev] at hs; subst hs; simp [den, Frame.eval]
  | func f => simp [ev] at hs; subst hs; simp [den, dens, Frame.eval]
end Go.Ev

/- EvN: A machine that runs a call whose values are known: the steps that run no operation. -/
namespace Go.Ev
open Go.RowKit

variable {P : Program} {ν : Nat → Value} {G : Nat → List SV} {w0 : World} {E : Env} {cs0 : List Frame}

theorem inv_code {E : Env} {c : Code} {k : List SI} {its : List Item} (h : itemsOf E (.code c :: k) = some its) : ∃ t, its = .code c :: t ∧ itemsOf E k = some t := by
  obtain ⟨i, t, h1, h2, rfl⟩ := itemsOf_cons.1 h
  simp [itemOf] at h1; subst h1
  exact ⟨t, rfl, h2⟩

theorem FPlain.mo {f : SF} {fr : Frame} (h : FPlain ν E f fr) (hm : f.mode = .run) : fr.mode = .run := by
  have := h.base.mode
  rw [hm] at this; exact this

theorem move_goes {s : St} {fr : Frame} {cs : List Frame} {w : World} (h : MRel P ν G w0 E s fr cs w) (hp : FPlain ν E s.fr fr) {k k' : List SI} {its its' : List Item} (hk : itemsOf E k = some its) (hfk : fr.todo = its) (hk' : itemsOf E k' = some its')
    (hstep : ∀ (fr : Frame) (cs : List Frame), fr.mode = .run → fr.todo = its → step P (lone fr cs w) = .next (lone { fr with todo := its' } cs w)) (hm : s.fr.mode = .run) :
    Goes P ν G w0 cs0 (lone fr (cs ++ cs0) w) { s with fr := { s.fr with todo := k' } } :=
  toF_goes h hp hk' fun cs => hstep fr cs (hp.mo hm) hfk

end Go.Ev
namespace Go.Ev
open Go.RowKit
variable {P : Program} {ν : Nat → Value} {G : Nat → List SV} {w0 : World} {E : Env} {cs0 : List Frame}

/-- A frame goes on by what is to do. -/
theorem go_todo {fr : Frame} {its its' : List Item} {w : World} (cs : List Frame) (hm : fr.mode = .run) (ht : fr.todo = its)
    (h : ∀ (fn : FuncId) (tmps : Array Value) (defers : List Deferred) (kind : CallKind) (rnd : Option Nat),
      (stepG P true { frame := { fn := fn, tmps := tmps, todo := its, defers := defers, mode := .run, kind := kind, roundOf := rnd }, callers := cs, status := .running, dying := none } w).bare =
        GStep.go { frame := { fn := fn, tmps := tmps, todo := its', defers := defers, mode := .run, kind := kind, roundOf := rnd }, callers := cs, status := .running, dying := none } w) :
    step P (lone fr cs w) = .next (lone { fr with todo := its' } cs w) := by
  obtain ⟨fn, tmps, todo, defers, mode, kind, rnd⟩ := fr
  simp only at hm ht
  subst hm; subst ht
  exact step_lone_go (h fn tmps defers kind rnd)

theorem st_skip {c : Code} {k : List Item} {fr : Frame} {w : World} (cs : List Frame) (hc : c = .skip ∨ ∃ l, c = .label l) (hm : fr.mode = .run) (ht : fr.todo = .code c :: k) : step P (lone fr cs w) = .next (lone { fr with todo := k } cs w) :=
  go_todo cs hm ht fun _ _ _ _ _ => by rcases hc with rfl | ⟨l, rfl⟩ <;> simp [stepG, stepG.exec]
theorem st_inBlock {id : Nat} {k : List Item} {fr : Frame} {w : World} (cs : List Frame) (hm : fr.mode = .run) (ht : fr.todo = .inBlock id :: k) : step P (lone fr cs w) = .next (lone { fr with todo := k } cs w) :=
  go_todo cs hm ht fun _ _ _ _ _ => by simp [stepG, stepG.exec]
theorem st_inScope {b : Code} {k : List Item} {fr : Frame} {w : World} (cs : List Frame) (hm : fr.mode = .run) (ht : fr.todo = .inScope b :: k) : step P (lone fr cs w) = .next (lone { fr with todo := k } cs w) :=
  go_todo cs hm ht fun _ _ _ _ _ => by simp [stepG, stepG.exec]
theorem st_seq {a b : Code} {k : List Item} {fr : Frame} {w : World} (cs : List Frame) (hm : fr.mode = .run) (ht : fr.todo = .code (.seq a b) :: k) : step P (lone fr cs w) = .next (lone { fr with todo := .code a :: .code b :: k } cs w) :=
  go_todo cs hm ht fun _ _ _ _ _ => by simp [stepG, stepG.exec]
theorem st_block {id : Nat} {b : Code} {k : List Item} {fr : Frame} {w : World} (cs : List Frame) (hm : fr.mode = .run) (ht : fr.todo = .code (.block id b) :: k) : step P (lone fr cs w) = .next (lone { fr with todo := .code b :: .inBlock id :: k } cs w) :=
  go_todo cs hm ht fun _ _ _ _ _ => by simp [stepG, stepG.exec]
theorem st_loop {b : Code} {k : List Item} {fr : Frame} {w : World} (cs : List Frame) (hm : fr.mode = .run) (ht : fr.todo = .code (.loop b) :: k) : step P (lone fr cs w) = .next (lone { fr with todo := .code b :: .inLoop b :: k } cs w) :=
  go_todo cs hm ht fun _ _ _ _ _ => by simp [stepG, stepG.exec]
theorem st_inLoop {b : Code} {k : List Item} {fr : Frame} {w : World} (cs : List Frame) (hm : fr.mode = .run) (ht : fr.todo = .inLoop b :: k) : step P (lone fr cs w) = .next (lone { fr with todo := .code b :: .inLoop b :: k } cs w) :=
  go_todo cs hm ht fun _ _ _ _ _ => by simp [stepG, stepG.exec]
theorem st_scope {b : Code} {k : List Item} {fr : Frame} {w : World} (cs : List Frame) (hm : fr.mode = .run) (ht : fr.todo = .code (.scope b) :: k) : step P (lone fr cs w) = .next (lone { fr with todo := .code b :: .inScope b :: k } cs w) :=
  go_todo cs hm ht fun _ _ _ _ _ => by simp [stepG, stepG.exec]
theorem st_exit {id : Nat} {k k' : List Item} {fr : Frame} {w : World} (cs : List Frame) (he : exitTo id k = some k') (hm : fr.mode = .run) (ht : fr.todo = .code (.exit id) :: k) : step P (lone fr cs w) = .next (lone { fr with todo := k' } cs w) :=
  go_todo cs hm ht fun _ _ _ _ _ => by simp [stepG, stepG.exec, he]
theorem st_goto {id : Nat} {k k' : List Item} {fr : Frame} {w : World} (cs : List Frame) (he : gotoIn id k = some k') (hm : fr.mode = .run) (ht : fr.todo = .code (.goto id) :: k) : step P (lone fr cs w) = .next (lone { fr with todo := k' } cs w) :=
  go_todo cs hm ht fun _ _ _ _ _ => by simp [stepG, stepG.exec, he]
theorem st_cond {c : Operand} {a b : Code} {t : Bool} {k : List Item} {fr : Frame} {w : World} (cs : List Frame) (he : fr.eval c = .bool t) (hm : fr.mode = .run) (ht : fr.todo = .code (.cond c a b) :: k) : step P (lone fr cs w) = .next (lone { fr with todo := .code (if t then a else b) :: k } cs w) := by
  obtain ⟨fn, tmps, todo, defers, mode, kind, rnd⟩ := fr
  simp only at hm ht
  subst hm; subst ht
  exact step_lone_go (by simp [stepG, stepG.exec, he])
theorem st_region {id : Nat} {ops : Array Oper} {k : List Item} {fr : Frame} {w : World} (cs : List Frame) (hm : fr.mode = .run) (ht : fr.todo = .code (.region id ops false) :: k) : step P (lone fr cs w) = .next (lone { fr with todo := .inRegion ops (List.range ops.size) :: k } cs w) :=
  go_todo cs hm ht fun _ _ _ _ _ => by simp [stepG, stepG.exec]
theorem st_regionEnd {ops : Array Oper} {k : List Item} {fr : Frame} {w : World} (cs : List Frame) (hm : fr.mode = .run) (ht : fr.todo = .inRegion ops [] :: k) : step P (lone fr cs w) = .next (lone { fr with todo := k } cs w) :=
  go_todo cs hm ht fun _ _ _ _ _ => by simp [stepG, stepG.exec]
theorem st_draw {id : Nat} {ops : Array Oper} {k : List Item} {fr : Frame} {w : World} (cs : List Frame) (hm : fr.mode = .run) (ht : fr.todo = .code (.region id ops true) :: k) :
    step P (lone fr cs w) = .next (lone { fr with todo := .inRegion ops (Region.schedule (P.follows .mixedOrders) ops (w.tape w.drawn (.order fr.fn id))) :: k } cs { w with drawn := w.drawn + 1 }) := by
  obtain ⟨fn, tmps, todo, defers, mode, kind, rnd⟩ := fr
  simp only at hm ht
  subst hm; subst ht
  exact step_lone_go (by simp [stepG, stepG.exec, choose, Sem.run, Question.forced, Question.cut])
theorem st_skipOp {ops : Array Oper} {i : Nat} {rest : List Nat} {k : List Item} {fr : Frame} {w : World} (cs : List Frame) (h : ((ops[i]?).map (Region.wanted · (yielded ops fr.tmps))).getD false = false) (hm : fr.mode = .run) (ht : fr.todo = .inRegion ops (i :: rest) :: k) :
    step P (lone fr cs w) = .next (lone (fr.finish undef) cs w) := by
  obtain ⟨fn, tmps, todo, defers, mode, kind, rnd⟩ := fr
  simp only at hm ht h
  subst hm; subst ht
  exact step_lone_go (by simp [stepG, stepG.exec, h])
theorem st_op {ops : Array Oper} {i : Nat} {rest : List Nat} {k : List Item} {o : Oper} {fr : Frame} {w : World} (cs : List Frame) (ho : ops[i]? = some o) (hw : Region.wanted o (yielded ops fr.tmps) = true) (hm : fr.mode = .run) (ht : fr.todo = .inRegion ops (i :: rest) :: k)
    (hr : fr.roundOf = none ∨ ∀ c, o.op ≠ .defer c) :
    stepG P true { frame := fr, callers := cs, status := .running, dying := none } w = stepG.apply P true fr cs none (execOp fr.eval o) w := by
  obtain ⟨fn, tmps, todo, defers, mode, kind, rnd⟩ := fr
  simp only at hm ht hr hw
  subst hm; subst ht
  rcases hr with rfl | hr
  · simp [stepG, stepG.exec, stepG.oper, Frame.oper?, ho, hw]
  · cases rnd with
    | none => simp [stepG, stepG.exec, stepG.oper, Frame.oper?, ho, hw]
    | some l =>
      simp only [stepG, stepG.exec, ho, Option.map_some, hw, Option.getD_some, if_true, stepG.oper, Frame.oper?]
      cases hop : o.op <;> first | rfl | exact absurd hop (hr _)
theorem st_value {fr : Frame} {cs : List Frame} {w w' : World} {x : Sem Next} {v : Value} (hs : stepG P true { frame := fr, callers := cs, status := .running, dying := none } w = stepG.apply P true fr cs none x w) (hx : x.run P w = .ok (.value v) w') :
    step P (lone fr cs w) = .next (lone (fr.finish v) cs w') :=
  step_lone_go (by rw [hs]; simp [stepG.apply, hx])
theorem st_none {fr : Frame} {cs : List Frame} {w w' : World} {x : Sem Next} (hs : stepG P true { frame := fr, callers := cs, status := .running, dying := none } w = stepG.apply P true fr cs none x w) (hx : x.run P w = .ok .skip w') :
    step P (lone fr cs w) = .next (lone (fr.finish undef) cs w') :=
  step_lone_go (by rw [hs]; simp [stepG.apply, hx])
theorem st_panic {fr : Frame} {cs : List Frame} {w w' : World} {x : Sem Next} {v : Value} (hs : stepG P true { frame := fr, callers := cs, status := .running, dying := none } w = stepG.apply P true fr cs none x w) (hx : x.run P w = .halt (.panic v) w') :
    step P (lone fr cs w) = .next (lone (fr.raise [{ v, recovered := false }]) cs w') :=
  step_lone_go (by rw [hs]; simp [stepG.apply, hx])
theorem st_enter {fr : Frame} {cs : List Frame} {w w' : World} {x : Sem Next} {f : FuncId} {args : Array Value} (hn : ∀ a b c d k, fr.todo ≠ .call a b c d :: k) (hs : stepG P true { frame := fr, callers := cs, status := .running, dying := none } w = stepG.apply P true fr cs none x w) (hx : x.run P w = .ok (.enter f args) w') :
    step P (lone fr cs w) = .next (lone (Frame.enter P f args .normal) (fr :: cs) w') :=
  step_lone_go (by
    rw [hs]
    simp only [stepG.apply, Sem.runT_eq, if_true, hx, GStep.bare_after]
    split
    · rename_i h; exact absurd h (hn _ _ _ _ _)
    · rfl)
theorem st_round {fr : Frame} {cs : List Frame} {w w' : World} {x : Sem Next} {l : Nat} {f : FuncId} {tmps : Array Value} {a b : Code} (hn : ∀ a b c d k, fr.todo ≠ .call a b c d :: k) (hs : stepG P true { frame := fr, callers := cs, status := .running, dying := none } w = stepG.apply P true fr cs none x w) (hx : x.run P w = .ok (.round l f tmps a b) w') :
    step P (lone fr cs w) = .next (lone (Frame.round l f tmps a b .normal) (fr :: cs) w') :=
  step_lone_go (by
    rw [hs]
    simp [stepG.apply, hx])
theorem st_defer {fr : Frame} {cs : List Frame} {w w' : World} {x : Sem Next} {d : Deferred} (hs : stepG P true { frame := fr, callers := cs, status := .running, dying := none } w = stepG.apply P true fr cs none x w) (hx : x.run P w = .ok (.defer d) w') :
    step P (lone fr cs w) = .next (lone ({ fr with defers := d :: fr.defers }.finish undef) cs w') :=
  step_lone_go (by rw [hs]; simp [stepG.apply, hx])
theorem st_recover {fr : Frame} {cs cs' : List Frame} {w w' : World} {x : Sem Next} {v : Value} (hr : fr.roundOf = none) (ht : (tryRecover fr cs = some (v, cs')) ∨ (tryRecover fr cs = none ∧ v = .nilIface ∧ cs' = cs))
    (hs : stepG P true { frame := fr, callers := cs, status := .running, dying := none } w = stepG.apply P true fr cs none x w) (hx : x.run P w = .ok .recover w') :
    step P (lone fr cs w) = .next (lone (fr.finish v) cs' w') :=
  step_lone_go (by
    rw [hs]
    rcases ht with ht | ⟨ht, rfl, rfl⟩ <;> simp [stepG.apply, hx, hr, ht])
end Go.Ev

/- EvO: A machine that runs a call whose values are known: a value comes back to a frame. -/
namespace Go.Ev
open Go.RowKit

variable {P : Program} {ν : Nat → Value} {G : Nat → List SV} {w0 : World} {cs0 : List Frame}

theorem put_dens {E : Env} {tmps : List SV} {rt : Array Value} (h : dens ν E tmps = some rt.toList) {v : SV} {u : Value} (hv : den ν E v = some u) (dst : Option Tmp) :
    dens ν E (putS tmps dst v) = some (match dst with | some d => rt.setIfInBounds d u | none => rt).toList := by
  cases dst with
  | none => exact h
  | some d => simpa [putS] using dens_set d h hv

theorem inner_spec (acc : Array Nat) (i : Nat) : ∀ (es : List Edge) (s : Nat), (es.foldl (fun s e => if Region.binds .any e then s ||| 2 ^ e.on ||| acc.getD e.on 0 else s) s).testBit i = true →
    s.testBit i = true ∨ ∃ e ∈ es, Region.binds .any e = true ∧ (e.on = i ∨ (acc.getD e.on 0).testBit i = true)
  | [], s, h => .inl h
  | e :: r, s, h => by
    rw [List.foldl_cons] at h
    rcases inner_spec acc i r _ h with h | ⟨e', h1, h2, h3⟩
    · split at h
      · rename_i hb
        rw [Nat.testBit_or, Nat.testBit_or, Nat.testBit_two_pow] at h
        simp only [Bool.or_eq_true, decide_eq_true_eq] at h
        rcases h with (h | h) | h
        · exact .inl h
        · exact .inr ⟨e, by simp, hb, .inl h⟩
        · exact .inr ⟨e, by simp, hb, .inr h⟩
      · exact .inl h
    · exact .inr ⟨e', by simp [h1], h2, h3⟩

def BefOk (ops : Array Oper) (acc : Array Nat) : Prop := ∀ k i, (acc.getD k 0).testBit i = true → ∃ o e, ops[k]? = some o ∧ e ∈ o.after ∧ Region.binds .any e = true ∧ (e.on = i ∨ (e.on < k ∧ (acc.getD e.on 0).testBit i = true))
theorem before_ok (ops : Array Oper) : BefOk ops (Region.before ops) := by
  unfold Region.before
  refine (Array.foldl_induction (motive := fun n (acc : Array Nat) => acc.size = n ∧ BefOk ops acc) ?_ ?_).2
  · refine ⟨rfl, fun k i h => ?_⟩
    simp at h
  · rintro n acc ⟨hs, hok⟩
    refine ⟨by simp [hs], fun k i h => ?_⟩
    rcases Nat.lt_trichotomy k acc.size with hk | hk | hk
    · have e1 : ∀ j, j < acc.size → ∀ x, (acc.push x).getD j 0 = acc.getD j 0 := fun j hj x => by
        simp only [Array.getD_eq_getD_getElem?, Array.getElem?_push, if_neg (Nat.ne_of_lt hj)]
      rw [e1 k hk] at h
      obtain ⟨o, e, h1, h2, h3, h4⟩ := hok k i h
      refine ⟨o, e, h1, h2, h3, ?_⟩
      rcases h4 with h4 | ⟨h4, h5⟩
      · exact .inl h4
      · exact .inr ⟨h4, by rw [e1 _ (by omega)]; exact h5⟩
    · subst hk
      have e1 : ∀ j, j < acc.size → ∀ x, (acc.push x).getD j 0 = acc.getD j 0 := fun j hj x => by
        simp only [Array.getD_eq_getD_getElem?, Array.getElem?_push, if_neg (Nat.ne_of_lt hj)]
      simp only [Array.getD_eq_getD_getElem?, Array.getElem?_push, if_true, Option.getD_some] at h
      rw [← Array.foldl_toList] at h
      have h' := inner_spec acc i (ops[n].after.toList) 0 (by simpa [Array.getD_eq_getD_getElem?] using h)
      rcases h' with h' | ⟨e, g1, g2, g3⟩
      · simp at h'
      · refine ⟨ops[n], e, by rw [hs]; simp, by simpa using g1, g2, ?_⟩
        rcases g3 with g3 | g3
        · exact .inl g3
        · refine .inr ?_
          have hlt : e.on < acc.size := by
            rcases Nat.lt_or_ge e.on acc.size with h | h
            · exact h
            · simp [Array.getD_eq_getD_getElem?, Array.getElem?_eq_none h] at g3
          exact ⟨hlt, by rw [e1 _ hlt]; exact g3⟩
    · simp only [Array.getD_eq_getD_getElem?] at h
      rw [Array.getElem?_eq_none (by simp; omega)] at h
      simp at h

/-- What had to come up ahead has come up. -/
theorem before_spec {ops : Array Oper} {dr : Array Bool} (hc : Closed ops dr) (i : Nat) : ∀ (k : Nat) (o : Oper), ops[k]? = some o → (∀ e ∈ o.after, Region.binds .any e = true → dr.getD e.on false = true) → dep (Region.before ops) k i = true → dr.getD i false = true := by
  intro k
  induction k using Nat.strongRecOn with
  | _ k ih =>
    intro o ho hdeps hd
    obtain ⟨o', e, h1, h2, h3, h4⟩ := before_ok ops k i hd
    rw [ho] at h1
    cases h1
    rcases h4 with h4 | ⟨h4, h5⟩
    · rw [← h4]; exact hdeps e h2 h3
    · have hlt := (Array.getElem?_eq_some_iff.1 ho).1
      have hx : ops[e.on]? = some ops[e.on] := Array.getElem?_eq_getElem (by omega)
      exact ih e.on h4 _ hx (fun e' he' hb' => hc e.on _ hx (hdeps e h2 h3) e' he' hb') h5

theorem ready_spec {ops : Array Oper} {dr : Array Bool} {i : Nat} (h : i ∈ Region.ready .any ops dr) : i < ops.size ∧ dr.getD i true = false ∧ ∃ o, ops[i]? = some o ∧ ∀ e ∈ o.after, Region.binds .any e = true → dr.getD e.on false = true := by
  unfold Region.ready at h
  rw [List.mem_filter, List.mem_range] at h
  obtain ⟨h1, h2⟩ := h
  rw [Bool.and_eq_true] at h2
  obtain ⟨h2, h3⟩ := h2
  refine ⟨h1, by simpa using h2, ops[i], by simp [h1], fun e he hb => ?_⟩
  simp only [Array.getElem?_eq_getElem h1, Option.map_some, Option.getD_some, Array.all_eq_true'] at h3
  have := h3 e he
  rw [hb] at this
  simpa using this
theorem ready_of {ops : Array Oper} {dr : Array Bool} {i : Nat} {o : Oper} (ho : ops[i]? = some o) (hd : dr.getD i true = false) (h : ∀ e ∈ o.after, Region.binds .any e = true → dr.getD e.on false = true) : i ∈ Region.ready .any ops dr := by
  unfold Region.ready
  have hlt := (Array.getElem?_eq_some_iff.1 ho).1
  rw [List.mem_filter, List.mem_range]
  refine ⟨hlt, ?_⟩
  rw [Bool.and_eq_true]
  refine ⟨by simpa using hd, ?_⟩
  simp only [ho, Option.map_some, Option.getD_some, Array.all_eq_true']
  intro e he
  cases hb : Region.binds .any e with
  | false => rfl
  | true => simpa using h e he hb

theorem getD_set (a : Array Bool) (i j : Nat) (h : i < a.size) : (a.setIfInBounds i true).getD j false = if i = j then true else a.getD j false := by
  simp only [Array.getD_eq_getD_getElem?, Array.getElem?_setIfInBounds]
  split
  · rename_i e; subst e; simp [h]
  · rfl
theorem getD_false {a : Array Bool} {i : Nat} (h : a.getD i true = false) : a.getD i false = false := by
  simp only [Array.getD_eq_getD_getElem?] at h ⊢
  cases hi : a[i]? with
  | none => rfl
  | some b => rw [hi] at h; simpa using h

/-- A value comes back to a frame that is not in the middle of an open order. -/
theorem finish_plain {E : Env} {H : List SO} {f f' : SF} {fr : Frame} {v : SV} {u : Value} (h : FPlain ν E f fr) (hv : den ν E v = some u) (hf : finishS P G H f v = some f') : FPlain ν E f' (fr.finish u) ∧ ∀ ops done lag k, f'.todo ≠ .inDraw ops done lag none :: k := by
  obtain ⟨fn, tmps, todo, defers, mode, kind, rnd⟩ := f
  obtain ⟨rfn, rtmps, rtodo, rdefers, rmode, rkind, rrnd⟩ := fr
  obtain ⟨⟨b1, b2, b3, b4, b5⟩, ht, hk⟩ := h
  simp only at b1 b2 b3 b4 b5 ht hk
  unfold finishS at hf
  simp only at hf
  split at hf
  · rename_i ops i rest k
    obtain ⟨it, t, h1, h2, rfl⟩ := itemsOf_cons.1 hk
    simp [itemOf] at h1; subst h1
    simp only [Option.some.injEq] at hf; subst hf
    have hp := put_dens ht hv (dstOf ops i)
    refine ⟨⟨⟨b1, b2, b3, b4, b5⟩, ?_, itemsOf_cons.2 ⟨_, _, rfl, h2, rfl⟩⟩, fun _ _ _ _ e => by cases e⟩
    simp only [Frame.finish]
    unfold dstOf at hp
    exact hp
  · rename_i ops done lag i k
    obtain ⟨it, t, h1, _⟩ := itemsOf_cons.1 hk
    simp [itemOf] at h1
  · rename_i b k
    obtain ⟨it, t, h1, h2, rfl⟩ := itemsOf_cons.1 hk
    simp only [Option.some.injEq] at hf; subst hf
    simp only [itemOf] at h1
    cases hb : blk E b with
    | none => rw [hb] at h1; cases h1
    | some p =>
      rw [hb] at h1
      simp at h1; subst h1
      exact ⟨⟨⟨b1, b2, b3, b4, b5⟩, ht, itemsOf_cons.2 ⟨.endRangeFunc p.1, t, by simp [itemOf, hb], h2, rfl⟩⟩, fun _ _ _ _ e => by cases e⟩
  · rename_i k
    obtain ⟨it, t, h1, h2, rfl⟩ := itemsOf_cons.1 hk
    simp [itemOf] at h1; subst h1
    simp only [Option.some.injEq] at hf; subst hf
    refine ⟨⟨⟨b1, b2, b3, b4, b5⟩, ht, h2⟩, fun ops done lag k' e => ?_⟩
    simp only at e
    subst e
    obtain ⟨it, t', h1, _⟩ := itemsOf_cons.1 h2
    simp [itemOf] at h1
  · cases hf

theorem finish_drawn {E : Env} {d : Nat} {H : List SO} {f f' : SF} {fr : Frame} {v : SV} {u : Value} {ops : Array Oper} {done : Array Bool} {lag : List (Nat × Option Nat)} {pend : Option Nat} {k : List SI} (h : FDrawn ν E d f fr ops done lag pend k) (hv : den ν E v = some u) (hf : finishS P G H f v = some f') :
    FRel ν E d f' (fr.finish u) ∧ ∀ ops done lag k, f'.todo = .inDraw ops done lag none :: k → ∀ x ∈ lag, lagOk P G ops f'.tmps H x = true := by
  obtain ⟨fn, tmps, todo, defers, mode, kind, rnd⟩ := f
  obtain ⟨rfn, rtmps, rtodo, rdefers, rmode, rkind, rrnd⟩ := fr
  obtain ⟨⟨b1, b2, b3, b4, b5⟩, hhead, its, l, dr, hk, ht, hD, hp⟩ := h
  simp only at b1 b2 b3 b4 b5 hhead ht hD
  subst hhead
  subst ht
  cases pend with
  | none => simp [finishS] at hf
  | some i =>
    obtain ⟨l', rfl, hnd⟩ := hp i rfl
    simp only [finishS] at hf
    split at hf
    · rename_i hall
      simp only [Option.some.injEq] at hf; subst hf
      have hord := hD.ord
      cases hord with
      | cons hi hord' =>
      obtain ⟨r1, r2, o, ho, hdeps⟩ := ready_spec hi
      have hdi := getD_false r2
      have his : i < dr.size := by rw [hD.size]; exact r1
      have hids : i < done.size := by rw [hD.dsize]; exact r1
      have hdep : ∀ j, dep (Region.before ops) i j = true → dr.getD j false = true := fun j hj => before_spec hD.closed j i o ho hdeps hj
      have hmem : ∀ x, x ∈ lag.filter (fun j => !dep (Region.before ops) i j.1) → x ∈ lag := fun x hx => (List.mem_filter.1 hx).1
      have hne : ∀ x, x ∈ lag → i ≠ x.1 := fun x hx e => by
        have := hD.lagDone x hx
        rw [← e, hnd] at this; cases this
      refine ⟨.inr ⟨ops, _, _, none, k, ⟨b1, b2, b3, b4, b5⟩, rfl, its, l', dr.setIfInBounds i true, hk, rfl, ?_, fun j hj => by cases hj⟩, ?_⟩
      · refine ⟨hD.back, by simp [hD.size], by simp [hD.dsize], hord', ?_, ?_, ?_, fun x hx => hD.fresh x (hmem x hx), ?_, ?_, ?_, fun a b c h1 h2 => hD.uniq a b c (hmem _ h1) (hmem _ h2), fun a b h1 => hD.owedLt a b (hmem _ h1), ?_⟩
        · intro j hj
          rw [getD_set _ _ _ his] at hj
          rw [getD_set _ _ _ hids]
          by_cases e : i = j
          · rw [if_pos e]
          · rw [if_neg e] at hj ⊢; exact hD.sub j hj
        · intro j hj
          rw [getD_set _ _ _ hids] at hj
          rw [getD_set _ _ _ his]
          by_cases e : i = j
          · rw [if_pos e]; exact .inl rfl
          · rw [if_neg e] at hj ⊢
            rcases hD.cov j hj with h | ⟨ob, h⟩
            · exact .inl h
            · cases hdd : dep (Region.before ops) i j with
              | true => exact .inl (hdep j hdd)
              | false => exact .inr ⟨ob, List.mem_filter.2 ⟨h, by simp [hdd]⟩⟩
        · intro j oj hoj hj e he hb
          rw [getD_set _ _ _ his] at hj
          rw [getD_set _ _ _ his]
          by_cases e1 : i = e.on
          · rw [if_pos e1]
          · rw [if_neg e1]
            by_cases e2 : i = j
            · subst e2
              rw [ho] at hoj
              cases hoj
              exact hdeps e he hb
            · rw [if_neg e2] at hj
              exact hD.closed j oj hoj hj e he hb
        · simp only [Frame.finish, putS]
          unfold dstOf
          cases hdx : (ops[i]?).bind (·.dst) <;> simp [hD.len]
        · intro t s hs hno
          have hold : ∀ (s : SV), tmps[t]? = some s → ∃ v, rtmps[t]? = some v ∧ den ν E s = some v := by
            intro s' hs'
            refine hD.tmps t s' hs' fun x hx hxd hxt => ?_
            cases hdd : dep (Region.before ops) i x.1 with
            | true => have := hdep x.1 hdd; rw [this] at hxd; cases hxd
            | false => exact hno x (List.mem_filter.2 ⟨hx, by simp [hdd]⟩) (by rw [getD_set _ _ _ his, if_neg (hne x hx)]; exact hxd) hxt
          simp only [Frame.finish]
          simp only [putS] at hs
          unfold dstOf at hs
          cases hdx : (ops[i]?).bind (·.dst) with
          | none => rw [hdx] at hs; exact hold s hs
          | some dd =>
            rw [hdx] at hs
            simp only at hs ⊢
            by_cases e : dd = t
            · subst e
              have hlt : dd < tmps.length := by have := (List.getElem?_eq_some_iff.1 hs).1; simpa using this
              rw [List.getElem?_set_self hlt] at hs
              cases hs
              exact ⟨u, by rw [Array.getElem?_setIfInBounds]; simp [← hD.len, hlt], hv⟩
            · rw [List.getElem?_set_ne e] at hs
              rw [Array.getElem?_setIfInBounds, if_neg e]
              exact hold s hs
        · intro x hx
          rw [getD_set _ _ _ hids]
          split
          · rfl
          · exact hD.lagDone x (hmem x hx)
        · intro a b h1 h2
          rw [getD_set _ _ _ his, if_neg (hne _ (hmem _ h1))] at h2
          exact hD.owed a b (hmem _ h1) h2
      · intro ops' done' lag' k' e x hx
        simp only [List.cons.injEq, SI.inDraw.injEq] at e
        obtain ⟨⟨rfl, rfl, rfl, _⟩, rfl⟩ := e
        exact List.all_eq_true.1 hall x hx
    · cases hf
end Go.Ev

/- EvP: A machine that runs a call whose values are known: what an operation comes to. -/
namespace Go.Ev
open Go.RowKit

variable {P : Program} {ν : Nat → Value} {G : Nat → List SV} {w0 : World} {cs0 : List Frame}

/-- What is said of an operation's outcome. -/
def SxOk (P : Program) (ν : Nat → Value) (w0 : World) (E : Env) (x : Sem Next) (w : World) : SR → Prop
  | .val v H' => ∃ E' w' nx u, (∀ d, Ext d E E') ∧ x.run P w = .ok nx w' ∧ (nx = .value u ∨ (nx = .skip ∧ u = undef)) ∧ den ν E' v = some u ∧ WRel P ν w0 E' H' w'
  | .enter f args => ∃ vs, x.run P w = .ok (.enter f vs) w ∧ dens ν E args = some vs.toList
  | .round b args => ∃ r k vs, E[b]? = some (.lies r k) ∧ dens ν E args = some vs.toList ∧ x.run P w = (Instr.yield r vs).run P w
  | .defer d => ∃ dd, x.run P w = .ok (.defer dd) w ∧ denD ν E d = some dd
  | .recover => x.run P w = .ok .recover w
  | .panic v => ∃ u, x.run P w = .halt (.panic u) w ∧ den ν E v = some u

theorem bodied_run {f : FuncId} (h : bodied P f = true) (args : Array Value) (w : World) : (callFunc f args).run P w = .ok (.enter f args) w := by
  unfold bodied at h
  split at h
  · rename_i fn hf
    simp only [Bool.and_eq_true, Bool.not_eq_true'] at h
    have hb : ¬ fn.body = none := fun e => by rw [e] at h; simp at h
    have hn : ¬ fn.name = "runtime.NumGoroutine" := by simpa using h.2
    simp [callFunc, hf, hb, hn]
  · cases h

theorem evs_of {E : Env} {tmps : List SV} {ρ : Operand → Value} {l : Array Operand} {ss : List SV} (hρ : ∀ x ∈ l, ∀ s, ev tmps x = some s → den ν E s = some (ρ x)) (h : evs tmps l.toList = some ss) : dens ν E ss = some (l.map ρ).toList := by
  rw [evs_dens (ρ := ρ) (fun x hx => hρ x (by simpa using hx)) h]
  simp

theorem methodS_run {E : Env} {t : TypeId} {v : SV} {u : Value} {name : String} {f : FuncId} (h : methodS P t v name = some f) (w : World) (n : Nat) : (method (n + 1) t u name).run P w = .ok (f, u) w := by
  unfold methodS at h
  split at h
  · rename_i i hi
    split at h
    · rename_i m hm
      split at h
      · rename_i f' el hp hf hu
        simp at h; subst h
        have hpath : m.path = #[] := by simpa using hp
        unfold method
        simp [typeInfo, hi, hm, hpath, follow, hf, receiverAt, underlying, hu, Place.get]
      · cases h
      · rename_i f' d hne hp hf hu
        simp at h; subst h
        have hpath : m.path = #[] := by simpa using hp
        unfold method
        simp only [Sem.run_bind, typeInfo, run_program, Result.andThen_ok, hi, Sem.run_pure, hm, hpath, follow, hf, receiverAt, underlying, hu, List.toList_toArray]
        cases d <;> first | exact absurd hu (hne _ ) | simp [Place.get]
      · cases h
    · cases h
  · cases h

theorem callS_run {w : World} {E : Env} {H : List SO} {tmps : List SV} {ρ : Operand → Value} {c : Call} {o : Oper} {r : SR} (hop : o.op = .call c) (hρ : Sees ν E tmps ρ o) (h : callS P tmps c = some r) : SxOk P ν w0 E (execOp ρ o) w r := by
  unfold Sees at hρ
  rw [hop] at hρ
  have hargs' : ∀ x ∈ c.args, ∀ s, ev tmps x = some s → den ν E s = some (ρ x) := fun x hx => hρ x (by simp [Op.operands, Call.operands, hx])
  unfold callS at h
  split at h
  · rename_i args ha
    have hargs := evs_of hargs' ha
    split at h
    · rename_i f hc
      have hf : ∀ s, ev tmps f = some s → den ν E s = some (ρ f) := hρ f (by simp [Op.operands, Call.operands, hc])
      split at h
      · rename_i g first caps hg
        split at h
        · rename_i hb
          simp only [Option.some.injEq] at h; subst h
          obtain ⟨a', c', h1, h2, h3⟩ := den_func.1 (hf _ hg)
          refine ⟨a'.toArray ++ c.args.map ρ ++ c'.toArray, ?_, ?_⟩
          · simp only [execOp, hop, resolve, hc, h3, Deferred.ofValue, Sem.run_bind, Sem.run_pure, Result.andThen_ok, invoke]
            exact bodied_run hb _ w
          · simpa using dens_append (dens_append h1 hargs) h2
        · cases h
      · rename_i b hg
        simp only [Option.some.injEq] at h; subst h
        obtain ⟨rr, k, h1, h2⟩ := den_yield.1 (hf _ hg)
        refine ⟨rr, k, c.args.map ρ, h1, hargs, ?_⟩
        simp [execOp, hop, resolve, hc, h2, Deferred.ofValue, invoke]
      · cases h
    · rename_i recv name hc
      have hf : ∀ s, ev tmps recv = some s → den ν E s = some (ρ recv) := hρ recv (by simp [Op.operands, Call.operands, hc])
      split at h
      · rename_i t v hr
        split at h
        · rename_i f hm
          split at h
          · rename_i hb
            simp only [Option.some.injEq] at h; subst h
            obtain ⟨u, h1, h2⟩ := den_iface.1 (hf _ hr)
            refine ⟨#[u] ++ c.args.map ρ, ?_, ?_⟩
            · obtain ⟨n, hn⟩ : ∃ n, P.types.size + Made.depth = n + 1 := ⟨P.types.size + Made.depth - 1, by unfold Made.depth; omega⟩
              have hmr := methodS_run (E := E) (u := u) hm w n
              have hx : (#[ρ recv] ++ c.args.map ρ).extract 1 (#[ρ recv] ++ c.args.map ρ).size = c.args.map ρ := by
                apply Array.ext'
                simp [List.take_of_length_le]
              have h0 : (#[ρ recv] ++ c.args.map ρ)[0]? = some (ρ recv) := by rw [Array.getElem?_append_left (by simp)]; rfl
              have key : (callMethod (ρ recv) name (c.args.map ρ)).run P w = .ok (.enter f (#[u] ++ c.args.map ρ)) w := by
                rw [h2]
                simp only [callMethod, Sem.run_bind, run_program, Result.andThen_ok, hn, hmr]
                exact bodied_run hb _ w
              have k2 : (invoke (.fn (.method name) #[]) (#[ρ recv] ++ c.args.map ρ)).run P w = .ok (.enter f (#[u] ++ c.args.map ρ)) w := by
                unfold invoke
                simp only [h0, hx]
                exact key
              simp only [execOp, hop, resolve, hc, Sem.run_bind, Sem.run_pure, Result.andThen_ok]
              exact k2
            · simpa using dens_cons.2 ⟨u, _, h1, hargs, rfl⟩
          · cases h
        · cases h
      · cases h
    · rename_i hc
      simp only [Option.some.injEq] at h; subst h
      simp [SxOk, execOp, hop, resolve, hc, invoke, builtin]
    · cases h
  · cases h

theorem deferS_run {w : World} {E : Env} {tmps : List SV} {ρ : Operand → Value} {c : Call} {o : Oper} {r : SR} (hop : o.op = .defer c) (hρ : Sees ν E tmps ρ o) (h : deferS tmps c = some r) : SxOk P ν w0 E (execOp ρ o) w r := by
  unfold Sees at hρ
  rw [hop] at hρ
  unfold deferS at h
  split at h
  · rename_i args ha
    have hargs := evs_of (fun x hx => hρ x (by simp [Op.operands, Call.operands, hx])) ha
    split at h
    · rename_i f hc
      split at h
      · rename_i g first caps hg
        simp only [Option.some.injEq] at h; subst h
        obtain ⟨a', c', h1, h2, h3⟩ := den_func.1 (hρ f (by simp [Op.operands, Call.operands, hc]) _ hg)
        refine ⟨{ target := .fn (.func g) c'.toArray, args := a'.toArray ++ c.args.map ρ }, ?_, ?_⟩
        · simp [execOp, hop, resolve, hc, h3, Deferred.ofValue]
        · rw [denD, h2, dens_append h1 hargs]
          simp
      · cases h
    · cases h
  · cases h

theorem sx_run {w : World} {E : Env} {H : List SO} {tmps : List SV} {ρ : Operand → Value} {o : Oper} {r : SR} (hW : WRel P ν w0 E H w) (hG : GOk ν G w0) (hρ : Sees ν E tmps ρ o) (h : sx P G tmps H o = some r) : SxOk P ν w0 E (execOp ρ o) w r := by
  unfold sx at h
  split at h
  · rename_i v hq
    simp only [Option.some.injEq] at h; subst h
    obtain ⟨u, h1, h2⟩ := sq_run hW hG hρ hq
    exact ⟨E, w, _, u, fun d => Ext.refl d E, h1, .inl rfl, h2, hW⟩
  · split at h
    · rename_i b m hm
      simp only [Option.some.injEq] at h; subst h
      obtain ⟨hg, ob, h1, h2⟩ := mkS_run hρ hm
      have hx := Ext.push 0 E (.lies w.heap.size 0)
      refine ⟨E ++ [.lies w.heap.size 0], _, _, _, fun d => Ext.push d E _, h2 w, .inl rfl, mkV_den (k := 0) (by rw [← hW.len]; exact List.getElem?_concat_length ..) m, hW.new ((h1 0).mono hx)⟩
    · have hρ' := hρ
      unfold Sees at hρ'
      split at h
      · rename_i t a x hop
        rw [hop] at hρ'
        split at h
        · rename_i a' v ha hv
          cases hs : storeS P H t a' v with
          | none => rw [hs] at h; cases h
          | some H' =>
            rw [hs] at h
            simp only [Option.map_some, Option.some.injEq] at h; subst h
            obtain ⟨w', h1, h2⟩ := storeS_run hW hs (hρ' a (by simp [Op.operands]) _ ha) (hρ' x (by simp [Op.operands]) _ hv)
            exact ⟨E, w', .skip, undef, fun d => Ext.refl d E, by simp [execOp, hop, h1], .inr ⟨rfl, rfl⟩, by simp [undefS, undef, den, dens], h2⟩
        · cases h
      · rename_i t m k v hop
        rw [hop] at hρ'
        split at h
        · rename_i m' k' v' hm hk hv
          cases hs : insertS P H t m' k' v' with
          | none => rw [hs] at h; cases h
          | some H' =>
            rw [hs] at h
            simp only [Option.map_some, Option.some.injEq] at h; subst h
            obtain ⟨w', h1, h2⟩ := insertS_run hW hs (hρ' m (by simp [Op.operands]) _ hm) (hρ' k (by simp [Op.operands]) _ hk) (hρ' v (by simp [Op.operands]) _ hv)
            exact ⟨E, w', .skip, undef, fun d => Ext.refl d E, by simp [execOp, hop, h1], .inr ⟨rfl, rfl⟩, by simp [undefS, undef, den, dens], h2⟩
        · cases h
      · rename_i t m k v hop
        rw [hop] at hρ'
        split at h
        · rename_i m' k' v' hm hk hv
          cases hs : insertS P H t m' k' v' with
          | none => rw [hs] at h; cases h
          | some H' =>
            rw [hs] at h
            simp only [Option.map_some, Option.some.injEq] at h; subst h
            obtain ⟨w', h1, h2⟩ := insertS_run hW hs (hρ' m (by simp [Op.operands]) _ hm) (hρ' k (by simp [Op.operands]) _ hk) (hρ' v (by simp [Op.operands]) _ hv)
            exact ⟨E, w', .skip, undef, fun d => Ext.refl d E, by simp [execOp, hop, h1], .inr ⟨rfl, rfl⟩, by simp [undefS, undef, den, dens], h2⟩
        · cases h
      · rename_i t l c hop
        rw [hop] at hρ'
        split at h
        · rename_i a b ha hb
          cases hs : makeSliceS P H t a b with
          | none => rw [hs] at h; cases h
          | some p =>
            obtain ⟨v, H'⟩ := p
            rw [hs] at h
            simp only [Option.map_some, Option.some.injEq] at h; subst h
            obtain ⟨E', w', u, h1, h2, h3, h4⟩ := makeSliceS_run hW hs (hρ' l (by simp [Op.operands]) _ ha) (hρ' c (by simp [Op.operands]) _ hb)
            exact ⟨E', w', .value u, u, h1, by simp [execOp, hop, h2], .inl rfl, h3, h4⟩
        · cases h
      · rename_i args ts hop
        rw [hop] at hρ'
        split at h
        · rename_i s x st xt hargs hts
          have e1 : args = #[s, x] := by rw [← hargs]
          have e2 : ts = #[st, xt] := by rw [← hts]
          split at h
          · rename_i a b el ha hb hu
            split at h
            · rename_i hst
              subst hst
              cases hs : appendS P H st a b with
              | none => rw [hs] at h; cases h
              | some p =>
                obtain ⟨v, H'⟩ := p
                rw [hs] at h
                simp only [Option.map_some, Option.some.injEq] at h; subst h
                obtain ⟨E', w', u, h1, h2, h3, h4⟩ := appendS_run (ty := o.type) hW hs (hρ' s (by simp [Op.operands, Call.operands, e1]) _ ha) (hρ' x (by simp [Op.operands, Call.operands, e1]) _ hb)
                exact ⟨E', w', .value u, u, h1, by simp [execOp, hop, resolve, invoke, builtin, e1, e2, h2], .inl rfl, h3, h4⟩
            · cases h
          · cases h
        · cases h
      · rename_i c hop
        exact deferS_run hop hρ h
      · cases h
      · rename_i op _ _ _ _ _ _ hsel
        have hs : isSelect o.op = false := by
          cases hop : o.op <;> first | rfl | exact absurd hop (hsel _ _)
        split at h
        · rename_i v hq
          simp only [Option.some.injEq] at h; subst h
          obtain ⟨u, h1, h2⟩ := sp_ok (w := w) hρ hs hq
          exact ⟨E, w, _, u, fun d => Ext.refl d E, h1, .inl rfl, h2, hW⟩
        · rename_i v hq
          simp only [Option.some.injEq] at h; subst h
          exact sp_panic hρ hs hq
        · split at h
          · rename_i c hop
            exact callS_run (H := H) hop hρ h
          · cases h
end Go.Ev

/- EvQ: A machine that runs a call whose values are known: an operation is carried out. -/
namespace Go.Ev
open Go.RowKit

variable {P : Program} {ν : Nat → Value} {G : Nat → List SV} {w0 : World} {cs0 : List Frame} {K : Hooks}

/-- Calls that are known as a whole are what they are said to be. -/
def HookOk (P : Program) (ν : Nat → Value) (w0 : World) (K : Hooks) : Prop := ∀ (E : Env) (H : List SO) (w : World) (g : FuncId) (args : List SV) (vs : Array Value) (v : SV) (H' : List SO),
  K g args H = some (v, H') → WRel P ν w0 E H w → dens ν E args = some vs.toList →
    Calls P g vs w fun e w' => ∃ E' u, (∀ d, Ext d E E') ∧ e = .returned u ∧ den ν E' v = some u ∧ WRel P ν w0 E' H' w'

def Wait (ν : Nat → Value) (E : Env) (d : Nat) (f : SF) (fr : Frame) : Prop :=
  (FPlain ν E f fr ∧ ∀ ops done lag pend k, f.todo ≠ .inDraw ops done lag pend :: k) ∨ ∃ ops done lag i k, FDrawn ν E d f fr ops done lag (some i) k
theorem Wait.rel {E : Env} {d : Nat} {f : SF} {fr : Frame} (h : Wait ν E d f fr) : FRel ν E d f fr := by
  rcases h with h | ⟨ops, done, lag, i, k, h⟩
  · exact .inl h.1
  · exact .inr ⟨ops, done, lag, some i, k, h⟩
theorem Wait.base {E : Env} {d : Nat} {f : SF} {fr : Frame} (h : Wait ν E d f fr) : FBase ν E f fr := by
  rcases h with h | ⟨ops, done, lag, i, k, h⟩
  · exact h.1.base
  · exact h.base
theorem Wait.mono {d d' : Nat} {E E' : Env} (h : Ext d' E E') (hd : d ≠ d') {f : SF} {fr : Frame} (e : Wait ν E d f fr) : Wait ν E' d f fr := by
  rcases e with e | ⟨ops, done, lag, i, k, e⟩
  · exact .inl ⟨e.1.mono h, e.2⟩
  · refine .inr ⟨ops, done, lag, i, k, e.base.mono h, e.head, ?_⟩
    obtain ⟨its, l, dr, h1, h2, h3, h4⟩ := e.body
    exact ⟨its, l, dr, itemsOf_mono h h1, h2, h3.mono h hd, h4⟩
theorem Wait.nolag {E : Env} {d : Nat} {f : SF} {fr : Frame} (h : Wait ν E d f fr) (ops : Array Oper) (done : Array Bool) (lag : List (Nat × Option Nat)) (k : List SI) : f.todo ≠ .inDraw ops done lag none :: k := by
  rcases h with h | ⟨ops, done, lag, i, k, h⟩
  · exact h.2 _ _ _ _ _
  · intro e
    rw [h.head] at e
    simp at e
theorem finish_wait {E : Env} {d : Nat} {H : List SO} {f f' : SF} {fr : Frame} {v : SV} {u : Value} (h : Wait ν E d f fr) (hv : den ν E v = some u) (hf : finishS P G H f v = some f') :
    FRel ν E d f' (fr.finish u) ∧ ∀ ops done lag k, f'.todo = .inDraw ops done lag none :: k → ∀ x ∈ lag, lagOk P G ops f'.tmps H x = true := by
  rcases h with h | ⟨ops, done, lag, i, k, h⟩
  · obtain ⟨h1, h2⟩ := finish_plain h.1 hv hf
    exact ⟨.inl h1, fun ops done lag k e => absurd e (h2 ops done lag k)⟩
  · exact finish_drawn h hv hf
theorem FRel.remode {E : Env} {d : Nat} {f : SF} {fr : Frame} (h : FRel ν E d f fr) {m : SM} {fm : FrameMode} (hm : MoRel ν E m fm) : FRel ν E d { f with mode := m } { fr with mode := fm } := by
  rcases h with h | ⟨ops, done, lag, pend, k, h⟩
  · exact .inl ⟨⟨h.base.fn, h.base.kind, h.base.defers, hm, h.base.rnd⟩, h.tmps, h.todo⟩
  · exact .inr ⟨ops, done, lag, pend, k, ⟨h.base.fn, h.base.kind, h.base.defers, hm, h.base.rnd⟩, h.head, h.body⟩
theorem Wait.defers {E : Env} {d : Nat} {f : SF} {fr : Frame} (h : Wait ν E d f fr) {l : List SD} {l' : List Deferred} (hl : densD ν E l = some l') : Wait ν E d { f with defers := l } { fr with defers := l' } := by
  rcases h with h | ⟨ops, done, lag, i, k, h⟩
  · exact .inl ⟨⟨⟨h.1.base.fn, h.1.base.kind, hl, h.1.base.mode, h.1.base.rnd⟩, h.1.tmps, h.1.todo⟩, h.2⟩
  · exact .inr ⟨ops, done, lag, i, k, ⟨h.base.fn, h.base.kind, hl, h.base.mode, h.base.rnd⟩, h.head, h.body⟩

theorem replicate_dens {E : Env} (n : Nat) : dens ν E (List.replicate n undefS) = some (List.replicate n undef) := by
  induction n with
  | zero => simp [dens]
  | succ n ih => exact dens_cons.2 ⟨undef, _, by simp [undefS, undef, den, dens], ih, rfl⟩
theorem enter_plain {E : Env} {g : FuncId} {args : List SV} {vs : Array Value} {kind : CallKind} {n : SF} (h : enterS P g args kind = some n) (ha : dens ν E args = some vs.toList) : FPlain ν E n (Frame.enter P g vs kind) ∧ n.mode = .run ∧ (∀ ops done lag pend k, n.todo ≠ .inDraw ops done lag pend :: k) := by
  unfold enterS at h
  split at h
  · rename_i fn hf
    split at h
    · rename_i c hc
      simp only [Option.some.injEq] at h; subst h
      have hlen := dens_len ha
      simp at hlen
      refine ⟨⟨⟨rfl, rfl, rfl, rfl, rfl⟩, ?_, ?_⟩, rfl, fun _ _ _ _ _ e => by cases e⟩
      · simp only [Frame.enter, hf, Option.map_some, Option.getD_some]
        rw [← hlen]
        simpa using dens_append ha (replicate_dens (fn.ntmps - vs.size))
      · simp [Frame.enter, hf, hc, itemsOf, itemOf]
    · cases h
  · cases h
theorem putAll_dens {E : Env} : ∀ {ps : List Tmp} {as : List SV} {vs : List Value} {tmps : List SV} {rt : Array Value}, dens ν E as = some vs → dens ν E tmps = some rt.toList →
    dens ν E (putAll ps as tmps) = some ((ps.zip vs).foldl (fun (t : Array Value) (x : Tmp × Value) => t.setIfInBounds x.1 x.2) rt).toList
  | [], as, vs, tmps, rt, _, h => by simpa [putAll] using h
  | p :: ps, [], vs, tmps, rt, ha, h => by simp [dens] at ha; subst ha; simpa [putAll] using h
  | p :: ps, a :: as, vs, tmps, rt, ha, h => by
    obtain ⟨v, t, hv, ht, rfl⟩ := dens_cons.1 ha
    rw [putAll, List.zip_cons_cons, List.foldl_cons]
    exact putAll_dens ht (by simpa using dens_set p h hv)
theorem loop_of {w : World} {E : Env} {H : List SO} (h : WRel P ν w0 E H w) {b r k : Nat} {st : LoopState} {pend : Option Code} {fn : FuncId} {tmps : List SV} {params : Array Tmp} {assign body : Code} {d : Nat} (hb : H[b]? = some (.loop st pend fn tmps params assign body d)) (hE : E[b]? = some (.lies r k)) :
    ∃ l rd kd, dens ν E tmps = some l ∧ E[d]? = some (.lies rd kd) ∧ w.heap[r]? = some (.loop { state := st, pending := pend, fn := fn, tmps := l.toArray, params := params, assign := assign, body := body, defers := rd }) := by
  obtain ⟨_, _, h3⟩ := h.obj b _ r k hb hE
  obtain ⟨ob, h4, l, rd, kd, h5, h6, h7⟩ := h3 rfl
  exact ⟨l, rd, kd, h5, blk_eq.1 h6, by rw [h4, h7]⟩
theorem round_plain {w : World} {E : Env} {H : List SO} (hW : WRel P ν w0 E H w) {b r k : Nat} {args : List SV} {vs : Array Value} {kind : CallKind} {n : SF} (h : roundS H b args kind = some n) (ha : dens ν E args = some vs.toList) (hE : E[b]? = some (.lies r k)) :
    ∃ fn tmps assign body, (Instr.yield r vs).run P w = .ok (.round r fn tmps assign body) w ∧ FPlain ν E n (Frame.round r fn tmps assign body kind) ∧ n.mode = .run ∧ (∀ ops done lag pend k, n.todo ≠ .inDraw ops done lag pend :: k) := by
  unfold roundS at h
  split at h
  · rename_i st pend fn tmps params assign body d hb
    split at h
    · rename_i hlen
      simp only [Option.some.injEq] at h; subst h
      obtain ⟨l, rd, kd, h1, _, h3⟩ := loop_of hW hb hE
      have hl := dens_len ha
      simp at hl
      refine ⟨fn, (params.zip vs).foldl (fun tmps (t, a) => tmps.setIfInBounds t a) l.toArray, assign, body, ?_, ⟨⟨rfl, rfl, rfl, rfl, ⟨r, k, hE, rfl⟩⟩, ?_, ?_⟩, rfl, fun _ _ _ _ _ e => by cases e⟩
      · have hg : (getObj r).run P w = .ok (.loop { state := st, pending := pend, fn := fn, tmps := l.toArray, params := params, assign := assign, body := body, defers := rd }) w := by simp [getObj, Sem.run, h3]
        have hne : ¬ vs.size ≠ params.size := by simp; omega
        simp [Instr.yield, Instr.getLoop, hg, hl, hlen]
      · have := putAll_dens (ps := params.toList) (rt := l.toArray) ha (by simpa using h1)
        rw [this]
        simp only [Frame.round]
        congr 2
        rw [← Array.foldl_toList]
        simp
      · simp [Frame.round, itemsOf, itemOf]
    · cases h
  · cases h

theorem Stack.cons {E : Env} {f : SF} {r : List SF} {fr : Frame} {rest : List Frame} (h : FRel ν E r.length f fr) (hs : Stack ν E r rest) : Stack ν E (f :: r) (fr :: rest) := ⟨fr, rest, rfl, h, hs⟩

/-- An operation is carried out. -/
theorem oper_goes {E : Env} {H : List SO} {w : World} {f : SF} {fr : Frame} {cs : List SF} {rcs : List Frame} {s' : St} {ops : Array Oper} {i : Nat} {rest : List Nat} {its : List Item} {o : Oper} {r : SR}
    (hK : HookOk P ν w0 K) (hG : GOk ν G w0) (hW : WRel P ν w0 E H w) (hwait : Wait ν E cs.length f fr) (hst : Stack ν E cs rcs) (hm : f.mode = .run) (hhead : fr.todo = .inRegion ops (i :: rest) :: its)
    (ho : ops[i]? = some o) (hwant : Region.wanted o (yielded ops fr.tmps) = true) (hsees : Sees ν E f.tmps fr.eval o) (hsx : sx P G f.tmps H o = some r) (happ : applyS P G K f cs r H = some s') :
    Goes P ν G w0 cs0 (lone fr (rcs ++ cs0) w) s' := by
  have hmr : fr.mode = .run := by have := hwait.base.mode; rw [hm] at this; exact this
  have hr := sx_run hW hG hsees hsx
  have hcall : ∀ a b c d k, fr.todo ≠ .call a b c d :: k := fun _ _ _ _ _ e => by rw [hhead] at e; cases e
  have hrnd : fr.roundOf = none ∨ ∀ c, o.op ≠ .defer c := by
    by_cases hdd : ∃ c, o.op = .defer c
    case neg => exact .inr fun c e => hdd ⟨c, e⟩
    obtain ⟨c, hop⟩ := hdd
    refine .inl ?_
    have hd : ∃ d, r = .defer d := by
      unfold sx at hsx
      simp only [sq, sq0, strOp, mkS, hop] at hsx
      unfold deferS at hsx
      split at hsx
      · split at hsx
        · split at hsx
          · simp only [Option.some.injEq] at hsx; exact ⟨_, hsx.symm⟩
          · cases hsx
        · cases hsx
      · cases hsx
    obtain ⟨d, rfl⟩ := hd
    simp only [applyS] at happ
    cases hrn : f.rnd with
    | none => have := hwait.base.rnd; rw [hrn] at this; exact this
    | some b => rw [hrn] at happ; cases happ
  have hs := st_op (P := P) (w := w) (rcs ++ cs0) ho hwant hmr hhead hrnd
  cases r with
  | val v H' =>
    obtain ⟨E', w', nx, u, h1, h2, h3, h4, h5⟩ := hr
    simp only [applyS] at happ
    cases hf : finishS P G H' f v with
    | none => rw [hf] at happ; cases happ
    | some f' =>
      rw [hf] at happ
      simp only [Option.map_some, Option.some.injEq] at happ; subst happ
      obtain ⟨g1, g2⟩ := finish_wait (hwait.mono (h1 (cs.length + 1)) (by omega)) h4 hf
      refine ⟨E', fr.finish u, rcs, w', ⟨h5, g1, hst.mono (h1 cs.length) (Nat.le_refl _), g2⟩, .one ?_⟩
      rcases h3 with rfl | ⟨rfl, rfl⟩
      · exact st_value hs h2
      · exact st_none hs h2
  | enter g args =>
    obtain ⟨vs, h1, h2⟩ := hr
    simp only [applyS] at happ
    have hstep := st_enter hcall hs h1
    split at happ
    · rename_i v H' hk
      cases hf : finishS P G H' f v with
      | none => rw [hf] at happ; cases happ
      | some f' =>
        rw [hf] at happ
        simp only [Option.map_some, Option.some.injEq] at happ; subst happ
        obtain ⟨e, w', fr', ⟨E', u, k1, rfl, k3, k4⟩, k5, _, k6⟩ := hK E H w g args vs v H' hk hW h2 (fr :: (rcs ++ cs0))
        obtain ⟨g1, g2⟩ := finish_wait (hwait.mono (k1 (cs.length + 1)) (by omega)) k3 hf
        exact ⟨E', fr.finish u, rcs, w', ⟨k4, g1, hst.mono (k1 cs.length) (Nat.le_refl _), g2⟩, .head hstep (Steps.trans k5 (.one (step_leave_returned k6)))⟩
    · cases hn : enterS P g args .normal with
      | none => rw [hn] at happ; cases happ
      | some n =>
        rw [hn] at happ
        simp only [Option.map_some, Option.some.injEq] at happ; subst happ
        obtain ⟨g1, _, g3⟩ := enter_plain hn h2
        exact ⟨E, _, fr :: rcs, w, ⟨hW, .inl g1, Stack.cons hwait.rel hst, fun ops done lag k e => absurd e (g3 _ _ _ _ _)⟩, .one hstep⟩
  | round b args =>
    obtain ⟨rr, k, vs, h1, h2, h3⟩ := hr
    simp only [applyS] at happ
    cases hn : roundS H b args .normal with
    | none => rw [hn] at happ; cases happ
    | some n =>
      rw [hn] at happ
      simp only [Option.map_some, Option.some.injEq] at happ; subst happ
      obtain ⟨fn, tmps, assign, body, g1, g2, _, g4⟩ := round_plain hW hn h2 h1
      rw [g1] at h3
      exact ⟨E, _, fr :: rcs, w, ⟨hW, .inl g2, Stack.cons hwait.rel hst, fun ops done lag k e => absurd e (g4 _ _ _ _ _)⟩, .one (st_round hcall hs h3)⟩
  | defer d =>
    obtain ⟨dd, h1, h2⟩ := hr
    simp only [applyS] at happ
    split at happ
    · cases hf : finishS P G H { f with defers := d :: f.defers } undefS with
      | none => rw [hf] at happ; cases happ
      | some f' =>
        rw [hf] at happ
        simp only [Option.map_some, Option.some.injEq] at happ; subst happ
        have hw2 := hwait.defers (densD_cons.2 ⟨dd, fr.defers, h2, hwait.base.defers, rfl⟩)
        obtain ⟨g1, g2⟩ := finish_wait (u := undef) hw2 (by simp [undefS, undef, den, dens]) hf
        exact ⟨E, _, rcs, w, ⟨hW, g1, hst, g2⟩, .one (st_defer hs h1)⟩
    · cases happ
  | recover =>
    simp only [applyS] at happ
    split at happ
    · rename_i hrn
      have hrn' : fr.roundOf = none := by have := hwait.base.rnd; rw [hrn] at this; exact this
      split at happ
      · rename_i v cs' hrec
        cases hf : finishS P G H f v with
        | none => rw [hf] at happ; cases happ
        | some f' =>
          rw [hf] at happ
          simp only [Option.map_some, Option.some.injEq] at happ; subst happ
          have key : ∃ u rcs', den ν E v = some u ∧ Stack ν E cs' rcs' ∧ cs'.length = cs.length ∧ ((tryRecover fr (rcs ++ cs0) = some (u, rcs' ++ cs0)) ∨ (tryRecover fr (rcs ++ cs0) = none ∧ u = .nilIface ∧ rcs' ++ cs0 = rcs ++ cs0)) := by
            unfold recoverS at hrec
            split at hrec
            · rename_i c rest hkind
              have hk2 : fr.kind = .deferred := by rw [hwait.base.kind]; exact hkind
              obtain ⟨cfr, rrest, rfl, hc, hrs⟩ := hst
              have hcm : FBase ν E c cfr := by
                rcases hc with hc | ⟨_, _, _, _, _, hc⟩
                · exact hc.base
                · exact hc.base
              split at hrec
              · rename_i v' older hmode
                simp only [Option.some.injEq, Prod.mk.injEq] at hrec
                obtain ⟨rfl, rfl⟩ := hrec
                have hmm := hcm.mode
                rw [hmode] at hmm
                obtain ⟨ch, hch, hcmode⟩ := hmm
                rw [chainOf] at hch
                cases hv : den ν E v' with
                | none => rw [hv] at hch; cases hch
                | some u => cases hol : chainOf ν E older with
                  | none => rw [hv, hol] at hch; cases hch
                  | some ol =>
                    rw [hv, hol] at hch
                    simp at hch; subst hch
                    refine ⟨u, { cfr with mode := .panicking ({ v := u, recovered := true } :: ol) } :: rrest, rfl, Stack.cons (hc.remode ⟨_, by rw [chainOf, hv, hol]; rfl, rfl⟩) hrs, rfl, .inl ?_⟩
                    simp [tryRecover, hk2, hcmode]
              · rename_i hmode
                simp only [Option.some.injEq, Prod.mk.injEq] at hrec
                obtain ⟨rfl, rfl⟩ := hrec
                refine ⟨.nilIface, cfr :: rrest, by simp [den], Stack.cons hc hrs, rfl, .inr ⟨?_, rfl, rfl⟩⟩
                have hmm := hcm.mode
                simp only [tryRecover, hk2, List.cons_append]
                cases hcmd : c.mode with
                | run => rw [hcmd] at hmm; rw [hmm]
                | ret => rw [hcmd] at hmm; rw [hmm]
                | pan l =>
                  rw [hcmd] at hmm
                  obtain ⟨ch, hch, hcmode⟩ := hmm
                  rw [hcmode]
                  cases l with
                  | nil => simp [chainOf] at hch; subst hch; rfl
                  | cons x l =>
                    obtain ⟨xv, xb⟩ := x
                    rw [chainOf] at hch
                    cases hv : den ν E xv with
                    | none => rw [hv] at hch; cases hch
                    | some u => cases hol : chainOf ν E l with
                      | none => rw [hv, hol] at hch; cases hch
                      | some ol =>
                        rw [hv, hol] at hch
                        simp at hch; subst hch
                        cases xb with
                        | true => rfl
                        | false => exact absurd hcmd (hmode _ _)
            · rename_i hkind
              have hk2 : fr.kind = .normal := by rw [hwait.base.kind]; exact hkind
              simp only [Option.some.injEq, Prod.mk.injEq] at hrec
              obtain ⟨rfl, rfl⟩ := hrec
              exact ⟨.nilIface, rcs, by simp [den], hst, rfl, .inr ⟨by simp [tryRecover, hk2], rfl, rfl⟩⟩
            · cases hrec
          obtain ⟨u, rcs', k1, k2, k3, k4⟩ := key
          obtain ⟨g1, g2⟩ := finish_wait hwait k1 hf
          refine ⟨E, fr.finish u, rcs', w, ⟨hW, by simp only; rw [k3]; exact g1, k2, g2⟩, .one (st_recover hrn' ?_ hs hr)⟩
          rcases k4 with k4 | ⟨k4, k5, k6⟩
          · exact .inl k4
          · exact .inr ⟨k4, k5, k6⟩
      · cases happ
    · cases happ
  | panic v =>
    obtain ⟨u, h1, h2⟩ := hr
    simp only [applyS, Option.some.injEq] at happ; subst happ
    have hraise : fr.raise [{ v := u, recovered := false }] = { fr with mode := .panicking [{ v := u, recovered := false }] } := by simp [Frame.raise, hmr]
    have hraiseS : raiseS f [(v, false)] = { f with mode := .pan [(v, false)] } := by simp [raiseS, hm]
    refine ⟨E, fr.raise [{ v := u, recovered := false }], rcs, w, ⟨hW, ?_, hst, ?_⟩, .one (st_panic hs h1)⟩
    · simp only [hraise, hraiseS]
      exact hwait.rel.remode ⟨_, by simp [chainOf, h2], rfl⟩
    · simp only [hraiseS]
      intro ops done lag k e
      exact absurd e (hwait.nolag _ _ _ _)
end Go.Ev

/- EvR: A machine that runs a call whose values are known: what lags behind in a region comes up. -/
namespace Go.Ev
open Go.RowKit

variable {P : Program} {ν : Nat → Value} {G : Nat → List SV} {w0 : World} {cs0 : List Frame} {K : Hooks}

theorem fresh_spec {ops : Array Oper} {bf : Array Nat} {i k : Nat} {o : Oper} {t : Nat} (h : fresh ops bf i = true) (ho : ops[k]? = some o) (hd : dstOf ops i = some t) :
    (k ≠ i → o.dst ≠ some t) ∧ (t ∈ o.looksAt ops → k ≠ i ∧ dep bf k i = true) := by
  unfold fresh at h
  rw [hd] at h
  have hlt := (Array.getElem?_eq_some_iff.1 ho).1
  have h1 := List.all_eq_true.1 h k (List.mem_range.2 hlt)
  simp only [ho] at h1
  by_cases e : k = i
  · subst e
    simp only [if_true, Bool.not_eq_true'] at h1
    exact ⟨fun hn => absurd rfl hn, fun ht => by
      have : (o.looksAt ops).contains t = true := by simpa using ht
      rw [this] at h1; cases h1⟩
  · simp only [e, if_false, Bool.and_eq_true, bne_iff_ne, ne_eq, Bool.or_eq_true, Bool.not_eq_true'] at h1
    exact ⟨fun _ => h1.1, fun ht => ⟨e, by
      rcases h1.2 with h2 | h2
      · have : (o.looksAt ops).contains t = true := by simpa using ht
        rw [this] at h2; cases h2
      · exact h2⟩⟩

/-- What an operation that may come up really looks at is there. -/
theorem look_there {E : Env} {d : Nat} {ops : Array Oper} {done : Array Bool} {lag : List (Nat × Option Nat)} {tmps : List SV} {rt : Array Value} {dr : Array Bool} {l : List Nat} (hD : Draws ν E d ops done lag tmps rt dr l)
    {k : Nat} {o : Oper} (ho : ops[k]? = some o) (hdeps : ∀ e ∈ o.after, Region.binds .any e = true → dr.getD e.on false = true) {t : Nat} (ht : t ∈ o.looksAt ops) : ∀ x ∈ lag, dr.getD x.1 false = false → dstOf ops x.1 ≠ some t := by
  intro x hx hdx he
  obtain ⟨_, h2⟩ := fresh_spec (hD.fresh x hx) ho he
  have := before_spec hD.closed x.1 k o ho hdeps (h2 ht).2
  rw [this] at hdx; cases hdx

theorem slot_there {E : Env} {d : Nat} {ops : Array Oper} {done : Array Bool} {lag : List (Nat × Option Nat)} {tmps : List SV} {rt : Array Value} {dr : Array Bool} {l : List Nat} (hD : Draws ν E d ops done lag tmps rt dr l)
    {t : Nat} (h : ∀ x ∈ lag, dr.getD x.1 false = false → dstOf ops x.1 ≠ some t) : (∃ s v, tmps[t]? = some s ∧ rt[t]? = some v ∧ den ν E s = some v) ∨ (tmps[t]? = none ∧ rt[t]? = none) := by
  cases ht : tmps[t]? with
  | some s =>
    obtain ⟨v, h1, h2⟩ := hD.tmps t s ht h
    exact .inl ⟨s, v, rfl, h1, h2⟩
  | none =>
    refine .inr ⟨rfl, Array.getElem?_eq_none ?_⟩
    have := List.getElem?_eq_none_iff.1 ht
    rw [← hD.len]; exact this

theorem draws_sees {E : Env} {d : Nat} {ops : Array Oper} {done : Array Bool} {lag : List (Nat × Option Nat)} {tmps : List SV} {fr : Frame} {dr : Array Bool} {l : List Nat} (hD : Draws ν E d ops done lag tmps fr.tmps dr l)
    {k : Nat} {o : Oper} (ho : ops[k]? = some o) (hdeps : ∀ e ∈ o.after, Region.binds .any e = true → dr.getD e.on false = true) : Sees ν E tmps fr.eval o := by
  intro x hx s hs
  cases x with
  | tmp t =>
    have hl : t ∈ o.looksAt ops := by
      unfold Oper.looksAt
      exact List.mem_append_left _ (List.mem_filterMap.2 ⟨.tmp t, by simpa using hx, rfl⟩)
    simp [ev] at hs
    subst hs
    rcases slot_there hD (look_there hD ho hdeps hl) with ⟨s, v, h1, h2, h3⟩ | ⟨h1, h2⟩
    · simp [h1, Frame.eval, h2, h3]
    · simp [h1, Frame.eval, h2, undefS, undef, den, dens]
  | const v => simp [ev] at hs; simpa [Frame.eval] using ofV_den hs E
  | global g => simp [ev] at hs; subst hs; simp [den, Frame.eval]
  | func f => simp [ev] at hs; subst hs; simp [den, dens, Frame.eval]

theorem den_bool {E : Env} {s : SV} {v : Value} (h : den ν E s = some v) : (∀ b, s = .bool b → v = .bool b) ∧ (∀ b, v = .bool b → s = .bool b) := by
  constructor
  · rintro b rfl; simp [den] at h; exact h.symm
  · rintro b rfl
    cases s with
    | bool c => simp [den] at h; rw [h]
    | opq k =>
      rw [den] at h
      split at h
      · rename_i ho
        simp at h
        rw [h] at ho; cases ho
      · cases h
    | ptr b off => obtain ⟨_, _, _, e⟩ := den_ptr.1 h; cases e
    | slice => obtain ⟨_, _, _, e⟩ := den_slice.1 h; cases e
    | gslice => obtain ⟨_, _, _, e⟩ := den_gslice.1 h; cases e
    | map => obtain ⟨_, _, _, e⟩ := den_map.1 h; cases e
    | yield => obtain ⟨_, _, _, e⟩ := den_yield.1 h; cases e
    | func => obtain ⟨_, _, _, _, e⟩ := den_func.1 h; cases e
    | iface => obtain ⟨_, _, e⟩ := den_iface.1 h; cases e
    | agg => obtain ⟨_, _, e⟩ := den_agg.1 h; cases e
    | tuple => obtain ⟨_, _, e⟩ := den_tuple.1 h; cases e
    | _ => simp [den] at h
theorem yielded_same {E : Env} {ops : Array Oper} {tmps : List SV} {rt : Array Value} {g : Nat} (h : ∀ t, dstOf ops g = some t → (∃ s v, tmps[t]? = some s ∧ rt[t]? = some v ∧ den ν E s = some v) ∨ (tmps[t]? = none ∧ rt[t]? = none)) : yieldedS ops tmps g = yielded ops rt g := by
  unfold yieldedS yielded
  unfold dstOf at h
  cases hd : (ops[g]?).bind (·.dst) with
  | none => rfl
  | some t =>
    simp only [Option.bind_some]
    rcases h t hd with ⟨s, v, h1, h2, h3⟩ | ⟨h1, h2⟩
    · rw [h1, h2]
      obtain ⟨b1, b2⟩ := den_bool h3
      cases s with
      | bool b => rw [b1 b rfl]
      | _ => cases v with
        | bool b => have := b2 b rfl; cases this
        | _ => rfl
    · rw [h1, h2]
theorem wanted_same {E : Env} {d : Nat} {ops : Array Oper} {done : Array Bool} {lag : List (Nat × Option Nat)} {tmps : List SV} {rt : Array Value} {dr : Array Bool} {l : List Nat} (hD : Draws ν E d ops done lag tmps rt dr l)
    {k : Nat} {o : Oper} (ho : ops[k]? = some o) (hdeps : ∀ e ∈ o.after, Region.binds .any e = true → dr.getD e.on false = true) : Region.wanted o (yieldedS ops tmps) = Region.wanted o (yielded ops rt) := by
  unfold Region.wanted
  cases hg : o.guard with
  | none => rfl
  | some gw =>
    obtain ⟨g, want⟩ := gw
    simp only
    rw [yielded_same (E := E) (ν := ν) fun t ht => slot_there hD (look_there hD ho hdeps (by
      unfold Oper.looksAt
      refine List.mem_append_right _ ?_
      unfold dstOf at ht
      simp [hg, ht]))]

theorem sp_defer {tmps : List SV} {o : Oper} {c : Call} (hop : o.op = .defer c) (v : SV) : sp P tmps o ≠ some (.ok v) := by
  intro h
  unfold sp at h
  split at h
  · split at h
    · rename_i u hq
      have := quiet_ok hq default
      simp only [execOp, hop, Sem.run_bind, resolve] at this
      cases hc : c.callee with
      | value f =>
        simp only [hc] at this
        unfold Deferred.ofValue at this
        split at this <;> simp [stuck] at this
      | invoke r m => simp [hc] at this
      | builtin b => simp [hc] at this
    · rename_i u hq
      cases hu : ofV u with
      | none => rw [hu] at h; cases h
      | some s => rw [hu] at h; simp at h
    · cases h
  · cases h
theorem squiet_defer {tmps : List SV} {H : List SO} {o : Oper} {c : Call} (hop : o.op = .defer c) : squiet P G tmps H o = none := by
  unfold squiet
  have h1 : sq P G tmps H o = none := by simp [sq, sq0, strOp, hop]
  rw [h1]
  have h2 : isSelect o.op = false := by rw [hop]; rfl
  simp only [h2]
  have h3 := sp_defer (P := P) (tmps := tmps) hop
  cases hx : sp P tmps o with
  | none => rfl
  | some x => cases x with
    | ok v => exact absurd hx (h3 v)
    | error v => rfl
theorem mkS_defer {tmps : List SV} {o : Oper} {c : Call} (hop : o.op = .defer c) : mkS P tmps o = none := by simp [mkS, hop]

/-- One that lags comes up. -/
theorem lag_step {E : Env} {H : List SO} {w : World} {d : Nat} {ops : Array Oper} {done : Array Bool} {lag : List (Nat × Option Nat)} {tmps : List SV} {fr : Frame} {dr : Array Bool} {j : Nat} {l : List Nat} {its : List Item}
    (hG : GOk ν G w0) (hW : WRel P ν w0 E H w) (hD : Draws ν E d ops done lag tmps fr.tmps dr (j :: l)) (hm : fr.mode = .run) (hhead : fr.todo = .inRegion ops (j :: l) :: its) (hj : done.getD j false = true) (hlag : ∀ x ∈ lag, lagOk P G ops tmps H x = true) (cs : List Frame) :
    ∃ E' w' rt, Ext d E E' ∧ WRel P ν w0 E' H w' ∧ Draws ν E' d ops done lag tmps rt (dr.setIfInBounds j true) l ∧ step P (lone fr cs w) = .next (lone { fr with tmps := rt, todo := .inRegion ops l :: its } cs w') := by
  have hord := hD.ord
  cases hord with
  | cons hi hord' =>
  obtain ⟨r1, r2, o, ho, hdeps⟩ := ready_spec hi
  have hdj := getD_false r2
  have hjs : j < dr.size := by rw [hD.size]; exact r1
  have hob : ∃ ob, (j, ob) ∈ lag := by
    rcases hD.cov j hj with h | h
    · rw [hdj] at h; cases h
    · exact h
  obtain ⟨ob, hmem⟩ := hob
  have hok := hlag _ hmem
  have hsees := draws_sees hD ho hdeps
  have hwant := wanted_same hD ho hdeps
  have hfr := hD.fresh _ hmem
  -- its slot
  unfold lagOk at hok
  simp only [ho] at hok
  cases hdst : o.dst with
  | none => simp [hdst] at hok
  | some t =>
    simp only [hdst] at hok
    have hdo : dstOf ops j = some t := by simp [dstOf, ho, hdst]
    cases hv : tmps[t]? with
    | none => simp [hv] at hok
    | some v =>
      simp only [hv] at hok
      have htl : t < tmps.length := (List.getElem?_eq_some_iff.1 hv).1
      -- what becomes of the region
      have after : ∀ (E' : Env) (u : Value), Ext d E E' → (∀ (i b : Nat), (i, some b) ∈ lag → i ≠ j → E[b]? = some (.pend d) → E'[b]? = some (.pend d)) → den ν E' v = some u →
          Draws ν E' d ops done lag tmps (fr.tmps.setIfInBounds t u) (dr.setIfInBounds j true) l := by
        intro E' u hx howe hu
        refine ⟨hD.back, by simp [hD.size], hD.dsize, hord', ?_, ?_, ?_, hD.fresh, by simp [hD.len], ?_, hD.lagDone, hD.uniq, fun i b h1 => Nat.lt_of_lt_of_le (hD.owedLt i b h1) hx.len, ?_⟩
        · intro i hi'
          rw [getD_set _ _ _ hjs] at hi'
          by_cases e : j = i
          · rw [← e]; exact hj
          · rw [if_neg e] at hi'; exact hD.sub i hi'
        · intro i hi'
          rw [getD_set _ _ _ hjs]
          by_cases e : j = i
          · rw [if_pos e]; exact .inl rfl
          · rw [if_neg e]; exact hD.cov i hi'
        · intro i oi hoi hi' e he hb
          rw [getD_set _ _ _ hjs] at hi'
          rw [getD_set _ _ _ hjs]
          by_cases e1 : j = e.on
          · rw [if_pos e1]
          · rw [if_neg e1]
            by_cases e2 : j = i
            · subst e2
              rw [ho] at hoi
              cases hoi
              exact hdeps e he hb
            · rw [if_neg e2] at hi'
              exact hD.closed i oi hoi hi' e he hb
        · intro t' s hs hno
          by_cases e : t = t'
          · subst e
            rw [hv] at hs
            cases hs
            exact ⟨u, by rw [Array.getElem?_setIfInBounds]; simp [← hD.len, htl], hu⟩
          · rw [Array.getElem?_setIfInBounds, if_neg e]
            obtain ⟨v', h1, h2⟩ := hD.tmps t' s hs (fun x hx' hxd hxt => by
              by_cases e1 : j = x.1
              · rw [← e1, hdo] at hxt
                simp at hxt
                exact e hxt
              · exact hno x hx' (by rw [getD_set _ _ _ hjs, if_neg e1]; exact hxd) hxt)
            exact ⟨v', h1, den_mono hx _ _ h2⟩
        · intro i b h1 h2
          rw [getD_set _ _ _ hjs] at h2
          by_cases e : j = i
          · rw [if_pos e] at h2; cases h2
          · rw [if_neg e] at h2
            exact howe i b h1 (fun e' => e e'.symm) (hD.owed i b h1 h2)
      have hfin : ∀ u, fr.finish u = { fr with tmps := fr.tmps.setIfInBounds t u, todo := .inRegion ops l :: its } := fun u => by
        unfold Frame.finish
        rw [hhead]
        simp [ho, hdst]
      split at hok
      · rename_i hw
        rw [hwant] at hw
        -- it is not a defer statement
        have hnd : ∀ c, o.op ≠ .defer c := by
          intro c hop
          cases ob with
          | none => simp [squiet_defer hop] at hok
          | some b => simp [mkS_defer hop] at hok
        have hs := st_op (P := P) (w := w) cs ho hw hm hhead (.inr hnd)
        split at hok
        · rename_i hob0
          split at hok
          · rename_i a ha
            have e := eqS_eq _ _ hok
            subst e
            obtain ⟨u, h1, h2⟩ := squiet_run hW hG hsees ha
            exact ⟨E, w, _, Ext.refl d E, hW, after E u (Ext.refl d E) (fun _ _ _ _ h => h) h2, by rw [← hfin]; exact st_value hs h1⟩
          · cases hok
        · rename_i b
          split at hok
          · rename_i so m hob' hmk hHb
            simp only [Bool.and_eq_true] at hok
            have e1 := eqO_eq hok.1
            have e2 := eqS_eq _ _ hok.2
            subst e1; subst e2
            obtain ⟨hg, ob, h1, h2⟩ := mkS_run hsees hmk
            have hpe := hD.owed j b hmem hdj
            have hx := Ext.make hpe w.heap.size 0
            have hbl := (List.getElem?_eq_some_iff.1 hpe).1
            refine ⟨_, _, _, hx, hW.make hpe hHb (h1 0), after _ _ hx (fun i b' hm' hne hp => ?_) (mkV_den (k := 0) (List.getElem?_set_self hbl) m), by rw [← hfin]; exact st_value hs (h2 w)⟩
            rw [List.getElem?_set_ne (fun e => by subst e; exact hne (hD.uniq i j b hm' hmem))]
            exact hp
          · cases hok
      · rename_i hw
        simp only [Bool.and_eq_true] at hok
        have e := eqS_eq _ _ hok.2
        subst e
        rw [hwant] at hw
        refine ⟨E, w, _, Ext.refl d E, hW, after E undef (Ext.refl d E) (fun _ _ _ _ h => h) (by simp [undefS, undef, den, dens]), by rw [← hfin]; exact st_skipOp cs (by simp [ho]; simpa using hw) hm hhead⟩

/-- All that lags and stands ahead comes up. -/
theorem catch_up {H : List SO} {d : Nat} {ops : Array Oper} {done : Array Bool} {lag : List (Nat × Option Nat)} {tmps : List SV} {its : List Item} (hG : GOk ν G w0) (hlag : ∀ x ∈ lag, lagOk P G ops tmps H x = true) (cs : List Frame) :
    ∀ (l : List Nat) (E : Env) (w : World) (fr : Frame) (dr : Array Bool), WRel P ν w0 E H w → Draws ν E d ops done lag tmps fr.tmps dr l → fr.mode = .run → fr.todo = .inRegion ops l :: its →
      ∃ E' w' rt dr' l', Ext d E E' ∧ WRel P ν w0 E' H w' ∧ Draws ν E' d ops done lag tmps rt dr' l' ∧ Steps P (lone fr cs w) (lone { fr with tmps := rt, todo := .inRegion ops l' :: its } cs w') ∧ (l' = [] ∨ ∃ j l'', l' = j :: l'' ∧ done.getD j false = false)
  | [], E, w, fr, dr, hW, hD, hm, hh => ⟨E, w, fr.tmps, dr, [], Ext.refl d E, hW, hD, by rw [← hh]; exact Steps.refl _ _, .inl rfl⟩
  | j :: l, E, w, fr, dr, hW, hD, hm, hh => by
    cases hj : done.getD j false with
    | false => exact ⟨E, w, fr.tmps, dr, j :: l, Ext.refl d E, hW, hD, by rw [← hh]; exact Steps.refl _ _, .inr ⟨j, l, rfl, hj⟩⟩
    | true =>
      obtain ⟨E1, w1, rt, h1, h2, h3, h4⟩ := lag_step hG hW hD hm hh hj hlag cs
      obtain ⟨E2, w2, rt2, dr2, l2, g1, g2, g3, g4, g5⟩ := catch_up hG hlag cs l E1 w1 { fr with tmps := rt, todo := .inRegion ops l :: its } _ h2 h3 hm rfl
      exact ⟨E2, w2, rt2, dr2, l2, h1.trans g1, g2, g3, .head h4 g4, g5⟩
end Go.Ev

/- EvS: A machine that runs a call whose values are known: regions whose order is open. -/
namespace Go.Ev
open Go.RowKit

variable {P : Program} {ν : Nat → Value} {G : Nat → List SV} {w0 : World} {cs0 : List Frame} {K : Hooks}

theorem back_spec {ops : Array Oper} (h : backB ops = true) {i : Nat} {o : Oper} (ho : ops[i]? = some o) : ∀ e ∈ o.after, Region.binds .any e = true → e.on < i := by
  intro e he hb
  unfold backB at h
  have hlt := (Array.getElem?_eq_some_iff.1 ho).1
  have h1 := List.all_eq_true.1 h i (List.mem_range.2 hlt)
  simp only [ho, Array.all_eq_true'] at h1
  have h2 := h1 e he
  rw [hb] at h2
  simpa using h2
/-- Where not all have come up, one may come up. -/
theorem ready_some {ops : Array Oper} (h : backB ops = true) {dr : Array Bool} (hs : dr.size = ops.size) : ∀ (n i : Nat), i ≤ n → i < ops.size → dr.getD i false = false → Region.ready .any ops dr ≠ [] := by
  intro n
  induction n with
  | zero =>
    intro i hi hlt hd hn
    have e : i = 0 := by omega
    subst e
    have ho : ops[0]? = some ops[0] := Array.getElem?_eq_getElem hlt
    have : 0 ∈ Region.ready .any ops dr := ready_of ho (by simp only [Array.getD_eq_getD_getElem?] at hd ⊢; rw [Array.getElem?_eq_getElem (by omega)] at hd ⊢; exact hd) (fun e he hb => by have := back_spec h ho e he hb; omega)
    rw [hn] at this; cases this
  | succ n ih =>
    intro i hi hlt hd hn
    have ho : ops[i]? = some ops[i] := Array.getElem?_eq_getElem hlt
    by_cases hall : ∀ e ∈ ops[i].after, Region.binds .any e = true → dr.getD e.on false = true
    · have : i ∈ Region.ready .any ops dr := ready_of ho (by simp only [Array.getD_eq_getD_getElem?] at hd ⊢; rw [Array.getElem?_eq_getElem (by omega)] at hd ⊢; exact hd) hall
      rw [hn] at this; cases this
    · simp only [Classical.not_forall] at hall
      obtain ⟨e, he, hb, hne⟩ := hall
      have hlt2 := back_spec h ho e he hb
      exact ih e.on (by omega) (by omega) (by simpa using hne) hn

def left (ops : Array Oper) (dr : Array Bool) : Nat := ((List.range ops.size).filter fun i => !dr.getD i false).length
theorem left_set {ops : Array Oper} {dr : Array Bool} {i : Nat} (hs : dr.size = ops.size) (hi : i < ops.size) (hd : dr.getD i false = false) : left ops (dr.setIfInBounds i true) < left ops dr := by
  unfold left
  have e : ((List.range ops.size).filter fun j => !(dr.setIfInBounds i true).getD j false) = ((List.range ops.size).filter fun j => !dr.getD j false).filter fun j => decide (j ≠ i) := by
    rw [List.filter_filter]
    apply List.filter_congr
    intro j _
    rw [getD_set _ _ _ (by omega)]
    by_cases e : i = j
    · subst e; simp
    · have : j ≠ i := fun e' => e e'.symm
      simp [e, this]
  rw [e, List.length_filter_lt_length_iff_exists]
  exact ⟨i, List.mem_filter.2 ⟨List.mem_range.2 hi, by simp [hd]⟩, by simp⟩
theorem order_of {ops : Array Oper} (hb : backB ops = true) : ∀ (fuel t : Nat) (dr : Array Bool), dr.size = ops.size → left ops dr ≤ fuel → Order ops dr (Region.linearise.go .any ops fuel t dr [])
  | 0, t, dr, hs, hl => by
    simp only [Region.linearise.go, List.reverse_nil]
    refine .nil fun i hi => ?_
    have : left ops dr = 0 := by omega
    unfold left at this
    rw [List.length_eq_zero_iff, List.filter_eq_nil_iff] at this
    simpa using this i (List.mem_range.2 hi)
  | fuel + 1, t, dr, hs, hl => by
    simp only [Region.linearise.go]
    change Order ops dr (match (Region.ready .any ops dr)[t % (Region.ready .any ops dr).length]? with
      | some i => Region.linearise.go .any ops fuel (t / (Region.ready .any ops dr).length) (dr.setIfInBounds i true) [i]
      | none => [].reverse)
    cases hi : (Region.ready .any ops dr)[t % (Region.ready .any ops dr).length]? with
    | none =>
      have hnil : Region.ready .any ops dr = [] := by
        cases hr : Region.ready .any ops dr with
        | nil => rfl
        | cons x xs =>
          rw [hr] at hi
          have hlt : t % (x :: xs).length < (x :: xs).length := Nat.mod_lt _ (by simp)
          rw [List.getElem?_eq_none_iff] at hi
          omega
      simp only [List.reverse_nil]
      refine .nil fun i hlt => ?_
      cases hd : dr.getD i false with
      | true => rfl
      | false => exact absurd hnil (ready_some hb hs i i (Nat.le_refl _) hlt hd)
    | some i =>
      simp only []
      have hm := List.mem_of_getElem? hi
      obtain ⟨r1, r2, _⟩ := ready_spec hm
      rw [linearise_go_acc, List.reverse_singleton, List.singleton_append]
      exact .cons hm (order_of hb fuel _ _ (by simp [hs]) (by have := left_set hs r1 (getD_false r2); omega))

theorem left_all {ops : Array Oper} : left ops (Array.replicate ops.size false) ≤ ops.size := by
  unfold left
  refine Nat.le_trans (List.length_filter_le _ _) (by simp)
theorem rep_false (n i : Nat) : (Array.replicate n false).getD i false = false := by
  simp only [Array.getD_eq_getD_getElem?, Array.getElem?_replicate]
  split <;> rfl

theorem dens_of {E : Env} : ∀ {s : List SV} {l : List Value}, s.length = l.length → (∀ (t : Nat) (x : SV), s[t]? = some x → ∃ v, l[t]? = some v ∧ den ν E x = some v) → dens ν E s = some l
  | [], l, hl, _ => by
    have : l = [] := List.eq_nil_of_length_eq_zero (by simpa using hl.symm)
    subst this; simp [dens]
  | x :: r, [], hl, _ => by simp at hl
  | x :: r, v :: l, hl, h => by
    obtain ⟨v', h1, h2⟩ := h 0 x rfl
    simp at h1; subst h1
    exact dens_cons.2 ⟨v, l, h2, dens_of (by simpa using hl) (fun t y hy => by
      obtain ⟨u, g1, g2⟩ := h (t + 1) y (by simpa using hy)
      exact ⟨u, by simpa using g1, g2⟩), rfl⟩

/-- A region begins. -/
theorem draw_begins {E : Env} {s : St} {fr : Frame} {rcs : List Frame} {w : World} {id : Nat} {ops : Array Oper} {k : List SI} (h : MRel P ν G w0 E s fr rcs w) (hp : FPlain ν E s.fr fr) (hm : s.fr.mode = .run) (hk : s.fr.todo = .code (.region id ops true) :: k)
    (hb : backB ops = true) (hf : P.follows .mixedOrders = true) : Goes P ν G w0 cs0 (lone fr (rcs ++ cs0) w) { s with fr := { s.fr with todo := .inDraw ops (Array.replicate ops.size false) [] none :: k } } := by
  have ht := hp.todo
  rw [hk] at ht
  obtain ⟨its, h1, h2⟩ := inv_code ht
  have hstep := st_draw (P := P) (w := w) (rcs ++ cs0) (hp.mo hm) h1
  refine ⟨E, _, rcs, _, ?_, .one hstep⟩
  refine ⟨h.mem.others ((Below.refl _ w).trans ⟨rfl, rfl, rfl, Nat.le_refl _, fun _ _ => rfl⟩), .inr ⟨ops, _, [], none, k, ⟨hp.base.fn, hp.base.kind, hp.base.defers, hp.base.mode, hp.base.rnd⟩, rfl, its, _, Array.replicate ops.size false, h2, rfl, ?_, fun i hi => by cases hi⟩, h.stk, ?_⟩
  · refine ⟨hb, by simp, by simp, ?_, ?_, ?_, ?_, (fun x hx => by cases hx), ?_, ?_, (fun x hx => by cases hx), (fun _ _ _ hx => by cases hx), (fun _ _ hx => by cases hx), (fun _ _ hx => by cases hx)⟩
    · simp only [Region.schedule, hf, Bool.true_or, if_true]
      exact order_of hb ops.size _ _ (by simp) left_all
    · intro i hi; rw [rep_false] at hi; cases hi
    · intro i hi; rw [rep_false] at hi; cases hi
    · intro i o _ hi; rw [rep_false] at hi; cases hi
    · have := dens_len hp.tmps; simpa using this.symm
    · intro t x hx _
      obtain ⟨v, g1, g2⟩ := dens_get hp.tmps hx
      exact ⟨v, by simpa using g1, g2⟩
  · intro ops' done' lag' k' e x hx
    simp only [List.cons.injEq, SI.inDraw.injEq] at e
    obtain ⟨⟨_, _, rfl, _⟩, _⟩ := e
    cases hx

theorem firstQuiet_spec {ops : Array Oper} {bf : Array Nat} {tmps : List SV} {H : List SO} {i : Nat} {v : SV} {ob : Option SO} : ∀ {l : List Nat}, firstQuiet P G ops bf tmps H l = some (i, v, ob) → i ∈ l ∧ fresh ops bf i = true
  | [], h => by simp [firstQuiet] at h
  | j :: r, h => by
    rw [firstQuiet] at h
    split at h
    · split at h
      · rename_i hf
        split at h
        · split at h
          · simp only [Option.some.injEq, Prod.mk.injEq] at h
            obtain ⟨rfl, _⟩ := h
            exact ⟨by simp, hf⟩
          · split at h
            · simp only [Option.some.injEq, Prod.mk.injEq] at h
              obtain ⟨rfl, _⟩ := h
              exact ⟨by simp, hf⟩
            · obtain ⟨h1, h2⟩ := firstQuiet_spec h
              exact ⟨by simp [h1], h2⟩
        · simp only [Option.some.injEq, Prod.mk.injEq] at h
          obtain ⟨rfl, _⟩ := h
          exact ⟨by simp, hf⟩
      · obtain ⟨h1, h2⟩ := firstQuiet_spec h
        exact ⟨by simp [h1], h2⟩
    · cases h

/-- A step in the middle of a region whose order is open. -/
theorem draw_goes {E : Env} {s s' : St} {fr : Frame} {rcs : List Frame} {w : World} {ops : Array Oper} {done : Array Bool} {lag : List (Nat × Option Nat)} {k : List SI} (hK : HookOk P ν w0 K) (hG : GOk ν G w0) (h : MRel P ν G w0 E s fr rcs w) (hm : s.fr.mode = .run)
    (hd : FDrawn ν E s.cs.length s.fr fr ops done lag none k) (hs : drawS P G K s ops done lag k = some s') : Goes P ν G w0 cs0 (lone fr (rcs ++ cs0) w) s' := by
  obtain ⟨hbase, hhead, its, l, dr, hk, ht, hD, _⟩ := hd
  have hlag := h.lag ops done lag k hhead
  have hmr : fr.mode = .run := by have := hbase.mode; rw [hm] at this; exact this
  have hcatch := catch_up (P := P) (its := its) hG hlag (rcs ++ cs0) l E w fr dr h.mem hD hmr ht
  -- what may come up next, there and here
  have hnext : ∀ {dr : Array Bool} {tmps : List SV} {rt : Array Value} {l : List Nat} {E : Env} {j : Nat}, Draws ν E s.cs.length ops done lag tmps rt dr (j :: l) → done.getD j false = false → j ∈ Region.ready .any ops done := by
    intro dr tmps rt l E j hD' hj
    have hord := hD'.ord
    cases hord with
    | cons hi _ =>
    obtain ⟨r1, r2, o, ho, hdeps⟩ := ready_spec hi
    refine ready_of ho ?_ fun e he hb => hD'.sub _ (hdeps e he hb)
    simp only [Array.getD_eq_getD_getElem?] at hj ⊢
    rw [Array.getElem?_eq_getElem (by rw [hD'.dsize]; exact r1)] at hj ⊢
    exact hj
  unfold drawS at hs
  split at hs
  · rename_i hrd
    simp only [toF, Option.some.injEq] at hs; subst hs
    obtain ⟨E', w', rt, dr', l', g1, g2, g3, g4, g5⟩ := hcatch
    rcases g5 with rfl | ⟨j, l'', rfl, hj⟩
    · have hall : ∀ i, i < ops.size → dr'.getD i false = true := by
        have hord := g3.ord
        cases hord with
        | nil h => exact h
      have htm : dens ν E' s.fr.tmps = some rt.toList := by
        refine dens_of (by simpa using g3.len) fun t x hx => ?_
        obtain ⟨v, q1, q2⟩ := g3.tmps t x hx (fun y hy hyd => by
          have hyl : y.1 < ops.size := by
            have := g3.lagDone y hy
            rcases Nat.lt_or_ge y.1 done.size with hlt | hge
            · rw [g3.dsize] at hlt; exact hlt
            · simp [Array.getD_eq_getD_getElem?, Array.getElem?_eq_none hge] at this
          rw [hall y.1 hyl] at hyd; cases hyd)
        exact ⟨v, by simpa using q1, q2⟩
      have hk' := itemsOf_mono g1 hk
      have hb' := hbase.mono g1
      have hstep := st_regionEnd (P := P) (w := w') (fr := { fr with tmps := rt, todo := .inRegion ops [] :: its }) (rcs ++ cs0) hmr rfl
      refine ⟨E', _, rcs, w', ?_, Steps.trans g4 (.one hstep)⟩
      refine ⟨g2, .inl ⟨⟨hb'.fn, hb'.kind, hb'.defers, hb'.mode, hb'.rnd⟩, htm, hk'⟩, h.stk.mono g1 (Nat.le_refl _), ?_⟩
      intro ops' done' lag' k' e
      simp only at e
      subst e
      obtain ⟨i, t, q1, _⟩ := itemsOf_cons.1 hk
      simp [itemOf] at q1
    · have := hnext g3 hj
      rw [hrd] at this; cases this
  · rename_i hrd
    split at hs
    · rename_i i v ob hq
      obtain ⟨hi, hfr⟩ := firstQuiet_spec hq
      · obtain ⟨r1, r2, o, ho, hdeps⟩ := ready_spec hi
        have hdi := getD_false r2
        have hids : i < done.size := by rw [hD.dsize]; exact r1
        have hdr : dr.getD i false = false := by
          cases hx : dr.getD i false with
          | false => rfl
          | true => rw [hD.sub i hx] at hdi; cases hdi
        have main : ∀ (E' : Env) (H' : List SO) (y : Option Nat), (∀ d, Ext d E E') → WRel P ν w0 E' H' w → (∀ b, y = some b → b = E.length ∧ E'[b]? = some (.pend s.cs.length)) →
            (∀ x ∈ (i, y) :: lag, lagOk P G ops (putS s.fr.tmps (dstOf ops i) v) H' x = true) →
            Goes P ν G w0 cs0 (lone fr (rcs ++ cs0) w) { s with fr := { s.fr with tmps := putS s.fr.tmps (dstOf ops i) v, todo := .inDraw ops (done.setIfInBounds i true) ((i, y) :: lag) none :: k }, H := H' } := by
          intro E' H' y hx hW' hy hok
          have hx0 := hx (s.cs.length + 1)
          refine ⟨E', fr, rcs, w, ⟨hW', .inr ⟨ops, _, _, none, k, ⟨hbase.fn, hbase.kind, densD_mono hx0 _ _ hbase.defers, hbase.mode.mono hx0, hbase.rnd.mono hx0⟩, rfl, its, l, dr, itemsOf_mono hx0 hk, ht, ?_, fun i hi => by cases hi⟩, h.stk.mono (hx s.cs.length) (Nat.le_refl _), ?_⟩, Steps.refl _ _⟩
          · refine ⟨hD.back, hD.size, by simp [hD.dsize], hD.ord, ?_, ?_, hD.closed, ?_, ?_, ?_, ?_, ?_, ?_, ?_⟩
            · intro j hj
              rw [getD_set _ _ _ hids]
              split
              · rfl
              · exact hD.sub j hj
            · intro j hj
              rw [getD_set _ _ _ hids] at hj
              by_cases e : i = j
              · subst e; exact .inr ⟨y, by simp⟩
              · rw [if_neg e] at hj
                rcases hD.cov j hj with q | ⟨ob', q⟩
                · exact .inl q
                · exact .inr ⟨ob', by simp [q]⟩
            · intro x hxm
              rcases List.mem_cons.1 hxm with rfl | hxm
              · exact hfr
              · exact hD.fresh x hxm
            · rw [← hD.len]
              unfold putS
              split <;> simp
            · intro t x hxs hno
              have hne := hno (i, y) (by simp) hdr
              have hold : s.fr.tmps[t]? = some x := by
                unfold putS at hxs
                split at hxs
                · rename_i d hdd
                  rw [List.getElem?_set_ne (fun e => hne (by rw [hdd, e]))] at hxs
                  exact hxs
                · exact hxs
              obtain ⟨u, q1, q2⟩ := hD.tmps t x hold (fun z hz hzd => hno z (by simp [hz]) hzd)
              exact ⟨u, q1, den_mono hx0 _ _ q2⟩
            · intro x hxm
              rw [getD_set _ _ _ hids]
              rcases List.mem_cons.1 hxm with rfl | hxm
              · simp
              · split
                · rfl
                · exact hD.lagDone x hxm
            · intro a a' b h1 h2
              rcases List.mem_cons.1 h1 with e1 | h1 <;> rcases List.mem_cons.1 h2 with e2 | h2
              · simp only [Prod.mk.injEq] at e1 e2; rw [e1.1, e2.1]
              · simp only [Prod.mk.injEq] at e1
                have := (hy b e1.2.symm).1
                have := hD.owedLt a' b h2
                omega
              · simp only [Prod.mk.injEq] at e2
                have := (hy b e2.2.symm).1
                have := hD.owedLt a b h1
                omega
              · exact hD.uniq a a' b h1 h2
            · intro a b h1
              rcases List.mem_cons.1 h1 with e1 | h1
              · simp only [Prod.mk.injEq] at e1
                have := (List.getElem?_eq_some_iff.1 (hy b e1.2.symm).2).1
                exact this
              · exact Nat.lt_of_lt_of_le (hD.owedLt a b h1) hx0.len
            · intro a b h1 h2
              rcases List.mem_cons.1 h1 with e1 | h1
              · simp only [Prod.mk.injEq] at e1
                exact (hy b e1.2.symm).2
              · exact hx0.pend b s.cs.length (hD.owed a b h1 h2) (by omega)
          · intro ops' done' lag' k' e x hxm
            simp only [List.cons.injEq, SI.inDraw.injEq] at e
            obtain ⟨⟨rfl, rfl, rfl, _⟩, rfl⟩ := e
            exact hok x hxm
        cases ob with
        | none =>
          simp only [Option.map_none] at hs
          split at hs
          · rename_i hall
            simp only [Option.some.injEq] at hs; subst hs
            exact main E s.H none (fun d => Ext.refl d E) h.mem (fun b e => by cases e) (List.all_eq_true.1 hall)
          · cases hs
        | some so =>
          simp only [Option.map_some] at hs
          split at hs
          · rename_i hall
            simp only [Option.some.injEq] at hs; subst hs
            refine main (E ++ [.pend s.cs.length]) (s.H ++ [so]) (some s.H.length) (fun d => Ext.push d E _) (h.mem.owe _ _) (fun b e => ?_) (List.all_eq_true.1 hall)
            simp at e
            subst e
            rw [← h.mem.len]
            exact ⟨rfl, List.getElem?_concat_length ..⟩
          · cases hs
    · split at hs
      · rename_i i hri
        split at hs
        · rename_i o ho
          split at hs
          · obtain ⟨E', w', rt, dr', l', g1, g2, g3, g4, g5⟩ := hcatch
            have hhd : ∃ l'', l' = i :: l'' ∧ done.getD i false = false := by
              rcases g5 with rfl | ⟨j, l'', rfl, hj⟩
              · exfalso
                have hi : i ∈ Region.ready .any ops done := by rw [hri]; simp
                obtain ⟨r1, r2, _⟩ := ready_spec hi
                have hord := g3.ord
                cases hord with
                | nil hall =>
                  have := g3.sub i (hall i r1)
                  rw [getD_false r2] at this; cases this
              · have := hnext g3 hj
                have e : j = i := by rw [hri] at this; simpa using this
                subst e
                exact ⟨l'', rfl, hj⟩
            obtain ⟨l'', rfl, hnd⟩ := hhd
            have hb' := hbase.mono g1
            have hord := g3.ord
            have hi' : i ∈ Region.ready .any ops dr' := by cases hord with | cons hi _ => exact hi
            obtain ⟨_, _, o', ho', hdeps⟩ := ready_spec hi'
            rw [ho] at ho'
            cases ho'
            have hwait : Wait ν E' s.cs.length { s.fr with todo := .inDraw ops done lag (some i) :: k } { fr with tmps := rt, todo := .inRegion ops (i :: l'') :: its } :=
              .inr ⟨ops, done, lag, i, k, ⟨hb'.fn, hb'.kind, hb'.defers, hb'.mode, hb'.rnd⟩, rfl, its, i :: l'', dr', itemsOf_mono g1 hk, rfl, g3, fun j hj => by cases hj; exact ⟨l'', rfl, hnd⟩⟩
            have hst' := h.stk.mono g1 (Nat.le_refl _)
            have hws := wanted_same g3 ho hdeps
            split at hs
            · rename_i hw
              split at hs
              · cases hs
              · rename_i r hsx hr
                have hgo := oper_goes (cs0 := cs0) hK hG g2 hwait hst' hm rfl ho (by rw [← hws]; exact hw) (draws_sees (fr := { fr with tmps := rt, todo := .inRegion ops (i :: l'') :: its }) g3 ho hdeps) hr hs
                obtain ⟨E2, fr2, rcs2, w2, q1, q2⟩ := hgo
                exact ⟨E2, fr2, rcs2, w2, q1, Steps.trans g4 q2⟩
              · cases hs
            · rename_i hw
              cases hf : finishS P G s.H { s.fr with todo := .inDraw ops done lag (some i) :: k } undefS with
              | none => rw [hf] at hs; cases hs
              | some f' =>
                rw [hf] at hs
                simp only [Option.map_some, Option.some.injEq] at hs; subst hs
                obtain ⟨q1, q2⟩ := finish_wait (u := undef) hwait (by simp [undefS, undef, den, dens]) hf
                have hstep := st_skipOp (P := P) (w := w') (fr := { fr with tmps := rt, todo := .inRegion ops (i :: l'') :: its }) (rcs ++ cs0) (by simp only [ho, Option.map_some, Option.getD_some]; rw [← hws]; simpa using hw) hmr rfl
                exact ⟨E', _, rcs, w', ⟨g2, q1, hst', q2⟩, Steps.trans g4 (.one hstep)⟩
          · cases hs
        · cases hs
      · cases hs
end Go.Ev

/- EvT: A machine that runs a call whose values are known: returns, deferred calls, panics, rounds. -/
namespace Go.Ev
open Go.RowKit

variable {P : Program} {ν : Nat → Value} {G : Nat → List SV} {w0 : World} {cs0 : List Frame} {K : Hooks}

theorem FRel.base {E : Env} {d : Nat} {f : SF} {fr : Frame} (h : FRel ν E d f fr) : FBase ν E f fr := by
  rcases h with h | ⟨_, _, _, _, _, h⟩
  · exact h.base
  · exact h.base
theorem finish_rel {E : Env} {d : Nat} {H : List SO} {f f' : SF} {fr : Frame} {v : SV} {u : Value} (h : FRel ν E d f fr) (hv : den ν E v = some u) (hf : finishS P G H f v = some f') :
    FRel ν E d f' (fr.finish u) ∧ ∀ ops done lag k, f'.todo = .inDraw ops done lag none :: k → ∀ x ∈ lag, lagOk P G ops f'.tmps H x = true := by
  rcases h with h | ⟨ops, done, lag, pend, k, h⟩
  · obtain ⟨h1, h2⟩ := finish_plain h hv hf
    exact ⟨.inl h1, fun ops done lag k e => absurd e (h2 ops done lag k)⟩
  · exact finish_drawn h hv hf
theorem chain_goes {E : Env} : ∀ {l : List (SV × Bool)} {c : List PanicEntry}, chainOf ν E l = some c → c.dropWhile (fun e => !e.goexit) = []
  | [], c, h => by simp [chainOf] at h; subst h; rfl
  | (v, b) :: r, c, h => by
    rw [chainOf] at h
    cases hv : den ν E v with
    | none => rw [hv] at h; cases h
    | some v' => cases hr : chainOf ν E r with
      | none => rw [hv, hr] at h; cases h
      | some r' =>
        rw [hv, hr] at h
        simp at h; subst h
        simp [chain_goes hr]

theorem waits_no {k : List SI} (h : ¬ waits k = true) : ∀ ops done lag r, k ≠ .inDraw ops done lag none :: r := by
  rintro ops done lag r rfl
  exact h rfl

theorem return_goes {E : Env} {f : SF} {fr : Frame} {cs : List SF} {rcs : List Frame} {H : List SO} {w : World} {v : SV} {u : Value} {s' : St} (hW : WRel P ν w0 E H w) (hb : FBase ν E f fr) (hst : Stack ν E cs rcs) (hv : den ν E v = some u) (h : returnS P G f cs v H = some s') :
    ∃ fr' rcs', doReturn P true fr (rcs ++ cs0) none u w = .go { frame := fr', callers := rcs' ++ cs0, status := .running, dying := none } w ∧ MRel P ν G w0 E s' fr' rcs' w := by
  unfold returnS at h
  split at h
  · rename_i c rest
    obtain ⟨cfr, rrest, rfl, hc, hrs⟩ := hst
    split at h
    · rename_i hk
      cases hf : finishS P G H c v with
      | none => rw [hf] at h; cases h
      | some c' =>
        rw [hf] at h
        simp only [Option.map_some, Option.some.injEq] at h; subst h
        obtain ⟨g1, g2⟩ := finish_rel hc hv hf
        refine ⟨cfr.finish u, rrest, ?_, ⟨hW, g1, hrs, g2⟩⟩
        have : fr.kind = .normal := by rw [hb.kind]; exact hk
        simp [doReturn, this]
    · rename_i hk
      have hk' : fr.kind = .deferred := by rw [hb.kind]; exact hk
      have hcb := hc.base
      split at h
      · cases h
      rename_i hw
      have hlag := waits_no hw
      split at h
      · rename_i v' older hmode
        simp only [Option.some.injEq] at h; subst h
        have hmm := hcb.mode
        rw [hmode] at hmm
        obtain ⟨ch, hch, hcm⟩ := hmm
        rw [chainOf] at hch
        cases hv' : den ν E v' with
        | none => rw [hv'] at hch; cases hch
        | some u' => cases hol : chainOf ν E older with
          | none => rw [hv', hol] at hch; cases hch
          | some ol =>
            rw [hv', hol] at hch
            simp at hch; subst hch
            refine ⟨{ cfr with mode := .returning }, rrest, ?_, ⟨hW, hc.remode rfl, hrs, fun ops done lag k e => absurd e (hlag ops done lag k)⟩⟩
            have hg := chain_goes hol
            simp [doReturn, hk', hcm, hg]
      · rename_i hmode
        simp only [Option.some.injEq] at h; subst h
        refine ⟨cfr, rrest, ?_, ⟨hW, hc, hrs, fun ops done lag k e => absurd e (hlag ops done lag k)⟩⟩
        have hmm := hcb.mode
        simp only [doReturn, hk', List.cons_append]
        cases hcmd : c.mode with
        | run => rw [hcmd] at hmm; rw [hmm]
        | ret => rw [hcmd] at hmm; rw [hmm]
        | pan l =>
          rw [hcmd] at hmm
          obtain ⟨ch, hch, hcm⟩ := hmm
          rw [hcm]
          cases l with
          | nil => simp [chainOf] at hch; subst hch; rfl
          | cons x l =>
            obtain ⟨xv, xb⟩ := x
            rw [chainOf] at hch
            cases hv' : den ν E xv with
            | none => rw [hv'] at hch; cases hch
            | some u' => cases hol : chainOf ν E l with
              | none => rw [hv', hol] at hch; cases hch
              | some ol =>
                rw [hv', hol] at hch
                simp at hch; subst hch
                cases xb with
                | false => rfl
                | true => exact absurd hcmd (hmode _ _)
    · cases h
  · cases h

theorem st_unwind {fr : Frame} {cs : List Frame} {w : World} (hm : fr.mode ≠ .run) : stepG P true { frame := fr, callers := cs, status := .running, dying := none } w = unwind P true fr cs none w := by
  obtain ⟨fn, tmps, todo, defers, mode, kind, rnd⟩ := fr
  cases mode with
  | run => exact absurd rfl hm
  | returning => simp [stepG]
  | panicking c => simp [stepG]

theorem cells_run {E : Env} {H : List SO} {w : World} (hW : WRel P ν w0 E H w) (hG : GOk ν G w0) {tmps : List SV} {rt : Array Value} (ht : dens ν E tmps = some rt.toList) {g : ResultVar → Sem Value}
    (g1 : ∀ t, (g (.tmp t)).run P w = .ok (rt.getD t undef) w) (g2 : ∀ a t x u, rt.getD a undef = .pointer (some x) → (loadVar t x).run P w = .ok u w → (g (.cell a t)).run P w = .ok u w) : ∀ {rs : List ResultVar} {l : List SV}, cellsOfRes P G H tmps rs = some l →
    ∃ vs, dens ν E l = some vs ∧ (rs.mapM g).run P w = .ok vs w
  | [], l, h => by simp [cellsOfRes] at h; subst h; exact ⟨[], by simp [dens], by simp⟩
  | .tmp t :: r, l, h => by
    rw [cellsOfRes] at h
    cases hr : cellsOfRes P G H tmps r with
    | none => rw [hr] at h; cases h
    | some l' =>
      rw [hr] at h
      simp at h; subst h
      obtain ⟨vs, h1, h2⟩ := cells_run hW hG ht g1 g2 hr
      have he := ev_eval (fr := { (default : Frame) with tmps := rt }) ht (x := .tmp t) rfl
      exact ⟨_, dens_cons.2 ⟨_, _, he, h1, rfl⟩, by simp only [List.mapM_cons, Sem.run_bind, g1, Result.andThen_ok, h2, Sem.run_pure, Frame.eval]⟩
  | .cell a t :: r, l, h => by
    rw [cellsOfRes] at h
    split at h
    · rename_i v l' hv hr
      simp at h; subst h
      obtain ⟨vs, h1, h2⟩ := cells_run hW hG ht g1 g2 hr
      have he := ev_eval (fr := { (default : Frame) with tmps := rt }) ht (x := .tmp a) rfl
      obtain ⟨rr, off, u, q1, q2, q3⟩ := loadS_run hW hG hv he
      exact ⟨_, dens_cons.2 ⟨_, _, q3, h1, rfl⟩, by simp only [List.mapM_cons, Sem.run_bind, g2 a t _ u q1 q2, Result.andThen_ok, h2, Sem.run_pure]⟩
    · cases h
theorem res_one {w : World} {rs : Array ResultVar} {u : Value} (g : ResultVar → Sem Value) (h : (rs.toList.mapM g).run P w = .ok [u] w) : (do let vs ← rs.mapM g; pure (if h : vs.size = 1 then vs[0] else .tuple vs) : Sem Value).run P w = .ok u w := by
  rw [Array.mapM_eq_mapM_toList]
  simp only [Sem.run_bind, Sem.run_map, h, Result.andThen_ok, Sem.run_pure]
  rfl
theorem res_many {w : World} {rs : Array ResultVar} {vs : List Value} (g : ResultVar → Sem Value) (h : (rs.toList.mapM g).run P w = .ok vs w) (hn : ¬ vs.toArray.size = 1) : (do let vs ← rs.mapM g; pure (if h : vs.size = 1 then vs[0] else .tuple vs) : Sem Value).run P w = .ok (.tuple vs.toArray) w := by
  rw [Array.mapM_eq_mapM_toList]
  simp only [Sem.run_bind, Sem.run_map, h, Result.andThen_ok, Sem.run_pure, dif_neg hn]
theorem resS_run {E : Env} {H : List SO} {w : World} (hW : WRel P ν w0 E H w) (hG : GOk ν G w0) {fn : FuncId} {tmps : List SV} {rt : Array Value} (ht : dens ν E tmps = some rt.toList) {v : SV} (h : resS P G H fn tmps = some v) :
    ∃ f u, P.funcs[fn]? = some f ∧ (results f rt).run P w = .ok u w ∧ den ν E v = some u := by
  unfold resS at h
  split at h
  · rename_i f hf
    split at h
    · rename_i x hc
      simp only [Option.some.injEq] at h; subst h
      obtain ⟨vs, h1, h2⟩ := cells_run (g := fun (r : ResultVar) => (match r with
        | .tmp t => pure (rt.getD t undef)
        | .cell a t => do loadVar t (← asAddr (rt.getD a undef)) : Sem Value)) hW hG ht (fun t => rfl) (fun a t x u hx hl => by simp only [hx, asAddr, Sem.run_bind, Sem.run_pure, Result.andThen_ok, hl]) hc
      obtain ⟨u, t, g1, g2, rfl⟩ := dens_cons.1 h1
      simp [dens] at g2; subst g2
      exact ⟨f, u, hf, res_one _ h2, g1⟩
    · rename_i l hne hc
      simp only [Option.some.injEq] at h; subst h
      obtain ⟨vs, h1, h2⟩ := cells_run (g := fun (r : ResultVar) => (match r with
        | .tmp t => pure (rt.getD t undef)
        | .cell a t => do loadVar t (← asAddr (rt.getD a undef)) : Sem Value)) hW hG ht (fun t => rfl) (fun a t x u hx hl => by simp only [hx, asAddr, Sem.run_bind, Sem.run_pure, Result.andThen_ok, hl]) hc
      have hlen := dens_len h1
      refine ⟨f, .tuple vs.toArray, hf, ?_, den_tuple.2 ⟨vs, h1, rfl⟩⟩
      have hn : ¬ vs.toArray.size = 1 := by
        intro e
        simp at e
        rw [e] at hlen
        cases l with
        | nil => simp at hlen
        | cons x r => cases r with
          | nil => exact hne x rfl
          | cons y z => simp at hlen
      exact res_many _ h2 hn
    · cases h
  · cases h

theorem mode_ne {E : Env} {f : SF} {fr : Frame} (h : FBase ν E f fr) (hm : f.mode ≠ .run) : fr.mode ≠ .run := by
  have := h.mode
  cases hf : f.mode with
  | run => exact absurd hf hm
  | ret => rw [hf] at this; rw [this]; exact fun e => by cases e
  | pan l => rw [hf] at this; obtain ⟨c, _, h2⟩ := this; rw [h2]; exact fun e => by cases e
theorem todo_call {E : Env} {d : Nat} {f : SF} {fr : Frame} (h : FRel ν E d f fr) : fr.catches P = false := by
  unfold Frame.catches
  split
  · rename_i hcall
    exfalso
    rcases h with h | ⟨ops, done, lag, pend, k, h⟩
    · have ht := h.todo
      rw [hcall] at ht
      cases hk : f.todo with
      | nil => rw [hk] at ht; simp [itemsOf] at ht
      | cons x r =>
        rw [hk] at ht
        obtain ⟨i, t, h1, _, h2⟩ := itemsOf_cons.1 ht
        cases h2
        cases x with
        | inRF b => simp only [itemOf] at h1; cases hb : blk E b <;> rw [hb] at h1 <;> simp at h1
        | endRF b => simp only [itemOf] at h1; cases hb : blk E b <;> rw [hb] at h1 <;> simp at h1
        | _ => simp [itemOf] at h1
    · obtain ⟨its, l, dr, _, h2, _⟩ := h.body
      rw [h2] at hcall
      cases hcall
  · rfl
end Go.Ev

/- EvU: A machine that runs a call whose values are known: what it gives is what the call gives. -/
namespace Go.Ev
open Go.RowKit

variable {P : Program} {ν : Nat → Value} {G : Nat → List SV} {w0 : World} {cs0 : List Frame} {K : Hooks}

theorem not_drawn {s : St} {x : SI} {k : List SI} (h : s.fr.todo = x :: k) (hx : ∀ ops done lag pend, x ≠ .inDraw ops done lag pend) : ∀ ops done lag pend k, s.fr.todo ≠ .inDraw ops done lag pend :: k := by
  intro ops done lag pend k' e
  rw [h] at e
  simp only [List.cons.injEq] at e
  exact hx _ _ _ _ e.1

theorem getLoop_run {w : World} {r : Nat} {l : Loop} (h : w.heap[r]? = some (.loop l)) : (Instr.getLoop r).run P w = .ok l w := by
  simp [Instr.getLoop, getObj, Sem.run, h]
theorem setLoop_run {w : World} {r : Nat} {l : Loop} (o : Obj) (h : w.heap[r]? = some (.loop l)) : (setObj r o).run P w = .ok () { w with heap := w.heap.setIfInBounds r o } := by
  simp [setObj, Sem.run, h]

theorem loopAt_eq {H : List SO} {b : Nat} {st : LoopState} {pend : Option Code} {fn : FuncId} {tmps : List SV} {params : Array Tmp} {assign body : Code} {d : Nat} (h : loopAt H b = some (st, pend, fn, tmps, params, assign, body, d)) : H[b]? = some (.loop st pend fn tmps params assign body d) := by
  unfold loopAt at h
  split at h
  · rename_i hb
    simp only [Option.some.injEq, Prod.mk.injEq] at h
    obtain ⟨rfl, rfl, rfl, rfl, rfl, rfl, rfl, rfl⟩ := h
    exact hb
  · cases h
theorem leave_goes {E : Env} {s s' : St} {fr : Frame} {rcs : List Frame} {w : World} {jump : Option Code} (h : MRel P ν G w0 E s fr rcs w) (hm : s.fr.mode = .run) (hnl : ∀ ops done lag k, s.fr.todo ≠ .inDraw ops done lag none :: k) (hl : leaveAt P G s jump = some s')
    (h0 : s.fr.rnd = none → (jump = none ∨ jump = some .ret) → ∀ cs, step P (lone fr cs w) = .next (lone { fr with mode := .returning } cs w))
    (h1 : ∀ b, fr.roundOf = some b → ∀ v w' fr' cs', (Instr.endRound b jump).run P w = .ok v w' → doReturn P true fr (rcs ++ cs0) none v w' = .go { frame := fr', callers := cs', status := .running, dying := none } w' → step P (lone fr (rcs ++ cs0) w) = .next (lone fr' cs' w')) :
    Goes P ν G w0 cs0 (lone fr (rcs ++ cs0) w) s' := by
  unfold leaveAt at hl
  have hb := h.top.base
  split at hl
  · rename_i hr
    unfold leaveS at hl
    rw [hr] at hl
    simp only at hl
    have key : ∀ s'', s'' = { s with fr := { s.fr with mode := .ret } } → (jump = none ∨ jump = some .ret) → Goes P ν G w0 cs0 (lone fr (rcs ++ cs0) w) s'' := by
      rintro s'' rfl hj
      refine ⟨E, { fr with mode := .returning }, rcs, w, ⟨h.mem, h.top.remode rfl, h.stk, fun ops done lag k e => absurd e (hnl ops done lag k)⟩, .one (h0 hr hj _)⟩
    split at hl
    · simp only [Option.some.injEq] at hl; exact key _ hl.symm (.inl rfl)
    · simp only [Option.some.injEq] at hl; exact key _ hl.symm (.inr rfl)
    · cases hl
  · rename_i b hr
    have hrr := hb.rnd
    rw [hr] at hrr
    obtain ⟨r, k, hE, hro⟩ := hrr
    unfold endRoundS at hl
    split at hl
    · rename_i st pend fn tmps params assign body d hlo
      · have hbo := loopAt_eq hlo
        obtain ⟨l, rd, kd, g1, g2, g3⟩ := loop_of h.mem hbo hE
        have hW' := h.mem.upd (o' := .loop (if jump.isNone then .ready else .done) jump fn tmps params assign body d) hbo hE rfl (ob := .loop { state := if jump.isNone then .ready else .done, pending := jump, fn := fn, tmps := l.toArray, params := params, assign := assign, body := body, defers := rd })
          ⟨l, rd, kd, g1, blk_eq.2 g2, rfl⟩
        have hrun : (Instr.endRound r jump).run P w = .ok (.bool jump.isNone) { w with heap := w.heap.setIfInBounds r (.loop { state := if jump.isNone then .ready else .done, pending := jump, fn := fn, tmps := l.toArray, params := params, assign := assign, body := body, defers := rd }) } := by
          simp only [Instr.endRound, Sem.run_bind, getLoop_run g3, Result.andThen_ok, setLoop_run _ g3, Sem.run_pure]
        obtain ⟨fr', rcs', q1, q2⟩ := return_goes (P := P) (G := G) (cs0 := cs0) hW' hb h.stk (v := .bool jump.isNone) (u := .bool jump.isNone) (by simp [den]) hl
        exact ⟨E, fr', rcs', _, q2, .one (h1 r hro _ _ _ _ hrun q1)⟩
    · cases hl

theorem st_leave_plain {fr : Frame} {w : World} (hm : fr.mode = .run) (hr : fr.roundOf = none) (ht : fr.todo = [] ∨ ∃ k, fr.todo = .code .ret :: k) (cs : List Frame) : step P (lone fr cs w) = .next (lone { fr with mode := .returning } cs w) := by
  obtain ⟨fn, tmps, todo, defers, mode, kind, rnd⟩ := fr
  simp only at hm hr ht
  subst hm; subst hr
  rcases ht with rfl | ⟨k, rfl⟩ <;> exact step_lone_go (by simp [stepG, stepG.exec])
theorem st_leave_round {fr fr' : Frame} {w w' : World} {b : Nat} {jump : Option Code} {v : Value} {cs cs' : List Frame} (hm : fr.mode = .run) (hr : fr.roundOf = some b)
    (ht : (fr.todo = [] ∧ jump = none) ∨ (∃ k, fr.todo = .code .ret :: k ∧ jump = some .ret) ∨ (∃ id k, fr.todo = .code (.exit id) :: k ∧ exitTo id k = none ∧ jump = some (.exit id)) ∨ (∃ l k, fr.todo = .code (.goto l) :: k ∧ gotoIn l k = none ∧ jump = some (.goto l)))
    (hx : (Instr.endRound b jump).run P w = .ok v w') (hd : doReturn P true fr cs none v w' = .go { frame := fr', callers := cs', status := .running, dying := none } w') : step P (lone fr cs w) = .next (lone fr' cs' w') := by
  obtain ⟨fn, tmps, todo, defers, mode, kind, rnd⟩ := fr
  simp only at hm hr ht
  subst hm; subst hr
  rcases ht with ⟨rfl, rfl⟩ | ⟨k, rfl, rfl⟩ | ⟨id, k, rfl, he, rfl⟩ | ⟨id, k, rfl, he, rfl⟩ <;> exact step_lone_go (by simp_all [stepG, stepG.exec])

theorem st_rangeFunc {fr : Frame} {w w' w2 : World} {f : Operand} {params : Array Tmp} {assign body : Code} {k : List Item} {l : Nat} {mark : List Deferred} {g : FuncId} {args : Array Value} {cs : List Frame} (hm : fr.mode = .run) (ht : fr.todo = .code (.rangeFunc f params assign body) :: k)
    (hx : (Instr.enterLoop fr.fn fr.tmps params assign body fr.roundOf).run P w = .ok (l, mark) w')
    (hi : (do let d ← resolve ({ fr with todo := .inRangeFunc l :: k, defers := mark ++ fr.defers } : Frame).eval { callee := .value f, args := #[.const (.func (.yield l) #[] #[])], argTypes := #[] } 0; invoke d.target d.args : Sem Next).run P w' = .ok (.enter g args) w2) :
    step P (lone fr cs w) = .next (lone (Frame.enter P g args .normal) ({ fr with todo := .inRangeFunc l :: k, defers := mark ++ fr.defers } :: cs) w2) := by
  obtain ⟨fn, tmps, todo, defers, mode, kind, rnd⟩ := fr
  simp only at hm ht hx hi
  subst hm; subst ht
  refine step_lone_go ?_
  simp only [stepG, stepG.exec, Sem.runT_eq, hx, GStep.bare_after]
  simp only [stepG.apply, Sem.runT_eq, if_true, hi, GStep.bare_after]
  rfl
theorem st_beginRound {fr : Frame} {w w' : World} {k : List Item} {r : Nat} {cs : List Frame} (hm : fr.mode = .run) (ht : fr.todo = .beginRound :: k) (hr : fr.roundOf = some r) (hx : (Instr.beginRound r).run P w = .ok () w') : step P (lone fr cs w) = .next (lone { fr with todo := k } cs w') := by
  obtain ⟨fn, tmps, todo, defers, mode, kind, rnd⟩ := fr
  simp only at hm ht hr
  subst hm; subst ht; subst hr
  exact step_lone_go (by simp [stepG, stepG.exec, stepG.apply, hx, Frame.finish])
theorem st_endRF {fr : Frame} {w w' : World} {k : List Item} {r : Nat} {jump : Option Code} {cs : List Frame} (hm : fr.mode = .run) (ht : fr.todo = .endRangeFunc r :: k) (hx : (Instr.endLoop r).run P w = .ok jump w') : step P (lone fr cs w) = .next (lone { fr with todo := (jump.map Item.code).toList ++ k } cs w') := by
  obtain ⟨fn, tmps, todo, defers, mode, kind, rnd⟩ := fr
  simp only at hm ht
  subst hm; subst ht
  exact step_lone_go (by simp [stepG, stepG.exec, hx])

theorem run_goes {E : Env} {s s' : St} {fr : Frame} {rcs : List Frame} {w : World} (hK : HookOk P ν w0 K) (hG : GOk ν G w0) (h : MRel P ν G w0 E s fr rcs w) (hm : s.fr.mode = .run) (hs : runS P G K s = some s') :
    Goes P ν G w0 cs0 (lone fr (rcs ++ cs0) w) s' := by
  have hmr : fr.mode = .run := by have := h.top.base.mode; rw [hm] at this; exact this
  have hrn : s.fr.rnd = none → fr.roundOf = none := fun e => by have := h.top.base.rnd; rw [e] at this; exact this
  have simple : ∀ {x : SI} {k k' : List SI}, s.fr.todo = x :: k → (∀ ops done lag pend, x ≠ .inDraw ops done lag pend) → FPlain ν E s.fr fr ∧ ∃ its, itemsOf E (x :: k) = some its ∧ fr.todo = its := fun hk hx => by
    have hp := h.top.plain (not_drawn hk hx)
    have ht := hp.todo
    rw [hk] at ht
    exact ⟨hp, _, ht, rfl⟩
  unfold runS at hs
  split at hs
  · rename_i hk
    have hp := h.top.plain (fun _ _ _ _ _ e => by rw [hk] at e; cases e)
    have ht : fr.todo = [] := by have := hp.todo; rw [hk] at this; simp [itemsOf] at this; exact this
    exact leave_goes h hm (fun _ _ _ _ e => by rw [hk] at e; cases e) hs (fun hr _ cs => st_leave_plain hmr (hrn hr) (.inl ht) cs) (fun b hb v w' fr' cs' hx hd => st_leave_round hmr hb (.inl ⟨ht, rfl⟩) hx hd)
  · rename_i k hk
    obtain ⟨hp, its, ht, hft⟩ := simple (k' := k) hk (fun _ _ _ _ e => by cases e)
    obtain ⟨t, rfl, _⟩ := inv_code ht
    exact leave_goes h hm (fun _ _ _ _ e => by rw [hk] at e; cases e) hs (fun hr _ cs => st_leave_plain hmr (hrn hr) (.inr ⟨_, hft⟩) cs) (fun b hb v w' fr' cs' hx hd => st_leave_round hmr hb (.inr (.inl ⟨_, hft, rfl⟩)) hx hd)
  · rename_i k hk
    obtain ⟨hp, its, ht, hft⟩ := simple (k' := k) hk (fun _ _ _ _ e => by cases e)
    obtain ⟨t, rfl, h2⟩ := inv_code ht
    simp only [toF, Option.some.injEq] at hs; subst hs
    exact toF_goes h hp h2 fun cs => st_skip cs (.inl rfl) hmr hft
  · rename_i l k hk
    obtain ⟨hp, its, ht, hft⟩ := simple (k' := k) hk (fun _ _ _ _ e => by cases e)
    obtain ⟨t, rfl, h2⟩ := inv_code ht
    simp only [toF, Option.some.injEq] at hs; subst hs
    exact toF_goes h hp h2 fun cs => st_skip cs (.inr ⟨l, rfl⟩) hmr hft
  · rename_i id k hk
    obtain ⟨hp, its, ht, hft⟩ := simple (k' := k) hk (fun _ _ _ _ e => by cases e)
    obtain ⟨i, t, h1, h2, rfl⟩ := itemsOf_cons.1 ht
    simp [itemOf] at h1; subst h1
    simp only [toF, Option.some.injEq] at hs; subst hs
    exact toF_goes h hp h2 fun cs => st_inBlock cs hmr hft
  · rename_i b k hk
    obtain ⟨hp, its, ht, hft⟩ := simple (k' := k) hk (fun _ _ _ _ e => by cases e)
    obtain ⟨i, t, h1, h2, rfl⟩ := itemsOf_cons.1 ht
    simp [itemOf] at h1; subst h1
    simp only [toF, Option.some.injEq] at hs; subst hs
    exact toF_goes h hp h2 fun cs => st_inScope cs hmr hft
  · rename_i a b k hk
    obtain ⟨hp, its, ht, hft⟩ := simple (k' := k) hk (fun _ _ _ _ e => by cases e)
    obtain ⟨t, rfl, h2⟩ := inv_code ht
    simp only [toF, Option.some.injEq] at hs; subst hs
    exact toF_goes h hp (itemsOf_cons.2 ⟨_, _, rfl, itemsOf_cons.2 ⟨_, _, rfl, h2, rfl⟩, rfl⟩) fun cs => st_seq cs hmr hft
  · rename_i c a b k hk
    obtain ⟨hp, its, ht, hft⟩ := simple (k' := k) hk (fun _ _ _ _ e => by cases e)
    obtain ⟨t, rfl, h2⟩ := inv_code ht
    split at hs
    · rename_i bb hc
      simp only [toF, Option.some.injEq] at hs; subst hs
      have he := ev_eval hp.tmps hc
      simp [den] at he
      exact toF_goes h hp (itemsOf_cons.2 ⟨_, _, rfl, h2, rfl⟩) fun cs => st_cond cs he.symm hmr hft
    · cases hs
  · rename_i id b k hk
    obtain ⟨hp, its, ht, hft⟩ := simple (k' := k) hk (fun _ _ _ _ e => by cases e)
    obtain ⟨t, rfl, h2⟩ := inv_code ht
    simp only [toF, Option.some.injEq] at hs; subst hs
    exact toF_goes h hp (itemsOf_cons.2 ⟨_, _, rfl, itemsOf_cons.2 ⟨_, _, rfl, h2, rfl⟩, rfl⟩) fun cs => st_block cs hmr hft
  · rename_i b k hk
    obtain ⟨hp, its, ht, hft⟩ := simple (k' := k) hk (fun _ _ _ _ e => by cases e)
    obtain ⟨t, rfl, h2⟩ := inv_code ht
    simp only [toF, Option.some.injEq] at hs; subst hs
    exact toF_goes h hp (itemsOf_cons.2 ⟨_, _, rfl, itemsOf_cons.2 ⟨_, _, rfl, h2, rfl⟩, rfl⟩) fun cs => st_loop cs hmr hft
  · rename_i b k hk
    obtain ⟨hp, its, ht, hft⟩ := simple (k' := k) hk (fun _ _ _ _ e => by cases e)
    obtain ⟨i, t, h1, h2, rfl⟩ := itemsOf_cons.1 ht
    simp [itemOf] at h1; subst h1
    simp only [toF, Option.some.injEq] at hs; subst hs
    exact toF_goes h hp (itemsOf_cons.2 ⟨_, _, rfl, itemsOf_cons.2 ⟨_, _, rfl, h2, rfl⟩, rfl⟩) fun cs => st_inLoop cs hmr hft
  · rename_i b k hk
    obtain ⟨hp, its, ht, hft⟩ := simple (k' := k) hk (fun _ _ _ _ e => by cases e)
    obtain ⟨t, rfl, h2⟩ := inv_code ht
    simp only [toF, Option.some.injEq] at hs; subst hs
    exact toF_goes h hp (itemsOf_cons.2 ⟨_, _, rfl, itemsOf_cons.2 ⟨_, _, rfl, h2, rfl⟩, rfl⟩) fun cs => st_scope cs hmr hft
  · rename_i id k hk
    obtain ⟨hp, its, ht, hft⟩ := simple (k' := k) hk (fun _ _ _ _ e => by cases e)
    obtain ⟨t, rfl, h2⟩ := inv_code ht
    split at hs
    · rename_i k' he
      obtain ⟨its', e1, e2⟩ := exitS_of h2 he
      simp only [toF, Option.some.injEq] at hs; subst hs
      exact toF_goes h hp e2 fun cs => st_exit cs e1 hmr hft
    · rename_i he
      have e1 := exitS_no h2 he
      exact leave_goes h hm (fun _ _ _ _ e => by rw [hk] at e; cases e) hs (fun _ hj => by rcases hj with hj | hj <;> cases hj) (fun b hb v w' fr' cs' hx hd => st_leave_round hmr hb (.inr (.inr (.inl ⟨_, _, hft, e1, rfl⟩))) hx hd)
  · rename_i id k hk
    obtain ⟨hp, its, ht, hft⟩ := simple (k' := k) hk (fun _ _ _ _ e => by cases e)
    obtain ⟨t, rfl, h2⟩ := inv_code ht
    split at hs
    · rename_i k' he
      obtain ⟨its', e1, e2⟩ := gotoS_of h2 he
      simp only [toF, Option.some.injEq] at hs; subst hs
      exact toF_goes h hp e2 fun cs => st_goto cs e1 hmr hft
    · rename_i he
      have e1 := gotoS_no h2 he
      exact leave_goes h hm (fun _ _ _ _ e => by rw [hk] at e; cases e) hs (fun _ hj => by rcases hj with hj | hj <;> cases hj) (fun b hb v w' fr' cs' hx hd => st_leave_round hmr hb (.inr (.inr (.inr ⟨_, _, hft, e1, rfl⟩))) hx hd)
  · rename_i f params assign body k hk
    obtain ⟨hp, its, ht, hft⟩ := simple (k' := k) hk (fun _ _ _ _ e => by cases e)
    obtain ⟨t, rfl, h2⟩ := inv_code ht
    split at hs
    · rename_i g first caps hr hf
      split at hs
      · rename_i hbd
        cases hn : enterS P g (first ++ [.yield (s.H.length + 1)] ++ caps) .normal with
        | none => rw [hn] at hs; cases hs
        | some n =>
          rw [hn] at hs
          simp only [Option.map_some, Option.some.injEq] at hs; subst hs
          have he := ev_eval hp.tmps hf
          obtain ⟨a', c', d1, d2, d3⟩ := den_func.1 he
          have hro := hrn hr
          -- the two blocks
          let lp : Loop := { state := .ready, pending := none, fn := fr.fn, tmps := fr.tmps, params := params, assign := assign, body := body, defers := w.heap.size }
          let w1 : World := { w with heap := w.heap.push (.deferred (some [])) }
          let w2 : World := { w1 with heap := w1.heap.push (.loop lp) }
          have hW1 := h.mem.new (k := 0) (o := .defd (some [])) (ob := .deferred (some [])) ⟨[], by simp [densD], rfl⟩
          have hx1 : ∀ d, Ext d E (E ++ [.lies w.heap.size 0]) := fun d => Ext.push d E _
          have hx2 : ∀ d, Ext d (E ++ [.lies w.heap.size 0]) (E ++ [.lies w.heap.size 0] ++ [.lies w1.heap.size 0]) := fun d => Ext.push d _ _
          have hx : ∀ d, Ext d E (E ++ [.lies w.heap.size 0] ++ [.lies w1.heap.size 0]) := fun d => (hx1 d).trans (hx2 d)
          have hdb : (E ++ [Ent.lies w.heap.size 0] ++ [Ent.lies w1.heap.size 0])[s.H.length]? = some (.lies w.heap.size 0) := by
            rw [← h.mem.len, List.append_assoc, List.getElem?_append_right (Nat.le_refl _)]; simp
          have hlb : (E ++ [Ent.lies w.heap.size 0] ++ [Ent.lies w1.heap.size 0])[s.H.length + 1]? = some (.lies w1.heap.size 0) := by
            rw [← h.mem.len, List.append_assoc, List.getElem?_append_right (by omega)]
            simp
          have hW2 := hW1.new (w := w1) (k := 0) (o := .loop .ready none s.fr.fn s.fr.tmps params assign body s.H.length) (ob := .loop lp)
            ⟨fr.tmps.toList, w.heap.size, 0, dens_mono (hx 0) _ _ hp.tmps, blk_eq.2 hdb, by simp [lp, hp.base.fn]⟩
          have hrun : (Instr.enterLoop fr.fn fr.tmps params assign body fr.roundOf).run P w = .ok (w1.heap.size, [{ target := .collected w.heap.size, args := #[] }]) w2 := by
            simp [Instr.enterLoop, hro, newObj, Sem.run, w1, w2, lp]
          have hargs : dens ν (E ++ [.lies w.heap.size 0] ++ [.lies w1.heap.size 0]) (first ++ [.yield (s.H.length + 1)] ++ caps) = some (a' ++ [Value.func (Fn.yield w1.heap.size) #[] #[]] ++ c') :=
            dens_append (dens_append (dens_mono (hx 0) _ _ d1) (dens_cons.2 ⟨_, [], den_yield.2 ⟨w1.heap.size, 0, hlb, rfl⟩, by simp [dens], rfl⟩)) (dens_mono (hx 0) _ _ d2)
          obtain ⟨n1, _, n3⟩ := enter_plain (E := E ++ [.lies w.heap.size 0] ++ [.lies w1.heap.size 0]) (vs := (a' ++ [Value.func (Fn.yield w1.heap.size) #[] #[]] ++ c').toArray) hn (by rw [List.toList_toArray]; exact hargs)
          let fr2 : Frame := { fr with todo := .inRangeFunc w1.heap.size :: t, defers := { target := .collected w.heap.size, args := #[] } :: fr.defers }
          have hstep : step P (lone fr (rcs ++ cs0) w) = .next (lone (Frame.enter P g (a' ++ [Value.func (Fn.yield w1.heap.size) #[] #[]] ++ c').toArray .normal) (fr2 :: (rcs ++ cs0)) w2) := by
            have hinv : (do let d ← resolve fr2.eval { callee := .value f, args := #[Operand.const (Value.func (Fn.yield w1.heap.size) #[] #[])], argTypes := #[] } 0; invoke d.target d.args : Sem Next).run P w2 = .ok (.enter g (a' ++ [Value.func (Fn.yield w1.heap.size) #[] #[]] ++ c').toArray) w2 := by
              have e2 : fr2.eval f = .func (.func g) a'.toArray c'.toArray := d3
              simp only [resolve, e2, Deferred.ofValue, Sem.run_bind, Sem.run_pure, Result.andThen_ok, invoke]
              rw [bodied_run hbd]
              congr 2
              apply Array.ext'
              simp [Frame.eval]
            have hro2 := hro
            exact st_rangeFunc hmr hft hrun hinv
          refine ⟨E ++ [.lies w.heap.size 0] ++ [.lies w1.heap.size 0], _, fr2 :: rcs, w2, ⟨?_, .inl n1, Stack.cons (.inl ⟨⟨hp.base.fn, hp.base.kind, ?_, hp.base.mode.mono (hx 0), (hp.base.mono (hx 0)).rnd⟩, dens_mono (hx 0) _ _ hp.tmps, ?_⟩) (h.stk.mono (hx s.cs.length) (Nat.le_refl _)), fun ops done lag k e => absurd e (n3 _ _ _ _ _)⟩, .one hstep⟩
          · have e3 := hW2
            rw [List.append_assoc s.H] at e3
            exact e3
          · exact densD_cons.2 ⟨_, _, by simp only [denD]; rw [blk_eq.2 hdb]; rfl, densD_mono (hx 0) _ _ hp.base.defers, rfl⟩
          · exact itemsOf_cons.2 ⟨_, _, by simp only [itemOf]; rw [blk_eq.2 hlb]; rfl, itemsOf_mono (hx 0) h2, rfl⟩
      · cases hs
    · cases hs
  · rename_i k hk
    obtain ⟨hp, its, ht, hft⟩ := simple (k' := k) hk (fun _ _ _ _ e => by cases e)
    obtain ⟨i, t, h1, h2, rfl⟩ := itemsOf_cons.1 ht
    simp [itemOf] at h1; subst h1
    split at hs
    · rename_i b hr
      have hrr := hp.base.rnd
      rw [hr] at hrr
      obtain ⟨r, kk, hE, hro⟩ := hrr
      split at hs
      · rename_i pend fn tmps params assign body d hlo
        simp only [Option.some.injEq] at hs; subst hs
        have hbo := loopAt_eq hlo
        obtain ⟨l, rd, kd, g1, g2, g3⟩ := loop_of h.mem hbo hE
        have hW' := h.mem.upd (o' := .loop .busy pend fn tmps params assign body d) hbo hE rfl (ob := .loop { state := .busy, pending := pend, fn := fn, tmps := l.toArray, params := params, assign := assign, body := body, defers := rd }) ⟨l, rd, kd, g1, blk_eq.2 g2, rfl⟩
        have hrun : (Instr.beginRound r).run P w = .ok () { w with heap := w.heap.setIfInBounds r (.loop { state := .busy, pending := pend, fn := fn, tmps := l.toArray, params := params, assign := assign, body := body, defers := rd }) } := by
          simp only [Instr.beginRound, Sem.run_bind, getLoop_run g3, Result.andThen_ok, setLoop_run _ g3, Sem.run_pure]
        refine ⟨E, { fr with todo := t }, rcs, _, ⟨hW', .inl ⟨⟨hp.base.fn, hp.base.kind, hp.base.defers, hp.base.mode, hp.base.rnd⟩, hp.tmps, h2⟩, h.stk, ?_⟩, .one (st_beginRound hmr hft hro hrun)⟩
        intro ops done lag k' e
        simp only at e
        subst e
        obtain ⟨i, t', q1, _⟩ := itemsOf_cons.1 h2
        simp [itemOf] at q1
      · cases hs
    · cases hs
  · rename_i b k hk
    obtain ⟨hp, its, ht, hft⟩ := simple (k' := k) hk (fun _ _ _ _ e => by cases e)
    obtain ⟨i, t, h1, h2, rfl⟩ := itemsOf_cons.1 ht
    simp only [itemOf] at h1
    cases hb : blk E b with
    | none => rw [hb] at h1; cases h1
    | some p =>
      obtain ⟨r, kk⟩ := p
      rw [hb] at h1
      simp at h1; subst h1
      have hE := blk_eq.1 hb
      split at hs
      · cases hs
      · rename_i st pend fn tmps params assign body d hnb hlo
        simp only [Option.some.injEq] at hs; subst hs
        have hbo := loopAt_eq hlo
        obtain ⟨l, rd, kd, g1, g2, g3⟩ := loop_of h.mem hbo hE
        have hst : (st == LoopState.busy) = false := by
          cases st <;> first | rfl | exact (hnb _ rfl).elim | exact (hnb rfl).elim
        have hW' := h.mem.upd (o' := .loop .exhausted pend fn tmps params assign body d) hbo hE rfl (ob := .loop { state := .exhausted, pending := pend, fn := fn, tmps := l.toArray, params := params, assign := assign, body := body, defers := rd }) ⟨l, rd, kd, g1, blk_eq.2 g2, rfl⟩
        have hrun : (Instr.endLoop r).run P w = .ok pend { w with heap := w.heap.setIfInBounds r (.loop { state := .exhausted, pending := pend, fn := fn, tmps := l.toArray, params := params, assign := assign, body := body, defers := rd }) } := by
          simp only [Instr.endLoop, Sem.run_bind, getLoop_run g3, Result.andThen_ok, hst, Bool.false_eq_true, if_false, setLoop_run _ g3, Sem.run_pure]
        have h3 : itemsOf E ((pend.map SI.code).toList ++ k) = some ((pend.map Item.code).toList ++ t) := by
          cases pend with
          | none => simpa using h2
          | some c => exact itemsOf_cons.2 ⟨_, _, rfl, h2, rfl⟩
        refine ⟨E, { fr with todo := (pend.map Item.code).toList ++ t }, rcs, _, ⟨hW', .inl ⟨⟨hp.base.fn, hp.base.kind, hp.base.defers, hp.base.mode, hp.base.rnd⟩, hp.tmps, h3⟩, h.stk, ?_⟩, .one (st_endRF hmr hft hrun)⟩
        intro ops done lag k' e
        simp only at e
        rw [e] at h3
        obtain ⟨i, t', q1, _⟩ := itemsOf_cons.1 h3
        simp [itemOf] at q1
      · cases hs
  · rename_i id ops draw k hk
    obtain ⟨hp, its, ht, hft⟩ := simple (k' := k) hk (fun _ _ _ _ e => by cases e)
    obtain ⟨t, rfl, h2⟩ := inv_code ht
    split at hs
    · rename_i hd
      subst hd
      split at hs
      · rename_i hc
        simp only [Bool.and_eq_true] at hc
        simp only [toF, Option.some.injEq] at hs; subst hs
        exact draw_begins h hp hm hk hc.1 hc.2
      · cases hs
    · rename_i hd
      have hd' : draw = false := by simpa using hd
      subst hd'
      simp only [toF, Option.some.injEq] at hs; subst hs
      exact toF_goes h hp (itemsOf_cons.2 ⟨_, _, rfl, h2, rfl⟩) fun cs => st_region cs hmr hft
  · rename_i ops k hk
    obtain ⟨hp, its, ht, hft⟩ := simple (k' := k) hk (fun _ _ _ _ e => by cases e)
    obtain ⟨i, t, h1, h2, rfl⟩ := itemsOf_cons.1 ht
    simp [itemOf] at h1; subst h1
    simp only [toF, Option.some.injEq] at hs; subst hs
    exact toF_goes h hp h2 fun cs => st_regionEnd cs hmr hft
  · rename_i ops i rest k hk
    obtain ⟨hp, its, ht, hft⟩ := simple (k' := k) hk (fun _ _ _ _ e => by cases e)
    obtain ⟨it, t, h1, h2, rfl⟩ := itemsOf_cons.1 ht
    simp [itemOf] at h1; subst h1
    have hwait : Wait ν E s.cs.length s.fr fr := .inl ⟨hp, not_drawn hk (fun _ _ _ _ e => by cases e)⟩
    have hyield : ∀ g, yieldedS ops s.fr.tmps g = yielded ops fr.tmps g := fun g => yielded_same (E := E) (ν := ν) fun t _ => by
      cases hx : s.fr.tmps[t]? with
      | some x =>
        obtain ⟨v, q1, q2⟩ := dens_get hp.tmps hx
        exact .inl ⟨x, v, rfl, by simpa using q1, q2⟩
      | none =>
        refine .inr ⟨rfl, Array.getElem?_eq_none ?_⟩
        have q1 := List.getElem?_eq_none_iff.1 hx
        have q2 := dens_len hp.tmps
        simp at q2; omega
    have hwanted : ∀ o, Region.wanted o (yieldedS ops s.fr.tmps) = Region.wanted o (yielded ops fr.tmps) := fun o => by
      unfold Region.wanted
      cases o.guard with
      | none => rfl
      | some gw => simp only [hyield]
    unfold regS at hs
    split at hs
    · rename_i o ho
      split at hs
      · rename_i hw
        split at hs
        · rename_i r hr
          exact oper_goes hK hG h.mem hwait h.stk hm hft ho (by rw [← hwanted]; exact hw) (fun x _ s hs => ev_eval hp.tmps hs) hr hs
        · cases hs
      · rename_i hw
        cases hf : finishS P G s.H s.fr undefS with
        | none => rw [hf] at hs; cases hs
        | some f' =>
          rw [hf] at hs
          simp only [Option.map_some, Option.some.injEq] at hs; subst hs
          obtain ⟨q1, q2⟩ := finish_wait (u := undef) hwait (by simp [undefS, undef, den, dens]) hf
          exact ⟨E, _, rcs, w, ⟨h.mem, q1, h.stk, q2⟩, .one (st_skipOp (rcs ++ cs0) (by simp only [ho, Option.map_some, Option.getD_some]; rw [← hwanted]; simpa using hw) hmr hft)⟩
    · cases hs
  · rename_i ops done lag k hk
    rcases h.top with hp | ⟨ops', done', lag', pend', k', hd⟩
    · have ht := hp.todo
      rw [hk] at ht
      obtain ⟨it, t, h1, _⟩ := itemsOf_cons.1 ht
      simp [itemOf] at h1
    · have e := hd.head
      rw [hk] at e
      simp only [List.cons.injEq, SI.inDraw.injEq] at e
      obtain ⟨⟨rfl, rfl, rfl, rfl⟩, rfl⟩ := e
      exact draw_goes hK hG h hm hd hs
  · cases hs
end Go.Ev

/- EvV: A machine that runs a call whose values are known: what it gives is what the call gives. -/
namespace Go.Ev
open Go.RowKit

variable {P : Program} {ν : Nat → Value} {G : Nat → List SV} {w0 : World} {cs0 : List Frame} {K : Hooks}

theorem take_run {w : World} {r : Nat} {l : List Deferred} (h : w.heap[r]? = some (.deferred (some l))) : (Instr.takeDeferred r).run P w = .ok l { w with heap := w.heap.setIfInBounds r (.deferred none) } := by
  simp [Instr.takeDeferred, getObj, setObj, Sem.run, h]

theorem raise_rel {E : Env} {d : Nat} {f : SF} {fr : Frame} {l : List (SV × Bool)} {c : List PanicEntry} (h : FRel ν E d f fr) (hl : chainOf ν E l = some c) : FRel ν E d (raiseS f l) (fr.raise c) := by
  have hm := h.base.mode
  unfold raiseS Frame.raise
  cases hf : f.mode with
  | run => rw [hf] at hm; rw [hm]; exact h.remode ⟨c, hl, rfl⟩
  | ret => rw [hf] at hm; rw [hm]; exact h.remode ⟨c, hl, rfl⟩
  | pan o =>
    rw [hf] at hm
    obtain ⟨c', h1, h2⟩ := hm
    rw [h2]
    refine h.remode ⟨c ++ c', ?_, rfl⟩
    clear h2 hf h
    induction l generalizing c with
    | nil => simp [chainOf] at hl; subst hl; simpa using h1
    | cons x l ih =>
      obtain ⟨v, b⟩ := x
      rw [chainOf] at hl
      cases hv : den ν E v with
      | none => rw [hv] at hl; cases hl
      | some v' => cases hr : chainOf ν E l with
        | none => rw [hv, hr] at hl; cases hl
        | some r' =>
          rw [hv, hr] at hl
          simp at hl; subst hl
          rw [List.cons_append, chainOf, hv, ih hr]
          rfl
theorem raise_todo {f : SF} {l : List (SV × Bool)} : (raiseS f l).todo = f.todo := by
  unfold raiseS; split <;> rfl

theorem unwind_goes {E : Env} {s s' : St} {fr : Frame} {rcs : List Frame} {w : World} (hG : GOk ν G w0) (h : MRel P ν G w0 E s fr rcs w) (hm : s.fr.mode ≠ .run) (hs : unwindS P G s = some s') :
    Goes P ν G w0 cs0 (lone fr (rcs ++ cs0) w) s' := by
  have hb := h.top.base
  have hmr := mode_ne hb hm
  unfold unwindS at hs
  split at hs
  · rename_i b ds hd
    have hdd := hb.defers
    rw [hd] at hdd
    obtain ⟨v, t, h1, h2, h3⟩ := densD_cons.1 hdd
    simp only [denD] at h1
    cases hbl : blk E b with
    | none => rw [hbl] at h1; cases h1
    | some p =>
      obtain ⟨r, k⟩ := p
      rw [hbl] at h1
      simp at h1; subst h1
      have hE := blk_eq.1 hbl
      split at hs
      · rename_i l hl
        split at hs
        · cases hs
        rename_i hw
        simp only [Option.some.injEq] at hs; subst hs
        obtain ⟨_, _, hob⟩ := h.mem.obj b _ r k hl hE
        obtain ⟨ob, g1, l', g2, rfl⟩ := hob rfl
        have hW' := h.mem.upd (o' := .defd none) hl hE rfl (ob := .deferred none) rfl
        refine ⟨E, { fr with defers := l' ++ t }, rcs, _, ⟨hW', ?_, h.stk, ?_⟩, .one (step_lone_go ?_)⟩
        · rcases h.top with hp | ⟨ops, done, lag, pend, k', hp⟩
          · exact .inl ⟨⟨hb.fn, hb.kind, densD_append g2 h2, hb.mode, hb.rnd⟩, hp.tmps, hp.todo⟩
          · exact .inr ⟨ops, done, lag, pend, k', ⟨hb.fn, hb.kind, densD_append g2 h2, hb.mode, hb.rnd⟩, hp.head, hp.body⟩
        · exact fun ops done lag k e => absurd e (waits_no hw ops done lag k)
        · rw [st_unwind hmr]
          unfold unwind
          simp only [h3, Sem.runT_eq, take_run g1, GStep.bare_after]
          rfl
      · cases hs
  · rename_i f caps args ds hd
    have hdd := hb.defers
    rw [hd] at hdd
    obtain ⟨v, t, h1, h2, h3⟩ := densD_cons.1 hdd
    simp only [denD] at h1
    cases hc : dens ν E caps with
    | none => rw [hc] at h1; cases h1
    | some c => cases ha : dens ν E args with
      | none => rw [hc, ha] at h1; cases h1
      | some a =>
        rw [hc, ha] at h1
        simp at h1; subst h1
        split at hs
        · rename_i hbd
          cases hn : enterS P f (args ++ caps) .deferred with
          | none => rw [hn] at hs; cases hs
          | some n =>
            rw [hn] at hs
            simp only [Option.map_some, Option.some.injEq] at hs; subst hs
            obtain ⟨n1, _, n3⟩ := enter_plain (vs := (a ++ c).toArray) hn (by rw [List.toList_toArray]; exact dens_append ha hc)
            refine ⟨E, _, { fr with defers := t } :: rcs, w, ⟨h.mem, .inl n1, Stack.cons ?_ h.stk, fun ops done lag k e => absurd e (n3 _ _ _ _ _)⟩, .one (step_lone_go ?_)⟩
            · rcases h.top with hp | ⟨ops, done, lag, pend, k', hp⟩
              · exact .inl ⟨⟨hb.fn, hb.kind, h2, hb.mode, hb.rnd⟩, hp.tmps, hp.todo⟩
              · exact .inr ⟨ops, done, lag, pend, k', ⟨hb.fn, hb.kind, h2, hb.mode, hb.rnd⟩, hp.head, hp.body⟩
            · rw [st_unwind hmr]
              unfold unwind
              have hi : (invoke (.fn (.func f) c.toArray) a.toArray).run P w = .ok (.enter f (a ++ c).toArray) w := by
                simp only [invoke]
                rw [bodied_run hbd]
                simp
              simp only [h3, callDeferred, Bool.false_and, Bool.false_eq_true, if_false, Sem.runT_eq, hi, GStep.bare_after]
              rfl
        · cases hs
  · rename_i hd
    have hdd := hb.defers
    rw [hd] at hdd
    simp [densD] at hdd
    split at hs
    · cases hs
    · rename_i l hml
      split at hs
      · rename_i c rest hcs
        split at hs
        · cases hs
        · rename_i hw
          simp only [Option.some.injEq] at hs; subst hs
          have hmm := hb.mode
          rw [hml] at hmm
          obtain ⟨ch, hch, hcm⟩ := hmm
          have hst := h.stk
          rw [hcs] at hst
          obtain ⟨cfr, rrest, rfl, hc, hrs⟩ := hst
          refine ⟨E, cfr.raise ch, rrest, w, ⟨h.mem, raise_rel hc hch, hrs, fun ops done lag k e => absurd (raise_todo ▸ e) (waits_no hw ops done lag k)⟩, .one (step_lone_go ?_)⟩
          rw [st_unwind hmr]
          unfold unwind
          simp only [hdd, hcm, todo_call h.top, Bool.false_eq_true, if_false, List.cons_append]
          rfl
      · cases hs
    · rename_i hml
      split at hs
      · cases hs
      · rename_i hdr
        split at hs
        · rename_i v hv
          have hp := h.top.plain (fun ops done lag pend k e => by rw [e] at hdr; exact hdr rfl)
          obtain ⟨f, u, g1, g2, g3⟩ := resS_run (P := P) h.mem hG hp.tmps hv
          obtain ⟨fr', rcs', q1, q2⟩ := return_goes (cs0 := cs0) h.mem hb h.stk g3 hs
          refine ⟨E, fr', rcs', w, q2, .one (step_lone_go ?_)⟩
          have hmm := hb.mode
          rw [hml] at hmm
          have hfn : P.funcs[fr.fn]? = some f := by rw [hb.fn]; exact g1
          rw [st_unwind hmr]
          unfold unwind
          simp only [hdd]
          rw [show fr.mode = .returning from hmm]
          simp only [hfn, Sem.runT_eq, g2, GStep.bare_after, q1]
          rfl
        · cases hs

theorem step_goes {E : Env} {s s' : St} {fr : Frame} {rcs : List Frame} {w : World} (hK : HookOk P ν w0 K) (hG : GOk ν G w0) (h : MRel P ν G w0 E s fr rcs w) (hs : stepS P G K s = some s') :
    Goes P ν G w0 cs0 (lone fr (rcs ++ cs0) w) s' := by
  unfold stepS at hs
  split at hs
  · rename_i hm
    exact run_goes hK hG h hm hs
  · rename_i hm
    exact unwind_goes hG h hm hs

theorem over_run {E : Env} {s : St} {fr : Frame} {rcs : List Frame} {w : World} {v : SV} (hG : GOk ν G w0) (h : MRel P ν G w0 E s fr rcs w) (ho : overS P G s = some v) :
    rcs = [] ∧ ∃ u, fr.leaving P w (.returned u) ∧ den ν E v = some u := by
  unfold overS at ho
  split at ho
  · rename_i h1 h2 h3 h4 h5
    split at ho
    · cases ho
    · rename_i hdr
      have hb := h.top.base
      have hp := h.top.plain (fun ops done lag pend k e => by rw [e] at hdr; exact hdr rfl)
      obtain ⟨f, u, g1, g2, g3⟩ := resS_run (P := P) h.mem hG hp.tmps ho
      have hst := h.stk
      rw [h1] at hst
      have hmm := hb.mode
      rw [h2] at hmm
      have hdd := hb.defers
      rw [h3] at hdd
      simp [densD] at hdd
      exact ⟨hst, u, ⟨hmm, hdd, by rw [hb.kind]; exact h4, f, by rw [hb.fn]; exact g1, g2⟩, g3⟩
  · cases ho

theorem go_run {f : FuncId} {v : SV} {H' : List SO} (hK : HookOk P ν w0 K) (hG : GOk ν G w0) : ∀ {n : Nat} {E : Env} {s : St} {fr : Frame} {rcs : List Frame} {w : World}, MRel P ν G w0 E s fr rcs w → goS P G K f n s = some (v, H') →
    ∃ E' fr' w' u, Steps P (lone fr (rcs ++ cs0) w) (lone fr' cs0 w') ∧ fr'.fn = f ∧ fr'.leaving P w' (.returned u) ∧ den ν E' v = some u ∧ WRel P ν w0 E' H' w'
  | 0, _, _, _, _, _, _, h => by simp [goS] at h
  | n + 1, E, s, fr, rcs, w, hr, h => by
    rw [goS] at h
    split at h
    · rename_i v' ho
      split at h
      · rename_i hf
        simp only [Option.some.injEq, Prod.mk.injEq] at h
        obtain ⟨rfl, rfl⟩ := h
        obtain ⟨rfl, u, g1, g2⟩ := over_run hG hr ho
        exact ⟨E, fr, w, u, .refl _ _, by rw [hr.top.base.fn]; exact hf, g1, g2, hr.mem⟩
      · cases h
    · split at h
      · rename_i s' hs
        obtain ⟨E1, fr1, rcs1, w1, h1, h2⟩ := step_goes (cs0 := cs0) hK hG hr hs
        obtain ⟨E', fr', w', u, h3, h4, h5, h6, h7⟩ := go_run hK hG h1 h
        exact ⟨E', fr', w', u, h2.trans h3, h4, h5, h6, h7⟩
      · cases h

/-- What the machine gives is what the call gives. -/
theorem call_run {n : Nat} {f : FuncId} {args : List SV} {vs : Array Value} {v : SV} {H' : List SO} {w : World} (hK : HookOk P ν w K) (hG : GOk ν G w) (ha : dens ν [] args = some vs.toList) (h : callAt P G K n f args [] = some (v, H')) :
    Calls P f vs w fun e w' => ∃ E' u, e = .returned u ∧ den ν E' v = some u ∧ WRel P ν w E' H' w' := by
  intro cs
  unfold callAt at h
  split at h
  · rename_i fr he
    obtain ⟨n1, _, n3⟩ := enter_plain he ha
    have h0 : MRel P ν G w [] ⟨fr, [], []⟩ (Frame.enter P f vs .normal) [] w :=
      ⟨⟨.refl _ _, rfl, fun b o r k e => by simp at e, fun b b' r k k' o o' _ e => by simp at e⟩, .inl n1, rfl, fun ops done lag k e => absurd e (n3 _ _ _ _ _)⟩
    obtain ⟨E', fr', w', u, h3, h4, h5, h6, h7⟩ := go_run (cs0 := cs) hK hG h0 h
    exact ⟨.returned u, w', fr', ⟨E', u, rfl, h6, h7⟩, h3, h4, h5⟩
  · cases h
end Go.Ev
