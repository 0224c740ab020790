/- Play of the program, by counts. -/
import Derived.Test.YtgcohmlapgnbdaaUL
namespace Go.Proofs.Ytgcohmlapgnbdaa
open Go.RowKit Go.Shelf Go.Deep

def runC (len sz : Nat) (ps : List Pass) : Nat → Cn
  | 0 => Cn.zero
  | j + 1 => stepC len sz (runC len sz ps j) (pAt ps j)
theorem runC_ok (len sz : Nat) (ps : List Pass) : ∀ j, (runC len sz ps j).Ok len sz
  | 0 => okC_zero _ _
  | j + 1 => okC_step (runC_ok len sz ps j) _
/-- What Play keeps. -/
def TurnsI (sz ch : Nat) (fi : Int) (l : List (List Int)) (ps : List Pass) (w0 : World) : PlI := fun P R P0 j x =>
  Below w0.heap.size w0 x ∧ ∃ B s, PlAt w0.heap.size B P R P0 l s x ∧ Rel l sz ch fi s (runC l.length sz ps j)
theorem turns_ok (sz ch : Nat) (fi : Int) (l : List (List Int)) (lv : Value) (ps : List Pass) (hn : newB sz ch fi = true) (hl : frms ch l = true) (hp : passesB ps = true) (h1 : l.length ≤ 2000) (w0 : World) (hM : MatIn w0 l lv) : PlayOk sz ch fi lv ps w0 (TurnsI sz ch fi l ps w0) where
  start P R P0 x hb h1 h2 hr hrow := by
    have hx := hrow.lt
    have hxr := hr.lt
    refine ⟨hb, x.heap.size, ⟨newG sz ch fi, 0, 0, [], []⟩, ⟨lv, nilS, nilS, [], [], ?_⟩, rel_new hn⟩
    exact { ring := hr, row := hrow, ne := h2, lt := ⟨⟨hxr.1, hxr.2, hx⟩, Nat.le_refl _⟩, lo := ⟨h1, hb.size⟩, mat := (show MatLow w0.heap.size x (l.drop 0) lv by rw [List.drop_zero]; exact hM.low.keep fun k hk => hb.block k hk), got := Rk.start _ _, out := Rk.start _ _, apart := fun g hg => by cases hg }
  step P R P0 j x hj h := by
    obtain ⟨hb, B, s, hat, hrel⟩ := h
    have hok := runC_ok l.length sz ps j
    obtain ⟨hz, hf⟩ : sizB sz = true ∧ 0 ≤ fi := by
      simp only [newB, Bool.and_eq_true] at hn
      exact ⟨hn.1.1, (ctrB_t hn.2).1⟩
    have hs := hrel.ok.s2
    have hgl := got_len hrel hok
    have ho1 := hok.sr; have ho2 := hok.rl; have ho3 := hok.lw; have ho4 := hok.ws; have ho5 := hok.wl; have ho6 := hok.pc; have ho7 := hok.rt; have ho8 := hok.gt
    have hol : s.out.length = (runC l.length sz ps j).R := by rw [hrel.out, List.length_take]; omega
    have fin : ∀ {s' : Pl} {e : Ending} {w' : World}, Turned w0.heap.size B P R P0 l s' x e w' → Rel l sz ch fi s' (runC l.length sz ps (j + 1)) → e = .returned (.tuple #[]) ∧ TurnsI sz ch fi l ps w0 P R P0 (j + 1) w' ∧ K115 x w' :=
      fun ht hr => ⟨ht.1, ⟨hb.trans ht.2.2.2, B, _, ht.2.1, hr⟩, ht.2.2.1⟩
    obtain ⟨⟨w1, w2⟩, ⟨k1, k2⟩, hnn⟩ := passB_t (all_at' (f := passB) (d := Pass.zero) hp hj)
    have hpa : ps.getD j Pass.zero = pAt ps j := rfl
    rw [hpa] at w1 w2 k1 k2 hnn
    have hrun : runC l.length sz ps (j + 1) = stepC l.length sz (runC l.length sz ps j) (pAt ps j) := rfl
    obtain ⟨p, hpp⟩ : ∃ p, pAt ps j = p := ⟨_, rfl⟩
    rw [hpp] at w1 w2 k1 k2 hnn hrun ⊢
    clear hpa hpp
    obtain ⟨who, kind, n⟩ := p
    dsimp only at w1 w2 k1 k2 hnn ⊢
    generalize runC l.length sz ps j = c at *
    have hw : who = 0 ∨ who = 1 := by omega
    have hk : kind = 0 ∨ kind = 1 ∨ kind = 2 ∨ kind = 3 := by omega
    rcases hw with rfl | rfl
    · rcases hk with rfl | rfl | rfl | rfl
      · exact (seeT n hat hs).mono fun e w' ht => fin ht (by rw [hrun]; exact rel_see hrel)
      · exact (claimT n hat hs (by rw [hrel.d]; omega)).mono fun e w' ht => fin ht (by rw [hrun]; exact rel_claim hrel hok (hnn rfl))
      · exact (putT n hat hrel.ok (by rw [hrel.d]; omega) (by rw [hrel.wn, hrel.d]; omega) h1).mono fun e w' ht => fin ht (by rw [hrun]; exact rel_put hrel hok hz hf hl)
      · exact (commitT n hat (by rw [hrel.put, hrel.d]; omega)).mono fun e w' ht => fin ht (by rw [hrun]; exact rel_commit hrel hok)
    · rcases hk with rfl | rfl | rfl | rfl
      · exact (lookT n hat).mono fun e w' ht => fin ht (by rw [hrun]; exact rel_look hrel)
      · exact (takeT n hat hs).mono fun e w' ht => fin ht (by rw [hrun]; exact rel_take hrel hok (hnn rfl))
      · exact (getT n hat hrel.ok (by omega)).mono fun e w' ht => fin ht (by rw [hrun]; exact rel_get hrel hok hz hf)
      · exact (doneT n hat (by omega)).mono fun e w' ht => fin ht (by rw [hrun]; exact rel_done hrel hok)
  keep P R P0 j x y h hy := by
    obtain ⟨hb, B, s, ⟨fv, gv, rv, gs, rs, hm⟩, hrel⟩ := h
    exact ⟨Below.then hb (Nat.le_refl _) hy, B, s, ⟨fv, gv, rv, gs, rs, hm.below hy⟩, hrel⟩
  below P R P0 j x h := h.1
theorem turns_end (sz ch : Nat) (fi : Int) (l : List (List Int)) (ps : List Pass) (n : Nat) (w0 : World) : PlayEnd (TurnsI sz ch fi l ps w0) n w0 where
  fin P R P0 x h := by
    obtain ⟨_, B, s, ⟨fv, gv, rv, gs, rs, hm⟩, hrel⟩ := h
    exact ⟨s.g, rv, hm.ring, hm.row.cell (i := 0) (by decide), hm.row.cell (i := 4) (by decide), hm.lo.1⟩
/-- What both Plays give. -/
def playR (l : List (List Int)) (sz : Nat) (ps : List Pass) : List (List Int) := l.take (runC l.length sz ps ps.length).R
def playN (l : List (List Int)) (sz : Nat) (ps : List Pass) : Nat := (runC l.length sz ps ps.length).W - (runC l.length sz ps ps.length).R
def PlayAns (l : List (List Int)) (sz : Nat) (ps : List Pass) (w : World) (e : Ending) (w' : World) : Prop := ∃ rv, e = .returned (.tuple #[rv, .int .i64 (playN l sz ps), .int .i64 0]) ∧ MatIn w' (playR l sz ps) rv ∧ Below w.heap.size w w'
theorem play_counts (sz ch : Nat) (fi : Int) (l : List (List Int)) (lv : Value) (ps : List Pass) (pv : Value) (w : World) (hM : MatIn w l lv) (hP : PassIn w ps pv) (hk : playK sz ch fi l ps = 0) :
    Calls Try.prog 26 #[.int .i64 sz, .int .i64 ch, .int .i64 fi, lv, pv] w (PlayAns l sz ps w) := by
  obtain ⟨hf, hn, hp, h1, h2⟩ : frms ch l = true ∧ newB sz ch fi = true ∧ passesB ps = true ∧ l.length ≤ 2000 ∧ ps.length ≤ 5000 := by
    have hk := hk
    unfold playK at hk
    split at hk
    · cases hk
    · split at hk
      · cases hk
      · split at hk
        · cases hk
        · split at hk
          · rename_i a b c d
            exact ⟨by simpa using a, by simpa using b, by simpa using c, d.1, d.2⟩
          · cases hk
  refine (play_yes sz ch fi l lv ps pv w (fun w0 => TurnsI sz ch fi l ps w0) (fun w0 h0 => turns_ok sz ch fi l lv ps hn hf hp h1 w0 (hM.mono (Same.of_below h0))) (fun w0 _ => turns_end sz ch fi l ps _ w0) hM hP hk).mono ?_
  rintro e w' ⟨w0, P, R, P0, x1, g, rv, rfl, h0, hi, hr, hc, hne, hb⟩
  obtain ⟨_, B, s, ⟨fv, gv, rv', gs, rs, hm⟩, hrel⟩ := hi
  have hok := runC_ok l.length sz ps ps.length
  have ho1 := hok.sr; have ho2 := hok.rl; have ho3 := hok.lw; have ho4 := hok.ws; have ho5 := hok.wl
  have hs := hrel.ok.s2
  rw [hrel.esz] at hs
  have hc' : x1.cell? ⟨P0, 4, none⟩ = some rv' := hm.row.cell (i := 4) (by decide)
  rw [hc] at hc'
  obtain rfl : rv = rv' := by simpa using hc'
  have hlen : s.out.length = (runC l.length sz ps ps.length).R := by rw [hrel.out, List.length_take]; omega
  have e1 : aheadI g.wc g.rc = playN l sz ps := by
    have h0 : x1.cell? ⟨P, 3, none⟩ = some (.int .u16 g.wc) := hr.c (k := 3) (by decide) (by decide)
    have h0' : x1.cell? ⟨P, 3, none⟩ = some (.int .u16 s.g.wc) := hm.ring.c (k := 3) (by decide) (by decide)
    have h7 : x1.cell? ⟨P, 7, none⟩ = some (.int .u16 g.rc) := hr.c (k := 7) (by decide) (by decide)
    have h7' : x1.cell? ⟨P, 7, none⟩ = some (.int .u16 s.g.rc) := hm.ring.c (k := 7) (by decide) (by decide)
    rw [h0] at h0'
    rw [h7] at h7'
    simp only [Option.some.injEq, Value.int.injEq, true_and] at h0' h7'
    rw [h0', h7', hrel.wc, hrel.rc]
    unfold aheadI playN
    omega
  refine ⟨rv, by rw [e1], ?_, hb⟩
  have hmat : MatNew B x1 s.out rv := hm.out.mat (by rw [hlen]; omega)
  rw [hrel.out] at hmat
  have h6 := h0.2
  exact hmat w' fun k hk1 hk2 => hne.2.2 k (by have := hm.lo.2; omega) hk2
end Go.Proofs.Ytgcohmlapgnbdaa
