/- Play by counts that never go round. -/
import Derived.Test.YtgcohmlapgnbdaaUK
namespace Go.Proofs.Ytgcohmlapgnbdaa
open Go.RowKit Go.Shelf Go.Deep

/-- How many were written and read, the views of these, the claim, the taking, how many of each are done. -/
structure Cn where
  W : Nat
  R : Nat
  S : Nat
  L : Nat
  c : Nat
  t : Nat
  ch : Bool
  th : Bool
  put : Nat
  got : Nat
def Cn.zero : Cn := ⟨0, 0, 0, 0, 0, 0, false, false, 0, 0⟩
structure Cn.Ok (len sz : Nat) (c : Cn) : Prop where
  sr : c.S ≤ c.R
  rl : c.R ≤ c.L
  lw : c.L ≤ c.W
  ws : c.W + c.c ≤ c.S + sz
  wl : c.W + c.c ≤ len
  pc : c.put ≤ c.c
  rt : c.R + c.t ≤ c.L
  gt : c.got ≤ c.t
  c0 : c.ch = false → c.c = 0
  t0 : c.th = false → c.t = 0
def stepC (len sz : Nat) (c : Cn) (p : Pass) : Cn :=
  if p.who = 0 then
    if p.kind = 0 then { c with S := c.R }
    else if p.kind = 1 then (if c.ch = true then c else { c with ch := true, c := (min (min p.n ((len - c.W : Nat) : Int)) ((sz - (c.W - c.S) : Nat) : Int)).toNat })
    else if p.kind = 2 then (if c.put < c.c then { c with put := c.put + 1 } else c)
    else (if c.ch = true then { c with W := c.W + c.put, ch := false, c := 0, put := 0 } else c)
  else
    if p.kind = 0 then { c with L := c.W }
    else if p.kind = 1 then (if c.th = true then c else { c with th := true, t := (min p.n ((c.L - c.R : Nat) : Int)).toNat })
    else if p.kind = 2 then (if c.got < c.t then { c with got := c.got + 1 } else c)
    else (if c.th = true then { c with R := c.R + c.got, th := false, t := 0, got := 0 } else c)
theorem okC_zero (len sz : Nat) : Cn.zero.Ok len sz := by constructor <;> simp [Cn.zero]
theorem okC_step {len sz : Nat} {c : Cn} (h : c.Ok len sz) (p : Pass) : (stepC len sz c p).Ok len sz := by
  obtain ⟨h1, h2, h3, h4, h5, h6, h7, h8, h9, h10⟩ := h
  obtain ⟨W, R, S, L, cc, t, ch, th, put, got⟩ := c
  dsimp only at *
  unfold stepC
  dsimp only
  split
  · split
    · exact ⟨by dsimp only; omega, by dsimp only; omega, by dsimp only; omega, by dsimp only; omega, h5, h6, h7, h8, h9, h10⟩
    · split
      · split
        · exact ⟨h1, h2, h3, h4, h5, h6, h7, h8, h9, h10⟩
        · rename_i hc
          have := h9 (by simpa using hc)
          exact ⟨h1, h2, h3, by dsimp only; omega, by dsimp only; omega, by dsimp only; omega, h7, h8, fun h => (by cases h), h10⟩
      · split
        · split
          · exact ⟨h1, h2, h3, h4, h5, by dsimp only; omega, h7, h8, h9, h10⟩
          · exact ⟨h1, h2, h3, h4, h5, h6, h7, h8, h9, h10⟩
        · split
          · exact ⟨h1, h2, by dsimp only; omega, by dsimp only; omega, by dsimp only; omega, by dsimp only; omega, h7, h8, fun _ => rfl, h10⟩
          · exact ⟨h1, h2, h3, h4, h5, h6, h7, h8, h9, h10⟩
  · split
    · exact ⟨h1, by dsimp only; omega, by dsimp only; omega, h4, h5, h6, by dsimp only; omega, h8, h9, h10⟩
    · split
      · split
        · exact ⟨h1, h2, h3, h4, h5, h6, h7, h8, h9, h10⟩
        · rename_i hc
          have := h10 (by simpa using hc)
          exact ⟨h1, h2, h3, h4, h5, h6, by dsimp only; omega, by dsimp only; omega, h9, fun h => (by cases h)⟩
      · split
        · split
          · exact ⟨h1, h2, h3, h4, h5, h6, h7, by dsimp only; omega, h9, h10⟩
          · exact ⟨h1, h2, h3, h4, h5, h6, h7, h8, h9, h10⟩
        · split
          · exact ⟨by dsimp only; omega, by dsimp only; omega, h3, h4, h5, h6, by dsimp only; omega, by dsimp only; omega, h9, fun _ => rfl⟩
          · exact ⟨h1, h2, h3, h4, h5, h6, h7, h8, h9, h10⟩

/-- Play's state and the counts. -/
structure Rel (l : List (List Int)) (sz ch : Nat) (fi : Int) (s : Pl) (c : Cn) : Prop where
  ok : s.g.Ok
  esz : s.g.sz = sz
  ech : s.g.ch = ch
  ml : s.g.m.length = sz
  wc : s.g.wc = (fi + c.W) % 65536
  wv : s.g.wv = (fi + c.S) % 65536
  rc : s.g.rc = (fi + c.R) % 65536
  rv : s.g.rv = (fi + c.L) % 65536
  wh : s.g.wh = c.ch
  wn : s.g.wn = c.c
  rh : s.g.rh = c.th
  rn : s.g.rn = c.t
  d : s.d = c.W
  put : s.put = c.put
  got : s.got = (l.drop c.R).take c.got
  out : s.out = l.take c.R
  cells : ∀ k, c.R ≤ k → k < c.W + c.put → s.g.m.getD ((fi.toNat + k) % sz) [] = l.getD k []
variable {l : List (List Int)} {sz ch : Nat} {fi : Int} {s : Pl} {c : Cn}
theorem rel_see (h : Rel l sz ch fi s c) : Rel l sz ch fi { s with g := s.g.seen } { c with S := c.R } :=
  ⟨⟨h.ok.s1, h.ok.s2, h.ok.c1, h.ok.c2, h.ok.wc, h.ok.rc, h.ok.vals⟩, h.esz, h.ech, h.ml, h.wc, h.rc, h.rc, h.rv, h.wh, h.wn, h.rh, h.rn, h.d, h.put, h.got, h.out, h.cells⟩
theorem rel_look (h : Rel l sz ch fi s c) : Rel l sz ch fi { s with g := s.g.looked } { c with L := c.W } :=
  ⟨⟨h.ok.s1, h.ok.s2, h.ok.c1, h.ok.c2, h.ok.wc, h.ok.rc, h.ok.vals⟩, h.esz, h.ech, h.ml, h.wc, h.wv, h.rc, h.wc, h.wh, h.wn, h.rh, h.rn, h.d, h.put, h.got, h.out, h.cells⟩
theorem rel_claim (h : Rel l sz ch fi s c) (ho : c.Ok l.length sz) {n : Int} (hn : 0 ≤ n) : Rel l sz ch fi { s with g := claimR s.g (min n ((l.length - s.d : Nat) : Int)) } (if c.ch = true then c else { c with ch := true, c := (min (min n ((l.length - c.W : Nat) : Int)) ((sz - (c.W - c.S) : Nat) : Int)).toNat }) := by
  have hs := h.ok.s2
  have hm : ¬ min n ((l.length - s.d : Nat) : Int) < 0 := by omega
  cases hc : c.ch with
  | true =>
    rw [if_pos rfl, show claimR s.g (min n ((l.length - s.d : Nat) : Int)) = s.g by unfold claimR claimK; rw [if_neg hm, h.wh, hc]; simp]
    exact h
  | false =>
    rw [if_neg (by decide), show claimR s.g (min n ((l.length - s.d : Nat) : Int)) = s.g.claim (min n ((l.length - s.d : Nat) : Int)) by unfold claimR claimK; rw [if_neg hm, h.wh, hc]; simp]
    refine ⟨⟨h.ok.s1, h.ok.s2, h.ok.c1, h.ok.c2, h.ok.wc, h.ok.rc, h.ok.vals⟩, h.esz, h.ech, h.ml, h.wc, h.wv, h.rc, h.rv, rfl, ?_, h.rh, h.rn, h.d, h.put, h.got, h.out, h.cells⟩
    show min (min n ((l.length - s.d : Nat) : Int)) s.g.room = _
    unfold Rg.room aheadI
    rw [h.wc, h.wv, h.esz, h.d]
    have h1 := ho.sr; have h2 := ho.rl; have h3 := ho.lw; have h4 := ho.ws; have h5 := h.esz
    dsimp only
    omega
theorem rel_take (h : Rel l sz ch fi s c) (ho : c.Ok l.length sz) {n : Int} (hn : 0 ≤ n) : Rel l sz ch fi { s with g := takeR s.g n } (if c.th = true then c else { c with th := true, t := (min n ((c.L - c.R : Nat) : Int)).toNat }) := by
  have hs := h.ok.s2
  have hm : ¬ n < 0 := by omega
  cases hc : c.th with
  | true =>
    rw [if_pos rfl, show takeR s.g n = s.g by unfold takeR takeK; rw [if_neg hm, h.rh, hc]; simp]
    exact h
  | false =>
    rw [if_neg (by decide), show takeR s.g n = s.g.take n by unfold takeR takeK; rw [if_neg hm, h.rh, hc]; simp]
    refine ⟨⟨h.ok.s1, h.ok.s2, h.ok.c1, h.ok.c2, h.ok.wc, h.ok.rc, h.ok.vals⟩, h.esz, h.ech, h.ml, h.wc, h.wv, h.rc, h.rv, h.wh, h.wn, rfl, ?_, h.d, h.put, h.got, h.out, h.cells⟩
    show min n s.g.filled = _
    unfold Rg.filled aheadI
    rw [h.rv, h.rc]
    have h1 := ho.sr; have h2 := ho.rl; have h3 := ho.lw; have h4 := ho.ws; have h5 := h.esz
    dsimp only
    omega
theorem mod_add_dvd {a b n m : Nat} (h : n ∣ m) : (a % m + b) % n = (a + b) % n := by
  rw [Nat.add_mod, Nat.mod_mod_of_dvd _ h, ← Nat.add_mod]
theorem plp_count (hz : sizB sz = true) (h : Rel l sz ch fi s c) (hf : 0 ≤ fi) {x : Int} {W : Nat} (hx : x = (fi + W) % 65536) (j : Nat) : plp s.g ((x + j) % 65536) = (fi.toNat + (W + j)) % sz := by
  have h0 : 0 ≤ x := by omega
  rw [plp_add (by rw [h.esz]; exact hz) h0, h.esz, show x.toNat = (fi.toNat + W) % 65536 by omega, mod_add_dvd (siz_dvd hz), Nat.add_assoc]
theorem mod_ne {a i j n : Nat} (hij : i < j) (hj : j < i + n) : (a + i) % n ≠ (a + j) % n := by
  intro h
  have h1 := Nat.sub_mod_eq_zero_of_mod_eq h.symm
  rw [show a + j - (a + i) = j - i by omega, Nat.mod_eq_of_lt (by omega)] at h1
  omega
theorem rel_put (h : Rel l sz ch fi s c) (ho : c.Ok l.length sz) (hz : sizB sz = true) (hf : 0 ≤ fi) (hl : frms ch l = true) : Rel l sz ch fi (putP l s) (if c.put < c.c then { c with put := c.put + 1 } else c) := by
  have h1 := ho.sr; have h2 := ho.rl; have h3 := ho.lw; have h4 := ho.ws; have h5 := ho.wl; have h6 := ho.pc
  unfold putP
  by_cases hp : c.put < c.c
  · have hch : c.ch = true := by
      cases e : c.ch with
      | true => rfl
      | false => have := ho.c0 e; omega
    rw [if_pos hp, if_pos (by rw [h.put, h.wn]; omega)]
    have hfr : frm s.g.ch (l.getD (s.d + s.put) []) = true := by rw [h.ech]; exact all_at' (d := []) hl (by rw [h.d, h.put]; omega)
    have hk : putK s.g s.put (l.getD (s.d + s.put) []) = 0 := by
      unfold putK atK
      rw [if_neg (by rw [hfr]; decide), if_neg (by omega), h.wh, hch, if_neg (by decide), if_pos (by rw [h.put, h.wn]; omega)]
    rw [show putR s.g s.put (l.getD (s.d + s.put) []) = s.g.put ((s.g.wc + s.put) % 65536) (l.getD (s.d + s.put) []) by unfold putR; rw [if_pos hk]]
    have hpl := plp_count hz h hf h.wc s.put
    have hlt : (fi.toNat + (c.W + s.put)) % sz < sz := Nat.mod_lt _ (by have := h.ok.s1; rw [h.esz] at this; omega)
    refine ⟨⟨h.ok.s1, h.ok.s2, h.ok.c1, h.ok.c2, h.ok.wc, h.ok.rc, fun p i => ?_⟩, h.esz, h.ech, by show (s.g.m.set _ _).length = sz; rw [List.length_set]; exact h.ml, h.wc, h.wv, h.rc, h.rv, h.wh, h.wn, h.rh, h.rn, h.d, by show s.put + 1 = c.put + 1; rw [h.put], h.got, h.out, fun k hk1 hk2 => ?_⟩
    · show I64 (((s.g.m.set _ _).getD p []).getD i 0)
      rw [List.getD_eq_getElem?_getD (l := s.g.m.set _ _), List.getElem?_set]
      split
      · split
        · exact sm_I64 (frms_vals hl (s.d + s.put) i)
        · simp; unfold I64; omega
      · rw [← List.getD_eq_getElem?_getD]; exact h.ok.vals p i
    · show (s.g.m.set (plp s.g ((s.g.wc + s.put) % 65536)) (l.getD (s.d + s.put) [])).getD ((fi.toNat + k) % sz) [] = l.getD k []
      rw [hpl, List.getD_eq_getElem?_getD, List.getElem?_set]
      have hk3 : k < c.W + (c.put + 1) := hk2
      have hk4 : c.R ≤ k := hk1
      have hpu := h.put
      by_cases e : k = c.W + s.put
      · rw [if_pos (by rw [e]), if_pos (by rw [h.ml]; exact hlt), h.d, e]; rfl
      · rw [if_neg (fun h2 => mod_ne (a := fi.toNat) (i := k) (j := c.W + s.put) (n := sz) (by rw [h.put] at e ⊢; omega) (by rw [h.put]; omega) h2.symm), ← List.getD_eq_getElem?_getD]
        exact h.cells k hk1 (by rw [h.put] at e; omega)
  · rw [if_neg hp, if_neg (by rw [h.put, h.wn]; omega)]
    exact h
theorem rel_commit (h : Rel l sz ch fi s c) (ho : c.Ok l.length sz) : Rel l sz ch fi (commitP s) (if c.ch = true then { c with W := c.W + c.put, ch := false, c := 0, put := 0 } else c) := by
  have h6 := ho.pc
  unfold commitP
  cases hc : c.ch with
  | true =>
    have hk : commitK s.g s.put = 0 := by
      unfold commitK endK
      rw [if_neg (by omega), h.wh, hc, if_neg (by decide), if_pos (by rw [h.put, h.wn]; omega)]
    rw [if_pos rfl, show commitR s.g s.put = s.g.commitd s.put by unfold commitR; rw [if_pos hk]]
    refine ⟨⟨h.ok.s1, h.ok.s2, h.ok.c1, h.ok.c2, ?_, h.ok.rc, h.ok.vals⟩, h.esz, h.ech, h.ml, ?_, h.wv, h.rc, h.rv, rfl, rfl, h.rh, h.rn, by show s.d + s.put = c.W + c.put; rw [h.d, h.put], rfl, h.got, h.out, h.cells⟩
    · show 0 ≤ (s.g.wc + s.put) % 65536 ∧ (s.g.wc + s.put) % 65536 ≤ 65535; omega
    · show (s.g.wc + s.put) % 65536 = (fi + ((c.W + c.put : Nat) : Int)) % 65536
      rw [h.wc, h.put]; omega
  | false =>
    have h0 := ho.c0 hc
    have hp : s.put = 0 := by rw [h.put]; omega
    have hk : ¬ commitK s.g s.put = 0 := by
      unfold commitK endK
      rw [if_neg (by omega), h.wh, hc, if_pos rfl]; decide
    rw [if_neg (by decide), show commitR s.g s.put = s.g by unfold commitR; rw [if_neg hk]]
    have : ({ s with g := s.g, d := s.d + s.put, put := 0 } : Pl) = s := by
      obtain ⟨g, d, put, got, out⟩ := s
      simp only at hp
      subst hp; rfl
    rw [this]; exact h
theorem got_len (h : Rel l sz ch fi s c) (ho : c.Ok l.length sz) : s.got.length = c.got := by
  have h1 := ho.sr; have h2 := ho.rl; have h3 := ho.lw; have h5 := ho.wl; have h7 := ho.rt; have h8 := ho.gt
  rw [h.got, List.length_take, List.length_drop]; omega
theorem rel_get (h : Rel l sz ch fi s c) (ho : c.Ok l.length sz) (hz : sizB sz = true) (hf : 0 ≤ fi) : Rel l sz ch fi (getP s) (if c.got < c.t then { c with got := c.got + 1 } else c) := by
  have h1 := ho.sr; have h2 := ho.rl; have h3 := ho.lw; have h4 := ho.ws; have h5 := ho.wl; have h7 := ho.rt; have h8 := ho.gt
  have hg := got_len h ho
  unfold getP
  by_cases hp : c.got < c.t
  · have hth : c.th = true := by
      cases e : c.th with
      | true => rfl
      | false => have := ho.t0 e; omega
    have hk : getK s.g s.got.length = 0 := by
      unfold getK atK
      rw [if_neg (by omega), h.rh, hth, if_neg (by decide), if_pos (by rw [hg, h.rn]; omega)]
    rw [if_pos hp, if_pos hk]
    have hfr : getL s.g s.got.length = l.getD (c.R + c.got) [] := by
      unfold getL
      rw [if_pos hk]
      unfold Rg.frame
      rw [plp_count hz h hf h.rc, hg]
      exact h.cells _ (by omega) (by omega)
    refine ⟨h.ok, h.esz, h.ech, h.ml, h.wc, h.wv, h.rc, h.rv, h.wh, h.wn, h.rh, h.rn, h.d, h.put, ?_, h.out, h.cells⟩
    show s.got ++ [getL s.g s.got.length] = (l.drop c.R).take (c.got + 1)
    rw [hfr, h.got, take_snocD (l.drop c.R) c.got [] (by rw [List.length_drop]; omega)]
    simp [List.getD]
  · have hk : ¬ getK s.g s.got.length = 0 := by
      unfold getK atK
      rw [if_neg (by omega)]
      split
      · decide
      · rw [if_neg (by rw [hg, h.rn]; omega)]; decide
    rw [if_neg hp, if_neg hk]
    exact h
theorem rel_done (h : Rel l sz ch fi s c) (ho : c.Ok l.length sz) : Rel l sz ch fi (doneP s) (if c.th = true then { c with R := c.R + c.got, th := false, t := 0, got := 0 } else c) := by
  have h8 := ho.gt
  have hg := got_len h ho
  unfold doneP
  cases hc : c.th with
  | true =>
    have hk : doneK s.g s.got.length = 0 := by
      unfold doneK endK
      rw [if_neg (by omega), h.rh, hc, if_neg (by decide), if_pos (by rw [hg, h.rn]; omega)]
    rw [if_pos rfl, show doneR s.g s.got.length = s.g.doned s.got.length by unfold doneR; rw [if_pos hk]]
    refine ⟨⟨h.ok.s1, h.ok.s2, h.ok.c1, h.ok.c2, h.ok.wc, ?_, h.ok.vals⟩, h.esz, h.ech, h.ml, h.wc, h.wv, ?_, h.rv, h.wh, h.wn, rfl, rfl, h.d, h.put, by simp, ?_, fun k hk1 hk2 => h.cells k (by have : c.R + c.got ≤ k := hk1; omega) hk2⟩
    · show 0 ≤ (s.g.rc + s.got.length) % 65536 ∧ (s.g.rc + s.got.length) % 65536 ≤ 65535; omega
    · show (s.g.rc + s.got.length) % 65536 = (fi + ((c.R + c.got : Nat) : Int)) % 65536
      rw [h.rc, hg]; omega
    · show s.out ++ s.got = l.take (c.R + c.got)
      rw [h.out, h.got, List.take_add]
  | false =>
    have h0 := ho.t0 hc
    have hge : s.got = [] := List.eq_nil_of_length_eq_zero (by omega)
    have hk : ¬ doneK s.g s.got.length = 0 := by
      unfold doneK endK
      rw [if_neg (by omega), h.rh, hc, if_pos rfl]; decide
    rw [if_neg (by decide), show doneR s.g s.got.length = s.g by unfold doneR; rw [if_neg hk]]
    have : ({ s with g := s.g, out := s.out ++ s.got, got := [] } : Pl) = s := by
      obtain ⟨g, d, put, got, out⟩ := s
      simp only at hge
      subst hge
      simp
    rw [this]; exact h
theorem rel_new (hn : newB sz ch fi = true) : Rel l sz ch fi ⟨newG sz ch fi, 0, 0, [], []⟩ Cn.zero := by
  have h3 : ctrB fi = true := by simp only [newB, Bool.and_eq_true] at hn; exact hn.2
  obtain ⟨b1, b2⟩ := ctrB_t h3
  have e : fi = (fi + ((0 : Nat) : Int)) % 65536 := by omega
  exact ⟨newG_ok hn, rfl, rfl, by show (List.replicate sz _).length = sz; rw [List.length_replicate], e, e, e, e, rfl, rfl, rfl, rfl, rfl, rfl, by simp [Cn.zero], by simp [Cn.zero], fun k _ hk => by simp [Cn.zero] at hk⟩
end Go.Proofs.Ytgcohmlapgnbdaa
