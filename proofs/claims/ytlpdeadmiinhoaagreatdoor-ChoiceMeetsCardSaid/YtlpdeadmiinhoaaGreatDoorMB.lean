/- Choices as plain data: spans, lists, and what meets what. -/


/- MA: What two stepped ranges of numbers have in common. -/
namespace Go.Proofs.YtlpdeadmiinhoaaGreatDoor

theorem lcm_dvd_of (a b n : Int) (ha : a ∣ n) (hb : b ∣ n) : (Int.lcm a b : Int) ∣ n := by
  have h1 : a ∣ ((n.natAbs : Nat) : Int) := Int.dvd_natAbs.2 ha
  have h2 : b ∣ ((n.natAbs : Nat) : Int) := Int.dvd_natAbs.2 hb
  exact Int.dvd_natAbs.1 (Int.natCast_dvd_natCast.2 (Int.lcm_dvd h1 h2))

/-- Numbers from lo to hi in steps. -/
structure Sp where
  lo : Int
  hi : Int
  st : Int

def Sp.has (s : Sp) (n : Int) : Bool := decide (s.lo ≤ n) && decide (n ≤ s.hi) && decide ((n - s.lo) % s.st = 0)
def Sp.Ok (s : Sp) : Prop := 0 ≤ s.lo ∧ s.lo ≤ s.hi ∧ s.hi ≤ 1000000000 ∧ 1 ≤ s.st ∧ s.st ≤ 1000
theorem Sp.has_iff (s : Sp) (n : Int) : s.has n = true ↔ s.lo ≤ n ∧ n ≤ s.hi ∧ s.st ∣ n - s.lo := by
  unfold Sp.has
  simp only [Bool.and_eq_true, decide_eq_true_eq, and_assoc]
  constructor
  · rintro ⟨h1, h2, h3⟩; exact ⟨h1, h2, Int.dvd_of_emod_eq_zero h3⟩
  · rintro ⟨h1, h2, h3⟩; exact ⟨h1, h2, Int.emod_eq_zero_of_dvd h3⟩

def Both (a b : Sp) (n : Int) : Prop := a.has n = true ∧ b.has n = true
theorem Both.symm {a b : Sp} {n : Int} (h : Both a b n) : Both b a n := ⟨h.2, h.1⟩
def bothB (a b : Sp) (n : Int) : Bool := a.has n && b.has n
theorem bothB_iff (a b : Sp) (n : Int) : bothB a b n = true ↔ Both a b n := by unfold bothB Both; simp

/-- The least of a's from both leasts on. -/
def start (a b : Sp) : Int := a.lo + (max a.lo b.lo - a.lo + a.st - 1) / a.st * a.st
def cand (a b : Sp) (k : Nat) : Int := start a b + k * a.st
def firstC (a b : Sp) : Option Int := ((List.range b.st.toNat).find? fun k => bothB a b (cand a b k)).map (cand a b)

theorem start_spec (a b : Sp) (ha : a.Ok) : max a.lo b.lo ≤ start a b ∧ start a b < max a.lo b.lo + a.st ∧ a.st ∣ start a b - a.lo := by
  unfold Sp.Ok at ha
  unfold start
  obtain ⟨h1, h2, h3, h4, h5⟩ := ha
  have hd := Int.mul_ediv_add_emod (max a.lo b.lo - a.lo + a.st - 1) a.st
  have hm := Int.emod_nonneg (max a.lo b.lo - a.lo + a.st - 1) (show a.st ≠ 0 by omega)
  have hl := Int.emod_lt_of_pos (max a.lo b.lo - a.lo + a.st - 1) (show 0 < a.st by omega)
  have hc : (max a.lo b.lo - a.lo + a.st - 1) / a.st * a.st = a.st * ((max a.lo b.lo - a.lo + a.st - 1) / a.st) := Int.mul_comm _ _
  refine ⟨by omega, by omega, ?_⟩
  rw [hc]
  exact ⟨(max a.lo b.lo - a.lo + a.st - 1) / a.st, by omega⟩

/-- Whatever both have stands at a multiple behind the start; and its rest by the other's step is such a one too. -/
theorem reach (a b : Sp) (ha : a.Ok) (hb : b.Ok) (m : Int) (h : Both a b m) : ∃ j : Nat, j < b.st.toNat ∧ Both a b (cand a b j) ∧ cand a b j ≤ m := by
  obtain ⟨hs1, hs2, hs3⟩ := start_spec a b ha
  obtain ⟨hA, hB⟩ := h
  rw [Sp.has_iff] at hA hB
  obtain ⟨a1, a2, a3, a4, a5⟩ := ha
  obtain ⟨b1, b2, b3, b4, b5⟩ := hb
  obtain ⟨j, hj⟩ : a.st ∣ m - start a b := by
    have := Int.dvd_sub hA.2.2 hs3
    rwa [show m - a.lo - (start a b - a.lo) = m - start a b by omega] at this
  have hj0 : 0 ≤ j := by
    by_cases h0 : 0 ≤ j
    · exact h0
    · exfalso
      have : a.st * j ≤ a.st * (-1) := Int.mul_le_mul_of_nonneg_left (by omega) (by omega)
      omega
  have hr0 := Int.emod_nonneg j (show b.st ≠ 0 by omega)
  have hr1 := Int.emod_lt_of_pos j (show 0 < b.st by omega)
  have hq := Int.mul_ediv_add_emod j b.st
  have hq0 : 0 ≤ j / b.st := Int.ediv_nonneg hj0 (by omega)
  have hle : j % b.st ≤ j := by have := Int.mul_nonneg (show 0 ≤ b.st by omega) hq0; omega
  have hcand : cand a b (j % b.st).toNat = start a b + j % b.st * a.st := by
    unfold cand; rw [Int.toNat_of_nonneg hr0]
  have hmul : j % b.st * a.st ≤ a.st * j := by
    rw [Int.mul_comm]; exact Int.mul_le_mul_of_nonneg_left hle (by omega)
  have hnn : 0 ≤ j % b.st * a.st := Int.mul_nonneg hr0 (by omega)
  have hdiff : m - cand a b (j % b.st).toNat = a.st * (b.st * (j / b.st)) := by
    rw [hcand]
    have e1 : a.st * j = a.st * (b.st * (j / b.st)) + a.st * (j % b.st) := by rw [← Int.mul_add, hq]
    have e2 : j % b.st * a.st = a.st * (j % b.st) := Int.mul_comm _ _
    omega
  refine ⟨(j % b.st).toNat, by omega, ⟨?_, ?_⟩, by rw [hcand]; omega⟩
  · rw [Sp.has_iff]
    refine ⟨by rw [hcand]; omega, by rw [hcand]; omega, ?_⟩
    have : a.st ∣ m - cand a b (j % b.st).toNat := ⟨_, hdiff⟩
    have := Int.dvd_sub hA.2.2 this
    rwa [show m - a.lo - (m - cand a b (j % b.st).toNat) = cand a b (j % b.st).toNat - a.lo by omega] at this
  · rw [Sp.has_iff]
    refine ⟨by rw [hcand]; omega, by rw [hcand]; omega, ?_⟩
    have : b.st ∣ m - cand a b (j % b.st).toNat := ⟨a.st * (j / b.st), by rw [hdiff, Int.mul_left_comm]⟩
    have := Int.dvd_sub hB.2.2 this
    rwa [show m - b.lo - (m - cand a b (j % b.st).toNat) = cand a b (j % b.st).toNat - b.lo by omega] at this

theorem cand_mono (a b : Sp) (ha : a.Ok) {i j : Nat} (h : i ≤ j) : cand a b i ≤ cand a b j := by
  unfold cand
  have : (i : Int) * a.st ≤ (j : Int) * a.st := Int.mul_le_mul_of_nonneg_right (by omega) (by have := ha.2.2.2.1; omega)
  omega

theorem firstC_some {a b : Sp} (ha : a.Ok) (hb : b.Ok) {f : Int} (h : firstC a b = some f) : Both a b f ∧ ∀ m, Both a b m → f ≤ m := by
  unfold firstC at h
  rw [Option.map_eq_some_iff] at h
  obtain ⟨k, hk, rfl⟩ := h
  rw [List.find?_range_eq_some] at hk
  obtain ⟨h1, h2, h3⟩ := hk
  refine ⟨(bothB_iff _ _ _).1 h1, fun m hm => ?_⟩
  obtain ⟨j, hj, hB, hle⟩ := reach a b ha hb m hm
  have : k ≤ j := by
    by_cases h' : j < k
    · have := h3 j h'
      rw [(bothB_iff _ _ _).2 hB] at this
      simp at this
    · omega
  exact Int.le_trans (cand_mono a b ha this) hle

theorem firstC_none {a b : Sp} (ha : a.Ok) (hb : b.Ok) (h : firstC a b = none) (m : Int) : ¬ Both a b m := by
  intro hm
  obtain ⟨j, hj, hB, _⟩ := reach a b ha hb m hm
  unfold firstC at h
  rw [Option.map_eq_none_iff, List.find?_eq_none] at h
  exact h j (by simpa using hj) ((bothB_iff _ _ _).2 hB)

theorem firstC_eq {a b : Sp} (ha : a.Ok) (hb : b.Ok) {f : Int} (h1 : Both a b f) (h2 : ∀ m, Both a b m → f ≤ m) : firstC a b = some f := by
  cases h : firstC a b with
  | none => exact absurd h1 (firstC_none ha hb h f)
  | some g =>
    obtain ⟨g1, g2⟩ := firstC_some ha hb h
    have := g2 f h1
    have := h2 g g1
    rw [show g = f by omega]

theorem firstC_comm {a b : Sp} (ha : a.Ok) (hb : b.Ok) : firstC a b = firstC b a := by
  cases h : firstC a b with
  | none =>
    cases h' : firstC b a with
    | none => rfl
    | some g => exact absurd (firstC_some hb ha h').1.symm (firstC_none ha hb h g)
  | some f =>
    obtain ⟨h1, h2⟩ := firstC_some ha hb h
    exact (firstC_eq hb ha h1.symm fun m hm => h2 m hm.symm).symm

def lcmC (a b : Sp) : Int := (Int.lcm a.st b.st : Int)
def mostC (a b : Sp) : Int := min a.hi b.hi
/-- The greatest that both have. -/
def lastC (a b : Sp) (f : Int) : Int := mostC a b - (mostC a b - f) % lcmC a b
def outS (a b : Sp) (f : Int) : Sp := ⟨f, lastC a b f, lcmC a b⟩
theorem lcmC_comm (a b : Sp) : lcmC a b = lcmC b a := by unfold lcmC; rw [Int.lcm_comm]
theorem mostC_comm (a b : Sp) : mostC a b = mostC b a := by unfold mostC; omega
theorem lcmC_pos {a b : Sp} (ha : a.Ok) (hb : b.Ok) : 1 ≤ lcmC a b := by
  have h1 := ha.2.2.2.1
  have h2 := hb.2.2.2.1
  have := Int.lcm_pos (m := a.st) (n := b.st) (by omega) (by omega)
  unfold lcmC; omega
theorem lcmC_le {a b : Sp} (ha : a.Ok) (hb : b.Ok) : lcmC a b ≤ a.st * b.st := by
  have h1 := ha.2.2.2.1
  have h2 := hb.2.2.2.1
  have hd : lcmC a b ∣ a.st * b.st := lcm_dvd_of _ _ _ ⟨b.st, rfl⟩ ⟨a.st, Int.mul_comm _ _⟩
  exact Int.le_of_dvd (Int.mul_pos (by omega) (by omega)) hd
theorem lcmC_le' {a b : Sp} (ha : a.Ok) (hb : b.Ok) : lcmC a b ≤ 1000000 := by
  have h1 := lcmC_le ha hb
  have h2 : a.st * b.st ≤ 1000 * b.st := Int.mul_le_mul_of_nonneg_right ha.2.2.2.2 (by have := hb.2.2.2.1; omega)
  have := hb.2.2.2.2
  omega
theorem dvd_l (a b : Sp) : a.st ∣ lcmC a b := Int.dvd_lcm_left _ _
theorem dvd_r (a b : Sp) : b.st ∣ lcmC a b := Int.dvd_lcm_right _ _

/-- What both have: from the first to the last in steps of the least common multiple. -/
theorem both_iff {a b : Sp} (ha : a.Ok) (hb : b.Ok) {f : Int} (h : firstC a b = some f) (n : Int) : Both a b n ↔ (outS a b f).has n = true := by
  obtain ⟨hf, hmin⟩ := firstC_some ha hb h
  have hL := lcmC_pos ha hb
  obtain ⟨hfa, hfb⟩ := hf
  rw [Sp.has_iff] at hfa hfb
  have hfm : f ≤ mostC a b := by unfold mostC; omega
  have hr0 := Int.emod_nonneg (mostC a b - f) (show lcmC a b ≠ 0 by omega)
  have hr1 := Int.emod_lt_of_pos (mostC a b - f) (show 0 < lcmC a b by omega)
  have hq := Int.mul_ediv_add_emod (mostC a b - f) (lcmC a b)
  rw [Sp.has_iff]
  show _ ↔ f ≤ n ∧ n ≤ lastC a b f ∧ lcmC a b ∣ n - f
  constructor
  · intro hn
    have hle := hmin n hn
    obtain ⟨hA, hB⟩ := hn
    rw [Sp.has_iff] at hA hB
    have hd : lcmC a b ∣ n - f := by
      refine lcm_dvd_of _ _ _ ?_ ?_
      · have := Int.dvd_sub hA.2.2 hfa.2.2
        rwa [show n - a.lo - (f - a.lo) = n - f by omega] at this
      · have := Int.dvd_sub hB.2.2 hfb.2.2
        rwa [show n - b.lo - (f - b.lo) = n - f by omega] at this
    refine ⟨hle, ?_, hd⟩
    obtain ⟨q, hq'⟩ := hd
    have hm : n ≤ mostC a b := by unfold mostC; omega
    unfold lastC
    by_cases hc : q ≤ (mostC a b - f) / lcmC a b
    · have := Int.mul_le_mul_of_nonneg_left hc (show 0 ≤ lcmC a b by omega)
      omega
    · have := Int.mul_le_mul_of_nonneg_left (show (mostC a b - f) / lcmC a b + 1 ≤ q by omega) (show 0 ≤ lcmC a b by omega)
      rw [Int.mul_add] at this
      omega
  · rintro ⟨h1, h2, h3⟩
    unfold lastC at h2
    have hm : n ≤ mostC a b := by omega
    unfold mostC at hm
    refine ⟨(Sp.has_iff _ _).2 ⟨by omega, by omega, ?_⟩, (Sp.has_iff _ _).2 ⟨by omega, by omega, ?_⟩⟩
    · have := Int.dvd_add (Int.dvd_trans (dvd_l a b) h3) hfa.2.2
      rwa [show n - f + (f - a.lo) = n - a.lo by omega] at this
    · have := Int.dvd_add (Int.dvd_trans (dvd_r a b) h3) hfb.2.2
      rwa [show n - f + (f - b.lo) = n - b.lo by omega] at this

theorem last_ge {a b : Sp} (ha : a.Ok) (hb : b.Ok) {f : Int} (h : firstC a b = some f) : f ≤ lastC a b f := by
  have hf := (firstC_some ha hb h).1
  exact ((Sp.has_iff _ _).1 ((both_iff ha hb h f).1 hf)).2.1
theorem last_le {a b : Sp} (ha : a.Ok) (hb : b.Ok) (f : Int) : lastC a b f ≤ 1000000000 := by
  have hL := lcmC_pos ha hb
  have hr0 := Int.emod_nonneg (mostC a b - f) (show lcmC a b ≠ 0 by omega)
  have := ha.2.2.1
  unfold lastC mostC at *
  omega
theorem first_ge {a b : Sp} (ha : a.Ok) (hb : b.Ok) {f : Int} (h : firstC a b = some f) : 0 ≤ f ∧ max a.lo b.lo ≤ f := by
  obtain ⟨⟨h1, h2⟩, _⟩ := firstC_some ha hb h
  rw [Sp.has_iff] at h1 h2
  have := ha.1
  omega
theorem last_dvd (a b : Sp) (f : Int) : lcmC a b ∣ lastC a b f - f := by
  have hq := Int.mul_ediv_add_emod (mostC a b - f) (lcmC a b)
  exact ⟨(mostC a b - f) / lcmC a b, by unfold lastC; omega⟩

/-- The greatest of one's numbers. -/
def Sp.top (s : Sp) : Int := s.lo + (s.hi - s.lo) / s.st * s.st
theorem top_spec (s : Sp) (h : s.Ok) : s.lo ≤ s.top ∧ s.top ≤ s.hi ∧ s.has s.top = true ∧ ∀ n, s.has n = true → n ≤ s.top := by
  obtain ⟨h1, h2, h3, h4, h5⟩ := h
  have hq := Int.mul_ediv_add_emod (s.hi - s.lo) s.st
  have hr0 := Int.emod_nonneg (s.hi - s.lo) (show s.st ≠ 0 by omega)
  have hr1 := Int.emod_lt_of_pos (s.hi - s.lo) (show 0 < s.st by omega)
  have hc : (s.hi - s.lo) / s.st * s.st = s.st * ((s.hi - s.lo) / s.st) := Int.mul_comm _ _
  have hn : 0 ≤ (s.hi - s.lo) / s.st := Int.ediv_nonneg (by omega) (by omega)
  have hn' := Int.mul_nonneg (show 0 ≤ s.st by omega) hn
  have e1 : s.lo ≤ s.top := by unfold Sp.top; omega
  have e2 : s.top ≤ s.hi := by unfold Sp.top; omega
  refine ⟨e1, e2, (Sp.has_iff _ _).2 ⟨e1, e2, ⟨(s.hi - s.lo) / s.st, by unfold Sp.top; omega⟩⟩, fun n hn => ?_⟩
  rw [Sp.has_iff] at hn
  obtain ⟨n1, n2, q, hq'⟩ := hn
  unfold Sp.top
  by_cases hcc : q ≤ (s.hi - s.lo) / s.st
  · have := Int.mul_le_mul_of_nonneg_left hcc (show 0 ≤ s.st by omega)
    omega
  · have := Int.mul_le_mul_of_nonneg_left (show (s.hi - s.lo) / s.st + 1 ≤ q by omega) (show 0 ≤ s.st by omega)
    rw [Int.mul_add] at this
    omega

/-- The last as the document's answers reckon it. -/
def countR (a b : Sp) (f : Int) : Int := (min a.top b.top - f) / lcmC a b + 1
theorem countR_eq {a b : Sp} (ha : a.Ok) (hb : b.Ok) {f : Int} (h : firstC a b = some f) : countR a b f = (lastC a b f - f) / lcmC a b + 1 := by
  have hL := lcmC_pos ha hb
  have hge := last_ge ha hb h
  obtain ⟨_, ta2, ta3, ta4⟩ := top_spec a ha
  obtain ⟨_, tb2, tb3, tb4⟩ := top_spec b hb
  have hlast : Both a b (lastC a b f) := (both_iff ha hb h _).2 ((Sp.has_iff _ _).2 ⟨hge, Int.le_refl _, last_dvd a b f⟩)
  have l1 := ta4 _ hlast.1
  have l2 := tb4 _ hlast.2
  have hq := Int.mul_ediv_add_emod (mostC a b - f) (lcmC a b)
  have hr0 := Int.emod_nonneg (mostC a b - f) (show lcmC a b ≠ 0 by omega)
  have hr1 := Int.emod_lt_of_pos (mostC a b - f) (show 0 < lcmC a b by omega)
  have h1 : (lastC a b f - f) / lcmC a b ≤ (min a.top b.top - f) / lcmC a b := Int.ediv_le_ediv (by omega) (by omega)
  have h2 : (min a.top b.top - f) / lcmC a b ≤ (mostC a b - f) / lcmC a b := Int.ediv_le_ediv (by omega) (by unfold mostC; omega)
  have h3 : (lastC a b f - f) / lcmC a b = (mostC a b - f) / lcmC a b := by
    have : lastC a b f - f = lcmC a b * ((mostC a b - f) / lcmC a b) := by unfold lastC; omega
    rw [this, Int.mul_ediv_cancel_left _ (by omega)]
  unfold countR
  omega
theorem last_of_count {a b : Sp} (ha : a.Ok) (hb : b.Ok) {f : Int} (h : firstC a b = some f) : f + (countR a b f - 1) * lcmC a b = lastC a b f := by
  have hL := lcmC_pos ha hb
  rw [countR_eq ha hb h]
  obtain ⟨q, hq⟩ := last_dvd a b f
  rw [hq, Int.mul_ediv_cancel_left _ (by omega), Int.add_sub_cancel, Int.mul_comm]
  omega
theorem count_pos {a b : Sp} (ha : a.Ok) (hb : b.Ok) {f : Int} (h : firstC a b = some f) : 1 ≤ countR a b f := by
  have hL := lcmC_pos ha hb
  have hge := last_ge ha hb h
  rw [countR_eq ha hb h]
  have := Int.ediv_nonneg (show 0 ≤ lastC a b f - f by omega) (show 0 ≤ lcmC a b by omega)
  omega
/-- The first is below one multiple behind both leasts. -/
theorem first_lt {a b : Sp} (ha : a.Ok) (hb : b.Ok) {f : Int} (h : firstC a b = some f) : f < max a.lo b.lo + lcmC a b := by
  obtain ⟨hf, hmin⟩ := firstC_some ha hb h
  by_cases hc : f < max a.lo b.lo + lcmC a b
  · exact hc
  · exfalso
    have hL := lcmC_pos ha hb
    obtain ⟨h1, h2⟩ := hf
    rw [Sp.has_iff] at h1 h2
    have : Both a b (f - lcmC a b) := by
      refine ⟨(Sp.has_iff _ _).2 ⟨by omega, by omega, ?_⟩, (Sp.has_iff _ _).2 ⟨by omega, by omega, ?_⟩⟩
      · have := Int.dvd_sub h1.2.2 (dvd_l a b)
        rwa [show f - a.lo - lcmC a b = f - lcmC a b - a.lo by omega] at this
      · have := Int.dvd_sub h2.2.2 (dvd_r a b)
        rwa [show f - b.lo - lcmC a b = f - lcmC a b - b.lo by omega] at this
    have := hmin _ this
    omega
end Go.Proofs.YtlpdeadmiinhoaaGreatDoor

/- MB:  -/
/- Choices: which are valid, what they hold, how two meet. -/
namespace Go.Proofs.YtlpdeadmiinhoaaGreatDoor

structure Ch where
  kind : Int
  dflt : Int
  list : List Int

def Ch.sp (c : Ch) : Sp := ⟨c.list.getD 0 0, c.list.getD 1 0, if c.kind = 4 then c.list.getD 2 0 else 1⟩
def Ch.isList (c : Ch) : Bool := decide (c.kind = 1) || decide (c.kind = 2)
def Ch.has (c : Ch) (n : Int) : Bool := if c.isList = true then c.list.contains n else c.sp.has n
def boundB (l : List Int) : Bool := l.all fun n => decide (0 ≤ n) && decide (n ≤ 1000000000)
def freshAt (l : List Int) (i : Nat) : Bool := !(l.take i).contains (l.getD i 0)
def distinctB (l : List Int) : Bool := (List.range l.length).all (freshAt l)
def shapeB (c : Ch) : Bool :=
  if c.kind = 1 then c.list.length == 1
  else if c.kind = 2 then decide (1 ≤ c.list.length) && decide (c.list.length ≤ 20) && distinctB c.list
  else if c.kind = 3 then c.list.length == 2 && decide (c.sp.lo ≤ c.sp.hi)
  else if c.kind = 4 then c.list.length == 3 && decide (c.sp.lo ≤ c.sp.hi) && decide (1 ≤ c.sp.st) && decide (c.sp.st ≤ 1000)
  else false
def validC (c : Ch) : Bool := boundB c.list && shapeB c && c.has c.dflt

theorem boundB_at {l : List Int} (h : boundB l = true) (i : Nat) (hi : i < l.length) : 0 ≤ l.getD i 0 ∧ l.getD i 0 ≤ 1000000000 := by
  unfold boundB at h
  rw [List.all_eq_true] at h
  have := h l[i] (List.getElem_mem hi)
  simp at this
  simp [hi]
  exact this
theorem boundB_mem {l : List Int} (h : boundB l = true) {n : Int} (hn : n ∈ l) : 0 ≤ n ∧ n ≤ 1000000000 := by
  unfold boundB at h
  rw [List.all_eq_true] at h
  have := h n hn
  simpa using this
theorem boundB_of {l : List Int} (h : ∀ n ∈ l, 0 ≤ n ∧ n ≤ 1000000000) : boundB l = true := by
  unfold boundB
  rw [List.all_eq_true]
  intro n hn
  have := h n hn
  simpa using this

theorem valid_cases {c : Ch} (h : validC c = true) : boundB c.list = true ∧ c.has c.dflt = true ∧
    ((c.kind = 1 ∧ c.list.length = 1) ∨ (c.kind = 2 ∧ 1 ≤ c.list.length ∧ c.list.length ≤ 20 ∧ distinctB c.list = true) ∨
     (c.kind = 3 ∧ c.list.length = 2 ∧ c.sp.lo ≤ c.sp.hi) ∨ (c.kind = 4 ∧ c.list.length = 3 ∧ c.sp.lo ≤ c.sp.hi ∧ 1 ≤ c.sp.st ∧ c.sp.st ≤ 1000)) := by
  unfold validC at h
  simp only [Bool.and_eq_true] at h
  obtain ⟨⟨h1, h2⟩, h3⟩ := h
  refine ⟨h1, h3, ?_⟩
  unfold shapeB at h2
  by_cases k1 : c.kind = 1
  · rw [if_pos k1] at h2; left; exact ⟨k1, by simpa using h2⟩
  rw [if_neg k1] at h2
  by_cases k2 : c.kind = 2
  · rw [if_pos k2] at h2; simp only [Bool.and_eq_true, decide_eq_true_eq] at h2; right; left; exact ⟨k2, h2.1.1, h2.1.2, h2.2⟩
  rw [if_neg k2] at h2
  by_cases k3 : c.kind = 3
  · rw [if_pos k3] at h2; simp only [Bool.and_eq_true, decide_eq_true_eq, beq_iff_eq] at h2; right; right; left; exact ⟨k3, h2.1, h2.2⟩
  rw [if_neg k3] at h2
  by_cases k4 : c.kind = 4
  · rw [if_pos k4] at h2; simp only [Bool.and_eq_true, decide_eq_true_eq, beq_iff_eq] at h2; right; right; right; exact ⟨k4, h2.1.1.1, h2.1.1.2, h2.1.2, h2.2⟩
  rw [if_neg k4] at h2
  cases h2

theorem isList_iff (c : Ch) : c.isList = true ↔ c.kind = 1 ∨ c.kind = 2 := by unfold Ch.isList; simp
theorem isList_no (c : Ch) : c.isList = false ↔ ¬ (c.kind = 1 ∨ c.kind = 2) := by unfold Ch.isList; simp

theorem valid_list {c : Ch} (h : validC c = true) (hl : c.isList = true) : boundB c.list = true ∧ 1 ≤ c.list.length ∧ c.list.length ≤ 20 ∧ distinctB c.list = true := by
  obtain ⟨h1, _, h2⟩ := valid_cases h
  rw [isList_iff] at hl
  rcases h2 with ⟨k, hn⟩ | ⟨k, h2, h3, h4⟩ | ⟨k, _⟩ | ⟨k, _⟩
  · refine ⟨h1, by omega, by omega, ?_⟩
    unfold distinctB
    rw [hn]
    simp [freshAt, List.range_succ]
  · exact ⟨h1, h2, h3, h4⟩
  · omega
  · omega

theorem valid_sp {c : Ch} (h : validC c = true) (hl : c.isList = false) : c.sp.Ok ∧ ((c.kind = 3 ∧ c.list.length = 2) ∨ (c.kind = 4 ∧ c.list.length = 3)) := by
  obtain ⟨h1, _, h2⟩ := valid_cases h
  rw [isList_no] at hl
  rcases h2 with ⟨k, hn⟩ | ⟨k, _⟩ | ⟨k, hn, h3⟩ | ⟨k, hn, h3, h4, h5⟩
  · omega
  · omega
  · have a0 := boundB_at h1 0 (by omega)
    have a1 := boundB_at h1 1 (by omega)
    have hst : c.sp.st = 1 := by unfold Ch.sp; simp [k]
    unfold Sp.Ok
    refine ⟨⟨a0.1, h3, a1.2, by omega, by omega⟩, Or.inl ⟨k, hn⟩⟩
  · have a0 := boundB_at h1 0 (by omega)
    have a1 := boundB_at h1 1 (by omega)
    unfold Sp.Ok
    exact ⟨⟨a0.1, h3, a1.2, h4, h5⟩, Or.inr ⟨k, hn⟩⟩

/-- An outcome's default. -/
def wishC (c : Ch) (x y : Int) : Int := if c.has x = true then x else if c.has y = true then y else c.list.getD 0 0
def Ch.wished (c : Ch) (x y : Int) : Ch := ⟨c.kind, wishC c x y, c.list⟩
def ofList (l : List Int) : Ch := ⟨if l.length = 1 then 1 else 2, 0, l⟩
def Sp.count (s : Sp) : Int := (s.hi - s.lo) / s.st + 1
def Sp.firsts (s : Sp) (most : Nat) : List Int := (List.range (min most s.count.toNat)).map fun i : Nat => s.lo + (i : Int) * s.st
/-- The outcome of two ranges, but for its default. -/
def manyOrFew (a b : Ch) (s : Sp) : Ch :=
  if s.st ≤ 1000 ∧ 20 < s.count then (if a.kind = 3 ∧ b.kind = 3 then ⟨3, 0, [s.lo, s.hi]⟩ else ⟨4, 0, [s.lo, s.hi, s.st]⟩)
  else ofList (s.firsts 20)
def listMet (a b : Ch) : List Int := a.list.filter b.has
/-- The outcome, but for its default. -/
def bareMet (a b : Ch) : Option Ch :=
  if a.isList = true then (if listMet a b = [] then none else some (ofList (listMet a b)))
  else if b.isList = true then (if listMet b a = [] then none else some (ofList (listMet b a)))
  else (firstC a.sp b.sp).map fun f => manyOrFew a b (outS a.sp b.sp f)
def metC (a b : Ch) : Option Ch := (bareMet a b).map fun c => c.wished a.dflt b.dflt

theorem has_list {c : Ch} (h : c.isList = true) (n : Int) : c.has n = c.list.contains n := by unfold Ch.has; rw [if_pos h]
theorem has_sp {c : Ch} (h : c.isList = false) (n : Int) : c.has n = c.sp.has n := by unfold Ch.has; rw [if_neg (by rw [h]; simp)]
theorem ofList_isList (l : List Int) : (ofList l).isList = true := by
  rw [isList_iff]; unfold ofList; by_cases h : l.length = 1 <;> simp [h]
theorem ofList_has (l : List Int) (n : Int) : (ofList l).has n = l.contains n := has_list (ofList_isList l) n
theorem wished_has (c : Ch) (x y n : Int) : (c.wished x y).has n = c.has n := rfl

theorem firsts_length (s : Sp) (most : Nat) : (s.firsts most).length = min most s.count.toNat := by unfold Sp.firsts; simp
theorem count_pos' {s : Sp} (h : s.lo ≤ s.hi) (h1 : 1 ≤ s.st) : 1 ≤ s.count := by
  have := Int.ediv_nonneg (show 0 ≤ s.hi - s.lo by omega) (show 0 ≤ s.st by omega)
  unfold Sp.count; omega
/-- All numbers, where they are few. -/
theorem firsts_mem {s : Sp} (h : s.lo ≤ s.hi) (h1 : 1 ≤ s.st) {most : Nat} (hc : s.count ≤ most) (n : Int) : n ∈ s.firsts most ↔ s.has n = true := by
  have hp := count_pos' h h1
  have hq := Int.mul_ediv_add_emod (s.hi - s.lo) s.st
  have hr0 := Int.emod_nonneg (s.hi - s.lo) (show s.st ≠ 0 by omega)
  have hr1 := Int.emod_lt_of_pos (s.hi - s.lo) (show 0 < s.st by omega)
  have hcount : (s.hi - s.lo) / s.st = s.count - 1 := by unfold Sp.count; omega
  rw [hcount] at hq
  unfold Sp.firsts
  rw [List.mem_map, Sp.has_iff]
  constructor
  · rintro ⟨i, hi, rfl⟩
    rw [List.mem_range] at hi
    have hle := Int.mul_le_mul_of_nonneg_left (show (i : Int) ≤ s.count - 1 by omega) (show 0 ≤ s.st by omega)
    have hnn := Int.mul_nonneg (show (0 : Int) ≤ i by omega) (show 0 ≤ s.st by omega)
    have e : (i : Int) * s.st = s.st * i := Int.mul_comm _ _
    exact ⟨by omega, by omega, ⟨(i : Int), by omega⟩⟩
  · rintro ⟨a1, a2, q, hq'⟩
    have hq0 : 0 ≤ q := by
      by_cases h0 : 0 ≤ q
      · exact h0
      · have := Int.mul_le_mul_of_nonneg_left (show q ≤ -1 by omega) (show 0 ≤ s.st by omega)
        omega
    have hqc : q ≤ s.count - 1 := by
      by_cases h0 : q ≤ s.count - 1
      · exact h0
      · have := Int.mul_le_mul_of_nonneg_left (show s.count - 1 + 1 ≤ q by omega) (show 0 ≤ s.st by omega)
        rw [Int.mul_add] at this
        omega
    refine ⟨q.toNat, by rw [List.mem_range]; omega, ?_⟩
    rw [Int.toNat_of_nonneg hq0, Int.mul_comm]
    omega

theorem firsts_get (s : Sp) (most i : Nat) (h : i < (s.firsts most).length) : (s.firsts most)[i] = s.lo + (i : Int) * s.st := by
  simp only [Sp.firsts, List.getElem_map, List.getElem_range]
theorem firsts_inj {s : Sp} (h1 : 1 ≤ s.st) {i j : Nat} (h : s.lo + (i : Int) * s.st = s.lo + (j : Int) * s.st) : i = j := by
  have h2 : (i : Int) * s.st = (j : Int) * s.st := by omega
  have := Int.eq_of_mul_eq_mul_right (show s.st ≠ 0 by omega) h2
  omega

theorem distinctB_iff (l : List Int) : distinctB l = true ↔ ∀ i j, i < j → j < l.length → l.getD i 0 ≠ l.getD j 0 := by
  unfold distinctB freshAt
  rw [List.all_eq_true]
  constructor
  · intro h i j hij hj e
    have := h j (List.mem_range.2 hj)
    simp only [Bool.not_eq_true', List.contains_eq_mem, decide_eq_false_iff_not] at this
    apply this
    rw [List.mem_iff_getElem]
    refine ⟨i, by simp; omega, ?_⟩
    rw [List.getElem_take]
    simpa [show i < l.length by omega, hj] using e
  · intro h j hj
    rw [List.mem_range] at hj
    simp only [Bool.not_eq_true', List.contains_eq_mem, decide_eq_false_iff_not]
    intro hm
    rw [List.mem_iff_getElem] at hm
    obtain ⟨i, hi, e⟩ := hm
    have hi' : i < j ∧ i < l.length := by rw [List.length_take] at hi; omega
    refine h i j hi'.1 hj ?_
    rw [List.getElem_take] at e
    rw [List.getD_eq_getElem?_getD, List.getD_eq_getElem?_getD, List.getElem?_eq_getElem hi'.2, List.getElem?_eq_getElem hj] at *
    exact e
theorem distinctB_nodup (l : List Int) : distinctB l = true ↔ l.Nodup := by
  rw [distinctB_iff, List.nodup_iff_pairwise_ne, List.pairwise_iff_getElem]
  constructor
  · intro h i j hi hj hij
    have := h i j hij hj
    simpa [hi, hj] using this
  · intro h i j hij hj
    have := h i j (by omega) hj hij
    simpa [hj, show i < l.length by omega] using this

theorem ofList_valid {l : List Int} (hb : boundB l = true) (h1 : 1 ≤ l.length) (h2 : l.length ≤ 20) (hd : distinctB l = true) {x y : Int} : validC ((ofList l).wished x y) = true := by
  unfold validC
  have hb' : boundB ((ofList l).wished x y).list = true := hb
  have hs : shapeB ((ofList l).wished x y) = true := by
    unfold shapeB Ch.wished ofList
    by_cases h : l.length = 1
    · simp [h]
    · simp [h, h2, hd, h1]
  have hw : ((ofList l).wished x y).has ((ofList l).wished x y).dflt = true := by
    rw [wished_has]
    show (ofList l).has (wishC (ofList l) x y) = true
    unfold wishC
    by_cases e1 : (ofList l).has x = true
    · rw [if_pos e1]; exact e1
    rw [if_neg e1]
    by_cases e2 : (ofList l).has y = true
    · rw [if_pos e2]; exact e2
    rw [if_neg e2, ofList_has]
    show l.contains (l.getD 0 0) = true
    cases l with
    | nil => simp at h1
    | cons x r => simp
  rw [hb', hs, hw]; rfl

theorem outS_ok {a b : Sp} (ha : a.Ok) (hb : b.Ok) {f : Int} (h : firstC a b = some f) : (outS a b f).lo ≤ (outS a b f).hi ∧ 1 ≤ (outS a b f).st ∧ 0 ≤ (outS a b f).lo ∧ (outS a b f).hi ≤ 1000000000 ∧ (outS a b f).st ≤ 1000000 :=
  ⟨last_ge ha hb h, lcmC_pos ha hb, (first_ge ha hb h).1, last_le ha hb f, lcmC_le' ha hb⟩

theorem filter_bound {l : List Int} (h : boundB l = true) (p : Int → Bool) : boundB (l.filter p) = true := boundB_of fun _ hn => boundB_mem h (List.mem_filter.1 hn).1
theorem filter_distinct {l : List Int} (h : distinctB l = true) (p : Int → Bool) : distinctB (l.filter p) = true := by
  rw [distinctB_nodup] at *
  exact h.sublist List.filter_sublist
theorem firsts_bound {s : Sp} (h : s.lo ≤ s.hi) (h1 : 1 ≤ s.st) (h0 : 0 ≤ s.lo) (hm : s.hi ≤ 1000000000) (most : Nat) : boundB (s.firsts most) = true := by
  refine boundB_of fun n hn => ?_
  have hsub : n ∈ s.firsts s.count.toNat := by
    unfold Sp.firsts at hn ⊢
    rw [List.mem_map] at hn ⊢
    obtain ⟨i, hi, e⟩ := hn
    exact ⟨i, by rw [List.mem_range] at hi ⊢; omega, e⟩
  rw [firsts_mem h h1 (by have := count_pos' h h1; omega), Sp.has_iff] at hsub
  omega
theorem firsts_distinct {s : Sp} (h1 : 1 ≤ s.st) (most : Nat) : distinctB (s.firsts most) = true := by
  rw [distinctB_nodup, List.nodup_iff_pairwise_ne, List.pairwise_iff_getElem]
  intro i j hi hj hij
  rw [firsts_get, firsts_get]
  intro e
  have := firsts_inj h1 e
  omega

/-- The outcome's default is among its numbers, where its first is. -/
theorem wished_ok {c : Ch} {x y : Int} (h : c.has (c.list.getD 0 0) = true) : (c.wished x y).has (c.wished x y).dflt = true := by
  rw [wished_has]
  show c.has (wishC c x y) = true
  unfold wishC
  by_cases e1 : c.has x = true
  · rw [if_pos e1]; exact e1
  rw [if_neg e1]
  by_cases e2 : c.has y = true
  · rw [if_pos e2]; exact e2
  rw [if_neg e2]; exact h

theorem many_valid {a b : Ch} {s : Sp} (h : s.lo ≤ s.hi) (h1 : 1 ≤ s.st) (h0 : 0 ≤ s.lo) (hm : s.hi ≤ 1000000000) {x y : Int} : validC ((manyOrFew a b s).wished x y) = true := by
  have hp := count_pos' h h1
  unfold manyOrFew
  by_cases hc : s.st ≤ 1000 ∧ 20 < s.count
  · rw [if_pos hc]
    by_cases hk : a.kind = 3 ∧ b.kind = 3
    · rw [if_pos hk]
      unfold validC
      rw [wished_ok]
      · unfold boundB shapeB Ch.wished Ch.sp
        simp; omega
      · unfold Ch.has Ch.isList Ch.sp Sp.has
        simp; omega
    · rw [if_neg hk]
      unfold validC
      rw [wished_ok]
      · unfold boundB shapeB Ch.wished Ch.sp
        simp; omega
      · unfold Ch.has Ch.isList Ch.sp Sp.has
        simp; omega
  · rw [if_neg hc]
    refine ofList_valid (firsts_bound h h1 h0 hm _) ?_ ?_ (firsts_distinct h1 _)
    · rw [firsts_length]; omega
    · rw [firsts_length]; omega

theorem step3 {c : Ch} (h : c.kind = 3) : c.sp.st = 1 := by unfold Ch.sp; simp [h]
theorem out_step {a b : Ch} (f : Int) : a.kind = 3 ∧ b.kind = 3 → (outS a.sp b.sp f).st = 1 := by
  rintro ⟨h1, h2⟩
  show (Int.lcm a.sp.st b.sp.st : Int) = 1
  rw [step3 h1, step3 h2]; rfl

theorem met_valid {a b d : Ch} (ha : validC a = true) (hb : validC b = true) (h : metC a b = some d) : validC d = true := by
  unfold metC at h
  rw [Option.map_eq_some_iff] at h
  obtain ⟨c, hc, rfl⟩ := h
  unfold bareMet at hc
  by_cases la : a.isList = true
  · rw [if_pos la] at hc
    by_cases hn : listMet a b = []
    · rw [if_pos hn] at hc; cases hc
    rw [if_neg hn] at hc
    injection hc with hc
    subst hc
    obtain ⟨v1, v2, v3, v4⟩ := valid_list ha la
    have hl : (listMet a b).length ≠ 0 := by simpa using hn
    have hl2 : (listMet a b).length ≤ a.list.length := List.length_filter_le _ _
    unfold listMet at *
    exact ofList_valid (filter_bound v1 _) (by omega) (by omega) (filter_distinct v4 _)
  rw [if_neg la] at hc
  by_cases lb : b.isList = true
  · rw [if_pos lb] at hc
    by_cases hn : listMet b a = []
    · rw [if_pos hn] at hc; cases hc
    rw [if_neg hn] at hc
    injection hc with hc
    subst hc
    obtain ⟨v1, v2, v3, v4⟩ := valid_list hb lb
    have hl : (listMet b a).length ≠ 0 := by simpa using hn
    have hl2 : (listMet b a).length ≤ b.list.length := List.length_filter_le _ _
    unfold listMet at *
    exact ofList_valid (filter_bound v1 _) (by omega) (by omega) (filter_distinct v4 _)
  rw [if_neg lb] at hc
  rw [Option.map_eq_some_iff] at hc
  obtain ⟨f, hf, rfl⟩ := hc
  have oa := (valid_sp ha (by simpa using la)).1
  have ob := (valid_sp hb (by simpa using lb)).1
  obtain ⟨s1, s2, s3, s4, _⟩ := outS_ok oa ob hf
  exact many_valid s1 s2 s3 s4

/-- What the outcome has is what both have, where no list was cut. -/
theorem met_has {a b d : Ch} (ha : validC a = true) (hb : validC b = true) (h : metC a b = some d) (hcut : ¬ (d.kind = 2 ∧ d.list.length = 20)) (n : Int) : d.has n = (a.has n && b.has n) := by
  unfold metC at h
  rw [Option.map_eq_some_iff] at h
  obtain ⟨c, hc, rfl⟩ := h
  rw [wished_has]
  have hcut' : ¬ (c.kind = 2 ∧ c.list.length = 20) := hcut
  unfold bareMet at hc
  by_cases la : a.isList = true
  · rw [if_pos la] at hc
    by_cases hn : listMet a b = []
    · rw [if_pos hn] at hc; cases hc
    rw [if_neg hn] at hc
    injection hc with hc
    subst hc
    rw [ofList_has, has_list la]
    unfold listMet
    rw [Bool.eq_iff_iff]
    simp
  rw [if_neg la] at hc
  by_cases lb : b.isList = true
  · rw [if_pos lb] at hc
    by_cases hn : listMet b a = []
    · rw [if_pos hn] at hc; cases hc
    rw [if_neg hn] at hc
    injection hc with hc
    subst hc
    rw [ofList_has, has_list lb]
    unfold listMet
    rw [Bool.eq_iff_iff]
    simp [and_comm]
  rw [if_neg lb] at hc
  rw [Option.map_eq_some_iff] at hc
  obtain ⟨f, hf, rfl⟩ := hc
  have la' : a.isList = false := by simpa using la
  have lb' : b.isList = false := by simpa using lb
  have oa := (valid_sp ha la').1
  have ob := (valid_sp hb lb').1
  obtain ⟨s1, s2, s3, s4, _⟩ := outS_ok oa ob hf
  have hboth : (a.has n && b.has n) = (outS a.sp b.sp f).has n := by
    rw [has_sp la', has_sp lb', Bool.eq_iff_iff]
    exact (bothB_iff _ _ _).trans (both_iff oa ob hf n)
  rw [hboth]
  have hp := count_pos' s1 s2
  have hst := out_step (a := a) (b := b) f
  generalize outS a.sp b.sp f = s at *
  unfold manyOrFew at hcut' ⊢
  by_cases hc : s.st ≤ 1000 ∧ 20 < s.count
  · rw [if_pos hc]
    by_cases hk : a.kind = 3 ∧ b.kind = 3
    · rw [if_pos hk]
      have := hst hk
      unfold Ch.has Ch.isList Ch.sp Sp.has
      simp [this]
    · rw [if_neg hk]
      unfold Ch.has Ch.isList Ch.sp Sp.has
      simp
  · rw [if_neg hc, ofList_has]
    rw [if_neg hc] at hcut'
    have hle : s.count ≤ 20 := by
      by_cases h20 : s.count ≤ 20
      · exact h20
      · exfalso
        apply hcut'
        have hl : (s.firsts 20).length = 20 := by rw [firsts_length]; omega
        unfold ofList
        simp [hl]
    rw [Bool.eq_iff_iff, List.contains_iff_mem]
    exact firsts_mem s1 s2 hle n

/-- Whether two meet does not hang on their order. -/
theorem met_comm {a b : Ch} (ha : validC a = true) (hb : validC b = true) : (metC a b).isSome = (metC b a).isSome := by
  unfold metC
  rw [Option.isSome_map, Option.isSome_map]
  unfold bareMet
  have hE : ∀ l : List Int, ∀ x : Ch, (if l = [] then (none : Option Ch) else some x).isSome = !l.isEmpty := fun l x => by cases l <;> simp
  by_cases la : a.isList = true
  · rw [if_pos la, hE]
    by_cases lb : b.isList = true
    · rw [if_pos lb, hE]
      have h : ∀ c d : Ch, c.isList = true → d.isList = true → (listMet c d).isEmpty = true → (listMet d c).isEmpty = true := by
        intro c d lc ld h
        rw [List.isEmpty_iff] at h ⊢
        unfold listMet at h ⊢
        rw [List.filter_eq_nil_iff] at h ⊢
        intro n hn
        rw [has_list lc]
        intro hc
        have := h n (by simpa using hc)
        rw [has_list ld] at this
        exact this (by simpa using hn)
      have h1 := h a b la lb
      have h2 := h b a lb la
      cases e1 : (listMet a b).isEmpty <;> cases e2 : (listMet b a).isEmpty <;> simp_all
    · rw [if_neg lb, if_pos la, hE]
  · rw [if_neg la]
    by_cases lb : b.isList = true
    · rw [if_pos lb, if_pos lb]
    · rw [if_neg lb, if_neg lb, if_neg la]
      have oa := (valid_sp ha (by simpa using la)).1
      have ob := (valid_sp hb (by simpa using lb)).1
      rw [Option.isSome_map, Option.isSome_map, firstC_comm oa ob]
end Go.Proofs.YtlpdeadmiinhoaaGreatDoor
