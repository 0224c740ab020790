/- The program's Decode, where it answers; what comes back of a block's bytes. -/
import Derived.Test.YtegomicpolnpoaaUS
namespace Go.Proofs.Ytegomicpolnpoaa
open Go.RowKit Go.Deep Go.Shelf

/-- A block of new memory: r rows of c numbers. -/
def NewB (B r c : Nat) (F : Nat → Nat → Int) (v : Value) (w : World) : Prop := ∃ N, B ≤ N ∧ v = .slice (some ⟨N, 0, none⟩) r r ∧ Gr N r c F w
def GridAns (w : World) (r c : Nat) (F : Nat → Nat → Int) (e : Ending) (w' : World) : Prop := ∃ u, e = .returned (.tuple #[u, .int .i64 0]) ∧ NewB w.heap.size r c F u w' ∧ Below w.heap.size w w'
theorem newB_keep {B D r c : Nat} {F : Nat → Nat → Int} (hD : D < B) : ∀ u w1 w2, (∀ k, k ≠ D → k < w1.heap.size → w2.heap[k]? = w1.heap[k]?) → NewB B r c F u w1 → NewB B r c F u w2 := fun u w1 w2 hs ⟨N, hN, e, hg⟩ =>
  ⟨N, hN, e, hg.top.of_block (hs _ (by omega) hg.top.lt), fun j hj => (hg.rows j hj).of_block (hs _ (by omega) (hg.rows j hj).lt)⟩
set_option maxRecDepth 100000 in
theorem decode_yes {e : Nat} (h1 : 1 ≤ e) (h8 : e ≤ 8) (p : Bool) (r c : Nat) (hr1 : 1 ≤ r) (hr8 : r ≤ 8) (hc4 : c ≤ 4096) (s : ByteArray) (hs : s.size = r * c * wid e) (w : World) :
    Calls Try.prog 27 #[.int .i64 e, .bool p, .int .i64 r, .string s] w (GridAns w r c (fun i j => decV e p r c s (i, j))) := by
  have hmf := makes
  obtain ⟨W4, hW4⟩ : ∃ W4, (((w.alloc (.cells #[.int .i64 (e : Int)] 3)).alloc (.cells #[.bool p] 4)).alloc (.cells #[.int .i64 (r : Int)] 3)).alloc (.cells #[.string s] 9) = W4 := ⟨_, rfl⟩
  have hbel : Below w.heap.size w W4 := by rw [← hW4]; exact ((((Below.refl _ w).alloc (Nat.le_refl _) _).alloc (by simp) _).alloc (by simp; omega) _).alloc (by simp; omega) _
  have k0 : ∀ Z, (W4.alloc Z).cell? ⟨w.heap.size, 0, none⟩ = some (.int .i64 e) := fun Z => by refine (Same.alloc _ Z).cell ?_; rw [← hW4]; simp [go_sem]
  have k1 : ∀ Z, (W4.alloc Z).cell? ⟨w.heap.size + 1, 0, none⟩ = some (.bool p) := fun Z => by refine (Same.alloc _ Z).cell ?_; rw [← hW4]; simp [go_sem]
  have k2 : ∀ Z, (W4.alloc Z).cell? ⟨w.heap.size + 1 + 1, 0, none⟩ = some (.int .i64 r) := fun Z => by refine (Same.alloc _ Z).cell ?_; rw [← hW4]; simp [go_sem]
  have k3 : ∀ Z, (W4.alloc Z).cell? ⟨w.heap.size + 1 + 1 + 1, 0, none⟩ = some (.string s) := fun Z => by refine (Same.alloc _ Z).cell ?_; rw [← hW4]; simp [go_sem]
  have hsz : w.heap.size + 4 = W4.heap.size := by rw [← hW4]; simp
  have hf := fitted77_new 78 #[at0 w.heap.size, at0 (w.heap.size + 1 + 1), at0 (w.heap.size + 1 + 1 + 1), at0 (w.heap.size + 1)] W4 (NewB (W4.alloc (.cells #[.int .i64 0] 22)).heap.size r c (fun i j => decV e p r c s (i, j))) (newB_keep (by simp)) (enters_of Try.func78 (by kernel_rfl) rfl _)
    ((decode1_yes h1 h8 p r c hr1 hr8 hc4 s hs _ _ _ _ _ (k0 _) (k2 _) (k3 _) (k1 _)).mono fun y w' ⟨N, g1, g2, g3, g4⟩ => ⟨_, g2, ⟨N, g1, rfl, g3⟩, g4⟩)
  have hz : w.heap.size ≤ (W4.alloc (.cells #[.int .i64 0] 22)).heap.size := by simp; omega
  subst hW4
  have HBL := Lib.hid hbel
  have HZ := Lib.hid hz
  have HF := Lib.hid hf
  clear hbel k0 k1 k2 k3 hsz hz hf
  unfold GridAns
  go_enter Try.func27, Try.ntmps27
  go_wp2_with (go_at_call 77; (with_reducible refine HF.out.mono ?_); rintro y w1 ⟨u, rfl, hu, hb1⟩; have HU := Lib.hid hu; clear hu)
  go_ret2
  obtain ⟨N, n1, n2, n3⟩ := HU.out
  exact ⟨_, rfl, ⟨N, Nat.le_trans HZ.out n1, n2, n3⟩, HBL.out.trans (hb1.mono HBL.out.size)⟩

/-! What bytes tell. -/
theorem bytN_extract (s : ByteArray) (a i : Nat) (h : a + i < s.size) : bytN (s.extract a s.size) i = bytN s (a + i) := by
  unfold bytN
  rw [dif_pos h, dif_pos (by rw [ByteArray.size_extract]; omega)]
  rw [ByteArray.getElem_extract]
theorem bytN_nums (xs : List Int) (j : Nat) (h : j < xs.length) : (bytN (strOfNums xs) j : Int) = (xs.getD j 0).toNat % 256 := by
  unfold bytN
  rw [dif_pos (by rw [strOfNums_size]; exact h)]
  have : (strOfNums xs)[j]'(by rw [strOfNums_size]; exact h) = UInt8.ofNat (xs.getD j 0).toNat := by
    simp [strOfNums, List.getD, h, ByteArray.getElem_eq_getElem_data]
  rw [this]
  simp
theorem by8_bd (e : Nat) (v : Int) (i : Nat) : 0 ≤ by8 e v i ∧ by8 e v i < 256 := by
  unfold by8 byB
  split
  · omega
  · split <;> omega

theorem sign1 (n : Nat) (v : Int) (hn : (n : Int) = v % 256) (h1 : -128 ≤ v) (h2 : v < 128) : signI n (8 * 1) = v := by
  unfold signI
  rw [show (2 : Int) ^ (8 * 1) = 256 from rfl]
  split
  · rename_i g
    have g' : (128 : Int) ≤ (n : Int) := Int.ofNat_le.2 g
    clear g
    omega
  · rename_i g
    have g' : (n : Int) < (128 : Int) := Int.ofNat_lt.2 (Nat.lt_of_not_le g)
    clear g
    omega
theorem low1 (s : ByteArray) (v : Int) (b0 : (bytN s 0 : Int) = v / 1 % 256) : ((lowN s 1 : Nat) : Int) = v % 256 := by
  have e : ((lowN s 1 : Nat) : Int) = (bytN s 0 : Int) * 1 := by
    simp [lowN]
  rw [e, b0]
  clear e b0
  omega
theorem sign2 (n : Nat) (v : Int) (hn : (n : Int) = v % 65536) (h1 : -32768 ≤ v) (h2 : v < 32768) : signI n (8 * 2) = v := by
  unfold signI
  rw [show (2 : Int) ^ (8 * 2) = 65536 from rfl]
  split
  · rename_i g
    have g' : (32768 : Int) ≤ (n : Int) := Int.ofNat_le.2 g
    clear g
    omega
  · rename_i g
    have g' : (n : Int) < (32768 : Int) := Int.ofNat_lt.2 (Nat.lt_of_not_le g)
    clear g
    omega
theorem low2 (s : ByteArray) (v : Int) (b0 : (bytN s 0 : Int) = v / 1 % 256) (b1 : (bytN s 1 : Int) = v / 256 % 256) : ((lowN s 2 : Nat) : Int) = v % 65536 := by
  have e : ((lowN s 2 : Nat) : Int) = (bytN s 0 : Int) * 1 + (bytN s 1 : Int) * 256 := by
    simp [lowN]
  rw [e, b0, b1]
  clear e b0 b1
  omega
theorem high2 (s : ByteArray) (v : Int) (b0 : (bytN s 0 : Int) = v / 256 % 256) (b1 : (bytN s 1 : Int) = v / 1 % 256) : ((highN s 2 : Nat) : Int) = v % 65536 := by
  have e : ((highN s 2 : Nat) : Int) = ((bytN s 0 : Int) * 256 + (bytN s 1 : Int)) := by
    simp [highN]
  rw [e, b0, b1]
  clear e b0 b1
  omega
theorem sign3 (n : Nat) (v : Int) (hn : (n : Int) = v % 16777216) (h1 : -8388608 ≤ v) (h2 : v < 8388608) : signI n (8 * 3) = v := by
  unfold signI
  rw [show (2 : Int) ^ (8 * 3) = 16777216 from rfl]
  split
  · rename_i g
    have g' : (8388608 : Int) ≤ (n : Int) := Int.ofNat_le.2 g
    clear g
    omega
  · rename_i g
    have g' : (n : Int) < (8388608 : Int) := Int.ofNat_lt.2 (Nat.lt_of_not_le g)
    clear g
    omega
theorem low3 (s : ByteArray) (v : Int) (b0 : (bytN s 0 : Int) = v / 1 % 256) (b1 : (bytN s 1 : Int) = v / 256 % 256) (b2 : (bytN s 2 : Int) = v / 65536 % 256) : ((lowN s 3 : Nat) : Int) = v % 16777216 := by
  have e : ((lowN s 3 : Nat) : Int) = (bytN s 0 : Int) * 1 + (bytN s 1 : Int) * 256 + (bytN s 2 : Int) * 65536 := by
    simp [lowN]
  rw [e, b0, b1, b2]
  clear e b0 b1 b2
  omega
theorem high3 (s : ByteArray) (v : Int) (b0 : (bytN s 0 : Int) = v / 65536 % 256) (b1 : (bytN s 1 : Int) = v / 256 % 256) (b2 : (bytN s 2 : Int) = v / 1 % 256) : ((highN s 3 : Nat) : Int) = v % 16777216 := by
  have e : ((highN s 3 : Nat) : Int) = (((bytN s 0 : Int) * 256 + (bytN s 1 : Int)) * 256 + (bytN s 2 : Int)) := by
    simp [highN]
  rw [e, b0, b1, b2]
  clear e b0 b1 b2
  omega
theorem sign4 (n : Nat) (v : Int) (hn : (n : Int) = v % 4294967296) (h1 : -2147483648 ≤ v) (h2 : v < 2147483648) : signI n (8 * 4) = v := by
  unfold signI
  rw [show (2 : Int) ^ (8 * 4) = 4294967296 from rfl]
  split
  · rename_i g
    have g' : (2147483648 : Int) ≤ (n : Int) := Int.ofNat_le.2 g
    clear g
    omega
  · rename_i g
    have g' : (n : Int) < (2147483648 : Int) := Int.ofNat_lt.2 (Nat.lt_of_not_le g)
    clear g
    omega
theorem low4 (s : ByteArray) (v : Int) (b0 : (bytN s 0 : Int) = v / 1 % 256) (b1 : (bytN s 1 : Int) = v / 256 % 256) (b2 : (bytN s 2 : Int) = v / 65536 % 256) (b3 : (bytN s 3 : Int) = v / 16777216 % 256) : ((lowN s 4 : Nat) : Int) = v % 4294967296 := by
  have e : ((lowN s 4 : Nat) : Int) = (bytN s 0 : Int) * 1 + (bytN s 1 : Int) * 256 + (bytN s 2 : Int) * 65536 + (bytN s 3 : Int) * 16777216 := by
    simp [lowN]
  rw [e, b0, b1, b2, b3]
  clear e b0 b1 b2 b3
  omega
theorem high4 (s : ByteArray) (v : Int) (b0 : (bytN s 0 : Int) = v / 16777216 % 256) (b1 : (bytN s 1 : Int) = v / 65536 % 256) (b2 : (bytN s 2 : Int) = v / 256 % 256) (b3 : (bytN s 3 : Int) = v / 1 % 256) : ((highN s 4 : Nat) : Int) = v % 4294967296 := by
  have e : ((highN s 4 : Nat) : Int) = ((((bytN s 0 : Int) * 256 + (bytN s 1 : Int)) * 256 + (bytN s 2 : Int)) * 256 + (bytN s 3 : Int)) := by
    simp [highN]
  rw [e, b0, b1, b2, b3]
  clear e b0 b1 b2 b3
  omega
theorem getN_by8 {e : Nat} (h1 : 1 ≤ e) (h8 : e ≤ 8) (s : ByteArray) (v : Int) (hlo : -topN (bitsN e) ≤ v) (hhi : v ≤ topN (bitsN e)) (hb : ∀ i, i < wid e → (bytN s i : Int) = by8 e v i) : getN e s = v := by
  revert hlo hhi hb
  refine eightN h1 h8 (p := fun e => -topN (bitsN e) ≤ v → v ≤ topN (bitsN e) → (∀ i, i < wid e → (bytN s i : Int) = by8 e v i) → getN e s = v) ?_ ?_ ?_ ?_ ?_ ?_ ?_ ?_
  all_goals intro hlo hhi hb
  · rw [show topN (bitsN 1) = 127 from topN8] at hlo hhi
    rw [get_low 1 1 s (by decide) (by decide) rfl]
    exact sign1 _ v (low1 s v (hb 0 (by decide))) (by omega) (by omega)
  · rw [show topN (bitsN 2) = 127 from topN8] at hlo hhi
    rw [get_raised, hb 0 (by decide)]
    show (v + 128) / 1 % 256 - 128 = v
    omega
  · rw [show topN (bitsN 3) = 32767 from topN16] at hlo hhi
    rw [get_low 3 2 s (by decide) (by decide) rfl]
    exact sign2 _ v (low2 s v (hb 0 (by decide)) (hb 1 (by decide))) (by omega) (by omega)
  · rw [show topN (bitsN 4) = 32767 from topN16] at hlo hhi
    rw [get_high 4 2 s (by decide) (by decide) rfl]
    exact sign2 _ v (high2 s v (hb 0 (by decide)) (hb 1 (by decide))) (by omega) (by omega)
  · rw [show topN (bitsN 5) = 8388607 from topN24] at hlo hhi
    rw [get_low 5 3 s (by decide) (by decide) rfl]
    exact sign3 _ v (low3 s v (hb 0 (by decide)) (hb 1 (by decide)) (hb 2 (by decide))) (by omega) (by omega)
  · rw [show topN (bitsN 6) = 8388607 from topN24] at hlo hhi
    rw [get_high 6 3 s (by decide) (by decide) rfl]
    exact sign3 _ v (high3 s v (hb 0 (by decide)) (hb 1 (by decide)) (hb 2 (by decide))) (by omega) (by omega)
  · rw [show topN (bitsN 7) = 2147483647 from topN32] at hlo hhi
    rw [get_low 7 4 s (by decide) (by decide) rfl]
    exact sign4 _ v (low4 s v (hb 0 (by decide)) (hb 1 (by decide)) (hb 2 (by decide)) (hb 3 (by decide))) (by omega) (by omega)
  · rw [show topN (bitsN 8) = 2147483647 from topN32] at hlo hhi
    rw [get_high 8 4 s (by decide) (by decide) rfl]
    exact sign4 _ v (high4 s v (hb 0 (by decide)) (hb 1 (by decide)) (hb 2 (by decide)) (hb 3 (by decide))) (by omega) (by omega)

theorem bytesOf_byte {e : Nat} (h1 : 1 ≤ e) {p : Bool} {m : List (List Int)} (hc : ∀ j, j < m.length → (m.getD j []).length = cols m) {j : Nat} (hj : j < cols m * m.length * wid e) :
    (bytN (bytesOf e p m) j : Int) = by8 e (lvl (bitsN e) (smpAt m (spotAt p m.length (cols m) (j / wid e)))) (j % wid e) := by
  rw [bytesOf_L hc, ← laidL_bytes e p m.length (cols m) _ h1, bytN_nums _ _ (by simpa using hj)]
  have hg : ((List.range (cols m * m.length * wid e)).map fun j => by8 e (lvl (bitsN e) (smpAt m (spotAt p m.length (cols m) (j / wid e)))) (j % wid e)).getD j 0 = by8 e (lvl (bitsN e) (smpAt m (spotAt p m.length (cols m) (j / wid e)))) (j % wid e) := by
    simp [List.getD, hj]
  rw [hg]
  have := by8_bd e (lvl (bitsN e) (smpAt m (spotAt p m.length (cols m) (j / wid e)))) (j % wid e)
  omega
theorem bytesOf_size {e : Nat} {p : Bool} {m : List (List Int)} : (bytesOf e p m).size = m.length * cols m * wid e := by
  unfold bytesOf
  rw [laidS_size, Nat.mul_comm, Nat.mul_comm (cols m)]
theorem lvl_top {e : Nat} (h1 : 1 ≤ e) (h8 : e ≤ 8) (s : Int) : -topN (bitsN e) ≤ lvl (bitsN e) s ∧ lvl (bitsN e) s ≤ topN (bitsN e) := by
  have hb : ∀ x t : Int, 0 ≤ t → -t ≤ bnd x t ∧ bnd x t ≤ t := fun x t h => by unfold bnd; omega
  exact eightN h1 h8 (p := fun e => -topN (bitsN e) ≤ lvl (bitsN e) s ∧ lvl (bitsN e) s ≤ topN (bitsN e))
    (by rw [show topN (bitsN 1) = 127 from topN8]; exact hb _ 127 (by decide)) (by rw [show topN (bitsN 2) = 127 from topN8]; exact hb _ 127 (by decide))
    (by rw [show topN (bitsN 3) = 32767 from topN16]; exact hb _ 32767 (by decide)) (by rw [show topN (bitsN 4) = 32767 from topN16]; exact hb _ 32767 (by decide))
    (by rw [show topN (bitsN 5) = 8388607 from topN24]; exact hb _ 8388607 (by decide)) (by rw [show topN (bitsN 6) = 8388607 from topN24]; exact hb _ 8388607 (by decide))
    (by rw [show topN (bitsN 7) = 2147483647 from topN32]; exact hb _ 2147483647 (by decide)) (by rw [show topN (bitsN 8) = 2147483647 from topN32]; exact hb _ 2147483647 (by decide))

/-- What comes back of a sample. -/
theorem decV_back {e : Nat} (h1 : 1 ≤ e) (h8 : e ≤ 8) {p : Bool} {m : List (List Int)} (hc : ∀ j, j < m.length → (m.getD j []).length = cols m) {x : Nat × Nat} (hx1 : x.1 < m.length) (hx2 : x.2 < cols m) :
    decV e p m.length (cols m) (bytesOf e p m) x = smp (bitsN e) (lvl (bitsN e) (smpAt m x)) := by
  have ht := lvl_top h1 h8 (smpAt m x)
  have hpl := place_lt (p := p) hx1 hx2
  have hw : 1 ≤ wid e := by unfold wid; omega
  have hP : placeOf p m.length (cols m) x * wid e + wid e ≤ cols m * m.length * wid e := by
    calc placeOf p m.length (cols m) x * wid e + wid e = (placeOf p m.length (cols m) x + 1) * wid e := by rw [Nat.add_mul, Nat.one_mul]
      _ ≤ cols m * m.length * wid e := Nat.mul_le_mul_right _ (by rw [Nat.mul_comm (cols m)]; exact hpl)
  unfold decV
  rw [getN_by8 h1 h8 _ (lvl (bitsN e) (smpAt m x)) ht.1 ht.2 (fun i hi => ?_)]
  · congr 1
    unfold bnd; omega
  · have hsz : (bytesOf e p m).size = cols m * m.length * wid e := by rw [bytesOf_size, Nat.mul_comm m.length]
    rw [bytN_extract _ _ _ (by rw [hsz]; omega), bytesOf_byte h1 hc (by omega)]
    rw [divE hi, Nat.mul_add_mod_of_lt hi, spot_place hx1 hx2]

/-- How far a sample may be off: what the document's example of the way back tells. -/
def unitN (e : Nat) : Int := if e ≤ 2 then 65536 else if e ≤ 4 then 256 else 1
def nearP (u s r : Int) : Prop := (u = 1 → r = s) ∧ (max s (-s) < 8388607 - u → max (r - s) (-(r - s)) ≤ u / 2) ∧ okS r
theorem near8 {s : Int} (hs : okS s) : nearP 65536 s (bnd (bnd (rnd s 65536) 127 * 65536) 8388607) := by
  unfold nearP okS bnd rnd at *
  split <;> omega
theorem near16 {s : Int} (hs : okS s) : nearP 256 s (bnd (bnd (rnd s 256) 32767 * 256) 8388607) := by
  unfold nearP okS bnd rnd at *
  split <;> omega
theorem near24 {s : Int} (hs : okS s) : nearP 1 s (bnd (bnd s 8388607) 8388607) := by
  unfold nearP okS bnd at *
  omega
theorem near32 {s : Int} (hs : okS s) : nearP 1 s (bnd (rnd (bnd (s * 256) 2147483647) 256) 8388607) := by
  have h : bnd (s * 256) 2147483647 = s * 256 := by unfold okS bnd at *; omega
  rw [h]
  unfold nearP okS bnd rnd at *
  split <;> omega
theorem near {e : Nat} (h1 : 1 ≤ e) (h8 : e ≤ 8) {s : Int} (hs : okS s) : nearP (unitN e) s (smp (bitsN e) (lvl (bitsN e) s)) :=
  eightN h1 h8 (p := fun e => nearP (unitN e) s (smp (bitsN e) (lvl (bitsN e) s))) (near8 hs) (near8 hs) (near16 hs) (near16 hs) (near24 hs) (near24 hs) (near32 hs) (near32 hs)
end Go.Proofs.Ytegomicpolnpoaa
