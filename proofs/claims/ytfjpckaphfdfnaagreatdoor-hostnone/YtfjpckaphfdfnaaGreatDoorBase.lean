/- Plain mathematics of the sums, and how a slice of bytes lies in memory. Nothing of the program. -/
import Derived.Laws.BitsAllLaws
import Derived.WalkKit
import Derived.Below
namespace Go.Proofs.YtfjpckaphfdfnaaGreatDoor
open Go.RowKit
/-! ### CRC-32C -/
def cb (r x k : Nat) : Nat := (r / 2) ^^^ (2197175160 * ((r ^^^ (x / 2 ^ k)) % 2))
def cbits (r x : Nat) : Nat → Nat
  | 0 => r
  | k + 1 => cb (cbits r x k) x k
def cbyte (r x : Nat) : Nat := cbits r x 8
def crcReg (r : Nat) (zs : List Nat) : Nat := zs.foldl cbyte r
def crc (zs : List Nat) : Nat := 4294967295 - crcReg 4294967295 zs

theorem cb_lt (r x k : Nat) (hr : r < 4294967296) : cb r x k < 4294967296 := by
  have h2 : (r ^^^ (x / 2 ^ k)) % 2 < 2 := Nat.mod_lt _ (by omega)
  show _ < 2 ^ 32
  refine Nat.xor_lt_two_pow ?_ ?_
  · show r / 2 < 4294967296; omega
  · show 2197175160 * _ < 4294967296
    generalize (r ^^^ (x / 2 ^ k)) % 2 = y at h2
    omega
theorem cbits_lt (r x k : Nat) (hr : r < 4294967296) : cbits r x k < 4294967296 := by
  induction k with
  | zero => exact hr
  | succ k ih => exact cb_lt _ _ _ ih
theorem cbyte_lt (r x : Nat) (hr : r < 4294967296) : cbyte r x < 4294967296 := cbits_lt r x 8 hr
theorem crcReg_lt (zs : List Nat) : ∀ r, r < 4294967296 → crcReg r zs < 4294967296 := by
  induction zs with
  | nil => intro r h; exact h
  | cons z zs ih => intro r h; exact ih _ (cbyte_lt r z h)
theorem crcReg_snoc (r : Nat) (zs : List Nat) (z : Nat) : crcReg r (zs ++ [z]) = cbyte (crcReg r zs) z := by
  simp [crcReg, List.foldl_append]
theorem crc_lt (zs : List Nat) : crc zs < 4294967296 := by unfold crc; omega

theorem cb_eq (q x k : Nat) (hq : q < 4294967296) (hx : x < 256) :
    bits .xor .u32 ((q : Int) / 2) (2197175160 * bits .and .u32 (bits .xor .u32 (q : Int) ((x : Int) / 2 ^ k)) 1 % 4294967296) = ((cb q x k : Nat) : Int) := by
  have e1 : ((x : Int) / 2 ^ k) = ((x / 2 ^ k : Nat) : Int) := by norm_cast
  have hxk : x / 2 ^ k < 4294967296 := by
    have := Nat.div_le_self x (2 ^ k); omega
  have e2 : ((q : Int) / 2) = ((q / 2 : Nat) : Int) := by norm_cast
  have hx1 : q ^^^ (x / 2 ^ k) < 4294967296 := Nat.xor_lt_two_pow (n := 32) hq hxk
  rw [e1, e2, u32_xor_nat _ _ hq hxk]
  have e3 : bits .and .u32 ((q ^^^ (x / 2 ^ k) : Nat) : Int) 1 = (((q ^^^ (x / 2 ^ k)) % 2 : Nat) : Int) := by
    have := u32_and_nat (q ^^^ (x / 2 ^ k)) 1 hx1 (by omega)
    rw [nat_mask1] at this
    exact this
  rw [e3]
  have h2 : (q ^^^ (x / 2 ^ k)) % 2 < 2 := Nat.mod_lt _ (by omega)
  have e4 : (2197175160 * (((q ^^^ (x / 2 ^ k)) % 2 : Nat) : Int) % 4294967296) = ((2197175160 * ((q ^^^ (x / 2 ^ k)) % 2) : Nat) : Int) := by
    generalize (q ^^^ (x / 2 ^ k)) % 2 = y at h2
    omega
  rw [e4, u32_xor_nat]
  · rfl
  · omega
  · generalize (q ^^^ (x / 2 ^ k)) % 2 = y at h2
    omega
theorem xor_two (a b : Nat) : (a ^^^ b) % 2 = (a + b) % 2 := by
  have h : (a ^^^ b) % 2 = (a % 2) ^^^ (b % 2) := Nat.xor_mod_two_pow (n := 1)
  rw [h]
  rcases Nat.mod_two_eq_zero_or_one a with ha | ha <;> rcases Nat.mod_two_eq_zero_or_one b with hb | hb <;> rw [ha, hb] <;> simp <;> omega
/-- The reference's bit: the same, by a test. -/
theorem cb_ref (q x k : Nat) : cb q x k = if q % 2 = x / 2 ^ k % 2 then q / 2 else (q / 2) ^^^ 2197175160 := by
  unfold cb
  generalize x / 2 ^ k = y
  rw [xor_two]
  by_cases h : q % 2 = y % 2
  · rw [if_pos h, show (q + y) % 2 = 0 from by omega]; simp
  · rw [if_neg h, show (q + y) % 2 = 1 from by omega]

/-! ### The Internet's sum -/
def ar (s : Nat) : Nat := if s = 0 then 0 else (s - 1) % 65535 + 1
theorem ar_le (s : Nat) : ar s ≤ 65535 := by unfold ar; split <;> omega
theorem ar_small (s : Nat) (h : s ≤ 65535) : ar s = s := by unfold ar; split <;> omega
theorem ar_step (s : Nat) (h : 65535 < s) : ar (s / 65536 + s % 65536) = ar s := by
  unfold ar; rw [if_neg (by omega), if_neg (by omega)]; omega
theorem ar_add (a b : Nat) : ar (ar a + b) = ar (a + b) := by
  unfold ar; split
  · subst_vars; simp
  · rw [if_neg (by omega), if_neg (by omega)]; omega
theorem ar_add' (a b : Nat) : ar (a + ar b) = ar (a + b) := by rw [Nat.add_comm, ar_add, Nat.add_comm]
theorem ar_round (s : Nat) (h : 0 < s) : ar (s + 65535) = ar s := by
  unfold ar; rw [if_neg (by omega), if_neg (by omega)]; omega
theorem ar_two (a b : Nat) (ha : a ≤ 65535) (hb : b ≤ 65535) : ar (a + b) = if 65535 < a + b then a + b - 65535 else a + b := by
  unfold ar; split <;> split <;> omega
def wt (k : Nat) : Nat := if k % 2 = 0 then 256 else 1
def totTo (zs : List Nat) : Nat → Nat
  | 0 => 0
  | k + 1 => totTo zs k + zs.getD k 0 * wt k
def net (zs : List Nat) : Nat := 65535 - ar (totTo zs zs.length)
theorem net_le (zs : List Nat) : net zs ≤ 65535 := by unfold net; omega
def swap (s o i : Nat) : Nat := 65535 - ar ((65535 - s) + (65535 - o) + i)
theorem swap_le (s o i : Nat) : swap s o i ≤ 65535 := by unfold swap; omega

theorem not32_nat (q : Nat) (h : q < 4294967296) : 4294967295 ^^^ q = 4294967295 - q := by
  have h1 : (~~~(BitVec.ofNat 32 q)).toNat = 2 ^ 32 - 1 - (BitVec.ofNat 32 q).toNat := BitVec.toNat_not
  rw [BitVec.not_def, BitVec.toNat_xor, BitVec.toNat_allOnes, BitVec.toNat_ofNat, Nat.mod_eq_of_lt h] at h1
  exact h1
theorem not16_nat (q : Nat) (h : q < 65536) : 65535 ^^^ q = 65535 - q := by
  have h1 : (~~~(BitVec.ofNat 16 q)).toNat = 2 ^ 16 - 1 - (BitVec.ofNat 16 q).toNat := BitVec.toNat_not
  rw [BitVec.not_def, BitVec.toNat_xor, BitVec.toNat_allOnes, BitVec.toNat_ofNat, Nat.mod_eq_of_lt h] at h1
  exact h1
theorem not32 (q : Nat) (h : q < 4294967296) : bits .xor .u32 IntKind.u32.max (q : Int) = ((4294967295 - q : Nat) : Int) := by
  have := u32_xor_nat 4294967295 q (by omega) h
  rw [not32_nat q h] at this
  exact this
theorem not16 (q : Nat) (h : q < 65536) : bits .xor .u16 IntKind.u16.max (q : Int) = ((65535 - q : Nat) : Int) := by
  have := u16_xor_nat 65535 q (by omega) h
  rw [not16_nat q h] at this
  exact this
theorem and16 (q : Nat) (h : q < 4294967296) : bits .and .u32 (q : Int) 65535 = ((q % 65536 : Nat) : Int) := by
  have := u32_and_nat q 65535 h (by omega)
  rw [show q &&& 65535 = q % 65536 from Nat.and_two_pow_sub_one_eq_mod q 16] at this
  exact this
theorem totTo_app (zs ys : List Nat) (k : Nat) (h : k ≤ zs.length) : totTo (zs ++ ys) k = totTo zs k := by
  induction k with
  | zero => rfl
  | succ k ih =>
    show totTo (zs ++ ys) k + (zs ++ ys).getD k 0 * wt k = totTo zs k + zs.getD k 0 * wt k
    rw [ih (by omega)]
    simp [List.getD_eq_getElem?_getD, List.getElem?_append, show k < zs.length from by omega]
theorem totTo_snoc (zs : List Nat) (z : Nat) : totTo (zs ++ [z]) (zs.length + 1) = totTo zs zs.length + z * wt zs.length := by
  show totTo (zs ++ [z]) zs.length + (zs ++ [z]).getD zs.length 0 * wt zs.length = _
  rw [totTo_app zs [z] zs.length (Nat.le_refl _)]
  simp [List.getD_eq_getElem?_getD]
theorem net_pad (zs : List Nat) : net (zs ++ [0]) = net zs := by
  unfold net
  rw [List.length_append, List.length_singleton, totTo_snoc]
  simp
theorem net_own (zs : List Nat) (h : zs.length % 2 = 0) : net (zs ++ [net zs / 256, net zs % 256]) = 0 := by
  have e : zs ++ [net zs / 256, net zs % 256] = (zs ++ [net zs / 256]) ++ [net zs % 256] := by simp
  have hl : (zs ++ [net zs / 256]).length = zs.length + 1 := by simp
  have ht := totTo_snoc (zs ++ [net zs / 256]) (net zs % 256)
  rw [hl] at ht
  have ht2 := totTo_snoc zs (net zs / 256)
  have w1 : wt zs.length = 256 := by unfold wt; rw [if_pos h]
  have w2 : wt (zs.length + 1) = 1 := by unfold wt; rw [if_neg (by omega)]
  rw [w1] at ht2
  rw [w2, ht2] at ht
  rw [e]
  unfold net at *
  rw [List.length_append, hl, List.length_singleton, ht]
  have hle := ar_le (totTo zs zs.length)
  rw [show totTo zs zs.length + (65535 - ar (totTo zs zs.length)) / 256 * 256 + (65535 - ar (totTo zs zs.length)) % 256 * 1 = totTo zs zs.length + (65535 - ar (totTo zs zs.length)) from by omega]
  rw [← ar_add, show ar (totTo zs zs.length) + (65535 - ar (totTo zs zs.length)) = 65535 from by omega]
  rfl
/-! ### Lists -/
theorem take_snocN (zs : List Nat) (k : Nat) (h : k < zs.length) : zs.take (k + 1) = zs.take k ++ [zs.getD k 0] := by
  rw [List.take_succ_eq_append_getElem h]; simp [List.getD_eq_getElem?_getD, h]

theorem snoc_ind {P : List Nat → Prop} (h0 : P []) (h1 : ∀ l x, P l → P (l ++ [x])) : ∀ l, P l := by
  intro l
  rw [← List.reverse_reverse l]
  induction l.reverse with
  | nil => exact h0
  | cons x l ih => rw [List.reverse_cons]; exact h1 _ _ ih
theorem getD_app (zs ys : List Nat) (j : Nat) : (zs ++ ys).getD j 0 = if j < zs.length then zs.getD j 0 else ys.getD (j - zs.length) 0 := by
  simp only [List.getD_eq_getElem?_getD, List.getElem?_append]
  split <;> rfl
/-- Numbers as bytes. -/
def nb (ls : List Nat) : List Nat := ls.flatMap fun x => [x / 256, x % 256]
theorem nb_snoc (ls : List Nat) (x : Nat) : nb (ls ++ [x]) = nb ls ++ [x / 256, x % 256] := by simp [nb]
theorem nb_len (ls : List Nat) : (nb ls).length = 2 * ls.length := by
  induction ls with
  | nil => rfl
  | cons x ls ih => simp [nb] at *; omega
def sumN (ls : List Nat) : Nat := ls.foldl (· + ·) 0
theorem sumN_snoc (ls : List Nat) (x : Nat) : sumN (ls ++ [x]) = sumN ls + x := by simp [sumN, List.foldl_append]
theorem tot_nb (ls : List Nat) : totTo (nb ls) (2 * ls.length) = sumN ls := by
  refine snoc_ind (P := fun ls => totTo (nb ls) (2 * ls.length) = sumN ls) rfl (fun ls x ih => ?_) ls
  rw [nb_snoc, sumN_snoc, ← ih]
  have e : nb ls ++ [x / 256, x % 256] = (nb ls ++ [x / 256]) ++ [x % 256] := by simp
  have hl := nb_len ls
  have h1 := totTo_snoc (nb ls ++ [x / 256]) (x % 256)
  have h2 := totTo_snoc (nb ls) (x / 256)
  rw [List.length_append, List.length_singleton, hl] at h1
  rw [hl] at h2
  rw [h2] at h1
  have w1 : wt (2 * ls.length) = 256 := by unfold wt; rw [if_pos (by omega)]
  have w2 : wt (2 * ls.length + 1) = 1 := by unfold wt; rw [if_neg (by omega)]
  rw [w1, w2] at h1
  rw [e, List.length_append, List.length_singleton, show 2 * (ls.length + 1) = 2 * ls.length + 1 + 1 from by omega, h1]
  omega
theorem net_nb (ls : List Nat) : net (nb ls) = 65535 - ar (sumN ls) := by
  unfold net; rw [nb_len, tot_nb]
/-- A slice of integers of kind k, each below M, as it lies in the world: its elements are zs. -/
structure SlK (k : IntKind) (M : Nat) (w : World) (a : Option Addr) (n c : Nat) (zs : List Nat) : Prop where
  len : zs.length = n
  cap : n ≤ c
  room : c ≤ maxLen
  small : n ≤ 281474976710656
  nz : a = none → c = 0
  bnd : ∀ i, zs.getD i 0 < M
  at_ : n = 0 ∨ ∃ b off, a = some ⟨b, off, none⟩ ∧ b < w.heap.size ∧ ∀ i, i < n → w.cell? ⟨b, off + i, none⟩ = some (.int k (zs.getD i 0 : Nat))
/-- A slice of bytes. -/
abbrev Sl := SlK .u8 256
theorem SlK.below {k : IntKind} {M : Nat} {w w' : World} {a : Option Addr} {n c : Nat} {zs : List Nat} (h : SlK k M w a n c zs) (hb : Below w.heap.size w w') : SlK k M w' a n c zs := by
  obtain ⟨h1, h2, h3, hsm, hnz, h4, h5⟩ := h
  refine ⟨h1, h2, h3, hsm, hnz, h4, ?_⟩
  rcases h5 with h5 | ⟨b, off, rfl, hlt, hc⟩
  · exact .inl h5
  · refine .inr ⟨b, off, rfl, by have := hb.size; omega, fun i hi => ?_⟩
    rw [hb.cell (p := ⟨b, off + i, none⟩) hlt]; exact hc i hi
theorem SlK.alloc {k : IntKind} {M : Nat} {w : World} {a : Option Addr} {n c : Nat} {zs : List Nat} (h : SlK k M w a n c zs) (o : Obj) : SlK k M (w.alloc o) a n c zs :=
  h.below ((Below.refl _ _).alloc (Nat.le_refl _) _)
theorem SlK.lt {k : IntKind} {M : Nat} {w : World} {a : Option Addr} {n c : Nat} {zs : List Nat} (h : SlK k M w a n c zs) (b off : Nat) (hn : 0 < n) (e : a = some ⟨b, off, none⟩) : b < w.heap.size := by
  rcases h.at_ with h5 | ⟨b', off', e', hlt, _⟩
  · omega
  · rw [e] at e'; injection e' with e'; injection e' with e1; omega
theorem SlK.nil (k : IntKind) (M : Nat) (w : World) (hM : 0 < M) : SlK k M w none 0 0 [] :=
  ⟨rfl, Nat.zero_le _, by unfold maxLen; omega, by omega, fun _ => rfl, fun i => by simpa using hM, .inl rfl⟩
theorem SlK.of_ints {k : IntKind} {M : Nat} {w : World} {x : Addr} {n c : Nat} {zs : List Int} (hM : 0 < M) (hk : ∀ z : Int, (Lit.int k z).wf = true → 0 ≤ z ∧ z < M)
    (hl : n ≤ c) (hm : c ≤ maxLen) (hz : zs.length = c) (hs : n ≤ 281474976710656) (hcell : ∀ i, i < zs.length → w.cell? (x.add i) = some (.int k (zs.getD i 0))) (hw : ∀ z ∈ zs, (Lit.int k z).wf = true) :
    SlK k M w (some x) n c ((zs.take n).map Int.toNat) := by
  have hb : ∀ i, 0 ≤ zs.getD i 0 ∧ zs.getD i 0 < M := by
    intro i
    by_cases hi : i < zs.length
    · have := hk _ (hw _ (List.getElem_mem hi))
      simpa [List.getD_eq_getElem?_getD, hi] using this
    · simp [List.getD_eq_getElem?_getD, hi]; omega
  have hg : ∀ i, i < n → ((zs.take n).map Int.toNat).getD i 0 = (zs.getD i 0).toNat := by
    intro i hi
    have h1 : i < zs.length := by omega
    simp [List.getD_eq_getElem?_getD, hi, h1]
  refine ⟨by simp; omega, hl, hm, hs, (fun h => by cases h), fun i => ?_, ?_⟩
  · by_cases hi : i < n
    · rw [hg i hi]; have := hb i; omega
    · rw [List.getD_eq_getElem?_getD, List.getElem?_eq_none (by simp; omega)]; exact hM
  · by_cases h0 : n = 0
    · exact .inl h0
    · obtain ⟨b, off, spot⟩ := x
      have hc := hcell 0 (by omega)
      have hspot : spot = none := by simpa [Addr.add] using World.cell?_spot hc
      subst hspot
      have hlt := World.block_lt_of_cell? _ _ hc
      refine .inr ⟨b, off, rfl, hlt, fun i hi => ?_⟩
      have := hcell i (by omega)
      have ea : (⟨b, off, none⟩ : Addr).add i = ⟨b, off + i, none⟩ := by
        unfold Addr.add
        split
        · subst_vars; rfl
        · rfl
      rw [ea] at this
      rw [hg i hi]
      have hb' := hb i
      rw [show (((zs.getD i 0).toNat : Nat) : Int) = zs.getD i 0 from by omega]
      exact this
theorem getD_bnd (zs : List Nat) (h : zs.all (· < 256) = true) : ∀ i, zs.getD i 0 < 256 := by
  intro i
  by_cases hi : i < zs.length
  · have := List.all_eq_true.mp h (zs[i]) (List.getElem_mem hi)
    simp [List.getD_eq_getElem?_getD, hi] at *
    exact this
  · simp [List.getD_eq_getElem?_getD, hi]
theorem sl_new (w : World) (t : TypeId) (fr : Nat × Nat) (zs : List Nat) (hb : zs.all (· < 256) = true) (hn : zs.length ≤ 1000) (B : Nat) (hB : w.heap.size = B) :
    Sl (w.alloc (.cells (zs.map fun z => Value.int .u8 (z : Nat)).toArray t fr)) (some ⟨B, 0, none⟩) zs.length zs.length zs := by
  subst hB
  refine ⟨rfl, Nat.le_refl _, by unfold maxLen; omega, by omega, (fun h => by cases h), getD_bnd zs hb, .inr ⟨_, _, rfl, by simp, fun i hi => ?_⟩⟩
  rw [World.cell?_alloc_mark]
  simp [List.getD_eq_getElem?_getD, hi]
theorem sl_one (w : World) (t : TypeId) (x : Int) (a : Nat) (hx : x = (a : Int)) (ha : a < 256) :
    Sl (w.alloc (.cells #[.int .u8 x] t)) (some ⟨w.heap.size, 0, none⟩) 1 1 [a] := by
  subst hx
  exact sl_new w t (0, 0) [a] (by simp; omega) (by simp) _ rfl
theorem sl_two (w : World) (t : TypeId) (x y : Int) (a b : Nat) (hx : x = (a : Int)) (hy : y = (b : Int)) (ha : a < 256) (hb : b < 256) :
    Sl (w.alloc (.cells #[.int .u8 x, .int .u8 y] t)) (some ⟨w.heap.size, 0, none⟩) 2 2 [a, b] := by
  subst hx hy
  exact sl_new w t (0, 0) [a, b] (by simp; omega) (by simp) _ rfl
theorem below_set (w : World) (B o : Nat) (v : Value) : Below B w (w.setCell ⟨B, o, none⟩ v) := (Below.refl B w).setCell (p := ⟨B, o, none⟩) (Nat.le_refl B) v
theorem ret_int {k : IntKind} {a b : Int} (h : a = b) : Ending.returned (.int k a) = .returned (.int k b) := by rw [h]
end Go.Proofs.YtfjpckaphfdfnaaGreatDoor
