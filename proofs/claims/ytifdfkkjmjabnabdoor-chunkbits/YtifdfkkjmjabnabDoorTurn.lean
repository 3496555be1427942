/- A stamped packet of which up to four neighbouring bytes behind the twelfth are changed is not stamped. Nothing of the program. -/
import Derived.Test.YtifdfkkjmjabnabDoorStamped
import Derived.Test.YtifdfkkjmjabnabDoorLin
namespace Go.Proofs.YtifdfkkjmjabnabDoor
open Go.RowKit
theorem ext_getD {xs ys : List Nat} (hl : xs.length = ys.length) (h : ∀ i, i < xs.length → xs.getD i 0 = ys.getD i 0) : xs = ys := by
  apply List.ext_getElem hl
  intro i h1 h2
  have := h i h1
  simpa [List.getD_eq_getElem?_getD, h1, h2] using this
theorem le4_len (x : Nat) : (le4 x).length = 4 := rfl
theorem le4_inj {x y : Nat} (hx : x < 4294967296) (hy : y < 4294967296) (h : ∀ i, i < 4 → (le4 x).getD i 0 = (le4 y).getD i 0) : x = y := by
  have h0 := h 0 (by omega)
  have h1 := h 1 (by omega)
  have h2 := h 2 (by omega)
  have h3 := h 3 (by omega)
  simp only [le4, List.getD_cons_zero, List.getD_cons_succ] at h0 h1 h2 h3
  omega
theorem blank_getD (zs : List Nat) (h : 12 ≤ zs.length) (i : Nat) : (blank zs).getD i 0 = if 8 ≤ i ∧ i < 12 then 0 else zs.getD i 0 := by
  unfold blank
  rw [lay_getD zs 8 [0, 0, 0, 0] (by simpa using h)]
  show (if 8 ≤ i ∧ i < 12 then _ else _) = _
  by_cases h1 : 8 ≤ i ∧ i < 12
  · rw [if_pos h1, if_pos h1]
    rcases (show i = 8 ∨ i = 9 ∨ i = 10 ∨ i = 11 by omega) with rfl | rfl | rfl | rfl <;> rfl
  · rw [if_neg h1, if_neg h1]
theorem stampV_getD (zs : List Nat) (h : 12 ≤ zs.length) (i : Nat) : (stampV zs).getD i 0 = if 8 ≤ i ∧ i < 12 then (le4 (crc (blank zs))).getD (i - 8) 0 else zs.getD i 0 := by
  unfold stampV
  rw [if_neg (by omega), lay_getD _ 8 _ (by rw [blank_len zs h, le4_len]; omega), le4_len]
  by_cases h1 : 8 ≤ i ∧ i < 12
  · rw [if_pos (by omega), if_pos h1]
  · rw [if_neg (by omega), if_neg h1, blank_getD zs h, if_neg h1]
/-- Two packets that are the same but for their sums have one blank. -/
theorem blank_stamp (zs : List Nat) (h : 12 ≤ zs.length) : blank (stampV zs) = blank zs := by
  have hl := stampV_len zs h
  apply ext_getD (by rw [blank_len _ (by omega), blank_len zs h, hl])
  intro i _
  rw [blank_getD _ (by omega), blank_getD zs h, stampV_getD zs h]
  split
  · rfl
  · rfl
theorem stamp_stamp (zs : List Nat) (h : 12 ≤ zs.length) : stampV (stampV zs) = stampV zs := by
  have hl := stampV_len zs h
  apply ext_getD (by rw [stampV_len _ (by omega)])
  intro i _
  rw [stampV_getD _ (by omega), blank_stamp zs h, stampV_getD zs h]
  split <;> rfl
theorem stamped_stamp (zs : List Nat) (h : 12 ≤ zs.length) : stampedB (stampV zs) = true := by
  have hl := stampV_len zs h
  unfold stampedB
  rw [if_neg (by omega), stamp_stamp zs h]
  simp
theorem xorL_getD (xs : List Nat) : ∀ (ys : List Nat) (i : Nat), xs.length = ys.length → (xorL xs ys).getD i 0 = xs.getD i 0 ^^^ ys.getD i 0 := by
  induction xs with
  | nil => intro ys i h; cases ys with
    | nil => simp [xorL]
    | cons y ys => simp at h
  | cons x xs ih => intro ys i h; cases ys with
    | nil => simp at h
    | cons y ys =>
      cases i with
      | zero => simp [xorL]
      | succ i =>
        have := ih ys i (by simpa using h)
        simpa [xorL, List.getD_cons_succ] using this
/-- What the turns make of the packet: byte q is changed by bs, from p on. -/
def Turned (c X : List Nat) (p m : Nat) (bs : List Nat) : Prop := X.length = c.length ∧ ∀ q, q < c.length → X.getD q 0 = if p ≤ q ∧ q < p + m then c.getD q 0 ^^^ bs.getD (q - p) 0 else c.getD q 0
theorem turned_not (zs X bs : List Nat) (p m : Nat) (h : 12 ≤ zs.length) (hp : 12 ≤ p) (hm : m ≤ 4) (hpm : p + m ≤ zs.length) (hX : Turned (stampV zs) X p m bs) (hb : ∀ i, bs.getD i 0 < 256) (hXb : ∀ i, X.getD i 0 < 256)
    (hs : stampedB X = true) : ∀ i, i < m → bs.getD i 0 = 0 := by
  have hl := stampV_len zs h
  obtain ⟨hXl, hXg⟩ := hX
  have hX12 : 12 ≤ X.length := by omega
  have hSl := stampV_len X hX12
  have hsame : stampV X = X := by
    unfold stampedB at hs
    rw [if_neg (by omega)] at hs
    have e : (strOf (stampV X)).toList = (strOf X).toList := by simpa using hs
    have e2 : strOf (stampV X) = strOf X := by
      rw [ByteArray.toList_eq, ByteArray.toList_eq] at e
      exact ByteArray.ext (Array.toList_inj.1 e)
    refine strOf_inj (fun i => ?_) hXb e2
    rw [stampV_getD X hX12]
    split
    · have hc : ∀ j, (le4 (crc (blank X))).getD j 0 < 256 := by
        apply getD_bnd
        simp only [le4, List.all_cons, List.all_nil, Bool.and_true, Bool.and_eq_true, decide_eq_true_eq]
        omega
      exact hc _
    · exact hXb i
  have hcrc : crc (blank X) = crc (blank zs) := by
    apply le4_inj (crc_lt _) (crc_lt _)
    intro i hi
    have e1 := stampV_getD X hX12 (8 + i)
    rw [hsame, if_pos (by omega), show 8 + i - 8 = i from by omega] at e1
    have e2 := hXg (8 + i) (by omega)
    rw [if_neg (by omega), stampV_getD zs h, if_pos (by omega), show 8 + i - 8 = i from by omega] at e2
    rw [← e1, e2]
  have hbl : (blank X).length = (blank zs).length := by rw [blank_len X hX12, blank_len zs h, hXl, hl]
  have h0 := crc_same (blank X) (blank zs) hbl hcrc
  have hn : (blank zs).length = zs.length := blank_len zs h
  have hD : xorL (blank X) (blank zs) = List.replicate p 0 ++ ((List.range m).map (fun i => bs.getD i 0) ++ List.replicate (zs.length - p - m) 0) := by
    apply ext_getD
    · rw [xorL_len _ _ hbl]; simp; omega
    · intro q hq
      rw [xorL_len _ _ hbl, hbl, hn] at hq
      rw [xorL_getD _ _ _ hbl, blank_getD X hX12, blank_getD zs h, getD_app, getD_app]
      simp only [List.length_replicate, List.length_map, List.length_range]
      have hrep : ∀ a b, (List.replicate a 0).getD b 0 = 0 := by
        intro a b; simp only [List.getD_eq_getElem?_getD, List.getElem?_replicate]; split <;> rfl
      by_cases h1 : 8 ≤ q ∧ q < 12
      · rw [if_pos h1, if_pos h1, if_pos (by omega), hrep]; rfl
      · rw [if_neg h1, if_neg h1, hXg q (by omega), stampV_getD zs h, if_neg h1]
        by_cases h2 : q < p
        · rw [if_neg (by omega), if_pos h2, hrep, Nat.xor_self]
        · rw [if_neg h2]
          by_cases h3 : q < p + m
          · rw [if_pos (by omega), if_pos (by omega)]
            have e : ((List.range m).map (fun i => bs.getD i 0)).getD (q - p) 0 = bs.getD (q - p) 0 := by
              simp [List.getD_eq_getElem?_getD, show q - p < m from by omega]
            rw [e, Nat.xor_comm (zs.getD q 0), Nat.xor_assoc, Nat.xor_self, Nat.xor_zero]
          · rw [if_neg (by omega), if_neg (by omega), hrep, Nat.xor_self]
  rw [hD] at h0
  have := burst p (zs.length - p - m) ((List.range m).map (fun i => bs.getD i 0)) (by simpa using hm) (fun z hz => by
    obtain ⟨i, _, rfl⟩ := List.mem_map.1 hz
    exact hb i) h0
  intro i hi
  exact this _ (List.mem_map.2 ⟨i, List.mem_range.2 hi, rfl⟩)
theorem turned_same (c X bs : List Nat) (p m : Nat) (hX : Turned c X p m bs) (h0 : ∀ i, i < m → bs.getD i 0 = 0) : X = c := by
  obtain ⟨hXl, hXg⟩ := hX
  apply ext_getD hXl
  intro q hq
  rw [hXg q (by omega)]
  by_cases h : p ≤ q ∧ q < p + m
  · rw [if_pos h, h0 _ (by omega), Nat.xor_zero]
  · rw [if_neg h]
theorem turned_step (c X bs : List Nat) (p m : Nat) (hX : Turned c X p m bs) (hp : p + m < c.length) : Turned c (X.set (p + m) (X.getD (p + m) 0 ^^^ bs.getD m 0)) p (m + 1) bs := by
  obtain ⟨hXl, hXg⟩ := hX
  refine ⟨by simp [hXl], fun q hq => ?_⟩
  have e3 : ∀ y, (X.set (p + m) y).getD q 0 = if q = p + m then y else X.getD q 0 := by
    intro y
    simp only [List.getD_eq_getElem?_getD, List.getElem?_set]
    by_cases h : q = p + m
    · subst h; rw [if_pos rfl, if_pos rfl, if_pos (by omega)]; rfl
    · rw [if_neg (fun e => h e.symm), if_neg h]
  rw [e3]
  by_cases h : q = p + m
  · subst h
    rw [if_pos rfl, if_pos (by omega), hXg (p + m) hq, if_neg (by omega), show p + m - p = m from by omega]
  · rw [if_neg h, hXg q hq]
    by_cases h2 : p ≤ q ∧ q < p + m
    · rw [if_pos h2, if_pos (by omega)]
    · rw [if_neg h2, if_neg (by omega)]
/-- Has one of the first i bytes turned something? -/
def tb (bs : List Nat) : Nat → Bool
  | 0 => false
  | i + 1 => tb bs i || (bs.getD i 0 != 0)
theorem tb_false (bs : List Nat) : ∀ m, tb bs m = false → ∀ i, i < m → bs.getD i 0 = 0 := by
  intro m
  induction m with
  | zero => intro _ i hi; omega
  | succ m ih =>
    intro h i hi
    simp only [tb, Bool.or_eq_false_iff, bne_eq_false_iff_eq] at h
    rcases Nat.lt_or_ge i m with h1 | h1
    · exact ih h.1 i h1
    · have : i = m := by omega
      subst this; exact h.2
theorem tb_true (bs : List Nat) : ∀ m, tb bs m = true → ¬ ∀ i, i < m → bs.getD i 0 = 0 := by
  intro m
  induction m with
  | zero => intro h; cases h
  | succ m ih =>
    intro h hall
    simp only [tb, Bool.or_eq_true, bne_iff_ne, ne_eq] at h
    rcases h with h | h
    · exact ih h (fun i hi => hall i (by omega))
    · exact h (hall m (by omega))
/-- The whole of it: the packet is told to be stamped just if nothing was turned. -/
theorem turned_told (zs X bs : List Nat) (p m : Nat) (h : 12 ≤ zs.length) (hp : 12 ≤ p) (hm : m ≤ 4) (hpm : p + m ≤ zs.length) (hX : Turned (stampV zs) X p m bs) (hb : ∀ i, bs.getD i 0 < 256) (hXb : ∀ i, X.getD i 0 < 256) :
    stampedB X = !tb bs m := by
  cases ht : tb bs m with
  | false => rw [turned_same _ _ _ _ _ hX (tb_false bs m ht), stamped_stamp zs h]; rfl
  | true =>
    cases hs : stampedB X with
    | false => rfl
    | true => exact absurd (turned_not zs X bs p m h hp hm hpm hX hb hXb hs) (tb_true bs m ht)
end Go.Proofs.YtifdfkkjmjabnabDoor
