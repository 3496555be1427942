/- The text of a card's address, letter by letter over bytes: what ether.Mac answers. No program in it. -/
import Derived.Test.YtplicfknjhjjgaaDoorUnhexE
import Derived.Test.YtplicfknjhjjgaaDoorEtMac
namespace Go.Proofs.YtplicfknjhjjgaaDoor
open Go.RowKit
theorem hexv_big (r : Nat) (h : 128 ≤ r) : hexv r = none := by
  unfold hexv
  rw [if_neg (by omega), if_neg (by omega), if_neg (by omega)]
def bu : List Nat → Nat → Nat → List Nat → List Nat × Nat × Nat
  | [], place, _, out => if place % 2 = 0 then (out, 0, 0) else ([], place, 3)
  | b :: t, place, high, out => match hexv b with
    | none => ([], place, 4)
    | some v => if place % 2 = 0 then bu t (place + 1) v out else bu t (place + 1) high (out ++ [high * 16 + v])
theorem uhRun_bu (s : ByteArray) : ∀ f pos place high out, s.size < pos + f → pos ≤ s.size → uhRun s f pos place high out = bu ((natsOf s).drop pos) place high out := by
  intro f
  induction f with
  | zero => intro pos place high out h1 h2; omega
  | succ f ih =>
    intro pos place high out h1 h2
    by_cases hp : pos < s.size
    · rw [natsOf_drop s pos hp]
      by_cases ha : (s[pos]'hp).toNat < 128
      · rw [uhRun, if_pos hp, decode_ascii s pos hp ha, bu]
        cases hexv (s[pos]'hp).toNat with
        | none => rfl
        | some v =>
          simp only
          rw [ih (pos + 1) (place + 1) v out (by omega) (by omega), ih (pos + 1) (place + 1) high (out ++ [high * 16 + v]) (by omega) (by omega)]
      · have hd := decode_high s pos hp (by omega)
        rw [uhRun, if_pos hp, bu, hexv_big _ hd.1, hexv_big _ (by omega)]
    · have hz : (natsOf s).drop pos = [] := List.drop_of_length_le (by simp only [natsOf, List.length_map, Array.length_toList]; show s.size ≤ pos; omega)
      rw [hz, uhRun, if_neg hp, bu]
/-- The text that ether.digit reads: a 0 and the letter. -/
def zl (r : Nat) : ByteArray := (⟨#[48]⟩ : ByteArray) ++ Utf8.encode (r : Int)
theorem enc_ascii (r : Nat) (h : r < 128) : Utf8.encode (r : Int) = ⟨#[UInt8.ofNat r]⟩ := by
  unfold Utf8.encode
  have hv : Utf8.valid (r : Int) = true := by unfold Utf8.valid; simp; omega
  simp only [hv, if_true, Int.toNat_natCast]
  rw [if_pos h]
theorem nats_app (s t : ByteArray) : natsOf (s ++ t) = natsOf s ++ natsOf t := by
  simp [natsOf]
theorem nats_len (s : ByteArray) : (natsOf s).length = s.size := by
  unfold natsOf
  rw [List.length_map, Array.length_toList]
  rfl
theorem enc_high (r : Nat) (h : 128 ≤ r) : ∃ b t, natsOf (Utf8.encode (r : Int)) = b :: t ∧ 128 ≤ b ∧ t.length ≤ 3 := by
  unfold Utf8.encode
  generalize hc : (if Utf8.valid (r : Int) then (r : Int).toNat else Utf8.runeError) = c
  have hc2 : 128 ≤ c ∧ c ≤ 1114111 := by
    rw [← hc]
    split
    · rename_i hv
      unfold Utf8.valid at hv
      simp at hv ⊢
      omega
    · unfold Utf8.runeError; omega
  dsimp only
  rw [if_neg (by omega)]
  split
  · exact ⟨_, _, rfl, by simp [UInt8.toNat_ofNat']; omega, by simp⟩
  · split
    · exact ⟨_, _, rfl, by simp [UInt8.toNat_ofNat']; omega, by simp⟩
    · exact ⟨_, _, rfl, by simp [UInt8.toNat_ofNat']; omega, by simp⟩
theorem zl_size (r : Nat) : (zl r).size ≤ 5 := by
  rw [← nats_len]
  unfold zl
  rw [nats_app, List.length_append, nats_len ⟨#[48]⟩]
  by_cases h : r < 128
  · rw [enc_ascii r h, nats_len]
    show 1 + 1 ≤ 5
    omega
  · obtain ⟨b, t, e, _, ht⟩ := enc_high r (by omega)
    rw [e]
    show 1 + (t.length + 1) ≤ 5
    omega
theorem uhOf_zl (r : Nat) : uhOf (zl r) = match hexv r with
    | some v => ([v], 0, 0)
    | none => ([], 1, 4) := by
  have hz := zl_size r
  unfold uhOf
  rw [if_neg (by omega), uhRun_bu _ _ 0 0 0 [] (by omega) (by omega), List.drop_zero]
  unfold zl
  rw [nats_app, show natsOf ⟨#[48]⟩ = [48] from rfl]
  have h48 : hexv 48 = some 0 := by decide
  by_cases h : r < 128
  · rw [enc_ascii r h, show natsOf ⟨#[UInt8.ofNat r]⟩ = [r] from by simp [natsOf, UInt8.toNat_ofNat']; omega]
    simp only [List.cons_append, List.nil_append, bu, h48]
    cases hexv r with
    | none => simp
    | some v => simp
  · obtain ⟨b, t, e, hb, _⟩ := enc_high r (by omega)
    rw [e, hexv_big r (by omega)]
    simp only [List.cons_append, List.nil_append, bu, h48, hexv_big b hb]
    simp
/-- Bytes read as the text of a card's address. -/
def mcF : List Nat → Nat → Nat → Nat × Nat × Nat
  | [], p, m => if p < 17 then (0, p, 3) else (m, 0, 0)
  | b :: t, p, m => if 17 ≤ p then (0, p, 4) else if p % 3 = 2 then (if b = 58 then mcF t (p + 1) m else (0, p, 4)) else match hexv b with
    | none => (0, p, 4)
    | some v => mcF t (p + 1) (m * 16 + v)
def mcOf (s : ByteArray) : Nat × Nat × Nat := mcF (natsOf s) 0 0
/-- What a letter does. -/
def mcStep (p m r : Nat) : Option Nat := if 17 ≤ p then none else if p % 3 = 2 then (if r = 58 then some m else none) else (hexv r).map fun v => m * 16 + v
theorem mcStep_big (p m r : Nat) (h : 128 ≤ r) : mcStep p m r = none := by
  unfold mcStep
  rw [hexv_big r h]
  split
  · rfl
  · split
    · rw [if_neg (by omega)]
    · rfl
theorem mcF_cons (b : Nat) (t : List Nat) (p m : Nat) : mcF (b :: t) p m = match mcStep p m b with
    | none => (0, p, 4)
    | some m' => mcF t (p + 1) m' := by
  rw [mcF]
  unfold mcStep
  split
  · rfl
  · split
    · split <;> rfl
    · cases hexv b <;> rfl
/-- How great what is read may be. -/
theorem mcStep_lt (p m r m' : Nat) (hm : m < 16 ^ (p - p / 3)) (h : mcStep p m r = some m') : m' < 16 ^ (p + 1 - (p + 1) / 3) ∧ p < 17 := by
  unfold mcStep at h
  split at h
  · cases h
  rename_i h17
  refine ⟨?_, by omega⟩
  split at h
  · rename_i h3
    split at h
    · injection h with h
      subst h
      rw [show p + 1 - (p + 1) / 3 = p - p / 3 from by omega]
      exact hm
    · cases h
  · rename_i h3
    cases hv : hexv r with
    | none => rw [hv] at h; cases h
    | some v =>
      rw [hv] at h
      have h' : m * 16 + v = m' := by injection h
      subst h'
      have := hexv_lt hv
      rw [show p + 1 - (p + 1) / 3 = (p - p / 3) + 1 from by omega, Nat.pow_succ]
      generalize 16 ^ (p - p / 3) = K at *
      omega
theorem mc_small (p : Nat) (h : p ≤ 17) : 16 ^ (p - p / 3) ≤ 281474976710656 := by
  have : 16 ^ (p - p / 3) ≤ 16 ^ 12 := Nat.pow_le_pow_right (by omega) (by omega)
  omega
end Go.Proofs.YtplicfknjhjjgaaDoor
