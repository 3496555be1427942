/- The text of an address, as bytes; octet.Addr's answer letter by letter over bytes; Addr of the text is the address, and what is taken is the text of it. No program in it but octet.Addr's own reading. -/
import Derived.Test.YtaakkibohkckaaaDoorAddr
namespace Go.Proofs.YtaakkibohkckaaaDoor
open Go.RowKit
/-- A number below 256 in digits. -/
def dig (n : Nat) : List Nat := if n < 10 then [48 + n] else if n < 100 then [48 + n / 10, 48 + n % 10] else [48 + n / 100, 48 + n / 10 % 10, 48 + n % 10]
/-- The numbers ahead, each with its point. -/
def aheadT : Nat → Nat → List Nat
  | 0, _ => []
  | k + 1, a => aheadT k (a / 256) ++ (dig (a % 256) ++ [46])
def adText (a : Nat) : List Nat := aheadT 3 (a / 256) ++ dig (a % 256)
/-- Bytes read as the text of an address. -/
def lrun : List Nat → Nat → Ad → Nat × Nat × Nat
  | [], place, st => if st.begun = true ∧ st.points = 3 then (st.ahead * 256 + st.number, 0, 0) else (0, place, 3)
  | b :: t, place, st => match st.take b with
    | none => (0, place, 4)
    | some st' => lrun t (place + 1) st'
def natsOf (s : ByteArray) : List Nat := s.data.toList.map UInt8.toNat
theorem take_big (st : Ad) (r : Nat) (h : 128 ≤ r) : st.take r = none := by
  unfold Ad.take
  rw [if_neg (by omega), if_pos (by omega)]
theorem natsOf_drop (s : ByteArray) (pos : Nat) (h : pos < s.size) : (natsOf s).drop pos = (s[pos]'h).toNat :: (natsOf s).drop (pos + 1) := by
  have hl : pos < (natsOf s).length := by simpa [natsOf] using h
  rw [List.drop_eq_getElem_cons hl]
  congr 1
  simp [natsOf]
  rfl
theorem adRun_lrun (s : ByteArray) : ∀ f pos place st, s.size < pos + f → pos ≤ s.size → adRun s f pos place st = lrun ((natsOf s).drop pos) place st := by
  intro f
  induction f with
  | zero => intro pos place st h1 h2; omega
  | succ f ih =>
    intro pos place st h1 h2
    by_cases hp : pos < s.size
    · rw [natsOf_drop s pos hp]
      by_cases ha : (s[pos]'hp).toNat < 128
      · rw [adRun, if_pos hp, decode_ascii s pos hp ha, lrun]
        cases htk : st.take (s[pos]'hp).toNat with
        | none => rfl
        | some st' => exact ih (pos + 1) (place + 1) st' (by omega) (by omega)
      · have hd := decode_high s pos hp (by omega)
        rw [adRun, if_pos hp, lrun, take_big st _ hd.1, take_big st _ (by omega)]
    · have hz : (natsOf s).drop pos = [] := List.drop_of_length_le (by simp only [natsOf, List.length_map, Array.length_toList]; show s.size ≤ pos; omega)
      rw [hz, adRun, if_neg hp, lrun]
theorem adOf_lrun (s : ByteArray) : adOf s = lrun (natsOf s) 0 ⟨0, 0, 0, false⟩ := by
  unfold adOf
  rw [adRun_lrun s _ 0 0 _ (by omega) (by omega), List.drop_zero]
theorem take_dig (st : Ad) (d : Nat) (hd : d ≤ 9) : st.take (48 + d) = st.digit d := by
  unfold Ad.take
  rw [if_neg (by omega), if_neg (by omega)]
  congr 1
  omega
theorem take_pt (st : Ad) : st.take 46 = st.point := by
  unfold Ad.take
  rw [if_pos rfl]
theorem lrun_dig (n : Nat) (hn : n < 256) (rest : List Nat) (place ah pts : Nat) : ∃ p2, lrun (dig n ++ rest) place ⟨ah, pts, 0, false⟩ = lrun rest p2 ⟨ah, pts, n, true⟩ := by
  unfold dig
  by_cases h1 : n < 10
  · refine ⟨place + 1, ?_⟩
    rw [if_pos h1, List.cons_append, List.nil_append, lrun, take_dig _ _ (by omega), Ad.digit, if_neg (by simp; omega)]
    simp
  · rw [if_neg h1]
    by_cases h2 : n < 100
    · refine ⟨place + 1 + 1, ?_⟩
      rw [if_pos h2]
      simp only [List.cons_append, List.nil_append]
      rw [lrun, take_dig _ _ (by omega), Ad.digit, if_neg (by simp; omega)]
      simp only
      rw [lrun, take_dig _ _ (by omega), Ad.digit, if_neg (by simp only; omega)]
      simp only
      rw [show (0 * 10 + n / 10) * 10 + n % 10 = n from by omega]
    · refine ⟨place + 1 + 1 + 1, ?_⟩
      rw [if_neg h2]
      simp only [List.cons_append, List.nil_append]
      rw [lrun, take_dig _ _ (by omega), Ad.digit, if_neg (by simp; omega)]
      simp only
      rw [lrun, take_dig _ _ (by omega), Ad.digit, if_neg (by simp only; omega)]
      simp only
      rw [lrun, take_dig _ _ (by omega), Ad.digit, if_neg (by simp only; omega)]
      simp only
      rw [show ((0 * 10 + n / 100) * 10 + n / 10 % 10) * 10 + n % 10 = n from by omega]
theorem lrun_pt (n : Nat) (rest : List Nat) (place ah pts : Nat) (hp : pts < 3) : lrun (46 :: rest) place ⟨ah, pts, n, true⟩ = lrun rest (place + 1) ⟨ah * 256 + n, pts + 1, 0, false⟩ := by
  rw [lrun, take_pt, Ad.point, if_pos ⟨rfl, by simp only; omega⟩]
theorem lrun_text (a : Nat) (ha : a < 4294967296) : lrun (adText a) 0 ⟨0, 0, 0, false⟩ = (a, 0, 0) := by
  unfold adText
  simp only [aheadT, List.nil_append, List.append_assoc]
  obtain ⟨p1, e1⟩ := lrun_dig (a / 256 / 256 / 256 % 256) (by omega) ([46] ++ (dig (a / 256 / 256 % 256) ++ ([46] ++ (dig (a / 256 % 256) ++ ([46] ++ dig (a % 256)))))) 0 0 0
  rw [e1, List.singleton_append, lrun_pt _ _ _ _ _ (by omega)]
  obtain ⟨p2, e2⟩ := lrun_dig (a / 256 / 256 % 256) (by omega) ([46] ++ (dig (a / 256 % 256) ++ ([46] ++ dig (a % 256)))) (p1 + 1) (0 * 256 + a / 256 / 256 / 256 % 256) (0 + 1)
  rw [e2, List.singleton_append, lrun_pt _ _ _ _ _ (by omega)]
  obtain ⟨p3, e3⟩ := lrun_dig (a / 256 % 256) (by omega) ([46] ++ dig (a % 256)) (p2 + 1) ((0 * 256 + a / 256 / 256 / 256 % 256) * 256 + a / 256 / 256 % 256) (0 + 1 + 1)
  rw [e3, List.singleton_append, lrun_pt _ _ _ _ _ (by omega)]
  obtain ⟨p4, e4⟩ := lrun_dig (a % 256) (by omega) [] (p3 + 1) (((0 * 256 + a / 256 / 256 / 256 % 256) * 256 + a / 256 / 256 % 256) * 256 + a / 256 % 256) (0 + 1 + 1 + 1)
  rw [List.append_nil] at e4
  rw [e4, lrun, if_pos ⟨rfl, rfl⟩]
  simp only [Prod.mk.injEq, and_true]
  omega
/-- The text that has been read. -/
def txt (st : Ad) : List Nat := aheadT st.points st.ahead ++ (if st.begun = true then dig st.number else [])
theorem dig_more (n d : Nat) (hn : 1 ≤ n) (hd : d ≤ 9) (h : n * 10 + d ≤ 255) : dig (n * 10 + d) = dig n ++ [48 + d] := by
  unfold dig
  rw [if_neg (by omega)]
  by_cases h1 : n < 10
  · rw [if_pos h1, if_pos (by omega), List.singleton_append]
    rw [show (n * 10 + d) / 10 = n from by omega, show (n * 10 + d) % 10 = d from by omega]
  · rw [if_neg h1, if_pos (show n < 100 by omega), if_neg (by omega)]
    simp only [List.cons_append, List.nil_append]
    rw [show (n * 10 + d) / 100 = n / 10 from by omega, show (n * 10 + d) / 10 % 10 = n % 10 from by omega, show (n * 10 + d) % 10 = d from by omega]
theorem txt_take (st st' : Ad) (r : Nat) (hk : st.ok) (h0 : st.begun = false → st.number = 0) (h : st.take r = some st') : txt st' = txt st ++ [r] ∧ (st'.begun = false → st'.number = 0) := by
  have hn := hk.n
  unfold Ad.take at h
  by_cases h46 : r = 46
  · rw [if_pos h46] at h
    unfold Ad.point at h
    by_cases hc : st.begun = true ∧ st.points ≠ 3
    · rw [if_pos hc] at h
      injection h with h
      subst h
      refine ⟨?_, fun _ => rfl⟩
      unfold txt
      rw [if_pos hc.1]
      simp only [aheadT, Bool.false_eq_true, if_false, List.append_nil]
      rw [show (st.ahead * 256 + st.number) / 256 = st.ahead from by omega, show (st.ahead * 256 + st.number) % 256 = st.number from by omega, h46, List.append_assoc]
    · rw [if_neg hc] at h; cases h
  · rw [if_neg h46] at h
    by_cases hr : r < 48 ∨ 57 < r
    · rw [if_pos hr] at h; cases h
    · rw [if_neg hr] at h
      unfold Ad.digit at h
      by_cases hc : (st.begun = true ∧ st.number = 0) ∨ 255 < st.number * 10 + (r - 48)
      · rw [if_pos hc] at h; cases h
      · rw [if_neg hc] at h
        injection h with h
        subst h
        refine ⟨?_, fun e => by cases e⟩
        unfold txt
        simp only [if_true, List.append_assoc]
        congr 1
        cases hb : st.begun with
        | false =>
          have hz := h0 hb
          rw [hz]
          simp only [Bool.false_eq_true, if_false, List.nil_append]
          unfold dig
          rw [if_pos (by omega)]
          congr 1
          omega
        | true =>
          have hz : st.number ≠ 0 := fun e => hc (.inl ⟨hb, e⟩)
          rw [dig_more _ _ (by omega) (by omega) (by omega), if_pos rfl]
          congr 2
          omega
theorem lrun_back (l : List Nat) : ∀ place st y p, st.ok → (st.begun = false → st.number = 0) → lrun l place st = (y, p, 0) → txt st ++ l = adText y ∧ y < 4294967296 := by
  induction l with
  | nil =>
    intro place st y p hk h0 h
    rw [lrun] at h
    by_cases hc : st.begun = true ∧ st.points = 3
    · rw [if_pos hc] at h
      simp only [Prod.mk.injEq] at h
      obtain ⟨rfl, _, _⟩ := h
      have hs := hk.small
      have hn := hk.n
      refine ⟨?_, by omega⟩
      unfold txt adText
      rw [if_pos hc.1, hc.2, List.append_nil, show (st.ahead * 256 + st.number) / 256 = st.ahead from by omega, show (st.ahead * 256 + st.number) % 256 = st.number from by omega]
    · rw [if_neg hc] at h
      simp at h
  | cons b t ih =>
    intro place st y p hk h0 h
    rw [lrun] at h
    cases htk : st.take b with
    | none => rw [htk] at h; simp at h
    | some st' =>
      rw [htk] at h
      obtain ⟨e1, e2⟩ := txt_take st st' b hk h0 htk
      obtain ⟨e3, e4⟩ := ih _ st' y p (Ad.take_ok hk htk) e2 h
      refine ⟨?_, e4⟩
      rw [← e3, e1, List.append_assoc, List.singleton_append]
/-- The text as a Go string. -/
def adStr (a : Nat) : ByteArray := ⟨((adText a).map UInt8.ofNat).toArray⟩
theorem dig_bnd (n : Nat) (hn : n < 256) : ∀ x ∈ dig n, x < 256 := by
  unfold dig
  intro x hx
  split at hx
  · simp at hx; omega
  · split at hx <;> simp at hx <;> omega
theorem aheadT_bnd : ∀ k a, ∀ x ∈ aheadT k a, x < 256 := by
  intro k
  induction k with
  | zero => intro a x hx; simp [aheadT] at hx
  | succ k ih =>
    intro a x hx
    simp only [aheadT, List.mem_append, List.mem_singleton] at hx
    rcases hx with hx | hx | hx
    · exact ih _ x hx
    · exact dig_bnd _ (by omega) x hx
    · omega
theorem adText_bnd (a : Nat) : ∀ x ∈ adText a, x < 256 := by
  intro x hx
  unfold adText at hx
  rcases List.mem_append.1 hx with hx | hx
  · exact aheadT_bnd _ _ x hx
  · exact dig_bnd _ (by omega) x hx
theorem nats_back (l : List Nat) (h : ∀ x ∈ l, x < 256) : (l.map UInt8.ofNat).map UInt8.toNat = l := by
  rw [List.map_map]
  conv => rhs; rw [← List.map_id l]
  apply List.map_congr_left
  intro x hx
  have := h x hx
  simp [UInt8.toNat_ofNat']
  omega
theorem natsOf_adStr (a : Nat) : natsOf (adStr a) = adText a := by
  unfold natsOf adStr
  exact nats_back _ (adText_bnd a)
theorem adOf_adStr (a : Nat) (ha : a < 4294967296) : adOf (adStr a) = (a, 0, 0) := by
  rw [adOf_lrun, natsOf_adStr, lrun_text a ha]
theorem adOf_back (s : ByteArray) (h : (adOf s).2.2 = 0) : s = adStr (adOf s).1 ∧ (adOf s).1 < 4294967296 := by
  have e : lrun (natsOf s) 0 ⟨0, 0, 0, false⟩ = ((adOf s).1, (adOf s).2.1, 0) := by
    rw [← adOf_lrun, ← h]
  obtain ⟨e1, e2⟩ := lrun_back (natsOf s) 0 ⟨0, 0, 0, false⟩ _ _ ⟨by decide, by decide, by decide⟩ (fun _ => rfl) e
  refine ⟨?_, e2⟩
  have e3 : natsOf s = adText (adOf s).1 := by rw [← e1]; simp [txt, aheadT]
  unfold adStr
  rw [← e3]
  unfold natsOf
  rw [List.map_map]
  have : (UInt8.ofNat ∘ UInt8.toNat) = id := by funext x; simp
  rw [this, List.map_id]
end Go.Proofs.YtaakkibohkckaaaDoor
