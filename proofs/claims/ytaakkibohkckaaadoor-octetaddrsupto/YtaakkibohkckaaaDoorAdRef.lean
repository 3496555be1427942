/- The reference's reading of an address, letter by letter, is octet.Addr's. -/
import Derived.Test.YtaakkibohkckaaaDoorPartVal
namespace Go.Proofs.YtaakkibohkckaaaDoor
open Go.RowKit
/-- The number's text so far. -/
def nowS (st : Ad) : ByteArray := if st.begun = true then numS st.number else ⟨#[]⟩
def nowN (st : Ad) : List Nat := if st.begun = true then dig st.number else []
theorem natsOf_app (x y : ByteArray) : natsOf (x ++ y) = natsOf x ++ natsOf y := by
  unfold natsOf
  simp
theorem natsOf_now (st : Ad) (hk : st.ok) : natsOf (nowS st) = nowN st := by
  have := hk.n
  unfold nowS nowN
  split
  · exact natsOf_numS _ (by omega)
  · rfl
theorem dig_small (n : Nat) (hn : n < 256) : ∀ x ∈ dig n, 48 ≤ x ∧ x ≤ 57 := by
  unfold dig
  intro x hx
  split at hx
  · simp at hx; omega
  · split at hx <;> simp at hx <;> omega
theorem dig_ne (n : Nat) : dig n ≠ [] := by
  unfold dig
  split
  · simp
  · split <;> simp
theorem dig_last (n : Nat) (h : 10 ≤ n) (hn : n < 256) : dig n = dig (n / 10) ++ [48 + n % 10] := by
  have := dig_more (n / 10) (n % 10) (by omega) (by omega) (by omega)
  rw [show n / 10 * 10 + n % 10 = n from by omega] at this
  exact this
theorem isNum_nats (x : ByteArray) : isNum x ↔ ∃ n, n < 256 ∧ dig n = natsOf x := by
  constructor
  · rintro ⟨n, hn, rfl⟩
    exact ⟨n, hn, (natsOf_numS n hn).symm⟩
  · rintro ⟨n, hn, e⟩
    exact ⟨n, hn, nats_inj (by rw [natsOf_numS n hn, e])⟩
/-- A number's digits and one sign more are a number's digits just where octet takes the sign. -/
theorem dig_step (st : Ad) (hk : st.ok) (h0 : st.begun = false → st.number = 0) (b : Nat) (hb : b ≠ 46) :
    (∃ n, n < 256 ∧ dig n = nowN st ++ [b]) ↔ ∃ st', st.take b = some st' := by
  have hn := hk.n
  have htk : st.take b = if b < 48 ∨ 57 < b then none else st.digit (b - 48) := by
    unfold Ad.take
    rw [if_neg hb]
  rw [htk]
  constructor
  · rintro ⟨n, hn2, e⟩
    have hbd : 48 ≤ b ∧ b ≤ 57 := dig_small n hn2 b (by rw [e]; simp)
    rw [if_neg (by omega)]
    unfold Ad.digit
    cases hbg : st.begun with
    | false =>
      rw [h0 hbg, if_neg (by simp; omega)]
      exact ⟨_, rfl⟩
    | true =>
      unfold nowN at e
      rw [if_pos hbg] at e
      by_cases h10 : n < 10
      · unfold dig at e
        rw [if_pos h10] at e
        have := congrArg List.length e
        simp at this
        split at this
        · simp at this
        · split at this <;> simp at this
      · rw [dig_last n (by omega) hn2] at e
        have e1 := List.append_inj_left' e rfl
        have e2 := List.append_inj_right' e rfl
        have e3 := dig_inj (by omega) (by omega) e1
        simp at e2
        rw [if_neg (by simp; omega)]
        exact ⟨_, rfl⟩
  · rintro ⟨st', h⟩
    by_cases hr : b < 48 ∨ 57 < b
    · rw [if_pos hr] at h; cases h
    · rw [if_neg hr] at h
      unfold Ad.digit at h
      by_cases hc : (st.begun = true ∧ st.number = 0) ∨ 255 < st.number * 10 + (b - 48)
      · rw [if_pos hc] at h; cases h
      · refine ⟨st.number * 10 + (b - 48), by omega, ?_⟩
        unfold nowN
        cases hbg : st.begun with
        | false =>
          rw [h0 hbg]
          unfold dig
          rw [if_pos (by omega)]
          simp
          omega
        | true =>
          have hz : st.number ≠ 0 := fun e => hc (.inl ⟨hbg, e⟩)
          rw [dig_more _ _ (by omega) (by omega) (by omega)]
          simp
          omega
theorem now_take (st st' : Ad) (hk : st.ok) (h0 : st.begun = false → st.number = 0) (b : Nat) (hb : b ≠ 46) (hb2 : b < 128) (h : st.take b = some st') : nowS st' = nowS st ++ one b ∧ st'.ahead = st.ahead ∧ st'.points = st.points := by
  have hn := hk.n
  have hk' := Ad.take_ok hk h
  have htk : st.take b = if b < 48 ∨ 57 < b then none else st.digit (b - 48) := by
    unfold Ad.take
    rw [if_neg hb]
  rw [htk] at h
  by_cases hr : b < 48 ∨ 57 < b
  · rw [if_pos hr] at h; cases h
  · rw [if_neg hr] at h
    unfold Ad.digit at h
    by_cases hc : (st.begun = true ∧ st.number = 0) ∨ 255 < st.number * 10 + (b - 48)
    · rw [if_pos hc] at h; cases h
    · rw [if_neg hc] at h
      injection h with h
      subst h
      refine ⟨?_, rfl, rfl⟩
      apply nats_inj
      rw [natsOf_now _ hk', natsOf_app, natsOf_now st hk, one_nats b (by omega)]
      unfold nowN
      simp only [if_true]
      cases hbg : st.begun with
      | false =>
        rw [h0 hbg]
        unfold dig
        rw [if_pos (by omega)]
        simp
        omega
      | true =>
        have hz : st.number ≠ 0 := fun e => hc (.inl ⟨hbg, e⟩)
        rw [dig_more _ _ (by omega) (by omega) (by omega)]
        simp
        omega
theorem isNum_one (st : Ad) (hk : st.ok) (h0 : st.begun = false → st.number = 0) (b : Nat) (hb : b ≠ 46) (hb2 : b < 128) : isNum (nowS st ++ one b) ↔ ∃ st', st.take b = some st' := by
  rw [isNum_nats, natsOf_app, natsOf_now st hk, one_nats b (by omega)]
  exact dig_step st hk h0 b hb
theorem isNum_bad (st : Ad) (hk : st.ok) (x : ByteArray) (hx : Bad x) : ¬ isNum (nowS st ++ x) := by
  rw [isNum_nats, natsOf_app, natsOf_now st hk]
  rintro ⟨n, hn, e⟩
  obtain ⟨b, r, hb, hb2, _⟩ := hx
  have := dig_small n hn b (by rw [e, hb]; simp)
  omega
theorem one_size (b : Nat) : (one b).size = 1 := rfl
theorem bad_size (x : ByteArray) (hx : Bad x) : 1 ≤ x.size := by
  obtain ⟨b, r, hb, _⟩ := hx
  have : (natsOf x).length = x.size := by simp [natsOf]
  rw [hb] at this
  simp at this
  omega
theorem bad_small (x : ByteArray) (hx : Bad x) : x.size ≤ 4 := by
  obtain ⟨b, r, hb, _, hr⟩ := hx
  have : (natsOf x).length = x.size := by simp [natsOf]
  rw [hb] at this
  simp at this
  omega
theorem one_toList (b : Nat) (hb : b < 128) : ((one b).toList == [46]) = decide (b = 46) := by
  rw [Lib.toList_data]
  by_cases h : b = 46
  · subst h; rfl
  · rw [decide_eq_false h]
    cases e : ((one b).data.toList == [46]) with
    | false => rfl
    | true =>
      have e1 := eq_of_beq e
      have e2 : natsOf (one b) = [46] := by unfold natsOf; rw [e1]; rfl
      rw [one_nats b (by omega)] at e2
      simp at e2
      exact absurd e2 h
theorem bad_toList (x : ByteArray) (hx : Bad x) : (x.toList == [46]) = false := by
  rw [Lib.toList_data]
  cases e : (x.data.toList == [46]) with
  | false => rfl
  | true =>
    have e1 := eq_of_beq e
    have e2 : natsOf x = [46] := by unfold natsOf; rw [e1]; rfl
    obtain ⟨b, r, hb, hb2, _⟩ := hx
    rw [hb] at e2
    simp at e2
    omega
theorem now_empty (st : Ad) (hk : st.ok) : (nowS st).toList.isEmpty = !st.begun := by
  rw [Lib.toList_data]
  unfold nowS
  cases h : st.begun with
  | false => rfl
  | true =>
    simp only [if_true]
    have : natsOf (numS st.number) = dig st.number := natsOf_numS _ (by have := hk.n; omega)
    cases e : (numS st.number).data.toList with
    | nil =>
      unfold natsOf at this
      rw [e] at this
      exact absurd this.symm (dig_ne _)
    | cons a b => rfl
theorem now_size (st : Ad) : (nowS st).size ≤ 3 := by
  unfold nowS
  split
  · exact numS_size _
  · exact Nat.zero_le _
end Go.Proofs.YtaakkibohkckaaaDoor
