/- What ref08.Mac answers. -/
import Derived.Test.YtplicfknjhjjgaaDoorEtMacP
import Derived.Test.YtplicfknjhjjgaaDoorLetsE
import Derived.Test.YtplicfknjhjjgaaDoorDigitE
namespace Go.Proofs.YtplicfknjhjjgaaDoor
open Go.RowKit
theorem OwnS.form {w : World} {B : Nat} {v : Value} {n : Nat} {xs : List ByteArray} (h : OwnS w B v n xs) : (v = .slice none 0 0 ∧ n = 0) ∨ ∃ g c, v = .slice (some ⟨g, 0, none⟩) n c ∧ n ≤ c := by
  rcases h.2 with ⟨hv, h0⟩ | ⟨g, cap, cur, hv, _, _, hcap, _⟩
  · exact .inl ⟨hv, h0⟩
  · exact .inr ⟨g, cap, hv, hcap⟩
theorem digS_one (b : Nat) (hb : b < 256) : digS (one b) = hexv b := by
  unfold digS
  rw [one_nats b hb]
  rfl
theorem digS_bad (x : ByteArray) (h : Bad x) : digS x = none := by
  obtain ⟨b, r, hx, hb, _⟩ := h
  unfold digS
  rw [hx]
  cases r with
  | nil => exact hexv_big b hb
  | cons c t => rfl
theorem nats_col (x : ByteArray) : (x.toList == [58]) = decide (natsOf x = [58]) := by
  rw [Lib.toList_data]
  unfold natsOf
  rw [Bool.eq_iff_iff]
  simp only [beq_iff_eq, decide_eq_true_eq]
  constructor
  · intro h; rw [h]; rfl
  · intro h
    cases hx : x.data.toList with
    | nil => rw [hx] at h; cases h
    | cons u r =>
      rw [hx] at h
      injection h with h1 h2
      have hu : u = 58 := UInt8.toNat_inj.1 h1
      have hr : r = [] := List.map_eq_nil_iff.1 h2
      rw [hu, hr]
/-- A letter, and what stands behind it. -/
theorem LR_at (t : List Nat) (x : ByteArray) (M : List ByteArray) (h : LR t (x :: M)) : ∃ b t', t = b :: t' ∧ ((x.toList == [58]) = decide (b = 58)) ∧ digS x = hexv b ∧ (b < 128 → LR t' M) := by
  cases t with
  | nil => cases h
  | cons b t' =>
    obtain ⟨y, N, e, h⟩ := h
    injection e with e1 e2
    subst e1 e2
    refine ⟨b, t', rfl, ?_, ?_, ?_⟩
    · rw [nats_col]
      rcases h with ⟨hb, rfl, _⟩ | ⟨hb, c, r, hx, hc, _⟩
      · rw [one_nats b (by omega)]; simp
      · rw [hx]
        have e1 : ¬ (c :: r = [58]) := by intro e; injection e with e _; omega
        rw [decide_eq_false e1, decide_eq_false (by omega)]
    · rcases h with ⟨hb, rfl, _⟩ | ⟨hb, hbad⟩
      · exact digS_one b (by omega)
      · rw [digS_bad _ hbad, hexv_big b hb]
    · intro hb
      rcases h with ⟨_, _, hM⟩ | ⟨hb2, _⟩
      · exact hM
      · omega
set_option maxRecDepth 100000 in
set_option maxHeartbeats 2000000 in
theorem rmac_any (s : ByteArray) (w : World) (hs : s.size ≤ 4398046511104) (hT : Lib.Utf8Tabs 0 1 w) :
    Calls Tryd.prog 7 #[.string s] w fun e w' => e = .returned (.tuple #[.int .u64 ((mcOf s).1 : Nat), .int .i64 ((mcOf s).2.1 : Nat), .int .i64 ((mcOf s).2.2 : Nat)]) ∧ Below w.heap.size w w' := by
  go_enter Tryd.func7, Tryd.ntmps7
  go_wp2_with fail
  refine (letters_any s w hs hT).mono ?_
  rintro e w1 ⟨L, v, rfl, hown, hLR, hLs, hb1⟩
  obtain ⟨a1, c1, hv⟩ : ∃ a1 c1, v = .slice a1 L.length c1 := by
    rcases hown.form with ⟨hv, h0⟩ | ⟨g, c, hv, _⟩
    · exact ⟨none, 0, by rw [hv, h0]⟩
    · exact ⟨_, _, hv⟩
  subst hv
  obtain ⟨n, hn⟩ : ∃ n, n = L.length := ⟨_, rfl⟩
  rw [← hn] at hown ⊢
  have HN := (show Hid _ from hn)
  have hnb : n ≤ 4398046511104 := by omega
  have HLR : Hid (LR (natsOf s) L) := hLR
  clear hn hLR hLs hT
  go_wp2
  go_loopw [6, 7] (fun vm i wr => ∃ (j m : Nat) (t : List Nat), vm = .int .u64 m ∧ i = .int .i64 j ∧ j ≤ n ∧ j ≤ 17 ∧ Hid (LR t (L.drop j)) ∧ Hid (mcF t j m = mcOf s) ∧ Hid (m < 16 ^ (j - j / 3)) ∧ Below w1.heap.size w1 wr) (fun _ i _ => n - (intOf i).toNat)
  case atStart => exact ⟨0, 0, natsOf s, rfl, rfl, by omega, by omega, HLR.out, rfl, by show (0 : Nat) < 1; omega, Below.refl _ _⟩
  case round =>
    obtain ⟨j, m, t, rfl, rfl, hjn, hj17, HT, HR, HM, hbel⟩ := hrel
    have b01 : Below w.heap.size w wr := hb1.trans (hbel.mono hb1.size)
    by_cases hlt : j < n
    · have hji : (j : Int) < (n : Int) := by omega
      have hlL : j < L.length := by rw [← HN.out]; exact hlt
      obtain ⟨x, hx⟩ : ∃ x, x = L[j]'hlL := ⟨_, rfl⟩
      have hxo : L[j]? = some x := by rw [hx]; exact List.getElem?_eq_getElem hlL
      have hdr : L.drop j = x :: L.drop (j + 1) := by rw [hx]; exact List.drop_eq_getElem_cons hlL
      have HT2 := HT.out
      rw [hdr] at HT2
      obtain ⟨b, t', ht, hcol, hdg, hM⟩ := LR_at t x _ HT2
      have HST : Hid (mcOf s = match mcStep j m b with
          | none => (0, j, 4)
          | some m' => mcF t' (j + 1) m') := by show _ = _; rw [← HR.out, ht, mcF_cons]; rfl
      obtain ⟨g, hv1⟩ : ∃ g, a1 = some ⟨g, 0, none⟩ := by
        rcases hown.form with ⟨_, h0⟩ | ⟨g, c, hv, _⟩
        · omega
        · injection hv with e1; exact ⟨g, e1⟩
      subst hv1
      have hcell := (hown.below hbel).cells j x hxo
      rw [Nat.zero_add] at hcell
      clear HT HT2 hdr hx hxo ht HR
      by_cases h17 : 17 ≤ j
      · have HE : Hid (mcOf s = (0, j, 4)) := by show _ = _; rw [HST.out]; unfold mcStep; rw [if_pos h17]
        have h17i : (17 : Int) ≤ (j : Int) := by omega
        clear HST hcol hdg hM HM
        go_wp2
        go_ret3
        exact ⟨by rw [HE.out]; rfl, b01⟩
      have h17i : ¬ (17 : Int) ≤ (j : Int) := by omega
      by_cases h3 : j % 3 = 2
      · have h3i : ((j : Int) % 3 == 2) = true := by simp; omega
        have h3j : (j : Int) % 3 = 2 := by omega
        by_cases hb58 : b = 58
        · have HE : Hid (mcF t' (j + 1) m = mcOf s) := by show _ = _; rw [HST.out]; unfold mcStep; rw [if_neg h17, if_pos h3, if_pos hb58]
          have HML : Hid (m < 16 ^ (j + 1 - (j + 1) / 3)) := by
            show m < _
            rw [show j + 1 - (j + 1) / 3 = j - j / 3 from by omega]
            exact HM.out
          have HL2 : Hid (LR t' (L.drop (j + 1))) := hM (by omega)
          have hxd : (x.toList == [58]) = true := by rw [hcol]; exact decide_eq_true hb58
          have hxn : (x.toList != [58]) = false := by unfold bne; rw [hxd]; rfl
          clear HST hcol hdg hM HM hb58 h3
          go_wp2
          go_roundw
          case rel => exact ⟨j + 1, m, t', rfl, by go_num, by omega, by omega, HL2, HE, HML, hbel⟩
          case measure => simp [intOf]; omega
        · have HE : Hid (mcOf s = (0, j, 4)) := by show _ = _; rw [HST.out]; unfold mcStep; rw [if_neg h17, if_pos h3, if_neg hb58]
          have hxd : (x.toList == [58]) = false := by rw [hcol]; exact decide_eq_false hb58
          have hxn : (x.toList != [58]) = true := by unfold bne; rw [hxd]; rfl
          clear HST hcol hdg hM HM hb58 h3
          go_wp2
          go_ret3
          exact ⟨by rw [HE.out]; rfl, b01⟩
      · have h3i : ((j : Int) % 3 == 2) = false := by simp; omega
        have h3j : ¬ (j : Int) % 3 = 2 := by omega
        cases hd : hexv b with
        | none =>
          have HE : Hid (mcOf s = (0, j, 4)) := by show _ = _; rw [HST.out]; unfold mcStep; rw [if_neg h17, if_neg h3, hd]; rfl
          have hI := digI_no (hdg.trans hd)
          clear HST hcol hdg hM HM hd h3
          go_wp2_with fail
          refine (digit_any x _).mono ?_
          rintro e w2 ⟨rfl, hb2⟩
          rw [hI]
          have b02 := b01.trans (hb2.mono b01.size)
          go_wp2
          go_ret3
          exact ⟨by rw [HE.out]; rfl, b02⟩
        | some v =>
          have hvl := hexv_lt hd
          have hs2 : mcStep j m b = some (m * 16 + v) := by unfold mcStep; rw [if_neg h17, if_neg h3, hd]; rfl
          have HE : Hid (mcF t' (j + 1) (m * 16 + v) = mcOf s) := by show _ = _; rw [HST.out, hs2]
          have HML : Hid (m * 16 + v < 16 ^ (j + 1 - (j + 1) / 3)) := (mcStep_lt j m b _ HM.out hs2).1
          have hm2 : m < 281474976710656 := Nat.lt_of_lt_of_le HM.out (mc_small j hj17)
          have hb128 : b < 128 := by
            by_cases h : b < 128
            · exact h
            · rw [hexv_big b (by omega)] at hd; cases hd
          have HL2 : Hid (LR t' (L.drop (j + 1))) := hM hb128
          have hI := digI_of (hdg.trans hd)
          have hvn : ¬ (v : Int) < 0 := by omega
          have hvm : (v : Int) % 18446744073709551616 = (v : Int) := by omega
          have hmm : ((m : Int) * 16 + (v : Int)) % 18446744073709551616 = ((m * 16 + v : Nat) : Int) := by omega
          clear HST hcol hdg hM HM hd h3 hs2 hb128
          go_wp2_with fail
          refine (digit_any x _).mono ?_
          rintro e w2 ⟨rfl, hb2⟩
          rw [hI]
          have b12 : Below w1.heap.size w1 w2 := hbel.trans (hb2.mono hbel.size)
          clear hb2 hI hbel b01
          go_wp2
          go_roundw
          case rel => exact ⟨j + 1, m * 16 + v, t', by go_num, by go_num, by omega, by omega, HL2, HE, HML, b12⟩
          case measure => simp [intOf]; omega
    · obtain rfl : j = n := by omega
      have ht : t = [] := by
        have h := HT.out
        rw [List.drop_of_length_le (by rw [← HN.out]; exact Nat.le_refl _)] at h
        cases t with
        | nil => rfl
        | cons b t => obtain ⟨x, M, e, _⟩ := h; cases e
      rw [ht] at HR
      by_cases h17 : j < 17
      · have HE : Hid (mcOf s = (0, j, 3)) := by show _ = _; rw [← HR.out, mcF, if_pos h17]
        have hi : (j : Int) < 17 := by omega
        clear HR HM HT ht
        go_wp2
        go_ret3
        exact ⟨by rw [HE.out]; rfl, b01⟩
      · have HE : Hid (mcOf s = (m, 0, 0)) := by show _ = _; rw [← HR.out, mcF, if_neg h17]
        have hi : ¬ (j : Int) < 17 := by omega
        clear HR HM HT ht
        go_wp2
        go_ret3
        exact ⟨by rw [HE.out]; rfl, b01⟩
end Go.Proofs.YtplicfknjhjjgaaDoor
