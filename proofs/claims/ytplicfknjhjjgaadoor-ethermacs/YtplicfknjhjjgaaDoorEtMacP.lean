/- What ether.digit, ether.goOn and ether.Mac answer. -/
import Derived.Test.YtplicfknjhjjgaaDoorMcM
namespace Go.Proofs.YtplicfknjhjjgaaDoor
open Go.RowKit
theorem conv_rune (r : Nat) (w : World) : (convert 21 9 (.int .i32 (r : Nat))).run Tryd.prog w = .ok (.string (Utf8.encode (r : Int))) w := by
  simp [convert, run_underlying Tryd.underlying21, run_underlying Tryd.underlying9, Conv.intToString]
set_option maxRecDepth 100000 in
set_option maxHeartbeats 1000000 in
theorem edigit_any (r : Nat) (w : World) :
    Calls Tryd.prog 24 #[.int .i32 (r : Nat)] w fun e w' => e = .returned (.tuple #[.int .u64 ((hexv r).getD 0 : Nat), .bool (hexv r).isSome]) ∧ Below w.heap.size w w' := by
  have hz := zl_size r
  have hU := unhex_any (zl r) w (by omega)
  rw [uhOf_zl r] at hU
  unfold zl at hU
  have hcv := conv_rune r
  have hxs := encode_size_le (r : Int)
  have hxi : (1 : Int) + ((Utf8.encode (r : Int)).size : Int) ≤ 5 := by omega
  generalize Utf8.encode (r : Int) = X at *
  clear hz
  cases hv : hexv r with
  | none =>
    rw [hv] at hU
    clear hv
    go_enter Tryd.func24, Tryd.ntmps24
    go_wp2_with fail
    refine hU.mono ?_
    rintro e w1 ⟨a, c, rfl, o, b⟩
    go_wp2
    go_ret2
    exact ⟨rfl, b⟩
  | some v =>
    have hlt := hexv_lt hv
    rw [hv] at hU
    clear hv
    go_enter Tryd.func24, Tryd.ntmps24
    go_wp2_with fail
    refine hU.mono ?_
    rintro e w1 ⟨a, c, rfl, o, b⟩
    have hs := o.sl (by simp)
    simp only [List.length_cons, List.length_nil, Nat.zero_add] at hs
    rcases hs.at_ with h0 | ⟨g, off, rfl, hl, hcell⟩
    · omega
    have hc := hcell 0 (by omega)
    simp only [Nat.add_zero, List.getD_cons_zero] at hc
    clear hcell hs o hU
    go_wp2
    go_ret2
    exact ⟨rfl, b⟩
theorem or16 (m v : Nat) (hm : m < 17592186044416) (hv : v < 16) : bits .or .u64 ((m : Int) * 16) (v : Int) = ((m * 16 + v : Nat) : Int) := by
  have h1 := u64_or_nat (m * 16) v (by omega) (by omega)
  rw [nat_join 4 (m * 16) v (by omega) (by omega)] at h1
  rw [show ((m * 16 : Nat) : Int) = (m : Int) * 16 from by omega] at h1
  exact h1
/-- What a letter does is told. -/
structure GoP (p m r : Nat) (w : World) (e : Ending) (w' : World) : Prop where
  ans : ∃ x : Nat, e = .returned (.tuple #[.int .u64 (x : Nat), .bool (mcStep p m r).isSome]) ∧ ∀ m', mcStep p m r = some m' → x = m'
  bel : Below w.heap.size w w'
set_option maxRecDepth 100000 in
set_option maxHeartbeats 1000000 in
theorem between_any (p : Nat) (w : World) :
    Calls Tryd.prog 23 #[.int .i64 (p : Nat)] w fun e w' => e = .returned (.bool (decide (p % 3 = 2))) ∧ w' = w := by
  by_cases h : p % 3 = 2
  · have h1 : ((p : Int) % 3 == 2) = true := by simp; omega
    have h2 : (p : Int) % 3 = 2 := by omega
    have HD : Hid (decide (p % 3 = 2) = true) := by show _ = _; simpa using h
    clear h
    go_enter Tryd.func23, Tryd.ntmps23
    go_wp2
    go_ret
    exact ⟨by rw [HD.out]; rfl, rfl⟩
  · have h1 : ((p : Int) % 3 == 2) = false := by simp; omega
    have h2 : ¬ (p : Int) % 3 = 2 := by omega
    have HD : Hid (decide (p % 3 = 2) = false) := by show _ = _; simpa using h
    clear h
    go_enter Tryd.func23, Tryd.ntmps23
    go_wp2
    go_ret
    exact ⟨by rw [HD.out]; rfl, rfl⟩
set_option maxRecDepth 100000 in
set_option maxHeartbeats 1000000 in
theorem goOn_any (m p r : Nat) (w : World) (hm : m < 16 ^ (p - p / 3)) :
    Calls Tryd.prog 14 #[.int .u64 (m : Nat), .int .i64 (p : Nat), .int .i32 (r : Nat)] w fun e w' => GoP p m r w e w' := by
  by_cases h17 : 17 ≤ p
  · have HE : Hid (mcStep p m r = none) := by show _ = _; unfold mcStep; rw [if_pos h17]
    have h1 : (17 : Int) ≤ (p : Int) := by omega
    clear hm h17
    go_enter Tryd.func14, Tryd.ntmps14
    go_wp2
    go_ret2
    exact ⟨⟨0, by rw [HE.out]; rfl, fun m' h => by rw [HE.out] at h; cases h⟩, Below.refl _ _⟩
  have h1 : ¬ (17 : Int) ≤ (p : Int) := by omega
  have hB := between_any p w
  by_cases h3 : p % 3 = 2
  · have HE : Hid (mcStep p m r = if r = 58 then some m else none) := by show _ = _; unfold mcStep; rw [if_neg h17, if_pos h3]
    rw [show decide (p % 3 = 2) = true from by simpa using h3] at hB
    by_cases h58 : r = 58
    · rw [if_pos h58] at HE
      have h5 : ((r : Int) == 58) = true := by simp; omega
      have h6 : (r : Int) = 58 := by omega
      clear hm h17 h3
      go_enter Tryd.func14, Tryd.ntmps14
      go_wp2_with fail
      refine hB.mono ?_
      rintro e w1 ⟨rfl, hw⟩
      subst hw
      go_wp2
      go_ret2
      exact ⟨⟨m, by rw [HE.out]; first | rfl | simp, fun m' h => by rw [HE.out] at h; injection h⟩, Below.refl _ _⟩
    · rw [if_neg h58] at HE
      have h5 : ((r : Int) == 58) = false := by simp; omega
      have h6 : ¬ (r : Int) = 58 := by omega
      clear hm h17 h3
      go_enter Tryd.func14, Tryd.ntmps14
      go_wp2_with fail
      refine hB.mono ?_
      rintro e w1 ⟨rfl, hw⟩
      subst hw
      go_wp2
      go_ret2
      exact ⟨⟨m, by rw [HE.out]; first | rfl | simp, fun m' h => by rw [HE.out] at h; cases h⟩, Below.refl _ _⟩
  · have HE : Hid (mcStep p m r = (hexv r).map fun v => m * 16 + v) := by show _ = _; unfold mcStep; rw [if_neg h17, if_neg h3]
    rw [show decide (p % 3 = 2) = false from by simpa using h3] at hB
    have hm2 : m < 17592186044416 := by
      have : 16 ^ (p - p / 3) ≤ 16 ^ 11 := Nat.pow_le_pow_right (by omega) (by omega)
      omega
    have hD := edigit_any r w
    have hvl : (hexv r).getD 0 < 16 := by
      cases hv : hexv r with
      | none => simp
      | some v => exact hexv_lt hv
    have HO := (show Hid _ from or16 m ((hexv r).getD 0) hm2 hvl)
    obtain ⟨V, hV⟩ : ∃ V, V = (hexv r).getD 0 := ⟨_, rfl⟩
    obtain ⟨S, hS⟩ : ∃ S, S = (hexv r).isSome := ⟨_, rfl⟩
    rw [← hV] at HO hD hvl
    rw [← hS] at hD
    have HV := (show Hid _ from hV)
    have HS := (show Hid _ from hS)
    have hmm : ((m : Int) * 16) % 18446744073709551616 = (m : Int) * 16 := by omega
    clear hm h17 h3 hV hS
    go_enter Tryd.func14, Tryd.ntmps14
    go_wp2_with fail
    refine hB.mono ?_
    rintro e w1 ⟨rfl, hw⟩
    subst hw
    go_wp2_with fail
    refine hD.mono ?_
    rintro e w2 ⟨rfl, b2⟩
    go_wp2
    go_ret2
    rw [show bits .or .u64 ((m : Int) * 16) (V : Int) = ((m * 16 + V : Nat) : Int) from HO.out]
    refine ⟨⟨m * 16 + V, ?_, fun m' h => ?_⟩, b2⟩
    · rw [HE.out, HS.out, Option.isSome_map]; rfl
    · rw [HE.out] at h
      rw [HV.out]
      cases hv : hexv r with
      | none => rw [hv] at h; cases h
      | some v => rw [hv] at h; injection h
set_option maxRecDepth 100000 in
set_option maxHeartbeats 2000000 in
theorem mac_any (s : ByteArray) (w : World) :
    Calls Tryd.prog 6 #[.string s] w fun e w' => e = .returned (.tuple #[.int .u64 ((mcOf s).1 : Nat), .int .i64 ((mcOf s).2.1 : Nat), .int .i64 ((mcOf s).2.2 : Nat)]) ∧ Below w.heap.size w w' := by
  go_enter Tryd.func6, Tryd.ntmps6
  go_wp2
  go_loopw [5, 6] (fun vm i wr => ∃ (pos place m : Nat), vm = .int .u64 m ∧ i = .int .i64 place ∧ wr.heap[w.heap.size]? = some (.stringIter s pos) ∧ Hid (m < 16 ^ (place - place / 3)) ∧ Hid (mcF ((natsOf s).drop pos) place m = mcOf s) ∧ place ≤ 17 ∧ place ≤ pos ∧ Below w.heap.size w wr) (fun _ i _ => 18 - (intOf i).toNat)
  case atStart =>
    refine ⟨0, 0, 0, rfl, rfl, ?_, by show (0 : Nat) < 1; omega, by show mcF _ 0 0 = _; rw [List.drop_zero]; rfl, by omega, by omega, ?_⟩
    · have := World.iter_heap w s 0
      simpa using this
    · exact (Below.refl _ _).alloc (Nat.le_refl _) _
  case round =>
    obtain ⟨pos, place, m, rfl, rfl, hit, HM, HR, h17, hpp, hbel⟩ := hrel
    have hsz : w.heap.size < wr.heap.size := (Array.getElem?_eq_some_iff.1 hit).1
    by_cases hp : pos < s.size
    · have hnx : ∀ ty, (Instr.next (.pointer (some ⟨w.heap.size, 0, none⟩)) true ty).run Tryd.prog wr = _ := fun ty => Lib.run_next_any_at wr w.heap.size s pos ty hit hp
      have hr := decode_le s pos
      have hwd := width_pos s pos hp
      have hit2 := Lib.iterAt_heap wr w.heap.size s pos (pos + (Utf8.decode s pos).2) hit
      have hb2 := Lib.below_iterAt hbel (k := w.heap.size) (by omega) s (pos + (Utf8.decode s pos).2)
      have hz2 := Lib.iterAt_size wr w.heap.size s (pos + (Utf8.decode s pos).2)
      have HST : Hid (mcOf s = match mcStep place m (Utf8.decode s pos).1 with
          | none => (0, place, 4)
          | some m' => mcF ((natsOf s).drop (pos + (Utf8.decode s pos).2)) (place + 1) m') := by
        show _ = _
        rw [← HR.out, natsOf_drop s pos hp, mcF_cons]
        by_cases ha : (s[pos]'hp).toNat < 128
        · rw [decode_ascii s pos hp ha]
          rfl
        · have ha' : 128 ≤ (s[pos]'hp).toNat := by omega
          rw [mcStep_big _ _ _ ha', mcStep_big _ _ _ (decode_high s pos hp ha').1]
      have hG := fun W => goOn_any m place (Utf8.decode s pos).1 W HM.out
      cases htk : mcStep place m (Utf8.decode s pos).1 with
      | none =>
        have HE : Hid (mcOf s = (0, place, 4)) := by show _ = _; rw [HST.out, htk]
        have HT := (show Hid _ from htk)
        clear htk hit HR HST
        generalize (Utf8.decode s pos).1 = r at *
        generalize (Utf8.decode s pos).2 = l at *
        go_wp2_with fail
        refine (hG _).mono ?_
        rintro e w2 ⟨⟨x, rfl, _⟩, b2⟩
        rw [HT.out]
        have hb3 := hb2.trans (b2.mono hb2.size)
        go_wp2
        go_ret3
        exact ⟨by rw [HE.out]; rfl, hb3⟩
      | some m' =>
        have HE : Hid (mcF ((natsOf s).drop (pos + (Utf8.decode s pos).2)) (place + 1) m' = mcOf s) := by show _ = _; rw [HST.out, htk]
        have HT := (show Hid _ from htk)
        have hml := mcStep_lt place m _ m' HM.out htk
        clear htk hit HR HST
        generalize (Utf8.decode s pos).1 = r at *
        generalize (Utf8.decode s pos).2 = l at *
        go_wp2_with fail
        refine (hG _).mono ?_
        rintro e w2 ⟨⟨x, rfl, hx⟩, b2⟩
        obtain rfl := hx m' HT.out
        rw [HT.out]
        have hb3 := hb2.trans (b2.mono hb2.size)
        have hit3 := (b2.block w.heap.size (by rw [hz2]; omega)).trans hit2
        have HML : Hid (x < 16 ^ (place + 1 - (place + 1) / 3)) := hml.1
        have hlt := hml.2
        clear hml hG hx HT hnx hit2 hb2 hz2 hbel hsz HM b2
        go_wp2
        go_roundw
        case rel => exact ⟨pos + l, place + 1, x, rfl, by go_num, hit3, HML, HE.out, by omega, by omega, hb3⟩
        case measure => simp [intOf]; omega
    · have hnx : ∀ ty, (Instr.next (.pointer (some ⟨w.heap.size, 0, none⟩)) true ty).run Tryd.prog wr = _ := fun ty => Lib.run_next_end_at wr w.heap.size s pos ty hit hp
      have hz : (natsOf s).drop pos = [] := List.drop_of_length_le (by rw [nats_len]; omega)
      rw [hz] at HR
      by_cases hpl : place < 17
      · have HE : Hid (mcOf s = (0, place, 3)) := by show _ = _; rw [← HR.out, mcF, if_pos hpl]
        have hi : (place : Int) < 17 := by omega
        clear HR hz HM hit
        go_wp2
        go_ret3
        exact ⟨by rw [HE.out]; rfl, hbel⟩
      · have HE : Hid (mcOf s = (m, 0, 0)) := by show _ = _; rw [← HR.out, mcF, if_neg hpl]
        have hi : ¬ (place : Int) < 17 := by omega
        clear HR hz HM hit
        go_wp2
        go_ret3
        exact ⟨by rw [HE.out]; rfl, hbel⟩
end Go.Proofs.YtplicfknjhjjgaaDoor
