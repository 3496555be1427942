/- The walk of trunklinelaw03.SerialRuns: it answers true. -/
import Derived.Test.YtpnfghchllipnabLive3
namespace Go.Proofs.Ytpnfghchllipnab
open Go.RowKit
theorem span32 (zs : List Nat) (hb : ∀ i, zs.getD i 0 < 4294967296) (hl : zs.length ≤ 256) : spanE 32 zs = 0 ∧ spanR 32 zs = spanTo 4294967296 zs zs.length := by
  have hc : chkE 32 zs = 0 := chkE_mk (.inr rfl) (fun z hz => by
    obtain ⟨i, hi, rfl⟩ := List.getElem_of_mem hz
    have := hb i
    rw [rnd_32]
    simpa [List.getD_eq_getElem?_getD, hi] using this)
  have he : spanE 32 zs = 0 := by unfold spanE; rw [if_pos hc, if_neg (by omega)]
  exact ⟨he, by unfold spanR; rw [if_pos he, rnd_32]⟩
theorem drop_cons (R : List (Nat × Nat)) (k : Nat) (h : k < R.length) : R.drop k = R.getD k (0, 0) :: R.drop (k + 1) := by
  rw [List.drop_eq_getElem_cons h]
  simp [List.getD_eq_getElem?_getD, h]
theorem chain_ne (zs : List Nat) (hb : ∀ t, zs.getD t 0 < 4294967296) (i k : Nat) (hk : k < 256) (h : ∀ t, i ≤ t → t < i + k → upV 4294967296 (zs.getD t 0) (zs.getD (t + 1) 0) = 1) (h0 : 0 < k) : ¬ zs.getD i 0 = zs.getD (i + k) 0 := by
  have e := chain 4294967296 zs hb i k h
  have h1 := hb i
  intro he
  rw [← he] at e
  omega
set_option maxRecDepth 100000 in
set_option maxHeartbeats 2000000 in
theorem walk_SerialRuns (a : Option Addr) (n c : Nat) (zs : List Nat) (w : World) (hs0 : SlK .u32 4294967296 w a n c zs ∧ c * 4 ≤ 140737488351232) :
    Calls Try.prog 5 #[.slice a n c] w fun e w' => e = .returned (.bool true) ∧ Below w.heap.size w w' := by
  obtain ⟨hs, _⟩ := hs0
  have hl := hs.len
  have hsm := hs.small
  by_cases h256 : 256 < n
  · have h256' : (256 : Int) < (n : Int) := by omega
    go_enter Try.func5, Try.ntmps5
    go_wp2_with fail
    refine (live_any _).mono ?_
    rintro e w3 ⟨rfl, hb3⟩
    go_wp2
    go_ret
    exact ⟨rfl, hb3⟩
  · obtain ⟨hE, hR⟩ := span32 zs hs.bnd (by omega)
    have hsp := span_any 32 a n c zs w hs
    rw [hE, hR, hl] at hsp
    have hcut := span_cut 4294967296 zs n
    have hRl := (spanTo_len 4294967296 zs n).1
    clear hE hR
    generalize spanTo 4294967296 zs n = R at *
    have h256' : ¬ (256 : Int) < (n : Int) := by omega
    go_enter Try.func5, Try.ntmps5
    go_wp2_with fail
    refine hsp.mono ?_
    rintro e w1 ⟨a1, c1, rfl, ho1, hb1⟩
    clear hsp
    have HB := (show Hid _ from hs.bnd)
    have hs1 := hs.below hb1
    clear hs
    go_wp2
    go_loop [5, 6] (fun cv iv => ∃ k s : Nat, k ≤ R.length ∧ s ≤ n ∧ iv = .int .i64 k ∧ cv = .int .i64 s ∧ Cut 4294967296 zs s (R.drop k) n) (fun _ iv => R.length - (intOf iv).toNat)
    case atStart => exact ⟨0, 0, by omega, by omega, rfl, rfl, hcut⟩
    case round =>
      obtain ⟨k, s, hk, hsn, rfl, rfl, hct⟩ := hrel
      clear hcut
      by_cases hkn : k < R.length
      · obtain ⟨g1, rfl, _, _, hc1, hm1, hcl1, _⟩ := ho1.at_ (by omega)
        obtain ⟨x0, x1⟩ := hcl1 k hkn
        have hk1 : (k : Int) < (R.length : Int) := by omega
        rw [drop_cons R k hkn] at hct
        obtain ⟨j, hsj, hjn, hp1, hp2, hch, hct2⟩ := hct
        have HCH := (show Hid _ from hch)
        have HCT := (show Hid _ from hct2)
        rw [hp1] at x0
        rw [hp2] at x1
        clear hcl1 hch hct2 hp1 hp2
        rcases hs1.at_ with h0 | ⟨g, off, rfl, hlt, hcell⟩
        · omega
        have hx0b := HB.out s
        go_wp2
        go_loop [5, 7] (fun cv xv => ∃ u : Nat, s ≤ u ∧ u < j ∧ cv = .int .i64 (u : Nat) ∧ xv = .int .u32 (zs.getD u 0 : Nat)) (fun cv _ => j - (intOf cv).toNat)
        case atStart => exact ⟨s, by omega, by omega, rfl, rfl⟩
        case round =>
          obtain ⟨u, hsu, htj, rfl, rfl⟩ := hrel
          have hcx := hcell u (by omega)
          have hb1' := HB.out u
          have hst1 : (u : Int) < (n : Int) := by omega
          by_cases hlast : u + 1 = j
          · have e1 : j - 1 = u := by omega
            rw [e1] at x1
            have HT : Hid (((u : Int) + 1) = ((j : Nat) : Int)) := by show _ = _; omega
            have HJ : Hid (j ≤ n) := hjn
            clear hcell hx0b hlast e1 x0 hsj hsu htj hjn
            generalize zs.getD u 0 = x at *
            go_wp2
            go_round
            case rel => exact ⟨k + 1, j, by omega, HJ.out, by go_num, by rw [← HT.out], HCT.out⟩
            case measure => simp [intOf]; omega
          · have hne : ¬ zs.getD u 0 = zs.getD (j - 1) 0 := by
              have := chain_ne zs HB.out u (j - 1 - u) (by omega) (fun t h1 h2 => HCH.out t (by omega) (by omega)) (by omega)
              rwa [show u + (j - 1 - u) = j - 1 from by omega] at this
            have hnx := up_one 4294967296 _ _ (HB.out u) (HB.out (u + 1)) (HCH.out u (by omega) (by omega))
            have hbl := HB.out (j - 1)
            have HN : Hid ((((zs.getD u 0 : Nat) : Int) + 1) % 4294967296 = ((zs.getD (u + 1) 0 : Nat) : Int)) := by
              show _ = _
              rw [hnx]
              omega
            have HU : Hid (s ≤ u + 1 ∧ u + 1 < j) := by show _ ∧ _; omega
            clear hcell hx0b hnx hlast x0 hsj hsu htj
            generalize zs.getD u 0 = x at *
            generalize zs.getD (j - 1) 0 = z at *
            have hne' : ((x : Int) == (z : Int)) = false := by simp; omega
            clear hne
            go_wp2
            go_round
            case rel => exact ⟨u + 1, HU.out.1, HU.out.2, by go_num, by rw [← HN.out]⟩
            case measure => have := HU.out; simp [intOf]; omega
      · obtain rfl : k = R.length := by omega
        rw [List.drop_length] at hct
        have hct' : s = n := hct
        subst hct'
        go_wp2_with fail
        refine (live_any _).mono ?_
        rintro e w3 ⟨rfl, hb3⟩
        have hbel3 : Below w.heap.size w w3 := hb1.trans (hb3.mono hb1.size)
        go_wp2
        go_ret
        exact ⟨rfl, hbel3⟩
end Go.Proofs.Ytpnfghchllipnab
