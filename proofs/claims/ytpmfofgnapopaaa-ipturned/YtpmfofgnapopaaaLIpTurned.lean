/- Whatever packet, place and bit: the walk of law10.IpTurned ends with true. -/
import Derived.Test.YtpmfofgnapopaaaIpLive
namespace Go.Proofs.Ytpmfofgnapopaaa
open Go.RowKit
theorem tot_set (zs : List Nat) (i y : Nat) : ∀ k, i < zs.length → (i < k → totTo (zs.set i y) k + zs.getD i 0 * wt i = totTo zs k + y * wt i) ∧ (k ≤ i → totTo (zs.set i y) k = totTo zs k) := by
  intro k hi
  induction k with
  | zero => exact ⟨fun h => by omega, fun _ => rfl⟩
  | succ k ih =>
    have e1 : totTo (zs.set i y) (k + 1) = totTo (zs.set i y) k + (zs.set i y).getD k 0 * wt k := rfl
    have e2 : totTo zs (k + 1) = totTo zs k + zs.getD k 0 * wt k := rfl
    rw [e1, e2]
    by_cases hk : i = k
    · subst hk
      have := ih.2 (Nat.le_refl _)
      rw [this, show (zs.set i y).getD i 0 = y from by rw [List.getD_eq_getElem?_getD, List.getElem?_set_self hi]; rfl]
      refine ⟨fun _ => ?_, fun h => by omega⟩
      show totTo zs i + y * wt i + zs.getD i 0 * wt i = totTo zs i + zs.getD i 0 * wt i + y * wt i
      omega
    · have e3 : (zs.set i y).getD k 0 = zs.getD k 0 := by
        rw [List.getD_eq_getElem?_getD, List.getElem?_set_ne hk, ← List.getD_eq_getElem?_getD]
      rw [e3]
      refine ⟨fun h => ?_, fun h => ?_⟩
      · have := ih.1 (by omega); omega
      · have := ih.2 (by omega); omega
theorem xor_bit : ∀ x, x < 256 → ∀ k, k < 8 → (x ^^^ 2 ^ k = x + 2 ^ k ∨ (x ^^^ 2 ^ k) + 2 ^ k = x) := by decide +kernel
theorem net_zero (zs : List Nat) (h : net zs = 0) : ∃ q, totTo zs zs.length = 65535 * (q + 1) := by
  unfold net at h
  have h1 := ar_le (totTo zs zs.length)
  have h2 : ar (totTo zs zs.length) = 65535 := by omega
  unfold ar at h2
  split at h2
  · omega
  · exact ⟨(totTo zs zs.length - 1) / 65535, by omega⟩
theorem net_bit (zs : List Nat) (i k : Nat) (hi : i < zs.length) (hk : k < 8) (hb : ∀ j, zs.getD j 0 < 256) (h : net zs = 0) : ¬ net (zs.set i (zs.getD i 0 ^^^ 2 ^ k)) = 0 := by
  intro h2
  obtain ⟨q, hq⟩ := net_zero _ h
  obtain ⟨q2, hq2⟩ := net_zero _ h2
  rw [List.length_set] at hq2
  have ht := (tot_set zs i (zs.getD i 0 ^^^ 2 ^ k) zs.length hi).1 hi
  have hx := xor_bit (zs.getD i 0) (hb i) k hk
  have hp : 0 < 2 ^ k ∧ 2 ^ k ≤ 128 := by
    have : ∀ k, k < 8 → 0 < 2 ^ k ∧ 2 ^ k ≤ 128 := by decide
    exact this k hk
  have hw : wt i = 256 ∨ wt i = 1 := by unfold wt; split <;> simp
  generalize zs.getD i 0 ^^^ 2 ^ k = y at *
  generalize zs.getD i 0 = x at *
  generalize 2 ^ k = P at *
  rw [hq, hq2] at ht
  rcases hw with hw | hw <;> rw [hw] at ht <;> rcases hx with hx | hx <;> omega
/-- A packet's bytes with a bit of the head turned are not taken. -/
theorem turned (sr ds pr tt id fl n : Nat) (zs : List Nat) (i k : Nat) (h1 : 1 ≤ i) (h2 : i < 20) (hk : k < 8) :
    ¬ itE ((ipHd sr ds pr tt id fl n ++ zs).set i ((ipHd sr ds pr tt id fl n ++ zs).getD i 0 ^^^ 2 ^ k)) = 0 := by
  have hHl := ipHd_len sr ds pr tt id fl n
  have hHn : net (ipHd sr ds pr tt id fl n) = 0 := net_stamp _ (by rw [ipA_len]) _
  have hHb : ∀ j, (ipHd sr ds pr tt id fl n).getD j 0 < 256 := by
    intro j
    have : ∀ x ∈ ipHd sr ds pr tt id fl n, x < 256 := by
      intro x hx
      have hB : ∀ v k, x ∈ bytesB v k → x < 256 := fun v k h => mem_bnd (bytesB_bnd v k) x h
      simp only [ipHd, ipA, ipR, List.mem_append, List.not_mem_nil, false_or] at hx
      rcases hx with ((((((hx | hx) | hx) | hx) | hx) | hx) | hx) | hx | hx | hx <;> exact hB _ _ hx
    rw [List.getD_eq_getElem?_getD]
    cases h : (ipHd sr ds pr tt id fl n)[j]? with
    | none => simp
    | some x => exact this x (List.mem_of_getElem? h)
  have h0 : (ipHd sr ds pr tt id fl n).getD 0 0 = 69 := rfl
  generalize ipHd sr ds pr tt id fl n = H at *
  intro hE
  have eg : (H ++ zs).getD i 0 = H.getD i 0 := by rw [getD_app, if_pos (by omega)]
  have es : (H ++ zs).set i ((H ++ zs).getD i 0 ^^^ 2 ^ k) = H.set i (H.getD i 0 ^^^ 2 ^ k) ++ zs := by
    rw [eg, List.set_append_left _ _ (by omega)]
  rw [es] at hE
  have hl2 : (H.set i (H.getD i 0 ^^^ 2 ^ k)).length = 20 := by rw [List.length_set]; exact hHl
  have hn := net_bit H i k (by omega) hk hHb hHn
  have g0 : (H.set i (H.getD i 0 ^^^ 2 ^ k)).getD 0 0 = 69 := by
    rw [List.getD_eq_getElem?_getD, List.getElem?_set_ne (by omega), ← List.getD_eq_getElem?_getD]; exact h0
  generalize H.set i (H.getD i 0 ^^^ 2 ^ k) = H2 at *
  have hn0 : numV (H2 ++ zs) 0 1 = 69 := by
    unfold numV
    have e : nspanE (H2 ++ zs).length 0 1 = 0 := by
      unfold nspanE spanE
      rw [List.length_append, hl2, if_neg (by omega), if_neg (by omega), if_neg (by omega)]
    rw [if_pos e]
    cases H2 with
    | nil => simp at hl2
    | cons x l =>
      have : x = 69 := g0
      subst this
      rfl
  have hd : hdL (H2 ++ zs) = 20 := by unfold hdL; rw [hn0]
  unfold itE at hE
  rw [hd] at hE
  split at hE
  · cases hE
  · split at hE
    · rename_i h; exact h hE
    · rw [List.take_append_of_le_length (by omega), List.take_of_length_le (by omega), if_pos hn] at hE
      cases hE
set_option maxRecDepth 100000 in
set_option maxHeartbeats 1000000 in
theorem walk_IpTurned (sr ds pr tt id : Nat) (dn mo : Bool) (of : Int) (a : Option Addr) (n c : Nat) (zs : List Nat) (at_ bit : Nat) (w : World) (hsr : sr < 4294967296) (hds : ds < 4294967296) (hpr : pr < 256) (htt : tt < 256) (hid : id < 65536) (_hof : (Lit.int .i64 of).wf = true) (h0 : Sl w a n c zs ∧ c ≤ 140737488351232) (hat : at_ < 256) (hbit : bit < 256) :
    Calls Try.prog 6 #[.agg #[.int .u32 (sr : Nat), .int .u32 (ds : Nat), .int .u8 (pr : Nat), .int .u8 (tt : Nat), .int .u16 (id : Nat), .bool dn, .bool mo, .int .i64 of, .slice a n c], .int .u8 (at_ : Nat), .int .u8 (bit : Nat)] w fun e w' => e = .returned (.bool true) ∧ Below w.heap.size w w' := by
  obtain ⟨h0, hcb⟩ := h0
  clear hcb
  have hl := h0.len
  obtain ⟨W, hW⟩ : ∃ W, W = w.alloc (.cells #[.int .u32 (sr : Nat), .int .u32 (ds : Nat), .int .u8 (pr : Nat), .int .u8 (tt : Nat), .int .u16 (id : Nat), .bool dn, .bool mo, .int .i64 of, .slice a n c] 26) := ⟨_, rfl⟩
  have hX := Stc.new w [.int .u32 (sr : Nat), .int .u32 (ds : Nat), .int .u8 (pr : Nat), .int .u8 (tt : Nat), .int .u16 (id : Nat), .bool dn, .bool mo, .int .i64 of, .slice a n c] 26 W hW
  have hbW : Below w.heap.size w W := by rw [hW]; exact (Below.refl _ _).alloc (Nat.le_refl _) _
  have hsW := h0.below hbW
  have x0 := hX.cell 0 _ rfl
  have x1 := hX.cell 1 _ rfl
  have x2 := hX.cell 2 _ rfl
  have x3 := hX.cell 3 _ rfl
  have x4 := hX.cell 4 _ rfl
  have x5 := hX.cell 5 _ rfl
  have x6 := hX.cell 6 _ rfl
  have x7 := hX.cell 7 _ rfl
  have x8 := hX.cell 8 _ rfl
  have hpt := iput_any sr ds pr tt id dn mo of a n c zs W hsr hds hpr htt hid hsW
  by_cases hE : mbE mo of n = 0
  case neg =>
    have hne : ¬ ((mbE mo of n : Nat) : Int) = 0 := by omega
    have hne2 : (((mbE mo of n : Nat) : Int) != 0) = true := by simpa using hne
    generalize mbE mo of n = E at *
    generalize ipV sr ds pr tt id dn mo of zs = V at *
    go_enter Try.func6, Try.ntmps6
    go_wp2_with fail
    rw [← hW]
    clear hW
    refine hpt.mono ?_
    rintro e w1 ⟨⟨a1, c1, rfl, o1⟩, b1⟩
    have bb1 : Below w.heap.size w w1 := hbW.trans (b1.mono hbW.size)
    generalize V.length = l at *
    go_wp2_with fail
    refine (live10_any w1).mono ?_
    rintro e w2 ⟨rfl, b2⟩
    go_wp2
    go_ret
    exact ⟨rfl, bb1.trans (b2.mono bb1.size)⟩
  case pos =>
  obtain ⟨q1, q2, q3, q4, q5⟩ := mbE_ok hE
  have hV : ipV sr ds pr tt id dn mo of zs = ipHd sr ds pr tt id (flV dn mo of.toNat) n ++ zs := by unfold ipV; rw [hl, if_pos hE]
  have HT : Hid (∀ i k, 1 ≤ i → i < 20 → k < 8 → ¬ itE ((ipV sr ds pr tt id dn mo of zs).set i ((ipV sr ds pr tt id dn mo of zs).getD i 0 ^^^ 2 ^ k)) = 0) := by
    rw [hV]
    exact fun i k h1 h2 h3 => turned _ _ _ _ _ _ _ _ i k h1 h2 h3
  have hVl : (ipV sr ds pr tt id dn mo of zs).length = 20 + n := by rw [hV, List.length_append, ipHd_len, hl]
  rw [hE] at hpt
  generalize ipV sr ds pr tt id dn mo of zs = V at *
  clear hE hV q3 q4
  go_enter Try.func6, Try.ntmps6
  go_wp2_with fail
  rw [← hW]
  clear hW
  refine hpt.mono ?_
  rintro e w1 ⟨⟨a1, c1, rfl, o1⟩, b1⟩
  have bb1 : Below w.heap.size w w1 := hbW.trans (b1.mono hbW.size)
  have hz1 := hbW.size
  rw [hVl] at o1 ⊢
  obtain ⟨g, rfl⟩ : ∃ g, a1 = some ⟨g, 0, none⟩ := by
    rcases o1.own.2 with ⟨_, h0⟩ | ⟨g, cap, cur, hv, _⟩
    · omega
    · injection hv with e1
      exact ⟨g, e1⟩
  have hgl := (o1.own.lt g rfl).1
  obtain ⟨i, hi⟩ : ∃ i, i = 1 + at_ % 19 := ⟨_, rfl⟩
  have hi1 : 1 ≤ i ∧ i < 20 := by omega
  obtain ⟨k, hk⟩ : ∃ k, k = bit % 8 := ⟨_, rfl⟩
  have hk8 : k < 8 := by omega
  have hcell := o1.cell i (by omega)
  have hfz := o1.free i
  have hx := o1.bnd i
  obtain ⟨x, hxx⟩ : ∃ x, x = V.getD i 0 := ⟨_, rfl⟩
  rw [← hxx] at hcell hx
  have HX := (show Hid _ from hxx)
  have HI := (show Hid _ from hi)
  have HK := (show Hid _ from hk)
  rw [hi] at hcell hfz
  have hn20 : ¬ (20 + (n : Int) < 20) := by omega
  clear hxx hi hk
  have hbx : bits .xor .u8 (x : Int) (2 ^ (bit % 8) % 256) = ((x ^^^ 2 ^ k : Nat) : Int) := by
    have hp : ∀ k, k < 8 → 2 ^ k < 256 ∧ ((2 : Int) ^ k % 256) = ((2 ^ k : Nat) : Int) := by decide
    rw [← HK.out, (hp k hk8).2]
    exact u8_xor_nat x (2 ^ k) hx (hp k hk8).1
  have hlt : x ^^^ 2 ^ k < 256 := by
    have := xor_bit x hx k hk8
    exact Nat.xor_lt_two_pow (n := 8) hx (Nat.lt_of_lt_of_le (Nat.pow_lt_pow_right (by omega) hk8) (by decide))
  have o2 := o1.store i (x ^^^ 2 ^ k) hlt
  have b2 : Below W.heap.size W (w1.setCell ⟨g, i, none⟩ (.int .u8 ((x ^^^ 2 ^ k : Nat) : Int))) := b1.setCell (p := ⟨g, i, none⟩) hgl _
  rw [HI.out] at b2
  have o2' : OwnB (w1.setCell ⟨g, 1 + at_ % 19, none⟩ (.int .u8 ((x ^^^ 2 ^ k : Nat) : Int))) W.heap.size (some ⟨g, 0, none⟩) (20 + n) c1 (V.set i (x ^^^ 2 ^ k)) := by
    have := o2
    rw [HI.out] at this ⊢
    exact this
  have HTT : Hid (¬ itE (V.set i (x ^^^ 2 ^ k)) = 0) := by
    have := HT.out i k hi1.1 hi1.2 hk8
    rw [← HX.out] at this
    exact this
  clear o2 HT
  have HBX := (show Hid _ from hbx)
  clear hbx
  go_wp2_with fail
  rw [HBX.out]
  obtain ⟨w2, hw2⟩ : ∃ w2, w2 = w1.setCell ⟨g, 1 + at_ % 19, none⟩ (.int .u8 ((x ^^^ 2 ^ k : Nat) : Int)) := ⟨_, rfl⟩
  rw [← hw2] at b2 o2' ⊢
  clear hw2 hcell hfz o1
  generalize V.set i (x ^^^ 2 ^ k) = V2 at *
  have bb2 : Below w.heap.size w w2 := hbW.trans (b2.mono hbW.size)
  refine (itake_any (some ⟨g, 0, none⟩) (20 + n) c1 V2 w2 (o2'.sl (by omega))).mono ?_
  rintro e w3 ⟨⟨a3, c3, rfl, o3⟩, b3⟩
  have bb3 : Below w.heap.size w w3 := bb2.trans (b3.mono bb2.size)
  have hTT := HTT.out
  generalize itE V2 = E2 at *
  generalize itN V2 12 4 = j1 at *
  generalize itN V2 16 4 = j2 at *
  generalize itN V2 9 1 = j3 at *
  generalize itN V2 8 1 = j4 at *
  generalize itN V2 4 2 = j5 at *
  generalize itD V2 16384 = j6 at *
  generalize itD V2 8192 = j7 at *
  generalize itO V2 = j8 at *
  generalize (itB V2).length = j9 at *
  have hne : ¬ (E2 : Int) = 0 := by omega
  have hne2 : ((E2 : Int) != 0) = true := by simpa using hne
  clear o3 b3 o2' bb2 b2
  go_wp2_with fail
  refine (live10_any _).mono ?_
  rintro e w4 ⟨rfl, b4⟩
  go_wp2
  go_ret
  exact ⟨rfl, (by first | exact bb3.trans (b4.mono bb3.size) | (refine (bb3.alloc bb3.size _).trans (b4.mono ?_); simp; have := bb3.size; omega))⟩
end Go.Proofs.Ytpmfofgnapopaaa
