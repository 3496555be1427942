/- What New, Add and Dups of a tracker do. -/
import Derived.Test.YtlgpabdadnfbeaaGapV
namespace Go.Proofs.Ytlgpabdadnfbeaa
open Go.RowKit
theorem putS_bits (cum : Nat) (S : Nat → Bool) (ws : List Nat) (hl : ws.length = 4) (n : Nat) (hn1 : 1 ≤ n) (hn2 : n ≤ 256) (hb : ∀ n, 1 ≤ n → n ≤ 256 → S n = bitW ws ((cum + n) % 256)) :
    ∀ m, 1 ≤ m → m ≤ 256 → putS S n m = bitW (setW ws ((cum + n) % 256)) ((cum + m) % 256) := by
  intro m h1 h2
  rw [bitW_set ws hl _ _ (Nat.mod_lt _ (by omega)) (Nat.mod_lt _ (by omega)), ← hb m h1 h2]
  unfold putS
  congr 1
  rw [decide_eq_decide]
  omega
set_option maxHeartbeats 2000000 in
theorem tadd_any (B p : Nat) (db : Option Nat) (cum : Nat) (S : Nat → Bool) (ds : List Nat) (t : Nat) (w : World) (h : Trk w B p db cum S ds) (ht : t < 4294967296) :
    Calls Try.prog 16 #[.pointer (some ⟨p, 0, none⟩), .int .u32 t] w fun e w' => e = .returned (.int .i64 (addE cum S t : Nat)) ∧ ∃ db', Trk w' B p db' (addC cum S t) (addS cum S t) (addD cum S ds t) ∧ Fr (ownT p db) w w' ∧ Fresh w db db' := by
  have hh := thas_any B p db cum S ds t w h ht
  cases hv : hasV cum S t with
  | true =>
    have HE : Hid (addE cum S t = 17) := by show _ = _; unfold addE; rw [if_pos hv]
    have HX : Hid (addC cum S t = cum ∧ addS cum S t = S ∧ addD cum S ds t = noteV ds t) := by
      refine ⟨?_, ?_, ?_⟩
      · unfold addC; rw [if_neg (by rw [HE.out]; omega)]
      · unfold addS; rw [if_neg (by rw [HE.out]; omega)]
      · unfold addD; rw [if_pos HE.out]
    rw [hv] at hh
    clear hv
    go_enter Try.func16, Try.ntmps16
    go_wp2_with (first | (go_at_call 12; refine hh.mono ?_; rintro e w1 ⟨rfl, hb1⟩; have hT1 := h.below hb1) | (go_at_call 31; refine (note_any B p db cum S ds t _ hT1 ht).mono ?_; rintro e w2 ⟨rfl, db2, hT2, hF2, hn2⟩))
    go_ret
    refine ⟨ret_int (by rw [HE.out]; rfl), db2, by rw [HX.out.1, HX.out.2.1, HX.out.2.2]; exact hT2, (Fr.of_below hb1).trans hF2, fun k hk => ?_⟩
    rcases hn2 k hk with h1 | h1
    · exact .inl h1
    · exact .inr (Nat.le_trans hb1.size h1)
  | false =>
    rw [hv] at hh
    have ha := fun W (hc : W.cell? ⟨p, 0, none⟩ = some (.int .u32 cum)) => tahead_any p cum t W h.cumlt ht hc
    obtain ⟨n, hn⟩ : ∃ n, n = aheadV 4294967296 cum t := ⟨_, rfl⟩
    rw [← hn] at ha
    have hn0 : ¬ n ≤ 0 := by
      intro h0
      unfold hasV at hv
      rw [← hn] at hv
      simp [h0] at hv
    by_cases h256 : 256 < n
    · have HE : Hid (addE cum S t = 10) := by show _ = _; unfold addE; rw [if_neg (by rw [hv]; exact Bool.false_ne_true), ← hn, if_pos h256]
      have HX : Hid (addC cum S t = cum ∧ addS cum S t = S ∧ addD cum S ds t = ds) := by
        refine ⟨?_, ?_, ?_⟩
        · unfold addC; rw [if_neg (by rw [HE.out]; omega)]
        · unfold addS; rw [if_neg (by rw [HE.out]; omega)]
        · unfold addD; rw [if_neg (by rw [HE.out]; omega)]
      clear hv hn
      go_enter Try.func16, Try.ntmps16
      go_wp2_with (first | (go_at_call 12; refine hh.mono ?_; rintro e w1 ⟨rfl, hb1⟩; have hT1 := h.below hb1) | (go_at_call 28; refine (ha _ hT1.c0).mono ?_; rintro e w2 ⟨rfl, hb2⟩))
      go_ret
      exact ⟨ret_int (by rw [HE.out]; rfl), db, by rw [HX.out.1, HX.out.2.1, HX.out.2.2]; exact hT1.below hb2, (Fr.of_below hb1).trans (Fr.of_below hb2), fun k hk => .inl hk⟩
    · have HE : Hid (addE cum S t = 0) := by show _ = _; unfold addE; rw [if_neg (by rw [hv]; exact Bool.false_ne_true), ← hn, if_neg h256]
      obtain ⟨m, hm⟩ := Int.eq_ofNat_of_zero_le (show 0 ≤ n by omega)
      have htm := (ahead_pos cum t h.cumlt ht m (by rw [← hn]; exact hm)).1
      have HX : Hid (addC cum S t = (cum + lead (putS S m)) % 4294967296 ∧ addS cum S t = onS (putS S m) (lead (putS S m)) ∧ addD cum S ds t = ds) := by
        refine ⟨?_, ?_, ?_⟩
        · unfold addC; rw [if_pos HE.out, ← hn, hm]; rfl
        · unfold addS; rw [if_pos HE.out, ← hn, hm]; rfl
        · unfold addD; rw [if_neg (by rw [HE.out]; omega)]
      have hset : ∀ W, Trk W B p db cum S ds → Calls Try.prog 32 #[.pointer (some ⟨p, 1, none⟩), .int .u32 t] W fun e w' => e = .returned (.tuple #[]) ∧ Trk w' B p db cum (putS S m) ds ∧ Fr (ownT p db) W w' := by
        intro W hT
        obtain ⟨ws, hw, hb⟩ := hT.win
        refine (set_any p 1 t ws W hw).mono ?_
        rintro e w' ⟨he, q, rfl⟩
        have hx1 := hw.bnd (t % 256 / 64)
        have hp : 2 ^ (t % 256 % 64) < 2 ^ 64 := Nat.pow_lt_pow_right (by omega) (by omega)
        have hxlt : ws.getD (t % 256 / 64) 0 ||| 2 ^ (t % 256 % 64) < 18446744073709551616 := Nat.or_lt_two_pow (n := 64) hx1 hp
        have hbits := putS_bits cum S ws hw.len m (by omega) (by omega) hb
        have e256 : t % 256 = (cum + m) % 256 := by rw [htm, mod256]
        refine ⟨he, hT.bits q _ _ ws hw (by omega) hxlt _ _ rfl (fun n h1 h2 => ?_) (fun n hn => ?_), Fr.bits _ _ _ _ _ _ (.inl rfl)⟩
        · rw [hbits n h1 h2, ← e256]
          rfl
        · unfold putS
          rw [hT.out n hn]
          simp
          omega
      clear hv hn htm
      have h256' : ¬ (256 : Int) < n := by omega
      clear hm
      go_enter Try.func16, Try.ntmps16
      go_wp2_with (first | (go_at_call 12; refine hh.mono ?_; rintro e w1 ⟨rfl, hb1⟩; have hT1 := h.below hb1) | (go_at_call 28; refine (ha _ hT1.c0).mono ?_; rintro e w2 ⟨rfl, hb2⟩; have hT2 := hT1.below hb2) | (go_at_call 32; refine (hset _ hT2).mono ?_; rintro e w3 ⟨rfl, hT3, hF3⟩) | (go_at_call 33; refine (advance_any B p db cum (putS S m) ds _ hT3).mono ?_; rintro e w4 ⟨rfl, hT4, hF4⟩))
      go_ret
      exact ⟨ret_int (by rw [HE.out]; rfl), db, by rw [HX.out.1, HX.out.2.1, HX.out.2.2]; exact hT4, ((Fr.of_below hb1).trans (Fr.of_below hb2)).trans (hF3.trans hF4), fun k hk => .inl hk⟩
set_option maxHeartbeats 1000000 in
theorem tdups_any (B p : Nat) (db : Option Nat) (cum : Nat) (S : Nat → Bool) (ds : List Nat) (w : World) (h : Trk w B p db cum S ds) :
    Calls Try.prog 19 #[.pointer (some ⟨p, 0, none⟩)] w fun e w' => ∃ a c, e = .returned (.slice a ds.length c) ∧ OwnU w' B a ds.length c ds ∧ (Value.slice a ds.length c).ownBlock = db ∧ ds.length ≤ 16 ∧ Trk w' B p none cum S [] ∧ Fr (fun k => k = p) w w' := by
  obtain ⟨a, n, c, h5, ho, hd, hn⟩ := h.dup
  obtain ⟨ws, hw, hb⟩ := h.win
  obtain rfl := ho.len
  have hfr := hw.free 5
  have hF : Fr (fun k => k = p) w (w.setCell ⟨p, 5, none⟩ (.slice none 0 0)) := Fr.setCell _ _ _ _ rfl
  have HO : Hid (OwnU (w.setCell ⟨p, 5, none⟩ (.slice none 0 0)) B a ds.length c ds) := ho.fr hF (fun k hk e => h.apart (by rw [← hd, hk, e]))
  have HT : Hid (Trk (w.setCell ⟨p, 5, none⟩ (.slice none 0 0)) B p none cum S []) := by
    refine ⟨h.base, by simp [World.setCell]; exact h.lt, h.cumlt, ?_, ⟨ws, ⟨hw.len, hw.bnd, fun i hi => ?_, fun i => by rw [World.frozen?_setCell]; exact hw.free i⟩, hb⟩, h.out, ⟨none, 0, 0, ?_, OwnU.nil _ _, rfl, by omega⟩, fun e => by cases e⟩
    · rw [World.cell?_setCell_other _ _ _ _ (by intro e2; injection e2 with _ e3; omega)]
      exact h.c0
    · rw [World.cell?_setCell_other _ _ _ _ (by intro e2; injection e2 with _ e3; omega)]
      exact hw.cell i hi
    · exact World.cell?_setCell_same' _ _ _ (by rw [h5]; rfl)
  have HF := (show Hid _ from hF)
  have HD := (show Hid _ from hd)
  clear h hw hb ho hd hF
  go_enter Try.func19, Try.ntmps19
  go_wp2
  go_ret
  exact ⟨a, c, rfl, HO.out, HD.out, hn, HT.out, HF.out⟩
set_option maxHeartbeats 1000000 in
theorem new_any (f : Nat) (w : World) (hf : f < 4294967296) :
    Calls Try.prog 15 #[.int .u32 f] w fun e w' => ∃ p, e = .returned (.pointer (some ⟨p, 0, none⟩)) ∧ Trk w' w.heap.size p none (addV 4294967296 f (-1)) (fun _ => false) [] ∧ Below w.heap.size w w' := by
  have hon := fun w => onward_any f (-1) hf w
  have hlt := addV_lt 4294967296 f (-1) (by omega)
  generalize addV 4294967296 f (-1) = c at *
  go_enter Try.func15, Try.ntmps15
  go_wp2_with (go_at_call 30; refine (hon _).mono ?_; rintro e w1 ⟨rfl, hb1⟩)
  go_ret
  have hz := hb1.size
  have hcell : ∀ i, (w1.alloc (.cells #[.int .u32 (c : Nat), .int .u64 0, .int .u64 0, .int .u64 0, .int .u64 0, .slice none 0 0] 64)).cell? ⟨w1.heap.size, i, none⟩ = (#[.int .u32 (c : Nat), .int .u64 0, .int .u64 0, .int .u64 0, .int .u64 0, .slice none 0 0] : Array Value)[i]? := fun i => cell_new2 _ _ _ _ rfl
  have hfree : ∀ i, (w1.alloc (.cells #[.int .u32 (c : Nat), .int .u64 0, .int .u64 0, .int .u64 0, .int .u64 0, .slice none 0 0] 64)).frozen? ⟨w1.heap.size, i, none⟩ = false := by
    intro i
    have hh : (w1.alloc (.cells #[.int .u32 (c : Nat), .int .u64 0, .int .u64 0, .int .u64 0, .int .u64 0, .slice none 0 0] 64)).heap[w1.heap.size]? = some (.cells #[.int .u32 (c : Nat), .int .u64 0, .int .u64 0, .int .u64 0, .int .u64 0, .slice none 0 0] 64) := by
      show (w1.heap.push _)[w1.heap.size]? = _
      simp
    unfold World.frozen?
    dsimp only
    rw [hh]
    simp
  refine ⟨w1.heap.size, rfl, ⟨hz, by simp, hlt, ?_, ⟨[0, 0, 0, 0], ⟨rfl, fun i => ?_, fun i hi => ?_, hfree⟩, fun n h1 h2 => ?_⟩, fun _ _ => rfl, ⟨none, 0, 0, ?_, OwnU.nil _ _, rfl, by omega⟩, fun e => by cases e⟩, hb1.alloc hz _⟩
  · rw [hcell]; rfl
  · rcases i with _ | _ | _ | _ | i <;> simp
  · rw [hcell]
    rcases i with _ | _ | _ | _ | i
    · rfl
    · rfl
    · rfl
    · rfl
    · omega
  · unfold bitW
    have : ([0, 0, 0, 0] : List Nat).getD ((c + n) % 256 / 64) 0 = 0 := by
      generalize (c + n) % 256 / 64 = j
      rcases j with _ | _ | _ | _ | j <;> simp
    rw [this]; simp
  · rw [hcell]; rfl
end Go.Proofs.Ytlgpabdadnfbeaa
