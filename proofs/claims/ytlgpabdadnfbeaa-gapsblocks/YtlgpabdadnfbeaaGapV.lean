/- What advance of a tracker does: cum goes on over all that were taken. -/
import Derived.Test.YtlgpabdadnfbeaaGapA
namespace Go.Proofs.Ytlgpabdadnfbeaa
open Go.RowKit
/-- A window's store leaves the rest. -/
theorem Trk.bits {w : World} {B p : Nat} {db : Option Nat} {cum : Nat} {S : Nat → Bool} {ds : List Nat} (h : Trk w B p db cum S ds) (q i x : Nat) (ws : List Nat) (hw : Win w p 1 ws) (hi : i < 4) (hx : x < 18446744073709551616) (cum' : Nat) (S' : Nat → Bool) (hc : cum' = cum)
    (hS : ∀ n, 1 ≤ n → n ≤ 256 → S' n = bitW (ws.set i x) ((cum' + n) % 256)) (ho : ∀ n, ¬ (1 ≤ n ∧ n ≤ 256) → S' n = false) :
    Trk ((w.drewN q).setCell ⟨p, 1 + i, none⟩ (.int .u64 (x : Nat))) B p db cum' S' ds := by
  subst hc
  obtain ⟨a, n, c, h5, hown, hd, hn⟩ := h.dup
  have hFr3 : Fr (fun k => k = p) w ((w.drewN q).setCell ⟨p, 1 + i, none⟩ (.int .u64 (x : Nat))) := (Fr.of_below (P := fun k => k = p) (w := w) (w' := w.drewN q) ⟨rfl, rfl, rfl, Nat.le_refl _, fun _ _ => rfl⟩).trans (Fr.setCell _ _ _ _ rfl)
  have hst : Win ((w.drewN q).setCell ⟨p, 1 + i, none⟩ (.int .u64 (x : Nat))) p 1 (ws.set i x) := by
    have : Win (w.drewN q) p 1 ws := ⟨hw.len, hw.bnd, hw.cell, hw.free⟩
    exact this.store i x hi hx
  refine ⟨h.base, Nat.lt_of_lt_of_le h.lt hFr3.size, h.cumlt, ?_, ⟨_, hst, hS⟩, ho, ⟨a, n, c, ?_, hown.fr hFr3 (fun k hk e => h.apart (by rw [← hd, hk, e])), hd, hn⟩, h.apart⟩
  · rw [World.cell?_setCell_other _ _ _ _ (by intro e2; injection e2 with _ e3; omega)]
    exact h.c0
  · rw [World.cell?_setCell_other _ _ _ _ (by intro e2; injection e2 with _ e3; omega)]
    exact h5
theorem Fr.bits (P : Nat → Prop) (w : World) (q p o : Nat) (v : Value) (hp : P p) : Fr P w ((w.drewN q).setCell ⟨p, o, none⟩ v) :=
  (Fr.of_below (P := P) (w := w) (w' := w.drewN q) ⟨rfl, rfl, rfl, Nat.le_refl _, fun _ _ => rfl⟩).trans (Fr.setCell _ _ _ _ hp)
/-- cum is written: what was n + 1 ahead is n ahead. -/
theorem Trk.next {w : World} {B p : Nat} {db : Option Nat} {cum : Nat} {S : Nat → Bool} {ds : List Nat} (h : Trk w B p db cum S ds) (h1 : S 1 = false) (q : Nat) :
    Trk ((w.drewN q).setCell ⟨p, 0, none⟩ (.int .u32 ((cum + 1) % 4294967296 : Nat))) B p db ((cum + 1) % 4294967296) (onS S 1) ds := by
  obtain ⟨a, n, c, h5, hown, hd, hn⟩ := h.dup
  obtain ⟨ws, hw, hb⟩ := h.win
  have hFr3 : Fr (fun k => k = p) w ((w.drewN q).setCell ⟨p, 0, none⟩ (.int .u32 ((cum + 1) % 4294967296 : Nat))) := Fr.bits _ _ _ _ _ _ rfl
  refine ⟨h.base, Nat.lt_of_lt_of_le h.lt hFr3.size, Nat.mod_lt _ (by omega), ?_, ⟨ws, ⟨hw.len, hw.bnd, fun i hi => ?_, fun i => by rw [World.frozen?_setCell]; exact hw.free i⟩, fun n h1' h2' => ?_⟩, fun n hn => ?_, ⟨a, n, c, ?_, hown.fr hFr3 (fun k hk e => h.apart (by rw [← hd, hk, e])), hd, hn⟩, h.apart⟩
  · exact World.cell?_setCell_same' _ _ _ (by show (w.cell? _).isSome = true; rw [h.c0]; rfl)
  · rw [World.cell?_setCell_other _ _ _ _ (by intro e2; injection e2 with _ e3; omega)]
    exact hw.cell i hi
  · unfold onS
    rw [if_neg (by omega)]
    by_cases h256 : n = 256
    · subst h256
      have e1 := hb 1 (by omega) (by omega)
      rw [h1] at e1
      rw [h.out (256 + 1) (by omega), e1]
      congr 1
      omega
    · rw [hb (n + 1) (by omega) (by omega)]
      congr 1
      omega
  · unfold onS
    split
    · rfl
    · exact h.out (n + 1) (by omega)
  · rw [World.cell?_setCell_other _ _ _ _ (by intro e2; injection e2 with _ e3; omega)]
    exact h5
theorem onS_onS (S : Nat → Bool) (k : Nat) : onS (onS S k) 1 = onS S (k + 1) := by
  funext n
  unfold onS
  split
  · rfl
  · rw [if_neg (by omega), show n + 1 + k = n + (k + 1) from by omega]
theorem up_k (cum k : Nat) (hk : k < 4294967296) : upV 4294967296 ((cum + 1) % 4294967296) ((cum + k + 1) % 4294967296) = k := by
  have h := upV_int 4294967296 ((cum + 1) % 4294967296) ((cum + k + 1) % 4294967296) (Nat.mod_lt _ (by omega))
  omega
theorem addV_one (a : Nat) : addV 4294967296 a 1 = (a + 1) % 4294967296 := by
  unfold addV; omega
/-- A window without one bit. -/
def offS (S : Nat → Bool) : Nat → Bool := fun n => S n && !decide (n = 1)
theorem onS_off (S : Nat → Bool) : onS (offS S) 1 = onS S 1 := by
  funext n
  unfold onS offS
  split
  · rfl
  · simp; omega
set_option maxHeartbeats 2000000 in
theorem advance_any (B p : Nat) (db : Option Nat) (cum : Nat) (S : Nat → Bool) (ds : List Nat) (w : World) (h : Trk w B p db cum S ds) :
    Calls Try.prog 33 #[.pointer (some ⟨p, 0, none⟩)] w fun e w' => e = .returned (.tuple #[]) ∧ Trk w' B p db ((cum + lead S) % 4294967296) (onS S (lead S)) ds ∧ Fr (ownT p db) w w' := by
  have hon := fun w => onward_any cum 1 h.cumlt w
  rw [addV_one] at hon
  have hc0 := h.c0
  have hS0 := h.out 0 (by omega)
  have hS257 := h.out 257 (by omega)
  have hcl := h.cumlt
  go_enter Try.func33, Try.ntmps33
  go_wp2_with (go_at_call 30; refine (hon _).mono ?_; rintro e w1 ⟨rfl, hb1⟩)
  have hT1 := h.below hb1
  have hF1 : Fr (ownT p db) w w1 := Fr.of_below hb1
  clear h hb1 hc0 hon
  go_loopw [2] (fun nv wr => ∃ k : Nat, k ≤ 256 ∧ (∀ i, 1 ≤ i → i ≤ k → S i = true) ∧ nv = .int .u32 ((cum + k + 1) % 4294967296 : Nat) ∧ Trk wr B p db ((cum + k) % 4294967296) (onS S k) ds ∧ Fr (ownT p db) w wr) (fun nv _ => 256 - upV 4294967296 ((cum + 1) % 4294967296) (intOf nv).toNat)
  case atStart => exact ⟨0, by omega, fun i h1 h2 => by omega, rfl, by rw [onS_zero S hS0, Nat.add_zero, Nat.mod_eq_of_lt hcl]; exact hT1, hF1⟩
  case round =>
    obtain ⟨k, hk, hall, rfl, hT, hF⟩ := hrel
    clear hT1 hF1
    obtain ⟨ws, hw, hbits⟩ := hT.win
    have hhas := fun W (h : Win W p 1 ws) => has_any p 1 ((cum + k + 1) % 4294967296) ws W h
    have hb1 := hbits 1 (by omega) (by omega)
    have e1 : ((cum + k) % 4294967296 + 1) % 256 = (cum + k + 1) % 4294967296 % 256 := by omega
    have e2 : onS S k 1 = S (k + 1) := by unfold onS; rw [if_neg (by omega), Nat.add_comm 1 k]
    rw [e1, e2] at hb1
    rw [← hb1] at hhas
    cases hSk : S (k + 1) with
    | true =>
      have hk1 : k + 1 ≤ 256 := by
        rcases Nat.lt_or_ge k 256 with h | h
        · omega
        · have : k = 256 := by omega
          subst this
          rw [hS257] at hSk
          cases hSk
      have HA : Hid (∀ i, 1 ≤ i → i ≤ k + 1 → S i = true) := fun i h1 h2 => by
        by_cases e : i = k + 1
        · rw [e]; exact hSk
        · exact hall i h1 (by omega)
      have HM : Hid (upV 4294967296 ((cum + 1) % 4294967296) ((cum + k + 1) % 4294967296) = k ∧ upV 4294967296 ((cum + 1) % 4294967296) ((cum + (k + 1) + 1) % 4294967296) = k + 1) := ⟨up_k cum k (by omega), up_k cum (k + 1) (by omega)⟩
      rw [hSk] at hhas
      have hun := unset_any p 1 ((cum + k + 1) % 4294967296) ws wr hw
      have hi4 : (cum + k + 1) % 4294967296 % 256 / 64 < 4 := by omega
      have hxlt : ws.getD ((cum + k + 1) % 4294967296 % 256 / 64) 0 &&& (18446744073709551615 - 2 ^ ((cum + k + 1) % 4294967296 % 256 % 64)) < 18446744073709551616 := Nat.lt_of_le_of_lt Nat.and_le_left (hw.bnd _)
      have hTo : ∀ q, Trk ((wr.drewN q).setCell ⟨p, 1 + (cum + k + 1) % 4294967296 % 256 / 64, none⟩ (.int .u64 (ws.getD ((cum + k + 1) % 4294967296 % 256 / 64) 0 &&& (18446744073709551615 - 2 ^ ((cum + k + 1) % 4294967296 % 256 % 64)) : Nat))) B p db ((cum + k) % 4294967296) (offS (onS S k)) ds := by
        intro q
        refine hT.bits q _ _ ws hw hi4 hxlt _ _ rfl (fun n h1 h2 => ?_) (fun n hn => ?_)
        · have hclr := bitW_clr ws hw.len ((cum + k + 1) % 4294967296 % 256) (((cum + k) % 4294967296 + n) % 256) (Nat.mod_lt _ (by omega)) (Nat.mod_lt _ (by omega))
          unfold clrW at hclr
          rw [hclr, ← hbits n h1 h2]
          unfold offS
          congr 2
          rw [decide_eq_decide]
          omega
        · unfold offS
          rw [hT.out n hn]
          rfl
      have hFo : ∀ q x, Fr (ownT p db) w ((wr.drewN q).setCell ⟨p, 1 + (cum + k + 1) % 4294967296 % 256 / 64, none⟩ x) := fun q x => hF.trans (Fr.bits _ _ _ _ _ _ (.inl rfl))
      have hun2 : Calls Try.prog 47 #[.pointer (some ⟨p, 1, none⟩), .int .u32 ((cum + k + 1) % 4294967296 : Nat)] wr fun e w' => e = .returned (.tuple #[]) ∧ Trk w' B p db ((cum + k) % 4294967296) (offS (onS S k)) ds ∧ Fr (ownT p db) w w' := by
        refine hun.mono ?_
        rintro e w' ⟨he, q, rfl⟩
        exact ⟨he, hTo q, hFo q _⟩
      have hon := fun w => onward_any ((cum + k + 1) % 4294967296) 1 (Nat.mod_lt _ (by omega)) w
      rw [addV_one, show ((cum + k + 1) % 4294967296 + 1) % 4294967296 = (cum + (k + 1) + 1) % 4294967296 from by omega] at hon
      have HC : Hid (((cum + k) % 4294967296 + 1) % 4294967296 = (cum + k + 1) % 4294967296 ∧ (cum + k + 1) % 4294967296 = (cum + (k + 1)) % 4294967296) := ⟨by omega, by omega⟩
      clear hun hTo hFo hxlt hi4 hbits hb1 hall hT hF e1 e2 hSk
      obtain ⟨nx, hnx⟩ : ∃ nx, nx = (cum + k + 1) % 4294967296 := ⟨_, rfl⟩
      rw [← hnx] at hhas hun2 hon HC HM ⊢
      obtain ⟨ck, hck⟩ : ∃ ck, ck = (cum + k) % 4294967296 := ⟨_, rfl⟩
      rw [← hck] at hun2 HC
      obtain ⟨n2, hn2⟩ : ∃ n2, n2 = (cum + (k + 1) + 1) % 4294967296 := ⟨_, rfl⟩
      rw [← hn2] at hon HM
      have HN2 := (show Hid _ from hn2)
      clear hnx hck hn2
      go_wp2_with (first | (go_at_call 29; refine (hhas _ hw).mono ?_; rintro e w' ⟨rfl, hw'⟩; subst w') | (go_at_call 47; refine hun2.mono ?_; clear hun2; rintro e w2 ⟨rfl, hT2, hF2⟩; have hc2 := hT2.c0; have hf2 : w2.frozen? ⟨p, 0, none⟩ = false := by (obtain ⟨ws2, hw2, _⟩ := hT2.win; exact hw2.free 0)) | (go_at_call 30; refine (hon _).mono ?_; rintro e w3 ⟨rfl, hb3⟩))
      have hT3 := hT2.next (by unfold offS; simp) 0
      rw [HC.out.1, World.drewN_zero] at hT3
      have hF3 := hF2.trans (Fr.setCell (ownT p db) w2 ⟨p, 0, none⟩ (.int .u32 (nx : Nat)) (.inl rfl))
      have hT4 := hT3.below hb3
      have hF4 := hF3.trans (Fr.of_below hb3)
      rw [onS_off, onS_onS, HC.out.2] at hT4
      clear hT2 hT3 hF2 hF3 hb3
      go_roundw
      case rel => exact ⟨k + 1, hk1, HA.out, by rw [HN2.out], hT4, hF4⟩
      case measure => simp [intOf]; rw [HM.out.1, HM.out.2]; omega
    | false =>
      have HL : Hid (lead S = k) := lead_of S k hk hall hSk
      rw [hSk] at hhas
      have HT := (show Hid _ from hT)
      clear hT hbits hb1 hall
      go_wp2_with (go_at_call 29; refine (hhas _ hw).mono ?_; rintro e w' ⟨rfl, hw'⟩; subst w')
      go_end0
      exact ⟨rfl, by rw [HL.out]; exact HT.out, hF⟩
end Go.Proofs.Ytlgpabdadnfbeaa
