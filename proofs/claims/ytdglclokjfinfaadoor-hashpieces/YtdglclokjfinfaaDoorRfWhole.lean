/- What the reference's Whole answers: the bytes with what stands behind them. -/
import Derived.Test.YtdglclokjfinfaaDoorHashM
import Derived.Test.YtdglclokjfinfaaDoorOwn
import Derived.Outline
import Derived.WalkLawsBesides
import Derived.WalkSpells
import Derived.BigQuiet
import Derived.Deep.QuietTactic
namespace Go.Proofs.YtdglclokjfinfaaDoor
open Go.RowKit
/-- A new row of bytes is answered. -/
structure RowP (w : World) (L : List Nat) (e : Ending) (w' : World) : Prop where
  row : ∃ a c, e = .returned (.slice a L.length c) ∧ OwnB w' w.heap.size a L.length c L
  bel : Below w.heap.size w w'
theorem nbE_take (N k : Nat) (hk : k < 8) : (nbE N).take k ++ [N / 256 ^ (7 - k) % 256] = (nbE N).take (k + 1) := by
  have hl : (nbE N).length = 8 := by simp [nbE]
  rw [take_snocN _ _ (by omega)]
  congr 2
  simp [nbE, List.getD_eq_getElem?_getD, hk]
theorem byte_at (N k : Nat) : ((N : Int) / 2 ^ (8 * k)) % 256 = ((N / 256 ^ k % 256 : Nat) : Int) := by
  rw [show (2 : Int) ^ (8 * k) = ((256 ^ k : Nat) : Int) from by rw [Int.natCast_pow, Int.pow_mul]; rfl]
  omega
def lenV : Value → Nat
  | .slice _ n _ => n
  | _ => 0
theorem padN_end (n m : Nat) (h : m ≤ padN n - 9) : ((n + 1 + m) % 64 = 56 ↔ m = padN n - 9) := by
  unfold padN at *
  split at h <;> rename_i h2
  · rw [if_pos h2]; omega
  · rw [if_neg h2]; omega
theorem padN_le (n : Nat) : padN n - 9 ≤ 63 := by unfold padN; split <;> omega
set_option maxRecDepth 100000 in
set_option maxHeartbeats 2000000 in
theorem whole_any (a : Option Addr) (n c : Nat) (zs : List Nat) (w : World) (h : Sl w a n c zs) (hn : n ≤ 140737488355200) :
    Calls Tryd.prog 20 #[.slice a n c] w fun e w' => RowP w (whole zs) e w' := by
  have hl := h.len
  have ho : OwnB (w.alloc (.cells #[] 5)) w.heap.size (some ⟨w.heap.size, 0, none⟩) 0 0 [] := own_empty w
  go_enter Tryd.func20, Tryd.ntmps20
  go_wp2_with (at_builtin; go_must (refine app_list rfl _ _ rfl w.heap.size _ 0 0 [] rfl ho _ n c zs rfl (h.below ((Below.refl _ _).alloc (Nat.le_refl _) _)) (by omega) (by simp) ?_))
  intro a1 c1 w1 ho1 hg1
  have hb1 : Below w.heap.size w w1 := ((Below.refl _ _).alloc (Nat.le_refl _) _).trans (ho.up hg1 (by simp))
  clear hg1 ho
  go_wp2_with (at_builtin; go_must (refine app_list rfl _ _ rfl w.heap.size _ n c1 zs rfl (ho1.alloc _) _ 1 1 [128] rfl (sl_new w1 5 (0, 0) [128] rfl (by decide) _ rfl) (by omega) (by have := hb1.size; simp; omega) ?_))
  intro a2 c2 w2 ho2 hg2
  have hb2 : Below w.heap.size w w2 := (hb1.alloc (by have := hb1.size; omega) _).trans ((ho1.alloc _).up hg2 (by have := hb1.size; simp; omega))
  clear hg2 ho1 hb1
  go_wp2_with fail
  have hP := padN_le n
  obtain ⟨P, hPe⟩ : ∃ P, P = padN n - 9 := ⟨_, rfl⟩
  have hend := padN_end n
  rw [← hPe] at hP hend
  have HP := (show Hid _ from hPe)
  clear hPe
  go_loopw [3] (fun ov wr => ∃ (m : Nat) (a3 : Option Addr) (c3 : Nat), m ≤ P ∧ ov = .slice a3 (n + 1 + m) c3 ∧ OwnB wr w.heap.size a3 (n + 1 + m) c3 (zs ++ [128] ++ List.replicate m 0) ∧ Below w.heap.size w wr) (fun ov _ => n + 200 - lenV ov)
  case atStart => exact ⟨0, a2, c2, by omega, rfl, by simpa using ho2, hb2⟩
  case round =>
    obtain ⟨m, a3, c3, hm, rfl, ho3, hb3⟩ := hrel
    clear ho2 hb2
    have he := hend m hm
    by_cases hmP : m = P
    · subst hmP
      have h56 : ((n + 1 + m : Nat) : Int) % 64 = 56 := by have := he.2 rfl; omega
      have h56' : (((n + 1 + m : Nat) : Int) % 64 != 56) = false := by rw [h56]; rfl
      have ho3' : OwnB wr w.heap.size a3 (n + 1 + m) c3 (zs ++ 128 :: List.replicate m 0) := by simpa using ho3
      have HEN : Hid (whole zs = (zs ++ 128 :: List.replicate m 0) ++ nbE (n * 8)) := by
        show _ = _
        unfold whole endB
        rw [hl, ← HP.out, Nat.mod_eq_of_lt (by omega)]
        simp
      generalize zs ++ 128 :: List.replicate m 0 = E at *
      obtain ⟨L0, hL0⟩ : ∃ L0, L0 = n + 1 + m := ⟨_, rfl⟩
      have HL0 := (show Hid _ from hL0)
      rw [← hL0] at ho3'
      clear ho3 he hend hm hL0
      go_wp2_with fail
      generalize (((n : Int) + 1 + (m : Int)) % 64 != 56) = zb
      generalize ((n : Int) + 1 + (m : Int)) % 64 = Z
      generalize (n : Int) + 1 + (m : Int) = Z2
      obtain ⟨wA, hwA⟩ : ∃ wA, wA = wr := ⟨_, rfl⟩
      subst hwA
      go_loopw [3, 5] (fun ov iv wr => ∃ (k : Nat) (a4 : Option Addr) (c4 : Nat), k ≤ 8 ∧ iv = .int .i64 (7 - (k : Int)) ∧ ov = .slice a4 (L0 + k) c4 ∧ OwnB wr w.heap.size a4 (L0 + k) c4 (E ++ (nbE (n * 8)).take k) ∧ Below w.heap.size w wr) (fun _ iv _ => (intOf iv + 1).toNat)
      case atStart => exact ⟨0, a3, c3, by omega, rfl, by rw [HL0.out]; rfl, by simpa using ho3', hb3⟩
      case round =>
        obtain ⟨k, a4, c4, hk, rfl, rfl, ho4, hb4⟩ := hrel
        clear ho3' hb3 h56 h56'
        by_cases hk8 : k = 8
        · subst hk8
          have HL8 : Hid ((nbE (n * 8)).take 8 = nbE (n * 8)) := by show _ = _; rw [List.take_of_length_le]; simp [nbE]
          rw [HL8.out, ← HEN.out] at ho4
          have HLN : Hid ((whole zs).length = L0 + 8) := ho4.len
          go_wp2
          go_ret
          refine ⟨⟨a4, c4, by rw [HLN.out]; rfl, by rw [HLN.out]; exact ho4⟩, hb4⟩
        · obtain ⟨q, hq⟩ : ∃ q, q = 7 - k := ⟨_, rfl⟩
          have hqi : 7 - (k : Int) = (q : Int) := by omega
          have hq7 : q ≤ 7 := by omega
          rw [hqi]
          have HQ := (show Hid _ from hqi)
          have HNT := (show Hid _ from nbE_take (n * 8) k (by omega))
          rw [← hq] at HNT
          have hL0' := HL0.out
          have hbv : ((n : Int) * 8 / 2 ^ (8 * q)) % 256 = ((n * 8 / 256 ^ q % 256 : Nat) : Int) := by have := byte_at (n * 8) q; rwa [Int.natCast_mul] at this
          have hbl : n * 8 / 256 ^ q % 256 < 256 := Nat.mod_lt _ (by omega)
          have hLb : L0 + k + 1 ≤ 140737488355328 := by omega
          obtain ⟨bv, hbe⟩ : ∃ bv, bv = n * 8 / 256 ^ q % 256 := ⟨_, rfl⟩
          rw [← hbe] at HNT hbv hbl
          clear hq hqi hL0' hbe
          have hi1 : (0 : Int) ≤ (q : Int) := by omega
          have hmul : IntKind.i64.wrap (8 * (q : Int)) = ((8 * q : Nat) : Int) := by rw [IntKind.wrap_i64]; omega
          have hz4 := hb4.size
          go_wp2_with (at_builtin; go_must (refine app_list rfl _ _ rfl w.heap.size _ _ c4 _ rfl (ho4.alloc _) _ 1 1 [bv] rfl (sl_one wr 5 _ bv rfl hbl) hLb (by simp; omega) ?_))
          intro a5 c5 w5 ho5 hg5
          have hb5 : Below w.heap.size w w5 := (hb4.alloc (by have := hb4.size; omega) _).trans ((ho4.alloc _).up hg5 (by have := hb4.size; simp; omega))
          clear hg5
          go_wp2
          go_roundw
          case rel => exact ⟨k + 1, a5, c5, by omega, by have := HQ.out; go_num, rfl, by rw [← HNT.out]; exact ho5, hb5⟩
          case measure => have := HQ.out; simp [intOf]
    · have h56 : ¬ ((n + 1 + m : Nat) : Int) % 64 = 56 := by intro e; exact hmP (he.1 (by omega))
      have h56' : (((n + 1 + m : Nat) : Int) % 64 != 56) = true := by simpa using h56
      have hz3 := hb3.size
      go_wp2_with (at_builtin; go_must (refine app_list rfl _ _ rfl w.heap.size _ _ c3 _ rfl (ho3.alloc _) _ 1 1 [0] rfl (sl_new wr 5 (0, 0) [0] rfl (by decide) _ rfl) (by omega) (by simp; omega) ?_))
      intro a4 c4 w4 ho4 hg4
      have hb4 : Below w.heap.size w w4 := (hb3.alloc (by have := hb3.size; omega) _).trans ((ho3.alloc _).up hg4 (by have := hb3.size; simp; omega))
      clear hg4
      go_wp2
      go_roundw
      case rel => exact ⟨m + 1, a4, c4, by omega, rfl, by rw [List.replicate_succ', List.append_assoc]; exact ho4, hb4⟩
      case measure => simp [lenV]; omega
end Go.Proofs.YtdglclokjfinfaaDoor
