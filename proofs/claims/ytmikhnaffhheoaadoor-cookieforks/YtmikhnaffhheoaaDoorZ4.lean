/- What the reference's roots answers: the 64 words of the rounds, in a new row. -/
import Derived.Test.YtmikhnaffhheoaaDoorHashM
import Derived.Test.YtmikhnaffhheoaaDoorProg
import Derived.Outline
import Derived.WalkLawsBesides
import Derived.WalkSpells
import Derived.BigQuiet
import Derived.Deep.QuietTactic
import Derived.Test.YtmikhnaffhheoaaDoorOwn
import Derived.Test.YtmikhnaffhheoaaDoorOwnU
import Derived.Test.YtmikhnaffhheoaaDoorSpread
import Derived.Deep.RegionLaw
import Derived.Deep.RegionHeld3
namespace Go.Proofs.YtmikhnaffhheoaaDoor
open Go.RowKit
set_option maxHeartbeats 1000000 in
theorem rturn_any (x m : Nat) (w : World) (hx : x < 4294967296) (h1 : 1 ≤ m) (h2 : m ≤ 31) :
    Calls Tryd.prog 54 #[.int .u32 (x : Nat), .int .i64 (m : Nat)] w fun e w' => e = .returned (.int .u32 (rotN x m : Nat)) ∧ ∃ q, w' = w.drewN q := by
  obtain ⟨s, hs⟩ : ∃ s : Nat, s = 32 - m := ⟨_, rfl⟩
  have hsub : (32 : Int) - (m : Int) = (s : Int) := by omega
  have hsub2 : IntKind.i64.wrap ((32 : Int) - (m : Int)) = (s : Int) := by rw [IntKind.wrap_i64]; omega
  have HR : Hid (bits .or .u32 ((x : Int) / 2 ^ m) (((x : Int) * 2 ^ s) % 4294967296) = ((rotN x m : Nat) : Int)) := by
    show _ = _
    have p2 : ∀ k : Nat, ((2 : Int) ^ k) = ((2 ^ k : Nat) : Int) := fun k => by rw [Int.natCast_pow]; rfl
    have e1 : (((x : Int) * 2 ^ s) % 4294967296) = ((x * 2 ^ s % 4294967296 : Nat) : Int) := by rw [p2, ← Int.natCast_mul]; exact (Int.natCast_emod _ 4294967296).symm
    have e2 : ((x : Int) / 2 ^ m) = ((x / 2 ^ m : Nat) : Int) := by rw [p2]; exact (Int.natCast_ediv _ _).symm
    rw [e1, e2, u32_or_nat _ _ (Nat.lt_of_le_of_lt (Nat.div_le_self _ _) hx) (Nat.mod_lt _ (by omega))]
    unfold rotN
    rw [Nat.shiftRight_eq_div_pow, Nat.shiftLeft_eq, hs]
  have hs31 : s ≤ 31 := by omega
  have hs31' : (s : Int) < 32 := by omega
  have hm31 : (m : Int) < 32 := by omega
  clear hs
  go_enter Tryd.func54, Tryd.ntmps54
  go_wp2_with fail
  go_quiet (fail)
  all_goals
    go_wp2
    go_ret
    exact ⟨by rw [← HR.out]; rfl, _, rfl⟩
theorem rturn_at (x m : Nat) (w : World) (hx : x < 4294967296) (h1 : 1 ≤ m) (h2 : m ≤ 31) (v1 v2 : Value) (e1 : v1 = .int .u32 (x : Nat)) (e2 : v2 = .int .i64 (m : Nat)) :
    Calls Tryd.prog 54 #[v1, v2] w fun e w' => e = .returned (.int .u32 (rotN x m : Nat)) ∧ ∃ q, w' = w.drewN q := by
  subst e1 e2; exact rturn_any x m w hx h1 h2
end Go.Proofs.YtmikhnaffhheoaaDoor
namespace Go.Proofs.YtmikhnaffhheoaaDoor
open Go.RowKit
/-- A new row of bytes is answered. -/
structure RowP (w : World) (L : List Nat) (e : Ending) (w' : World) : Prop where
  row : ∃ a c, e = .returned (.slice a L.length c) ∧ OwnB w' w.heap.size a L.length c L
  bel : Below w.heap.size w w'
theorem nbE_take (N k : Nat) (hk : k < 8) : (nbE N).take k ++ [N / 256 ^ (7 - k) % 256] = (nbE N).take (k + 1) := by
  have hl : (nbE N).length = 8 := by simp [nbE]
  rw [take_snocN _ _ (by omega)]
  congr 2
  simp [nbE, List.getD_eq_getElem?_getD, hk]
theorem byte_at (N k : Nat) : ((N : Int) / 2 ^ (8 * k)) % 256 = ((N / 256 ^ k % 256 : Nat) : Int) := by
  rw [show (2 : Int) ^ (8 * k) = ((256 ^ k : Nat) : Int) from by rw [Int.natCast_pow, Int.pow_mul]; rfl]
  omega
def lenV : Value → Nat
  | .slice _ n _ => n
  | _ => 0
theorem padN_end (n m : Nat) (h : m ≤ padN n - 9) : ((n + 1 + m) % 64 = 56 ↔ m = padN n - 9) := by
  unfold padN at *
  split at h <;> rename_i h2
  · rw [if_pos h2]; omega
  · rw [if_neg h2]; omega
theorem padN_le (n : Nat) : padN n - 9 ≤ 63 := by unfold padN; split <;> omega
set_option maxRecDepth 100000 in
set_option maxHeartbeats 2000000 in
theorem whole_any (a : Option Addr) (n c : Nat) (zs : List Nat) (w : World) (h : Sl w a n c zs) (hn : n ≤ 140737488355200) :
    Calls Tryd.prog 51 #[.slice a n c] w fun e w' => RowP w (whole zs) e w' := by
  have hl := h.len
  have ho : OwnB (w.alloc (.cells #[] 5)) w.heap.size (some ⟨w.heap.size, 0, none⟩) 0 0 [] := own_empty w
  go_enter Tryd.func51, Tryd.ntmps51
  go_wp2_with (at_builtin; go_must (refine app_list rfl _ _ rfl w.heap.size _ 0 0 [] rfl ho _ n c zs rfl (h.below ((Below.refl _ _).alloc (Nat.le_refl _) _)) (by omega) (by simp) ?_))
  intro a1 c1 w1 ho1 hg1
  have hb1 : Below w.heap.size w w1 := ((Below.refl _ _).alloc (Nat.le_refl _) _).trans (ho.up hg1 (by simp))
  clear hg1 ho
  go_wp2_with (at_builtin; go_must (refine app_list rfl _ _ rfl w.heap.size _ n c1 zs rfl (ho1.alloc _) _ 1 1 [128] rfl (sl_new w1 5 (0, 0) [128] rfl (by decide) _ rfl) (by omega) (by have := hb1.size; simp; omega) ?_))
  intro a2 c2 w2 ho2 hg2
  have hb2 : Below w.heap.size w w2 := (hb1.alloc (by have := hb1.size; omega) _).trans ((ho1.alloc _).up hg2 (by have := hb1.size; simp; omega))
  clear hg2 ho1 hb1
  go_wp2_with fail
  have hP := padN_le n
  obtain ⟨P, hPe⟩ : ∃ P, P = padN n - 9 := ⟨_, rfl⟩
  have hend := padN_end n
  rw [← hPe] at hP hend
  have HP := (show Hid _ from hPe)
  clear hPe
  go_loopw [3] (fun ov wr => ∃ (m : Nat) (a3 : Option Addr) (c3 : Nat), m ≤ P ∧ ov = .slice a3 (n + 1 + m) c3 ∧ OwnB wr w.heap.size a3 (n + 1 + m) c3 (zs ++ [128] ++ List.replicate m 0) ∧ Below w.heap.size w wr) (fun ov _ => n + 200 - lenV ov)
  case atStart => exact ⟨0, a2, c2, by omega, rfl, by simpa using ho2, hb2⟩
  case round =>
    obtain ⟨m, a3, c3, hm, rfl, ho3, hb3⟩ := hrel
    clear ho2 hb2
    have he := hend m hm
    by_cases hmP : m = P
    · subst hmP
      have h56 : ((n + 1 + m : Nat) : Int) % 64 = 56 := by have := he.2 rfl; omega
      have h56' : (((n + 1 + m : Nat) : Int) % 64 != 56) = false := by rw [h56]; rfl
      have ho3' : OwnB wr w.heap.size a3 (n + 1 + m) c3 (zs ++ 128 :: List.replicate m 0) := by simpa using ho3
      have HEN : Hid (whole zs = (zs ++ 128 :: List.replicate m 0) ++ nbE (n * 8)) := by
        show _ = _
        unfold whole endB
        rw [hl, ← HP.out, Nat.mod_eq_of_lt (by omega)]
        simp
      generalize zs ++ 128 :: List.replicate m 0 = E at *
      obtain ⟨L0, hL0⟩ : ∃ L0, L0 = n + 1 + m := ⟨_, rfl⟩
      have HL0 := (show Hid _ from hL0)
      rw [← hL0] at ho3'
      clear ho3 he hend hm hL0
      go_wp2_with fail
      generalize (((n : Int) + 1 + (m : Int)) % 64 != 56) = zb
      generalize ((n : Int) + 1 + (m : Int)) % 64 = Z
      generalize (n : Int) + 1 + (m : Int) = Z2
      obtain ⟨wA, hwA⟩ : ∃ wA, wA = wr := ⟨_, rfl⟩
      subst hwA
      go_loopw [3, 5] (fun ov iv wr => ∃ (k : Nat) (a4 : Option Addr) (c4 : Nat), k ≤ 8 ∧ iv = .int .i64 (7 - (k : Int)) ∧ ov = .slice a4 (L0 + k) c4 ∧ OwnB wr w.heap.size a4 (L0 + k) c4 (E ++ (nbE (n * 8)).take k) ∧ Below w.heap.size w wr) (fun _ iv _ => (intOf iv + 1).toNat)
      case atStart => exact ⟨0, a3, c3, by omega, rfl, by rw [HL0.out]; rfl, by simpa using ho3', hb3⟩
      case round =>
        obtain ⟨k, a4, c4, hk, rfl, rfl, ho4, hb4⟩ := hrel
        clear ho3' hb3 h56 h56'
        by_cases hk8 : k = 8
        · subst hk8
          have HL8 : Hid ((nbE (n * 8)).take 8 = nbE (n * 8)) := by show _ = _; rw [List.take_of_length_le]; simp [nbE]
          rw [HL8.out, ← HEN.out] at ho4
          have HLN : Hid ((whole zs).length = L0 + 8) := ho4.len
          go_wp2
          go_ret
          refine ⟨⟨a4, c4, by rw [HLN.out]; rfl, by rw [HLN.out]; exact ho4⟩, hb4⟩
        · obtain ⟨q, hq⟩ : ∃ q, q = 7 - k := ⟨_, rfl⟩
          have hqi : 7 - (k : Int) = (q : Int) := by omega
          have hq7 : q ≤ 7 := by omega
          rw [hqi]
          have HQ := (show Hid _ from hqi)
          have HNT := (show Hid _ from nbE_take (n * 8) k (by omega))
          rw [← hq] at HNT
          have hL0' := HL0.out
          have hbv : ((n : Int) * 8 / 2 ^ (8 * q)) % 256 = ((n * 8 / 256 ^ q % 256 : Nat) : Int) := by have := byte_at (n * 8) q; rwa [Int.natCast_mul] at this
          have hbl : n * 8 / 256 ^ q % 256 < 256 := Nat.mod_lt _ (by omega)
          have hLb : L0 + k + 1 ≤ 140737488355328 := by omega
          obtain ⟨bv, hbe⟩ : ∃ bv, bv = n * 8 / 256 ^ q % 256 := ⟨_, rfl⟩
          rw [← hbe] at HNT hbv hbl
          clear hq hqi hL0' hbe
          have hi1 : (0 : Int) ≤ (q : Int) := by omega
          have hmul : IntKind.i64.wrap (8 * (q : Int)) = ((8 * q : Nat) : Int) := by rw [IntKind.wrap_i64]; omega
          have hz4 := hb4.size
          go_wp2_with (at_builtin; go_must (refine app_list rfl _ _ rfl w.heap.size _ _ c4 _ rfl (ho4.alloc _) _ 1 1 [bv] rfl (sl_one wr 5 _ bv rfl hbl) hLb (by simp; omega) ?_))
          intro a5 c5 w5 ho5 hg5
          have hb5 : Below w.heap.size w w5 := (hb4.alloc (by have := hb4.size; omega) _).trans ((ho4.alloc _).up hg5 (by have := hb4.size; simp; omega))
          clear hg5
          go_wp2
          go_roundw
          case rel => exact ⟨k + 1, a5, c5, by omega, by have := HQ.out; go_num, rfl, by rw [← HNT.out]; exact ho5, hb5⟩
          case measure => have := HQ.out; simp [intOf]
    · have h56 : ¬ ((n + 1 + m : Nat) : Int) % 64 = 56 := by intro e; exact hmP (he.1 (by omega))
      have h56' : (((n + 1 + m : Nat) : Int) % 64 != 56) = true := by simpa using h56
      have hz3 := hb3.size
      go_wp2_with (at_builtin; go_must (refine app_list rfl _ _ rfl w.heap.size _ _ c3 _ rfl (ho3.alloc _) _ 1 1 [0] rfl (sl_new wr 5 (0, 0) [0] rfl (by decide) _ rfl) (by omega) (by simp; omega) ?_))
      intro a4 c4 w4 ho4 hg4
      have hb4 : Below w.heap.size w w4 := (hb3.alloc (by have := hb3.size; omega) _).trans ((ho3.alloc _).up hg4 (by have := hb3.size; simp; omega))
      clear hg4
      go_wp2
      go_roundw
      case rel => exact ⟨m + 1, a4, c4, by omega, rfl, by rw [List.replicate_succ', List.append_assoc]; exact ho4, hb4⟩
      case measure => simp [lenV]; omega
end Go.Proofs.YtmikhnaffhheoaaDoor
namespace Go.Proofs.YtmikhnaffhheoaaDoor
open Go.RowKit
/-- A new row of words is answered. -/
structure RowPU (w : World) (L : List Nat) (e : Ending) (w' : World) : Prop where
  row : ∃ a c, e = .returned (.slice a L.length c) ∧ OwnU w' w.heap.size a L.length c L
  bel : Below w.heap.size w w'
theorem u32_oneB (w : World) (t : TypeId) (x : Nat) (hx : x < 4294967296) (W : World) (hW : W = w.alloc (.cells #[.int .u32 (x : Nat)] t)) : SlU W (some ⟨w.heap.size, 0, none⟩) 1 1 [x] := by
  subst hW
  refine ⟨rfl, Nat.le_refl _, by unfold maxLen; omega, by omega, (fun h => by cases h), fun i => ?_, .inr ⟨_, _, rfl, by simp, fun i hi => ?_⟩⟩
  · rcases i with _ | i <;> simp; exact hx
  · rw [World.cell?_alloc_mark]
    obtain rfl : i = 0 := by omega
    rfl
theorem or_shl (a b k : Nat) (hb : b < 2 ^ k) : (a * 2 ^ k) ||| b = a * 2 ^ k + b := by
  rw [Nat.mul_comm]
  exact (Nat.two_pow_add_eq_or_of_lt hb a).symm
theorem be4_or (x0 x1 x2 x3 : Nat) (h1 : x1 < 256) (h2 : x2 < 256) (h3 : x3 < 256) :
    (((x0 * 16777216) ||| (x1 * 65536)) ||| (x2 * 256)) ||| x3 = x0 * 16777216 + x1 * 65536 + x2 * 256 + x3 := by
  have e1 := or_shl x0 (x1 * 65536) 24 (by omega)
  have e2 := or_shl (x0 * 256 + x1) (x2 * 256) 16 (by omega)
  have e3 := or_shl (x0 * 65536 + x1 * 256 + x2) x3 8 (by omega)
  rw [show (2 : Nat) ^ 24 = 16777216 from rfl] at e1
  rw [show (2 : Nat) ^ 16 = 65536 from rfl] at e2
  rw [show (2 : Nat) ^ 8 = 256 from rfl] at e3
  rw [e1, show x0 * 16777216 + x1 * 65536 = (x0 * 256 + x1) * 65536 from by omega, e2, show (x0 * 256 + x1) * 65536 + x2 * 256 = (x0 * 65536 + x1 * 256 + x2) * 256 from by omega, e3]
theorem be4_parts (x0 x1 x2 x3 : Nat) (h0 : x0 < 256) (h1 : x1 < 256) (h2 : x2 < 256) (h3 : x3 < 256) :
    ∃ A0 A1 A2 O1 O2 X : Nat, (x0 : Int) * 16777216 % 4294967296 = (A0 : Int) ∧ (x1 : Int) * 65536 % 4294967296 = (A1 : Int) ∧ (x2 : Int) * 256 % 4294967296 = (A2 : Int) ∧
      (x0 : Int) * 16777216 = (A0 : Int) ∧ (x1 : Int) * 65536 = (A1 : Int) ∧ (x2 : Int) * 256 = (A2 : Int) ∧
      bits .or .u32 (A0 : Int) (A1 : Int) = (O1 : Int) ∧ bits .or .u32 (O1 : Int) (A2 : Int) = (O2 : Int) ∧ bits .or .u32 (O2 : Int) (x3 : Int) = (X : Int) ∧ X < 4294967296 ∧ x0 * 16777216 + x1 * 65536 + x2 * 256 + x3 = X := by
  have hor := be4_or x0 x1 x2 x3 h1 h2 h3
  obtain ⟨A0, hA0⟩ : ∃ A0, A0 = x0 * 16777216 := ⟨_, rfl⟩
  obtain ⟨A1, hA1⟩ : ∃ A1, A1 = x1 * 65536 := ⟨_, rfl⟩
  obtain ⟨A2, hA2⟩ : ∃ A2, A2 = x2 * 256 := ⟨_, rfl⟩
  have l0 : A0 < 4294967296 := by omega
  have l1 : A1 < 4294967296 := by omega
  have l2 : A2 < 4294967296 := by omega
  rw [← hA0, ← hA1, ← hA2] at hor ⊢
  have m1 := or_lt32 A0 A1 l0 l1
  have o1 := u32_or_nat A0 A1 l0 l1
  generalize A0 ||| A1 = O1 at *
  have m2 := or_lt32 O1 A2 m1 l2
  have o2 := u32_or_nat O1 A2 m1 l2
  generalize O1 ||| A2 = O2 at *
  have m3 := or_lt32 O2 x3 m2 (by omega)
  have o3 := u32_or_nat O2 x3 m2 (by omega)
  generalize O2 ||| x3 = X at *
  exact ⟨A0, A1, A2, O1, O2, X, by omega, by omega, by omega, by omega, by omega, by omega, o1, o2, o3, m3, hor.symm⟩
theorem cell_ltR {w : World} {g o : Nat} {v : Value} (h : w.cell? ⟨g, o, none⟩ = some v) : g < w.heap.size := World.block_lt_of_cell? _ _ h
theorem keepcR {w w' : World} {g o : Nat} {v : Value} (hb : Below w.heap.size w w') (h : w.cell? ⟨g, o, none⟩ = some v) : w'.cell? ⟨g, o, none⟩ = some v := (hb.cell (p := ⟨g, o, none⟩) (cell_ltR h)).trans h
theorem keepgR {w w' : World} {g o : Nat} {v : Value} {row : Option Nat} (hg : w.grownBy w' row) (h : w.cell? ⟨g, o, none⟩ = some v) (hne : some g ≠ row) : w'.cell? ⟨g, o, none⟩ = some v := by
  rw [World.cell?_of_block (a := ⟨g, o, none⟩) (hg.block g (cell_ltR h) hne)]
  exact h
set_option maxRecDepth 100000 in
set_option maxHeartbeats 4000000 in
theorem rsched_any (p o c : Nat) (b : List Nat) (w : World) (h : Sl w (some ⟨p, o, none⟩) 64 c b) :
    Calls Tryd.prog 53 #[.slice (some ⟨p, o, none⟩) 64 c] w fun e w' => RowPU w (schedTo b 64) e w' := by
  have hl := h.len
  have hpw : p < w.heap.size := h.lt p o (by omega) rfl
  have ho : OwnU (w.alloc (.cells #[] 37)) w.heap.size (some ⟨w.heap.size, 0, none⟩) 0 0 [] := own_emptyU w
  go_enter Tryd.func53, Tryd.ntmps53
  go_wp2_with fail
  go_loopw [3, 4] (fun ov iv wr => ∃ (i : Nat) (a1 : Option Addr) (c1 : Nat), i ≤ 16 ∧ iv = .int .i64 i ∧ ov = .slice a1 i c1 ∧ OwnU wr w.heap.size a1 i c1 (schedTo b i) ∧ Below w.heap.size w wr) (fun _ iv _ => 16 - (intOf iv).toNat)
  case atStart => exact ⟨0, _, 0, by omega, rfl, rfl, ho, (Below.refl _ _).alloc (Nat.le_refl _) _⟩
  case round =>
    obtain ⟨i, a1, c1, hi, rfl, rfl, hown, hbel⟩ := hrel
    clear ho
    by_cases hi16 : i < 16
    · have hs := h.below hbel
      rcases hs.at_ with h0 | ⟨g, off, hgo, hlt, hcell⟩
      · omega
      injection hgo with hgo
      injection hgo with e1 e2
      subst e1 e2
      obtain ⟨t, ht⟩ : ∃ t, t = 4 * i := ⟨_, rfl⟩
      have hmul : IntKind.i64.wrap (4 * (i : Int)) = (t : Int) := by rw [IntKind.wrap_i64]; omega
      have c0 := hcell t (by omega)
      have c1' := hcell (t + 1) (by omega)
      have c2 := hcell (t + 2) (by omega)
      have c3 := hcell (t + 3) (by omega)
      have b0 := hs.bnd t
      have b1 := hs.bnd (t + 1)
      have b2 := hs.bnd (t + 2)
      have b3 := hs.bnd (t + 3)
      have HX : Hid (be4 b i = b.getD t 0 * 16777216 + b.getD (t + 1) 0 * 65536 + b.getD (t + 2) 0 * 256 + b.getD (t + 3) 0) := by show _ = _; rw [ht]; rfl
      have HS : Hid (schedTo b (i + 1) = schedTo b i ++ [be4 b i]) := by show _ = _; show schedTo b i ++ [if i < 16 then be4 b i else _] = _; rw [if_pos hi16]
      have t1 : (t : Int) + 1 < 64 := by omega
      have t2 : (t : Int) + 2 < 64 := by omega
      have t3 : (t : Int) + 3 < 64 := by omega
      have t0 : (t : Int) < 64 := by omega
      have p1 : (0 : Int) ≤ (t : Int) + 1 := by omega
      have p2 : (0 : Int) ≤ (t : Int) + 2 := by omega
      have p3 : (0 : Int) ≤ (t : Int) + 3 := by omega
      have w1 : IntKind.i64.wrap ((t : Int) + 1) = (t : Int) + 1 := by rw [IntKind.wrap_i64]; omega
      have w2 : IntKind.i64.wrap ((t : Int) + 2) = (t : Int) + 2 := by rw [IntKind.wrap_i64]; omega
      have w3 : IntKind.i64.wrap ((t : Int) + 3) = (t : Int) + 3 := by rw [IntKind.wrap_i64]; omega
      generalize b.getD t 0 = x0 at *
      generalize b.getD (t + 1) 0 = x1 at *
      generalize b.getD (t + 2) 0 = x2 at *
      generalize b.getD (t + 3) 0 = x3 at *
      obtain ⟨A0, A1, A2, O1, O2, X, q0, q1, q2, r0, r1, r2, o1, o2, o3, m3, hX⟩ := be4_parts x0 x1 x2 x3 b0 b1 b2 b3
      rw [hX] at HX
      have k2 : ((t : Int) + 2).toNat = t + 2 := by omega
      have k3 : ((t : Int) + 3).toNat = t + 3 := by omega
      have v0 : IntKind.u32.wrap (x0 : Int) = (x0 : Int) := by rw [IntKind.wrap_u32]; omega
      have v1 : IntKind.u32.wrap (x1 : Int) = (x1 : Int) := by rw [IntKind.wrap_u32]; omega
      have v2 : IntKind.u32.wrap (x2 : Int) = (x2 : Int) := by rw [IntKind.wrap_u32]; omega
      have v3 : IntKind.u32.wrap (x3 : Int) = (x3 : Int) := by rw [IntKind.wrap_u32]; omega
      have u0 : IntKind.u32.wrap ((x0 : Int) * 16777216) = (A0 : Int) := by rw [IntKind.wrap_u32]; omega
      have u1 : IntKind.u32.wrap ((x1 : Int) * 65536) = (A1 : Int) := by rw [IntKind.wrap_u32]; omega
      have u2 : IntKind.u32.wrap ((x2 : Int) * 256) = (A2 : Int) := by rw [IntKind.wrap_u32]; omega
      clear hX r0 r1 r2
      rw [HX.out] at HS
      have hi1 : (i : Int) < 16 := by omega
      have hsz := hbel.size
      have hown1 : OwnU wr.drew w.heap.size a1 i c1 (schedTo b i) := hown.below (Below.refl _ _).drew
      have hne : some p ≠ (Value.slice a1 i c1).ownBlock := fun e => by have := (hown.own.lt p e.symm).1; omega
      clear ht hcell hs HX hown q0 q1 q2
      go_wp2_with fail
      go_region_held3 (fun w' => w'.cell? ⟨p, o + t, none⟩ = some (.int .u8 (x0 : Nat)) ∧ w'.cell? ⟨p, o + (t + 1), none⟩ = some (.int .u8 (x1 : Nat)) ∧ w'.cell? ⟨p, o + (t + 2), none⟩ = some (.int .u8 (x2 : Nat)) ∧ w'.cell? ⟨p, o + (t + 3), none⟩ = some (.int .u8 (x3 : Nat))) (first | (go_split_ands; exact ⟨keepgR hg2 (by assumption) hne, keepgR hg2 (by assumption) hne, keepgR hg2 (by assumption) hne, keepgR hg2 (by assumption) hne⟩) | go_keep) (first | (refine app_stepU (by rfl) _ _ (by rfl) w.heap.size _ i c1 _ (by rfl) (hown1.alloc _) _ 1 1 [X] (by rfl) (u32_oneB wr.drew 37 X m3 _ rfl) (by omega) (by simp; omega) ?_; intro a2 c2 w2 ho2 hg2) | fail)
      all_goals
        have hb2 : Below w.heap.size w w2 := ((hbel.drew).alloc (by simp; omega) _).trans ((hown1.alloc _).up hg2 (by simp; omega))
        clear hg2
        go_wp2
        go_roundw
        case rel => exact ⟨i + 1, a2, c2, by omega, by go_num, rfl, by rw [HS.out]; exact ho2, hb2⟩
        case measure => simp [intOf]; omega
    · have H16 : Hid (i = 16) := by show _ = _; omega
      have hi1 : ¬ (i : Int) < 16 := by omega
      clear hi hi16
      go_wp2_with fail
      obtain ⟨wA, hwA⟩ : ∃ wA, wA = wr := ⟨_, rfl⟩
      subst hwA
      go_loopw [3, 5] (fun ov iv wr => ∃ (t : Nat) (a1 : Option Addr) (c1 : Nat), t ≤ 48 ∧ iv = .int .i64 ((t : Int) + 16) ∧ ov = .slice a1 (t + 16) c1 ∧ OwnU wr w.heap.size a1 (t + 16) c1 (schedTo b (t + 16)) ∧ Below w.heap.size w wr) (fun _ iv _ => 64 - (intOf iv).toNat)
      case atStart => have e16 := H16.out; subst e16; exact ⟨0, a1, c1, by omega, rfl, rfl, hown, hbel⟩
      case round =>
        obtain ⟨t, a2, c2, ht, rfl, rfl, hown2, hbel2⟩ := hrel
        clear hown hbel
        by_cases ht48 : t < 48
        · have hsl := hown2.sl (by omega)
          rcases hsl.at_ with h0 | ⟨g, off, rfl, hlt, hcell⟩
          · omega
          have hc1 := hcell (t + 1) (by omega)
          have hc2 := hcell (t + 14) (by omega)
          have hc3 := hcell t (by omega)
          have hc4 := hcell (t + 9) (by omega)
          have hb1 := hsl.bnd (t + 1)
          have hb2 := hsl.bnd (t + 14)
          have hb3 := hsl.bnd t
          have hb4 := hsl.bnd (t + 9)
          have hST : schedTo b (t + 1 + 16) = schedTo b (t + 16) ++ [((schedTo b (t + 16)).getD t 0 + s0N ((schedTo b (t + 16)).getD (t + 1) 0) + (schedTo b (t + 16)).getD (t + 9) 0 + s1N ((schedTo b (t + 16)).getD (t + 14) 0)) % 4294967296] := by
            rw [show t + 1 + 16 = (t + 16) + 1 from by omega]
            show schedTo b (t + 16) ++ [if t + 16 < 16 then _ else nextW (schedTo b (t + 16)) (t + 16)] = _
            rw [if_neg (by omega)]
            unfold nextW
            rw [show t + 16 - 16 = t from by omega, show t + 16 - 15 = t + 1 from by omega, show t + 16 - 7 = t + 9 from by omega, show t + 16 - 2 = t + 14 from by omega]
          generalize (schedTo b (t + 16)).getD t 0 = P at *
          generalize (schedTo b (t + 16)).getD (t + 1) 0 = X at *
          generalize (schedTo b (t + 16)).getD (t + 9) 0 = Q at *
          generalize (schedTo b (t + 16)).getD (t + 14) 0 = Y at *
          clear hcell
          have hr1 := fun W => rturn_at X 7 W hb1 (by omega) (by omega)
          have hr2 := fun W => rturn_at X 18 W hb1 (by omega) (by omega)
          have hr3 := fun W => rturn_at Y 17 W hb2 (by omega) (by omega)
          have hr4 := fun W => rturn_at Y 19 W hb2 (by omega) (by omega)
          have hE1 := u32_xor_nat (rotN X 7) (rotN X 18) (rotN_lt _ _ hb1) (rotN_lt _ _ hb1)
          have hE2 := u32_xor_nat (rotN X 7 ^^^ rotN X 18) (X / 8) (xor_lt32 _ _ (rotN_lt _ _ hb1) (rotN_lt _ _ hb1)) (by omega)
          have hE3 := u32_xor_nat (rotN Y 17) (rotN Y 19) (rotN_lt _ _ hb2) (rotN_lt _ _ hb2)
          have hE4 := u32_xor_nat (rotN Y 17 ^^^ rotN Y 19) (Y / 1024) (xor_lt32 _ _ (rotN_lt _ _ hb2) (rotN_lt _ _ hb2)) (by omega)
          have h8 : X / 8 = X >>> 3 := by rw [Nat.shiftRight_eq_div_pow]
          have h10 : Y / 1024 = Y >>> 10 := by rw [Nat.shiftRight_eq_div_pow]
          have hS0 : (rotN X 7 ^^^ rotN X 18) ^^^ (X / 8) = s0N X := by rw [h8]; rfl
          have hS1 : (rotN Y 17 ^^^ rotN Y 19) ^^^ (Y / 1024) = s1N Y := by rw [h10]; rfl
          have hl0 := s0N_lt X hb1
          have hl1 := s1N_lt Y hb2
          rw [hS0] at hE2
          rw [hS1] at hE4
          clear h8 h10 hS0 hS1
          generalize rotN X 7 ^^^ rotN X 18 = E1 at *
          generalize rotN Y 17 ^^^ rotN Y 19 = E3 at *
          generalize rotN X 7 = A1 at *
          generalize rotN X 18 = A2 at *
          generalize rotN Y 17 = A3 at *
          generalize rotN Y 19 = A4 at *
          generalize s0N X = S0 at *
          generalize s1N Y = S1 at *
          rw [show ((X / 8 : Nat) : Int) = (X : Int) / 8 from by omega] at hE2
          rw [show ((Y / 1024 : Nat) : Int) = (Y : Int) / 1024 from by omega] at hE4
          have ht1 : (t : Int) + 16 < 64 := by omega
          obtain ⟨N, hN⟩ : ∃ N, N = (P + S0 + Q + S1) % 4294967296 := ⟨_, rfl⟩
          rw [← hN] at hST
          have HST := (show Hid _ from hST)
          have hNl : N < 4294967296 := by rw [hN]; exact Nat.mod_lt _ (by omega)
          have hw15 : IntKind.i64.wrap ((t : Int) + 16 - 15) = (t : Int) + 1 := by rw [IntKind.wrap_i64]; omega
          have hw2 : IntKind.i64.wrap ((t : Int) + 16 - 2) = (t : Int) + 14 := by rw [IntKind.wrap_i64]; omega
          have hp1 : (0 : Int) ≤ (t : Int) + 1 := by omega
          have hp2 : (0 : Int) ≤ (t : Int) + 14 := by omega
          have hq1 : (t : Int) + 1 < (t : Int) + 16 := by omega
          have hq2 : (t : Int) + 14 < (t : Int) + 16 := by omega
          have k1 : ((t : Int) + 1).toNat = t + 1 := by omega
          have k14 : ((t : Int) + 14).toNat = t + 14 := by omega
          have k9 : ((t : Int) + 9).toNat = t + 9 := by omega
          obtain ⟨Z1, hZ1⟩ : ∃ Z1 : Nat, IntKind.u32.wrap ((P : Int) + S0) = (Z1 : Int) := ⟨(P + S0) % 4294967296, by rw [IntKind.wrap_u32]; omega⟩
          obtain ⟨Z2, hZ2⟩ : ∃ Z2 : Nat, IntKind.u32.wrap ((Z1 : Int) + Q) = (Z2 : Int) := ⟨(Z1 + Q) % 4294967296, by rw [IntKind.wrap_u32]; omega⟩
          have hZ3 : IntKind.u32.wrap ((Z2 : Int) + S1) = (N : Int) := by
            have h1 := hZ1
            have h2 := hZ2
            rw [IntKind.wrap_u32] at h1 h2 ⊢
            omega
          clear hN hST hsl
          go_wp2_with fail
          go_quiet ((go_at_call 54; first | exact Calls.quiet_of (hr1 _ _ _ (by rfl) (by rfl)) | exact Calls.quiet_of (hr2 _ _ _ (by rfl) (by rfl))))
          all_goals
            obtain ⟨w3, hw3⟩ : ∃ w3, w3 = wr.drewN nq := ⟨_, rfl⟩
            rw [← hw3]
            have hbw3 : Below wr.heap.size wr w3 := by rw [hw3]; simp only [World.drewN]; exact ⟨rfl, rfl, rfl, Nat.le_refl _, fun k _ => rfl⟩
            clear hw3
            have hown3 := hown2.below hbw3
            have hbel3 : Below w.heap.size w w3 := hbel2.trans (hbw3.mono hbel2.size)
            have hc2 := keepcR hbw3 hc2
            have hc3 := keepcR hbw3 hc3
            have hc4 := keepcR hbw3 hc4
            clear hown2 hbel2 hbw3 hc1 hr1 hr2 hE1 hE2
            go_wp2_with fail
            go_quiet ((go_at_call 54; first | exact Calls.quiet_of (hr3 _ _ _ (by rfl) (by rfl)) | exact Calls.quiet_of (hr4 _ _ _ (by rfl) (by rfl))))
            all_goals
              obtain ⟨w4, hw4⟩ : ∃ w4, w4 = w3.drewN nq := ⟨_, rfl⟩
              rw [← hw4]
              have hbw4 : Below w3.heap.size w3 w4 := by rw [hw4]; simp only [World.drewN]; exact ⟨rfl, rfl, rfl, Nat.le_refl _, fun k _ => rfl⟩
              clear hw4
              have hown4 := hown3.below hbw4
              have hbel4 : Below w.heap.size w w4 := hbel3.trans (hbw4.mono hbel3.size)
              have hc3 := keepcR hbw4 hc3
              have hc4 := keepcR hbw4 hc4
              clear hown3 hbel3 hbw4 hc2 hr3 hr4 hE3 hE4
              have hw16 : IntKind.i64.wrap ((t : Int) + 16 - 16) = (t : Int) := by rw [IntKind.wrap_i64]; omega
              have hwt : IntKind.i64.wrap (t : Int) = (t : Int) := by rw [IntKind.wrap_i64]; omega
              have hw7 : IntKind.i64.wrap ((t : Int) + 16 - 7) = (t : Int) + 9 := by rw [IntKind.wrap_i64]; omega
              have hq3 : (t : Int) < (t : Int) + 16 := by omega
              have hq4 : (t : Int) + 9 < (t : Int) + 16 := by omega
              have hp4 : (0 : Int) ≤ (t : Int) + 9 := by omega
              have hsz := hbel4.size
              have hown5 := hown4.below (Below.refl _ _).drew
              clear hw15 hw2 hp1 hp2 hq1 hq2 k1 k14 hb1 hb2 hl0 hl1
              go_wp2_with fail
              go_region_law (refine app_stepU rfl _ _ rfl w.heap.size _ (t + 16) c2 _ (by simp [Act.eval]) (hown5.alloc _) _ 1 1 [N] (by simp [Act.eval]) (u32_oneB w4.drew 37 N hNl _ rfl) (by omega) (by simp; omega) ?_; intro a6 c6 w6 ho6 hg6)
              all_goals
                have hb6 : Below w.heap.size w w6 := ((hbel4.drew).alloc (by simp; omega) _).trans ((hown5.alloc _).up hg6 (by simp; omega))
                clear hg6
                go_wp2
                go_roundw
                case rel => exact ⟨t + 1, a6, c6, by omega, by go_num, by rw [show t + 1 + 16 = t + 16 + 1 from by omega], by rw [HST.out, show t + 1 + 16 = t + 16 + 1 from by omega]; exact ho6, hb6⟩
                case measure => simp [intOf]; omega
        · obtain rfl : t = 48 := by omega
          have HL : Hid ((schedTo b 64).length = 64) := schedTo_len b 64
          go_wp2
          go_ret
          exact ⟨⟨a2, c2, by rw [HL.out]; rfl, by rw [HL.out]; exact hown2⟩, hbel2⟩
end Go.Proofs.YtmikhnaffhheoaaDoor
namespace Go.Proofs.YtmikhnaffhheoaaDoor
open Go.RowKit
structure RootsP (w : World) (e : Ending) (w' : World) : Prop where
  row : e = .returned (.slice (some ⟨w.heap.size, 0, none⟩) 64 64)
  sl : SlU w' (some ⟨w.heap.size, 0, none⟩) 64 64 kW
  bel : Below w.heap.size w w'
theorem slU_new (w : World) (t : TypeId) (zs : List Nat) (hb : zs.all (· < 4294967296) = true) (hn : zs.length ≤ 1000) :
    SlU (w.alloc (.cells (zs.map fun z => Value.int .u32 (z : Nat)).toArray t)) (some ⟨w.heap.size, 0, none⟩) zs.length zs.length zs := by
  refine ⟨rfl, Nat.le_refl _, by unfold maxLen; omega, by omega, (fun h => by cases h), fun i => ?_, .inr ⟨_, _, rfl, by simp, fun i hi => ?_⟩⟩
  · by_cases hi : i < zs.length
    · have := List.all_eq_true.mp hb (zs[i]) (List.getElem_mem hi)
      simp [List.getD_eq_getElem?_getD, hi] at *
      exact this
    · simp [List.getD_eq_getElem?_getD, hi]
  rw [World.cell?_alloc_mark]
  simp [List.getD_eq_getElem?_getD, hi]
theorem ownU_new (w : World) (zs : List Nat) (hb : zs.all (· < 4294967296) = true) (hn : zs.length ≤ 1000) :
    OwnU (w.alloc (.cells (zs.map fun z => Value.int .u32 (z : Nat)).toArray 37)) w.heap.size (some ⟨w.heap.size, 0, none⟩) zs.length zs.length zs := by
  refine ⟨rfl, ⟨by simp [valsU], .inr ⟨w.heap.size, zs.length, (zs.map fun z => Value.int .u32 (z : Nat)).toArray, rfl, Nat.le_refl _, ?_, Nat.le_refl _, by unfold maxLen; omega, by simp, ?_⟩⟩, (slU_new w 37 zs hb hn).bnd⟩
  · show (w.heap.push _)[w.heap.size]? = _
    simp
  · rw [List.take_of_length_le (by simp), List.toList_toArray]; rfl
set_option maxRecDepth 100000 in
set_option maxHeartbeats 4000000 in
theorem roots_any (w : World) :
    Calls Tryd.prog 52 #[] w fun e w' => RootsP w e w' := by
  go_enter Tryd.func52, Tryd.ntmps52
  go_wp2
  change bodyPost _ _ _ _ _ (w.alloc (.cells (kW.map fun z => Value.int .u32 (z : Nat)).toArray 37))
  have hs := slU_new w 37 kW (by decide) (by decide)
  have hb : Below w.heap.size w (w.alloc (.cells (kW.map fun z => Value.int .u32 (z : Nat)).toArray 37)) := (Below.refl _ _).alloc (Nat.le_refl _) _
  generalize w.alloc (.cells (kW.map fun z => Value.int .u32 (z : Nat)).toArray 37) = W at *
  go_ret
  exact ⟨rfl, hs, hb⟩
end Go.Proofs.YtmikhnaffhheoaaDoor
