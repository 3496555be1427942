/- The reference's reader of a packet: ref12.Take over any bytes. -/
import Derived.Test.YtifdfkkjmjabnaaDoorSpan
import Derived.Test.YtifdfkkjmjabnaaDoorKE
import Derived.Test.YtifdfkkjmjabnaaDoorChB
import Derived.Deep.Cut
import Derived.Test.YtifdfkkjmjabnaaDoorProg
import Derived.Test.YtifdfkkjmjabnaaDoorBase
import Derived.Outline
import Derived.WalkLawsBesides
import Derived.WalkSpells
import Derived.Deep.QuietTactic
import Derived.BigQuiet
import Derived.Test.YtifdfkkjmjabnaaDoorKA
import Derived.Test.YtifdfkkjmjabnaaDoorKF
namespace Go.Proofs.YtifdfkkjmjabnaaDoor
open Go.RowKit
set_option maxHeartbeats 2000000 in
theorem refnum_any (a : Option Addr) (n c : Nat) (zs : List Nat) (p k : Int) (w : World) (hs : Sl w a n c zs) :
    Calls Tryd.prog 57 #[.slice a n c, .int .i64 p, .int .i64 k] w fun e w' => e = .returned (.tuple #[.int .u64 (numV zs p k : Nat), .int .i64 (nspanE n p k : Nat)]) ∧ w' = w := by
  have hl := hs.len
  by_cases he : nspanE n p k = 0
  · obtain ⟨hk1, hk8, hp0, hpk⟩ := nspan_ok he
    have HE := (show Hid _ from he)
    have HV : Hid (numV zs p k = numB ((zs.drop p.toNat).take k.toNat)) := by show _ = _; unfold numV; rw [hl, if_pos he]
    clear he
    obtain ⟨p, rfl⟩ := Int.eq_ofNat_of_zero_le hp0
    obtain ⟨k, rfl⟩ := Int.eq_ofNat_of_zero_le (show 0 ≤ k by omega)
    rw [Int.toNat_natCast, Int.toNat_natCast] at HV
    have hk8' : k ≤ 8 := by omega
    have hpk' : p + k ≤ n := by omega
    have hk1' : 1 ≤ k := by omega
    have hmid := mid_bnd zs p k hs.bnd
    have hml : ((zs.drop p).take k).length = k := by simp; omega
    obtain ⟨_, hcap, hroom, hsm, _, hb, hat⟩ := hs
    rcases hat with h0 | ⟨b, off, rfl, hlt, hcell⟩
    · omega
    have hcell2 : ∀ i, i < k → w.cell? ⟨b, off + p + i, none⟩ = some (.int .u8 (((zs.drop p).take k).getD i 0 : Nat)) := by
      intro i hi
      rw [mid_getD zs p k i hi, Nat.add_assoc]
      exact hcell (p + i) (by omega)
    clear hcell hb
    generalize (zs.drop p).take k = ys at *
    go_enter Tryd.func57, Tryd.ntmps57
    go_wp2
    go_loop [8, 9] (fun v i => ∃ j : Nat, j ≤ k ∧ i = .int .i64 j ∧ v = .int .u64 (numB (ys.take j) : Nat)) (fun _ i => k - (intOf i).toNat)
    case atStart => exact ⟨0, by omega, rfl, rfl⟩
    case round =>
      obtain ⟨j, hj, rfl, rfl⟩ := hrel
      by_cases hjk : j < k
      · have hc := hcell2 j hjk
        rw [Nat.add_assoc] at hc
        have hx := hmid j
        have HN : Hid (numB (ys.take (j + 1)) = numB (ys.take j) * 256 + ys.getD j 0) := by show _ = _; rw [take_snocN ys j (by omega), numB_snoc]
        have hq : numB (ys.take j) < 72057594037927936 := by
          have h1 := numB_lt (ys.take j) (fun i => by
            by_cases hi : i < j
            · simp [List.getD_eq_getElem?_getD, hi]; have := hmid i; simp [List.getD_eq_getElem?_getD] at this; exact this
            · rw [List.getD_eq_getElem?_getD, List.getElem?_eq_none (by simp; omega)]; exact Nat.zero_lt_succ _)
          have h2 := pow_small j (by omega)
          rw [List.length_take, Nat.min_eq_left (by omega)] at h1
          omega
        clear hcell2 hmid
        generalize numB (ys.take j) = q at *
        generalize ys.getD j 0 = x at *
        have hpj : (p : Int) + (j : Int) < (n : Int) := by omega
        go_wp2
        go_round
        case rel => exact ⟨j + 1, by omega, by go_num, by rw [HN.out]; go_num⟩
        case measure => simp [intOf]; omega
      · obtain rfl : j = k := by omega
        have HT : Hid (ys.take j = ys) := by show _ = _; rw [List.take_of_length_le (by omega)]
        go_wp2
        go_ret2
        exact ⟨by rw [HT.out, HV.out, HE.out]; rfl, rfl⟩
  · have HV : Hid (numV zs p k = 0) := by show _ = _; unfold numV; rw [hl, if_neg he]
    have hsm := hs.small
    have HC : (Hid (nspanE n p k = 2) ∧ (k < 1 ∨ 8 < k ∨ p < 0 ∨ (n : Int) < p)) ∨ (Hid (nspanE n p k = 3) ∧ 1 ≤ k ∧ k ≤ 8 ∧ 0 ≤ p ∧ p ≤ n ∧ (n : Int) - p < k) := by
      unfold nspanE spanE at *
      by_cases h1 : k < 1 ∨ 8 < k
      · rw [if_pos h1]; exact .inl ⟨rfl, by omega⟩
      · rw [if_neg h1] at *
        by_cases h2 : p < 0 ∨ (n : Int) < p ∨ k < 0
        · rw [if_pos h2]; exact .inl ⟨rfl, by omega⟩
        · rw [if_neg h2] at *
          by_cases h3 : (n : Int) - p < k
          · rw [if_pos h3]; exact .inr ⟨rfl, by omega⟩
          · rw [if_neg h3] at he; exact absurd rfl he
    rcases HC with ⟨HE, hc⟩ | ⟨HE, h1, h2, h3, h4, h5⟩
    · have hcase : k < 1 ∨ (1 ≤ k ∧ 8 < k) ∨ (1 ≤ k ∧ k ≤ 8 ∧ p < 0) ∨ (1 ≤ k ∧ k ≤ 8 ∧ 0 ≤ p ∧ (n : Int) < p) := by omega
      clear hc he
      rcases hcase with h1 | ⟨h1, h2⟩ | ⟨h1, h2, h3⟩ | ⟨h1, h2, h3, h4⟩
      all_goals
        go_enter Tryd.func57, Tryd.ntmps57
        go_wp2
        go_ret2
        exact ⟨by rw [HV.out, HE.out]; rfl, rfl⟩
    · clear he
      go_enter Tryd.func57, Tryd.ntmps57
      go_wp2
      go_ret2
      exact ⟨by rw [HV.out, HE.out]; rfl, rfl⟩
end Go.Proofs.YtifdfkkjmjabnaaDoor
namespace Go.Proofs.YtifdfkkjmjabnaaDoor
open Go.RowKit
theorem numV_in (zs : List Nat) (p k : Nat) (h1 : 1 ≤ k) (h8 : k ≤ 8) (h : p + k ≤ zs.length) : numV zs (p : Int) (k : Int) = numB ((zs.drop p).take k) := by
  have e : nspanE zs.length (p : Int) (k : Int) = 0 := by
    unfold nspanE spanE
    rw [if_neg (by omega), if_neg (by omega), if_neg (by omega)]
  unfold numV
  rw [if_pos e, Int.toNat_natCast, Int.toNat_natCast]
set_option maxRecDepth 100000 in
theorem rnum12 {a : Option Addr} {n c : Nat} {zs : List Nat} {w : World} (hs : Sl w a n c zs) (p k : Nat) (h1 : 1 ≤ k) (h8 : k ≤ 4) (h : p + k ≤ zs.length) (r : Nat) (hr : r = numB ((zs.drop p).take k)) (v2 : Value) (e2 : v2 = .int .i64 (p : Nat)) (v3 : Value) (e3 : v3 = .int .i64 (k : Nat)) :
    Calls Tryd.prog 38 #[.slice a n c, v2, v3] w fun e w' => e = .returned (.int .u32 (r : Nat)) ∧ w' = w := by
  subst e2 e3
  have hn := refnum_any a n c zs (p : Int) (k : Int) w hs
  rw [numV_in zs p k h1 (by omega) h, ← hr] at hn
  have hlt : r < 4294967296 := by
    have h2 := numB_take (drop_bnd hs.bnd p) k (by rw [List.length_drop]; omega)
    have h3 : 256 ^ k ≤ 256 ^ 4 := Nat.pow_le_pow_right (by omega) h8
    omega
  have hw : IntKind.u32.wrap ((r : Nat) : Int) = (r : Nat) := by rw [IntKind.wrap_u32]; omega
  have HN := (show Hid _ from hn)
  clear hn hr hs
  go_enter Tryd.func38, Tryd.ntmps38
  go_wp2_with fail
  refine Calls.mono HN.out ?_
  clear HN
  rintro e w' ⟨rfl, hw'⟩
  subst w'
  generalize nspanE n (p : Int) (k : Int) = ne at *
  go_wp2
  go_ret
  exact ⟨rfl, rfl⟩
theorem own0G {α : Type} (T : TypeId) (k : Nat) (cf : α → List Value) (w : World) : OwnG T k cf (w.alloc (.cells #[] T)) w.heap.size (some ⟨w.heap.size, 0, none⟩) 0 0 [] := by
  refine ⟨rfl, ⟨by simp [valsG], .inr ⟨w.heap.size, 0, #[], rfl, Nat.le_refl _, ?_, Nat.le_refl _, by unfold maxLen; omega, by simp, ?_⟩⟩⟩
  · show (w.heap.push _)[w.heap.size]? = _
    simp
  all_goals simp [valsG]
theorem cnt4_0 {l : Nat → Bool} {a b c d : Nat} (h : l a = false) : cntL l [a, b, c, d] = 0 := if_neg (by rw [h]; decide)
theorem cnt4_1 {l : Nat → Bool} {a b c d : Nat} (h1 : l a = true) (h : l b = false) : cntL l [a, b, c, d] = 1 := by
  show (if l a = true then (if l b = true then _ else 0) + 1 else 0) = 1
  rw [if_pos h1, if_neg (by rw [h]; decide)]
theorem cnt4_2 {l : Nat → Bool} {a b c d : Nat} (h1 : l a = true) (h2 : l b = true) (h : l c = false) : cntL l [a, b, c, d] = 2 := by
  show (if l a = true then (if l b = true then (if l c = true then _ else 0) + 1 else 0) + 1 else 0) = 2
  rw [if_pos h1, if_pos h2, if_neg (by rw [h]; decide)]
theorem cnt4_3 {l : Nat → Bool} {a b c d : Nat} (h1 : l a = true) (h2 : l b = true) (h3 : l c = true) (h : l d = false) : cntL l [a, b, c, d] = 3 := by
  show (if l a = true then (if l b = true then (if l c = true then (if l d = true then _ else 0) + 1 else 0) + 1 else 0) + 1 else 0) = 3
  rw [if_pos h1, if_pos h2, if_pos h3, if_neg (by rw [h]; decide)]
theorem cnt4_4 {l : Nat → Bool} {a b c d : Nat} (h1 : l a = true) (h2 : l b = true) (h3 : l c = true) (h4 : l d = true) : cntL l [a, b, c, d] = 4 := by
  show (if l a = true then (if l b = true then (if l c = true then (if l d = true then _ else 0) + 1 else 0) + 1 else 0) + 1 else 0) = 4
  rw [if_pos h1, if_pos h2, if_pos h3, if_pos h4]
  rfl
theorem slice_lhR (b off n c l h : Nat) (hl : l ≤ h) (hh : h ≤ n) (hc : n ≤ c) : ∃ o4, (∀ w, (Instr.slice 27 (.slice (some ⟨b, off, none⟩) n c) (some (.int .i64 (l : Int))) (some (.int .i64 (h : Int))) none).run Tryd.prog w = .ok (.slice (some ⟨b, o4, none⟩) (h - l) (c - l)) w) ∧ (∀ w zs, Sl w (some ⟨b, off, none⟩) n c zs → Sl w (some ⟨b, o4, none⟩) (h - l) (c - l) ((zs.drop l).take (h - l))) := by
  refine ⟨if c = l then off else off + l, fun w => ?_, fun w zs hs => ?_⟩
  · rw [run_slice_lh w 27 _ n c und8 .i64 .i64 l h (by omega) (by omega) (by omega), size8]
    simp only [Result.andThen, sliced, Int.toNat_natCast]
    split <;> simp [Addr.add]
  · exact (hs.dropR l _ (by omega) (fun hx => by rw [if_neg (by omega)])).takeR (h - l) (by omega)
theorem PmO.appR {w : World} {B : Nat} {a : Option Addr} {n c : Nat} {ps : List Pm} (h : PmO w B a n c ps) {p : Pm} {ma : Option Addr} {mc : Nat} (hm : OwnB w B ma p.zs.length mc p.zs) (hB : B ≤ w.heap.size) (hn : n ≤ 1000) :
    ∃ g c' w', (Builtin.append_ #[26, 26] 26 #[.slice a n c, .slice (some ⟨w.heap.size, 0, none⟩) 1 1]).run Tryd.prog (w.alloc (.cells #[.int .u16 (p.k : Nat), .slice ma p.zs.length mc] 61)) = .ok (.slice (some ⟨g, 0, none⟩) (n + 1) c') w' ∧ PmO w' B (some ⟨g, 0, none⟩) (n + 1) c' (ps ++ [p]) ∧ Fr (fun k => B ≤ k) w w' := by
  obtain ⟨xs, h1, h2, h3⟩ := h.ex
  have b0 : Below w.heap.size w (w.alloc (.cells (Pq.v (p, ma, mc)).toArray 61)) := (Below.refl _ _).alloc (Nat.le_refl _) _
  have st2 := Stc.new w (Pq.v (p, ma, mc)) 61 _ rfl
  have h2a := OwnG.below h2 b0
  obtain ⟨g7, c7, w7, hr7, ho7, hgr7, hg7, hg7l⟩ := OwnG.app layPm h2a 26 (p, ma, mc) ⟨w.heap.size, 0, none⟩ (fun j u hj => by
    have := st2.cell j u hj
    unfold Addr.add
    split
    · rename_i e; subst e; exact this
    · simpa using this) (by unfold maxLen; omega) (by omega) (Nat.le_trans hB b0.size)
  have keep : ∀ (x : Pq), OwnB w B x.2.1 x.1.zs.length x.2.2 x.1.zs → OwnB w7 B x.2.1 x.1.zs.length x.2.2 x.1.zs := fun x hx => by
    have hx2 := hx.below b0
    refine hx2.kept hgr7 ?_
    cases e : (Value.slice x.2.1 x.1.zs.length x.2.2).ownBlock with
    | none => exact .inl rfl
    | some g => exact .inr (fun e2 => ownB_apartP hx2 h2a g e (e2 ▸ rfl))
  refine ⟨g7, c7, w7, hr7, ⟨xs ++ [(p, ma, mc)], by rw [List.map_append, h1]; rfl, ho7, fun x hx => ?_⟩, (Fr.of_below b0).trans (Fr.grown hgr7 (fun k hk => (h2.own.lt k hk).1))⟩
  rcases List.mem_append.1 hx with hx | hx
  · exact keep x (h3 x hx)
  · simp at hx
    subst hx
    exact keep (p, ma, mc) hm
/-- What the reference's Params answers. -/
structure RpR (w : World) (r : Except Int (List Pm)) (e : Ending) (w' : World) : Prop where
  ok : ∀ ps, r = .ok ps → ∃ xa xc, e = .returned (.tuple #[.slice xa ps.length xc, .int .i64 0]) ∧ PmO w' w.heap.size xa ps.length xc ps
  no : ∀ er, r = .error er → e = .returned (.tuple #[.slice none 0 0, .int .i64 er])
  bel : Below w.heap.size w w'
theorem RpR.fail {w w' : World} {r : Except Int (List Pm)} {er : Int} (h : r = .error er) (hb : Below w.heap.size w w') : RpR w r (.returned (.tuple #[.slice none 0 0, .int .i64 er])) w' := by
  subst h
  exact ⟨fun ps e => (by cases e), fun er2 e => by injection e with e; subst e; rfl, hb⟩
/-- Where the next parameter begins. -/
theorem nextP_at (zs : List Nat) (p : Nat) : nextP (zs.drop p) = zs.drop (p + 4 + (numB (((zs.drop p).drop 2).take 2) - 4) + min (padN (numB (((zs.drop p).drop 2).take 2) - 4)) (zs.length - (p + 4 + (numB (((zs.drop p).drop 2).take 2) - 4)))) := by
  unfold nextP
  simp only [List.drop_drop, List.length_drop]
set_option linter.unusedVariables false in
set_option maxRecDepth 100000 in
set_option maxHeartbeats 8000000 in
theorem rparR {w : World} {b off n c : Nat} {zs : List Nat} (hs : Sl w (some ⟨b, off, none⟩) n c zs) (hn : n ≤ 2000) :
    Calls Tryd.prog 60 #[.slice (some ⟨b, off, none⟩) n c] w (RpR w (parP (zs.length + 1) 0 zs)) := by
  have hlz := hs.len
  have hcap := hs.cap
  have hbnd := hs.bnd
  have hnc := hs.room
  have HS := (show Hid _ from hs)
  obtain ⟨r, hr⟩ : ∃ r, r = parP (zs.length + 1) 0 zs := ⟨_, rfl⟩
  obtain ⟨W1, hW1⟩ : ∃ W1, W1 = w.alloc (.cells #[] 61) := ⟨_, rfl⟩
  have b1 : Below w.heap.size w W1 := by rw [hW1]; exact (Below.refl _ _).alloc (Nat.le_refl _) _
  have o1 := own0G 61 2 Pq.v w
  rw [← hW1] at o1
  have HU : Hid (Below w.heap.size w W1 ∧ PmO W1 w.heap.size (some ⟨w.heap.size, 0, none⟩) 0 0 [] ∧ r = combP [] (parP (zs.length + 1) 0 (zs.drop 0))) := ⟨b1, ⟨[], rfl, o1, fun x hx => (by cases hx)⟩, by rw [combP_nil]; exact hr⟩
  rw [← hr]
  clear hs hr b1 o1
  go_enter Tryd.func60, Tryd.ntmps60
  go_wp2
  rw [← hW1]
  clear hW1
  go_loopw [4, 5] (fun u4 u5 wr => ∃ (f i p : Nat) (la : Option Addr) (lc : Nat) (ps : List Pm), i = ps.length ∧ i ≤ 16 ∧ p ≤ n ∧ (p % 4 = 0 ∨ p = n) ∧ n < f + p ∧ u4 = .slice la i lc ∧ u5 = .int .i64 (p : Nat) ∧ Below w.heap.size w wr ∧ PmO wr w.heap.size la i lc ps ∧ r = combP ps (parP f i (zs.drop p))) (fun u4 _ _ => match u4 with | .slice _ i _ => 17 - i | _ => 0)
  case atStart => exact ⟨zs.length + 1, 0, 0, _, _, [], rfl, by omega, by omega, by omega, by omega, rfl, rfl, HU.out⟩
  case round =>
    obtain ⟨f, i, p, la, lc, ps, hips, hi16, hpn, hp4, hf, rfl, rfl, hb, ho, hrr⟩ := hrel
    have HUO := (show Hid _ from And.intro hb ho)
    have HRR := (show Hid _ from hrr)
    have HIP := (show Hid _ from hips)
    have hdl : (zs.drop p).length = n - p := by rw [List.length_drop, hlz]
    clear hb ho hrr hips HU
    by_cases hlt : p < n
    case neg =>
      have hlt1 : ¬ (p : Int) < (n : Int) := by omega
      have hz : zs.drop p = [] := List.eq_nil_of_length_eq_zero (by omega)
      have HF : Hid (RpR w r (.returned (.tuple #[.slice la i lc, .int .i64 0])) wr) := by
        have e1 : r = .ok ps := by
          rw [HRR.out, hz]
          cases f with
          | zero => unfold parP; simp [combP]
          | succ f => unfold parP; rw [if_pos rfl]; simp [combP]
        refine ⟨fun ps' e => ?_, fun er e => (by rw [e1] at e; cases e), HUO.out.1⟩
        rw [e1] at e
        injection e with e
        subst e
        exact ⟨la, lc, by rw [HIP.out], by rw [← HIP.out]; exact HUO.out.2⟩
      clear HUO HRR hz hdl hlt
      go_wp2
      go_ret2
      exact HF.out
    obtain ⟨f, rfl⟩ : ∃ g, f = g + 1 := ⟨f - 1, by omega⟩
    have hlt1 : (p : Int) < (n : Int) := by omega
    have hz : zs.drop p ≠ [] := fun e => by rw [e] at hdl; simp at hdl; omega
    have hE4 : ∀ k, badP (zs.drop p) → parP (f + 1) k (zs.drop p) = .error 4 := fun k hb => by unfold parP; rw [if_neg hz, if_pos hb]
    have hE6 : ∀ k, ¬ badP (zs.drop p) → 16 ≤ k → parP (f + 1) k (zs.drop p) = .error 6 := fun k hb hk => by unfold parP; rw [if_neg hz, if_neg hb, if_pos hk]
    have hNX : ∀ k, ¬ badP (zs.drop p) → ¬ 16 ≤ k → parP (f + 1) k (zs.drop p) = combP [pmOf (zs.drop p)] (parP f (k + 1) (nextP (zs.drop p))) := fun k hb hk => by conv => lhs; unfold parP; rw [if_neg hz, if_neg hb, if_neg hk]
    have HE4 := (show Hid _ from hE4)
    have HE6 := (show Hid _ from hE6)
    have HNX := (show Hid _ from hNX)
    clear hE4 hE6 hNX hz
    by_cases h4 : n - p < 4
    case pos =>
      have h41 : (n : Int) - (p : Int) < 4 := by omega
      have HRE : Hid (r = .error 4) := by
        show _ = _
        rw [HRR.out, HE4.out _ (by unfold badP; omega)]
        rfl
      have HF : Hid (RpR w r (.returned (.tuple #[.slice none 0 0, .int .i64 4])) wr) := RpR.fail HRE.out HUO.out.1
      clear HRE HRR HUO
      go_wp2
      go_ret2
      exact HF.out
    have h41 : ¬ (n : Int) - (p : Int) < 4 := by omega
    obtain ⟨nn, hnn⟩ : ∃ nn, nn = numB ((zs.drop (p + 2)).take 2) := ⟨_, rfl⟩
    have hnn2 : nn = numB (((zs.drop p).drop 2).take 2) := by rw [hnn, List.drop_drop]
    have hnb : nn < 65536 := by rw [hnn]; exact numB_take (drop_bnd hbnd (p + 2)) 2 (by rw [List.length_drop]; omega)
    have HN := (show Hid _ from rnum12 (HS.out.below HUO.out.1) (p + 2) 2 (by omega) (by omega) (by omega) nn hnn (.int .i64 ((p : Int) + 2)) (by congr 1) (.int .i64 2) rfl)
    have HNN := (show Hid _ from hnn2)
    clear hnn hnn2
    go_wp2_with fail
    refine Calls.mono HN.out ?_
    clear HN
    rintro e w5 ⟨rfl, hw5⟩
    replace hw5 := hw5.symm
    subst hw5
    by_cases hn4 : nn < 4
    case pos =>
      have hn41 : (nn : Int) < 4 := by omega
      have HRE : Hid (r = .error 4) := by
        show _ = _
        rw [HRR.out, HE4.out _ (by have := HNN.out; unfold badP; omega)]
        rfl
      have HF : Hid (RpR w r (.returned (.tuple #[.slice none 0 0, .int .i64 4])) wr) := RpR.fail HRE.out HUO.out.1
      clear HRE HRR HUO
      go_wp2
      go_ret2
      exact HF.out
    have hn41 : ¬ (nn : Int) < 4 := by omega
    by_cases hnl : n - p < nn
    case pos =>
      have hnl1 : (n : Int) - (p : Int) < (nn : Int) := by omega
      have HRE : Hid (r = .error 4) := by
        show _ = _
        rw [HRR.out, HE4.out _ (by have := HNN.out; unfold badP; omega)]
        rfl
      have HF : Hid (RpR w r (.returned (.tuple #[.slice none 0 0, .int .i64 4])) wr) := RpR.fail HRE.out HUO.out.1
      clear HRE HRR HUO
      go_wp2
      go_ret2
      exact HF.out
    have hnl1 : ¬ (n : Int) - (p : Int) < (nn : Int) := by omega
    have HNB : Hid (¬ badP (zs.drop p)) := by
      have := HNN.out
      show ¬ _
      unfold badP
      omega
    by_cases hi : 16 ≤ i
    case pos =>
      have hi1 : (16 : Int) ≤ (i : Int) := by omega
      have HRE : Hid (r = .error 6) := by
        show _ = _
        rw [HRR.out, HE6.out _ HNB.out hi]
        rfl
      have HF : Hid (RpR w r (.returned (.tuple #[.slice none 0 0, .int .i64 6])) wr) := RpR.fail HRE.out HUO.out.1
      clear HRE HRR HUO
      go_wp2
      go_ret2
      exact HF.out
    have hi1 : ¬ (16 : Int) ≤ (i : Int) := by omega
    obtain ⟨m, hm⟩ : ∃ m, m = nn - 4 := ⟨_, rfl⟩
    obtain ⟨o4, hsl4, hsl4b⟩ := slice_lhR b off n c (p + 4) (p + nn) (by omega) (by omega) hcap
    rw [show p + nn - (p + 4) = m by omega] at hsl4 hsl4b
    obtain ⟨c4, hc4⟩ : ∃ c4, c4 = c - (p + 4) := ⟨_, rfl⟩
    rw [← hc4] at hsl4 hsl4b
    rw [show ((p + 4 : Nat) : Int) = (p : Int) + 4 from by omega, show ((p + nn : Nat) : Int) = (p : Int) + (nn : Int) from by omega] at hsl4
    obtain ⟨pk, hpk⟩ : ∃ pk, pk = numB ((zs.drop p).take 2) := ⟨_, rfl⟩
    have hpkb : pk < 65536 := by rw [hpk]; exact numB_take (drop_bnd hbnd p) 2 (by omega)
    obtain ⟨pz, hpz⟩ : ∃ pz, pz = (zs.drop (p + 4)).take m := ⟨_, rfl⟩
    have hpl : pz.length = m := by rw [hpz, List.length_take, List.length_drop]; omega
    obtain ⟨V0, hV0⟩ : ∃ V0, V0 = wr.drew := ⟨_, rfl⟩
    have bd : Below wr.heap.size wr V0 := by rw [hV0]; exact (Below.refl _ _).drew
    have hb0 : Below w.heap.size w V0 := HUO.out.1.trans (bd.mono HUO.out.1.size)
    have ho0 := HUO.out.2.below bd
    obtain ⟨V1, hV1⟩ : ∃ V1, V1 = V0.alloc (.cells #[] 5) := ⟨_, rfl⟩
    have b1 : Below V0.heap.size V0 V1 := by rw [hV1]; exact (Below.refl _ _).alloc (Nat.le_refl _) _
    have o1 := own_empty V0
    rw [← hV1] at o1
    have hb1 : Below w.heap.size w V1 := hb0.trans (b1.mono hb0.size)
    have hs1 := hsl4b V1 zs (HS.out.below hb1)
    rw [← hpz] at hs1
    obtain ⟨ma, mc, V2, hr2, ho2, hg2, _⟩ := app_run V1 27 V0.heap.size _ 0 0 [] o1 _ m c4 pz hs1 (by omega) b1.size
    rw [Nat.zero_add] at hr2 ho2
    rw [List.nil_append] at ho2
    have b2 : Below V0.heap.size V0 V2 := b1.trans (o1.up hg2 b1.size)
    have hb2 : Below w.heap.size w V2 := hb0.trans (b2.mono hb0.size)
    have hom : OwnB V2 w.heap.size ma (Pm.mk pk pz).zs.length mc (Pm.mk pk pz).zs := by
      show OwnB V2 w.heap.size ma pz.length mc pz
      rw [hpl]
      exact ho2.base hb0.size
    obtain ⟨g7, c7, V4, hr7, ho7, hf7⟩ := (ho0.below b2).appR hom hb2.size (by omega)
    dsimp only at hr7
    rw [hpl] at hr7
    obtain ⟨V3, hV3⟩ : ∃ V3, V3 = V2.alloc (.cells #[.int .u16 (pk : Nat), .slice ma m mc] 61) := ⟨_, rfl⟩
    rw [← hV3] at hr7
    have hb3 : Below w.heap.size w V3 := by rw [hV3]; exact hb2.alloc hb2.size _
    have hb4 : Below w.heap.size w V4 := hb2.trans (hf7.below _ hb2.size (fun k hk => hk))
    obtain ⟨Wst, hWst⟩ : ∃ Wst : Nat → World, Wst = fun k => match k with | 0 => V0 | 1 => V1 | 2 => V2 | 3 => V3 | _ => V4 := ⟨_, rfl⟩
    have HWS : Hid (Wst 0 = V0 ∧ Wst 1 = V1 ∧ Wst 2 = V2 ∧ Wst 3 = V3 ∧ Wst 4 = V4) := by rw [hWst]; exact ⟨rfl, rfl, rfl, rfl, rfl⟩
    have HBW : Hid (∀ k, Below w.heap.size w (Wst k)) := fun k => by
      rw [hWst]
      match k with
      | 0 => exact hb0
      | 1 => exact hb1
      | 2 => exact hb2
      | 3 => exact hb3
      | k + 4 => exact hb4
    have HNM : Hid (∀ V, Below w.heap.size w V → Calls Tryd.prog 38 #[.slice (some ⟨b, off, none⟩) n c, .int .i64 (p : Nat), .int .i64 2] V fun e w' => e = .returned (.int .u32 (pk : Nat)) ∧ w' = V) := fun V hV => rnum12 (HS.out.below hV) p 2 (by omega) (by omega) (by omega) pk hpk _ rfl _ rfl
    have hV1e : Hid (V1 = V0.alloc (.cells #[] 5)) := hV1
    have hV3e : Hid (V3 = V2.alloc (.cells #[.int .u16 (pk : Nat), .slice ma m mc] 61)) := hV3
    have HR2 := (show Hid _ from hr2)
    have HR4 := (show Hid _ from hr7)
    have HSL := (show Hid _ from hsl4)
    have HWK : Hid (IntKind.u16.wrap ((pk : Nat) : Int) = pk) := by show _ = _; rw [IntKind.wrap_u16]; omega
    have HWR : Hid (IntKind.i64.wrap ((p : Int) + 4) = (p : Int) + 4 ∧ IntKind.i64.wrap ((p : Int) + (nn : Int)) = (p : Int) + (nn : Int)) := ⟨by rw [IntKind.wrap_i64]; omega, by rw [IntKind.wrap_i64]; omega⟩
    obtain ⟨mn, hmn⟩ : ∃ mn, mn = min (padN m) (n - (p + nn)) := ⟨_, rfl⟩
    have hpd : padN m = (4 - m % 4) % 4 := rfl
    have hp40 : p % 4 = 0 := by omega
    have HRE : Hid (r = combP (ps ++ [⟨pk, pz⟩]) (parP f (i + 1) (zs.drop (p + nn + mn)))) := by
      show _ = _
      rw [HRR.out, HNX.out _ HNB.out (by omega), combP_comb, nextP_at, ← HNN.out]
      have e1 : pmOf (zs.drop p) = ⟨pk, pz⟩ := by
        unfold pmOf
        rw [← HNN.out, ← hm, ← hpk, List.drop_drop, ← hpz]
      rw [e1, ← hm, hlz, show p + 4 + m = p + nn by omega, ← hmn]
    have HU4 : Hid (Below w.heap.size w V4 ∧ PmO V4 w.heap.size (some ⟨g7, 0, none⟩) (i + 1) c7 (ps ++ [⟨pk, pz⟩])) := ⟨hb4, ho7⟩
    have HMN : Hid (mn = min (padN m) (n - (p + nn)) ∧ padN m = (4 - m % 4) % 4 ∧ m = nn - 4 ∧ p % 4 = 0) := ⟨hmn, hpd, hm, hp40⟩
    have hmn3 : mn ≤ 3 := by omega
    have hmnn : p + nn + mn ≤ n := by omega
    have hV0e : Hid (V0 = wr.drew) := hV0
    clear hsl4 hsl4b hpk hpz hpl bd hb0 ho0 hV1 b1 o1 hb1 hs1 hr2 ho2 hg2 b2 hb2 hom hr7 ho7 hf7 hV3 hb3 hb4 hWst HUO HRR HE4 HE6 HNX HNB hmn hpd hp40 hm hp4 hlt hdl hc4 hi hV0
    go_wp2_with fail
    refine wp_region_seqF mixedX [true, false, false, false, false, false, false, false, false, false, false, false, false, false, false, false, false, false] (fun l V => V = Wst (cntL l [5, 13, 15, 16])) (fun _ _ _ => False) [(35, .slice la i lc), (36, .slice (some ⟨b, off, none⟩) n c), (37, .int .i64 (p : Nat)), (38, .int .u32 (pk : Nat)), (39, .int .u16 (pk : Nat)), (40, .slice (some ⟨V0.heap.size, 0, none⟩) 0 0), (41, .slice (some ⟨b, off, none⟩) n c), (42, .int .i64 (p : Nat)), (43, .int .i64 ((p : Int) + 4)), (44, .int .i64 (p : Nat)), (45, .int .i64 (nn : Nat)), (46, .int .i64 ((p : Int) + (nn : Int))), (47, .slice (some ⟨b, o4, none⟩) m c4), (48, .slice ma m mc), (49, .agg #[.int .u16 (pk : Nat), .slice ma m mc]), (50, .slice (some ⟨V2.heap.size, 0, none⟩) 1 1), (51, .slice (some ⟨g7, 0, none⟩) (i + 1) c7), (4, .slice (some ⟨g7, 0, none⟩) (i + 1) c7)] ?Z1 ?hZ1 (by kernel_rfl) (by kernel_rfl) (by kernel_rfl) (by kernel_rfl) ?h01 ?hops1 ?hq1 ?he1
    case hZ1 => simp only [List.foldl_cons, List.foldl_nil, List.setIfInBounds_toArray, List.set_cons_zero, List.set_cons_succ]; rfl
    case h01 => rw [← hV0e.out]; exact HWS.out.1.symm
    case hops1 =>
      refine ⟨?_, ?_, ?_, ?_, ?_, ?_, ?_, ?_, ?_, ?_, ?_, ?_, ?_, ?_, ?_, ?_, ?_, ?_, trivial⟩
      · exact seqF_val (by rfl) (fun l V hg => by rw [cntL_other _ _ _ (by decide)]; exact hg) (fun l V hl hc hg => by have hw1 := HWR.out.1; have hw2 := HWR.out.2; have hsl := HSL.out; have hwk := HWK.out; go_simp; (try with_reducible rfl); (try omega))
      · exact seqF_val (by rfl) (fun l V hg => by rw [cntL_other _ _ _ (by decide)]; exact hg) (fun l V hl hc hg => by have hw1 := HWR.out.1; have hw2 := HWR.out.2; have hsl := HSL.out; have hwk := HWK.out; go_simp; (try with_reducible rfl); (try omega))
      · exact seqF_val (by rfl) (fun l V hg => by rw [cntL_other _ _ _ (by decide)]; exact hg) (fun l V hl hc hg => by have hw1 := HWR.out.1; have hw2 := HWR.out.2; have hsl := HSL.out; have hwk := HWK.out; go_simp; (try with_reducible rfl); (try omega))
      · exact seqF_call (vs := [.slice (some ⟨b, off, none⟩) n c, .int .i64 (p : Nat), .int .i64 2]) (by rfl) rfl (by rfl) Tryd.func38 (by rfl) (by rfl) (fun l V hl hd hc hg => by
          exact Calls.mono (HNM.out V (by rw [hg]; exact HBW.out _)) (fun e V9 h => .inl ⟨h.1, by rw [h.2, cntL_other _ _ _ (by decide)]; exact hg⟩))
      · exact seqF_val (by rfl) (fun l V hg => by rw [cntL_other _ _ _ (by decide)]; exact hg) (fun l V hl hc hg => by have hw1 := HWR.out.1; have hw2 := HWR.out.2; have hsl := HSL.out; have hwk := HWK.out; go_simp; (try with_reducible rfl); (try omega))
      · exact seqF_run (by rfl) (fun l V hl hd hc hg => by
          have h13 : l 13 = false := (by cases h : l 13 with | false => rfl | true => exact absurd (hc 13 5 (by kernel_rfl) h) (by rw [hl]; decide))
          have h15 : l 15 = false := (by cases h : l 15 with | false => rfl | true => exact absurd (hc 15 5 (by kernel_rfl) h) (by rw [hl]; decide))
          have h16 : l 16 = false := (by cases h : l 16 with | false => rfl | true => exact absurd (hc 16 5 (by kernel_rfl) h) (by rw [hl]; decide))
          have hV : V = V0 := by rw [show V = _ from hg, cnt4_0 hl]; exact HWS.out.1
          subst hV
          refine ⟨V1, ?_, ?_⟩
          · rw [hV1e.out]; go_simp
          · show V1 = Wst _
            rw [cnt4_1 updL_eqC (by rw [updL_neC (by decide)]; exact h13)]
            exact HWS.out.2.1.symm)
      · exact seqF_val (by rfl) (fun l V hg => by rw [cntL_other _ _ _ (by decide)]; exact hg) (fun l V hl hc hg => by have hw1 := HWR.out.1; have hw2 := HWR.out.2; have hsl := HSL.out; have hwk := HWK.out; go_simp; (try with_reducible rfl); (try omega))
      · exact seqF_val (by rfl) (fun l V hg => by rw [cntL_other _ _ _ (by decide)]; exact hg) (fun l V hl hc hg => by have hw1 := HWR.out.1; have hw2 := HWR.out.2; have hsl := HSL.out; have hwk := HWK.out; go_simp; (try with_reducible rfl); (try omega))
      · exact seqF_val (by rfl) (fun l V hg => by rw [cntL_other _ _ _ (by decide)]; exact hg) (fun l V hl hc hg => by have hw1 := HWR.out.1; have hw2 := HWR.out.2; have hsl := HSL.out; have hwk := HWK.out; go_simp; (try with_reducible rfl); (try omega))
      · exact seqF_val (by rfl) (fun l V hg => by rw [cntL_other _ _ _ (by decide)]; exact hg) (fun l V hl hc hg => by have hw1 := HWR.out.1; have hw2 := HWR.out.2; have hsl := HSL.out; have hwk := HWK.out; go_simp; (try with_reducible rfl); (try omega))
      · exact seqF_val (by rfl) (fun l V hg => by rw [cntL_other _ _ _ (by decide)]; exact hg) (fun l V hl hc hg => by have hw1 := HWR.out.1; have hw2 := HWR.out.2; have hsl := HSL.out; have hwk := HWK.out; go_simp; (try with_reducible rfl); (try omega))
      · exact seqF_val (by rfl) (fun l V hg => by rw [cntL_other _ _ _ (by decide)]; exact hg) (fun l V hl hc hg => by have hw1 := HWR.out.1; have hw2 := HWR.out.2; have hsl := HSL.out; have hwk := HWK.out; go_simp; (try with_reducible rfl); (try omega))
      · exact seqF_val (by rfl) (fun l V hg => by rw [cntL_other _ _ _ (by decide)]; exact hg) (fun l V hl hc hg => by have hw1 := HWR.out.1; have hw2 := HWR.out.2; have hsl := HSL.out; have hwk := HWK.out; go_simp; (try with_reducible rfl); (try omega))
      · exact seqF_run (by rfl) (fun l V hl hd hc hg => by
          have h5 : l 5 = true := hc 5 5 (by kernel_rfl) (hd 5 (by kernel_rfl))
          have h15 : l 15 = false := (by cases h : l 15 with | false => rfl | true => exact absurd (hc 15 13 (by kernel_rfl) h) (by rw [hl]; decide))
          have h16 : l 16 = false := (by cases h : l 16 with | false => rfl | true => exact absurd (hc 16 13 (by kernel_rfl) h) (by rw [hl]; decide))
          have hV : V = V1 := by rw [show V = _ from hg, cnt4_1 h5 hl]; exact HWS.out.2.1
          subst hV
          refine ⟨V2, ?_, ?_⟩
          · exact run_appX (S := 27) rfl rfl (by rfl) (by rfl) HR2.out
          · show V2 = Wst _
            rw [cnt4_2 (by rw [updL_neC (by decide)]; exact h5) updL_eqC (by rw [updL_neC (by decide)]; exact h15)]
            exact HWS.out.2.2.1.symm)
      · exact seqF_val (by rfl) (fun l V hg => by rw [cntL_other _ _ _ (by decide)]; exact hg) (fun l V hl hc hg => by have hw1 := HWR.out.1; have hw2 := HWR.out.2; have hsl := HSL.out; have hwk := HWK.out; go_simp; (try with_reducible rfl); (try omega))
      · exact seqF_run (by rfl) (fun l V hl hd hc hg => by
          have h5 : l 5 = true := hc 14 5 (by kernel_rfl) (hd 14 (by kernel_rfl))
          have h13 : l 13 = true := hc 14 13 (by kernel_rfl) (hd 14 (by kernel_rfl))
          have h16 : l 16 = false := (by cases h : l 16 with | false => rfl | true => exact absurd (hc 16 15 (by kernel_rfl) h) (by rw [hl]; decide))
          have hV : V = V2 := by rw [show V = _ from hg, cnt4_2 h5 h13 hl]; exact HWS.out.2.2.1
          subst hV
          refine ⟨V3, ?_, ?_⟩
          · rw [hV3e.out]; go_simp
          · show V3 = Wst _
            rw [cnt4_3 (by rw [updL_neC (by decide)]; exact h5) (by rw [updL_neC (by decide)]; exact h13) updL_eqC (by rw [updL_neC (by decide)]; exact h16)]
            exact HWS.out.2.2.2.1.symm)
      · exact seqF_run (by rfl) (fun l V hl hd hc hg => by
          have h5 : l 5 = true := hc 15 5 (by kernel_rfl) (hd 15 (by kernel_rfl))
          have h13 : l 13 = true := hc 15 13 (by kernel_rfl) (hd 15 (by kernel_rfl))
          have h15 : l 15 = true := hc 15 15 (by kernel_rfl) (hd 15 (by kernel_rfl))
          have hV : V = V3 := by rw [show V = _ from hg, cnt4_3 h5 h13 h15 hl]; exact HWS.out.2.2.2.1
          subst hV
          refine ⟨V4, ?_, ?_⟩
          · exact run_appX (S := 26) rfl rfl (by rfl) (by rfl) HR4.out
          · show V4 = Wst _
            rw [cnt4_4 (by rw [updL_neC (by decide)]; exact h5) (by rw [updL_neC (by decide)]; exact h13) (by rw [updL_neC (by decide)]; exact h15) updL_eqC]
            exact HWS.out.2.2.2.2.symm)
      · exact seqF_val (by rfl) (fun l V hg => by rw [cntL_other _ _ _ (by decide)]; exact hg) (fun l V hl hc hg => by have hw1 := HWR.out.1; have hw2 := HWR.out.2; have hsl := HSL.out; have hwk := HWK.out; go_simp; (try with_reducible rfl); (try omega))
    case hq1 => exact fun _ _ _ _ _ _ _ h => h.elim
    case he1 =>

    intro l V hall hg
    have hV : V = V4 := by
      have := hg
      rw [this, cnt4_4 (hall 5 (by decide)) (hall 13 (by decide)) (hall 15 (by decide)) (hall 16 (by decide))]
      exact HWS.out.2.2.2.2
    subst hV
    clear hall hg HWS HBW HNM hV1e hV3e HR2 HR4 HSL HWK HWR hV0e
    go_wp2_with fail
    go_loopw [5] (fun u5 wr => ∃ j : Nat, j ≤ mn ∧ u5 = .int .i64 ((p + nn + j : Nat) : Int) ∧ wr = V) (fun u5 _ => mn + p + nn - (intOf u5).toNat)
    case atStart => exact ⟨0, by omega, by first | rfl | (congr 1), (by first | rfl | trivial)⟩
    case round =>
      obtain ⟨j, hj, rfl, hwr⟩ := hrel
      subst hwr
      obtain ⟨q, hq⟩ : ∃ q, q = p + nn + j := ⟨_, rfl⟩
      rw [← hq]
      have h9 := HMN.out
      by_cases hjm : j < mn
      · have g1 : (((q : Nat) : Int) % 4 != 0) = true := by simp; omega
        have g2 : ((q : Nat) : Int) < (n : Int) := by omega
        have HQ := (show Hid _ from hq)
        clear hq h9
        go_wp2
        go_roundw
        case rel => exact ⟨j + 1, by omega, by have := HQ.out; subst this; go_num, (by first | rfl | trivial)⟩
        case measure => have := HQ.out; simp [intOf]; omega
      · have hjm2 : j = mn := by omega
        have HF : Hid (PmO wr w.heap.size (some ⟨g7, 0, none⟩) (i + 1) c7 (ps ++ [⟨pk, pz⟩]) ∧ r = combP (ps ++ [⟨pk, pz⟩]) (parP f (i + 1) (zs.drop q))) := ⟨HU4.out.2, by rw [hq, hjm2]; exact HRE.out⟩
        have hq2 : q ≤ n ∧ (q % 4 = 0 ∨ q = n) ∧ n < f + q := by omega
        have HBB := (show Hid _ from HU4.out.1)
        by_cases hq4 : q % 4 = 0
        · have g1 : (((q : Nat) : Int) % 4 != 0) = false := by simp; omega
          clear h9 hq hjm2
          go_wp2
          go_roundw
          case rel => exact ⟨f, i + 1, q, _, _, ps ++ [⟨pk, pz⟩], by rw [HIP.out]; simp, by omega, by omega, by omega, by omega, rfl, rfl, HBB.out, HF.out⟩
          case measure => simp; omega
        · have g1 : (((q : Nat) : Int) % 4 != 0) = true := by simp; omega
          have g2 : ¬ ((q : Nat) : Int) < (n : Int) := by omega
          clear h9 hq hjm2
          go_wp2
          go_roundw
          case rel => exact ⟨f, i + 1, q, _, _, ps ++ [⟨pk, pz⟩], by rw [HIP.out]; simp, by omega, by omega, by omega, by omega, rfl, rfl, HBB.out, HF.out⟩
          case measure => simp; omega
end Go.Proofs.YtifdfkkjmjabnaaDoor
namespace Go.Proofs.YtifdfkkjmjabnaaDoor
open Go.RowKit
def hpB (k : Nat) : Bool := decide (k = 1 ∨ k = 2 ∨ k = 4 ∨ k = 5 ∨ k = 6 ∨ k = 9)
def hdB12 (k : Nat) : Bool := decide (k = 10 ∨ k = 12 ∨ k = 13 ∨ 14 < k)
set_option linter.unusedVariables false in
set_option maxRecDepth 100000 in
set_option maxHeartbeats 2000000 in
theorem hasParams_any (k : Nat) (hk : k < 256) (w : World) : Calls Tryd.prog 42 #[.int .u8 (k : Nat)] w fun e w' => e = .returned (.bool (hpB k)) ∧ Below w.heap.size w w' := by
  by_cases h : k = 1 ∨ k = 2 ∨ k = 4 ∨ k = 5 ∨ k = 6 ∨ k = 9
  · rw [show hpB k = true from decide_eq_true h]
    rcases h with rfl | rfl | rfl | rfl | rfl | rfl
    all_goals
      go_enter Tryd.func42, Tryd.ntmps42
      go_wp2
      go_ret
      exact ⟨rfl, Below.refl _ _⟩
  · rw [show hpB k = false from decide_eq_false h]
    have h1 : ((k : Int) == 1) = false := by simp; omega
    have h2 : ((k : Int) == 2) = false := by simp; omega
    have h3 : ((k : Int) == 4) = false := by simp; omega
    have h4 : ((k : Int) == 5) = false := by simp; omega
    have h5 : ((k : Int) == 6) = false := by simp; omega
    have h6 : ((k : Int) == 9) = false := by simp; omega
    clear h
    go_enter Tryd.func42, Tryd.ntmps42
    go_wp2
    go_ret
    exact ⟨rfl, Below.refl _ _⟩
set_option linter.unusedVariables false in
set_option maxRecDepth 100000 in
set_option maxHeartbeats 2000000 in
theorem hasData_any (k : Nat) (hk : k < 256) (w : World) : Calls Tryd.prog 43 #[.int .u8 (k : Nat)] w fun e w' => e = .returned (.bool (hdB12 k)) ∧ Below w.heap.size w w' := by
  by_cases h : k = 10 ∨ k = 12 ∨ k = 13
  · rw [show hdB12 k = true from decide_eq_true (by omega)]
    rcases h with rfl | rfl | rfl
    all_goals
      go_enter Tryd.func43, Tryd.ntmps43
      go_wp2
      go_ret
      exact ⟨rfl, Below.refl _ _⟩
  · have h1 : ((k : Int) == 10) = false := by simp; omega
    have h2 : ((k : Int) == 12) = false := by simp; omega
    have h3 : ((k : Int) == 13) = false := by simp; omega
    have e : hdB12 k = decide ((14 : Int) < (k : Int)) := by
      unfold hdB12
      by_cases h4 : 14 < k
      · rw [decide_eq_true (show k = 10 ∨ k = 12 ∨ k = 13 ∨ 14 < k by omega), decide_eq_true (show (14 : Int) < (k : Int) by omega)]
      · rw [decide_eq_false (show ¬ (k = 10 ∨ k = 12 ∨ k = 13 ∨ 14 < k) by omega), decide_eq_false (show ¬ (14 : Int) < (k : Int) by omega)]
    rw [e]
    clear h e
    go_enter Tryd.func43, Tryd.ntmps43
    go_wp2
    go_ret
    exact ⟨rfl, Below.refl _ _⟩
end Go.Proofs.YtifdfkkjmjabnaaDoor
namespace Go.Proofs.YtifdfkkjmjabnaaDoor
open Go.RowKit
theorem results_cellE2 {fn : Func} {p u : Tmp} {ty : TypeId} (h : fn.results = #[.cell p ty, .tmp u]) (tmps : Array Value) (w : World) (g o : Nat) (cs : List Value) (d : TypeDesc)
    (hp : tmps.getD p undef = .pointer (some ⟨g, o, none⟩)) (hc : w.rangeAt g o cs) (hu : Tryd.prog.underlying ty = some d) (hd : d.isRow = true) (hi : (Tryd.prog.info? ty).map (·.size) = some cs.length) :
    (results fn tmps).run Tryd.prog w = .ok (.tuple #[.agg cs.toArray, tmps.getD u undef]) w := by
  rw [results_cell_tmp h, hp]
  simp [asAddr, run_loadVar_mid w g o ty cs d hc hu hd hi, Result.andThen]
def leastN (k : Nat) : Nat := if k = 0 then 13 else if k = 1 ∨ k = 2 then 16 else if k = 3 then 12 else if k = 7 then 4 else 0
set_option maxRecDepth 100000 in
set_option maxHeartbeats 2000000 in
theorem least_any (k : Nat) (w : World) : Calls Tryd.prog 58 #[.int .u8 (k : Nat)] w fun e w' => e = .returned (.int .i64 (leastN k : Nat)) ∧ w' = w := by
  have lit : ∀ K : Nat, (K = 0 ∨ K = 1 ∨ K = 2 ∨ K = 3 ∨ K = 7) → Calls Tryd.prog 58 #[.int .u8 (K : Nat)] w fun e w' => e = .returned (.int .i64 (leastN K : Nat)) ∧ w' = w := by
    intro K hK
    rcases hK with rfl | rfl | rfl | rfl | rfl
    all_goals
      go_enter Tryd.func58, Tryd.ntmps58
      go_wp2
      go_ret
      exact ⟨rfl, rfl⟩
  by_cases hk : k = 0 ∨ k = 1 ∨ k = 2 ∨ k = 3 ∨ k = 7
  · exact lit k hk
  · have e : leastN k = 0 := by unfold leastN; rw [if_neg (by omega), if_neg (by omega), if_neg (by omega), if_neg (by omega)]
    rw [e]
    have g0 : ((k : Int) == 0) = false := by simp; omega
    have g1 : ((k : Int) == 1) = false := by simp; omega
    have g2 : ((k : Int) == 2) = false := by simp; omega
    have g3 : ((k : Int) == 3) = false := by simp; omega
    have g7 : ((k : Int) == 7) = false := by simp; omega
    clear hk e lit
    go_enter Tryd.func58, Tryd.ntmps58
    go_wp2
    go_ret
    exact ⟨rfl, rfl⟩
def bareB (k : Nat) : Bool := decide (k = 8 ∨ k = 11 ∨ k = 14)
set_option maxRecDepth 100000 in
set_option maxHeartbeats 2000000 in
theorem isBare_any (k : Nat) (w : World) : Calls Tryd.prog 59 #[.int .u8 (k : Nat)] w fun e w' => e = .returned (.bool (bareB k)) ∧ w' = w := by
  by_cases h : k = 8 ∨ k = 11 ∨ k = 14
  · rw [show bareB k = true from decide_eq_true h]
    rcases h with rfl | rfl | rfl
    all_goals
      go_enter Tryd.func59, Tryd.ntmps59
      go_wp2
      go_ret
      exact ⟨rfl, rfl⟩
  · rw [show bareB k = false from decide_eq_false h]
    have g0 : ((k : Int) == 8) = false := by simp; omega
    have g1 : ((k : Int) == 11) = false := by simp; omega
    have g2 : ((k : Int) == 14) = false := by simp; omega
    clear h
    go_enter Tryd.func59, Tryd.ntmps59
    go_wp2
    go_ret
    exact ⟨rfl, rfl⟩
/-- One under way: the answer's box, the chunk's box. -/
structure OnS (w V : World) (cs : List Value) : Prop where
  b6 : Stc V w.heap.size [.int .u8 0, .int .u8 0, .int .u32 0, .int .u16 0, .int .u16 0, .int .u32 0, .int .u32 0, .int .u32 0, .int .u16 0, .int .u16 0, .slice none 0 0, .slice none 0 0, .slice none 0 0, .slice none 0 0]
  b8 : Stc V (w.heap.size + 1) cs
  bel : Below w.heap.size w V
theorem OnS.below {w V V' : World} {cs : List Value} (h : OnS w V cs) (hb : Below V.heap.size V V') : OnS w V' cs := ⟨h.b6.below hb, h.b8.below hb, h.bel.trans (hb.mono h.bel.size)⟩
theorem OnS.fr {w V V' : World} {cs : List Value} {Q : Nat → Prop} (h : OnS w V cs) (hf : Fr Q V V') (hq : ∀ g, Q g → w.heap.size + 1 < g) : OnS w V' cs := ⟨h.b6.fr hf (fun e => by have := hq _ e; omega), h.b8.fr hf (fun e => by have := hq _ e; omega), h.bel.trans (hf.below _ h.bel.size (fun g hg => by have := hq g hg; omega))⟩
theorem OnS.set {w V : World} {cs : List Value} (h : OnS w V cs) (i : Nat) (v : Value) : OnS w (V.setCell ⟨w.heap.size + 1, i, none⟩ v) (cs.set i v) := by
  have hf := Fr.setCell (fun g => g = w.heap.size + 1) V ⟨w.heap.size + 1, i, none⟩ v rfl
  exact ⟨h.b6.fr hf (by omega), h.b8.set i v, h.bel.trans (hf.below _ h.bel.size (fun g hg => by omega))⟩
theorem OnS.start (w W1 W2 : World) (cs : List Value) (h1 : W1 = w.alloc (.cells #[.int .u8 0, .int .u8 0, .int .u32 0, .int .u16 0, .int .u16 0, .int .u32 0, .int .u32 0, .int .u32 0, .int .u16 0, .int .u16 0, .slice none 0 0, .slice none 0 0, .slice none 0 0, .slice none 0 0] 29)) (h2 : W2 = W1.alloc (.cells cs.toArray 29)) : OnS w W2 cs := by
  have b1 : Below w.heap.size w W1 := by rw [h1]; exact (Below.refl _ _).alloc (Nat.le_refl _) _
  have s1 := Stc.new w [.int .u8 0, .int .u8 0, .int .u32 0, .int .u16 0, .int .u16 0, .int .u32 0, .int .u32 0, .int .u32 0, .int .u16 0, .int .u16 0, .slice none 0 0, .slice none 0 0, .slice none 0 0, .slice none 0 0] 29 W1 h1
  have z1 : W1.heap.size = w.heap.size + 1 := by rw [h1]; simp
  have b2 : Below W1.heap.size W1 W2 := by rw [h2]; exact (Below.refl _ _).alloc (Nat.le_refl _) _
  have s2 := Stc.new W1 cs 29 W2 h2
  rw [z1] at s2
  exact ⟨s1.below b2, s2, b1.trans (b2.mono b1.size)⟩
/-- What One answers. -/
structure OnR (w : World) (r : Except Int CD) (e : Ending) (w' : World) : Prop where
  ex : ∃ cs er, cs.length = 14 ∧ (∀ u ∈ cs, u.oneCell' = true) ∧ e = .returned (.tuple #[.agg cs.toArray, .int .i64 er]) ∧ (∀ c, r = .ok c → er = 0 ∧ ChO w' w.heap.size c cs) ∧ (∀ e', r = .error e' → er = e')
  bel : Below w.heap.size w w'
theorem one14 (a0 a1 a2 a3 a4 a5 a6 a7 a8 a9 : IntKind × Int) (s0 s1 s2 s3 : Option Addr × Nat × Nat) : ∀ u ∈ ([.int a0.1 a0.2, .int a1.1 a1.2, .int a2.1 a2.2, .int a3.1 a3.2, .int a4.1 a4.2, .int a5.1 a5.2, .int a6.1 a6.2, .int a7.1 a7.2, .int a8.1 a8.2, .int a9.1 a9.2, .slice s0.1 s0.2.1 s0.2.2, .slice s1.1 s1.2.1 s1.2.2, .slice s2.1 s2.2.1 s2.2.2, .slice s3.1 s3.2.1 s3.2.2] : List Value), u.oneCell' = true := by
  intro u hu
  simp only [List.mem_cons, List.not_mem_nil, or_false] at hu
  rcases hu with rfl | rfl | rfl | rfl | rfl | rfl | rfl | rfl | rfl | rfl | rfl | rfl | rfl | rfl <;> rfl
set_option linter.unusedVariables false in
set_option maxRecDepth 100000 in
set_option maxHeartbeats 8000000 in
theorem one_short {w : World} {b off n c : Nat} {zs : List Nat} (hs : Sl w (some ⟨b, off, none⟩) n c zs) (hn : n ≤ 2000) (k f : Nat) (hk8 : k < 256) (hf8 : f < 256) (h : n < leastN k) :
    Calls Tryd.prog 39 #[.int .u8 (k : Nat), .int .u8 (f : Nat), .slice (some ⟨b, off, none⟩) n c] w (OnR w (.error 4)) := by
  have hlz := hs.len
  have hcap := hs.cap
  have hbnd := hs.bnd
  have HS := (show Hid _ from hs)
  have hz := zero_ch14R
  obtain ⟨W1, hW1⟩ : ∃ W1, W1 = w.alloc (.cells #[.int .u8 0, .int .u8 0, .int .u32 0, .int .u16 0, .int .u16 0, .int .u32 0, .int .u32 0, .int .u32 0, .int .u16 0, .int .u16 0, .slice none 0 0, .slice none 0 0, .slice none 0 0, .slice none 0 0] 29) := ⟨_, rfl⟩
  obtain ⟨W2, hW2⟩ : ∃ W2, W2 = W1.alloc (.cells #[.int .u8 (k : Nat), .int .u8 (f : Nat), .int .u32 0, .int .u16 0, .int .u16 0, .int .u32 0, .int .u32 0, .int .u32 0, .int .u16 0, .int .u16 0, .slice none 0 0, .slice none 0 0, .slice none 0 0, .slice none 0 0] 29) := ⟨_, rfl⟩
  have HU0 : Hid (OnS w W2 [.int .u8 (k : Nat), .int .u8 (f : Nat), .int .u32 0, .int .u16 0, .int .u16 0, .int .u32 0, .int .u32 0, .int .u32 0, .int .u16 0, .int .u16 0, .slice none 0 0, .slice none 0 0, .slice none 0 0, .slice none 0 0]) := OnS.start w W1 W2 _ hW1 hW2
  have HLE := (show Hid _ from fun W => least_any k W)
  have HBA := (show Hid _ from fun W => isBare_any k W)
  clear hs
  have h1 : (n : Int) < ((leastN k : Nat) : Int) := by omega
  generalize leastN k = lk at *
  go_enter Tryd.func39, Tryd.ntmps39
  go_wp2_with fail
  rw [← hW1, ← hW2]
  clear hW1 hW2 hz
  refine Calls.mono (HLE.out W2) ?_
  rintro e w3 ⟨rfl, hw3⟩
  replace hw3 := hw3.symm
  subst hw3
  obtain ⟨cs, hcs⟩ : ∃ cs : List Value, cs = [.int .u8 (k : Nat), .int .u8 (f : Nat), .int .u32 0, .int .u16 0, .int .u16 0, .int .u32 0, .int .u32 0, .int .u32 0, .int .u16 0, .int .u16 0, .slice none 0 0, .slice none 0 0, .slice none 0 0, .slice none 0 0] := ⟨_, rfl⟩
  have hcl : cs.length = 14 := by rw [hcs]; rfl
  have hone : ∀ u ∈ cs, u.oneCell' = true := by rw [hcs]; exact one14 (.u8, (k : Nat)) (.u8, (f : Nat)) (.u32, 0) (.u16, 0) (.u16, 0) (.u32, 0) (.u32, 0) (.u32, 0) (.u16, 0) (.u16, 0) (none, 0, 0) (none, 0, 0) (none, 0, 0) (none, 0, 0)
  have hU := HU0.out
  rw [← hcs] at hU
  have hrg := hU.b8.range
  have hth : W2.there w.heap.size 0 cs.toArray.size := by
    have e : cs.toArray.size = 14 := by simp [hcl]
    rw [e]
    exact hU.b6.there
  have hi14 := ch_size14R cs hcl
  have hi14' : (Tryd.prog.info? 29).map (·.size) = some cs.toArray.size := by rw [List.size_toArray]; exact hi14
  have hput := hU.b6.put cs (by rw [hcl]; rfl)
  have hff := fr_setCellsX w.heap.size cs 0 W2
  have HF : Hid (Stc (W2.setCells w.heap.size 0 cs) w.heap.size cs ∧ Fr (fun k => k = w.heap.size) W2 (W2.setCells w.heap.size 0 cs) ∧ Below w.heap.size w W2) := ⟨hput, hff, hU.bel⟩
  have HCS := (show Hid _ from hcs)
  clear hU hput hff hcs HU0
  go_wp2_with (first | (refine wpList_load_mid rfl 29 _ rfl (w.heap.size + 1) 0 rfl cs _ hrg Tryd.underlying29 rfl hi14 ?_) | (refine wpList_store_mid rfl 29 _ _ rfl w.heap.size 0 cs.toArray rfl rfl hth hi14' (all_oneCell_toArray hone) ?_; change wpList _ _ _ _ _ (W2.setCells w.heap.size 0 cs)) | fail)
  try simp only [Exit.inBlock, Exit.then]
  refine bodyPost_ret (results_cellE2 rfl _ _ w.heap.size 0 cs _ rfl HF.out.1.range Tryd.underlying29 rfl hi14) rfl ?_
  refine ⟨⟨cs, 4, hcl, hone, rfl, ?_, ?_⟩, HF.out.2.2.trans (HF.out.2.1.below _ HF.out.2.2.size (fun k hk => by omega))⟩
  · intro c' e; cases e
  · intro e' e; injection e with e
set_option linter.unusedVariables false in
set_option maxRecDepth 100000 in
set_option maxHeartbeats 8000000 in
theorem one_bare {w : World} {b off n c : Nat} {zs : List Nat} (hs : Sl w (some ⟨b, off, none⟩) n c zs) (hn : n ≤ 2000) (k f : Nat) (hk8 : k < 256) (hf8 : f < 256) (hb : k = 8 ∨ k = 11 ∨ k = 14) (h : 0 < n) :
    Calls Tryd.prog 39 #[.int .u8 (k : Nat), .int .u8 (f : Nat), .slice (some ⟨b, off, none⟩) n c] w (OnR w (.error 4)) := by
  have hlz := hs.len
  have hcap := hs.cap
  have hbnd := hs.bnd
  have HS := (show Hid _ from hs)
  have hz := zero_ch14R
  obtain ⟨W1, hW1⟩ : ∃ W1, W1 = w.alloc (.cells #[.int .u8 0, .int .u8 0, .int .u32 0, .int .u16 0, .int .u16 0, .int .u32 0, .int .u32 0, .int .u32 0, .int .u16 0, .int .u16 0, .slice none 0 0, .slice none 0 0, .slice none 0 0, .slice none 0 0] 29) := ⟨_, rfl⟩
  obtain ⟨W2, hW2⟩ : ∃ W2, W2 = W1.alloc (.cells #[.int .u8 (k : Nat), .int .u8 (f : Nat), .int .u32 0, .int .u16 0, .int .u16 0, .int .u32 0, .int .u32 0, .int .u32 0, .int .u16 0, .int .u16 0, .slice none 0 0, .slice none 0 0, .slice none 0 0, .slice none 0 0] 29) := ⟨_, rfl⟩
  have HU0 : Hid (OnS w W2 [.int .u8 (k : Nat), .int .u8 (f : Nat), .int .u32 0, .int .u16 0, .int .u16 0, .int .u32 0, .int .u32 0, .int .u32 0, .int .u16 0, .int .u16 0, .slice none 0 0, .slice none 0 0, .slice none 0 0, .slice none 0 0]) := OnS.start w W1 W2 _ hW1 hW2
  have HLE := (show Hid _ from fun W => least_any k W)
  have HBA := (show Hid _ from fun W => isBare_any k W)
  clear hs
  have e0 : leastN k = 0 := by unfold leastN; rw [if_neg (by omega), if_neg (by omega), if_neg (by omega), if_neg (by omega)]
  rw [e0] at HLE
  rw [show bareB k = true from decide_eq_true hb] at HBA
  have h1 : (0 : Int) < (n : Int) := by omega
  have h2 : ¬ (n : Int) < 0 := by omega
  clear e0 hb
  go_enter Tryd.func39, Tryd.ntmps39
  go_wp2_with fail
  rw [← hW1, ← hW2]
  clear hW1 hW2 hz
  refine Calls.mono (HLE.out W2) ?_
  rintro e w3 ⟨rfl, hw3⟩
  replace hw3 := hw3.symm
  subst hw3
  go_wp2_with fail
  refine Calls.mono (HBA.out W2) ?_
  rintro e w3 ⟨rfl, hw3⟩
  replace hw3 := hw3.symm
  subst hw3
  obtain ⟨cs, hcs⟩ : ∃ cs : List Value, cs = [.int .u8 (k : Nat), .int .u8 (f : Nat), .int .u32 0, .int .u16 0, .int .u16 0, .int .u32 0, .int .u32 0, .int .u32 0, .int .u16 0, .int .u16 0, .slice none 0 0, .slice none 0 0, .slice none 0 0, .slice none 0 0] := ⟨_, rfl⟩
  have hcl : cs.length = 14 := by rw [hcs]; rfl
  have hone : ∀ u ∈ cs, u.oneCell' = true := by rw [hcs]; exact one14 (.u8, (k : Nat)) (.u8, (f : Nat)) (.u32, 0) (.u16, 0) (.u16, 0) (.u32, 0) (.u32, 0) (.u32, 0) (.u16, 0) (.u16, 0) (none, 0, 0) (none, 0, 0) (none, 0, 0) (none, 0, 0)
  have hU := HU0.out
  rw [← hcs] at hU
  have hrg := hU.b8.range
  have hth : W2.there w.heap.size 0 cs.toArray.size := by
    have e : cs.toArray.size = 14 := by simp [hcl]
    rw [e]
    exact hU.b6.there
  have hi14 := ch_size14R cs hcl
  have hi14' : (Tryd.prog.info? 29).map (·.size) = some cs.toArray.size := by rw [List.size_toArray]; exact hi14
  have hput := hU.b6.put cs (by rw [hcl]; rfl)
  have hff := fr_setCellsX w.heap.size cs 0 W2
  have HF : Hid (Stc (W2.setCells w.heap.size 0 cs) w.heap.size cs ∧ Fr (fun k => k = w.heap.size) W2 (W2.setCells w.heap.size 0 cs) ∧ Below w.heap.size w W2) := ⟨hput, hff, hU.bel⟩
  have HCS := (show Hid _ from hcs)
  clear hU hput hff hcs HU0
  go_wp2_with (first | (refine wpList_load_mid rfl 29 _ rfl (w.heap.size + 1) 0 rfl cs _ hrg Tryd.underlying29 rfl hi14 ?_) | (refine wpList_store_mid rfl 29 _ _ rfl w.heap.size 0 cs.toArray rfl rfl hth hi14' (all_oneCell_toArray hone) ?_; change wpList _ _ _ _ _ (W2.setCells w.heap.size 0 cs)) | fail)
  try simp only [Exit.inBlock, Exit.then]
  refine bodyPost_ret (results_cellE2 rfl _ _ w.heap.size 0 cs _ rfl HF.out.1.range Tryd.underlying29 rfl hi14) rfl ?_
  refine ⟨⟨cs, 4, hcl, hone, rfl, ?_, ?_⟩, HF.out.2.2.trans (HF.out.2.1.below _ HF.out.2.2.size (fun k hk => by omega))⟩
  · intro c' e; cases e
  · intro e' e; injection e with e
set_option linter.unusedVariables false in
set_option maxRecDepth 100000 in
set_option maxHeartbeats 8000000 in
theorem one_none {w : World} {b off n c : Nat} {zs : List Nat} (hs : Sl w (some ⟨b, off, none⟩) n c zs) (hn : n ≤ 2000) (k f : Nat) (hk8 : k < 256) (hf8 : f < 256) (hb : k = 8 ∨ k = 11 ∨ k = 14) (h : n = 0) :
    Calls Tryd.prog 39 #[.int .u8 (k : Nat), .int .u8 (f : Nat), .slice (some ⟨b, off, none⟩) n c] w (OnR w (.ok ⟨k, f, 0, 0, 0, 0, 0, 0, 0, 0, [], [], [], []⟩)) := by
  have hlz := hs.len
  have hcap := hs.cap
  have hbnd := hs.bnd
  have HS := (show Hid _ from hs)
  have hz := zero_ch14R
  obtain ⟨W1, hW1⟩ : ∃ W1, W1 = w.alloc (.cells #[.int .u8 0, .int .u8 0, .int .u32 0, .int .u16 0, .int .u16 0, .int .u32 0, .int .u32 0, .int .u32 0, .int .u16 0, .int .u16 0, .slice none 0 0, .slice none 0 0, .slice none 0 0, .slice none 0 0] 29) := ⟨_, rfl⟩
  obtain ⟨W2, hW2⟩ : ∃ W2, W2 = W1.alloc (.cells #[.int .u8 (k : Nat), .int .u8 (f : Nat), .int .u32 0, .int .u16 0, .int .u16 0, .int .u32 0, .int .u32 0, .int .u32 0, .int .u16 0, .int .u16 0, .slice none 0 0, .slice none 0 0, .slice none 0 0, .slice none 0 0] 29) := ⟨_, rfl⟩
  have HU0 : Hid (OnS w W2 [.int .u8 (k : Nat), .int .u8 (f : Nat), .int .u32 0, .int .u16 0, .int .u16 0, .int .u32 0, .int .u32 0, .int .u32 0, .int .u16 0, .int .u16 0, .slice none 0 0, .slice none 0 0, .slice none 0 0, .slice none 0 0]) := OnS.start w W1 W2 _ hW1 hW2
  have HLE := (show Hid _ from fun W => least_any k W)
  have HBA := (show Hid _ from fun W => isBare_any k W)
  clear hs
  have e0 : leastN k = 0 := by unfold leastN; rw [if_neg (by omega), if_neg (by omega), if_neg (by omega), if_neg (by omega)]
  rw [e0] at HLE
  rw [show bareB k = true from decide_eq_true hb] at HBA
  have g0 : ((k : Int) == 0) = false := by simp; omega
  have g1 : ((k : Int) == 1) = false := by simp; omega
  have g2 : ((k : Int) == 2) = false := by simp; omega
  have g3 : ((k : Int) == 3) = false := by simp; omega
  have g7 : ((k : Int) == 7) = false := by simp; omega
  have HD := (show Hid _ from fun W => hasData_any k hk8 W)
  have HP := (show Hid _ from fun W => hasParams_any k hk8 W)
  rw [show hdB12 k = false from decide_eq_false (by omega)] at HD
  rw [show hpB k = false from decide_eq_false (by omega)] at HP
  have h1 : ¬ (0 : Int) < (n : Int) := by omega
  have h2 : ¬ (n : Int) < 0 := by omega
  clear e0 hb h
  go_enter Tryd.func39, Tryd.ntmps39
  go_wp2_with fail
  rw [← hW1, ← hW2]
  clear hW1 hW2 hz
  refine Calls.mono (HLE.out W2) ?_
  rintro e w3 ⟨rfl, hw3⟩
  replace hw3 := hw3.symm
  subst hw3
  go_wp2_with fail
  refine Calls.mono (HBA.out W2) ?_
  rintro e w3 ⟨rfl, hw3⟩
  replace hw3 := hw3.symm
  subst hw3
  go_wp2_with fail
  refine Calls.mono (HP.out W2) ?_
  rintro e w4 ⟨rfl, b4⟩
  have HU1 := (show Hid _ from HU0.out.below b4)
  clear HU0 b4
  go_wp2_with fail
  refine Calls.mono (HD.out w4) ?_
  rintro e w5 ⟨rfl, b5⟩
  have HU2 := (show Hid _ from HU1.out.below b5)
  clear HU1 b5 HD HP HLE HBA
  obtain ⟨cs, hcs⟩ : ∃ cs : List Value, cs = [.int .u8 (k : Nat), .int .u8 (f : Nat), .int .u32 0, .int .u16 0, .int .u16 0, .int .u32 0, .int .u32 0, .int .u32 0, .int .u16 0, .int .u16 0, .slice none 0 0, .slice none 0 0, .slice none 0 0, .slice none 0 0] := ⟨_, rfl⟩
  have hcl : cs.length = 14 := by rw [hcs]; rfl
  have hone : ∀ u ∈ cs, u.oneCell' = true := by rw [hcs]; exact one14 (.u8, (k : Nat)) (.u8, (f : Nat)) (.u32, 0) (.u16, 0) (.u16, 0) (.u32, 0) (.u32, 0) (.u32, 0) (.u16, 0) (.u16, 0) (none, 0, 0) (none, 0, 0) (none, 0, 0) (none, 0, 0)
  have hU := HU2.out
  rw [← hcs] at hU
  have hrg := hU.b8.range
  have hth : w5.there w.heap.size 0 cs.toArray.size := by
    have e : cs.toArray.size = 14 := by simp [hcl]
    rw [e]
    exact hU.b6.there
  have hi14 := ch_size14R cs hcl
  have hi14' : (Tryd.prog.info? 29).map (·.size) = some cs.toArray.size := by rw [List.size_toArray]; exact hi14
  have hput := hU.b6.put cs (by rw [hcl]; rfl)
  have hff := fr_setCellsX w.heap.size cs 0 w5
  have HF : Hid (Stc (w5.setCells w.heap.size 0 cs) w.heap.size cs ∧ Fr (fun k => k = w.heap.size) w5 (w5.setCells w.heap.size 0 cs) ∧ Below w.heap.size w w5) := ⟨hput, hff, hU.bel⟩
  have HCS := (show Hid _ from hcs)
  clear hU hput hff hcs HU2
  go_wp2_with (first | (refine wpList_load_mid rfl 29 _ rfl (w.heap.size + 1) 0 rfl cs _ hrg Tryd.underlying29 rfl hi14 ?_) | (refine wpList_store_mid rfl 29 _ _ rfl w.heap.size 0 cs.toArray rfl rfl hth hi14' (all_oneCell_toArray hone) ?_; change wpList _ _ _ _ _ (w5.setCells w.heap.size 0 cs)) | fail)
  try simp only [Exit.inBlock, Exit.then]
  refine bodyPost_ret (results_cellE2 rfl _ _ w.heap.size 0 cs _ rfl HF.out.1.range Tryd.underlying29 rfl hi14) rfl ?_
  refine ⟨⟨cs, 0, hcl, hone, rfl, ?_, ?_⟩, HF.out.2.2.trans (HF.out.2.1.below _ HF.out.2.2.size (fun k hk => by omega))⟩
  · intro c' e
    injection e with e
    subst e
    refine ⟨rfl, ⟨none, 0, none, 0, none, 0, none, 0, HCS.out, OwnG.nil _ _, OwnG.nil _ _, PmO.nil _ _, OwnB.nil _ _⟩⟩
  · intro e' e; cases e
end Go.Proofs.YtifdfkkjmjabnaaDoor
namespace Go.Proofs.YtifdfkkjmjabnaaDoor
open Go.RowKit
set_option linter.unusedVariables false in
set_option maxRecDepth 100000 in
set_option maxHeartbeats 8000000 in
theorem one_tsn_long {w : World} {b off n c : Nat} {zs : List Nat} (hs : Sl w (some ⟨b, off, none⟩) n c zs) (hn : n ≤ 2000) (k f : Nat) (hk8 : k < 256) (hf8 : f < 256) (hb : k = 7) (h : 4 < n) :
    Calls Tryd.prog 39 #[.int .u8 (k : Nat), .int .u8 (f : Nat), .slice (some ⟨b, off, none⟩) n c] w (OnR w (.error 4)) := by
  have hlz := hs.len
  have hcap := hs.cap
  have hbnd := hs.bnd
  have HS := (show Hid _ from hs)
  have hz := zero_ch14R
  obtain ⟨W1, hW1⟩ : ∃ W1, W1 = w.alloc (.cells #[.int .u8 0, .int .u8 0, .int .u32 0, .int .u16 0, .int .u16 0, .int .u32 0, .int .u32 0, .int .u32 0, .int .u16 0, .int .u16 0, .slice none 0 0, .slice none 0 0, .slice none 0 0, .slice none 0 0] 29) := ⟨_, rfl⟩
  obtain ⟨W2, hW2⟩ : ∃ W2, W2 = W1.alloc (.cells #[.int .u8 (k : Nat), .int .u8 (f : Nat), .int .u32 0, .int .u16 0, .int .u16 0, .int .u32 0, .int .u32 0, .int .u32 0, .int .u16 0, .int .u16 0, .slice none 0 0, .slice none 0 0, .slice none 0 0, .slice none 0 0] 29) := ⟨_, rfl⟩
  have HU0 : Hid (OnS w W2 [.int .u8 (k : Nat), .int .u8 (f : Nat), .int .u32 0, .int .u16 0, .int .u16 0, .int .u32 0, .int .u32 0, .int .u32 0, .int .u16 0, .int .u16 0, .slice none 0 0, .slice none 0 0, .slice none 0 0, .slice none 0 0]) := OnS.start w W1 W2 _ hW1 hW2
  have HLE := (show Hid _ from fun W => least_any k W)
  have HBA := (show Hid _ from fun W => isBare_any k W)
  clear hs
  have e0 : leastN k = 4 := by unfold leastN; rw [if_neg (by omega), if_neg (by omega), if_neg (by omega), if_pos hb]
  rw [e0] at HLE
  rw [show bareB k = false from decide_eq_false (by omega)] at HBA
  have h2 : ¬ (n : Int) < 4 := by omega
  have h3 : (4 : Int) < (n : Int) := by omega
  clear e0
  have g0 : ((k : Int) == 0) = false := by simp; omega
  have g1 : ((k : Int) == 1) = false := by simp; omega
  have g2 : ((k : Int) == 2) = false := by simp; omega
  have g3 : ((k : Int) == 3) = false := by simp; omega
  have g7 : ((k : Int) == 7) = true := by simp; omega
  clear hb
  go_enter Tryd.func39, Tryd.ntmps39
  go_wp2_with fail
  rw [← hW1, ← hW2]
  clear hW1 hW2 hz
  refine Calls.mono (HLE.out W2) ?_
  rintro e w3 ⟨rfl, hw3⟩
  replace hw3 := hw3.symm
  subst hw3
  go_wp2_with fail
  refine Calls.mono (HBA.out W2) ?_
  rintro e w3 ⟨rfl, hw3⟩
  replace hw3 := hw3.symm
  subst hw3
  clear HLE HBA
  obtain ⟨cs, hcs⟩ : ∃ cs : List Value, cs = [.int .u8 (k : Nat), .int .u8 (f : Nat), .int .u32 0, .int .u16 0, .int .u16 0, .int .u32 0, .int .u32 0, .int .u32 0, .int .u16 0, .int .u16 0, .slice none 0 0, .slice none 0 0, .slice none 0 0, .slice none 0 0] := ⟨_, rfl⟩
  have hcl : cs.length = 14 := by rw [hcs]; rfl
  have hone : ∀ u ∈ cs, u.oneCell' = true := by rw [hcs]; exact one14 (.u8, (k : Nat)) (.u8, (f : Nat)) (.u32, 0) (.u16, 0) (.u16, 0) (.u32, 0) (.u32, 0) (.u32, 0) (.u16, 0) (.u16, 0) (none, 0, 0) (none, 0, 0) (none, 0, 0) (none, 0, 0)
  have hU := HU0.out
  rw [← hcs] at hU
  have hrg := hU.b8.range
  have hth : W2.there w.heap.size 0 cs.toArray.size := by
    have e : cs.toArray.size = 14 := by simp [hcl]
    rw [e]
    exact hU.b6.there
  have hi14 := ch_size14R cs hcl
  have hi14' : (Tryd.prog.info? 29).map (·.size) = some cs.toArray.size := by rw [List.size_toArray]; exact hi14
  have hput := hU.b6.put cs (by rw [hcl]; rfl)
  have hff := fr_setCellsX w.heap.size cs 0 W2
  have HF : Hid (Stc (W2.setCells w.heap.size 0 cs) w.heap.size cs ∧ Fr (fun k => k = w.heap.size) W2 (W2.setCells w.heap.size 0 cs) ∧ Below w.heap.size w W2) := ⟨hput, hff, hU.bel⟩
  have HCS := (show Hid _ from hcs)
  clear hU hput hff hcs HU0
  go_wp2_with (first | (refine wpList_load_mid rfl 29 _ rfl (w.heap.size + 1) 0 rfl cs _ hrg Tryd.underlying29 rfl hi14 ?_) | (refine wpList_store_mid rfl 29 _ _ rfl w.heap.size 0 cs.toArray rfl rfl hth hi14' (all_oneCell_toArray hone) ?_; change wpList _ _ _ _ _ (W2.setCells w.heap.size 0 cs)) | fail)
  try simp only [Exit.inBlock, Exit.then]
  refine bodyPost_ret (results_cellE2 rfl _ _ w.heap.size 0 cs _ rfl HF.out.1.range Tryd.underlying29 rfl hi14) rfl ?_
  refine ⟨⟨cs, 4, hcl, hone, rfl, ?_, ?_⟩, HF.out.2.2.trans (HF.out.2.1.below _ HF.out.2.2.size (fun k hk => by omega))⟩
  · intro c' e; cases e
  · intro e' e; injection e with e
set_option linter.unusedVariables false in
set_option maxRecDepth 100000 in
set_option maxHeartbeats 8000000 in
theorem one_tsn {w : World} {b off n c : Nat} {zs : List Nat} (hs : Sl w (some ⟨b, off, none⟩) n c zs) (hn : n ≤ 2000) (k f : Nat) (hk8 : k < 256) (hf8 : f < 256) (hb : k = 7) (h : n ≤ 4) (h9 : 4 ≤ n) :
    Calls Tryd.prog 39 #[.int .u8 (k : Nat), .int .u8 (f : Nat), .slice (some ⟨b, off, none⟩) n c] w (OnR w (.ok ⟨k, f, numB (zs.take 4), 0, 0, 0, 0, 0, 0, 0, [], [], [], []⟩)) := by
  have hlz := hs.len
  have hcap := hs.cap
  have hbnd := hs.bnd
  have HS := (show Hid _ from hs)
  have hz := zero_ch14R
  obtain ⟨W1, hW1⟩ : ∃ W1, W1 = w.alloc (.cells #[.int .u8 0, .int .u8 0, .int .u32 0, .int .u16 0, .int .u16 0, .int .u32 0, .int .u32 0, .int .u32 0, .int .u16 0, .int .u16 0, .slice none 0 0, .slice none 0 0, .slice none 0 0, .slice none 0 0] 29) := ⟨_, rfl⟩
  obtain ⟨W2, hW2⟩ : ∃ W2, W2 = W1.alloc (.cells #[.int .u8 (k : Nat), .int .u8 (f : Nat), .int .u32 0, .int .u16 0, .int .u16 0, .int .u32 0, .int .u32 0, .int .u32 0, .int .u16 0, .int .u16 0, .slice none 0 0, .slice none 0 0, .slice none 0 0, .slice none 0 0] 29) := ⟨_, rfl⟩
  have HU0 : Hid (OnS w W2 [.int .u8 (k : Nat), .int .u8 (f : Nat), .int .u32 0, .int .u16 0, .int .u16 0, .int .u32 0, .int .u32 0, .int .u32 0, .int .u16 0, .int .u16 0, .slice none 0 0, .slice none 0 0, .slice none 0 0, .slice none 0 0]) := OnS.start w W1 W2 _ hW1 hW2
  have HLE := (show Hid _ from fun W => least_any k W)
  have HBA := (show Hid _ from fun W => isBare_any k W)
  clear hs
  have e0 : leastN k = 4 := by unfold leastN; rw [if_neg (by omega), if_neg (by omega), if_neg (by omega), if_pos hb]
  rw [e0] at HLE
  rw [show bareB k = false from decide_eq_false (by omega)] at HBA
  have h2 : ¬ (n : Int) < 4 := by omega
  have h3 : ¬ (4 : Int) < (n : Int) := by omega
  clear e0
  have g0 : ((k : Int) == 0) = false := by simp; omega
  have g1 : ((k : Int) == 1) = false := by simp; omega
  have g2 : ((k : Int) == 2) = false := by simp; omega
  have g3 : ((k : Int) == 3) = false := by simp; omega
  have g7 : ((k : Int) == 7) = true := by simp; omega
  clear hb
  go_enter Tryd.func39, Tryd.ntmps39
  go_wp2_with fail
  rw [← hW1, ← hW2]
  clear hW1 hW2 hz
  refine Calls.mono (HLE.out W2) ?_
  rintro e w3 ⟨rfl, hw3⟩
  replace hw3 := hw3.symm
  subst hw3
  go_wp2_with fail
  refine Calls.mono (HBA.out W2) ?_
  rintro e w3 ⟨rfl, hw3⟩
  replace hw3 := hw3.symm
  subst hw3
  clear HLE HBA
  obtain ⟨n0, hn0⟩ : ∃ n0, n0 = numB ((zs.drop 0).take 4) := ⟨_, rfl⟩
  have HN := (show Hid _ from rnum12 (HS.out.below HU0.out.bel) 0 4 (by omega) (by omega) (by omega) n0 hn0 (.int .i64 0) rfl (.int .i64 4) rfl)
  have HN0 := (show Hid _ from hn0)
  clear hn0
  go_wp2_with fail
  refine Calls.mono HN.out ?_
  clear HN
  rintro e w3 ⟨rfl, hw3⟩
  replace hw3 := hw3.symm
  subst hw3
  have f0 := HU0.out.b8.free 2
  have c0 := HU0.out.b8.cell 2 _ rfl
  have HU1 : Hid (OnS w (W2.setCell ⟨w.heap.size + 1, 2, none⟩ (.int .u32 (n0 : Nat))) [.int .u8 (k : Nat), .int .u8 (f : Nat), .int .u32 (n0 : Nat), .int .u16 0, .int .u16 0, .int .u32 0, .int .u32 0, .int .u32 0, .int .u16 0, .int .u16 0, .slice none 0 0, .slice none 0 0, .slice none 0 0, .slice none 0 0]) := HU0.out.set 2 _
  clear HU0
  obtain ⟨V9, hV9⟩ : ∃ V9, V9 = (W2.setCell ⟨w.heap.size + 1, 2, none⟩ (.int .u32 (n0 : Nat))) := ⟨_, rfl⟩
  rw [← hV9] at HU1
  go_upto_region 41 with fail
  rw [← hV9]
  clear hV9
  obtain ⟨cs, hcs⟩ : ∃ cs : List Value, cs = [.int .u8 (k : Nat), .int .u8 (f : Nat), .int .u32 (n0 : Nat), .int .u16 0, .int .u16 0, .int .u32 0, .int .u32 0, .int .u32 0, .int .u16 0, .int .u16 0, .slice none 0 0, .slice none 0 0, .slice none 0 0, .slice none 0 0] := ⟨_, rfl⟩
  have hcl : cs.length = 14 := by rw [hcs]; rfl
  have hone : ∀ u ∈ cs, u.oneCell' = true := by rw [hcs]; exact one14 (.u8, (k : Nat)) (.u8, (f : Nat)) (.u32, (n0 : Nat)) (.u16, 0) (.u16, 0) (.u32, 0) (.u32, 0) (.u32, 0) (.u16, 0) (.u16, 0) (none, 0, 0) (none, 0, 0) (none, 0, 0) (none, 0, 0)
  have hU := HU1.out
  rw [← hcs] at hU
  have hrg := hU.b8.range
  have hth : V9.there w.heap.size 0 cs.toArray.size := by
    have e : cs.toArray.size = 14 := by simp [hcl]
    rw [e]
    exact hU.b6.there
  have hi14 := ch_size14R cs hcl
  have hi14' : (Tryd.prog.info? 29).map (·.size) = some cs.toArray.size := by rw [List.size_toArray]; exact hi14
  have hput := hU.b6.put cs (by rw [hcl]; rfl)
  have hff := fr_setCellsX w.heap.size cs 0 V9
  have HF : Hid (Stc (V9.setCells w.heap.size 0 cs) w.heap.size cs ∧ Fr (fun k => k = w.heap.size) V9 (V9.setCells w.heap.size 0 cs) ∧ Below w.heap.size w V9) := ⟨hput, hff, hU.bel⟩
  have HCS := (show Hid _ from hcs)
  clear hU hput hff hcs HU1
  go_wp2_with (first | (refine wpList_load_mid rfl 29 _ rfl (w.heap.size + 1) 0 rfl cs _ hrg Tryd.underlying29 rfl hi14 ?_) | (refine wpList_store_mid rfl 29 _ _ rfl w.heap.size 0 cs.toArray rfl rfl hth hi14' (all_oneCell_toArray hone) ?_; change wpList _ _ _ _ _ (V9.setCells w.heap.size 0 cs)) | fail)
  try simp only [Exit.inBlock, Exit.then]
  refine bodyPost_ret (results_cellE2 rfl _ _ w.heap.size 0 cs _ rfl HF.out.1.range Tryd.underlying29 rfl hi14) rfl ?_
  refine ⟨⟨cs, 0, hcl, hone, rfl, ?_, ?_⟩, HF.out.2.2.trans (HF.out.2.1.below _ HF.out.2.2.size (fun k hk => by omega))⟩
  · intro c' e
    injection e with e
    subst e
    refine ⟨rfl, ⟨none, 0, none, 0, none, 0, none, 0, by rw [HCS.out, HN0.out, List.drop_zero]; rfl, OwnG.nil _ _, OwnG.nil _ _, PmO.nil _ _, OwnB.nil _ _⟩⟩
  · intro e' e; cases e
set_option linter.unusedVariables false in
set_option maxRecDepth 100000 in
set_option maxHeartbeats 8000000 in
theorem one_raw {w : World} {b off n c : Nat} {zs : List Nat} (hs : Sl w (some ⟨b, off, none⟩) n c zs) (hn : n ≤ 2000) (k f : Nat) (hk8 : k < 256) (hf8 : f < 256) (hb : ¬ k = 0 ∧ ¬ k = 1 ∧ ¬ k = 2 ∧ ¬ k = 3 ∧ ¬ k = 4 ∧ ¬ k = 5 ∧ ¬ k = 6 ∧ ¬ k = 7 ∧ ¬ k = 8 ∧ ¬ k = 9 ∧ ¬ k = 11 ∧ ¬ k = 14) :
    Calls Tryd.prog 39 #[.int .u8 (k : Nat), .int .u8 (f : Nat), .slice (some ⟨b, off, none⟩) n c] w (OnR w (.ok ⟨k, f, 0, 0, 0, 0, 0, 0, 0, 0, [], [], [], zs⟩)) := by
  have hlz := hs.len
  have hcap := hs.cap
  have hbnd := hs.bnd
  have HS := (show Hid _ from hs)
  have hz := zero_ch14R
  obtain ⟨W1, hW1⟩ : ∃ W1, W1 = w.alloc (.cells #[.int .u8 0, .int .u8 0, .int .u32 0, .int .u16 0, .int .u16 0, .int .u32 0, .int .u32 0, .int .u32 0, .int .u16 0, .int .u16 0, .slice none 0 0, .slice none 0 0, .slice none 0 0, .slice none 0 0] 29) := ⟨_, rfl⟩
  obtain ⟨W2, hW2⟩ : ∃ W2, W2 = W1.alloc (.cells #[.int .u8 (k : Nat), .int .u8 (f : Nat), .int .u32 0, .int .u16 0, .int .u16 0, .int .u32 0, .int .u32 0, .int .u32 0, .int .u16 0, .int .u16 0, .slice none 0 0, .slice none 0 0, .slice none 0 0, .slice none 0 0] 29) := ⟨_, rfl⟩
  have HU0 : Hid (OnS w W2 [.int .u8 (k : Nat), .int .u8 (f : Nat), .int .u32 0, .int .u16 0, .int .u16 0, .int .u32 0, .int .u32 0, .int .u32 0, .int .u16 0, .int .u16 0, .slice none 0 0, .slice none 0 0, .slice none 0 0, .slice none 0 0]) := OnS.start w W1 W2 _ hW1 hW2
  have HLE := (show Hid _ from fun W => least_any k W)
  have HBA := (show Hid _ from fun W => isBare_any k W)
  clear hs
  have e0 : leastN k = 0 := by unfold leastN; rw [if_neg (by omega), if_neg (by omega), if_neg (by omega), if_neg (by omega)]
  rw [e0] at HLE
  rw [show bareB k = false from decide_eq_false (by omega)] at HBA
  have h2 : ¬ (n : Int) < 0 := by omega
  clear e0
  have g0 : ((k : Int) == 0) = false := by simp; omega
  have g1 : ((k : Int) == 1) = false := by simp; omega
  have g2 : ((k : Int) == 2) = false := by simp; omega
  have g3 : ((k : Int) == 3) = false := by simp; omega
  have g7 : ((k : Int) == 7) = false := by simp; omega
  have HD := (show Hid _ from fun W => hasData_any k hk8 W)
  have HP := (show Hid _ from fun W => hasParams_any k hk8 W)
  rw [show hdB12 k = true from decide_eq_true (by omega)] at HD
  rw [show hpB k = false from decide_eq_false (by omega)] at HP
  clear hb
  go_enter Tryd.func39, Tryd.ntmps39
  go_wp2_with fail
  rw [← hW1, ← hW2]
  clear hW1 hW2 hz
  refine Calls.mono (HLE.out W2) ?_
  rintro e w3 ⟨rfl, hw3⟩
  replace hw3 := hw3.symm
  subst hw3
  go_wp2_with fail
  refine Calls.mono (HBA.out W2) ?_
  rintro e w3 ⟨rfl, hw3⟩
  replace hw3 := hw3.symm
  subst hw3
  clear HLE HBA
  go_wp2_with fail
  refine Calls.mono (HP.out W2) ?_
  rintro e w4 ⟨rfl, b4⟩
  have HU1 := (show Hid _ from HU0.out.below b4)
  clear HU0 b4
  go_wp2_with fail
  refine Calls.mono (HD.out w4) ?_
  rintro e w5 ⟨rfl, b5⟩
  have HU2 := (show Hid _ from HU1.out.below b5)
  clear HU1 b5 HD HP
  have HAL : Hid (OnS w (w5.alloc (.cells #[] 5)) [.int .u8 (k : Nat), .int .u8 (f : Nat), .int .u32 0, .int .u16 0, .int .u16 0, .int .u32 0, .int .u32 0, .int .u32 0, .int .u16 0, .int .u16 0, .slice none 0 0, .slice none 0 0, .slice none 0 0, .slice none 0 0]) := HU2.out.below ((Below.refl _ _).alloc (Nat.le_refl _) _)
  have hsl := HS.out.below HAL.out.bel
  have hvl : w.heap.size + 1 < w5.heap.size := HU2.out.b8.lt
  go_wp2_with (at_builtin; go_must (refine app_list2 rfl _ _ rfl _ _ 0 0 [] rfl (own_empty _) _ n c zs rfl hsl (by omega) (by simp) ?_))
  intro aX cX wX hoX hgX hpX
  have hfX : Fr (fun g => (Value.slice (some ⟨(w5).heap.size, 0, none⟩) 0 0).ownBlock = some g) (w5.alloc (.cells #[] 5)) wX := Fr.grown hgX (fun k hk => hk)
  have HUX := (show Hid _ from HAL.out.fr hfX (fun g hg => by have e9 : (w5).heap.size = g := Option.some.inj hg; omega))
  try simp only [Nat.zero_add, List.nil_append] at hoX
  have f13 := HUX.out.b8.free 13
  have c13 := HUX.out.b8.cell 13 _ rfl
  have HUY : Hid (OnS w (wX.setCell ⟨w.heap.size + 1, 13, none⟩ (.slice aX n cX)) [.int .u8 (k : Nat), .int .u8 (f : Nat), .int .u32 0, .int .u16 0, .int .u16 0, .int .u32 0, .int .u32 0, .int .u32 0, .int .u16 0, .int .u16 0, .slice none 0 0, .slice none 0 0, .slice none 0 0, .slice aX n cX]) := HUX.out.set 13 _
  have hoY : OwnB (wX.setCell ⟨w.heap.size + 1, 13, none⟩ (.slice aX n cX)) (w5).heap.size aX n cX zs := hoX.fr (Fr.setCell (fun g => g = w.heap.size + 1) wX ⟨w.heap.size + 1, 13, none⟩ (.slice aX n cX) rfl) (fun g hg _ e => by have : g = w.heap.size + 1 := e; omega)
  have HOY := (show Hid _ from And.intro hoY hvl)
  clear hfX hoX hgX hpX hoY hvl hsl HAL HU2 HUX
  obtain ⟨V9, hV9⟩ : ∃ V9, V9 = (wX.setCell ⟨w.heap.size + 1, 13, none⟩ (.slice aX n cX)) := ⟨_, rfl⟩
  rw [← hV9] at HUY HOY
  go_upto_region 41 with fail
  rw [← hV9]
  clear hV9
  obtain ⟨cs, hcs⟩ : ∃ cs : List Value, cs = [.int .u8 (k : Nat), .int .u8 (f : Nat), .int .u32 0, .int .u16 0, .int .u16 0, .int .u32 0, .int .u32 0, .int .u32 0, .int .u16 0, .int .u16 0, .slice none 0 0, .slice none 0 0, .slice none 0 0, .slice aX n cX] := ⟨_, rfl⟩
  have hcl : cs.length = 14 := by rw [hcs]; rfl
  have hone : ∀ u ∈ cs, u.oneCell' = true := by rw [hcs]; exact one14 (.u8, (k : Nat)) (.u8, (f : Nat)) (.u32, 0) (.u16, 0) (.u16, 0) (.u32, 0) (.u32, 0) (.u32, 0) (.u16, 0) (.u16, 0) (none, 0, 0) (none, 0, 0) (none, 0, 0) (aX, n, cX)
  have hU := HUY.out
  rw [← hcs] at hU
  have hrg := hU.b8.range
  have hth : V9.there w.heap.size 0 cs.toArray.size := by
    have e : cs.toArray.size = 14 := by simp [hcl]
    rw [e]
    exact hU.b6.there
  have hi14 := ch_size14R cs hcl
  have hi14' : (Tryd.prog.info? 29).map (·.size) = some cs.toArray.size := by rw [List.size_toArray]; exact hi14
  have hput := hU.b6.put cs (by rw [hcl]; rfl)
  have hff := fr_setCellsX w.heap.size cs 0 V9
  have HF : Hid (Stc (V9.setCells w.heap.size 0 cs) w.heap.size cs ∧ Fr (fun k => k = w.heap.size) V9 (V9.setCells w.heap.size 0 cs) ∧ Below w.heap.size w V9) := ⟨hput, hff, hU.bel⟩
  have HCS := (show Hid _ from hcs)
  clear hU hput hff hcs HUY
  go_wp2_with (first | (refine wpList_load_mid rfl 29 _ rfl (w.heap.size + 1) 0 rfl cs _ hrg Tryd.underlying29 rfl hi14 ?_) | (refine wpList_store_mid rfl 29 _ _ rfl w.heap.size 0 cs.toArray rfl rfl hth hi14' (all_oneCell_toArray hone) ?_; change wpList _ _ _ _ _ (V9.setCells w.heap.size 0 cs)) | fail)
  try simp only [Exit.inBlock, Exit.then]
  refine bodyPost_ret (results_cellE2 rfl _ _ w.heap.size 0 cs _ rfl HF.out.1.range Tryd.underlying29 rfl hi14) rfl ?_
  refine ⟨⟨cs, 0, hcl, hone, rfl, ?_, ?_⟩, HF.out.2.2.trans (HF.out.2.1.below _ HF.out.2.2.size (fun k hk => by omega))⟩
  · intro c' e
    injection e with e
    subst e
    have hoF := HOY.out.1.fr HF.out.2.1 (fun g hg _ e => by have : g = w.heap.size := e; have := HOY.out.2; omega)
    refine ⟨rfl, ⟨none, 0, none, 0, none, 0, aX, cX, by rw [HCS.out, ← hlz]; rfl, OwnG.nil _ _, OwnG.nil _ _, PmO.nil _ _, ?_⟩⟩
    have := hoF.base (B' := w.heap.size) (by have := HOY.out.2; omega)
    have e9 : OwnB (V9.setCells w.heap.size 0 cs) w.heap.size aX zs.length cX zs := by rw [hlz]; exact this
    exact e9
  · intro e' e; cases e
set_option linter.unusedVariables false in
set_option maxRecDepth 100000 in
set_option maxHeartbeats 8000000 in
theorem one_data {w : World} {b off n c : Nat} {zs : List Nat} (hs : Sl w (some ⟨b, off, none⟩) n c zs) (hn : n ≤ 2000) (k f : Nat) (hk8 : k < 256) (hf8 : f < 256) (hb : k = 0) (h : 13 ≤ n) :
    Calls Tryd.prog 39 #[.int .u8 (k : Nat), .int .u8 (f : Nat), .slice (some ⟨b, off, none⟩) n c] w (OnR w (.ok ⟨k, f, numB (zs.take 4), numB ((zs.drop 4).take 2), numB ((zs.drop 6).take 2), numB ((zs.drop 8).take 4), 0, 0, 0, 0, [], [], [], zs.drop 12⟩)) := by
  have hlz := hs.len
  have hcap := hs.cap
  have hbnd := hs.bnd
  have HS := (show Hid _ from hs)
  have hz := zero_ch14R
  obtain ⟨W1, hW1⟩ : ∃ W1, W1 = w.alloc (.cells #[.int .u8 0, .int .u8 0, .int .u32 0, .int .u16 0, .int .u16 0, .int .u32 0, .int .u32 0, .int .u32 0, .int .u16 0, .int .u16 0, .slice none 0 0, .slice none 0 0, .slice none 0 0, .slice none 0 0] 29) := ⟨_, rfl⟩
  obtain ⟨W2, hW2⟩ : ∃ W2, W2 = W1.alloc (.cells #[.int .u8 (k : Nat), .int .u8 (f : Nat), .int .u32 0, .int .u16 0, .int .u16 0, .int .u32 0, .int .u32 0, .int .u32 0, .int .u16 0, .int .u16 0, .slice none 0 0, .slice none 0 0, .slice none 0 0, .slice none 0 0] 29) := ⟨_, rfl⟩
  have HU0 : Hid (OnS w W2 [.int .u8 (k : Nat), .int .u8 (f : Nat), .int .u32 0, .int .u16 0, .int .u16 0, .int .u32 0, .int .u32 0, .int .u32 0, .int .u16 0, .int .u16 0, .slice none 0 0, .slice none 0 0, .slice none 0 0, .slice none 0 0]) := OnS.start w W1 W2 _ hW1 hW2
  have HLE := (show Hid _ from fun W => least_any k W)
  have HBA := (show Hid _ from fun W => isBare_any k W)
  clear hs
  have e0 : leastN k = 13 := by unfold leastN; rw [if_pos hb]
  rw [e0] at HLE
  rw [show bareB k = false from decide_eq_false (by omega)] at HBA
  have h2 : ¬ (n : Int) < 13 := by omega
  clear e0
  have g0 : ((k : Int) == 0) = true := by simp; omega
  have g1 : ((k : Int) == 1) = false := by simp; omega
  have g2 : ((k : Int) == 2) = false := by simp; omega
  have g3 : ((k : Int) == 3) = false := by simp; omega
  have g7 : ((k : Int) == 7) = false := by simp; omega
  obtain ⟨o12, hsl12, ho12⟩ := slice_fromR b off n c 12 (by omega) hcap
  obtain ⟨m12, hm12⟩ : ∃ m, m = n - 12 := ⟨_, rfl⟩
  obtain ⟨c12, hc12⟩ : ∃ m, m = c - 12 := ⟨_, rfl⟩
  have HSD : Hid (∀ V, Below w.heap.size w V → Sl V (some ⟨b, o12, none⟩) m12 c12 (zs.drop 12)) := fun V hV => by rw [hm12, hc12]; exact (HS.out.below hV).dropR 12 o12 (by omega) ho12
  rw [← hm12, ← hc12] at hsl12
  replace hsl12 : ∀ w, (Instr.slice 27 (.slice (some ⟨b, off, none⟩) n c) (some (.int .i64 12)) none none).run Tryd.prog w = .ok (.slice (some ⟨b, o12, none⟩) m12 c12) w := hsl12
  have hmb : m12 ≤ 2000 := by omega
  have HM := (show Hid _ from hm12)
  clear hb ho12 hm12 hc12
  go_enter Tryd.func39, Tryd.ntmps39
  go_wp2_with fail
  rw [← hW1, ← hW2]
  clear hW1 hW2 hz
  refine Calls.mono (HLE.out W2) ?_
  rintro e w3 ⟨rfl, hw3⟩
  replace hw3 := hw3.symm
  subst hw3
  go_wp2_with fail
  refine Calls.mono (HBA.out W2) ?_
  rintro e w3 ⟨rfl, hw3⟩
  replace hw3 := hw3.symm
  subst hw3
  clear HLE HBA
  obtain ⟨n0, hn0⟩ : ∃ n0, n0 = numB ((zs.drop 0).take 4) := ⟨_, rfl⟩
  have HN := (show Hid _ from rnum12 (HS.out.below HU0.out.bel) 0 4 (by omega) (by omega) (by omega) n0 hn0 (.int .i64 0) rfl (.int .i64 4) rfl)
  have HN0 := (show Hid _ from hn0)
  clear hn0
  go_wp2_with fail
  refine Calls.mono HN.out ?_
  clear HN
  rintro e w3 ⟨rfl, hw3⟩
  replace hw3 := hw3.symm
  subst hw3
  have f0 := HU0.out.b8.free 2
  have c0 := HU0.out.b8.cell 2 _ rfl
  obtain ⟨V1, hV1⟩ : ∃ V, V = W2.setCell ⟨w.heap.size + 1, 2, none⟩ (.int .u32 (n0 : Nat)) := ⟨_, rfl⟩
  have HU1 : Hid (OnS w V1 [.int .u8 (k : Nat), .int .u8 (f : Nat), .int .u32 (n0 : Nat), .int .u16 0, .int .u16 0, .int .u32 0, .int .u32 0, .int .u32 0, .int .u16 0, .int .u16 0, .slice none 0 0, .slice none 0 0, .slice none 0 0, .slice none 0 0]) := by rw [hV1]; exact HU0.out.set 2 _
  clear HU0
  obtain ⟨n1, hn1⟩ : ∃ n1, n1 = numB ((zs.drop 4).take 2) := ⟨_, rfl⟩
  have HN := (show Hid _ from rnum12 (HS.out.below HU1.out.bel) 4 2 (by omega) (by omega) (by omega) n1 hn1 (.int .i64 4) rfl (.int .i64 2) rfl)
  have HN1 := (show Hid _ from hn1)
  have hw1x : IntKind.u16.wrap ((n1 : Nat) : Int) = n1 := by have := numB_take (drop_bnd hbnd 4) 2 (by rw [List.length_drop]; omega); rw [IntKind.wrap_u16]; omega
  clear hn1
  go_wp2_with fail
  rw [← hV1]
  clear hV1 f0 c0
  refine Calls.mono HN.out ?_
  clear HN
  rintro e w3 ⟨rfl, hw3⟩
  replace hw3 := hw3.symm
  subst hw3
  have f0 := HU1.out.b8.free 3
  have c0 := HU1.out.b8.cell 3 _ rfl
  obtain ⟨V2, hV2⟩ : ∃ V, V = V1.setCell ⟨w.heap.size + 1, 3, none⟩ (.int .u16 (n1 : Nat)) := ⟨_, rfl⟩
  have HU2 : Hid (OnS w V2 [.int .u8 (k : Nat), .int .u8 (f : Nat), .int .u32 (n0 : Nat), .int .u16 (n1 : Nat), .int .u16 0, .int .u32 0, .int .u32 0, .int .u32 0, .int .u16 0, .int .u16 0, .slice none 0 0, .slice none 0 0, .slice none 0 0, .slice none 0 0]) := by rw [hV2]; exact HU1.out.set 3 _
  clear HU1
  obtain ⟨n2, hn2⟩ : ∃ n2, n2 = numB ((zs.drop 6).take 2) := ⟨_, rfl⟩
  have HN := (show Hid _ from rnum12 (HS.out.below HU2.out.bel) 6 2 (by omega) (by omega) (by omega) n2 hn2 (.int .i64 6) rfl (.int .i64 2) rfl)
  have HN2 := (show Hid _ from hn2)
  have hw2x : IntKind.u16.wrap ((n2 : Nat) : Int) = n2 := by have := numB_take (drop_bnd hbnd 6) 2 (by rw [List.length_drop]; omega); rw [IntKind.wrap_u16]; omega
  clear hn2
  go_wp2_with fail
  rw [← hV2]
  clear hV2 f0 c0
  refine Calls.mono HN.out ?_
  clear HN
  rintro e w3 ⟨rfl, hw3⟩
  replace hw3 := hw3.symm
  subst hw3
  have f0 := HU2.out.b8.free 4
  have c0 := HU2.out.b8.cell 4 _ rfl
  obtain ⟨V3, hV3⟩ : ∃ V, V = V2.setCell ⟨w.heap.size + 1, 4, none⟩ (.int .u16 (n2 : Nat)) := ⟨_, rfl⟩
  have HU3 : Hid (OnS w V3 [.int .u8 (k : Nat), .int .u8 (f : Nat), .int .u32 (n0 : Nat), .int .u16 (n1 : Nat), .int .u16 (n2 : Nat), .int .u32 0, .int .u32 0, .int .u32 0, .int .u16 0, .int .u16 0, .slice none 0 0, .slice none 0 0, .slice none 0 0, .slice none 0 0]) := by rw [hV3]; exact HU2.out.set 4 _
  clear HU2
  obtain ⟨n3, hn3⟩ : ∃ n3, n3 = numB ((zs.drop 8).take 4) := ⟨_, rfl⟩
  have HN := (show Hid _ from rnum12 (HS.out.below HU3.out.bel) 8 4 (by omega) (by omega) (by omega) n3 hn3 (.int .i64 8) rfl (.int .i64 4) rfl)
  have HN3 := (show Hid _ from hn3)
  clear hn3
  go_wp2_with fail
  rw [← hV3]
  clear hV3 f0 c0
  refine Calls.mono HN.out ?_
  clear HN
  rintro e w3 ⟨rfl, hw3⟩
  replace hw3 := hw3.symm
  subst hw3
  have f0 := HU3.out.b8.free 5
  have c0 := HU3.out.b8.cell 5 _ rfl
  obtain ⟨V4, hV4⟩ : ∃ V, V = V3.setCell ⟨w.heap.size + 1, 5, none⟩ (.int .u32 (n3 : Nat)) := ⟨_, rfl⟩
  have HU4 : Hid (OnS w V4 [.int .u8 (k : Nat), .int .u8 (f : Nat), .int .u32 (n0 : Nat), .int .u16 (n1 : Nat), .int .u16 (n2 : Nat), .int .u32 (n3 : Nat), .int .u32 0, .int .u32 0, .int .u16 0, .int .u16 0, .slice none 0 0, .slice none 0 0, .slice none 0 0, .slice none 0 0]) := by rw [hV4]; exact HU3.out.set 5 _
  clear HU3
  go_upto_region 10 with fail
  rw [← hV4]
  clear hV4 f0 c0
  have HAL : Hid (OnS w (V4.alloc (.cells #[] 5)) [.int .u8 (k : Nat), .int .u8 (f : Nat), .int .u32 (n0 : Nat), .int .u16 (n1 : Nat), .int .u16 (n2 : Nat), .int .u32 (n3 : Nat), .int .u32 0, .int .u32 0, .int .u16 0, .int .u16 0, .slice none 0 0, .slice none 0 0, .slice none 0 0, .slice none 0 0]) := HU4.out.below ((Below.refl _ _).alloc (Nat.le_refl _) _)
  have hsl := HSD.out _ HAL.out.bel
  have hvl : w.heap.size + 1 < V4.heap.size := HU4.out.b8.lt
  go_wp2_with (at_builtin; go_must (refine app_list2 rfl _ _ rfl _ _ 0 0 [] rfl (own_empty _) _ m12 c12 (zs.drop 12) rfl hsl (by omega) (by simp) ?_))
  intro aX cX wX hoX hgX hpX
  have hfX : Fr (fun g => (Value.slice (some ⟨(V4).heap.size, 0, none⟩) 0 0).ownBlock = some g) (V4.alloc (.cells #[] 5)) wX := Fr.grown hgX (fun k hk => hk)
  have HUX := (show Hid _ from HAL.out.fr hfX (fun g hg => by have e9 : (V4).heap.size = g := Option.some.inj hg; omega))
  try simp only [Nat.zero_add, List.nil_append] at hoX
  have f13 := HUX.out.b8.free 13
  have c13 := HUX.out.b8.cell 13 _ rfl
  have HUY : Hid (OnS w (wX.setCell ⟨w.heap.size + 1, 13, none⟩ (.slice aX m12 cX)) [.int .u8 (k : Nat), .int .u8 (f : Nat), .int .u32 (n0 : Nat), .int .u16 (n1 : Nat), .int .u16 (n2 : Nat), .int .u32 (n3 : Nat), .int .u32 0, .int .u32 0, .int .u16 0, .int .u16 0, .slice none 0 0, .slice none 0 0, .slice none 0 0, .slice aX m12 cX]) := HUX.out.set 13 _
  have hoY : OwnB (wX.setCell ⟨w.heap.size + 1, 13, none⟩ (.slice aX m12 cX)) (V4).heap.size aX m12 cX (zs.drop 12) := hoX.fr (Fr.setCell (fun g => g = w.heap.size + 1) wX ⟨w.heap.size + 1, 13, none⟩ (.slice aX m12 cX) rfl) (fun g hg _ e => by have : g = w.heap.size + 1 := e; omega)
  have HOY := (show Hid _ from And.intro hoY hvl)
  clear hfX hoX hgX hpX hoY hvl hsl HAL HU4 HUX
  obtain ⟨V9, hV9⟩ : ∃ V9, V9 = (wX.setCell ⟨w.heap.size + 1, 13, none⟩ (.slice aX m12 cX)) := ⟨_, rfl⟩
  rw [← hV9] at HUY HOY
  go_upto_region 41 with fail
  rw [← hV9]
  clear hV9
  have HL12 : Hid ((zs.drop 12).length = m12) := by show _ = _; rw [List.length_drop, hlz, HM.out]
  obtain ⟨cs, hcs⟩ : ∃ cs : List Value, cs = [.int .u8 (k : Nat), .int .u8 (f : Nat), .int .u32 (n0 : Nat), .int .u16 (n1 : Nat), .int .u16 (n2 : Nat), .int .u32 (n3 : Nat), .int .u32 0, .int .u32 0, .int .u16 0, .int .u16 0, .slice none 0 0, .slice none 0 0, .slice none 0 0, .slice aX m12 cX] := ⟨_, rfl⟩
  have hcl : cs.length = 14 := by rw [hcs]; rfl
  have hone : ∀ u ∈ cs, u.oneCell' = true := by rw [hcs]; exact one14 (.u8, (k : Nat)) (.u8, (f : Nat)) (.u32, (n0 : Nat)) (.u16, (n1 : Nat)) (.u16, (n2 : Nat)) (.u32, (n3 : Nat)) (.u32, 0) (.u32, 0) (.u16, 0) (.u16, 0) (none, 0, 0) (none, 0, 0) (none, 0, 0) (aX, m12, cX)
  have hU := HUY.out
  rw [← hcs] at hU
  have hrg := hU.b8.range
  have hth : V9.there w.heap.size 0 cs.toArray.size := by
    have e : cs.toArray.size = 14 := by simp [hcl]
    rw [e]
    exact hU.b6.there
  have hi14 := ch_size14R cs hcl
  have hi14' : (Tryd.prog.info? 29).map (·.size) = some cs.toArray.size := by rw [List.size_toArray]; exact hi14
  have hput := hU.b6.put cs (by rw [hcl]; rfl)
  have hff := fr_setCellsX w.heap.size cs 0 V9
  have HF : Hid (Stc (V9.setCells w.heap.size 0 cs) w.heap.size cs ∧ Fr (fun k => k = w.heap.size) V9 (V9.setCells w.heap.size 0 cs) ∧ Below w.heap.size w V9) := ⟨hput, hff, hU.bel⟩
  have HCS := (show Hid _ from hcs)
  clear hU hput hff hcs HUY
  go_wp2_with (first | (refine wpList_load_mid rfl 29 _ rfl (w.heap.size + 1) 0 rfl cs _ hrg Tryd.underlying29 rfl hi14 ?_) | (refine wpList_store_mid rfl 29 _ _ rfl w.heap.size 0 cs.toArray rfl rfl hth hi14' (all_oneCell_toArray hone) ?_; change wpList _ _ _ _ _ (V9.setCells w.heap.size 0 cs)) | fail)
  try simp only [Exit.inBlock, Exit.then]
  refine bodyPost_ret (results_cellE2 rfl _ _ w.heap.size 0 cs _ rfl HF.out.1.range Tryd.underlying29 rfl hi14) rfl ?_
  refine ⟨⟨cs, 0, hcl, hone, rfl, ?_, ?_⟩, HF.out.2.2.trans (HF.out.2.1.below _ HF.out.2.2.size (fun k hk => by omega))⟩
  · intro c' e
    injection e with e
    subst e
    have hoF := HOY.out.1.fr HF.out.2.1 (fun g hg _ e => by have : g = w.heap.size := e; have := HOY.out.2; omega)
    refine ⟨rfl, ⟨none, 0, none, 0, none, 0, aX, cX, by rw [HCS.out, HN0.out, HN1.out, HN2.out, HN3.out, List.drop_zero, ← HL12.out]; rfl, OwnG.nil _ _, OwnG.nil _ _, PmO.nil _ _, ?_⟩⟩
    have := hoF.base (B' := w.heap.size) (by have := HOY.out.2; omega)
    rw [HL12.out]
    exact this
  · intro e' e; cases e
set_option linter.unusedVariables false in
set_option maxRecDepth 100000 in
set_option maxHeartbeats 8000000 in
theorem one_prms {w : World} {b off n c : Nat} {zs : List Nat} (hs : Sl w (some ⟨b, off, none⟩) n c zs) (hn : n ≤ 2000) (k f : Nat) (hk8 : k < 256) (hf8 : f < 256) (hb : k = 4 ∨ k = 5 ∨ k = 6 ∨ k = 9) :
    Calls Tryd.prog 39 #[.int .u8 (k : Nat), .int .u8 (f : Nat), .slice (some ⟨b, off, none⟩) n c] w (OnR w (match parP (zs.length + 1) 0 zs with | .error e => .error e | .ok ps => .ok ⟨k, f, 0, 0, 0, 0, 0, 0, 0, 0, [], [], ps, []⟩)) := by
  have hlz := hs.len
  have hcap := hs.cap
  have hbnd := hs.bnd
  have HS := (show Hid _ from hs)
  have hz := zero_ch14R
  obtain ⟨W1, hW1⟩ : ∃ W1, W1 = w.alloc (.cells #[.int .u8 0, .int .u8 0, .int .u32 0, .int .u16 0, .int .u16 0, .int .u32 0, .int .u32 0, .int .u32 0, .int .u16 0, .int .u16 0, .slice none 0 0, .slice none 0 0, .slice none 0 0, .slice none 0 0] 29) := ⟨_, rfl⟩
  obtain ⟨W2, hW2⟩ : ∃ W2, W2 = W1.alloc (.cells #[.int .u8 (k : Nat), .int .u8 (f : Nat), .int .u32 0, .int .u16 0, .int .u16 0, .int .u32 0, .int .u32 0, .int .u32 0, .int .u16 0, .int .u16 0, .slice none 0 0, .slice none 0 0, .slice none 0 0, .slice none 0 0] 29) := ⟨_, rfl⟩
  have HU0 : Hid (OnS w W2 [.int .u8 (k : Nat), .int .u8 (f : Nat), .int .u32 0, .int .u16 0, .int .u16 0, .int .u32 0, .int .u32 0, .int .u32 0, .int .u16 0, .int .u16 0, .slice none 0 0, .slice none 0 0, .slice none 0 0, .slice none 0 0]) := OnS.start w W1 W2 _ hW1 hW2
  have HLE := (show Hid _ from fun W => least_any k W)
  have HBA := (show Hid _ from fun W => isBare_any k W)
  clear hs
  have e0 : leastN k = 0 := by unfold leastN; rw [if_neg (by omega), if_neg (by omega), if_neg (by omega), if_neg (by omega)]
  rw [e0] at HLE
  rw [show bareB k = false from decide_eq_false (by omega)] at HBA
  have h2 : ¬ (n : Int) < 0 := by omega
  clear e0
  have g0 : ((k : Int) == 0) = false := by simp; omega
  have g1 : ((k : Int) == 1) = false := by simp; omega
  have g2 : ((k : Int) == 2) = false := by simp; omega
  have g3 : ((k : Int) == 3) = false := by simp; omega
  have g7 : ((k : Int) == 7) = false := by simp; omega
  have HP := (show Hid _ from fun W => hasParams_any k hk8 W)
  rw [show hpB k = true from decide_eq_true (by omega)] at HP
  obtain ⟨r, hr⟩ : ∃ r, r = parP (zs.length + 1) 0 zs := ⟨_, rfl⟩
  have HPR : Hid (∀ V, Below w.heap.size w V → Calls Tryd.prog 60 #[.slice (some ⟨b, off, none⟩) n c] V (RpR V r)) := fun V hV => by rw [hr]; exact rparR (HS.out.below hV) hn
  rw [← hr]
  clear hb hr
  go_enter Tryd.func39, Tryd.ntmps39
  go_wp2_with fail
  rw [← hW1, ← hW2]
  clear hW1 hW2 hz
  refine Calls.mono (HLE.out W2) ?_
  rintro e w3 ⟨rfl, hw3⟩
  replace hw3 := hw3.symm
  subst hw3
  go_wp2_with fail
  refine Calls.mono (HBA.out W2) ?_
  rintro e w3 ⟨rfl, hw3⟩
  replace hw3 := hw3.symm
  subst hw3
  clear HLE HBA
  go_wp2_with fail
  refine Calls.mono (HP.out W2) ?_
  rintro e w3 ⟨rfl, b3⟩
  have HU1 := (show Hid _ from HU0.out.below b3)
  clear HU0 b3 HP
  go_wp2_with fail
  refine Calls.mono (HPR.out w3 HU1.out.bel) ?_
  clear HPR
  rintro e w4 hR
  have HUP := (show Hid _ from HU1.out.below hR.bel)
  cases r with
  | error er =>
    have he := hR.no er rfl
    subst he
    have f0 := HUP.out.b8.free 12
    have c0 := HUP.out.b8.cell 12 _ rfl
    have HUQ : Hid (OnS w (w4.setCell ⟨w.heap.size + 1, 12, none⟩ (.slice none 0 0)) [.int .u8 (k : Nat), .int .u8 (f : Nat), .int .u32 0, .int .u16 0, .int .u16 0, .int .u32 0, .int .u32 0, .int .u32 0, .int .u16 0, .int .u16 0, .slice none 0 0, .slice none 0 0, .slice none 0 0, .slice none 0 0]) := HUP.out.set 12 _
    clear hR HU1 HUP
    obtain ⟨V9, hV9⟩ : ∃ V9, V9 = (w4.setCell ⟨w.heap.size + 1, 12, none⟩ (.slice none 0 0)) := ⟨_, rfl⟩
    rw [← hV9] at HUQ
    go_upto_region 41 with fail
    rw [← hV9]
    clear hV9
    obtain ⟨cs, hcs⟩ : ∃ cs : List Value, cs = [.int .u8 (k : Nat), .int .u8 (f : Nat), .int .u32 0, .int .u16 0, .int .u16 0, .int .u32 0, .int .u32 0, .int .u32 0, .int .u16 0, .int .u16 0, .slice none 0 0, .slice none 0 0, .slice none 0 0, .slice none 0 0] := ⟨_, rfl⟩
    have hcl : cs.length = 14 := by rw [hcs]; rfl
    have hone : ∀ u ∈ cs, u.oneCell' = true := by rw [hcs]; exact one14 (.u8, (k : Nat)) (.u8, (f : Nat)) (.u32, 0) (.u16, 0) (.u16, 0) (.u32, 0) (.u32, 0) (.u32, 0) (.u16, 0) (.u16, 0) (none, 0, 0) (none, 0, 0) (none, 0, 0) (none, 0, 0)
    have hU := HUQ.out
    rw [← hcs] at hU
    have hrg := hU.b8.range
    have hth : V9.there w.heap.size 0 cs.toArray.size := by
      have e : cs.toArray.size = 14 := by simp [hcl]
      rw [e]
      exact hU.b6.there
    have hi14 := ch_size14R cs hcl
    have hi14' : (Tryd.prog.info? 29).map (·.size) = some cs.toArray.size := by rw [List.size_toArray]; exact hi14
    have hput := hU.b6.put cs (by rw [hcl]; rfl)
    have hff := fr_setCellsX w.heap.size cs 0 V9
    have HF : Hid (Stc (V9.setCells w.heap.size 0 cs) w.heap.size cs ∧ Fr (fun k => k = w.heap.size) V9 (V9.setCells w.heap.size 0 cs) ∧ Below w.heap.size w V9) := ⟨hput, hff, hU.bel⟩
    have HCS := (show Hid _ from hcs)
    clear hU hput hff hcs HUQ
    go_wp2_with (first | (refine wpList_load_mid rfl 29 _ rfl (w.heap.size + 1) 0 rfl cs _ hrg Tryd.underlying29 rfl hi14 ?_) | (refine wpList_store_mid rfl 29 _ _ rfl w.heap.size 0 cs.toArray rfl rfl hth hi14' (all_oneCell_toArray hone) ?_; change wpList _ _ _ _ _ (V9.setCells w.heap.size 0 cs)) | fail)
    try simp only [Exit.inBlock, Exit.then]
    refine bodyPost_ret (results_cellE2 rfl _ _ w.heap.size 0 cs _ rfl HF.out.1.range Tryd.underlying29 rfl hi14) rfl ?_
    refine ⟨⟨cs, er, hcl, hone, rfl, ?_, ?_⟩, HF.out.2.2.trans (HF.out.2.1.below _ HF.out.2.2.size (fun k hk => by omega))⟩
    · intro c' e; cases e
    · intro e' e; injection e with e
  | ok ps =>
    obtain ⟨xa, xc, he, hpo⟩ := hR.ok ps rfl
    subst he
    obtain ⟨pl, hpl⟩ : ∃ pl, pl = ps.length := ⟨_, rfl⟩
    have HPL := (show Hid _ from hpl)
    rw [← hpl] at hpo ⊢
    have f0 := HUP.out.b8.free 12
    have c0 := HUP.out.b8.cell 12 _ rfl
    have HUQ : Hid (OnS w (w4.setCell ⟨w.heap.size + 1, 12, none⟩ (.slice xa pl xc)) [.int .u8 (k : Nat), .int .u8 (f : Nat), .int .u32 0, .int .u16 0, .int .u16 0, .int .u32 0, .int .u32 0, .int .u32 0, .int .u16 0, .int .u16 0, .slice none 0 0, .slice none 0 0, .slice xa pl xc, .slice none 0 0]) := HUP.out.set 12 _
    have hvl : w.heap.size + 1 < w3.heap.size := HU1.out.b8.lt
    have HPO : Hid (PmO (w4.setCell ⟨w.heap.size + 1, 12, none⟩ (.slice xa pl xc)) w3.heap.size xa pl xc ps ∧ w.heap.size + 1 < w3.heap.size) := ⟨hpo.fr (Fr.setCell (fun g => g = w.heap.size + 1) w4 ⟨w.heap.size + 1, 12, none⟩ (.slice xa pl xc) rfl) (fun g hg _ e => by have : g = w.heap.size + 1 := e; omega), hvl⟩
    clear hR HU1 HUP hpo hpl hvl
    obtain ⟨V9, hV9⟩ : ∃ V9, V9 = (w4.setCell ⟨w.heap.size + 1, 12, none⟩ (.slice xa pl xc)) := ⟨_, rfl⟩
    rw [← hV9] at HUQ HPO
    go_upto_region 41 with fail
    rw [← hV9]
    clear hV9
    obtain ⟨cs, hcs⟩ : ∃ cs : List Value, cs = [.int .u8 (k : Nat), .int .u8 (f : Nat), .int .u32 0, .int .u16 0, .int .u16 0, .int .u32 0, .int .u32 0, .int .u32 0, .int .u16 0, .int .u16 0, .slice none 0 0, .slice none 0 0, .slice xa pl xc, .slice none 0 0] := ⟨_, rfl⟩
    have hcl : cs.length = 14 := by rw [hcs]; rfl
    have hone : ∀ u ∈ cs, u.oneCell' = true := by rw [hcs]; exact one14 (.u8, (k : Nat)) (.u8, (f : Nat)) (.u32, 0) (.u16, 0) (.u16, 0) (.u32, 0) (.u32, 0) (.u32, 0) (.u16, 0) (.u16, 0) (none, 0, 0) (none, 0, 0) (xa, pl, xc) (none, 0, 0)
    have hU := HUQ.out
    rw [← hcs] at hU
    have hrg := hU.b8.range
    have hth : V9.there w.heap.size 0 cs.toArray.size := by
      have e : cs.toArray.size = 14 := by simp [hcl]
      rw [e]
      exact hU.b6.there
    have hi14 := ch_size14R cs hcl
    have hi14' : (Tryd.prog.info? 29).map (·.size) = some cs.toArray.size := by rw [List.size_toArray]; exact hi14
    have hput := hU.b6.put cs (by rw [hcl]; rfl)
    have hff := fr_setCellsX w.heap.size cs 0 V9
    have HF : Hid (Stc (V9.setCells w.heap.size 0 cs) w.heap.size cs ∧ Fr (fun k => k = w.heap.size) V9 (V9.setCells w.heap.size 0 cs) ∧ Below w.heap.size w V9) := ⟨hput, hff, hU.bel⟩
    have HCS := (show Hid _ from hcs)
    clear hU hput hff hcs HUQ
    go_wp2_with (first | (refine wpList_load_mid rfl 29 _ rfl (w.heap.size + 1) 0 rfl cs _ hrg Tryd.underlying29 rfl hi14 ?_) | (refine wpList_store_mid rfl 29 _ _ rfl w.heap.size 0 cs.toArray rfl rfl hth hi14' (all_oneCell_toArray hone) ?_; change wpList _ _ _ _ _ (V9.setCells w.heap.size 0 cs)) | fail)
    try simp only [Exit.inBlock, Exit.then]
    refine bodyPost_ret (results_cellE2 rfl _ _ w.heap.size 0 cs _ rfl HF.out.1.range Tryd.underlying29 rfl hi14) rfl ?_
    refine ⟨⟨cs, 0, hcl, hone, rfl, ?_, ?_⟩, HF.out.2.2.trans (HF.out.2.1.below _ HF.out.2.2.size (fun k hk => by omega))⟩
    · intro c' e
      injection e with e
      subst e
      have hpf := HPO.out.1.fr HF.out.2.1 (fun g hg _ e => by have : g = w.heap.size := e; have := HPO.out.2; omega)
      have hpb := hpf.base (B' := w.heap.size) (by have := HPO.out.2; omega)
      rw [HPL.out] at hpb
      refine ⟨rfl, ⟨none, 0, none, 0, xa, xc, none, 0, ?_, OwnG.nil _ _, OwnG.nil _ _, hpb, OwnB.nil _ _⟩⟩
      rw [HCS.out, HPL.out]
      rfl
    · intro e' e; cases e
set_option linter.unusedVariables false in
set_option maxRecDepth 100000 in
set_option maxHeartbeats 8000000 in
theorem one_init {w : World} {b off n c : Nat} {zs : List Nat} (hs : Sl w (some ⟨b, off, none⟩) n c zs) (hn : n ≤ 2000) (k f : Nat) (hk8 : k < 256) (hf8 : f < 256) (hb : k = 1 ∨ k = 2) (h : 16 ≤ n) :
    Calls Tryd.prog 39 #[.int .u8 (k : Nat), .int .u8 (f : Nat), .slice (some ⟨b, off, none⟩) n c] w (OnR w (match parP ((zs.drop 16).length + 1) 0 (zs.drop 16) with | .error e => .error e | .ok ps => .ok ⟨k, f, numB ((zs.drop 12).take 4), 0, 0, 0, numB (zs.take 4), numB ((zs.drop 4).take 4), numB ((zs.drop 8).take 2), numB ((zs.drop 10).take 2), [], [], ps, []⟩)) := by
  have hlz := hs.len
  have hcap := hs.cap
  have hbnd := hs.bnd
  have HS := (show Hid _ from hs)
  have hz := zero_ch14R
  obtain ⟨W1, hW1⟩ : ∃ W1, W1 = w.alloc (.cells #[.int .u8 0, .int .u8 0, .int .u32 0, .int .u16 0, .int .u16 0, .int .u32 0, .int .u32 0, .int .u32 0, .int .u16 0, .int .u16 0, .slice none 0 0, .slice none 0 0, .slice none 0 0, .slice none 0 0] 29) := ⟨_, rfl⟩
  obtain ⟨W2, hW2⟩ : ∃ W2, W2 = W1.alloc (.cells #[.int .u8 (k : Nat), .int .u8 (f : Nat), .int .u32 0, .int .u16 0, .int .u16 0, .int .u32 0, .int .u32 0, .int .u32 0, .int .u16 0, .int .u16 0, .slice none 0 0, .slice none 0 0, .slice none 0 0, .slice none 0 0] 29) := ⟨_, rfl⟩
  have HU0 : Hid (OnS w W2 [.int .u8 (k : Nat), .int .u8 (f : Nat), .int .u32 0, .int .u16 0, .int .u16 0, .int .u32 0, .int .u32 0, .int .u32 0, .int .u16 0, .int .u16 0, .slice none 0 0, .slice none 0 0, .slice none 0 0, .slice none 0 0]) := OnS.start w W1 W2 _ hW1 hW2
  have HLE := (show Hid _ from fun W => least_any k W)
  have HBA := (show Hid _ from fun W => isBare_any k W)
  clear hs
  have e0 : leastN k = 16 := by unfold leastN; rw [if_neg (by omega), if_pos hb]
  rw [e0] at HLE
  rw [show bareB k = false from decide_eq_false (by omega)] at HBA
  have h2 : ¬ (n : Int) < 16 := by omega
  clear e0
  have g0 : ((k : Int) == 0) = false := by simp; omega
  have g7 : ((k : Int) == 7) = false := by simp; omega
  have gg : ((k : Int) == 1) = true ∨ (((k : Int) == 1) = false ∧ ((k : Int) == 2) = true) := by
    rcases hb with e | e
    · exact .inl (by simp; omega)
    · exact .inr ⟨by simp; omega, by simp; omega⟩
  obtain ⟨r, hr⟩ : ∃ r, r = parP ((zs.drop 16).length + 1) 0 (zs.drop 16) := ⟨_, rfl⟩
  obtain ⟨o16, hsl16, ho16⟩ := slice_fromR b off n c 16 (by omega) hcap
  obtain ⟨m16, hm16⟩ : ∃ m, m = n - 16 := ⟨_, rfl⟩
  obtain ⟨c16, hc16⟩ : ∃ m, m = c - 16 := ⟨_, rfl⟩
  have HPR : Hid (∀ V, Below w.heap.size w V → Calls Tryd.prog 60 #[.slice (some ⟨b, o16, none⟩) m16 c16] V (RpR V r)) := fun V hV => by
    rw [hr, hm16, hc16]
    exact rparR ((HS.out.below hV).dropR 16 o16 (by omega) ho16) (by omega)
  rw [← hm16, ← hc16] at hsl16
  replace hsl16 : ∀ w, (Instr.slice 27 (.slice (some ⟨b, off, none⟩) n c) (some (.int .i64 16)) none none).run Tryd.prog w = .ok (.slice (some ⟨b, o16, none⟩) m16 c16) w := hsl16
  rw [← hr]
  clear hb hr ho16 hm16 hc16
  go_enter Tryd.func39, Tryd.ntmps39
  go_wp2_with fail
  rw [← hW1, ← hW2]
  clear hW1 hW2 hz
  refine Calls.mono (HLE.out W2) ?_
  rintro e w3 ⟨rfl, hw3⟩
  replace hw3 := hw3.symm
  subst hw3
  go_wp2_with fail
  refine Calls.mono (HBA.out W2) ?_
  rintro e w3 ⟨rfl, hw3⟩
  replace hw3 := hw3.symm
  subst hw3
  clear HLE HBA
  rcases gg with g1 | ⟨g1, g2⟩
  · obtain ⟨n0, hn0⟩ : ∃ n0, n0 = numB ((zs.drop 0).take 4) := ⟨_, rfl⟩
    have HN := (show Hid _ from rnum12 (HS.out.below HU0.out.bel) 0 4 (by omega) (by omega) (by omega) n0 hn0 (.int .i64 0) rfl (.int .i64 4) rfl)
    have HN0 := (show Hid _ from hn0)
    clear hn0
    go_wp2_with fail
    refine Calls.mono HN.out ?_
    clear HN
    rintro e w3 ⟨rfl, hw3⟩
    replace hw3 := hw3.symm
    subst hw3
    have f0 := HU0.out.b8.free 6
    have c0 := HU0.out.b8.cell 6 _ rfl
    obtain ⟨V1, hV1⟩ : ∃ V, V = W2.setCell ⟨w.heap.size + 1, 6, none⟩ (.int .u32 (n0 : Nat)) := ⟨_, rfl⟩
    have HU1 : Hid (OnS w V1 [.int .u8 (k : Nat), .int .u8 (f : Nat), .int .u32 0, .int .u16 0, .int .u16 0, .int .u32 0, .int .u32 (n0 : Nat), .int .u32 0, .int .u16 0, .int .u16 0, .slice none 0 0, .slice none 0 0, .slice none 0 0, .slice none 0 0]) := by rw [hV1]; exact HU0.out.set 6 _
    clear HU0
    obtain ⟨n1, hn1⟩ : ∃ n1, n1 = numB ((zs.drop 4).take 4) := ⟨_, rfl⟩
    have HN := (show Hid _ from rnum12 (HS.out.below HU1.out.bel) 4 4 (by omega) (by omega) (by omega) n1 hn1 (.int .i64 4) rfl (.int .i64 4) rfl)
    have HN1 := (show Hid _ from hn1)
    clear hn1
    go_wp2_with fail
    rw [← hV1]
    clear hV1 f0 c0
    refine Calls.mono HN.out ?_
    clear HN
    rintro e w3 ⟨rfl, hw3⟩
    replace hw3 := hw3.symm
    subst hw3
    have f0 := HU1.out.b8.free 7
    have c0 := HU1.out.b8.cell 7 _ rfl
    obtain ⟨V2, hV2⟩ : ∃ V, V = V1.setCell ⟨w.heap.size + 1, 7, none⟩ (.int .u32 (n1 : Nat)) := ⟨_, rfl⟩
    have HU2 : Hid (OnS w V2 [.int .u8 (k : Nat), .int .u8 (f : Nat), .int .u32 0, .int .u16 0, .int .u16 0, .int .u32 0, .int .u32 (n0 : Nat), .int .u32 (n1 : Nat), .int .u16 0, .int .u16 0, .slice none 0 0, .slice none 0 0, .slice none 0 0, .slice none 0 0]) := by rw [hV2]; exact HU1.out.set 7 _
    clear HU1
    obtain ⟨n2, hn2⟩ : ∃ n2, n2 = numB ((zs.drop 8).take 2) := ⟨_, rfl⟩
    have HN := (show Hid _ from rnum12 (HS.out.below HU2.out.bel) 8 2 (by omega) (by omega) (by omega) n2 hn2 (.int .i64 8) rfl (.int .i64 2) rfl)
    have HN2 := (show Hid _ from hn2)
    have hw2x : IntKind.u16.wrap ((n2 : Nat) : Int) = n2 := by have := numB_take (drop_bnd hbnd 8) 2 (by rw [List.length_drop]; omega); rw [IntKind.wrap_u16]; omega
    clear hn2
    go_wp2_with fail
    rw [← hV2]
    clear hV2 f0 c0
    refine Calls.mono HN.out ?_
    clear HN
    rintro e w3 ⟨rfl, hw3⟩
    replace hw3 := hw3.symm
    subst hw3
    have f0 := HU2.out.b8.free 8
    have c0 := HU2.out.b8.cell 8 _ rfl
    obtain ⟨V3, hV3⟩ : ∃ V, V = V2.setCell ⟨w.heap.size + 1, 8, none⟩ (.int .u16 (n2 : Nat)) := ⟨_, rfl⟩
    have HU3 : Hid (OnS w V3 [.int .u8 (k : Nat), .int .u8 (f : Nat), .int .u32 0, .int .u16 0, .int .u16 0, .int .u32 0, .int .u32 (n0 : Nat), .int .u32 (n1 : Nat), .int .u16 (n2 : Nat), .int .u16 0, .slice none 0 0, .slice none 0 0, .slice none 0 0, .slice none 0 0]) := by rw [hV3]; exact HU2.out.set 8 _
    clear HU2
    obtain ⟨n3, hn3⟩ : ∃ n3, n3 = numB ((zs.drop 10).take 2) := ⟨_, rfl⟩
    have HN := (show Hid _ from rnum12 (HS.out.below HU3.out.bel) 10 2 (by omega) (by omega) (by omega) n3 hn3 (.int .i64 10) rfl (.int .i64 2) rfl)
    have HN3 := (show Hid _ from hn3)
    have hw3x : IntKind.u16.wrap ((n3 : Nat) : Int) = n3 := by have := numB_take (drop_bnd hbnd 10) 2 (by rw [List.length_drop]; omega); rw [IntKind.wrap_u16]; omega
    clear hn3
    go_wp2_with fail
    rw [← hV3]
    clear hV3 f0 c0
    refine Calls.mono HN.out ?_
    clear HN
    rintro e w3 ⟨rfl, hw3⟩
    replace hw3 := hw3.symm
    subst hw3
    have f0 := HU3.out.b8.free 9
    have c0 := HU3.out.b8.cell 9 _ rfl
    obtain ⟨V4, hV4⟩ : ∃ V, V = V3.setCell ⟨w.heap.size + 1, 9, none⟩ (.int .u16 (n3 : Nat)) := ⟨_, rfl⟩
    have HU4 : Hid (OnS w V4 [.int .u8 (k : Nat), .int .u8 (f : Nat), .int .u32 0, .int .u16 0, .int .u16 0, .int .u32 0, .int .u32 (n0 : Nat), .int .u32 (n1 : Nat), .int .u16 (n2 : Nat), .int .u16 (n3 : Nat), .slice none 0 0, .slice none 0 0, .slice none 0 0, .slice none 0 0]) := by rw [hV4]; exact HU3.out.set 9 _
    clear HU3
    obtain ⟨n4, hn4⟩ : ∃ n4, n4 = numB ((zs.drop 12).take 4) := ⟨_, rfl⟩
    have HN := (show Hid _ from rnum12 (HS.out.below HU4.out.bel) 12 4 (by omega) (by omega) (by omega) n4 hn4 (.int .i64 12) rfl (.int .i64 4) rfl)
    have HN4 := (show Hid _ from hn4)
    clear hn4
    go_wp2_with fail
    rw [← hV4]
    clear hV4 f0 c0
    refine Calls.mono HN.out ?_
    clear HN
    rintro e w3 ⟨rfl, hw3⟩
    replace hw3 := hw3.symm
    subst hw3
    have f0 := HU4.out.b8.free 2
    have c0 := HU4.out.b8.cell 2 _ rfl
    obtain ⟨V5, hV5⟩ : ∃ V, V = V4.setCell ⟨w.heap.size + 1, 2, none⟩ (.int .u32 (n4 : Nat)) := ⟨_, rfl⟩
    have HU5 : Hid (OnS w V5 [.int .u8 (k : Nat), .int .u8 (f : Nat), .int .u32 (n4 : Nat), .int .u16 0, .int .u16 0, .int .u32 0, .int .u32 (n0 : Nat), .int .u32 (n1 : Nat), .int .u16 (n2 : Nat), .int .u16 (n3 : Nat), .slice none 0 0, .slice none 0 0, .slice none 0 0, .slice none 0 0]) := by rw [hV5]; exact HU4.out.set 2 _
    clear HU4
    go_wp2_with fail
    rw [← hV5]
    clear hV5 f0 c0
    refine Calls.mono (HPR.out V5 HU5.out.bel) ?_
    clear HPR
    rintro e w4 hR
    have HUP := (show Hid _ from HU5.out.below hR.bel)
    cases r with
    | error er =>
      have he := hR.no er rfl
      subst he
      have f0 := HUP.out.b8.free 12
      have c0 := HUP.out.b8.cell 12 _ rfl
      have HUQ : Hid (OnS w (w4.setCell ⟨w.heap.size + 1, 12, none⟩ (.slice none 0 0)) [.int .u8 (k : Nat), .int .u8 (f : Nat), .int .u32 (n4 : Nat), .int .u16 0, .int .u16 0, .int .u32 0, .int .u32 (n0 : Nat), .int .u32 (n1 : Nat), .int .u16 (n2 : Nat), .int .u16 (n3 : Nat), .slice none 0 0, .slice none 0 0, .slice none 0 0, .slice none 0 0]) := HUP.out.set 12 _
      clear hR HU5 HUP
      obtain ⟨V9, hV9⟩ : ∃ V9, V9 = (w4.setCell ⟨w.heap.size + 1, 12, none⟩ (.slice none 0 0)) := ⟨_, rfl⟩
      rw [← hV9] at HUQ
      go_upto_region 41 with fail
      rw [← hV9]
      clear hV9
      obtain ⟨cs, hcs⟩ : ∃ cs : List Value, cs = [.int .u8 (k : Nat), .int .u8 (f : Nat), .int .u32 (n4 : Nat), .int .u16 0, .int .u16 0, .int .u32 0, .int .u32 (n0 : Nat), .int .u32 (n1 : Nat), .int .u16 (n2 : Nat), .int .u16 (n3 : Nat), .slice none 0 0, .slice none 0 0, .slice none 0 0, .slice none 0 0] := ⟨_, rfl⟩
      have hcl : cs.length = 14 := by rw [hcs]; rfl
      have hone : ∀ u ∈ cs, u.oneCell' = true := by rw [hcs]; exact one14 (.u8, (k : Nat)) (.u8, (f : Nat)) (.u32, (n4 : Nat)) (.u16, 0) (.u16, 0) (.u32, 0) (.u32, (n0 : Nat)) (.u32, (n1 : Nat)) (.u16, (n2 : Nat)) (.u16, (n3 : Nat)) (none, 0, 0) (none, 0, 0) (none, 0, 0) (none, 0, 0)
      have hU := HUQ.out
      rw [← hcs] at hU
      have hrg := hU.b8.range
      have hth : V9.there w.heap.size 0 cs.toArray.size := by
        have e : cs.toArray.size = 14 := by simp [hcl]
        rw [e]
        exact hU.b6.there
      have hi14 := ch_size14R cs hcl
      have hi14' : (Tryd.prog.info? 29).map (·.size) = some cs.toArray.size := by rw [List.size_toArray]; exact hi14
      have hput := hU.b6.put cs (by rw [hcl]; rfl)
      have hff := fr_setCellsX w.heap.size cs 0 V9
      have HF : Hid (Stc (V9.setCells w.heap.size 0 cs) w.heap.size cs ∧ Fr (fun k => k = w.heap.size) V9 (V9.setCells w.heap.size 0 cs) ∧ Below w.heap.size w V9) := ⟨hput, hff, hU.bel⟩
      have HCS := (show Hid _ from hcs)
      clear hU hput hff hcs HUQ
      go_wp2_with (first | (refine wpList_load_mid rfl 29 _ rfl (w.heap.size + 1) 0 rfl cs _ hrg Tryd.underlying29 rfl hi14 ?_) | (refine wpList_store_mid rfl 29 _ _ rfl w.heap.size 0 cs.toArray rfl rfl hth hi14' (all_oneCell_toArray hone) ?_; change wpList _ _ _ _ _ (V9.setCells w.heap.size 0 cs)) | fail)
      try simp only [Exit.inBlock, Exit.then]
      refine bodyPost_ret (results_cellE2 rfl _ _ w.heap.size 0 cs _ rfl HF.out.1.range Tryd.underlying29 rfl hi14) rfl ?_
      refine ⟨⟨cs, er, hcl, hone, rfl, ?_, ?_⟩, HF.out.2.2.trans (HF.out.2.1.below _ HF.out.2.2.size (fun k hk => by omega))⟩
      · intro c' e; cases e
      · intro e' e; injection e with e
    | ok ps =>
      obtain ⟨xa, xc, he, hpo⟩ := hR.ok ps rfl
      subst he
      obtain ⟨pl, hpl⟩ : ∃ pl, pl = ps.length := ⟨_, rfl⟩
      have HPL := (show Hid _ from hpl)
      rw [← hpl] at hpo ⊢
      have f0 := HUP.out.b8.free 12
      have c0 := HUP.out.b8.cell 12 _ rfl
      have HUQ : Hid (OnS w (w4.setCell ⟨w.heap.size + 1, 12, none⟩ (.slice xa pl xc)) [.int .u8 (k : Nat), .int .u8 (f : Nat), .int .u32 (n4 : Nat), .int .u16 0, .int .u16 0, .int .u32 0, .int .u32 (n0 : Nat), .int .u32 (n1 : Nat), .int .u16 (n2 : Nat), .int .u16 (n3 : Nat), .slice none 0 0, .slice none 0 0, .slice xa pl xc, .slice none 0 0]) := HUP.out.set 12 _
      have hvl : w.heap.size + 1 < V5.heap.size := HU5.out.b8.lt
      have HPO : Hid (PmO (w4.setCell ⟨w.heap.size + 1, 12, none⟩ (.slice xa pl xc)) V5.heap.size xa pl xc ps ∧ w.heap.size + 1 < V5.heap.size) := ⟨hpo.fr (Fr.setCell (fun g => g = w.heap.size + 1) w4 ⟨w.heap.size + 1, 12, none⟩ (.slice xa pl xc) rfl) (fun g hg _ e => by have : g = w.heap.size + 1 := e; omega), hvl⟩
      clear hR HU5 HUP hpo hpl hvl
      obtain ⟨V9, hV9⟩ : ∃ V9, V9 = (w4.setCell ⟨w.heap.size + 1, 12, none⟩ (.slice xa pl xc)) := ⟨_, rfl⟩
      rw [← hV9] at HUQ HPO
      go_upto_region 41 with fail
      rw [← hV9]
      clear hV9
      obtain ⟨cs, hcs⟩ : ∃ cs : List Value, cs = [.int .u8 (k : Nat), .int .u8 (f : Nat), .int .u32 (n4 : Nat), .int .u16 0, .int .u16 0, .int .u32 0, .int .u32 (n0 : Nat), .int .u32 (n1 : Nat), .int .u16 (n2 : Nat), .int .u16 (n3 : Nat), .slice none 0 0, .slice none 0 0, .slice xa pl xc, .slice none 0 0] := ⟨_, rfl⟩
      have hcl : cs.length = 14 := by rw [hcs]; rfl
      have hone : ∀ u ∈ cs, u.oneCell' = true := by rw [hcs]; exact one14 (.u8, (k : Nat)) (.u8, (f : Nat)) (.u32, (n4 : Nat)) (.u16, 0) (.u16, 0) (.u32, 0) (.u32, (n0 : Nat)) (.u32, (n1 : Nat)) (.u16, (n2 : Nat)) (.u16, (n3 : Nat)) (none, 0, 0) (none, 0, 0) (xa, pl, xc) (none, 0, 0)
      have hU := HUQ.out
      rw [← hcs] at hU
      have hrg := hU.b8.range
      have hth : V9.there w.heap.size 0 cs.toArray.size := by
        have e : cs.toArray.size = 14 := by simp [hcl]
        rw [e]
        exact hU.b6.there
      have hi14 := ch_size14R cs hcl
      have hi14' : (Tryd.prog.info? 29).map (·.size) = some cs.toArray.size := by rw [List.size_toArray]; exact hi14
      have hput := hU.b6.put cs (by rw [hcl]; rfl)
      have hff := fr_setCellsX w.heap.size cs 0 V9
      have HF : Hid (Stc (V9.setCells w.heap.size 0 cs) w.heap.size cs ∧ Fr (fun k => k = w.heap.size) V9 (V9.setCells w.heap.size 0 cs) ∧ Below w.heap.size w V9) := ⟨hput, hff, hU.bel⟩
      have HCS := (show Hid _ from hcs)
      clear hU hput hff hcs HUQ
      go_wp2_with (first | (refine wpList_load_mid rfl 29 _ rfl (w.heap.size + 1) 0 rfl cs _ hrg Tryd.underlying29 rfl hi14 ?_) | (refine wpList_store_mid rfl 29 _ _ rfl w.heap.size 0 cs.toArray rfl rfl hth hi14' (all_oneCell_toArray hone) ?_; change wpList _ _ _ _ _ (V9.setCells w.heap.size 0 cs)) | fail)
      try simp only [Exit.inBlock, Exit.then]
      refine bodyPost_ret (results_cellE2 rfl _ _ w.heap.size 0 cs _ rfl HF.out.1.range Tryd.underlying29 rfl hi14) rfl ?_
      refine ⟨⟨cs, 0, hcl, hone, rfl, ?_, ?_⟩, HF.out.2.2.trans (HF.out.2.1.below _ HF.out.2.2.size (fun k hk => by omega))⟩
      · intro c' e
        injection e with e
        subst e
        have hpf := HPO.out.1.fr HF.out.2.1 (fun g hg _ e => by have : g = w.heap.size := e; have := HPO.out.2; omega)
        have hpb := hpf.base (B' := w.heap.size) (by have := HPO.out.2; omega)
        rw [HPL.out] at hpb
        refine ⟨rfl, ⟨none, 0, none, 0, xa, xc, none, 0, ?_, OwnG.nil _ _, OwnG.nil _ _, hpb, OwnB.nil _ _⟩⟩
        rw [HCS.out, HN0.out, HN1.out, HN2.out, HN3.out, HN4.out, List.drop_zero, HPL.out]
        rfl
      · intro e' e; cases e
  · obtain ⟨n0, hn0⟩ : ∃ n0, n0 = numB ((zs.drop 0).take 4) := ⟨_, rfl⟩
    have HN := (show Hid _ from rnum12 (HS.out.below HU0.out.bel) 0 4 (by omega) (by omega) (by omega) n0 hn0 (.int .i64 0) rfl (.int .i64 4) rfl)
    have HN0 := (show Hid _ from hn0)
    clear hn0
    go_wp2_with fail
    refine Calls.mono HN.out ?_
    clear HN
    rintro e w3 ⟨rfl, hw3⟩
    replace hw3 := hw3.symm
    subst hw3
    have f0 := HU0.out.b8.free 6
    have c0 := HU0.out.b8.cell 6 _ rfl
    obtain ⟨V1, hV1⟩ : ∃ V, V = W2.setCell ⟨w.heap.size + 1, 6, none⟩ (.int .u32 (n0 : Nat)) := ⟨_, rfl⟩
    have HU1 : Hid (OnS w V1 [.int .u8 (k : Nat), .int .u8 (f : Nat), .int .u32 0, .int .u16 0, .int .u16 0, .int .u32 0, .int .u32 (n0 : Nat), .int .u32 0, .int .u16 0, .int .u16 0, .slice none 0 0, .slice none 0 0, .slice none 0 0, .slice none 0 0]) := by rw [hV1]; exact HU0.out.set 6 _
    clear HU0
    obtain ⟨n1, hn1⟩ : ∃ n1, n1 = numB ((zs.drop 4).take 4) := ⟨_, rfl⟩
    have HN := (show Hid _ from rnum12 (HS.out.below HU1.out.bel) 4 4 (by omega) (by omega) (by omega) n1 hn1 (.int .i64 4) rfl (.int .i64 4) rfl)
    have HN1 := (show Hid _ from hn1)
    clear hn1
    go_wp2_with fail
    rw [← hV1]
    clear hV1 f0 c0
    refine Calls.mono HN.out ?_
    clear HN
    rintro e w3 ⟨rfl, hw3⟩
    replace hw3 := hw3.symm
    subst hw3
    have f0 := HU1.out.b8.free 7
    have c0 := HU1.out.b8.cell 7 _ rfl
    obtain ⟨V2, hV2⟩ : ∃ V, V = V1.setCell ⟨w.heap.size + 1, 7, none⟩ (.int .u32 (n1 : Nat)) := ⟨_, rfl⟩
    have HU2 : Hid (OnS w V2 [.int .u8 (k : Nat), .int .u8 (f : Nat), .int .u32 0, .int .u16 0, .int .u16 0, .int .u32 0, .int .u32 (n0 : Nat), .int .u32 (n1 : Nat), .int .u16 0, .int .u16 0, .slice none 0 0, .slice none 0 0, .slice none 0 0, .slice none 0 0]) := by rw [hV2]; exact HU1.out.set 7 _
    clear HU1
    obtain ⟨n2, hn2⟩ : ∃ n2, n2 = numB ((zs.drop 8).take 2) := ⟨_, rfl⟩
    have HN := (show Hid _ from rnum12 (HS.out.below HU2.out.bel) 8 2 (by omega) (by omega) (by omega) n2 hn2 (.int .i64 8) rfl (.int .i64 2) rfl)
    have HN2 := (show Hid _ from hn2)
    have hw2x : IntKind.u16.wrap ((n2 : Nat) : Int) = n2 := by have := numB_take (drop_bnd hbnd 8) 2 (by rw [List.length_drop]; omega); rw [IntKind.wrap_u16]; omega
    clear hn2
    go_wp2_with fail
    rw [← hV2]
    clear hV2 f0 c0
    refine Calls.mono HN.out ?_
    clear HN
    rintro e w3 ⟨rfl, hw3⟩
    replace hw3 := hw3.symm
    subst hw3
    have f0 := HU2.out.b8.free 8
    have c0 := HU2.out.b8.cell 8 _ rfl
    obtain ⟨V3, hV3⟩ : ∃ V, V = V2.setCell ⟨w.heap.size + 1, 8, none⟩ (.int .u16 (n2 : Nat)) := ⟨_, rfl⟩
    have HU3 : Hid (OnS w V3 [.int .u8 (k : Nat), .int .u8 (f : Nat), .int .u32 0, .int .u16 0, .int .u16 0, .int .u32 0, .int .u32 (n0 : Nat), .int .u32 (n1 : Nat), .int .u16 (n2 : Nat), .int .u16 0, .slice none 0 0, .slice none 0 0, .slice none 0 0, .slice none 0 0]) := by rw [hV3]; exact HU2.out.set 8 _
    clear HU2
    obtain ⟨n3, hn3⟩ : ∃ n3, n3 = numB ((zs.drop 10).take 2) := ⟨_, rfl⟩
    have HN := (show Hid _ from rnum12 (HS.out.below HU3.out.bel) 10 2 (by omega) (by omega) (by omega) n3 hn3 (.int .i64 10) rfl (.int .i64 2) rfl)
    have HN3 := (show Hid _ from hn3)
    have hw3x : IntKind.u16.wrap ((n3 : Nat) : Int) = n3 := by have := numB_take (drop_bnd hbnd 10) 2 (by rw [List.length_drop]; omega); rw [IntKind.wrap_u16]; omega
    clear hn3
    go_wp2_with fail
    rw [← hV3]
    clear hV3 f0 c0
    refine Calls.mono HN.out ?_
    clear HN
    rintro e w3 ⟨rfl, hw3⟩
    replace hw3 := hw3.symm
    subst hw3
    have f0 := HU3.out.b8.free 9
    have c0 := HU3.out.b8.cell 9 _ rfl
    obtain ⟨V4, hV4⟩ : ∃ V, V = V3.setCell ⟨w.heap.size + 1, 9, none⟩ (.int .u16 (n3 : Nat)) := ⟨_, rfl⟩
    have HU4 : Hid (OnS w V4 [.int .u8 (k : Nat), .int .u8 (f : Nat), .int .u32 0, .int .u16 0, .int .u16 0, .int .u32 0, .int .u32 (n0 : Nat), .int .u32 (n1 : Nat), .int .u16 (n2 : Nat), .int .u16 (n3 : Nat), .slice none 0 0, .slice none 0 0, .slice none 0 0, .slice none 0 0]) := by rw [hV4]; exact HU3.out.set 9 _
    clear HU3
    obtain ⟨n4, hn4⟩ : ∃ n4, n4 = numB ((zs.drop 12).take 4) := ⟨_, rfl⟩
    have HN := (show Hid _ from rnum12 (HS.out.below HU4.out.bel) 12 4 (by omega) (by omega) (by omega) n4 hn4 (.int .i64 12) rfl (.int .i64 4) rfl)
    have HN4 := (show Hid _ from hn4)
    clear hn4
    go_wp2_with fail
    rw [← hV4]
    clear hV4 f0 c0
    refine Calls.mono HN.out ?_
    clear HN
    rintro e w3 ⟨rfl, hw3⟩
    replace hw3 := hw3.symm
    subst hw3
    have f0 := HU4.out.b8.free 2
    have c0 := HU4.out.b8.cell 2 _ rfl
    obtain ⟨V5, hV5⟩ : ∃ V, V = V4.setCell ⟨w.heap.size + 1, 2, none⟩ (.int .u32 (n4 : Nat)) := ⟨_, rfl⟩
    have HU5 : Hid (OnS w V5 [.int .u8 (k : Nat), .int .u8 (f : Nat), .int .u32 (n4 : Nat), .int .u16 0, .int .u16 0, .int .u32 0, .int .u32 (n0 : Nat), .int .u32 (n1 : Nat), .int .u16 (n2 : Nat), .int .u16 (n3 : Nat), .slice none 0 0, .slice none 0 0, .slice none 0 0, .slice none 0 0]) := by rw [hV5]; exact HU4.out.set 2 _
    clear HU4
    go_wp2_with fail
    rw [← hV5]
    clear hV5 f0 c0
    refine Calls.mono (HPR.out V5 HU5.out.bel) ?_
    clear HPR
    rintro e w4 hR
    have HUP := (show Hid _ from HU5.out.below hR.bel)
    cases r with
    | error er =>
      have he := hR.no er rfl
      subst he
      have f0 := HUP.out.b8.free 12
      have c0 := HUP.out.b8.cell 12 _ rfl
      have HUQ : Hid (OnS w (w4.setCell ⟨w.heap.size + 1, 12, none⟩ (.slice none 0 0)) [.int .u8 (k : Nat), .int .u8 (f : Nat), .int .u32 (n4 : Nat), .int .u16 0, .int .u16 0, .int .u32 0, .int .u32 (n0 : Nat), .int .u32 (n1 : Nat), .int .u16 (n2 : Nat), .int .u16 (n3 : Nat), .slice none 0 0, .slice none 0 0, .slice none 0 0, .slice none 0 0]) := HUP.out.set 12 _
      clear hR HU5 HUP
      obtain ⟨V9, hV9⟩ : ∃ V9, V9 = (w4.setCell ⟨w.heap.size + 1, 12, none⟩ (.slice none 0 0)) := ⟨_, rfl⟩
      rw [← hV9] at HUQ
      go_upto_region 41 with fail
      rw [← hV9]
      clear hV9
      obtain ⟨cs, hcs⟩ : ∃ cs : List Value, cs = [.int .u8 (k : Nat), .int .u8 (f : Nat), .int .u32 (n4 : Nat), .int .u16 0, .int .u16 0, .int .u32 0, .int .u32 (n0 : Nat), .int .u32 (n1 : Nat), .int .u16 (n2 : Nat), .int .u16 (n3 : Nat), .slice none 0 0, .slice none 0 0, .slice none 0 0, .slice none 0 0] := ⟨_, rfl⟩
      have hcl : cs.length = 14 := by rw [hcs]; rfl
      have hone : ∀ u ∈ cs, u.oneCell' = true := by rw [hcs]; exact one14 (.u8, (k : Nat)) (.u8, (f : Nat)) (.u32, (n4 : Nat)) (.u16, 0) (.u16, 0) (.u32, 0) (.u32, (n0 : Nat)) (.u32, (n1 : Nat)) (.u16, (n2 : Nat)) (.u16, (n3 : Nat)) (none, 0, 0) (none, 0, 0) (none, 0, 0) (none, 0, 0)
      have hU := HUQ.out
      rw [← hcs] at hU
      have hrg := hU.b8.range
      have hth : V9.there w.heap.size 0 cs.toArray.size := by
        have e : cs.toArray.size = 14 := by simp [hcl]
        rw [e]
        exact hU.b6.there
      have hi14 := ch_size14R cs hcl
      have hi14' : (Tryd.prog.info? 29).map (·.size) = some cs.toArray.size := by rw [List.size_toArray]; exact hi14
      have hput := hU.b6.put cs (by rw [hcl]; rfl)
      have hff := fr_setCellsX w.heap.size cs 0 V9
      have HF : Hid (Stc (V9.setCells w.heap.size 0 cs) w.heap.size cs ∧ Fr (fun k => k = w.heap.size) V9 (V9.setCells w.heap.size 0 cs) ∧ Below w.heap.size w V9) := ⟨hput, hff, hU.bel⟩
      have HCS := (show Hid _ from hcs)
      clear hU hput hff hcs HUQ
      go_wp2_with (first | (refine wpList_load_mid rfl 29 _ rfl (w.heap.size + 1) 0 rfl cs _ hrg Tryd.underlying29 rfl hi14 ?_) | (refine wpList_store_mid rfl 29 _ _ rfl w.heap.size 0 cs.toArray rfl rfl hth hi14' (all_oneCell_toArray hone) ?_; change wpList _ _ _ _ _ (V9.setCells w.heap.size 0 cs)) | fail)
      try simp only [Exit.inBlock, Exit.then]
      refine bodyPost_ret (results_cellE2 rfl _ _ w.heap.size 0 cs _ rfl HF.out.1.range Tryd.underlying29 rfl hi14) rfl ?_
      refine ⟨⟨cs, er, hcl, hone, rfl, ?_, ?_⟩, HF.out.2.2.trans (HF.out.2.1.below _ HF.out.2.2.size (fun k hk => by omega))⟩
      · intro c' e; cases e
      · intro e' e; injection e with e
    | ok ps =>
      obtain ⟨xa, xc, he, hpo⟩ := hR.ok ps rfl
      subst he
      obtain ⟨pl, hpl⟩ : ∃ pl, pl = ps.length := ⟨_, rfl⟩
      have HPL := (show Hid _ from hpl)
      rw [← hpl] at hpo ⊢
      have f0 := HUP.out.b8.free 12
      have c0 := HUP.out.b8.cell 12 _ rfl
      have HUQ : Hid (OnS w (w4.setCell ⟨w.heap.size + 1, 12, none⟩ (.slice xa pl xc)) [.int .u8 (k : Nat), .int .u8 (f : Nat), .int .u32 (n4 : Nat), .int .u16 0, .int .u16 0, .int .u32 0, .int .u32 (n0 : Nat), .int .u32 (n1 : Nat), .int .u16 (n2 : Nat), .int .u16 (n3 : Nat), .slice none 0 0, .slice none 0 0, .slice xa pl xc, .slice none 0 0]) := HUP.out.set 12 _
      have hvl : w.heap.size + 1 < V5.heap.size := HU5.out.b8.lt
      have HPO : Hid (PmO (w4.setCell ⟨w.heap.size + 1, 12, none⟩ (.slice xa pl xc)) V5.heap.size xa pl xc ps ∧ w.heap.size + 1 < V5.heap.size) := ⟨hpo.fr (Fr.setCell (fun g => g = w.heap.size + 1) w4 ⟨w.heap.size + 1, 12, none⟩ (.slice xa pl xc) rfl) (fun g hg _ e => by have : g = w.heap.size + 1 := e; omega), hvl⟩
      clear hR HU5 HUP hpo hpl hvl
      obtain ⟨V9, hV9⟩ : ∃ V9, V9 = (w4.setCell ⟨w.heap.size + 1, 12, none⟩ (.slice xa pl xc)) := ⟨_, rfl⟩
      rw [← hV9] at HUQ HPO
      go_upto_region 41 with fail
      rw [← hV9]
      clear hV9
      obtain ⟨cs, hcs⟩ : ∃ cs : List Value, cs = [.int .u8 (k : Nat), .int .u8 (f : Nat), .int .u32 (n4 : Nat), .int .u16 0, .int .u16 0, .int .u32 0, .int .u32 (n0 : Nat), .int .u32 (n1 : Nat), .int .u16 (n2 : Nat), .int .u16 (n3 : Nat), .slice none 0 0, .slice none 0 0, .slice xa pl xc, .slice none 0 0] := ⟨_, rfl⟩
      have hcl : cs.length = 14 := by rw [hcs]; rfl
      have hone : ∀ u ∈ cs, u.oneCell' = true := by rw [hcs]; exact one14 (.u8, (k : Nat)) (.u8, (f : Nat)) (.u32, (n4 : Nat)) (.u16, 0) (.u16, 0) (.u32, 0) (.u32, (n0 : Nat)) (.u32, (n1 : Nat)) (.u16, (n2 : Nat)) (.u16, (n3 : Nat)) (none, 0, 0) (none, 0, 0) (xa, pl, xc) (none, 0, 0)
      have hU := HUQ.out
      rw [← hcs] at hU
      have hrg := hU.b8.range
      have hth : V9.there w.heap.size 0 cs.toArray.size := by
        have e : cs.toArray.size = 14 := by simp [hcl]
        rw [e]
        exact hU.b6.there
      have hi14 := ch_size14R cs hcl
      have hi14' : (Tryd.prog.info? 29).map (·.size) = some cs.toArray.size := by rw [List.size_toArray]; exact hi14
      have hput := hU.b6.put cs (by rw [hcl]; rfl)
      have hff := fr_setCellsX w.heap.size cs 0 V9
      have HF : Hid (Stc (V9.setCells w.heap.size 0 cs) w.heap.size cs ∧ Fr (fun k => k = w.heap.size) V9 (V9.setCells w.heap.size 0 cs) ∧ Below w.heap.size w V9) := ⟨hput, hff, hU.bel⟩
      have HCS := (show Hid _ from hcs)
      clear hU hput hff hcs HUQ
      go_wp2_with (first | (refine wpList_load_mid rfl 29 _ rfl (w.heap.size + 1) 0 rfl cs _ hrg Tryd.underlying29 rfl hi14 ?_) | (refine wpList_store_mid rfl 29 _ _ rfl w.heap.size 0 cs.toArray rfl rfl hth hi14' (all_oneCell_toArray hone) ?_; change wpList _ _ _ _ _ (V9.setCells w.heap.size 0 cs)) | fail)
      try simp only [Exit.inBlock, Exit.then]
      refine bodyPost_ret (results_cellE2 rfl _ _ w.heap.size 0 cs _ rfl HF.out.1.range Tryd.underlying29 rfl hi14) rfl ?_
      refine ⟨⟨cs, 0, hcl, hone, rfl, ?_, ?_⟩, HF.out.2.2.trans (HF.out.2.1.below _ HF.out.2.2.size (fun k hk => by omega))⟩
      · intro c' e
        injection e with e
        subst e
        have hpf := HPO.out.1.fr HF.out.2.1 (fun g hg _ e => by have : g = w.heap.size := e; have := HPO.out.2; omega)
        have hpb := hpf.base (B' := w.heap.size) (by have := HPO.out.2; omega)
        rw [HPL.out] at hpb
        refine ⟨rfl, ⟨none, 0, none, 0, xa, xc, none, 0, ?_, OwnG.nil _ _, OwnG.nil _ _, hpb, OwnB.nil _ _⟩⟩
        rw [HCS.out, HN0.out, HN1.out, HN2.out, HN3.out, HN4.out, List.drop_zero, HPL.out]
        rfl
      · intro e' e; cases e
end Go.Proofs.YtifdfkkjmjabnaaDoor
namespace Go.Proofs.YtifdfkkjmjabnaaDoor
open Go.RowKit
theorem cnt3_0 {l : Nat → Bool} {a b c : Nat} (h : l a = false) : cntL l [a, b, c] = 0 := if_neg (by rw [h]; decide)
theorem cnt3_1 {l : Nat → Bool} {a b c : Nat} (h1 : l a = true) (h : l b = false) : cntL l [a, b, c] = 1 := by
  show (if l a = true then (if l b = true then _ else 0) + 1 else 0) = 1
  rw [if_pos h1, if_neg (by rw [h]; decide)]
theorem cnt3_2 {l : Nat → Bool} {a b c : Nat} (h1 : l a = true) (h2 : l b = true) (h : l c = false) : cntL l [a, b, c] = 2 := by
  show (if l a = true then (if l b = true then (if l c = true then _ else 0) + 1 else 0) + 1 else 0) = 2
  rw [if_pos h1, if_pos h2, if_neg (by rw [h]; decide)]
theorem cnt3_3 {l : Nat → Bool} {a b c : Nat} (h1 : l a = true) (h2 : l b = true) (h3 : l c = true) : cntL l [a, b, c] = 3 := by
  show (if l a = true then (if l b = true then (if l c = true then _ else 0) + 1 else 0) + 1 else 0) = 3
  rw [if_pos h1, if_pos h2, if_pos h3]
  rfl
theorem bsOf_get (X : List Nat) (n i : Nat) (h : i < n) : (bsOf X n)[i]? = some (numB ((X.drop (4 * i)).take 2), numB ((X.drop (4 * i + 2)).take 2)) := by
  induction n generalizing X i with
  | zero => omega
  | succ n ih =>
    cases i with
    | zero => rfl
    | succ i =>
      show (bsOf (X.drop 4) n)[i]? = _
      rw [ih (X.drop 4) i (by omega), List.drop_drop, List.drop_drop, show 4 + 4 * i = 4 * (i + 1) by omega, show 4 + (4 * i + 2) = 4 * (i + 1) + 2 by omega]
theorem dsOf_get (X : List Nat) (n i : Nat) (h : i < n) : (dsOf X n)[i]? = some (numB ((X.drop (4 * i)).take 4)) := by
  induction n generalizing X i with
  | zero => omega
  | succ n ih =>
    cases i with
    | zero => rfl
    | succ i =>
      show (dsOf (X.drop 4) n)[i]? = _
      rw [ih (X.drop 4) i (by omega), List.drop_drop, show 4 + 4 * i = 4 * (i + 1) by omega]
theorem ownK_appR {V : World} {B : Nat} {la : Option Addr} {i lc : Nat} {bs : List (Nat × Nat)} (h : OwnK V B la i lc bs) (p : Nat × Nat) (hn : i ≤ 1000) (hB : B ≤ V.heap.size) :
    ∃ g c' V', (Builtin.append_ #[24, 24] 24 #[.slice la i lc, .slice (some ⟨V.heap.size, 0, none⟩) 1 1]).run Tryd.prog (V.alloc (.cells #[.int .u16 (p.1 : Nat), .int .u16 (p.2 : Nat)] 113)) = .ok (.slice (some ⟨g, 0, none⟩) (i + 1) c') V' ∧ OwnK V' B (some ⟨g, 0, none⟩) (i + 1) c' (bs ++ [p]) ∧ Fr (fun k => (Value.slice la i lc).ownBlock = some k) V V' := by
  have b0 : Below V.heap.size V (V.alloc (.cells (bkV p).toArray 113)) := (Below.refl _ _).alloc (Nat.le_refl _) _
  have st2 := Stc.new V (bkV p) 113 _ rfl
  obtain ⟨g, c', V', hr, ho, hgr, hg, hgl⟩ := OwnG.app layK (OwnG.below h b0) 24 p ⟨V.heap.size, 0, none⟩ (fun j u hj => by
    have := st2.cell j u hj
    unfold Addr.add
    split
    · rename_i e; subst e; exact this
    · simpa using this) (by unfold maxLen; omega) (by omega) (Nat.le_trans hB b0.size)
  exact ⟨g, c', V', hr, ho, (Fr.of_below b0).trans (Fr.grown hgr (fun k hk => hk))⟩
theorem ownD_appR {V : World} {B : Nat} {la : Option Addr} {i lc : Nat} {ds : List Nat} (h : OwnD V B la i lc ds) (d : Nat) (hn : i ≤ 1000) (hB : B ≤ V.heap.size) :
    ∃ g c' V', (Builtin.append_ #[25, 25] 25 #[.slice la i lc, .slice (some ⟨V.heap.size, 0, none⟩) 1 1]).run Tryd.prog (V.alloc (.cells #[.int .u32 (d : Nat)] 22)) = .ok (.slice (some ⟨g, 0, none⟩) (i + 1) c') V' ∧ OwnD V' B (some ⟨g, 0, none⟩) (i + 1) c' (ds ++ [d]) ∧ Fr (fun k => (Value.slice la i lc).ownBlock = some k) V V' := by
  have b0 : Below V.heap.size V (V.alloc (.cells (duV d).toArray 22)) := (Below.refl _ _).alloc (Nat.le_refl _) _
  have st2 := Stc.new V (duV d) 22 _ rfl
  obtain ⟨g, c', V', hr, ho, hgr, hg, hgl⟩ := OwnG.app layD (OwnG.below h b0) 25 d ⟨V.heap.size, 0, none⟩ (fun j u hj => by
    have := st2.cell j u hj
    unfold Addr.add
    split
    · rename_i e; subst e; exact this
    · simpa using this) (by unfold maxLen; omega) (by omega) (Nat.le_trans hB b0.size)
  exact ⟨g, c', V', hr, ho, (Fr.of_below b0).trans (Fr.grown hgr (fun k hk => hk))⟩
set_option linter.unusedVariables false in
set_option maxRecDepth 100000 in
set_option maxHeartbeats 8000000 in
theorem one_sack_len {w : World} {b off n c : Nat} {zs : List Nat} (hs : Sl w (some ⟨b, off, none⟩) n c zs) (hn : n ≤ 2000) (k f : Nat) (hk8 : k < 256) (hf8 : f < 256) (hb : k = 3) (h : 12 ≤ n) (nb nd : Nat) (hnb : nb = numB ((zs.drop 8).take 2)) (hnd : nd = numB ((zs.drop 10).take 2)) (hx : ¬ n = 12 + 4 * nb + 4 * nd) :
    Calls Tryd.prog 39 #[.int .u8 (k : Nat), .int .u8 (f : Nat), .slice (some ⟨b, off, none⟩) n c] w (OnR w (.error 4)) := by
  have hlz := hs.len
  have hcap := hs.cap
  have hbnd := hs.bnd
  have HS := (show Hid _ from hs)
  have hz := zero_ch14R
  obtain ⟨W1, hW1⟩ : ∃ W1, W1 = w.alloc (.cells #[.int .u8 0, .int .u8 0, .int .u32 0, .int .u16 0, .int .u16 0, .int .u32 0, .int .u32 0, .int .u32 0, .int .u16 0, .int .u16 0, .slice none 0 0, .slice none 0 0, .slice none 0 0, .slice none 0 0] 29) := ⟨_, rfl⟩
  obtain ⟨W2, hW2⟩ : ∃ W2, W2 = W1.alloc (.cells #[.int .u8 (k : Nat), .int .u8 (f : Nat), .int .u32 0, .int .u16 0, .int .u16 0, .int .u32 0, .int .u32 0, .int .u32 0, .int .u16 0, .int .u16 0, .slice none 0 0, .slice none 0 0, .slice none 0 0, .slice none 0 0] 29) := ⟨_, rfl⟩
  have HU0 : Hid (OnS w W2 [.int .u8 (k : Nat), .int .u8 (f : Nat), .int .u32 0, .int .u16 0, .int .u16 0, .int .u32 0, .int .u32 0, .int .u32 0, .int .u16 0, .int .u16 0, .slice none 0 0, .slice none 0 0, .slice none 0 0, .slice none 0 0]) := OnS.start w W1 W2 _ hW1 hW2
  have HLE := (show Hid _ from fun W => least_any k W)
  have HBA := (show Hid _ from fun W => isBare_any k W)
  clear hs
  have e0 : leastN k = 12 := by unfold leastN; rw [if_neg (by omega), if_neg (by omega), if_pos hb]
  rw [e0] at HLE
  rw [show bareB k = false from decide_eq_false (by omega)] at HBA
  have h2 : ¬ (n : Int) < 12 := by omega
  clear e0
  have g0 : ((k : Int) == 0) = false := by simp; omega
  have g1 : ((k : Int) == 1) = false := by simp; omega
  have g2 : ((k : Int) == 2) = false := by simp; omega
  have g3 : ((k : Int) == 3) = true := by simp; omega
  have g7 : ((k : Int) == 7) = false := by simp; omega
  have hnbb : nb < 65536 := by rw [hnb]; exact numB_take (drop_bnd hbnd 8) 2 (by rw [List.length_drop]; omega)
  have hndb : nd < 65536 := by rw [hnd]; exact numB_take (drop_bnd hbnd 10) 2 (by rw [List.length_drop]; omega)
  have HNN := (show Hid _ from And.intro hnb hnd)
  clear hb
  go_enter Tryd.func39, Tryd.ntmps39
  go_wp2_with fail
  rw [← hW1, ← hW2]
  clear hW1 hW2 hz
  refine Calls.mono (HLE.out W2) ?_
  rintro e w3 ⟨rfl, hw3⟩
  replace hw3 := hw3.symm
  subst hw3
  go_wp2_with fail
  refine Calls.mono (HBA.out W2) ?_
  rintro e w3 ⟨rfl, hw3⟩
  replace hw3 := hw3.symm
  subst hw3
  clear HLE HBA
  obtain ⟨n0, hn0⟩ : ∃ n0, n0 = numB ((zs.drop 0).take 4) := ⟨_, rfl⟩
  have HN := (show Hid _ from rnum12 (HS.out.below HU0.out.bel) 0 4 (by omega) (by omega) (by omega) n0 hn0 (.int .i64 0) rfl (.int .i64 4) rfl)
  have HN0 := (show Hid _ from hn0)
  clear hn0
  go_wp2_with fail
  refine Calls.mono HN.out ?_
  clear HN
  rintro e w3 ⟨rfl, hw3⟩
  replace hw3 := hw3.symm
  subst hw3
  have f0 := HU0.out.b8.free 2
  have c0 := HU0.out.b8.cell 2 _ rfl
  obtain ⟨V1, hV1⟩ : ∃ V, V = W2.setCell ⟨w.heap.size + 1, 2, none⟩ (.int .u32 (n0 : Nat)) := ⟨_, rfl⟩
  have HU1 : Hid (OnS w V1 [.int .u8 (k : Nat), .int .u8 (f : Nat), .int .u32 (n0 : Nat), .int .u16 0, .int .u16 0, .int .u32 0, .int .u32 0, .int .u32 0, .int .u16 0, .int .u16 0, .slice none 0 0, .slice none 0 0, .slice none 0 0, .slice none 0 0]) := by rw [hV1]; exact HU0.out.set 2 _
  clear HU0
  obtain ⟨n1, hn1⟩ : ∃ n1, n1 = numB ((zs.drop 4).take 4) := ⟨_, rfl⟩
  have HN := (show Hid _ from rnum12 (HS.out.below HU1.out.bel) 4 4 (by omega) (by omega) (by omega) n1 hn1 (.int .i64 4) rfl (.int .i64 4) rfl)
  have HN1 := (show Hid _ from hn1)
  clear hn1
  go_wp2_with fail
  rw [← hV1]
  clear hV1 f0 c0
  refine Calls.mono HN.out ?_
  clear HN
  rintro e w3 ⟨rfl, hw3⟩
  replace hw3 := hw3.symm
  subst hw3
  have f0 := HU1.out.b8.free 7
  have c0 := HU1.out.b8.cell 7 _ rfl
  obtain ⟨V2, hV2⟩ : ∃ V, V = V1.setCell ⟨w.heap.size + 1, 7, none⟩ (.int .u32 (n1 : Nat)) := ⟨_, rfl⟩
  have HU2 : Hid (OnS w V2 [.int .u8 (k : Nat), .int .u8 (f : Nat), .int .u32 (n0 : Nat), .int .u16 0, .int .u16 0, .int .u32 0, .int .u32 0, .int .u32 (n1 : Nat), .int .u16 0, .int .u16 0, .slice none 0 0, .slice none 0 0, .slice none 0 0, .slice none 0 0]) := by rw [hV2]; exact HU1.out.set 7 _
  clear HU1
  have HN8 := (show Hid _ from rnum12 (HS.out.below HU2.out.bel) 8 2 (by omega) (by omega) (by omega) nb hnb (.int .i64 8) rfl (.int .i64 2) rfl)
  have HN10 := (show Hid _ from rnum12 (HS.out.below HU2.out.bel) 10 2 (by omega) (by omega) (by omega) nd hnd (.int .i64 10) rfl (.int .i64 2) rfl)
  have g9 : ((n : Int) != 12 + 4 * (nb : Int) + 4 * (nd : Int)) = true := by simp; omega
  clear hx
  clear hnb hnd
  go_wp2_with fail
  rw [← hV2]
  clear hV2 f0 c0
  refine Calls.mono HN8.out ?_
  clear HN8
  rintro e w3 ⟨rfl, hw3⟩
  replace hw3 := hw3.symm
  subst hw3
  go_wp2_with fail
  refine Calls.mono HN10.out ?_
  clear HN10
  rintro e w3 ⟨rfl, hw3⟩
  replace hw3 := hw3.symm
  subst hw3
  obtain ⟨cs, hcs⟩ : ∃ cs : List Value, cs = [.int .u8 (k : Nat), .int .u8 (f : Nat), .int .u32 (n0 : Nat), .int .u16 0, .int .u16 0, .int .u32 0, .int .u32 0, .int .u32 (n1 : Nat), .int .u16 0, .int .u16 0, .slice none 0 0, .slice none 0 0, .slice none 0 0, .slice none 0 0] := ⟨_, rfl⟩
  have hcl : cs.length = 14 := by rw [hcs]; rfl
  have hone : ∀ u ∈ cs, u.oneCell' = true := by rw [hcs]; exact one14 (.u8, (k : Nat)) (.u8, (f : Nat)) (.u32, (n0 : Nat)) (.u16, 0) (.u16, 0) (.u32, 0) (.u32, 0) (.u32, (n1 : Nat)) (.u16, 0) (.u16, 0) (none, 0, 0) (none, 0, 0) (none, 0, 0) (none, 0, 0)
  have hU := HU2.out
  rw [← hcs] at hU
  have hrg := hU.b8.range
  have hth : V2.there w.heap.size 0 cs.toArray.size := by
    have e : cs.toArray.size = 14 := by simp [hcl]
    rw [e]
    exact hU.b6.there
  have hi14 := ch_size14R cs hcl
  have hi14' : (Tryd.prog.info? 29).map (·.size) = some cs.toArray.size := by rw [List.size_toArray]; exact hi14
  have hput := hU.b6.put cs (by rw [hcl]; rfl)
  have hff := fr_setCellsX w.heap.size cs 0 V2
  have HF : Hid (Stc (V2.setCells w.heap.size 0 cs) w.heap.size cs ∧ Fr (fun k => k = w.heap.size) V2 (V2.setCells w.heap.size 0 cs) ∧ Below w.heap.size w V2) := ⟨hput, hff, hU.bel⟩
  have HCS := (show Hid _ from hcs)
  clear hU hput hff hcs HU2
  go_wp2_with (first | (refine wpList_load_mid rfl 29 _ rfl (w.heap.size + 1) 0 rfl cs _ hrg Tryd.underlying29 rfl hi14 ?_) | (refine wpList_store_mid rfl 29 _ _ rfl w.heap.size 0 cs.toArray rfl rfl hth hi14' (all_oneCell_toArray hone) ?_; change wpList _ _ _ _ _ (V2.setCells w.heap.size 0 cs)) | fail)
  try simp only [Exit.inBlock, Exit.then]
  refine bodyPost_ret (results_cellE2 rfl _ _ w.heap.size 0 cs _ rfl HF.out.1.range Tryd.underlying29 rfl hi14) rfl ?_
  refine ⟨⟨cs, 4, hcl, hone, rfl, ?_, ?_⟩, HF.out.2.2.trans (HF.out.2.1.below _ HF.out.2.2.size (fun k hk => by omega))⟩
  · intro c' e; cases e
  · intro e' e; injection e with e
set_option linter.unusedVariables false in
set_option maxRecDepth 100000 in
set_option maxHeartbeats 8000000 in
theorem one_sack_many {w : World} {b off n c : Nat} {zs : List Nat} (hs : Sl w (some ⟨b, off, none⟩) n c zs) (hn : n ≤ 2000) (k f : Nat) (hk8 : k < 256) (hf8 : f < 256) (hb : k = 3) (h : 12 ≤ n) (nb nd : Nat) (hnb : nb = numB ((zs.drop 8).take 2)) (hnd : nd = numB ((zs.drop 10).take 2)) (hx : n = 12 + 4 * nb + 4 * nd) (hm : 16 < nb ∨ 16 < nd) :
    Calls Tryd.prog 39 #[.int .u8 (k : Nat), .int .u8 (f : Nat), .slice (some ⟨b, off, none⟩) n c] w (OnR w (.error 6)) := by
  have hlz := hs.len
  have hcap := hs.cap
  have hbnd := hs.bnd
  have HS := (show Hid _ from hs)
  have hz := zero_ch14R
  obtain ⟨W1, hW1⟩ : ∃ W1, W1 = w.alloc (.cells #[.int .u8 0, .int .u8 0, .int .u32 0, .int .u16 0, .int .u16 0, .int .u32 0, .int .u32 0, .int .u32 0, .int .u16 0, .int .u16 0, .slice none 0 0, .slice none 0 0, .slice none 0 0, .slice none 0 0] 29) := ⟨_, rfl⟩
  obtain ⟨W2, hW2⟩ : ∃ W2, W2 = W1.alloc (.cells #[.int .u8 (k : Nat), .int .u8 (f : Nat), .int .u32 0, .int .u16 0, .int .u16 0, .int .u32 0, .int .u32 0, .int .u32 0, .int .u16 0, .int .u16 0, .slice none 0 0, .slice none 0 0, .slice none 0 0, .slice none 0 0] 29) := ⟨_, rfl⟩
  have HU0 : Hid (OnS w W2 [.int .u8 (k : Nat), .int .u8 (f : Nat), .int .u32 0, .int .u16 0, .int .u16 0, .int .u32 0, .int .u32 0, .int .u32 0, .int .u16 0, .int .u16 0, .slice none 0 0, .slice none 0 0, .slice none 0 0, .slice none 0 0]) := OnS.start w W1 W2 _ hW1 hW2
  have HLE := (show Hid _ from fun W => least_any k W)
  have HBA := (show Hid _ from fun W => isBare_any k W)
  clear hs
  have hx1 : n ≤ 12 + 4 * nb + 4 * nd := by omega
  have hx2 : 12 + 4 * nb + 4 * nd ≤ n := by omega
  clear hx
  have e0 : leastN k = 12 := by unfold leastN; rw [if_neg (by omega), if_neg (by omega), if_pos hb]
  rw [e0] at HLE
  rw [show bareB k = false from decide_eq_false (by omega)] at HBA
  have h2 : ¬ (n : Int) < 12 := by omega
  clear e0
  have g0 : ((k : Int) == 0) = false := by simp; omega
  have g1 : ((k : Int) == 1) = false := by simp; omega
  have g2 : ((k : Int) == 2) = false := by simp; omega
  have g3 : ((k : Int) == 3) = true := by simp; omega
  have g7 : ((k : Int) == 7) = false := by simp; omega
  have hnbb : nb < 65536 := by rw [hnb]; exact numB_take (drop_bnd hbnd 8) 2 (by rw [List.length_drop]; omega)
  have hndb : nd < 65536 := by rw [hnd]; exact numB_take (drop_bnd hbnd 10) 2 (by rw [List.length_drop]; omega)
  have HNN := (show Hid _ from And.intro hnb hnd)
  clear hb
  go_enter Tryd.func39, Tryd.ntmps39
  go_wp2_with fail
  rw [← hW1, ← hW2]
  clear hW1 hW2 hz
  refine Calls.mono (HLE.out W2) ?_
  rintro e w3 ⟨rfl, hw3⟩
  replace hw3 := hw3.symm
  subst hw3
  go_wp2_with fail
  refine Calls.mono (HBA.out W2) ?_
  rintro e w3 ⟨rfl, hw3⟩
  replace hw3 := hw3.symm
  subst hw3
  clear HLE HBA
  obtain ⟨n0, hn0⟩ : ∃ n0, n0 = numB ((zs.drop 0).take 4) := ⟨_, rfl⟩
  have HN := (show Hid _ from rnum12 (HS.out.below HU0.out.bel) 0 4 (by omega) (by omega) (by omega) n0 hn0 (.int .i64 0) rfl (.int .i64 4) rfl)
  have HN0 := (show Hid _ from hn0)
  clear hn0
  go_wp2_with fail
  refine Calls.mono HN.out ?_
  clear HN
  rintro e w3 ⟨rfl, hw3⟩
  replace hw3 := hw3.symm
  subst hw3
  have f0 := HU0.out.b8.free 2
  have c0 := HU0.out.b8.cell 2 _ rfl
  obtain ⟨V1, hV1⟩ : ∃ V, V = W2.setCell ⟨w.heap.size + 1, 2, none⟩ (.int .u32 (n0 : Nat)) := ⟨_, rfl⟩
  have HU1 : Hid (OnS w V1 [.int .u8 (k : Nat), .int .u8 (f : Nat), .int .u32 (n0 : Nat), .int .u16 0, .int .u16 0, .int .u32 0, .int .u32 0, .int .u32 0, .int .u16 0, .int .u16 0, .slice none 0 0, .slice none 0 0, .slice none 0 0, .slice none 0 0]) := by rw [hV1]; exact HU0.out.set 2 _
  clear HU0
  obtain ⟨n1, hn1⟩ : ∃ n1, n1 = numB ((zs.drop 4).take 4) := ⟨_, rfl⟩
  have HN := (show Hid _ from rnum12 (HS.out.below HU1.out.bel) 4 4 (by omega) (by omega) (by omega) n1 hn1 (.int .i64 4) rfl (.int .i64 4) rfl)
  have HN1 := (show Hid _ from hn1)
  clear hn1
  go_wp2_with fail
  rw [← hV1]
  clear hV1 f0 c0
  refine Calls.mono HN.out ?_
  clear HN
  rintro e w3 ⟨rfl, hw3⟩
  replace hw3 := hw3.symm
  subst hw3
  have f0 := HU1.out.b8.free 7
  have c0 := HU1.out.b8.cell 7 _ rfl
  obtain ⟨V2, hV2⟩ : ∃ V, V = V1.setCell ⟨w.heap.size + 1, 7, none⟩ (.int .u32 (n1 : Nat)) := ⟨_, rfl⟩
  have HU2 : Hid (OnS w V2 [.int .u8 (k : Nat), .int .u8 (f : Nat), .int .u32 (n0 : Nat), .int .u16 0, .int .u16 0, .int .u32 0, .int .u32 0, .int .u32 (n1 : Nat), .int .u16 0, .int .u16 0, .slice none 0 0, .slice none 0 0, .slice none 0 0, .slice none 0 0]) := by rw [hV2]; exact HU1.out.set 7 _
  clear HU1
  have HN8 := (show Hid _ from rnum12 (HS.out.below HU2.out.bel) 8 2 (by omega) (by omega) (by omega) nb hnb (.int .i64 8) rfl (.int .i64 2) rfl)
  have HN10 := (show Hid _ from rnum12 (HS.out.below HU2.out.bel) 10 2 (by omega) (by omega) (by omega) nd hnd (.int .i64 10) rfl (.int .i64 2) rfl)
  have g9 : ((n : Int) != 12 + 4 * (nb : Int) + 4 * (nd : Int)) = false := by simp; omega
  clear hx1 hx2
  clear hnb hnd
  go_wp2_with fail
  rw [← hV2]
  clear hV2 f0 c0
  refine Calls.mono HN8.out ?_
  clear HN8
  rintro e w3 ⟨rfl, hw3⟩
  replace hw3 := hw3.symm
  subst hw3
  go_wp2_with fail
  refine Calls.mono HN10.out ?_
  clear HN10
  rintro e w3 ⟨rfl, hw3⟩
  replace hw3 := hw3.symm
  subst hw3
  by_cases hm1 : 16 < nb
  · have g8 : (16 : Int) < (nb : Int) := by omega
    clear hm hm1
    obtain ⟨cs, hcs⟩ : ∃ cs : List Value, cs = [.int .u8 (k : Nat), .int .u8 (f : Nat), .int .u32 (n0 : Nat), .int .u16 0, .int .u16 0, .int .u32 0, .int .u32 0, .int .u32 (n1 : Nat), .int .u16 0, .int .u16 0, .slice none 0 0, .slice none 0 0, .slice none 0 0, .slice none 0 0] := ⟨_, rfl⟩
    have hcl : cs.length = 14 := by rw [hcs]; rfl
    have hone : ∀ u ∈ cs, u.oneCell' = true := by rw [hcs]; exact one14 (.u8, (k : Nat)) (.u8, (f : Nat)) (.u32, (n0 : Nat)) (.u16, 0) (.u16, 0) (.u32, 0) (.u32, 0) (.u32, (n1 : Nat)) (.u16, 0) (.u16, 0) (none, 0, 0) (none, 0, 0) (none, 0, 0) (none, 0, 0)
    have hU := HU2.out
    rw [← hcs] at hU
    have hrg := hU.b8.range
    have hth : V2.there w.heap.size 0 cs.toArray.size := by
      have e : cs.toArray.size = 14 := by simp [hcl]
      rw [e]
      exact hU.b6.there
    have hi14 := ch_size14R cs hcl
    have hi14' : (Tryd.prog.info? 29).map (·.size) = some cs.toArray.size := by rw [List.size_toArray]; exact hi14
    have hput := hU.b6.put cs (by rw [hcl]; rfl)
    have hff := fr_setCellsX w.heap.size cs 0 V2
    have HF : Hid (Stc (V2.setCells w.heap.size 0 cs) w.heap.size cs ∧ Fr (fun k => k = w.heap.size) V2 (V2.setCells w.heap.size 0 cs) ∧ Below w.heap.size w V2) := ⟨hput, hff, hU.bel⟩
    have HCS := (show Hid _ from hcs)
    clear hU hput hff hcs HU2
    go_wp2_with (first | (refine wpList_load_mid rfl 29 _ rfl (w.heap.size + 1) 0 rfl cs _ hrg Tryd.underlying29 rfl hi14 ?_) | (refine wpList_store_mid rfl 29 _ _ rfl w.heap.size 0 cs.toArray rfl rfl hth hi14' (all_oneCell_toArray hone) ?_; change wpList _ _ _ _ _ (V2.setCells w.heap.size 0 cs)) | fail)
    try simp only [Exit.inBlock, Exit.then]
    refine bodyPost_ret (results_cellE2 rfl _ _ w.heap.size 0 cs _ rfl HF.out.1.range Tryd.underlying29 rfl hi14) rfl ?_
    refine ⟨⟨cs, 6, hcl, hone, rfl, ?_, ?_⟩, HF.out.2.2.trans (HF.out.2.1.below _ HF.out.2.2.size (fun k hk => by omega))⟩
    · intro c' e; cases e
    · intro e' e; injection e with e
  · have g8 : ¬ (16 : Int) < (nb : Int) := by omega
    have g10 : (16 : Int) < (nd : Int) := by omega
    clear hm hm1
    obtain ⟨cs, hcs⟩ : ∃ cs : List Value, cs = [.int .u8 (k : Nat), .int .u8 (f : Nat), .int .u32 (n0 : Nat), .int .u16 0, .int .u16 0, .int .u32 0, .int .u32 0, .int .u32 (n1 : Nat), .int .u16 0, .int .u16 0, .slice none 0 0, .slice none 0 0, .slice none 0 0, .slice none 0 0] := ⟨_, rfl⟩
    have hcl : cs.length = 14 := by rw [hcs]; rfl
    have hone : ∀ u ∈ cs, u.oneCell' = true := by rw [hcs]; exact one14 (.u8, (k : Nat)) (.u8, (f : Nat)) (.u32, (n0 : Nat)) (.u16, 0) (.u16, 0) (.u32, 0) (.u32, 0) (.u32, (n1 : Nat)) (.u16, 0) (.u16, 0) (none, 0, 0) (none, 0, 0) (none, 0, 0) (none, 0, 0)
    have hU := HU2.out
    rw [← hcs] at hU
    have hrg := hU.b8.range
    have hth : V2.there w.heap.size 0 cs.toArray.size := by
      have e : cs.toArray.size = 14 := by simp [hcl]
      rw [e]
      exact hU.b6.there
    have hi14 := ch_size14R cs hcl
    have hi14' : (Tryd.prog.info? 29).map (·.size) = some cs.toArray.size := by rw [List.size_toArray]; exact hi14
    have hput := hU.b6.put cs (by rw [hcl]; rfl)
    have hff := fr_setCellsX w.heap.size cs 0 V2
    have HF : Hid (Stc (V2.setCells w.heap.size 0 cs) w.heap.size cs ∧ Fr (fun k => k = w.heap.size) V2 (V2.setCells w.heap.size 0 cs) ∧ Below w.heap.size w V2) := ⟨hput, hff, hU.bel⟩
    have HCS := (show Hid _ from hcs)
    clear hU hput hff hcs HU2
    go_wp2_with (first | (refine wpList_load_mid rfl 29 _ rfl (w.heap.size + 1) 0 rfl cs _ hrg Tryd.underlying29 rfl hi14 ?_) | (refine wpList_store_mid rfl 29 _ _ rfl w.heap.size 0 cs.toArray rfl rfl hth hi14' (all_oneCell_toArray hone) ?_; change wpList _ _ _ _ _ (V2.setCells w.heap.size 0 cs)) | fail)
    try simp only [Exit.inBlock, Exit.then]
    refine bodyPost_ret (results_cellE2 rfl _ _ w.heap.size 0 cs _ rfl HF.out.1.range Tryd.underlying29 rfl hi14) rfl ?_
    refine ⟨⟨cs, 6, hcl, hone, rfl, ?_, ?_⟩, HF.out.2.2.trans (HF.out.2.1.below _ HF.out.2.2.size (fun k hk => by omega))⟩
    · intro c' e; cases e
    · intro e' e; injection e with e
set_option linter.unusedVariables false in
set_option maxRecDepth 100000 in
set_option maxHeartbeats 8000000 in
theorem one_sack {w : World} {b off n c : Nat} {zs : List Nat} (hs : Sl w (some ⟨b, off, none⟩) n c zs) (hn : n ≤ 2000) (k f : Nat) (hk8 : k < 256) (hf8 : f < 256) (hb : k = 3) (h : 12 ≤ n) (nb nd : Nat) (hnb : nb = numB ((zs.drop 8).take 2)) (hnd : nd = numB ((zs.drop 10).take 2)) (hx : n = 12 + 4 * nb + 4 * nd) (hm : nb ≤ 16 ∧ nd ≤ 16) :
    Calls Tryd.prog 39 #[.int .u8 (k : Nat), .int .u8 (f : Nat), .slice (some ⟨b, off, none⟩) n c] w (OnR w (.ok ⟨k, f, numB (zs.take 4), 0, 0, 0, 0, numB ((zs.drop 4).take 4), 0, 0, bsOf (zs.drop 12) nb, dsOf ((zs.drop 12).drop (4 * nb)) nd, [], []⟩)) := by
  have hlz := hs.len
  have hcap := hs.cap
  have hbnd := hs.bnd
  have HS := (show Hid _ from hs)
  have hz := zero_ch14R
  obtain ⟨W1, hW1⟩ : ∃ W1, W1 = w.alloc (.cells #[.int .u8 0, .int .u8 0, .int .u32 0, .int .u16 0, .int .u16 0, .int .u32 0, .int .u32 0, .int .u32 0, .int .u16 0, .int .u16 0, .slice none 0 0, .slice none 0 0, .slice none 0 0, .slice none 0 0] 29) := ⟨_, rfl⟩
  obtain ⟨W2, hW2⟩ : ∃ W2, W2 = W1.alloc (.cells #[.int .u8 (k : Nat), .int .u8 (f : Nat), .int .u32 0, .int .u16 0, .int .u16 0, .int .u32 0, .int .u32 0, .int .u32 0, .int .u16 0, .int .u16 0, .slice none 0 0, .slice none 0 0, .slice none 0 0, .slice none 0 0] 29) := ⟨_, rfl⟩
  have HU0 : Hid (OnS w W2 [.int .u8 (k : Nat), .int .u8 (f : Nat), .int .u32 0, .int .u16 0, .int .u16 0, .int .u32 0, .int .u32 0, .int .u32 0, .int .u16 0, .int .u16 0, .slice none 0 0, .slice none 0 0, .slice none 0 0, .slice none 0 0]) := OnS.start w W1 W2 _ hW1 hW2
  have HLE := (show Hid _ from fun W => least_any k W)
  have HBA := (show Hid _ from fun W => isBare_any k W)
  clear hs
  have hx1 : n ≤ 12 + 4 * nb + 4 * nd := by omega
  have hx2 : 12 + 4 * nb + 4 * nd ≤ n := by omega
  obtain ⟨hm1, hm2⟩ := hm
  obtain ⟨bs, hbs⟩ : ∃ bs, bs = bsOf (zs.drop 12) nb := ⟨_, rfl⟩
  obtain ⟨ds, hds⟩ : ∃ ds, ds = dsOf ((zs.drop 12).drop (4 * nb)) nd := ⟨_, rfl⟩
  have hbl : bs.length = nb := by rw [hbs, bsOf_len]
  have hdl : ds.length = nd := by rw [hds, dsOf_len]
  have HBS : Hid (∀ i, i < nb → bs[i]? = some (numB ((zs.drop (12 + 4 * i)).take 2), numB ((zs.drop (14 + 4 * i)).take 2))) := fun i hi => by
    rw [hbs, bsOf_get _ _ _ hi, List.drop_drop, List.drop_drop, show 12 + (4 * i + 2) = 14 + 4 * i by omega]
  have HDS : Hid (∀ i, i < nd → ds[i]? = some (numB ((zs.drop (12 + 4 * nb + 4 * i)).take 4))) := fun i hi => by
    rw [hds, dsOf_get _ _ _ hi, List.drop_drop, List.drop_drop, show 12 + (4 * nb + 4 * i) = 12 + 4 * nb + 4 * i by omega]
  have HBE := (show Hid _ from And.intro hbs hds)
  have HBL := (show Hid _ from And.intro hbl hdl)
  rw [← hbs, ← hds]
  clear hx hbs hds hbl hdl
  have e0 : leastN k = 12 := by unfold leastN; rw [if_neg (by omega), if_neg (by omega), if_pos hb]
  rw [e0] at HLE
  rw [show bareB k = false from decide_eq_false (by omega)] at HBA
  have h2 : ¬ (n : Int) < 12 := by omega
  clear e0
  have g0 : ((k : Int) == 0) = false := by simp; omega
  have g1 : ((k : Int) == 1) = false := by simp; omega
  have g2 : ((k : Int) == 2) = false := by simp; omega
  have g3 : ((k : Int) == 3) = true := by simp; omega
  have g7 : ((k : Int) == 7) = false := by simp; omega
  have hnbb : nb < 65536 := by rw [hnb]; exact numB_take (drop_bnd hbnd 8) 2 (by rw [List.length_drop]; omega)
  have hndb : nd < 65536 := by rw [hnd]; exact numB_take (drop_bnd hbnd 10) 2 (by rw [List.length_drop]; omega)
  have HNN := (show Hid _ from And.intro hnb hnd)
  clear hb
  go_enter Tryd.func39, Tryd.ntmps39
  go_wp2_with fail
  rw [← hW1, ← hW2]
  clear hW1 hW2 hz
  refine Calls.mono (HLE.out W2) ?_
  rintro e w3 ⟨rfl, hw3⟩
  replace hw3 := hw3.symm
  subst hw3
  go_wp2_with fail
  refine Calls.mono (HBA.out W2) ?_
  rintro e w3 ⟨rfl, hw3⟩
  replace hw3 := hw3.symm
  subst hw3
  clear HLE HBA
  obtain ⟨n0, hn0⟩ : ∃ n0, n0 = numB ((zs.drop 0).take 4) := ⟨_, rfl⟩
  have HN := (show Hid _ from rnum12 (HS.out.below HU0.out.bel) 0 4 (by omega) (by omega) (by omega) n0 hn0 (.int .i64 0) rfl (.int .i64 4) rfl)
  have HN0 := (show Hid _ from hn0)
  clear hn0
  go_wp2_with fail
  refine Calls.mono HN.out ?_
  clear HN
  rintro e w3 ⟨rfl, hw3⟩
  replace hw3 := hw3.symm
  subst hw3
  have f0 := HU0.out.b8.free 2
  have c0 := HU0.out.b8.cell 2 _ rfl
  obtain ⟨V1, hV1⟩ : ∃ V, V = W2.setCell ⟨w.heap.size + 1, 2, none⟩ (.int .u32 (n0 : Nat)) := ⟨_, rfl⟩
  have HU1 : Hid (OnS w V1 [.int .u8 (k : Nat), .int .u8 (f : Nat), .int .u32 (n0 : Nat), .int .u16 0, .int .u16 0, .int .u32 0, .int .u32 0, .int .u32 0, .int .u16 0, .int .u16 0, .slice none 0 0, .slice none 0 0, .slice none 0 0, .slice none 0 0]) := by rw [hV1]; exact HU0.out.set 2 _
  clear HU0
  obtain ⟨n1, hn1⟩ : ∃ n1, n1 = numB ((zs.drop 4).take 4) := ⟨_, rfl⟩
  have HN := (show Hid _ from rnum12 (HS.out.below HU1.out.bel) 4 4 (by omega) (by omega) (by omega) n1 hn1 (.int .i64 4) rfl (.int .i64 4) rfl)
  have HN1 := (show Hid _ from hn1)
  clear hn1
  go_wp2_with fail
  rw [← hV1]
  clear hV1 f0 c0
  refine Calls.mono HN.out ?_
  clear HN
  rintro e w3 ⟨rfl, hw3⟩
  replace hw3 := hw3.symm
  subst hw3
  have f0 := HU1.out.b8.free 7
  have c0 := HU1.out.b8.cell 7 _ rfl
  obtain ⟨V2, hV2⟩ : ∃ V, V = V1.setCell ⟨w.heap.size + 1, 7, none⟩ (.int .u32 (n1 : Nat)) := ⟨_, rfl⟩
  have HU2 : Hid (OnS w V2 [.int .u8 (k : Nat), .int .u8 (f : Nat), .int .u32 (n0 : Nat), .int .u16 0, .int .u16 0, .int .u32 0, .int .u32 0, .int .u32 (n1 : Nat), .int .u16 0, .int .u16 0, .slice none 0 0, .slice none 0 0, .slice none 0 0, .slice none 0 0]) := by rw [hV2]; exact HU1.out.set 7 _
  clear HU1
  have HN8 := (show Hid _ from rnum12 (HS.out.below HU2.out.bel) 8 2 (by omega) (by omega) (by omega) nb hnb (.int .i64 8) rfl (.int .i64 2) rfl)
  have HN10 := (show Hid _ from rnum12 (HS.out.below HU2.out.bel) 10 2 (by omega) (by omega) (by omega) nd hnd (.int .i64 10) rfl (.int .i64 2) rfl)
  have g9 : ((n : Int) != 12 + 4 * (nb : Int) + 4 * (nd : Int)) = false := by simp; omega
  have g8 : ¬ (16 : Int) < (nb : Int) := by omega
  have g10 : ¬ (16 : Int) < (nd : Int) := by omega
  clear hnb hnd
  go_wp2_with fail
  rw [← hV2]
  clear hV2 f0 c0
  refine Calls.mono HN8.out ?_
  clear HN8
  rintro e w3 ⟨rfl, hw3⟩
  replace hw3 := hw3.symm
  subst hw3
  go_wp2_with fail
  refine Calls.mono HN10.out ?_
  clear HN10
  rintro e w3 ⟨rfl, hw3⟩
  replace hw3 := hw3.symm
  subst hw3
  have HS0 : Hid (OnS w V2 [.int .u8 (k : Nat), .int .u8 (f : Nat), .int .u32 (n0 : Nat), .int .u16 0, .int .u16 0, .int .u32 0, .int .u32 0, .int .u32 (n1 : Nat), .int .u16 0, .int .u16 0, .slice none 0 0, .slice none 0 0, .slice none 0 0, .slice none 0 0] ∧ OwnK V2 (w.heap.size + 2) none 0 0 (bs.take 0)) := ⟨HU2.out, OwnG.nil _ _⟩
  clear HU2
  go_wp2_with fail
  go_loopw [12] (fun u wr => ∃ (i : Nat) (la : Option Addr) (lc : Nat), i ≤ nb ∧ u = .int .i64 (i : Nat) ∧ OnS w wr [.int .u8 (k : Nat), .int .u8 (f : Nat), .int .u32 (n0 : Nat), .int .u16 0, .int .u16 0, .int .u32 0, .int .u32 0, .int .u32 (n1 : Nat), .int .u16 0, .int .u16 0, .slice la i lc, .slice none 0 0, .slice none 0 0, .slice none 0 0] ∧ OwnK wr (w.heap.size + 2) la i lc (bs.take i)) (fun u _ => nb - (intOf u).toNat)
  case atStart => exact ⟨0, none, 0, by omega, rfl, HS0.out⟩
  case round =>
    obtain ⟨i, la, lc, hin, rfl, hS, hO⟩ := hrel
    have HSO := (show Hid _ from And.intro hS hO)
    clear hS hO HS0
    by_cases hlt : i < nb
    · have hlt1 : (i : Int) < (nb : Int) := by omega
      obtain ⟨f1, hf1⟩ : ∃ f1, f1 = numB ((zs.drop (12 + 4 * i)).take 2) := ⟨_, rfl⟩
      obtain ⟨f2, hf2⟩ : ∃ f2, f2 = numB ((zs.drop (14 + 4 * i)).take 2) := ⟨_, rfl⟩
      have hb1 : f1 < 65536 := by rw [hf1]; exact numB_take (drop_bnd hbnd _) 2 (by rw [List.length_drop]; omega)
      have hb2 : f2 < 65536 := by rw [hf2]; exact numB_take (drop_bnd hbnd _) 2 (by rw [List.length_drop]; omega)
      have HTK : Hid (bs.take i ++ [(f1, f2)] = bs.take (i + 1)) := by show _ = _; rw [List.take_add_one, HBS.out i hlt, hf1, hf2]; rfl
      obtain ⟨U0, hU0⟩ : ∃ U0, U0 = wr.drew := ⟨_, rfl⟩
      have bd : Below wr.heap.size wr U0 := by rw [hU0]; exact (Below.refl _ _).drew
      have s0 := HSO.out.1.below bd
      have o0 := OwnG.below HSO.out.2 bd
      have hul : w.heap.size + 1 < U0.heap.size := s0.b8.lt
      obtain ⟨U1, hU1⟩ : ∃ U1, U1 = U0.alloc (.cells #[.int .u16 (f1 : Nat), .int .u16 (f2 : Nat)] 113) := ⟨_, rfl⟩
      have s1 := s0.below (V' := U1) (by rw [hU1]; exact (Below.refl _ _).alloc (Nat.le_refl _) _)
      obtain ⟨g7, c7, U2, hr7, o7, fr7⟩ := ownK_appR o0 (f1, f2) (by omega) (by omega)
      dsimp only at hr7
      rw [← hU1] at hr7
      have s2 := s0.fr fr7 (fun g hg => by have := (o0.own.lt g hg).1; omega)
      obtain ⟨U3, hU3⟩ : ∃ U3, U3 = U2.setCell ⟨w.heap.size + 1, 10, none⟩ (.slice (some ⟨g7, 0, none⟩) (i + 1) c7) := ⟨_, rfl⟩
      have s3 : OnS w U3 [.int .u8 (k : Nat), .int .u8 (f : Nat), .int .u32 (n0 : Nat), .int .u16 0, .int .u16 0, .int .u32 0, .int .u32 0, .int .u32 (n1 : Nat), .int .u16 0, .int .u16 0, .slice (some ⟨g7, 0, none⟩) (i + 1) c7, .slice none 0 0, .slice none 0 0, .slice none 0 0] := by rw [hU3]; exact s2.set 10 _
      have o3 : OwnK U3 (w.heap.size + 2) (some ⟨g7, 0, none⟩) (i + 1) c7 (bs.take (i + 1)) := by
        rw [hU3, ← HTK.out]
        exact OwnG.fr o7 (Fr.setCell (fun g => g = w.heap.size + 1) U2 _ _ rfl) (fun g hg => by have := (o7.own.lt g hg).1; omega)
      have HF := (show Hid _ from And.intro s3 o3)
      have hbU : ∀ X, X = U0 ∨ X = U1 ∨ X = U2 ∨ X = U3 → Below w.heap.size w X := by
        rintro X (rfl | rfl | rfl | rfl)
        · exact s0.bel
        · exact s1.bel
        · exact s2.bel
        · exact s3.bel
      obtain ⟨Wst, hWst⟩ : ∃ Wst : Nat → World, Wst = fun k => match k with | 0 => U0 | 1 => U1 | 2 => U2 | _ => U3 := ⟨_, rfl⟩
      have HWS : Hid (Wst 0 = U0 ∧ Wst 1 = U1 ∧ Wst 2 = U2 ∧ Wst 3 = U3) := by rw [hWst]; exact ⟨rfl, rfl, rfl, rfl⟩
      have HBW : Hid (∀ k, Below w.heap.size w (Wst k)) := fun k => by
        rw [hWst]
        match k with
        | 0 => exact s0.bel
        | 1 => exact s1.bel
        | 2 => exact s2.bel
        | k + 3 => exact s3.bel
      have HNA : Hid (∀ V, Below w.heap.size w V → Calls Tryd.prog 38 #[.slice (some ⟨b, off, none⟩) n c, .int .i64 (12 + 4 * (i : Int)), .int .i64 2] V fun e w' => e = .returned (.int .u32 (f1 : Nat)) ∧ w' = V) := fun V hV => rnum12 (HS.out.below hV) (12 + 4 * i) 2 (by omega) (by omega) (by omega) f1 hf1 _ (congrArg (Value.int .i64) (by omega)) _ rfl
      have HNB : Hid (∀ V, Below w.heap.size w V → Calls Tryd.prog 38 #[.slice (some ⟨b, off, none⟩) n c, .int .i64 (14 + 4 * (i : Int)), .int .i64 2] V fun e w' => e = .returned (.int .u32 (f2 : Nat)) ∧ w' = V) := fun V hV => rnum12 (HS.out.below hV) (14 + 4 * i) 2 (by omega) (by omega) (by omega) f2 hf2 _ (congrArg (Value.int .i64) (by omega)) _ rfl
      have hU0e : Hid (U0 = wr.drew) := hU0
      have hU1e := (show Hid _ from hU1)
      have hU3e := (show Hid _ from hU3)
      have HRA := (show Hid _ from hr7)
      have HST := (show Hid _ from And.intro (s2.b8.cell 10 _ rfl) (s2.b8.free 10))
      have HLD := (show Hid _ from And.intro (s0.b8.cell 10 _ rfl) (s1.b8.cell 10 _ rfl))
      have HWR : Hid (IntKind.i64.wrap (4 * (i : Int)) = 4 * (i : Int) ∧ IntKind.i64.wrap (12 + 4 * (i : Int)) = 12 + 4 * (i : Int) ∧ IntKind.i64.wrap (14 + 4 * (i : Int)) = 14 + 4 * (i : Int) ∧ IntKind.u16.wrap ((f1 : Nat) : Int) = f1 ∧ IntKind.u16.wrap ((f2 : Nat) : Int) = f2) := ⟨by rw [IntKind.wrap_i64]; omega, by rw [IntKind.wrap_i64]; omega, by rw [IntKind.wrap_i64]; omega, by rw [IntKind.wrap_u16]; omega, by rw [IntKind.wrap_u16]; omega⟩
      clear hWst hbU
      clear bd s0 o0 hul hU1 s1 hr7 o7 fr7 s2 hU3 s3 o3 hU0 HSO hf1 hf2
      go_wp2_with fail
      refine wp_region_seqF mixedX [] (fun l V => V = Wst (cntL l [15, 16, 18])) (fun _ _ _ => False) [(131, .pointer (some ⟨(w.heap.size + 1), 10, none⟩)), (132, .slice la i lc), (133, .slice (some ⟨b, off, none⟩) n c), (134, .int .i64 (i : Nat)), (135, .int .i64 (4 * (i : Int))), (136, .int .i64 (12 + 4 * (i : Int))), (137, .int .u32 (f1 : Nat)), (138, .int .u16 (f1 : Nat)), (139, .slice (some ⟨b, off, none⟩) n c), (140, .int .i64 (i : Nat)), (141, .int .i64 (4 * (i : Int))), (142, .int .i64 (14 + 4 * (i : Int))), (143, .int .u32 (f2 : Nat)), (144, .int .u16 (f2 : Nat)), (145, .agg #[.int .u16 (f1 : Nat), .int .u16 (f2 : Nat)]), (146, .slice (some ⟨U0.heap.size, 0, none⟩) 1 1), (147, .slice (some ⟨g7, 0, none⟩) (i + 1) c7), (148, .pointer (some ⟨(w.heap.size + 1), 10, none⟩))] ?Z1 ?hZ1 (by kernel_rfl) (by kernel_rfl) (by kernel_rfl) (by kernel_rfl) ?h01 ?hops1 ?hq1 ?he1
      case hZ1 => simp only [List.foldl_cons, List.foldl_nil, List.setIfInBounds_toArray, List.set_cons_zero, List.set_cons_succ]; rfl
      case h01 => rw [← hU0e.out]; exact HWS.out.1.symm
      case hops1 =>
        refine ⟨?_, ?_, ?_, ?_, ?_, ?_, ?_, ?_, ?_, ?_, ?_, ?_, ?_, ?_, ?_, ?_, ?_, ?_, ?_, trivial⟩
        · exact seqF_val (by rfl) (fun l V hg => by rw [cntL_other _ _ _ (by decide)]; exact hg) (fun l V hl hc hg => by obtain ⟨hw1, hw2, hw3, hw4, hw5⟩ := HWR.out; go_simp; (try with_reducible rfl); (try omega))
        · exact seqF_val (by rfl) (fun l V hg => by rw [cntL_other _ _ _ (by decide)]; exact hg) (fun l V hl hc hg => by
            have h16 : l 16 = false := (by cases h : l 16 with | false => rfl | true => exact absurd (hc 16 1 (by kernel_rfl) h) (by rw [hl]; decide))
            have hcV : V.cell? ⟨w.heap.size + 1, 10, none⟩ = some (.slice la i lc) := by
              cases h : l 15 with
              | false => rw [show V = U0 from by rw [show V = _ from hg, cnt3_0 h]; exact HWS.out.1]; exact HLD.out.1
              | true => rw [show V = U1 from by rw [show V = _ from hg, cnt3_1 h h16]; exact HWS.out.2.1]; exact HLD.out.2
            clear hg
            go_simp; (try with_reducible rfl))
        · exact seqF_val (by rfl) (fun l V hg => by rw [cntL_other _ _ _ (by decide)]; exact hg) (fun l V hl hc hg => by obtain ⟨hw1, hw2, hw3, hw4, hw5⟩ := HWR.out; go_simp; (try with_reducible rfl); (try omega))
        · exact seqF_val (by rfl) (fun l V hg => by rw [cntL_other _ _ _ (by decide)]; exact hg) (fun l V hl hc hg => by obtain ⟨hw1, hw2, hw3, hw4, hw5⟩ := HWR.out; go_simp; (try with_reducible rfl); (try omega))
        · exact seqF_val (by rfl) (fun l V hg => by rw [cntL_other _ _ _ (by decide)]; exact hg) (fun l V hl hc hg => by obtain ⟨hw1, hw2, hw3, hw4, hw5⟩ := HWR.out; go_simp; (try with_reducible rfl); (try omega))
        · exact seqF_val (by rfl) (fun l V hg => by rw [cntL_other _ _ _ (by decide)]; exact hg) (fun l V hl hc hg => by obtain ⟨hw1, hw2, hw3, hw4, hw5⟩ := HWR.out; go_simp; (try with_reducible rfl); (try omega))
        · exact seqF_call (vs := [.slice (some ⟨b, off, none⟩) n c, .int .i64 (12 + 4 * (i : Int)), .int .i64 2]) (by rfl) rfl (by rfl) Tryd.func38 (by rfl) (by rfl) (fun l V hl hd hc hg => by
            exact Calls.mono (HNA.out V (by rw [hg]; exact HBW.out _)) (fun e V9 h => .inl ⟨h.1, by rw [h.2, cntL_other _ _ _ (by decide)]; exact hg⟩))
        · exact seqF_val (by rfl) (fun l V hg => by rw [cntL_other _ _ _ (by decide)]; exact hg) (fun l V hl hc hg => by obtain ⟨hw1, hw2, hw3, hw4, hw5⟩ := HWR.out; go_simp; (try with_reducible rfl); (try omega))
        · exact seqF_val (by rfl) (fun l V hg => by rw [cntL_other _ _ _ (by decide)]; exact hg) (fun l V hl hc hg => by obtain ⟨hw1, hw2, hw3, hw4, hw5⟩ := HWR.out; go_simp; (try with_reducible rfl); (try omega))
        · exact seqF_val (by rfl) (fun l V hg => by rw [cntL_other _ _ _ (by decide)]; exact hg) (fun l V hl hc hg => by obtain ⟨hw1, hw2, hw3, hw4, hw5⟩ := HWR.out; go_simp; (try with_reducible rfl); (try omega))
        · exact seqF_val (by rfl) (fun l V hg => by rw [cntL_other _ _ _ (by decide)]; exact hg) (fun l V hl hc hg => by obtain ⟨hw1, hw2, hw3, hw4, hw5⟩ := HWR.out; go_simp; (try with_reducible rfl); (try omega))
        · exact seqF_val (by rfl) (fun l V hg => by rw [cntL_other _ _ _ (by decide)]; exact hg) (fun l V hl hc hg => by obtain ⟨hw1, hw2, hw3, hw4, hw5⟩ := HWR.out; go_simp; (try with_reducible rfl); (try omega))
        · exact seqF_call (vs := [.slice (some ⟨b, off, none⟩) n c, .int .i64 (14 + 4 * (i : Int)), .int .i64 2]) (by rfl) rfl (by rfl) Tryd.func38 (by rfl) (by rfl) (fun l V hl hd hc hg => by
            exact Calls.mono (HNB.out V (by rw [hg]; exact HBW.out _)) (fun e V9 h => .inl ⟨h.1, by rw [h.2, cntL_other _ _ _ (by decide)]; exact hg⟩))
        · exact seqF_val (by rfl) (fun l V hg => by rw [cntL_other _ _ _ (by decide)]; exact hg) (fun l V hl hc hg => by obtain ⟨hw1, hw2, hw3, hw4, hw5⟩ := HWR.out; go_simp; (try with_reducible rfl); (try omega))
        · exact seqF_val (by rfl) (fun l V hg => by rw [cntL_other _ _ _ (by decide)]; exact hg) (fun l V hl hc hg => by obtain ⟨hw1, hw2, hw3, hw4, hw5⟩ := HWR.out; go_simp; (try with_reducible rfl); (try omega))
        · exact seqF_run (by rfl) (fun l V hl hd hc hg => by
            have h16 : l 16 = false := (by cases h : l 16 with | false => rfl | true => exact absurd (hc 16 15 (by kernel_rfl) h) (by rw [hl]; decide))
            have h18 : l 18 = false := (by cases h : l 18 with | false => rfl | true => exact absurd (hc 18 15 (by kernel_rfl) h) (by rw [hl]; decide))
            have hV : V = U0 := by rw [show V = _ from hg, cnt3_0 hl]; exact HWS.out.1
            clear hg
            subst hV
            refine ⟨U1, ?_, ?_⟩
            · rw [hU1e.out]; go_simp
            · show U1 = Wst _
              rw [cnt3_1 updL_eqC (by rw [updL_neC (by decide)]; exact h16)]
              exact HWS.out.2.1.symm)
        · exact seqF_run (by rfl) (fun l V hl hd hc hg => by
            have h15 : l 15 = true := hc 15 15 (by kernel_rfl) (hd 15 (by kernel_rfl))
            have h18 : l 18 = false := (by cases h : l 18 with | false => rfl | true => exact absurd (hc 18 16 (by kernel_rfl) h) (by rw [hl]; decide))
            have hV : V = U1 := by rw [show V = _ from hg, cnt3_1 h15 hl]; exact HWS.out.2.1
            clear hg
            subst hV
            refine ⟨U2, ?_, ?_⟩
            · exact run_appX (S := 24) rfl rfl (by rfl) (by rfl) HRA.out
            · show U2 = Wst _
              rw [cnt3_2 (by rw [updL_neC (by decide)]; exact h15) updL_eqC (by rw [updL_neC (by decide)]; exact h18)]
              exact HWS.out.2.2.1.symm)
        · exact seqF_val (by rfl) (fun l V hg => by rw [cntL_other _ _ _ (by decide)]; exact hg) (fun l V hl hc hg => by obtain ⟨hw1, hw2, hw3, hw4, hw5⟩ := HWR.out; go_simp; (try with_reducible rfl); (try omega))
        · exact seqF_skip (by rfl) rfl (fun l V hl hd hc hg => by
            have h15 : l 15 = true := hc 16 15 (by kernel_rfl) (hd 16 (by kernel_rfl))
            have h16 : l 16 = true := hc 16 16 (by kernel_rfl) (hd 16 (by kernel_rfl))
            have hV : V = U2 := by rw [show V = _ from hg, cnt3_2 h15 h16 hl]; exact HWS.out.2.2.1
            clear hg
            subst hV
            refine ⟨U3, ?_, ?_⟩
            · have hc9 := HST.out.1; have hf9 := HST.out.2; rw [hU3e.out]; go_simp
            · show U3 = Wst _
              rw [cnt3_3 (by rw [updL_neC (by decide)]; exact h15) (by rw [updL_neC (by decide)]; exact h16) updL_eqC]
              exact HWS.out.2.2.2.symm)
      case hq1 => exact fun _ _ _ _ _ _ _ h => h.elim
      case he1 =>
      intro l V hall hg
      have hV : V = U3 := by
        have := hg
        rw [this, cnt3_3 (hall 15 (by decide)) (hall 16 (by decide)) (hall 18 (by decide))]
        exact HWS.out.2.2.2
      subst hV
      clear hall hg HWS HBW HNA HNB hU0e hU1e hU3e HRA HST HLD HWR
      go_wp2
      go_roundw
      case rel => exact ⟨i + 1, _, _, by omega, by go_num, HF.out⟩
      case measure => simp [intOf]; omega
    · have hlt1 : ¬ (i : Int) < (nb : Int) := by omega
      have hin2 : i = nb := by omega
      have HS1 : Hid (OnS w wr [.int .u8 (k : Nat), .int .u8 (f : Nat), .int .u32 (n0 : Nat), .int .u16 0, .int .u16 0, .int .u32 0, .int .u32 0, .int .u32 (n1 : Nat), .int .u16 0, .int .u16 0, .slice la nb lc, .slice none 0 0, .slice none 0 0, .slice none 0 0] ∧ OwnK wr (w.heap.size + 2) la nb lc bs ∧ OwnD wr (w.heap.size + 2) none 0 0 (ds.take 0)) := by
        obtain ⟨h1, h2⟩ := HSO.out
        rw [hin2] at h1 h2
        rw [List.take_of_length_le (by rw [HBL.out.1]; exact Nat.le_refl _)] at h2
        exact ⟨h1, h2, OwnG.nil _ _⟩
      obtain ⟨wk, hwk⟩ : ∃ wk, wk = wr := ⟨_, rfl⟩
      subst hwk
      clear HSO hin2 hlt
      go_wp2_with fail
      go_loopw [13] (fun u wr => ∃ (j : Nat) (ma : Option Addr) (mc : Nat), j ≤ nd ∧ u = .int .i64 (j : Nat) ∧ OnS w wr [.int .u8 (k : Nat), .int .u8 (f : Nat), .int .u32 (n0 : Nat), .int .u16 0, .int .u16 0, .int .u32 0, .int .u32 0, .int .u32 (n1 : Nat), .int .u16 0, .int .u16 0, .slice la nb lc, .slice ma j mc, .slice none 0 0, .slice none 0 0] ∧ OwnK wr (w.heap.size + 2) la nb lc bs ∧ OwnD wr (w.heap.size + 2) ma j mc (ds.take j)) (fun u _ => nd - (intOf u).toNat)
      case atStart => exact ⟨0, none, 0, by omega, rfl, HS1.out⟩
      case round =>
        obtain ⟨j, ma, mc, hjn, rfl, hS, hOK, hO⟩ := hrel
        have HSO := (show Hid _ from And.intro hS (And.intro hOK hO))
        clear hS hO hOK HS1
        by_cases hltj : j < nd
        · have hltj1 : (j : Int) < (nd : Int) := by omega
          obtain ⟨d, hd⟩ : ∃ d, d = numB ((zs.drop (12 + 4 * nb + 4 * j)).take 4) := ⟨_, rfl⟩
          have HTK : Hid (ds.take j ++ [d] = ds.take (j + 1)) := by show _ = _; rw [List.take_add_one, HDS.out j hltj, hd]; rfl
          obtain ⟨U0, hU0⟩ : ∃ U0, U0 = wr.drew := ⟨_, rfl⟩
          have bd : Below wr.heap.size wr U0 := by rw [hU0]; exact (Below.refl _ _).drew
          have s0 := HSO.out.1.below bd
          have k0 := OwnG.below HSO.out.2.1 bd
          have o0 := OwnG.below HSO.out.2.2 bd
          have hul : w.heap.size + 1 < U0.heap.size := s0.b8.lt
          obtain ⟨U1, hU1⟩ : ∃ U1, U1 = U0.alloc (.cells #[.int .u32 (d : Nat)] 22) := ⟨_, rfl⟩
          have s1 := s0.below (V' := U1) (by rw [hU1]; exact (Below.refl _ _).alloc (Nat.le_refl _) _)
          obtain ⟨g7, c7, U2, hr7, o7, fr7⟩ := ownD_appR o0 d (by omega) (by omega)
          rw [← hU1] at hr7
          have s2 := s0.fr fr7 (fun g hg => by have := (o0.own.lt g hg).1; omega)
          have k2 := OwnG.fr k0 fr7 (fun g hg e => (ownG_apart (by decide) k0 o0).elim (fun h9 => by rw [hg] at h9; cases h9) (fun h9 => h9 (by rw [hg]; exact e.symm)))
          obtain ⟨U3, hU3⟩ : ∃ U3, U3 = U2.setCell ⟨w.heap.size + 1, 11, none⟩ (.slice (some ⟨g7, 0, none⟩) (j + 1) c7) := ⟨_, rfl⟩
          have s3 : OnS w U3 [.int .u8 (k : Nat), .int .u8 (f : Nat), .int .u32 (n0 : Nat), .int .u16 0, .int .u16 0, .int .u32 0, .int .u32 0, .int .u32 (n1 : Nat), .int .u16 0, .int .u16 0, .slice la nb lc, .slice (some ⟨g7, 0, none⟩) (j + 1) c7, .slice none 0 0, .slice none 0 0] := by rw [hU3]; exact s2.set 11 _
          have k3 : OwnK U3 (w.heap.size + 2) la nb lc bs := by
            rw [hU3]
            exact OwnG.fr k2 (Fr.setCell (fun g => g = w.heap.size + 1) U2 _ _ rfl) (fun g hg => by have := (k2.own.lt g hg).1; omega)
          have o3 : OwnD U3 (w.heap.size + 2) (some ⟨g7, 0, none⟩) (j + 1) c7 (ds.take (j + 1)) := by
            rw [hU3, ← HTK.out]
            exact OwnG.fr o7 (Fr.setCell (fun g => g = w.heap.size + 1) U2 _ _ rfl) (fun g hg => by have := (o7.own.lt g hg).1; omega)
          have HF := (show Hid _ from And.intro s3 (And.intro k3 o3))
          have hbU : ∀ X, X = U0 ∨ X = U1 ∨ X = U2 ∨ X = U3 → Below w.heap.size w X := by
            rintro X (rfl | rfl | rfl | rfl)
            · exact s0.bel
            · exact s1.bel
            · exact s2.bel
            · exact s3.bel
          obtain ⟨Wst, hWst⟩ : ∃ Wst : Nat → World, Wst = fun k => match k with | 0 => U0 | 1 => U1 | 2 => U2 | _ => U3 := ⟨_, rfl⟩
          have HWS : Hid (Wst 0 = U0 ∧ Wst 1 = U1 ∧ Wst 2 = U2 ∧ Wst 3 = U3) := by rw [hWst]; exact ⟨rfl, rfl, rfl, rfl⟩
          have HBW : Hid (∀ k, Below w.heap.size w (Wst k)) := fun k => by
            rw [hWst]
            match k with
            | 0 => exact s0.bel
            | 1 => exact s1.bel
            | 2 => exact s2.bel
            | k + 3 => exact s3.bel
          have HNA : Hid (∀ V, Below w.heap.size w V → Calls Tryd.prog 38 #[.slice (some ⟨b, off, none⟩) n c, .int .i64 (12 + 4 * (nb : Int) + 4 * (j : Int)), .int .i64 4] V fun e w' => e = .returned (.int .u32 (d : Nat)) ∧ w' = V) := fun V hV => rnum12 (HS.out.below hV) (12 + 4 * nb + 4 * j) 4 (by omega) (by omega) (by omega) d hd _ (congrArg (Value.int .i64) (by omega)) _ rfl
          have hU0e : Hid (U0 = wr.drew) := hU0
          have hU1e := (show Hid _ from hU1)
          have hU3e := (show Hid _ from hU3)
          have HRA := (show Hid _ from hr7)
          have HST := (show Hid _ from And.intro (s2.b8.cell 11 _ rfl) (s2.b8.free 11))
          have HLD := (show Hid _ from And.intro (s0.b8.cell 11 _ rfl) (s1.b8.cell 11 _ rfl))
          have HWR : Hid (IntKind.i64.wrap (4 * (nb : Int)) = 4 * (nb : Int) ∧ IntKind.i64.wrap (12 + 4 * (nb : Int)) = 12 + 4 * (nb : Int) ∧ IntKind.i64.wrap (4 * (j : Int)) = 4 * (j : Int) ∧ IntKind.i64.wrap (12 + 4 * (nb : Int) + 4 * (j : Int)) = 12 + 4 * (nb : Int) + 4 * (j : Int)) := ⟨by rw [IntKind.wrap_i64]; omega, by rw [IntKind.wrap_i64]; omega, by rw [IntKind.wrap_i64]; omega, by rw [IntKind.wrap_i64]; omega⟩
          clear hWst hbU
          clear bd s0 k0 o0 hul hU1 s1 hr7 o7 fr7 s2 k2 hU3 s3 k3 o3 hU0 HSO hd
          go_wp2_with fail
          refine wp_region_seqF mixedX [] (fun l V => V = Wst (cntL l [10, 11, 13])) (fun _ _ _ => False) [(154, .pointer (some ⟨(w.heap.size + 1), 11, none⟩)), (155, .slice ma j mc), (156, .slice (some ⟨b, off, none⟩) n c), (157, .int .i64 (nb : Nat)), (158, .int .i64 (4 * (nb : Int))), (159, .int .i64 (12 + 4 * (nb : Int))), (160, .int .i64 (j : Nat)), (161, .int .i64 (4 * (j : Int))), (162, .int .i64 (12 + 4 * (nb : Int) + 4 * (j : Int))), (163, .int .u32 (d : Nat)), (164, .slice (some ⟨U0.heap.size, 0, none⟩) 1 1), (165, .slice (some ⟨g7, 0, none⟩) (j + 1) c7), (166, .pointer (some ⟨(w.heap.size + 1), 11, none⟩))] ?Z2 ?hZ2 (by kernel_rfl) (by kernel_rfl) (by kernel_rfl) (by kernel_rfl) ?h02 ?hops2 ?hq2 ?he2
          case hZ2 => simp only [List.foldl_cons, List.foldl_nil, List.setIfInBounds_toArray, List.set_cons_zero, List.set_cons_succ]; rfl
          case h02 => rw [← hU0e.out]; exact HWS.out.1.symm
          case hops2 =>
            refine ⟨?_, ?_, ?_, ?_, ?_, ?_, ?_, ?_, ?_, ?_, ?_, ?_, ?_, ?_, trivial⟩
            · exact seqF_val (by rfl) (fun l V hg => by rw [cntL_other _ _ _ (by decide)]; exact hg) (fun l V hl hc hg => by obtain ⟨hw1, hw2, hw3, hw4⟩ := HWR.out; go_simp; (try with_reducible rfl); (try omega))
            · exact seqF_val (by rfl) (fun l V hg => by rw [cntL_other _ _ _ (by decide)]; exact hg) (fun l V hl hc hg => by
                have h11 : l 11 = false := (by cases h : l 11 with | false => rfl | true => exact absurd (hc 11 1 (by kernel_rfl) h) (by rw [hl]; decide))
                have hcV : V.cell? ⟨w.heap.size + 1, 11, none⟩ = some (.slice ma j mc) := by
                  cases h : l 10 with
                  | false => rw [show V = U0 from by rw [show V = _ from hg, cnt3_0 h]; exact HWS.out.1]; exact HLD.out.1
                  | true => rw [show V = U1 from by rw [show V = _ from hg, cnt3_1 h h11]; exact HWS.out.2.1]; exact HLD.out.2
                clear hg
                go_simp; (try with_reducible rfl))
            · exact seqF_val (by rfl) (fun l V hg => by rw [cntL_other _ _ _ (by decide)]; exact hg) (fun l V hl hc hg => by obtain ⟨hw1, hw2, hw3, hw4⟩ := HWR.out; go_simp; (try with_reducible rfl); (try omega))
            · exact seqF_val (by rfl) (fun l V hg => by rw [cntL_other _ _ _ (by decide)]; exact hg) (fun l V hl hc hg => by obtain ⟨hw1, hw2, hw3, hw4⟩ := HWR.out; go_simp; (try with_reducible rfl); (try omega))
            · exact seqF_val (by rfl) (fun l V hg => by rw [cntL_other _ _ _ (by decide)]; exact hg) (fun l V hl hc hg => by obtain ⟨hw1, hw2, hw3, hw4⟩ := HWR.out; go_simp; (try with_reducible rfl); (try omega))
            · exact seqF_val (by rfl) (fun l V hg => by rw [cntL_other _ _ _ (by decide)]; exact hg) (fun l V hl hc hg => by obtain ⟨hw1, hw2, hw3, hw4⟩ := HWR.out; go_simp; (try with_reducible rfl); (try omega))
            · exact seqF_val (by rfl) (fun l V hg => by rw [cntL_other _ _ _ (by decide)]; exact hg) (fun l V hl hc hg => by obtain ⟨hw1, hw2, hw3, hw4⟩ := HWR.out; go_simp; (try with_reducible rfl); (try omega))
            · exact seqF_val (by rfl) (fun l V hg => by rw [cntL_other _ _ _ (by decide)]; exact hg) (fun l V hl hc hg => by obtain ⟨hw1, hw2, hw3, hw4⟩ := HWR.out; go_simp; (try with_reducible rfl); (try omega))
            · exact seqF_val (by rfl) (fun l V hg => by rw [cntL_other _ _ _ (by decide)]; exact hg) (fun l V hl hc hg => by obtain ⟨hw1, hw2, hw3, hw4⟩ := HWR.out; go_simp; (try with_reducible rfl); (try omega))
            · exact seqF_call (vs := [.slice (some ⟨b, off, none⟩) n c, .int .i64 (12 + 4 * (nb : Int) + 4 * (j : Int)), .int .i64 4]) (by rfl) rfl (by rfl) Tryd.func38 (by rfl) (by rfl) (fun l V hl hd hc hg => by
                exact Calls.mono (HNA.out V (by rw [hg]; exact HBW.out _)) (fun e V9 h => .inl ⟨h.1, by rw [h.2, cntL_other _ _ _ (by decide)]; exact hg⟩))
            · exact seqF_run (by rfl) (fun l V hl hd hc hg => by
                have h11 : l 11 = false := (by cases h : l 11 with | false => rfl | true => exact absurd (hc 11 10 (by kernel_rfl) h) (by rw [hl]; decide))
                have h13 : l 13 = false := (by cases h : l 13 with | false => rfl | true => exact absurd (hc 13 10 (by kernel_rfl) h) (by rw [hl]; decide))
                have hV : V = U0 := by rw [show V = _ from hg, cnt3_0 hl]; exact HWS.out.1
                clear hg
                subst hV
                refine ⟨U1, ?_, ?_⟩
                · rw [hU1e.out]; go_simp
                · show U1 = Wst _
                  rw [cnt3_1 updL_eqC (by rw [updL_neC (by decide)]; exact h11)]
                  exact HWS.out.2.1.symm)
            · exact seqF_run (by rfl) (fun l V hl hd hc hg => by
                have h10 : l 10 = true := hc 10 10 (by kernel_rfl) (hd 10 (by kernel_rfl))
                have h13 : l 13 = false := (by cases h : l 13 with | false => rfl | true => exact absurd (hc 13 11 (by kernel_rfl) h) (by rw [hl]; decide))
                have hV : V = U1 := by rw [show V = _ from hg, cnt3_1 h10 hl]; exact HWS.out.2.1
                clear hg
                subst hV
                refine ⟨U2, ?_, ?_⟩
                · exact run_appX (S := 25) rfl rfl (by rfl) (by rfl) HRA.out
                · show U2 = Wst _
                  rw [cnt3_2 (by rw [updL_neC (by decide)]; exact h10) updL_eqC (by rw [updL_neC (by decide)]; exact h13)]
                  exact HWS.out.2.2.1.symm)
            · exact seqF_val (by rfl) (fun l V hg => by rw [cntL_other _ _ _ (by decide)]; exact hg) (fun l V hl hc hg => by obtain ⟨hw1, hw2, hw3, hw4⟩ := HWR.out; go_simp; (try with_reducible rfl); (try omega))
            · exact seqF_skip (by rfl) rfl (fun l V hl hd hc hg => by
                have h10 : l 10 = true := hc 11 10 (by kernel_rfl) (hd 11 (by kernel_rfl))
                have h11 : l 11 = true := hc 11 11 (by kernel_rfl) (hd 11 (by kernel_rfl))
                have hV : V = U2 := by rw [show V = _ from hg, cnt3_2 h10 h11 hl]; exact HWS.out.2.2.1
                clear hg
                subst hV
                refine ⟨U3, ?_, ?_⟩
                · have hc9 := HST.out.1; have hf9 := HST.out.2; rw [hU3e.out]; go_simp
                · show U3 = Wst _
                  rw [cnt3_3 (by rw [updL_neC (by decide)]; exact h10) (by rw [updL_neC (by decide)]; exact h11) updL_eqC]
                  exact HWS.out.2.2.2.symm)
          case hq2 => exact fun _ _ _ _ _ _ _ h => h.elim
          case he2 =>
          intro l V hall hg
          have hV : V = U3 := by
            have := hg
            rw [this, cnt3_3 (hall 10 (by decide)) (hall 11 (by decide)) (hall 13 (by decide))]
            exact HWS.out.2.2.2
          subst hV
          clear hall hg HWS HBW HNA hU0e hU1e hU3e HRA HST HLD HWR
          go_wp2
          go_roundw
          case rel => exact ⟨j + 1, _, _, by omega, by go_num, HF.out⟩
          case measure => simp [intOf]; omega
        · have hltj1 : ¬ (j : Int) < (nd : Int) := by omega
          have hjn2 : j = nd := by omega
          have HUE : Hid (OnS w wr [.int .u8 (k : Nat), .int .u8 (f : Nat), .int .u32 (n0 : Nat), .int .u16 0, .int .u16 0, .int .u32 0, .int .u32 0, .int .u32 (n1 : Nat), .int .u16 0, .int .u16 0, .slice la nb lc, .slice ma nd mc, .slice none 0 0, .slice none 0 0]) := by
            have h1 := HSO.out.1
            rw [hjn2] at h1
            exact h1
          have HKD : Hid (OwnK wr (w.heap.size + 2) la nb lc bs ∧ OwnD wr (w.heap.size + 2) ma nd mc ds) := by
            obtain ⟨_, h2, h3⟩ := HSO.out
            rw [hjn2, List.take_of_length_le (by rw [HBL.out.2]; exact Nat.le_refl _)] at h3
            exact ⟨h2, h3⟩
          clear HSO hjn2 hltj
          obtain ⟨cs, hcs⟩ : ∃ cs : List Value, cs = [.int .u8 (k : Nat), .int .u8 (f : Nat), .int .u32 (n0 : Nat), .int .u16 0, .int .u16 0, .int .u32 0, .int .u32 0, .int .u32 (n1 : Nat), .int .u16 0, .int .u16 0, .slice la nb lc, .slice ma nd mc, .slice none 0 0, .slice none 0 0] := ⟨_, rfl⟩
          have hcl : cs.length = 14 := by rw [hcs]; rfl
          have hone : ∀ u ∈ cs, u.oneCell' = true := by rw [hcs]; exact one14 (.u8, (k : Nat)) (.u8, (f : Nat)) (.u32, (n0 : Nat)) (.u16, 0) (.u16, 0) (.u32, 0) (.u32, 0) (.u32, (n1 : Nat)) (.u16, 0) (.u16, 0) (la, nb, lc) (ma, nd, mc) (none, 0, 0) (none, 0, 0)
          have hU := HUE.out
          rw [← hcs] at hU
          have hrg := hU.b8.range
          have hth : wr.there w.heap.size 0 cs.toArray.size := by
            have e : cs.toArray.size = 14 := by simp [hcl]
            rw [e]
            exact hU.b6.there
          have hi14 := ch_size14R cs hcl
          have hi14' : (Tryd.prog.info? 29).map (·.size) = some cs.toArray.size := by rw [List.size_toArray]; exact hi14
          have hput := hU.b6.put cs (by rw [hcl]; rfl)
          have hff := fr_setCellsX w.heap.size cs 0 wr
          have HF : Hid (Stc (wr.setCells w.heap.size 0 cs) w.heap.size cs ∧ Fr (fun k => k = w.heap.size) wr (wr.setCells w.heap.size 0 cs) ∧ Below w.heap.size w wr) := ⟨hput, hff, hU.bel⟩
          have HCS := (show Hid _ from hcs)
          clear hU hput hff hcs HUE
          go_wp2_with (first | (refine wpList_load_mid rfl 29 _ rfl (w.heap.size + 1) 0 rfl cs _ hrg Tryd.underlying29 rfl hi14 ?_) | (refine wpList_store_mid rfl 29 _ _ rfl w.heap.size 0 cs.toArray rfl rfl hth hi14' (all_oneCell_toArray hone) ?_; change wpList _ _ _ _ _ (wr.setCells w.heap.size 0 cs)) | fail)
          try simp only [Exit.inBlock, Exit.then]
          refine bodyPost_ret (results_cellE2 rfl _ _ w.heap.size 0 cs _ rfl HF.out.1.range Tryd.underlying29 rfl hi14) rfl ?_
          refine ⟨⟨cs, 0, hcl, hone, rfl, ?_, ?_⟩, HF.out.2.2.trans (HF.out.2.1.below _ HF.out.2.2.size (fun k hk => by omega))⟩
          · intro c' e
            injection e with e
            subst e
            have k5 : OwnK (wr.setCells w.heap.size 0 cs) w.heap.size la bs.length lc bs := by
              rw [HBL.out.1]
              exact OwnG.base (OwnG.fr HKD.out.1 HF.out.2.1 (fun g hg e => by have : g = w.heap.size := e; have := (HKD.out.1.own.lt g hg).1; omega)) (by omega)
            have d5 : OwnD (wr.setCells w.heap.size 0 cs) w.heap.size ma ds.length mc ds := by
              rw [HBL.out.2]
              exact OwnG.base (OwnG.fr HKD.out.2 HF.out.2.1 (fun g hg e => by have : g = w.heap.size := e; have := (HKD.out.2.own.lt g hg).1; omega)) (by omega)
            refine ⟨rfl, ⟨la, lc, ma, mc, none, 0, none, 0, ?_, k5, d5, PmO.nil _ _, OwnB.nil _ _⟩⟩
            rw [HCS.out, HN0.out, HN1.out, List.drop_zero]
            dsimp only
            rw [HBL.out.1, HBL.out.2]
            rfl
          · intro e' e; cases e
end Go.Proofs.YtifdfkkjmjabnaaDoor
namespace Go.Proofs.YtifdfkkjmjabnaaDoor
open Go.RowKit
theorem rOne {w : World} {b off n c : Nat} {zs : List Nat} (hs : Sl w (some ⟨b, off, none⟩) n c zs) (hn : n ≤ 2000) (k f : Nat) (hk8 : k < 256) (hf8 : f < 256) :
    Calls Tryd.prog 39 #[.int .u8 (k : Nat), .int .u8 (f : Nat), .slice (some ⟨b, off, none⟩) n c] w (OnR w (valR k f zs)) := by
  have hl := hs.len
  unfold valR
  by_cases k0 : k = 0
  · rw [if_pos k0]
    by_cases h : n < 13
    · rw [if_pos (by omega)]; exact one_short hs hn k f hk8 hf8 (by unfold leastN; rw [if_pos k0]; exact h)
    · rw [if_neg (by omega)]; exact one_data hs hn k f hk8 hf8 k0 (by omega)
  rw [if_neg k0]
  by_cases k1 : k = 1 ∨ k = 2
  · rw [if_pos k1]
    by_cases h : n < 16
    · rw [if_pos (by omega)]; exact one_short hs hn k f hk8 hf8 (by unfold leastN; rw [if_neg k0, if_pos k1]; exact h)
    · rw [if_neg (by omega)]; exact one_init hs hn k f hk8 hf8 k1 (by omega)
  rw [if_neg k1]
  by_cases k3 : k = 3
  · rw [if_pos k3]
    by_cases h : n < 12
    · rw [if_pos (by omega)]; exact one_short hs hn k f hk8 hf8 (by unfold leastN; rw [if_neg k0, if_neg k1, if_pos k3]; exact h)
    rw [if_neg (by omega)]
    by_cases hx : n = 12 + 4 * numB ((zs.drop 8).take 2) + 4 * numB ((zs.drop 10).take 2)
    · rw [if_neg (fun h9 => h9 (by rw [hl]; exact hx))]
      by_cases hm : 16 < numB ((zs.drop 8).take 2) ∨ 16 < numB ((zs.drop 10).take 2)
      · rw [if_pos hm]; exact one_sack_many hs hn k f hk8 hf8 k3 (by omega) _ _ rfl rfl hx hm
      · rw [if_neg hm]; exact one_sack hs hn k f hk8 hf8 k3 (by omega) _ _ rfl rfl hx (by omega)
    · rw [if_pos (fun h9 => hx (by rw [← hl]; exact h9))]; exact one_sack_len hs hn k f hk8 hf8 k3 (by omega) _ _ rfl rfl hx
  rw [if_neg k3]
  by_cases k4 : k = 4 ∨ k = 5 ∨ k = 6 ∨ k = 9
  · rw [if_pos k4]; exact one_prms hs hn k f hk8 hf8 k4
  rw [if_neg k4]
  by_cases k7 : k = 7
  · rw [if_pos k7]
    by_cases h : n < 4
    · rw [if_pos (by omega)]; exact one_short hs hn k f hk8 hf8 (by unfold leastN; rw [if_neg k0, if_neg k1, if_neg k3, if_pos k7]; exact h)
    by_cases h2 : 4 < n
    · rw [if_pos (by omega)]; exact one_tsn_long hs hn k f hk8 hf8 k7 h2
    · rw [if_neg (by omega)]; exact one_tsn hs hn k f hk8 hf8 k7 (by omega) (by omega)
  rw [if_neg k7]
  by_cases k8 : k = 8 ∨ k = 11 ∨ k = 14
  · rw [if_pos k8]
    by_cases h : n = 0
    · rw [if_neg (fun h9 => h9 (List.eq_nil_of_length_eq_zero (by omega)))]; exact one_none hs hn k f hk8 hf8 k8 h
    · rw [if_pos (fun h9 => h (by rw [← hl, h9]; rfl))]; exact one_bare hs hn k f hk8 hf8 k8 (by omega)
  rw [if_neg k8]
  exact one_raw hs hn k f hk8 hf8 (by omega)
end Go.Proofs.YtifdfkkjmjabnaaDoor
namespace Go.Proofs.YtifdfkkjmjabnaaDoor
open Go.RowKit
theorem below_drewN {B : Nat} {w w' : World} (h : Below B w w') (n : Nat) : Below B w (w'.drewN n) := ⟨h.os, h.tape, h.output, h.size, h.block⟩
theorem xor_poly (q : Nat) (h : q < 4294967296) : bits .xor .u32 (q : Int) 2197175160 = ((q ^^^ 2197175160 : Nat) : Int) := u32_xor_nat q 2197175160 h (by omega)
theorem cbr_ne (p x P j : Nat) (hR : cb p x j = if p % 2 = x / P % 2 then p / 2 else p / 2 ^^^ 2197175160) (h : ((p : Int) % 2 != (x : Int) / P % 2) = true) : cb p x j = p / 2 ^^^ 2197175160 := by
  rw [hR, if_neg]
  intro e
  have e2 : ((x : Int) / P) = ((x / P : Nat) : Int) := by norm_cast
  rw [e2] at h
  generalize x / P = y at *
  simp only [bne_iff_ne, ne_eq] at h
  omega
theorem cbr_eq (p x P j : Nat) (hR : cb p x j = if p % 2 = x / P % 2 then p / 2 else p / 2 ^^^ 2197175160) (h : ((p : Int) % 2 != (x : Int) / P % 2) = false) : cb p x j = p / 2 := by
  rw [hR, if_pos]
  have e2 : ((x : Int) / P) = ((x / P : Nat) : Int) := by norm_cast
  rw [e2] at h
  generalize x / P = y at *
  simp only [bne_eq_false_iff_eq] at h
  omega
set_option maxHeartbeats 1000000 in
theorem refcrc_any (a : Option Addr) (n c : Nat) (zs : List Nat) (w : World) (hs : Sl w a n c zs) :
    Calls Tryd.prog 52 #[.slice a n c] w fun e w' => e = .returned (.int .u32 (crc zs)) ∧ Below w.heap.size w w' := by
  obtain ⟨hl, hcap, hroom, hsm, _, hb, hat⟩ := hs
  unfold maxLen at hroom
  go_enter Tryd.func52, Tryd.ntmps52
  go_wp2
  go_loopw [3, 4] (fun r' i wr => ∃ (k : Nat), k ≤ n ∧ i = .int .i64 k ∧ r' = .int .u32 (crcReg 4294967295 (zs.take k)) ∧ Below w.heap.size w wr) (fun _ i _ => n - (intOf i).toNat)
  case atStart => exact ⟨0, by omega, rfl, rfl, Below.refl _ _⟩
  case round =>
    obtain ⟨k, hk, rfl, rfl, hbel⟩ := hrel
    have hq := crcReg_lt (zs.take k) 4294967295 (by omega)
    by_cases hlt : k < n
    · have HE : Hid (crcReg 4294967295 (zs.take (k + 1)) = cbyte (crcReg 4294967295 (zs.take k)) (zs.getD k 0)) := by
        rw [take_snocN zs k (by omega), crcReg_snoc]; rfl
      rcases hat with h0 | ⟨b, off, rfl, hlt2, hcell⟩
      · omega
      · have hc := hcell k hlt
        have hx := hb k
        generalize zs.getD k 0 = x at *
        generalize crcReg 4294967295 (zs.take k) = q at *
        clear hcell hb
        go_wp2
        go_loopw [3, 5] (fun r' i wr => ∃ (j : Nat), j ≤ 8 ∧ i = .int .i64 j ∧ r' = .int .u32 (cbits q x j) ∧ Below w.heap.size w wr) (fun _ i _ => 8 - (intOf i).toNat)
        case atStart => exact ⟨0, by omega, rfl, rfl, hbel⟩
        case round =>
          clear hbel
          obtain ⟨j, hj, rfl, rfl, hbel⟩ := hrel
          have hq2 := cbits_lt q x j hq
          by_cases hlt3 : j < 8
          · have HS : Hid (cbits q x (j + 1) = cb (cbits q x j) x j) := rfl
            have HR := (show Hid _ from cb_ref (cbits q x j) x j)
            have HX := (show Hid _ from xor_poly (cbits q x j / 2) (by omega))
            rw [← hbel.cell (p := ⟨b, off + k, none⟩) hlt2] at hc
            generalize cbits q x j = p at *
            have hki : (k : Int) < (n : Int) := by omega
            have hxw : IntKind.u32.wrap (x : Int) = (x : Int) := by rw [IntKind.wrap_u32']; omega
            have hP1 : 1 ≤ 2 ^ j := Nat.one_le_two_pow
            have hP2 : 2 ^ j ≤ 2 ^ 8 := Nat.pow_le_pow_right (by omega) (by omega)
            have hpw : IntKind.u32.wrap ((2 : Int) ^ j) = ((2 ^ j : Nat) : Int) := by
              rw [IntKind.wrap_u32', show ((2 : Int) ^ j) = ((2 ^ j : Nat) : Int) from by norm_cast]
              omega
            have HP : Hid (2 ^ j = 2 ^ j) := rfl
            generalize hPe : (2 : Nat) ^ j = P at *
            have HPE := (show Hid _ from hPe)
            clear hPe HP
            go_wp2_with fail
            go_quiet (fail)
            go_wp2
            · rename_i hbit
              go_roundw
              case rel => exact ⟨j + 1, by omega, by go_num, by rw [HS.out, cbr_ne p x P j HR.out hbit, ← HX.out]; rfl, below_drewN hbel nq⟩
              case measure => simp [intOf]; omega
            · rename_i hbit
              go_roundw
              case rel => exact ⟨j + 1, by omega, by go_num, by rw [HS.out, cbr_eq p x P j HR.out hbit]; rfl, below_drewN hbel nq⟩
              case measure => simp [intOf]; omega
          · obtain rfl : j = 8 := by omega
            go_wp2
            go_roundw
            case rel => exact ⟨k + 1, by omega, by go_num, by rw [HE.out]; rfl, hbel⟩
            case measure => simp [intOf]; omega
    · obtain rfl : k = n := by omega
      have HT : Hid (zs.take k = zs) := by rw [← hl]; exact List.take_length
      have HC : Hid (crc zs = 4294967295 - crcReg 4294967295 (zs.take k)) := by show _ = _; rw [HT.out]; rfl
      generalize crcReg 4294967295 (zs.take k) = q at *
      go_wp2
      go_ret
      exact ⟨ret_int (by rw [HC.out]; omega), hbel⟩
end Go.Proofs.YtifdfkkjmjabnaaDoor
namespace Go.Proofs.YtifdfkkjmjabnaaDoor
open Go.RowKit
theorem lay_put (zs ys : List Nat) (p j x : Nat) (hj : j = ys.length) (hp : p + ys.length < zs.length) : (lay zs p ys).set (p + j) x = lay zs p (ys ++ [x]) := by
  subst hj
  have h1 : p + ys.length ≤ zs.length := by omega
  have h2 : p + (ys ++ [x]).length ≤ zs.length := by simp; omega
  have l1 := lay_len zs p ys h1
  have l2 := lay_len zs p (ys ++ [x]) h2
  apply List.ext_getElem (by simp [l1, l2])
  intro i hi1 hi2
  have e1 : ∀ (l : List Nat) (i : Nat) (h : i < l.length), l[i] = l.getD i 0 := by intro l i h; simp [List.getD_eq_getElem?_getD, h]
  rw [e1, e1, lay_getD zs p _ h2]
  have e3 : ((lay zs p ys).set (p + ys.length) x).getD i 0 = if i = p + ys.length then x else (lay zs p ys).getD i 0 := by
    simp only [List.getD_eq_getElem?_getD, List.getElem?_set]
    by_cases h : i = p + ys.length
    · subst h; rw [if_pos rfl, if_pos rfl, if_pos (by rw [l1]; omega)]; rfl
    · rw [if_neg (fun e => h e.symm), if_neg h]
  rw [e3, lay_getD zs p _ h1, List.length_append, List.length_singleton]
  by_cases h : i = p + ys.length
  · subst h
    rw [if_pos rfl, if_pos (by omega), getD_app, if_neg (by omega)]
    simp
  · rw [if_neg h]
    by_cases h3 : p ≤ i ∧ i < p + ys.length
    · rw [if_pos h3, if_pos (by omega), getD_app, if_pos (by omega)]
    · rw [if_neg h3, if_neg (by omega)]
def leK (x : Nat) : Nat → List Nat
  | 0 => []
  | j + 1 => leK x j ++ [x / 256 ^ j % 256]
theorem leK_len (x j : Nat) : (leK x j).length = j := by
  induction j with
  | zero => rfl
  | succ j ih => simp [leK, ih]
theorem leK4 (x : Nat) : leK x 4 = le4 x := by
  show [x / 1 % 256, x / 256 % 256, x / 65536 % 256, x / 16777216 % 256] = le4 x
  unfold le4
  simp
set_option maxHeartbeats 2000000 in
theorem refstamp_any (a : Option Addr) (n c : Nat) (zs : List Nat) (w : World) (hs : Sl w a n c zs) (hn : n ≤ 140737488351232) :
    Calls Tryd.prog 35 #[.slice a n c] w fun e w' => ∃ a' c', e = .returned (.tuple #[.slice a' (stampV zs).length c', .int .i64 (stampE n : Nat)]) ∧ OwnB w' w.heap.size a' (stampV zs).length c' (stampV zs) ∧ Below w.heap.size w w' := by
  have hl := hs.len
  by_cases h12 : n < 12
  · have HE : Hid (stampE n = 3) := by show _ = _; unfold stampE; rw [if_pos h12]
    have HV : Hid (stampV zs = []) := by show _ = _; unfold stampV; rw [if_pos (by omega)]
    go_enter Tryd.func35, Tryd.ntmps35
    go_wp2
    go_ret2
    rw [HE.out, HV.out]
    exact ⟨none, 0, rfl, OwnB.nil _ _, Below.refl _ _⟩
  · have HE : Hid (stampE n = 0) := by show _ = _; unfold stampE; rw [if_neg h12]
    have HV : Hid (stampV zs = lay (blank zs) 8 (le4 (crc (blank zs)))) := by show _ = _; unfold stampV; rw [if_neg (by omega)]
    have HL : Hid ((stampV zs).length = n) := by show _ = _; rw [stampV_len zs (by omega), hl]
    have hbl : Hid ((blank zs).length = n) := by show _ = _; rw [blank_len zs (by omega), hl]
    have ho : OwnB (w.alloc (.cells #[] 5)) w.heap.size (some ⟨w.heap.size, 0, none⟩) 0 0 [] := own_empty w
    go_enter Tryd.func35, Tryd.ntmps35
    go_wp2_with (at_builtin; go_must (refine app_list rfl _ _ rfl w.heap.size _ 0 0 [] rfl ho _ n c zs rfl (hs.alloc _) (by omega) (by simp) ?_))
    intro a3 c3 w3 ho3 hg3
    have hb3 : Below w.heap.size w w3 := ((Below.refl _ _).alloc (Nat.le_refl _) _).trans (ho.up hg3 (by simp))
    obtain ⟨g, hg⟩ : ∃ g, a3 = some ⟨g, 0, none⟩ := by
      rcases ho3.own.2 with ⟨_, h0⟩ | ⟨g, cap, cur, hv, _⟩
      · omega
      · injection hv with e1
        exact ⟨g, e1⟩
    subst hg
    have hgl := (ho3.own.lt g rfl).1
    clear ho hg3
    go_wp2
    go_loopw [5] (fun i wr => ∃ j : Nat, j ≤ 4 ∧ i = .int .i64 ((8 + j : Nat) : Int) ∧ OwnB wr w.heap.size (some ⟨g, 0, none⟩) n c3 (lay zs 8 (List.replicate j 0)) ∧ Below w.heap.size w wr) (fun i _ => 12 - (intOf i).toNat)
    case atStart => exact ⟨0, by omega, rfl, by simpa [lay_nil] using ho3, hb3⟩
    case round =>
      obtain ⟨j, hj, rfl, hown, hbel⟩ := hrel
      by_cases hjk : j < 4
      · have hc2 := hown.cell (8 + j) (by omega)
        have hf2 := hown.free (8 + j)
        have HS : Hid ((lay zs 8 (List.replicate j 0)).set (8 + j) 0 = lay zs 8 (List.replicate (j + 1) 0)) := by
          show _ = _
          rw [lay_put zs (List.replicate j 0) 8 j 0 (by simp) (by simp; omega), ← List.replicate_succ']
        go_wp2
        go_roundw
        case rel =>
          refine ⟨j + 1, by omega, by go_num, ?_, hbel.setCell hgl _⟩
          rw [← HS.out]
          exact hown.store (8 + j) 0 (by omega)
        case measure => simp [intOf]; omega
      · obtain rfl : j = 4 := by omega
        have HB : Hid (lay zs 8 (List.replicate 4 0) = blank zs) := rfl
        rw [HB.out] at hown
        have hx := crc_lt (blank zs)
        have HC := (show Hid _ from leK4 (crc (blank zs)))
        generalize blank zs = bz at *
        go_wp2_with fail
        refine (refcrc_any _ _ _ bz _ (hown.sl (by omega))).mono ?_
        rintro e w4 ⟨rfl, hb4⟩
        have ho5 := hown.below hb4
        have hb5 := hbel.trans (hb4.mono hbel.size)
        clear hown hb4 hbel
        generalize crc bz = x at *
        go_wp2
        go_loopw [6, 7] (fun s i wr2 => ∃ j : Nat, j ≤ 4 ∧ i = .int .i64 ((8 + j : Nat) : Int) ∧ s = .int .u32 (x / 256 ^ j : Nat) ∧ OwnB wr2 w.heap.size (some ⟨g, 0, none⟩) n c3 (lay bz 8 (leK x j)) ∧ Below w.heap.size w wr2) (fun _ i _ => 12 - (intOf i).toNat)
        case atStart => exact ⟨0, by omega, rfl, by simp, by simpa [lay_nil, leK] using ho5, hb5⟩
        case round =>
          obtain ⟨j, hj, rfl, rfl, hown, hbel⟩ := hrel
          by_cases hjk : j < 4
          · have hc2 := hown.cell (8 + j) (by omega)
            have hf2 := hown.free (8 + j)
            have HS : Hid ((lay bz 8 (leK x j)).set (8 + j) (x / 256 ^ j % 256) = lay bz 8 (leK x (j + 1))) := by
              show _ = _
              rw [lay_put bz (leK x j) 8 j _ (leK_len x j).symm (by rw [leK_len, hbl.out]; omega)]
              rfl
            have HD : Hid (x / 256 ^ (j + 1) = x / 256 ^ j / 256) := by show _ = _; rw [Nat.pow_succ, Nat.div_div_eq_div_mul]
            have hu : x / 256 ^ j < 4294967296 := Nat.lt_of_le_of_lt (Nat.div_le_self _ _) hx
            generalize x / 256 ^ j = u at *
            go_wp2
            go_roundw
            case rel =>
              refine ⟨j + 1, by omega, by go_num, by rw [HD.out]; go_num, ?_, hbel.setCell hgl _⟩
              rw [← HS.out, show ((u : Int) % 256) = ((u % 256 : Nat) : Int) from by omega]
              exact hown.store (8 + j) (u % 256) (by omega)
            case measure => simp [intOf]; omega
          · obtain rfl : j = 4 := by omega
            rw [HC.out, ← HV.out] at hown
            go_wp2
            go_ret2
            rw [HL.out, HE.out]
            exact ⟨_, c3, rfl, hown, hbel⟩
end Go.Proofs.YtifdfkkjmjabnaaDoor
namespace Go.Proofs.YtifdfkkjmjabnaaDoor
open Go.RowKit
/-- A drawn region with a call of One, a variable's making, a store of the answer into it. -/
structure RgT (w0 : World) (rr : Except Int CD) (q : Nat) (cs : List Value) (er : Int) (l : Nat → Bool) (V : World) : Prop where
  bel : Below w0.heap.size w0 V
  a : l 20 = true → w0.heap.size ≤ q ∧ q < V.heap.size
  z : l 20 = true → l 21 = false → Stc V q [.int .u8 0, .int .u8 0, .int .u32 0, .int .u16 0, .int .u16 0, .int .u32 0, .int .u32 0, .int .u32 0, .int .u16 0, .int .u16 0, .slice none 0 0, .slice none 0 0, .slice none 0 0, .slice none 0 0]
  s : l 21 = true → Stc V q cs
  d : l 16 = true → (cs.length = 14 ∧ ∀ u ∈ cs, u.oneCell' = true) ∧ (∀ e, rr = .error e → er = e) ∧ ∃ B V1, w0.heap.size ≤ B ∧ (∀ c, rr = .ok c → er = 0 ∧ ChO V1 B c cs) ∧ (l 21 = false → Below V1.heap.size V1 V) ∧ (l 21 = true → Fr (fun k => k = q) V1 V) ∧ (l 20 = true → q < B ∨ V1.heap.size ≤ q)
section
variable {w0 V : World} {rr : Except Int CD} {q : Nat} {cs : List Value} {er : Int} {l : Nat → Bool}
theorem RgT.start (h : Below w0.heap.size w0 V) : RgT w0 rr q cs er (fun _ => false) V := ⟨h, fun e => (by cases e), fun e => (by cases e), fun e => (by cases e), fun e => (by cases e)⟩
theorem RgT.other (h : RgT w0 rr q cs er l V) (i : Nat) (h1 : 16 ≠ i) (h2 : 20 ≠ i) (h3 : 21 ≠ i) : RgT w0 rr q cs er (updL l i) V := by
  refine ⟨h.bel, ?_, ?_, ?_, ?_⟩
  · rw [updL_neC h2]; exact h.a
  · rw [updL_neC h2, updL_neC h3]; exact h.z
  · rw [updL_neC h3]; exact h.s
  · rw [updL_neC h1, updL_neC h2, updL_neC h3]; exact h.d
theorem RgT.call {V2 : World} {e : Ending} (h : RgT w0 rr q cs er l V) (h21 : l 21 = false) (hP : OnR V rr e V2) : ∃ cs2 er2, e = .returned (.tuple #[.agg cs2.toArray, .int .i64 er2]) ∧ RgT w0 rr q cs2 er2 (updL l 16) V2 := by
  obtain ⟨⟨cs2, er2, h1, h2, rfl, h4, h5⟩, hb⟩ := hP
  refine ⟨cs2, er2, rfl, h.bel.trans (hb.mono h.bel.size), ?_, ?_, ?_, ?_⟩
  · rw [updL_neC (by decide)]; exact fun e => ⟨(h.a e).1, Nat.lt_of_lt_of_le (h.a e).2 hb.size⟩
  · rw [updL_neC (by decide), updL_neC (by decide)]; exact fun e1 e2 => (h.z e1 e2).below hb
  · rw [updL_neC (by decide), h21]; exact fun e => (by cases e)
  · rw [updL_neC (i := 16) (j := 20) (by decide), updL_neC (i := 16) (j := 21) (by decide), h21]
    exact fun _ => ⟨⟨h1, h2⟩, h5, V.heap.size, V2, h.bel.size, h4, fun _ => Below.refl _ _, fun e => (by cases e), fun e => .inl (h.a e).2⟩
theorem RgT.alloc (h : RgT w0 rr q cs er l V) (h21 : l 21 = false) (T : TypeId) : RgT w0 rr V.heap.size cs er (updL l 20) (V.alloc (.cells #[.int .u8 0, .int .u8 0, .int .u32 0, .int .u16 0, .int .u16 0, .int .u32 0, .int .u32 0, .int .u32 0, .int .u16 0, .int .u16 0, .slice none 0 0, .slice none 0 0, .slice none 0 0, .slice none 0 0] T)) := by
  have b0 : Below V.heap.size V (V.alloc (.cells #[.int .u8 0, .int .u8 0, .int .u32 0, .int .u16 0, .int .u16 0, .int .u32 0, .int .u32 0, .int .u32 0, .int .u16 0, .int .u16 0, .slice none 0 0, .slice none 0 0, .slice none 0 0, .slice none 0 0] T)) := (Below.refl _ _).alloc (Nat.le_refl _) _
  refine ⟨h.bel.trans (b0.mono h.bel.size), fun _ => ⟨h.bel.size, by simp⟩, fun _ _ => Stc.new V [.int .u8 0, .int .u8 0, .int .u32 0, .int .u16 0, .int .u16 0, .int .u32 0, .int .u32 0, .int .u32 0, .int .u16 0, .int .u16 0, .slice none 0 0, .slice none 0 0, .slice none 0 0, .slice none 0 0] T _ rfl, ?_, ?_⟩
  · rw [updL_neC (by decide), h21]; exact fun e => (by cases e)
  · rw [updL_neC (i := 20) (j := 16) (by decide), updL_neC (i := 20) (j := 21) (by decide), h21]
    intro e
    obtain ⟨h1, h2, B, V1, k1, k2, k3, k4, k5⟩ := h.d e
    exact ⟨h1, h2, B, V1, k1, k2, fun _ => (k3 h21).trans (b0.mono (k3 h21).size), fun e => (by cases e), fun _ => .inr (k3 h21).size⟩
theorem RgT.store (h : RgT w0 rr q cs er l V) (h20 : l 20 = true) (h16 : l 16 = true) (h21 : l 21 = false) : V.there q 0 cs.length ∧ RgT w0 rr q cs er (updL l 21) (V.setCells q 0 cs) := by
  have st := h.z h20 h21
  obtain ⟨h1, h2, B, V1, k1, k2, k3, k4, k5⟩ := h.d h16
  have ff := fr_setCellsX q cs 0 V
  refine ⟨by rw [h1.1]; exact st.there, h.bel.trans (ff.below _ h.bel.size (fun k hk => by have := (h.a h20).1; omega)), ?_, ?_, fun _ => st.put cs (by rw [h1.1]; rfl), ?_⟩
  · exact fun _ => ⟨(h.a h20).1, Nat.lt_of_lt_of_le (h.a h20).2 ff.size⟩
  · rw [updL_eqC]; exact fun _ e => (by cases e)
  · rw [updL_neC (i := 21) (j := 16) (by decide), updL_neC (i := 21) (j := 20) (by decide), updL_eqC]
    exact fun _ => ⟨h1, h2, B, V1, k1, k2, fun e => (by cases e), fun _ => (Fr.of_below (k3 h21)).trans ff, k5⟩
theorem RgT.done (h : RgT w0 rr q cs er l V) (h20 : l 20 = true) (h16 : l 16 = true) (h21 : l 21 = true) : Stc V q cs ∧ Below w0.heap.size w0 V ∧ cs.length = 14 ∧ (∀ e, rr = .error e → er = e) ∧ (∀ c, rr = .ok c → er = 0 ∧ ChO V w0.heap.size c cs) := by
  obtain ⟨h1, h2, B, V1, k1, k2, k3, k4, k5⟩ := h.d h16
  refine ⟨h.s h21, h.bel, h1.1, h2, fun c hc => ⟨(k2 c hc).1, ((k2 c hc).2.fr (k4 h21) (fun g hg hl e => ?_)).base k1⟩⟩
  have e2 : g = q := e
  have := k5 h20
  omega
end
/-- What the reference's Take answers. -/
structure RtR (w : World) (r : Except Int (List CD)) (n1 n2 n3 : Nat) (e : Ending) (w' : World) : Prop where
  ok : ∀ C, r = .ok C → TkC w n1 n2 n3 C.length C e w'
  no : ∀ er, r = .error er → TkE w er e w'
theorem RtR.fail {w w' : World} {r : Except Int (List CD)} {n1 n2 n3 : Nat} {er : Int} {e : Ending} (h : r = .error er) (h2 : TkE w er e w') : RtR w r n1 n2 n3 e w' :=
  ⟨fun C e => (by rw [h] at e; cases e), fun er2 e2 => by rw [h] at e2; injection e2 with e2; subst e2; exact h2⟩
theorem numB_get (zs : List Nat) (p : Nat) (h : p < zs.length) : numB ((zs.drop p).take 1) = zs.getD p 0 := by
  have e : (zs.drop p).take 1 = [zs[p]] := by rw [List.drop_eq_getElem_cons h]; rfl
  rw [e, List.getD_eq_getElem?_getD, List.getElem?_eq_getElem h]
  simp [numB]
theorem restC_at (zs : List Nat) (p : Nat) : restC (zs.drop p) = zs.drop (p + (4 + lenC (zs.drop p) + padN (lenC (zs.drop p)))) := by
  unfold restC
  simp only [List.drop_drop]
  congr 1
  omega
set_option linter.unusedVariables false in
set_option maxRecDepth 100000 in
set_option maxHeartbeats 8000000 in
theorem rt_main {w : World} {b off m c : Nat} {zs : List Nat} (hs : Sl w (some ⟨b, off, none⟩) m c zs) (h16 : 16 ≤ m) (h14 : m ≤ 1480) (hst : stampedB zs = true) :
    Calls Tryd.prog 17 #[.slice (some ⟨b, off, none⟩) m c] w (RtR w (chsR ((zs.drop 12).length + 1) 0 (zs.drop 12)) (numB (zs.take 2)) (numB ((zs.drop 2).take 2)) (numB ((zs.drop 4).take 4))) := by
  have hlz := hs.len
  have hcap := hs.cap
  have hbnd := hs.bnd
  have HS := (show Hid _ from hs)
  have hz := zero_head
  have h161 : ¬ (m : Int) < 16 := by omega
  have h141 : ¬ (1480 : Int) < (m : Int) := by omega
  obtain ⟨r, hr⟩ : ∃ r, r = chsR ((zs.drop 12).length + 1) 0 (zs.drop 12) := ⟨_, rfl⟩
  obtain ⟨n1, hn1⟩ : ∃ n1, n1 = numB ((zs.drop 0).take 2) := ⟨_, rfl⟩
  obtain ⟨n2, hn2⟩ : ∃ n2, n2 = numB ((zs.drop 2).take 2) := ⟨_, rfl⟩
  obtain ⟨n3, hn3⟩ : ∃ n3, n3 = numB ((zs.drop 4).take 4) := ⟨_, rfl⟩
  rw [← hr, show zs.take 2 = (zs.drop 0).take 2 from rfl, ← hn1, ← hn2, ← hn3]
  have HNN3 := (show Hid _ from And.intro hn1 (And.intro hn2 hn3))
  clear hn1 hn2 hn3
  obtain ⟨W1, hW1⟩ : ∃ W1, W1 = w.alloc (.cells #[.int .u16 0, .int .u16 0, .int .u32 0] 36) := ⟨_, rfl⟩
  have b1 : Below w.heap.size w W1 := by rw [hW1]; exact (Below.refl _ _).alloc (Nat.le_refl _) _
  have s1 := Stc.new w [.int .u16 0, .int .u16 0, .int .u32 0] 36 W1 hW1
  have HSP := (show Hid _ from refstamp_any _ m c zs W1 (hs.below b1) (by omega))
  have hlen : (stampV zs).length = m := by rw [stampV_len zs (by omega), hlz]
  rw [hlen] at HSP
  obtain ⟨se, hse⟩ : ∃ se, se = stampE m := ⟨_, rfl⟩
  rw [← hse] at HSP
  obtain ⟨sA, hsA⟩ : ∃ sA, sA = strOf (stampV zs) := ⟨_, rfl⟩
  obtain ⟨sB, hsB⟩ : ∃ sB, sB = strOf zs := ⟨_, rfl⟩
  have hcmp : (sA.toList == sB.toList) = true := by rw [hsA, hsB]; unfold stampedB at hst; rw [if_neg (by omega)] at hst; exact hst
  have hcmp2 : (sA.toList != sB.toList) = false := by unfold bne; rw [hcmp]; rfl
  have HSAB := (show Hid _ from And.intro hsA hsB)
  have HS1 := (show Hid _ from And.intro s1 b1)
  have HR0 := (show Hid _ from hr)
  clear hs hr b1 s1 hlen hse hst hsA hsB
  go_enter Tryd.func17, Tryd.ntmps17
  go_wp2_with fail
  rw [← hW1]
  clear hW1 hz
  refine Calls.mono HSP.out ?_
  clear HSP
  rintro e w1 ⟨a1, c1, rfl, ho1, b2⟩
  have hb2 : Below w.heap.size w w1 := HS1.out.2.trans (b2.mono HS1.out.2.size)
  have cv1 := conv_str (ho1.sl (by omega))
  have cv2 := conv_str (HS.out.below hb2)
  rw [← HSAB.out.1] at cv1
  rw [← HSAB.out.2] at cv2
  obtain ⟨W3, hW3⟩ : ∃ W3, W3 = w1.alloc (.cells #[] 29) := ⟨_, rfl⟩
  have b3 : Below w1.heap.size w1 W3 := by rw [hW3]; exact (Below.refl _ _).alloc (Nat.le_refl _) _
  have hst1 := HS1.out.1.below b2
  have HU : Hid (Stc W3 w.heap.size [.int .u16 0, .int .u16 0, .int .u32 0] ∧ Below w.heap.size w W3 ∧ ChsO W3 (w.heap.size + 1) (some ⟨w1.heap.size, 0, none⟩) 0 0 [] ∧ r = combC [] (chsR ((zs.drop 12).length + 1) 0 (zs.drop 12))) := by
    refine ⟨hst1.below b3, hb2.trans (b3.mono hb2.size), ⟨[], rfl, ?_, fun i c x hc hx => (by simp at hx)⟩, by rw [combC_nil]; exact HR0.out⟩
    rw [hW3]
    exact OwnG.base (own0G _ _ _ w1) hst1.lt
  clear b3 hst1 hb2 b2 ho1 HS1 HR0 HSAB
  go_wp2_with fail
  rw [← hW3]
  clear hW3 cv1 cv2 hcmp hcmp2
  go_loopw [7, 8] (fun u7 u8 wr => ∃ (f i p : Nat) (la : Option Addr) (lc : Nat) (cds : List CD), i = cds.length ∧ i ≤ 32 ∧ 12 ≤ p ∧ p ≤ m ∧ m < f + p ∧ u7 = .slice la i lc ∧ u8 = .int .i64 (p : Nat) ∧ Stc wr w.heap.size [.int .u16 0, .int .u16 0, .int .u32 0] ∧ Below w.heap.size w wr ∧ ChsO wr (w.heap.size + 1) la i lc cds ∧ r = combC cds (chsR f i (zs.drop p))) (fun u7 _ _ => match u7 with | .slice _ i _ => 33 - i | _ => 0)
  case atStart => exact ⟨(zs.drop 12).length + 1, 0, 12, _, _, [], rfl, by omega, by omega, by omega, by rw [List.length_drop]; omega, rfl, rfl, HU.out⟩
  case round =>
    obtain ⟨f, i, p, la, lc, cds, hips, hi32, hp12, hpm, hf, rfl, rfl, hS, hb, ho, hrr⟩ := hrel
    have HUO := (show Hid _ from And.intro hS (And.intro hb ho))
    have HRR := (show Hid _ from hrr)
    have HIP := (show Hid _ from hips)
    have hdl : (zs.drop p).length = m - p := by rw [List.length_drop, hlz]
    clear hS hb ho hrr hips HU
    by_cases hlt : p < m
    case neg =>
      have hlt1 : ¬ (p : Int) < (m : Int) := by omega
      have HRE : Hid (r = .ok cds) := by
        have hz0 : zs.drop p = [] := List.eq_nil_of_length_eq_zero (by omega)
        show _ = _
        rw [HRR.out, hz0]
        cases f with
        | zero => unfold chsR; simp [combC]
        | succ f => unfold chsR; rw [if_pos rfl]; simp [combC]
      have HN1 := (show Hid _ from rnum12 (HS.out.below HUO.out.2.1) 0 2 (by omega) (by omega) (by omega) n1 HNN3.out.1 (.int .i64 0) rfl (.int .i64 2) rfl)
      have HN2 := (show Hid _ from rnum12 (HS.out.below HUO.out.2.1) 2 2 (by omega) (by omega) (by omega) n2 HNN3.out.2.1 (.int .i64 2) rfl (.int .i64 2) rfl)
      have HN3 := (show Hid _ from rnum12 (HS.out.below HUO.out.2.1) 4 4 (by omega) (by omega) (by omega) n3 HNN3.out.2.2 (.int .i64 4) rfl (.int .i64 4) rfl)
      have hw1 : IntKind.u16.wrap ((n1 : Nat) : Int) = n1 := by have := numB_take (drop_bnd hbnd 0) 2 (by rw [List.length_drop]; omega); rw [← HNN3.out.1] at this; rw [IntKind.wrap_u16]; omega
      have hw2 : IntKind.u16.wrap ((n2 : Nat) : Int) = n2 := by have := numB_take (drop_bnd hbnd 2) 2 (by rw [List.length_drop]; omega); rw [← HNN3.out.2.1] at this; rw [IntKind.wrap_u16]; omega
      clear HRR HNN3 hdl hlt hf
      go_wp2_with fail
      refine Calls.mono HN1.out ?_
      clear HN1
      rintro e w5 ⟨rfl, hw5⟩
      replace hw5 := hw5.symm
      subst hw5
      go_wp2_with fail
      refine Calls.mono HN2.out ?_
      clear HN2
      rintro e w5 ⟨rfl, hw5⟩
      replace hw5 := hw5.symm
      subst hw5
      go_wp2_with fail
      refine Calls.mono HN3.out ?_
      clear HN3
      rintro e w5 ⟨rfl, hw5⟩
      replace hw5 := hw5.symm
      subst hw5
      have s3 := HUO.out.1
      have g0 := s3.free 0
      have g1 := s3.free 1
      have g2 := s3.free 2
      have d0 := s3.cell 0 _ rfl
      have d1 := s3.cell 1 _ rfl
      have d2 := s3.cell 2 _ rfl
      clear s3
      go_wp2
      try simp only [Exit.inBlock, Exit.then]
      obtain ⟨s3, hb, ho⟩ := HUO.out
      have hput := s3.put [.int .u16 (n1 : Nat), .int .u16 (n2 : Nat), .int .u32 (n3 : Nat)] rfl
      have hff := fr_setCellsX w.heap.size [.int .u16 (n1 : Nat), .int .u16 (n2 : Nat), .int .u32 (n3 : Nat)] 0 wr
      refine bodyPost_ret (results_cellE3 rfl _ _ w.heap.size 0 [.int .u16 (n1 : Nat), .int .u16 (n2 : Nat), .int .u32 (n3 : Nat)] _ rfl hput.range Tryd.underlying36 rfl (by kernel_rfl)) rfl ?_
      refine ⟨fun C e => ?_, fun er e => (by rw [HRE.out] at e; cases e)⟩
      rw [HRE.out] at e
      injection e with e
      subst e
      rw [← HIP.out]
      exact ⟨⟨la, lc, rfl, (ho.fr hff (fun g hg _ e => by have : g = w.heap.size := e; omega)).base (by omega)⟩, hb.trans (hff.below _ hb.size (fun k hk => by omega))⟩
    obtain ⟨f, rfl⟩ : ∃ g, f = g + 1 := ⟨f - 1, by omega⟩
    have hlt1 : (p : Int) < (m : Int) := by omega
    have HST : Hid (chsR (f + 1) i (zs.drop p) = match chuR (zs.drop p) i with
        | .error e => .error e
        | .ok c => combC [c] (chsR f (i + 1) (restC (zs.drop p)))) := by
      have hzn : zs.drop p ≠ [] := fun e => by rw [e] at hdl; simp at hdl; omega
      show _ = _
      conv => lhs; unfold chsR; rw [if_neg hzn]
      cases chuR (zs.drop p) i <;> rfl
    have HER : Hid (∀ er, chuR (zs.drop p) i = .error er → r = .error er) := fun er h => by rw [HRR.out, HST.out, h]; rfl
    have HHE : Hid (∀ er, headO (zs.drop p) i = some er → r = .error er) := fun er h => HER.out er (by unfold chuR; rw [h])
    have HE : Hid (Stc wr w.heap.size [.int .u16 0, .int .u16 0, .int .u32 0] ∧ Below w.heap.size w wr) := ⟨HUO.out.1, HUO.out.2.1⟩
    by_cases h4 : m - p < 4
    case pos =>
      have h41 : (m : Int) - (p : Int) < 4 := by omega
      have HRE : Hid (r = .error 3) := HHE.out 3 (by unfold headO; rw [if_pos (by omega)])
      clear HRR HST HER HHE HUO
      have s3 := HE.out.1
      have g0 := s3.free 0
      have g1 := s3.free 1
      have g2 := s3.free 2
      have d0 := s3.cell 0 _ rfl
      have d1 := s3.cell 1 _ rfl
      have d2 := s3.cell 2 _ rfl
      clear s3
      go_wp2
      try simp only [Exit.inBlock, Exit.then]
      obtain ⟨s3, hb⟩ := HE.out
      have hput := s3.put [.int .u16 0, .int .u16 0, .int .u32 0] rfl
      have hff := fr_setCellsX w.heap.size [.int .u16 0, .int .u16 0, .int .u32 0] 0 wr
      refine bodyPost_ret (results_cellE3 rfl _ _ w.heap.size 0 [.int .u16 0, .int .u16 0, .int .u32 0] _ rfl hput.range Tryd.underlying36 rfl (by kernel_rfl)) rfl ?_
      exact RtR.fail (er := 3) HRE.out ⟨rfl, hb.trans (hff.below _ hb.size (fun k hk => by omega))⟩
    have h41 : ¬ (m : Int) - (p : Int) < 4 := by omega
    obtain ⟨nn, hnn⟩ : ∃ nn, nn = numB ((zs.drop (p + 2)).take 2) := ⟨_, rfl⟩
    have hnn2 : nn = numB (((zs.drop p).drop 2).take 2) := by rw [hnn, List.drop_drop]
    have hnb : nn < 65536 := by rw [hnn]; exact numB_take (drop_bnd hbnd (p + 2)) 2 (by rw [List.length_drop]; omega)
    have HN := (show Hid _ from rnum12 (HS.out.below HUO.out.2.1) (p + 2) 2 (by omega) (by omega) (by omega) nn hnn (.int .i64 ((p : Int) + 2)) (by congr 1) (.int .i64 2) rfl)
    have HNN := (show Hid _ from hnn2)
    clear hnn hnn2
    go_wp2_with fail
    refine Calls.mono HN.out ?_
    clear HN
    rintro e w5 ⟨rfl, hw5⟩
    replace hw5 := hw5.symm
    subst hw5
    by_cases hn4 : nn < 4
    case pos =>
      have hn41 : (nn : Int) < 4 := by omega
      have HRE : Hid (r = .error 4) := HHE.out 4 (by unfold headO; rw [if_neg (by omega), if_pos (by rw [← HNN.out]; exact hn4)])
      clear HRR HST HER HHE HUO
      have s3 := HE.out.1
      have g0 := s3.free 0
      have g1 := s3.free 1
      have g2 := s3.free 2
      have d0 := s3.cell 0 _ rfl
      have d1 := s3.cell 1 _ rfl
      have d2 := s3.cell 2 _ rfl
      clear s3
      go_wp2
      try simp only [Exit.inBlock, Exit.then]
      obtain ⟨s3, hb⟩ := HE.out
      have hput := s3.put [.int .u16 0, .int .u16 0, .int .u32 0] rfl
      have hff := fr_setCellsX w.heap.size [.int .u16 0, .int .u16 0, .int .u32 0] 0 wr
      refine bodyPost_ret (results_cellE3 rfl _ _ w.heap.size 0 [.int .u16 0, .int .u16 0, .int .u32 0] _ rfl hput.range Tryd.underlying36 rfl (by kernel_rfl)) rfl ?_
      exact RtR.fail (er := 4) HRE.out ⟨rfl, hb.trans (hff.below _ hb.size (fun k hk => by omega))⟩
    have hn41 : ¬ (nn : Int) < 4 := by omega
    obtain ⟨pd, hpd⟩ : ∃ pd, pd = padN (nn - 4) := ⟨_, rfl⟩
    have hpd2 : pd = (4 - (nn - 4) % 4) % 4 := hpd
    have HLC : Hid (lenC (zs.drop p) = nn - 4 ∧ padN (nn - 4) = pd) := ⟨by unfold lenC; rw [← HNN.out], hpd.symm⟩
    have HPD := (show Hid _ from hpd2)
    have hpd3 : pd ≤ 3 := by omega
    clear hpd hpd2
    go_wp2_with fail
    go_loopw [10] (fun u10 wv => ∃ j : Nat, j ≤ pd ∧ u10 = .int .i64 ((nn + j : Nat) : Int) ∧ wv = wr) (fun u10 _ => pd + nn - (intOf u10).toNat)
    case atStart => exact ⟨0, by omega, by first | rfl | (congr 1), (by first | rfl | trivial)⟩
    case round =>
      obtain ⟨j, hj, rfl, hwr⟩ := hrel
      replace hwr := hwr.symm
      subst hwr
      obtain ⟨wh, hq⟩ : ∃ wh, wh = nn + j := ⟨_, rfl⟩
      rw [← hq]
      have h9 := HPD.out
      have hwb2 : wh ≤ 70000 := by omega
      by_cases hjm : j < pd
      · have g1 : (((wh : Nat) : Int) % 4 != 0) = true := by simp; omega
        have HQ := (show Hid _ from hq)
        clear hq h9
        go_wp2
        go_roundw
        case rel => exact ⟨j + 1, by omega, by have := HQ.out; subst this; go_num, (by first | rfl | trivial)⟩
        case measure => have := HQ.out; simp [intOf]; omega
      have g1 : (((wh : Nat) : Int) % 4 != 0) = false := by simp; omega
      have hwh : wh = nn + pd := by omega
      have HWH : Hid (4 + lenC (zs.drop p) + padN (lenC (zs.drop p)) = wh) := by show _ = _; rw [HLC.out.1, HLC.out.2]; omega
      have hwb : nn ≤ wh ∧ wh ≤ nn + 3 := by omega
      clear h9 hq hwh hj hjm HPD
      by_cases hnl : m - p < wh
      case pos =>
        have hnl1 : (m : Int) - (p : Int) < (wh : Int) := by omega
        have HRE : Hid (r = .error 3) := HHE.out 3 (by unfold headO; rw [if_neg (by omega), if_neg (by rw [← HNN.out]; exact hn4), if_pos (by rw [HWH.out]; omega)])
        clear HRR HST HER HHE HUO
        have s3 := HE.out.1
        have g0 := s3.free 0
        have g1 := s3.free 1
        have g2 := s3.free 2
        have d0 := s3.cell 0 _ rfl
        have d1 := s3.cell 1 _ rfl
        have d2 := s3.cell 2 _ rfl
        clear s3
        go_wp2
        try simp only [Exit.inBlock, Exit.then]
        obtain ⟨s3, hb⟩ := HE.out
        have hput := s3.put [.int .u16 0, .int .u16 0, .int .u32 0] rfl
        have hff := fr_setCellsX w.heap.size [.int .u16 0, .int .u16 0, .int .u32 0] 0 wr
        refine bodyPost_ret (results_cellE3 rfl _ _ w.heap.size 0 [.int .u16 0, .int .u16 0, .int .u32 0] _ rfl hput.range Tryd.underlying36 rfl (by kernel_rfl)) rfl ?_
        exact RtR.fail (er := 3) HRE.out ⟨rfl, hb.trans (hff.below _ hb.size (fun k hk => by omega))⟩
      have hnl1 : ¬ (m : Int) - (p : Int) < (wh : Int) := by omega
      by_cases hi : 32 ≤ i
      case pos =>
        have hi1 : (32 : Int) ≤ (i : Int) := by omega
        have HRE : Hid (r = .error 6) := HHE.out 6 (by unfold headO; rw [if_neg (by omega), if_neg (by rw [← HNN.out]; exact hn4), if_neg (by rw [HWH.out]; omega), if_pos hi])
        clear HRR HST HER HHE HUO
        have s3 := HE.out.1
        have g0 := s3.free 0
        have g1 := s3.free 1
        have g2 := s3.free 2
        have d0 := s3.cell 0 _ rfl
        have d1 := s3.cell 1 _ rfl
        have d2 := s3.cell 2 _ rfl
        clear s3
        go_wp2
        try simp only [Exit.inBlock, Exit.then]
        obtain ⟨s3, hb⟩ := HE.out
        have hput := s3.put [.int .u16 0, .int .u16 0, .int .u32 0] rfl
        have hff := fr_setCellsX w.heap.size [.int .u16 0, .int .u16 0, .int .u32 0] 0 wr
        refine bodyPost_ret (results_cellE3 rfl _ _ w.heap.size 0 [.int .u16 0, .int .u16 0, .int .u32 0] _ rfl hput.range Tryd.underlying36 rfl (by kernel_rfl)) rfl ?_
        exact RtR.fail (er := 6) HRE.out ⟨rfl, hb.trans (hff.below _ hb.size (fun k hk => by omega))⟩
      have hi1 : ¬ (32 : Int) ≤ (i : Int) := by omega
      obtain ⟨mm, hm⟩ : ∃ mm, mm = nn - 4 := ⟨_, rfl⟩
      obtain ⟨o4, hsl4, hsl4b⟩ := slice_lhR b off m c (p + 4) (p + nn) (by omega) (by omega) hcap
      rw [show p + nn - (p + 4) = mm by omega] at hsl4 hsl4b
      obtain ⟨c4, hc4⟩ : ∃ c4, c4 = c - (p + 4) := ⟨_, rfl⟩
      rw [← hc4] at hsl4 hsl4b
      rw [show ((p + 4 : Nat) : Int) = (p : Int) + 4 from by omega, show ((p + nn : Nat) : Int) = (p : Int) + (nn : Int) from by omega] at hsl4
      obtain ⟨k, hk⟩ : ∃ k, k = zs.getD p 0 := ⟨_, rfl⟩
      obtain ⟨fl, hfl⟩ : ∃ fl, fl = zs.getD (p + 1) 0 := ⟨_, rfl⟩
      obtain ⟨vz, hvz⟩ : ∃ vz, vz = (zs.drop (p + 4)).take mm := ⟨_, rfl⟩
      have hkb : k < 256 := by rw [hk]; exact hbnd p
      have hfb : fl < 256 := by rw [hfl]; exact hbnd (p + 1)
      obtain ⟨rr, hrr⟩ : ∃ rr, rr = valR k fl vz := ⟨_, rfl⟩
      have HCU : Hid (chuR (zs.drop p) i = rr) := by
        show _ = _
        unfold chuR
        rw [show headO (zs.drop p) i = none from by unfold headO; rw [if_neg (by omega), if_neg (by rw [← HNN.out]; exact hn4), if_neg (by rw [HWH.out]; omega), if_neg hi]]
        dsimp only
        rw [numB_get zs p (by omega), List.drop_drop, numB_get zs (p + 1) (by omega), ← hk, ← hfl, hrr]
        congr 1
        unfold valC
        rw [HLC.out.1, ← hm, List.drop_drop, hvz]
      have HON : Hid (∀ V, Below wr.heap.size wr V → Calls Tryd.prog 39 #[.int .u8 (k : Nat), .int .u8 (fl : Nat), .slice (some ⟨b, o4, none⟩) mm c4] V (OnR V rr)) := fun V hV => by
        have h1 := hsl4b V zs (HS.out.below (HUO.out.2.1.trans (hV.mono HUO.out.2.1.size)))
        rw [← hvz] at h1
        rw [hrr]
        exact rOne h1 (by omega) k fl hkb hfb
      have HKC : Hid (∀ V, Below wr.heap.size wr V → V.cell? ⟨b, off + p, none⟩ = some (.int .u8 (k : Nat)) ∧ V.cell? ⟨b, off + (p + 1), none⟩ = some (.int .u8 (fl : Nat))) := fun V hV => by
        have h1 := HS.out.below (HUO.out.2.1.trans (hV.mono HUO.out.2.1.size))
        rcases h1.at_ with h0 | ⟨b', off', e1, _, h2⟩
        · omega
        · injection e1 with e1
          injection e1 with e1 e2
          subst e1 e2
          rw [hk, hfl]
          exact ⟨h2 p (by omega), h2 (p + 1) (by omega)⟩
      have HSL := (show Hid _ from hsl4)
      have HWR : Hid (IntKind.i64.wrap ((p : Int) + 1) = (p : Int) + 1 ∧ IntKind.i64.wrap ((p : Int) + 4) = (p : Int) + 4 ∧ IntKind.i64.wrap ((p : Int) + (nn : Int)) = (p : Int) + (nn : Int) ∧ ((p : Int) + 1).toNat = p + 1 ∧ (p : Int) + 1 < (m : Int) ∧ (0 : Int) ≤ (p : Int) + 1) := ⟨by rw [IntKind.wrap_i64]; omega, by rw [IntKind.wrap_i64]; omega, by rw [IntKind.wrap_i64]; omega, by omega, by omega, by omega⟩
      have HRV := (show Hid _ from hrr)
      clear hsl4 hsl4b hc4 hk hfl hvz hrr hm HNN HLC HHE hdl HE
      go_wp2_with fail
      refine wp_region_parW mixedX (fun θ : Nat × List Value × Int => [(69, .slice (some ⟨b, off, none⟩) m c), (70, .int .i64 (p : Nat)), (71, .pointer (some ⟨b, off + p, none⟩)), (72, .int .u8 (k : Nat)), (73, .slice (some ⟨b, off, none⟩) m c), (74, .int .i64 (p : Nat)), (75, .int .i64 ((p : Int) + 1)), (76, .pointer (some ⟨b, off + (p + 1), none⟩)), (77, .int .u8 (fl : Nat)), (78, .slice (some ⟨b, off, none⟩) m c), (79, .int .i64 (p : Nat)), (80, .int .i64 ((p : Int) + 4)), (81, .int .i64 (p : Nat)), (82, .int .i64 (nn : Nat)), (83, .int .i64 ((p : Int) + (nn : Int))), (84, .slice (some ⟨b, o4, none⟩) mm c4), (85, .tuple #[.agg θ.2.1.toArray, .int .i64 θ.2.2]), (68, .tuple #[.agg θ.2.1.toArray, .int .i64 θ.2.2]), (86, .agg θ.2.1.toArray), (87, .int .i64 θ.2.2), (11, .pointer (some ⟨θ.1, 0, none⟩)), (12, .int .i64 θ.2.2)]) (fun θ l V => RgT wr rr θ.1 θ.2.1 θ.2.2 l V) (0, [], 0) ?Z ?hZ (by kernel_rfl) (by kernel_rfl) (fun θ => by kernel_rfl) (by kernel_rfl) ?h0 ?hops ?he
      case hZ => intro θ; simp only [List.foldl_cons, List.foldl_nil, List.setIfInBounds_toArray, List.set_cons_zero, List.set_cons_succ]; rfl
      case h0 => exact RgT.start (Below.refl _ _).drew
      case hops =>
        refine ⟨?_, ?_, ?_, ?_, ?_, ?_, ?_, ?_, ?_, ?_, ?_, ?_, ?_, ?_, ?_, ?_, ?_, ?_, ?_, ?_, ?_, ?_, ?_, trivial⟩
        · exact par_val (fun θ => by rfl) (fun θ l V hg => hg.other 0 (by decide) (by decide) (by decide)) (fun θ l V hl hc hd hg => by obtain ⟨e0, e1⟩ := HKC.out V hg.bel; have hsl := HSL.out; obtain ⟨hw1, hw2, hw3, hw4, hw5, hw6⟩ := HWR.out; clear hg; go_simp; (try with_reducible rfl); (try omega))
        · exact par_val (fun θ => by rfl) (fun θ l V hg => hg.other 1 (by decide) (by decide) (by decide)) (fun θ l V hl hc hd hg => by obtain ⟨e0, e1⟩ := HKC.out V hg.bel; have hsl := HSL.out; obtain ⟨hw1, hw2, hw3, hw4, hw5, hw6⟩ := HWR.out; clear hg; go_simp; (try with_reducible rfl); (try omega))
        · exact par_val (fun θ => by rfl) (fun θ l V hg => hg.other 2 (by decide) (by decide) (by decide)) (fun θ l V hl hc hd hg => by obtain ⟨e0, e1⟩ := HKC.out V hg.bel; have hsl := HSL.out; obtain ⟨hw1, hw2, hw3, hw4, hw5, hw6⟩ := HWR.out; clear hg; go_simp; (try with_reducible rfl); (try omega))
        · exact par_val (fun θ => by rfl) (fun θ l V hg => hg.other 3 (by decide) (by decide) (by decide)) (fun θ l V hl hc hd hg => by obtain ⟨e0, e1⟩ := HKC.out V hg.bel; have hsl := HSL.out; obtain ⟨hw1, hw2, hw3, hw4, hw5, hw6⟩ := HWR.out; clear hg; go_simp; (try with_reducible rfl); (try omega))
        · exact par_val (fun θ => by rfl) (fun θ l V hg => hg.other 4 (by decide) (by decide) (by decide)) (fun θ l V hl hc hd hg => by obtain ⟨e0, e1⟩ := HKC.out V hg.bel; have hsl := HSL.out; obtain ⟨hw1, hw2, hw3, hw4, hw5, hw6⟩ := HWR.out; clear hg; go_simp; (try with_reducible rfl); (try omega))
        · exact par_val (fun θ => by rfl) (fun θ l V hg => hg.other 5 (by decide) (by decide) (by decide)) (fun θ l V hl hc hd hg => by obtain ⟨e0, e1⟩ := HKC.out V hg.bel; have hsl := HSL.out; obtain ⟨hw1, hw2, hw3, hw4, hw5, hw6⟩ := HWR.out; clear hg; go_simp; (try with_reducible rfl); (try omega))
        · exact par_val (fun θ => by rfl) (fun θ l V hg => hg.other 6 (by decide) (by decide) (by decide)) (fun θ l V hl hc hd hg => by obtain ⟨e0, e1⟩ := HKC.out V hg.bel; have hsl := HSL.out; obtain ⟨hw1, hw2, hw3, hw4, hw5, hw6⟩ := HWR.out; clear hg; go_simp; (try with_reducible rfl); (try omega))
        · exact par_val (fun θ => by rfl) (fun θ l V hg => hg.other 7 (by decide) (by decide) (by decide)) (fun θ l V hl hc hd hg => by obtain ⟨e0, e1⟩ := HKC.out V hg.bel; have hsl := HSL.out; obtain ⟨hw1, hw2, hw3, hw4, hw5, hw6⟩ := HWR.out; clear hg; go_simp; (try with_reducible rfl); (try omega))
        · exact par_val (fun θ => by rfl) (fun θ l V hg => hg.other 8 (by decide) (by decide) (by decide)) (fun θ l V hl hc hd hg => by obtain ⟨e0, e1⟩ := HKC.out V hg.bel; have hsl := HSL.out; obtain ⟨hw1, hw2, hw3, hw4, hw5, hw6⟩ := HWR.out; clear hg; go_simp; (try with_reducible rfl); (try omega))
        · exact par_val (fun θ => by rfl) (fun θ l V hg => hg.other 9 (by decide) (by decide) (by decide)) (fun θ l V hl hc hd hg => by obtain ⟨e0, e1⟩ := HKC.out V hg.bel; have hsl := HSL.out; obtain ⟨hw1, hw2, hw3, hw4, hw5, hw6⟩ := HWR.out; clear hg; go_simp; (try with_reducible rfl); (try omega))
        · exact par_val (fun θ => by rfl) (fun θ l V hg => hg.other 10 (by decide) (by decide) (by decide)) (fun θ l V hl hc hd hg => by obtain ⟨e0, e1⟩ := HKC.out V hg.bel; have hsl := HSL.out; obtain ⟨hw1, hw2, hw3, hw4, hw5, hw6⟩ := HWR.out; clear hg; go_simp; (try with_reducible rfl); (try omega))
        · exact par_val (fun θ => by rfl) (fun θ l V hg => hg.other 11 (by decide) (by decide) (by decide)) (fun θ l V hl hc hd hg => by obtain ⟨e0, e1⟩ := HKC.out V hg.bel; have hsl := HSL.out; obtain ⟨hw1, hw2, hw3, hw4, hw5, hw6⟩ := HWR.out; clear hg; go_simp; (try with_reducible rfl); (try omega))
        · exact par_val (fun θ => by rfl) (fun θ l V hg => hg.other 12 (by decide) (by decide) (by decide)) (fun θ l V hl hc hd hg => by obtain ⟨e0, e1⟩ := HKC.out V hg.bel; have hsl := HSL.out; obtain ⟨hw1, hw2, hw3, hw4, hw5, hw6⟩ := HWR.out; clear hg; go_simp; (try with_reducible rfl); (try omega))
        · exact par_val (fun θ => by rfl) (fun θ l V hg => hg.other 13 (by decide) (by decide) (by decide)) (fun θ l V hl hc hd hg => by obtain ⟨e0, e1⟩ := HKC.out V hg.bel; have hsl := HSL.out; obtain ⟨hw1, hw2, hw3, hw4, hw5, hw6⟩ := HWR.out; clear hg; go_simp; (try with_reducible rfl); (try omega))
        · exact par_val (fun θ => by rfl) (fun θ l V hg => hg.other 14 (by decide) (by decide) (by decide)) (fun θ l V hl hc hd hg => by obtain ⟨e0, e1⟩ := HKC.out V hg.bel; have hsl := HSL.out; obtain ⟨hw1, hw2, hw3, hw4, hw5, hw6⟩ := HWR.out; clear hg; go_simp; (try with_reducible rfl); (try omega))
        · exact par_val (fun θ => by rfl) (fun θ l V hg => hg.other 15 (by decide) (by decide) (by decide)) (fun θ l V hl hc hd hg => by obtain ⟨e0, e1⟩ := HKC.out V hg.bel; have hsl := HSL.out; obtain ⟨hw1, hw2, hw3, hw4, hw5, hw6⟩ := HWR.out; clear hg; go_simp; (try with_reducible rfl); (try omega))
        · exact par_call (fun θ => by rfl) rfl (vs := fun _ => [.int .u8 (k : Nat), .int .u8 (fl : Nat), .slice (some ⟨b, o4, none⟩) mm c4]) (fun θ => by rfl) Tryd.func39 (by rfl) (by rfl) (fun θ l V hl hc hd hg => by
            have h17 : l 17 = false := (by cases h : l 17 with | false => rfl | true => exact absurd (hc 17 16 (by kernel_rfl) h) (by rw [hl]; decide))
            have h18 : l 18 = false := (by cases h : l 18 with | false => rfl | true => exact absurd (hc 18 16 (by kernel_rfl) h) (by rw [hl]; decide))
            have h19 : l 19 = false := (by cases h : l 19 with | false => rfl | true => exact absurd (hc 19 16 (by kernel_rfl) h) (by rw [hl]; decide))
            have h21 : l 21 = false := (by cases h : l 21 with | false => rfl | true => exact absurd (hc 21 16 (by kernel_rfl) h) (by rw [hl]; decide))
            have h22 : l 22 = false := (by cases h : l 22 with | false => rfl | true => exact absurd (hc 22 16 (by kernel_rfl) h) (by rw [hl]; decide))
            refine Calls.mono (HON.out V hg.bel) ?_
            intro e V2 hP
            obtain ⟨cs2, er2, rfl, hg2⟩ := hg.call h21 hP
            exact ⟨_, rfl, next_set (by kernel_rfl) ((θ.1, cs2, er2) : Nat × List Value × Int) [(85, .tuple #[.agg cs2.toArray, .int .i64 er2], 16), (68, .tuple #[.agg cs2.toArray, .int .i64 er2], 17), (86, .agg cs2.toArray, 18), (87, .int .i64 er2, 19), (12, .int .i64 er2, 22)] (by simp only [List.foldl_cons, List.foldl_nil, List.setIfInBounds_toArray, List.set_cons_zero, List.set_cons_succ]) (by kernel_rfl) (fun y hy => by simp at hy; rcases hy with rfl | rfl | rfl | rfl | rfl; exact hl; exact h17; exact h18; exact h19; exact h22) (fun d hd => by cases hd; rfl) hg2⟩)
        · exact par_val (fun θ => by rfl) (fun θ l V hg => hg.other 17 (by decide) (by decide) (by decide)) (fun θ l V hl hc hd hg => by obtain ⟨e0, e1⟩ := HKC.out V hg.bel; have hsl := HSL.out; obtain ⟨hw1, hw2, hw3, hw4, hw5, hw6⟩ := HWR.out; clear hg; go_simp; (try with_reducible rfl); (try omega))
        · exact par_val (fun θ => by rfl) (fun θ l V hg => hg.other 18 (by decide) (by decide) (by decide)) (fun θ l V hl hc hd hg => by obtain ⟨e0, e1⟩ := HKC.out V hg.bel; have hsl := HSL.out; obtain ⟨hw1, hw2, hw3, hw4, hw5, hw6⟩ := HWR.out; clear hg; go_simp; (try with_reducible rfl); (try omega))
        · exact par_val (fun θ => by rfl) (fun θ l V hg => hg.other 19 (by decide) (by decide) (by decide)) (fun θ l V hl hc hd hg => by obtain ⟨e0, e1⟩ := HKC.out V hg.bel; have hsl := HSL.out; obtain ⟨hw1, hw2, hw3, hw4, hw5, hw6⟩ := HWR.out; clear hg; go_simp; (try with_reducible rfl); (try omega))
        · exact par_run (fun θ => by rfl) (fun θ l V hl hc hd hg => by
            have h21 : l 21 = false := (by cases h : l 21 with | false => rfl | true => exact absurd (hc 21 20 (by kernel_rfl) h) (by rw [hl]; decide))
            exact ⟨_, _, run_allocX rfl zero_ch14R, next_set (by kernel_rfl) ((V.heap.size, θ.2) : Nat × List Value × Int) [(11, .pointer (some ⟨V.heap.size, 0, none⟩), 20)] (by simp only [List.foldl_cons, List.foldl_nil, List.setIfInBounds_toArray, List.set_cons_zero, List.set_cons_succ]) (by kernel_rfl) (fun y hy => by simp at hy; subst hy; exact hl) (fun d hd => by cases hd; rfl) (hg.alloc h21 _)⟩)
        · exact par_skip (fun θ => by rfl) (fun θ l V hl hc hd hg => by
            obtain ⟨hth, hst⟩ := hg.store (hd 20 (by kernel_rfl)) (hd 16 (by kernel_rfl)) hl
            have hq := (hg.d (hd 16 (by kernel_rfl))).1
            exact ⟨_, run_storeX rfl (b := θ.1) (k := 0) (by rfl) (cs := θ.2.1) (by rfl) hth (ch_size14R _ hq.1) hq.2, ⟨θ, fun _ _ _ _ _ _ => rfl, fun d hd => (by cases hd), hst⟩⟩)
        · exact par_val (fun θ => by rfl) (fun θ l V hg => hg.other 22 (by decide) (by decide) (by decide)) (fun θ l V hl hc hd hg => by obtain ⟨e0, e1⟩ := HKC.out V hg.bel; have hsl := HSL.out; obtain ⟨hw1, hw2, hw3, hw4, hw5, hw6⟩ := HWR.out; clear hg; go_simp; (try with_reducible rfl); (try omega))
      case he =>
      intro θ l V hall hg
      obtain ⟨q9, cs, er⟩ := θ
      have hD := hg.done (hall 20 (by decide)) (hall 16 (by decide)) (hall 21 (by decide))
      clear hall hg HON HKC HSL HWR
      dsimp only at hD ⊢
      have HD := (show Hid _ from hD)
      clear hD
      cases hrc : rr with
      | error e0 =>
        have hne : ¬ e0 = 0 := by
          rw [HRV.out] at hrc
          have := valR_err _ _ _ _ hrc
          omega
        have hee : er = e0 := HD.out.2.2.2.1 e0 hrc
        subst hee
        have hne1 : (er != 0) = true := by simp; exact hne
        have HRE : Hid (r = .error er) := HER.out er (by rw [HCU.out]; exact hrc)
        have HE : Hid (Stc V w.heap.size [.int .u16 0, .int .u16 0, .int .u32 0] ∧ Below w.heap.size w V) := ⟨HUO.out.1.below HD.out.2.1, HUO.out.2.1.trans (HD.out.2.1.mono HUO.out.2.1.size)⟩
        clear HRR HST HER HUO HD HCU HRV hrc hne
        have s3 := HE.out.1
        have g0 := s3.free 0
        have g1 := s3.free 1
        have g2 := s3.free 2
        have d0 := s3.cell 0 _ rfl
        have d1 := s3.cell 1 _ rfl
        have d2 := s3.cell 2 _ rfl
        clear s3
        go_wp2
        try simp only [Exit.inBlock, Exit.then]
        obtain ⟨s3, hb⟩ := HE.out
        have hput := s3.put [.int .u16 0, .int .u16 0, .int .u32 0] rfl
        have hff := fr_setCellsX w.heap.size [.int .u16 0, .int .u16 0, .int .u32 0] 0 V
        refine bodyPost_ret (results_cellE3 rfl _ _ w.heap.size 0 [.int .u16 0, .int .u16 0, .int .u32 0] _ rfl hput.range Tryd.underlying36 rfl (by kernel_rfl)) rfl ?_
        exact RtR.fail (er := er) HRE.out ⟨rfl, hb.trans (hff.below _ hb.size (fun k hk => by omega))⟩
      | ok cd =>
        obtain ⟨he0, hco⟩ := HD.out.2.2.2.2 cd hrc
        subst he0
        have hcl := HD.out.2.2.1
        have hcl2 : cs.toArray.size = 14 := by simp [hcl]
        have hrg := HD.out.1.range
        have hi14 := ch_size14R cs hcl
        have bV := HD.out.2.1
        have HRE : Hid (r = combC (cds ++ [cd]) (chsR f (i + 1) (zs.drop (p + wh)))) := by
          show _ = _
          rw [HRR.out, HST.out, HCU.out, hrc]
          dsimp only
          rw [combC_comb, restC_at, HWH.out]
        have hsV := HUO.out.1.below bV
        have hbV : Below w.heap.size w V := HUO.out.2.1.trans (bV.mono HUO.out.2.1.size)
        have hoV : ChsO V (w.heap.size + 1) la i lc cds := HUO.out.2.2.fr (Q := fun _ => False) (Fr.of_below bV) (fun _ _ _ e => e)
        have hwl : w.heap.size + 1 ≤ wr.heap.size := HUO.out.1.lt
        obtain ⟨g7, c7, V7, hr7, ho7, hf7⟩ := hoV.app (hco.base hwl) (Nat.le_trans hwl bV.size) (by omega)
        have HF : Hid (Stc V7 w.heap.size [.int .u16 0, .int .u16 0, .int .u32 0] ∧ Below w.heap.size w V7 ∧ ChsO V7 (w.heap.size + 1) (some ⟨g7, 0, none⟩) (i + 1) c7 (cds ++ [cd]) ∧ r = combC (cds ++ [cd]) (chsR f (i + 1) (zs.drop (p + wh)))) := ⟨hsV.fr hf7 (by omega), hbV.trans (hf7.below _ hbV.size (fun k hk => by omega)), ho7, HRE.out⟩
        clear hsV hbV hoV hwl ho7 hf7 HUO HD HCU HRV hrc hco HRE HRR HST HER bV
        go_wp2_with (first | (refine wpList_load_mid rfl 29 _ rfl q9 0 rfl cs _ hrg Tryd.underlying29 rfl hi14 ?_) | (at_builtin; rw [fold14 cs hcl]; refine app_eq_listR rfl _ _ rfl rfl rfl rfl hr7 ?_))
        clear hr7
        go_wp2
        go_roundw
        case rel => exact ⟨f, i + 1, p + wh, _, _, cds ++ [cd], by rw [HIP.out]; simp, by omega, by omega, by omega, by omega, rfl, by go_num, HF.out⟩
        case measure => simp; omega
end Go.Proofs.YtifdfkkjmjabnaaDoor
namespace Go.Proofs.YtifdfkkjmjabnaaDoor
open Go.RowKit
set_option linter.unusedVariables false in
set_option maxRecDepth 100000 in
set_option maxHeartbeats 8000000 in
theorem rt_short {w : World} {a : Option Addr} {m c : Nat} (hm : m < 16) :
    Calls Tryd.prog 17 #[.slice a m c] w (TkE w 3) := by
  have hz := zero_head
  have hm1 : (m : Int) < 16 := by omega
  obtain ⟨W1, hW1⟩ : ∃ W1, W1 = w.alloc (.cells #[.int .u16 0, .int .u16 0, .int .u32 0] 36) := ⟨_, rfl⟩
  have b1 : Below w.heap.size w W1 := by rw [hW1]; exact (Below.refl _ _).alloc (Nat.le_refl _) _
  have s1 := Stc.new w [.int .u16 0, .int .u16 0, .int .u32 0] 36 W1 hW1
  have HE := (show Hid _ from And.intro s1 b1)
  clear b1 s1
  go_enter Tryd.func17, Tryd.ntmps17
  go_upto_region 2 with fail
  rw [← hW1]
  clear hW1 hz
  have s3 := HE.out.1
  have g0 := s3.free 0
  have g1 := s3.free 1
  have g2 := s3.free 2
  have d0 := s3.cell 0 _ rfl
  have d1 := s3.cell 1 _ rfl
  have d2 := s3.cell 2 _ rfl
  clear s3
  go_wp2
  try simp only [Exit.inBlock, Exit.then]
  obtain ⟨s3, hb⟩ := HE.out
  have hput := s3.put [.int .u16 0, .int .u16 0, .int .u32 0] rfl
  have hff := fr_setCellsX w.heap.size [.int .u16 0, .int .u16 0, .int .u32 0] 0 W1
  refine bodyPost_ret (results_cellE3 rfl _ _ w.heap.size 0 [.int .u16 0, .int .u16 0, .int .u32 0] _ rfl hput.range Tryd.underlying36 rfl (by kernel_rfl)) rfl ?_
  exact ⟨rfl, hb.trans (hff.below _ hb.size (fun k hk => by omega))⟩
set_option linter.unusedVariables false in
set_option maxRecDepth 100000 in
set_option maxHeartbeats 8000000 in
theorem rt_long {w : World} {a : Option Addr} {m c : Nat} (hm : 1480 < m) :
    Calls Tryd.prog 17 #[.slice a m c] w (TkE w 6) := by
  have hz := zero_head
  have hm1 : (1480 : Int) < (m : Int) := by omega
  have hm2 : ¬ (m : Int) < 16 := by omega
  obtain ⟨W1, hW1⟩ : ∃ W1, W1 = w.alloc (.cells #[.int .u16 0, .int .u16 0, .int .u32 0] 36) := ⟨_, rfl⟩
  have b1 : Below w.heap.size w W1 := by rw [hW1]; exact (Below.refl _ _).alloc (Nat.le_refl _) _
  have s1 := Stc.new w [.int .u16 0, .int .u16 0, .int .u32 0] 36 W1 hW1
  have HE := (show Hid _ from And.intro s1 b1)
  clear b1 s1
  go_enter Tryd.func17, Tryd.ntmps17
  go_upto_region 4 with fail
  rw [← hW1]
  clear hW1 hz
  have s3 := HE.out.1
  have g0 := s3.free 0
  have g1 := s3.free 1
  have g2 := s3.free 2
  have d0 := s3.cell 0 _ rfl
  have d1 := s3.cell 1 _ rfl
  have d2 := s3.cell 2 _ rfl
  clear s3
  go_wp2
  try simp only [Exit.inBlock, Exit.then]
  obtain ⟨s3, hb⟩ := HE.out
  have hput := s3.put [.int .u16 0, .int .u16 0, .int .u32 0] rfl
  have hff := fr_setCellsX w.heap.size [.int .u16 0, .int .u16 0, .int .u32 0] 0 W1
  refine bodyPost_ret (results_cellE3 rfl _ _ w.heap.size 0 [.int .u16 0, .int .u16 0, .int .u32 0] _ rfl hput.range Tryd.underlying36 rfl (by kernel_rfl)) rfl ?_
  exact ⟨rfl, hb.trans (hff.below _ hb.size (fun k hk => by omega))⟩
set_option linter.unusedVariables false in
set_option maxRecDepth 100000 in
set_option maxHeartbeats 8000000 in
theorem rt_sum {w : World} {b off m c : Nat} {zs : List Nat} (hs : Sl w (some ⟨b, off, none⟩) m c zs) (h16 : 16 ≤ m) (h14 : m ≤ 1480) (hst : stampedB zs = false) :
    Calls Tryd.prog 17 #[.slice (some ⟨b, off, none⟩) m c] w (TkE w 5) := by
  have hlz := hs.len
  have HS := (show Hid _ from hs)
  have hz := zero_head
  have h161 : ¬ (m : Int) < 16 := by omega
  have h141 : ¬ (1480 : Int) < (m : Int) := by omega
  obtain ⟨W1, hW1⟩ : ∃ W1, W1 = w.alloc (.cells #[.int .u16 0, .int .u16 0, .int .u32 0] 36) := ⟨_, rfl⟩
  have b1 : Below w.heap.size w W1 := by rw [hW1]; exact (Below.refl _ _).alloc (Nat.le_refl _) _
  have s1 := Stc.new w [.int .u16 0, .int .u16 0, .int .u32 0] 36 W1 hW1
  have HSP := (show Hid _ from refstamp_any _ m c zs W1 (hs.below b1) (by omega))
  have hlen : (stampV zs).length = m := by rw [stampV_len zs (by omega), hlz]
  rw [hlen] at HSP
  obtain ⟨se, hse⟩ : ∃ se, se = stampE m := ⟨_, rfl⟩
  rw [← hse] at HSP
  obtain ⟨sA, hsA⟩ : ∃ sA, sA = strOf (stampV zs) := ⟨_, rfl⟩
  obtain ⟨sB, hsB⟩ : ∃ sB, sB = strOf zs := ⟨_, rfl⟩
  have hcmp : (sA.toList == sB.toList) = false := by rw [hsA, hsB]; unfold stampedB at hst; rw [if_neg (by omega)] at hst; exact hst
  have hcmp2 : (sA.toList != sB.toList) = true := by unfold bne; rw [hcmp]; rfl
  have HSAB := (show Hid _ from And.intro hsA hsB)
  have HS1 := (show Hid _ from And.intro s1 b1)
  clear hs b1 s1 hlen hse hst hsA hsB
  go_enter Tryd.func17, Tryd.ntmps17
  go_wp2_with fail
  rw [← hW1]
  clear hW1 hz
  refine Calls.mono HSP.out ?_
  clear HSP
  rintro e w1 ⟨a1, c1, rfl, ho1, b2⟩
  have hb2 : Below w.heap.size w w1 := HS1.out.2.trans (b2.mono HS1.out.2.size)
  have cv1 := conv_str (ho1.sl (by omega))
  have cv2 := conv_str (HS.out.below hb2)
  rw [← HSAB.out.1] at cv1
  rw [← HSAB.out.2] at cv2
  have HE : Hid (Stc w1 w.heap.size [.int .u16 0, .int .u16 0, .int .u32 0] ∧ Below w.heap.size w w1) := ⟨HS1.out.1.below b2, hb2⟩
  clear hb2 b2 ho1 HS1 HSAB HS
  have s3 := HE.out.1
  have g0 := s3.free 0
  have g1 := s3.free 1
  have g2 := s3.free 2
  have d0 := s3.cell 0 _ rfl
  have d1 := s3.cell 1 _ rfl
  have d2 := s3.cell 2 _ rfl
  clear s3
  go_wp2
  try simp only [Exit.inBlock, Exit.then]
  obtain ⟨s3, hb⟩ := HE.out
  have hput := s3.put [.int .u16 0, .int .u16 0, .int .u32 0] rfl
  have hff := fr_setCellsX w.heap.size [.int .u16 0, .int .u16 0, .int .u32 0] 0 w1
  refine bodyPost_ret (results_cellE3 rfl _ _ w.heap.size 0 [.int .u16 0, .int .u16 0, .int .u32 0] _ rfl hput.range Tryd.underlying36 rfl (by kernel_rfl)) rfl ?_
  exact ⟨rfl, hb.trans (hff.below _ hb.size (fun k hk => by omega))⟩
theorem rtakeX {w : World} {a : Option Addr} {m c : Nat} {zs : List Nat} (hs : Sl w a m c zs) : Calls Tryd.prog 17 #[.slice a m c] w (TkX w zs) := by
  have hl := hs.len
  have bad : ∀ er, takR zs = .error er → Calls Tryd.prog 17 #[.slice a m c] w (TkE w er) → Calls Tryd.prog 17 #[.slice a m c] w (TkX w zs) := fun er h1 h2 => Calls.mono h2 (fun e V hP => ⟨fun C e' => (by rw [h1] at e'; cases e'), fun er' e' => by rw [h1] at e'; injection e' with e'; subst e'; exact hP⟩)
  by_cases h16 : m < 16
  · exact bad 3 (by unfold takR; rw [if_pos (by omega)]) (rt_short h16)
  by_cases h14 : 1480 < m
  · exact bad 6 (by unfold takR; rw [if_neg (by omega), if_pos (by omega)]) (rt_long h14)
  obtain ⟨b, off, ha⟩ : ∃ b off, a = some ⟨b, off, none⟩ := by
    rcases hs.at_ with h0 | ⟨b, off, e1, _⟩
    · omega
    · exact ⟨b, off, e1⟩
  subst ha
  cases hst : stampedB zs with
  | false => exact bad 5 (by unfold takR; rw [if_neg (by omega), if_neg (by omega), hst]; rfl) (rt_sum hs (by omega) (by omega) hst)
  | true =>
    have eT : takR zs = chsR ((zs.drop 12).length + 1) 0 (zs.drop 12) := by unfold takR; rw [if_neg (by omega), if_neg (by omega), hst]; rfl
    refine Calls.mono (rt_main hs (by omega) (by omega) hst) ?_
    intro e V hP
    rw [← eT] at hP
    exact ⟨hP.ok, hP.no⟩
end Go.Proofs.YtifdfkkjmjabnaaDoor
