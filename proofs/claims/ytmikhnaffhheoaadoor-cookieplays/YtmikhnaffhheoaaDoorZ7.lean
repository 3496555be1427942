/- What ref06.Seal answers, whatever the times. -/
import Derived.Test.YtmikhnaffhheoaaDoorBytes
import Derived.Test.YtmikhnaffhheoaaDoorSt
import Derived.Test.YtmikhnaffhheoaaDoorCkLy
import Derived.Deep.DeepMust
import Derived.Deep.OwnRows
import Derived.Test.YtmikhnaffhheoaaDoorCkSl
import Derived.Test.YtmikhnaffhheoaaDoorZ1
import Derived.Test.YtmikhnaffhheoaaDoorZ3
import Derived.Test.YtmikhnaffhheoaaDoorZ5
import Derived.Deep.RegionHeld3
namespace Go.Proofs.YtmikhnaffhheoaaDoor
open Go.RowKit
set_option maxHeartbeats 2000000 in
theorem refbytes_any (v : Nat) (k : Int) (w : World) (hv : v < 18446744073709551616) :
    Calls Tryd.prog 50 #[.int .u64 (v : Nat), .int .i64 k] w fun e w' => ∃ a c, e = .returned (.tuple #[.slice a (bytesV v k).length c, .int .i64 (bytesE v k : Nat)]) ∧ OwnB w' w.heap.size a (bytesV v k).length c (bytesV v k) ∧ Below w.heap.size w w' := by
  by_cases hk : k < 1 ∨ 8 < k
  · have HE : Hid (bytesE v k = 2) := by show _ = _; unfold bytesE; rw [if_pos hk]
    have HV : Hid (bytesV v k = []) := by show _ = _; unfold bytesV; rw [HE.out]; rfl
    by_cases hk1 : k < 1
    · go_enter Tryd.func50, Tryd.ntmps50
      go_wp2
      go_ret2
      rw [HE.out, HV.out]
      exact ⟨none, 0, rfl, OwnB.nil _ _, Below.refl _ _⟩
    · have hk8 : 8 < k := by omega
      go_enter Tryd.func50, Tryd.ntmps50
      go_wp2
      go_ret2
      rw [HE.out, HV.out]
      exact ⟨none, 0, rfl, OwnB.nil _ _, Below.refl _ _⟩
  · have hk1 : 1 ≤ k := by omega
    have hk8 : k ≤ 8 := by omega
    have HE : Hid (bytesE v k = if v / 256 ^ k.toNat = 0 then 0 else 6) := by show _ = _; unfold bytesE; rw [if_neg hk]
    have HV : Hid (bytesV v k = if bytesE v k = 0 then bytesB v k.toNat else []) := rfl
    obtain ⟨k, rfl⟩ := Int.eq_ofNat_of_zero_le (show 0 ≤ k by omega)
    rw [Int.toNat_natCast] at HE HV
    have hmk := mkn k (by omega)
    have hfull := own_full w k (by omega)
    clear hk
    go_enter Tryd.func50, Tryd.ntmps50
    go_wp2
    go_loopw [0, 7] (fun vv i wr => ∃ m : Nat, m ≤ k ∧ ((m = 0 ∧ i = .int .i64 (-1)) ∨ ∃ q : Nat, m = q + 1 ∧ i = .int .i64 q) ∧ vv = .int .u64 (v / 256 ^ (k - m) : Nat) ∧ OwnB wr w.heap.size (some ⟨w.heap.size, 0, none⟩) k k (List.replicate m 0 ++ bytesB v (k - m)) ∧ Below w.heap.size w wr) (fun _ i _ => (intOf i + 1).toNat)
    case atStart =>
      refine ⟨k, Nat.le_refl _, .inr ⟨k - 1, by omega, by go_num⟩, by simp, by simpa [bytesB] using hfull, (Below.refl _ _).alloc (Nat.le_refl _) _⟩
    case round =>
      obtain ⟨m, hm, hcase, rfl, hown, hbel⟩ := hrel
      have hd : v / 256 ^ (k - m) < 18446744073709551616 := Nat.lt_of_le_of_lt (Nat.div_le_self _ _) hv
      rcases hcase with ⟨rfl, rfl⟩ | ⟨q, rfl, rfl⟩
      · have HB : Hid (List.replicate 0 0 ++ bytesB v (k - 0) = bytesB v k) := by show _ = _; simp
        rw [HB.out] at hown
        rw [Nat.sub_zero] at *
        have hbl := bytesB_len v k
        by_cases hz : v / 256 ^ k = 0
        · rw [if_pos hz] at HE
          rw [HE.out, if_pos rfl] at HV
          rw [hz]
          go_wp2
          go_ret2
          rw [HV.out, HE.out]
          exact ⟨some ⟨w.heap.size, 0, none⟩, k, by rw [hbl]; rfl, by rw [hbl]; exact hown, hbel⟩
        · rw [if_neg hz] at HE
          rw [HE.out, if_neg (by omega)] at HV
          generalize v / 256 ^ k = u at *
          have hz' : (0 : Int) < (u : Int) := by omega
          go_wp2
          go_ret2
          rw [HV.out, HE.out]
          exact ⟨none, 0, rfl, OwnB.nil _ _, hbel⟩
      · have hc := hown.cell q (by omega)
        have hf := hown.free q
        have HS : Hid ((List.replicate (q + 1) 0 ++ bytesB v (k - (q + 1))).set q (v / 256 ^ (k - (q + 1)) % 256) = List.replicate q 0 ++ bytesB v (k - q)) := by
          show _ = _
          rw [rep_set, show k - q = k - (q + 1) + 1 from by omega]
          rfl
        have HD := (show Hid _ from div_step v q k (by omega))
        generalize (List.replicate (q + 1) 0 ++ bytesB v (k - (q + 1))) = ys at *
        generalize v / 256 ^ (k - (q + 1)) = u at *
        have hqk : (q : Int) < (k : Int) := by omega
        go_wp2
        go_roundw
        case rel =>
          refine ⟨q, by omega, ?_, ?_, ?_, hbel.setCell (Nat.le_refl _) _⟩
          · by_cases hq0 : q = 0
            · subst hq0; exact .inl ⟨rfl, by go_num⟩
            · exact .inr ⟨q - 1, by omega, by go_num⟩
          · rw [← HD.out]; go_num
          · rw [← HS.out, show ((u : Int) % 256) = ((u % 256 : Nat) : Int) from by omega]
            exact hown.store q (u % 256) (by omega)
        case measure => simp [intOf]
end Go.Proofs.YtmikhnaffhheoaaDoor
namespace Go.Proofs.YtmikhnaffhheoaaDoor
open Go.RowKit
theorem OwnB.fr {P : Nat → Prop} {w w' : World} {B : Nat} {a : Option Addr} {n c : Nat} {zs : List Nat} (h : OwnB w B a n c zs) (hf : Fr P w w') (hp : ∀ k, (Value.slice a n c).ownBlock = some k → ¬ P k) : OwnB w' B a n c zs := by
  refine ⟨h.len, ⟨h.own.1, ?_⟩, h.bnd⟩
  rcases h.own.2 with ⟨hv, h0⟩ | ⟨g, cap, cur, hv, hB, hh, h2⟩
  · exact .inl ⟨hv, h0⟩
  · have hlt : g < w.heap.size := by
      rcases Nat.lt_or_ge g w.heap.size with h9 | h9
      · exact h9
      · simp [h9] at hh
    exact .inr ⟨g, cap, cur, hv, hB, by rw [hf.block g hlt (hp g (by rw [hv]; rfl))]; exact hh, h2⟩
/-- A row that was laid on: where it lies, and what stays. -/
structure LayF (B : Nat) (v : Value) (L : List Nat) (w : World) (e : Ending) (w' : World) : Prop where
  row : ∃ a c, e = .returned (.slice a L.length c) ∧ OwnB w' B a L.length c L ∧ (∀ g, (Value.slice a L.length c).ownBlock = some g → v.ownBlock = some g ∨ w.heap.size ≤ g)
  fr : Fr (fun b => v.ownBlock = some b) w w'
set_option maxRecDepth 100000 in
set_option maxHeartbeats 1000000 in
theorem rlayF_any (B : Nat) (a : Option Addr) (n c : Nat) (zs : List Nat) (v k : Nat) (w : World) (h : OwnB w B a n c zs) (hB : B ≤ w.heap.size) (hv : v < 256 ^ k) (h1 : 1 ≤ k) (h8 : k ≤ 8) (hn : n ≤ 100000) :
    Calls Tryd.prog 40 #[.slice a n c, .int .u64 (v : Nat), .int .i64 (k : Nat)] w fun e w' => LayF B (.slice a n c) (zs ++ bytesB v k) w e w' := by
  have hv64 : v < 18446744073709551616 := Nat.lt_of_lt_of_le hv (Nat.le_trans (Nat.pow_le_pow_right (by omega) h8) (by decide))
  have hby := refbytes_any v (k : Int) w hv64
  rw [bytesE_inC v k hv h1 h8, bytesV_inC v k hv h1 h8, bytesB_len] at hby
  obtain ⟨D, hD⟩ : ∃ D, D = bytesB v k := ⟨_, rfl⟩
  rw [← hD] at hby ⊢
  clear hD hv
  go_enter Tryd.func40, Tryd.ntmps40
  go_wp2_with fail
  refine hby.mono ?_
  rintro e w1 ⟨ad, cd, rfl, hod, hb1⟩
  have ho1 := h.below hb1
  have hsd := hod.sl (by omega)
  have hz1 : B ≤ w1.heap.size := Nat.le_trans hB hb1.size
  have hzz := hb1.size
  go_wp2_with (at_builtin; go_must (refine app_list2 rfl _ _ rfl B a n c zs rfl ho1 _ k cd D rfl hsd (by omega) hz1 ?_))
  intro a2 c2 w2 ho2 hg2 hp2
  have HL : Hid ((zs ++ D).length = n + k) := ho2.len
  have hf : Fr (fun b => (Value.slice a n c).ownBlock = some b) w w2 := (Fr.of_below hb1).trans (Fr.grown hg2 (fun k hk => hk))
  go_wp2
  go_ret
  exact ⟨⟨a2, c2, by rw [HL.out]; rfl, by rw [HL.out]; exact ho2, by rw [HL.out]; exact fun g hg => (hp2 g hg).imp id (fun h => by omega)⟩, hf⟩
theorem own_lit (w : World) (L : List Nat) (hb : ∀ i, L.getD i 0 < 256) (hn : L.length ≤ 1000) : OwnB (w.alloc (.cells (vals L).toArray 5)) w.heap.size (some ⟨w.heap.size, 0, none⟩) L.length L.length L := by
  refine ⟨rfl, ⟨by simp [vals], .inr ⟨w.heap.size, L.length, (vals L).toArray, rfl, Nat.le_refl _, ?_, Nat.le_refl _, by unfold maxLen; omega, by simp [vals], ?_⟩⟩, hb⟩
  · show (w.heap.push _)[w.heap.size]? = _
    simp
  · rw [List.take_of_length_le (by simp [vals])]
end Go.Proofs.YtmikhnaffhheoaaDoor
namespace Go.Proofs.YtmikhnaffhheoaaDoor
open Go.RowKit
set_option maxRecDepth 100000 in
set_option maxHeartbeats 4000000 in
theorem plain_any (c : Ck) (hc : c.ok) (w : World) :
    Calls Tryd.prog 27 #[.agg #[.int .i64 (c.made : Nat), .int .i64 (c.life : Nat), .int .u16 (c.port : Nat), .int .u16 (c.pport : Nat), .int .u32 (c.tag : Nat), .int .u32 (c.ptag : Nat), .int .u32 (c.tsn : Nat), .int .u32 (c.ptsn : Nat), .int .u32 (c.room : Nat), .int .u16 (c.outs : Nat), .int .u16 (c.ins : Nat), .int .u32 (c.addr : Nat), .int .u32 (c.other : Nat)]] w fun e w' => ∃ a' c', e = .returned (.slice a' 52 c') ∧ OwnB w' w.heap.size a' 52 c' (lyB c.ps) ∧ Below w.heap.size w w' := by
  obtain ⟨W, hW⟩ : ∃ W, W = w.alloc (.cells #[.int .i64 (c.made : Nat), .int .i64 (c.life : Nat), .int .u16 (c.port : Nat), .int .u16 (c.pport : Nat), .int .u32 (c.tag : Nat), .int .u32 (c.ptag : Nat), .int .u32 (c.tsn : Nat), .int .u32 (c.ptsn : Nat), .int .u32 (c.room : Nat), .int .u16 (c.outs : Nat), .int .u16 (c.ins : Nat), .int .u32 (c.addr : Nat), .int .u32 (c.other : Nat)] 39) := ⟨_, rfl⟩
  have bW : Below w.heap.size w W := by rw [hW]; exact (Below.refl _ _).alloc (Nat.le_refl _) _
  have hX := Stc.new w [.int .i64 (c.made : Nat), .int .i64 (c.life : Nat), .int .u16 (c.port : Nat), .int .u16 (c.pport : Nat), .int .u32 (c.tag : Nat), .int .u32 (c.ptag : Nat), .int .u32 (c.tsn : Nat), .int .u32 (c.ptsn : Nat), .int .u32 (c.room : Nat), .int .u16 (c.outs : Nat), .int .u16 (c.ins : Nat), .int .u32 (c.addr : Nat), .int .u32 (c.other : Nat)] 39 W hW
  obtain ⟨L0, hL0⟩ : ∃ L : List Nat, L = [] := ⟨_, rfl⟩
  obtain ⟨L1, hL1⟩ : ∃ L, L = L0 ++ bytesB c.made 8 := ⟨_, rfl⟩
  obtain ⟨L2, hL2⟩ : ∃ L, L = L1 ++ bytesB c.life 4 := ⟨_, rfl⟩
  obtain ⟨L3, hL3⟩ : ∃ L, L = L2 ++ bytesB c.port 2 := ⟨_, rfl⟩
  obtain ⟨L4, hL4⟩ : ∃ L, L = L3 ++ bytesB c.pport 2 := ⟨_, rfl⟩
  obtain ⟨L5, hL5⟩ : ∃ L, L = L4 ++ bytesB c.tag 4 := ⟨_, rfl⟩
  obtain ⟨L6, hL6⟩ : ∃ L, L = L5 ++ bytesB c.ptag 4 := ⟨_, rfl⟩
  obtain ⟨L7, hL7⟩ : ∃ L, L = L6 ++ bytesB c.tsn 4 := ⟨_, rfl⟩
  obtain ⟨L8, hL8⟩ : ∃ L, L = L7 ++ bytesB c.ptsn 4 := ⟨_, rfl⟩
  obtain ⟨L9, hL9⟩ : ∃ L, L = L8 ++ bytesB c.room 4 := ⟨_, rfl⟩
  obtain ⟨L10, hL10⟩ : ∃ L, L = L9 ++ bytesB c.outs 2 := ⟨_, rfl⟩
  obtain ⟨L11, hL11⟩ : ∃ L, L = L10 ++ bytesB c.ins 2 := ⟨_, rfl⟩
  obtain ⟨L12, hL12⟩ : ∃ L, L = L11 ++ bytesB c.addr 4 := ⟨_, rfl⟩
  obtain ⟨L13, hL13⟩ : ∃ L, L = L12 ++ bytesB c.other 4 := ⟨_, rfl⟩
  obtain ⟨L14, hL14⟩ : ∃ L, L = L13 ++ bytesB 0 4 := ⟨_, rfl⟩
  have K0 : Hid (L0.length = 0) := by show _ = _; rw [hL0]; rfl
  have K1 : Hid (L1.length = 8) := by show _ = _; rw [hL1, List.length_append, bytesB_len, K0.out]
  have K2 : Hid (L2.length = 12) := by show _ = _; rw [hL2, List.length_append, bytesB_len, K1.out]
  have K3 : Hid (L3.length = 14) := by show _ = _; rw [hL3, List.length_append, bytesB_len, K2.out]
  have K4 : Hid (L4.length = 16) := by show _ = _; rw [hL4, List.length_append, bytesB_len, K3.out]
  have K5 : Hid (L5.length = 20) := by show _ = _; rw [hL5, List.length_append, bytesB_len, K4.out]
  have K6 : Hid (L6.length = 24) := by show _ = _; rw [hL6, List.length_append, bytesB_len, K5.out]
  have K7 : Hid (L7.length = 28) := by show _ = _; rw [hL7, List.length_append, bytesB_len, K6.out]
  have K8 : Hid (L8.length = 32) := by show _ = _; rw [hL8, List.length_append, bytesB_len, K7.out]
  have K9 : Hid (L9.length = 36) := by show _ = _; rw [hL9, List.length_append, bytesB_len, K8.out]
  have K10 : Hid (L10.length = 38) := by show _ = _; rw [hL10, List.length_append, bytesB_len, K9.out]
  have K11 : Hid (L11.length = 40) := by show _ = _; rw [hL11, List.length_append, bytesB_len, K10.out]
  have K12 : Hid (L12.length = 44) := by show _ = _; rw [hL12, List.length_append, bytesB_len, K11.out]
  have K13 : Hid (L13.length = 48) := by show _ = _; rw [hL13, List.length_append, bytesB_len, K12.out]
  have K14 : Hid (L14.length = 52) := by show _ = _; rw [hL14, List.length_append, bytesB_len, K13.out]
  have HT : Hid (lyB c.ps = L14) := by
    show _ = _
    rw [hL14, hL13, hL12, hL11, hL10, hL9, hL8, hL7, hL6, hL5, hL4, hL3, hL2, hL1, hL0]
    simp [lyB, Ck.ps]
  have N0 := (show Hid _ from hL1.symm)
  have N1 := (show Hid _ from hL2.symm)
  have N2 := (show Hid _ from hL3.symm)
  have N3 := (show Hid _ from hL4.symm)
  have N4 := (show Hid _ from hL5.symm)
  have N5 := (show Hid _ from hL6.symm)
  have N6 := (show Hid _ from hL7.symm)
  have N7 := (show Hid _ from hL8.symm)
  have N8 := (show Hid _ from hL9.symm)
  have N9 := (show Hid _ from hL10.symm)
  have N10 := (show Hid _ from hL11.symm)
  have N11 := (show Hid _ from hL12.symm)
  have N12 := (show Hid _ from hL13.symm)
  have N13 := (show Hid _ from hL14.symm)
  obtain ⟨w0, hw0⟩ : ∃ x, x = W := ⟨_, rfl⟩
  obtain ⟨a0, ha0⟩ : ∃ x : Option Addr, x = none := ⟨_, rfl⟩
  obtain ⟨k0, hk0⟩ : ∃ x : Nat, x = 0 := ⟨_, rfl⟩
  have o0 : OwnB w0 W.heap.size a0 0 k0 L0 := by rw [hL0, ha0, hk0]; exact OwnB.nil _ _
  have z0 : W.heap.size ≤ w0.heap.size := by rw [hw0]; exact Nat.le_refl _
  have bb0 : Below W.heap.size W w0 := by rw [hw0]; exact Below.refl _ _
  have hX0 : Stc w0 w.heap.size [.int .i64 (c.made : Nat), .int .i64 (c.life : Nat), .int .u16 (c.port : Nat), .int .u16 (c.pport : Nat), .int .u32 (c.tag : Nat), .int .u32 (c.ptag : Nat), .int .u32 (c.tsn : Nat), .int .u32 (c.ptsn : Nat), .int .u32 (c.room : Nat), .int .u16 (c.outs : Nat), .int .u16 (c.ins : Nat), .int .u32 (c.addr : Nat), .int .u32 (c.other : Nat)] := by rw [hw0]; exact hX
  subst ha0 hk0
  have wv0 : IntKind.u64.wrap (c.made : Int) = (c.made : Int) := by rw [IntKind.wrap_u64]; have := hc.made; omega
  have wv1 : IntKind.u64.wrap (c.life : Int) = (c.life : Int) := by rw [IntKind.wrap_u64]; have := hc.life; omega
  have wv2 : IntKind.u64.wrap (c.port : Int) = (c.port : Int) := by rw [IntKind.wrap_u64]; have := hc.port; omega
  have wv3 : IntKind.u64.wrap (c.pport : Int) = (c.pport : Int) := by rw [IntKind.wrap_u64]; have := hc.pport; omega
  have wv4 : IntKind.u64.wrap (c.tag : Int) = (c.tag : Int) := by rw [IntKind.wrap_u64]; have := hc.tag; omega
  have wv5 : IntKind.u64.wrap (c.ptag : Int) = (c.ptag : Int) := by rw [IntKind.wrap_u64]; have := hc.ptag; omega
  have wv6 : IntKind.u64.wrap (c.tsn : Int) = (c.tsn : Int) := by rw [IntKind.wrap_u64]; have := hc.tsn; omega
  have wv7 : IntKind.u64.wrap (c.ptsn : Int) = (c.ptsn : Int) := by rw [IntKind.wrap_u64]; have := hc.ptsn; omega
  have wv8 : IntKind.u64.wrap (c.room : Int) = (c.room : Int) := by rw [IntKind.wrap_u64]; have := hc.room; omega
  have wv9 : IntKind.u64.wrap (c.outs : Int) = (c.outs : Int) := by rw [IntKind.wrap_u64]; have := hc.outs; omega
  have wv10 : IntKind.u64.wrap (c.ins : Int) = (c.ins : Int) := by rw [IntKind.wrap_u64]; have := hc.ins; omega
  have wv11 : IntKind.u64.wrap (c.addr : Int) = (c.addr : Int) := by rw [IntKind.wrap_u64]; have := hc.addr; omega
  have wv12 : IntKind.u64.wrap (c.other : Int) = (c.other : Int) := by rw [IntKind.wrap_u64]; have := hc.other; omega
  clear hL0 hL1 hL2 hL3 hL4 hL5 hL6 hL7 hL8 hL9 hL10 hL11 hL12 hL13 hL14
  go_enter Tryd.func27, Tryd.ntmps27
  go_wp2_with fail
  rw [← hW, ← hw0]
  clear hW
  refine (rlayF_any W.heap.size none 0 0 L0 c.made 8 w0 o0 z0 (by have := hc.made; show _ < 256 ^ 8; omega) (by omega) (by omega) (by omega)).mono ?_
  rintro e w1 ⟨⟨a1, k1, rfl, o1', _⟩, r1⟩
  rw [show L0 ++ bytesB c.made 8 = L1 from N0.out, K1.out] at o1'
  rw [show L0 ++ bytesB c.made 8 = L1 from N0.out, K1.out]
  have o1 := o1'
  have z1 := Nat.le_trans z0 r1.size
  have bb1 : Below W.heap.size W w1 := bb0.trans (r1.below W.heap.size z0 (fun k hk => (o0.own.lt k hk).1))
  have hX1 := hX.below bb1
  clear o1' r1 o0 hX0 bb0 z0
  have x1 := hX1.cell 1 _ rfl
  go_wp2_with fail
  refine (rlayF_any W.heap.size a1 8 k1 L1 c.life 4 w1 o1 z1 (by have := hc.life; show _ < 256 ^ 4; omega) (by omega) (by omega) (by omega)).mono ?_
  rintro e w2 ⟨⟨a2, k2, rfl, o2', _⟩, r2⟩
  rw [show L1 ++ bytesB c.life 4 = L2 from N1.out, K2.out] at o2'
  rw [show L1 ++ bytesB c.life 4 = L2 from N1.out, K2.out]
  have o2 := o2'
  have z2 := Nat.le_trans z1 r2.size
  have bb2 : Below W.heap.size W w2 := bb1.trans (r2.below W.heap.size z1 (fun k hk => (o1.own.lt k hk).1))
  have hX2 := hX.below bb2
  clear x1 o2' r2 o1 hX1 bb1 z1
  have x2 := hX2.cell 2 _ rfl
  go_wp2_with fail
  refine (rlayF_any W.heap.size a2 12 k2 L2 c.port 2 w2 o2 z2 (by have := hc.port; show _ < 256 ^ 2; omega) (by omega) (by omega) (by omega)).mono ?_
  rintro e w3 ⟨⟨a3, k3, rfl, o3', _⟩, r3⟩
  rw [show L2 ++ bytesB c.port 2 = L3 from N2.out, K3.out] at o3'
  rw [show L2 ++ bytesB c.port 2 = L3 from N2.out, K3.out]
  have o3 := o3'
  have z3 := Nat.le_trans z2 r3.size
  have bb3 : Below W.heap.size W w3 := bb2.trans (r3.below W.heap.size z2 (fun k hk => (o2.own.lt k hk).1))
  have hX3 := hX.below bb3
  clear x2 o3' r3 o2 hX2 bb2 z2
  have x3 := hX3.cell 3 _ rfl
  go_wp2_with fail
  refine (rlayF_any W.heap.size a3 14 k3 L3 c.pport 2 w3 o3 z3 (by have := hc.pport; show _ < 256 ^ 2; omega) (by omega) (by omega) (by omega)).mono ?_
  rintro e w4 ⟨⟨a4, k4, rfl, o4', _⟩, r4⟩
  rw [show L3 ++ bytesB c.pport 2 = L4 from N3.out, K4.out] at o4'
  rw [show L3 ++ bytesB c.pport 2 = L4 from N3.out, K4.out]
  have o4 := o4'
  have z4 := Nat.le_trans z3 r4.size
  have bb4 : Below W.heap.size W w4 := bb3.trans (r4.below W.heap.size z3 (fun k hk => (o3.own.lt k hk).1))
  have hX4 := hX.below bb4
  clear x3 o4' r4 o3 hX3 bb3 z3
  have x4 := hX4.cell 4 _ rfl
  go_wp2_with fail
  refine (rlayF_any W.heap.size a4 16 k4 L4 c.tag 4 w4 o4 z4 (by have := hc.tag; show _ < 256 ^ 4; omega) (by omega) (by omega) (by omega)).mono ?_
  rintro e w5 ⟨⟨a5, k5, rfl, o5', _⟩, r5⟩
  rw [show L4 ++ bytesB c.tag 4 = L5 from N4.out, K5.out] at o5'
  rw [show L4 ++ bytesB c.tag 4 = L5 from N4.out, K5.out]
  have o5 := o5'
  have z5 := Nat.le_trans z4 r5.size
  have bb5 : Below W.heap.size W w5 := bb4.trans (r5.below W.heap.size z4 (fun k hk => (o4.own.lt k hk).1))
  have hX5 := hX.below bb5
  clear x4 o5' r5 o4 hX4 bb4 z4
  have x5 := hX5.cell 5 _ rfl
  go_wp2_with fail
  refine (rlayF_any W.heap.size a5 20 k5 L5 c.ptag 4 w5 o5 z5 (by have := hc.ptag; show _ < 256 ^ 4; omega) (by omega) (by omega) (by omega)).mono ?_
  rintro e w6 ⟨⟨a6, k6, rfl, o6', _⟩, r6⟩
  rw [show L5 ++ bytesB c.ptag 4 = L6 from N5.out, K6.out] at o6'
  rw [show L5 ++ bytesB c.ptag 4 = L6 from N5.out, K6.out]
  have o6 := o6'
  have z6 := Nat.le_trans z5 r6.size
  have bb6 : Below W.heap.size W w6 := bb5.trans (r6.below W.heap.size z5 (fun k hk => (o5.own.lt k hk).1))
  have hX6 := hX.below bb6
  clear x5 o6' r6 o5 hX5 bb5 z5
  have x6 := hX6.cell 6 _ rfl
  go_wp2_with fail
  refine (rlayF_any W.heap.size a6 24 k6 L6 c.tsn 4 w6 o6 z6 (by have := hc.tsn; show _ < 256 ^ 4; omega) (by omega) (by omega) (by omega)).mono ?_
  rintro e w7 ⟨⟨a7, k7, rfl, o7', _⟩, r7⟩
  rw [show L6 ++ bytesB c.tsn 4 = L7 from N6.out, K7.out] at o7'
  rw [show L6 ++ bytesB c.tsn 4 = L7 from N6.out, K7.out]
  have o7 := o7'
  have z7 := Nat.le_trans z6 r7.size
  have bb7 : Below W.heap.size W w7 := bb6.trans (r7.below W.heap.size z6 (fun k hk => (o6.own.lt k hk).1))
  have hX7 := hX.below bb7
  clear x6 o7' r7 o6 hX6 bb6 z6
  have x7 := hX7.cell 7 _ rfl
  go_wp2_with fail
  refine (rlayF_any W.heap.size a7 28 k7 L7 c.ptsn 4 w7 o7 z7 (by have := hc.ptsn; show _ < 256 ^ 4; omega) (by omega) (by omega) (by omega)).mono ?_
  rintro e w8 ⟨⟨a8, k8, rfl, o8', _⟩, r8⟩
  rw [show L7 ++ bytesB c.ptsn 4 = L8 from N7.out, K8.out] at o8'
  rw [show L7 ++ bytesB c.ptsn 4 = L8 from N7.out, K8.out]
  have o8 := o8'
  have z8 := Nat.le_trans z7 r8.size
  have bb8 : Below W.heap.size W w8 := bb7.trans (r8.below W.heap.size z7 (fun k hk => (o7.own.lt k hk).1))
  have hX8 := hX.below bb8
  clear x7 o8' r8 o7 hX7 bb7 z7
  have x8 := hX8.cell 8 _ rfl
  go_wp2_with fail
  refine (rlayF_any W.heap.size a8 32 k8 L8 c.room 4 w8 o8 z8 (by have := hc.room; show _ < 256 ^ 4; omega) (by omega) (by omega) (by omega)).mono ?_
  rintro e w9 ⟨⟨a9, k9, rfl, o9', _⟩, r9⟩
  rw [show L8 ++ bytesB c.room 4 = L9 from N8.out, K9.out] at o9'
  rw [show L8 ++ bytesB c.room 4 = L9 from N8.out, K9.out]
  have o9 := o9'
  have z9 := Nat.le_trans z8 r9.size
  have bb9 : Below W.heap.size W w9 := bb8.trans (r9.below W.heap.size z8 (fun k hk => (o8.own.lt k hk).1))
  have hX9 := hX.below bb9
  clear x8 o9' r9 o8 hX8 bb8 z8
  have x9 := hX9.cell 9 _ rfl
  go_wp2_with fail
  refine (rlayF_any W.heap.size a9 36 k9 L9 c.outs 2 w9 o9 z9 (by have := hc.outs; show _ < 256 ^ 2; omega) (by omega) (by omega) (by omega)).mono ?_
  rintro e w10 ⟨⟨a10, k10, rfl, o10', _⟩, r10⟩
  rw [show L9 ++ bytesB c.outs 2 = L10 from N9.out, K10.out] at o10'
  rw [show L9 ++ bytesB c.outs 2 = L10 from N9.out, K10.out]
  have o10 := o10'
  have z10 := Nat.le_trans z9 r10.size
  have bb10 : Below W.heap.size W w10 := bb9.trans (r10.below W.heap.size z9 (fun k hk => (o9.own.lt k hk).1))
  have hX10 := hX.below bb10
  clear x9 o10' r10 o9 hX9 bb9 z9
  have x10 := hX10.cell 10 _ rfl
  go_wp2_with fail
  refine (rlayF_any W.heap.size a10 38 k10 L10 c.ins 2 w10 o10 z10 (by have := hc.ins; show _ < 256 ^ 2; omega) (by omega) (by omega) (by omega)).mono ?_
  rintro e w11 ⟨⟨a11, k11, rfl, o11', _⟩, r11⟩
  rw [show L10 ++ bytesB c.ins 2 = L11 from N10.out, K11.out] at o11'
  rw [show L10 ++ bytesB c.ins 2 = L11 from N10.out, K11.out]
  have o11 := o11'
  have z11 := Nat.le_trans z10 r11.size
  have bb11 : Below W.heap.size W w11 := bb10.trans (r11.below W.heap.size z10 (fun k hk => (o10.own.lt k hk).1))
  have hX11 := hX.below bb11
  clear x10 o11' r11 o10 hX10 bb10 z10
  have x11 := hX11.cell 11 _ rfl
  go_wp2_with fail
  refine (rlayF_any W.heap.size a11 40 k11 L11 c.addr 4 w11 o11 z11 (by have := hc.addr; show _ < 256 ^ 4; omega) (by omega) (by omega) (by omega)).mono ?_
  rintro e w12 ⟨⟨a12, k12, rfl, o12', _⟩, r12⟩
  rw [show L11 ++ bytesB c.addr 4 = L12 from N11.out, K12.out] at o12'
  rw [show L11 ++ bytesB c.addr 4 = L12 from N11.out, K12.out]
  have o12 := o12'
  have z12 := Nat.le_trans z11 r12.size
  have bb12 : Below W.heap.size W w12 := bb11.trans (r12.below W.heap.size z11 (fun k hk => (o11.own.lt k hk).1))
  have hX12 := hX.below bb12
  clear x11 o12' r12 o11 hX11 bb11 z11
  have x12 := hX12.cell 12 _ rfl
  go_wp2_with fail
  refine (rlayF_any W.heap.size a12 44 k12 L12 c.other 4 w12 o12 z12 (by have := hc.other; show _ < 256 ^ 4; omega) (by omega) (by omega) (by omega)).mono ?_
  rintro e w13 ⟨⟨a13, k13, rfl, o13', _⟩, r13⟩
  rw [show L12 ++ bytesB c.other 4 = L13 from N12.out, K13.out] at o13'
  rw [show L12 ++ bytesB c.other 4 = L13 from N12.out, K13.out]
  have o13 := o13'
  have z13 := Nat.le_trans z12 r13.size
  have bb13 : Below W.heap.size W w13 := bb12.trans (r13.below W.heap.size z12 (fun k hk => (o12.own.lt k hk).1))
  have hX13 := hX.below bb13
  clear x12 o13' r13 o12 hX12 bb12 z12
  go_wp2_with fail
  refine (rlayF_any W.heap.size a13 48 k13 L13 0 4 w13 o13 z13 (by decide) (by omega) (by omega) (by omega)).mono ?_
  rintro e w14 ⟨⟨a14, k14, rfl, o14, _⟩, r14⟩
  rw [show L13 ++ bytesB 0 4 = L14 from N13.out, K14.out] at o14
  rw [show L13 ++ bytesB 0 4 = L14 from N13.out, K14.out]
  have bb14 : Below W.heap.size W w14 := bb13.trans (r14.below W.heap.size z13 (fun k hk => (o13.own.lt k hk).1))
  have b14 : Below w.heap.size w w14 := bW.trans (bb14.mono bW.size)
  have o15 := o14.base bW.size
  clear o14 o13 hX13 bb13 r14 z13
  go_wp2
  go_ret
  exact ⟨a14, k14, rfl, by rw [HT.out]; exact o15, b14⟩
end Go.Proofs.YtmikhnaffhheoaaDoor
namespace Go.Proofs.YtmikhnaffhheoaaDoor
open Go.RowKit
set_option maxRecDepth 100000 in
set_option maxHeartbeats 2000000 in
theorem rseal_ok (kp : Nat) (rs : List Sec) (x : Sec) (j : Nat) (hj : rs.length = j + 1) (hx : rs[j]? = some x) (c : Ck) (hc : c.ok) (w : World) (hk : RKy w kp rs) :
    Calls Tryd.prog 16 #[.pointer (some ⟨kp, 0, none⟩), .agg #[.int .i64 (c.made : Nat), .int .i64 (c.life : Nat), .int .u16 (c.port : Nat), .int .u16 (c.pport : Nat), .int .u32 (c.tag : Nat), .int .u32 (c.ptag : Nat), .int .u32 (c.tsn : Nat), .int .u32 (c.ptsn : Nat), .int .u32 (c.room : Nat), .int .u16 (c.outs : Nat), .int .u16 (c.ins : Nat), .int .u32 (c.addr : Nat), .int .u32 (c.other : Nat)]] w fun e w' => RowC w (sealV x.zs c) 0 e w' := by
  obtain ⟨W, hW⟩ : ∃ W, W = w.alloc (.cells #[.int .i64 (c.made : Nat), .int .i64 (c.life : Nat), .int .u16 (c.port : Nat), .int .u16 (c.pport : Nat), .int .u32 (c.tag : Nat), .int .u32 (c.ptag : Nat), .int .u32 (c.tsn : Nat), .int .u32 (c.ptsn : Nat), .int .u32 (c.room : Nat), .int .u16 (c.outs : Nat), .int .u16 (c.ins : Nat), .int .u32 (c.addr : Nat), .int .u32 (c.other : Nat)] 39) := ⟨_, rfl⟩
  have bW : Below w.heap.size w W := by rw [hW]; exact (Below.refl _ _).alloc (Nat.le_refl _) _
  have sP := Stc.new w [.int .i64 (c.made : Nat), .int .i64 (c.life : Nat), .int .u16 (c.port : Nat), .int .u16 (c.pport : Nat), .int .u32 (c.tag : Nat), .int .u32 (c.ptag : Nat), .int .u32 (c.tsn : Nat), .int .u32 (c.ptsn : Nat), .int .u32 (c.room : Nat), .int .u16 (c.outs : Nat), .int .u16 (c.ins : Nat), .int .u32 (c.addr : Nat), .int .u32 (c.other : Nat)] 39 W hW
  have hmy := rMay_any (c.made : Int) (c.life : Int) c.port c.pport c.tag c.ptag c.tsn c.ptsn c.room c.outs c.ins c.addr c.other W
  rw [show ckMay (c.made : Int) (c.life : Int) = true from decide_eq_true ⟨by omega, by have := hc.made; omega, by omega, by have := hc.life; omega⟩] at hmy
  have HPS := (show Hid _ from ps_len c)
  have HSV : Hid (sealV x.zs c = lyB c.ps ++ macN x.zs (lyB c.ps)) := rfl
  have hpl := fun W => plain_any c hc W
  have x0 := sP.cell 0 _ rfl
  have x1 := sP.cell 1 _ rfl
  have x2 := sP.cell 2 _ rfl
  have x3 := sP.cell 3 _ rfl
  have x4 := sP.cell 4 _ rfl
  have x5 := sP.cell 5 _ rfl
  have x6 := sP.cell 6 _ rfl
  have x7 := sP.cell 7 _ rfl
  have x8 := sP.cell 8 _ rfl
  have x9 := sP.cell 9 _ rfl
  have x10 := sP.cell 10 _ rfl
  have x11 := sP.cell 11 _ rfl
  have x12 := sP.cell 12 _ rfl
  go_enter Tryd.func16, Tryd.ntmps16
  go_wp2_with fail
  rw [← hW]
  clear hW
  refine hmy.mono ?_
  rintro e w1 ⟨rfl, b1⟩
  have sP1 := sP.below b1
  have b01 := bW.trans (b1.mono bW.size)
  clear x0 x1 x2 x3 x4 x5 x6 x7 x8 x9 x10 x11 x12 sP bW b1 hmy
  have x0 := sP1.cell 0 _ rfl
  have x1 := sP1.cell 1 _ rfl
  have x2 := sP1.cell 2 _ rfl
  have x3 := sP1.cell 3 _ rfl
  have x4 := sP1.cell 4 _ rfl
  have x5 := sP1.cell 5 _ rfl
  have x6 := sP1.cell 6 _ rfl
  have x7 := sP1.cell 7 _ rfl
  have x8 := sP1.cell 8 _ rfl
  have x9 := sP1.cell 9 _ rfl
  have x10 := sP1.cell 10 _ rfl
  have x11 := sP1.cell 11 _ rfl
  have x12 := sP1.cell 12 _ rfl
  go_wp2_with fail
  refine (hpl w1).mono ?_
  rintro e w2 ⟨a2, c2, rfl, o2, b2⟩
  have b02 := b01.trans (b2.mono b01.size)
  clear x0 x1 x2 x3 x4 x5 x6 x7 x8 x9 x10 x11 x12 sP1 hpl
  obtain ⟨BD, hBD⟩ : ∃ L, L = lyB c.ps := ⟨_, rfl⟩
  rw [← hBD] at o2 HSV HPS
  clear hBD
  obtain ⟨g, m, d, s1, hlen, hm, hg, hd, hcells⟩ := (hk.below b02).at_
  obtain rfl : m = j + 1 := by omega
  have hcx := hcells j x hx
  have hxe := (hk.below b02).each x (List.mem_of_getElem? hx)
  have y0 := s1.cell 0 _ rfl
  have hkl := s1.lt
  have bd : Below w2.heap.size w2 w2.drew := (Below.refl _ _).drew
  have HSW : Hid (∀ w', Below w2.heap.size w2 w' → w'.cell? ⟨kp, 0, none⟩ = some (.slice (some ⟨g, 0, none⟩) (j + 1) d) ∧ w'.cell? ⟨g, j, none⟩ = some (.slice x.a x.n x.c)) := fun w' hb => ⟨(hb.cell (p := ⟨kp, 0, none⟩) hkl).trans y0, (hb.cell (p := ⟨g, j, none⟩) hg).trans hcx⟩
  have hmac := rmac_any x.a x.n x.c x.zs a2 52 c2 BD w2.drew (hxe.1.below bd) ((o2.below bd).sl (by omega)) (by have := hxe.2.1; omega) (by omega)
  obtain ⟨M, hM⟩ : ∃ M, M = macN x.zs BD := ⟨_, rfl⟩
  rw [← hM] at hmac HSV
  have hMl : M.length = 32 := by rw [hM]; exact macN_len _ _
  have hMb : ∀ i, M.getD i 0 < 256 := by rw [hM]; exact macN_bnd _ _
  obtain ⟨mc, hmc⟩ : ∃ mc, mc = vals M := ⟨_, rfl⟩
  rw [← hmc] at hmac
  have wj : IntKind.i64.wrap ((j : Int) + 1 - 1) = (j : Int) := by rw [IntKind.wrap_i64]; omega
  have wj3 : IntKind.i64.wrap (j : Int) = (j : Int) := by rw [IntKind.wrap_i64]; omega
  have wj2 : IntKind.i64.wrap (((j + 1 : Nat) : Int) - 1) = (j : Int) := by rw [IntKind.wrap_i64]; omega
  have ij2 : (j : Int) < ((j + 1 : Nat) : Int) := by omega
  have ij : (j : Int) < (j : Int) + 1 := by omega
  have ij0 : (0 : Int) ≤ (j : Int) := by omega
  have hmcl : mc.length = 32 := by rw [hmc]; simp [vals, hMl]
  have hone : ∀ u ∈ mc, u.oneCell' = true := by rw [hmc]; exact vals_one _
  have HMC := (show Hid _ from hmc)
  have HMM := (show Hid _ from hM)
  have hi32 : (Tryd.prog.info? 66).map (·.size) = some mc.toArray.size := by rw [show mc.toArray.size = 32 from hmcl]; kernel_rfl
  clear hM hmc
  go_wp2_with fail
  refine wp_region_held_drew (S := (fun w' => w'.cell? ⟨kp, 0, none⟩ = some (.slice (some ⟨g, 0, none⟩) (j + 1) d) ∧ w'.cell? ⟨g, j, none⟩ = some (.slice x.a x.n x.c))) (by kernel_rfl) ?hS (fun hHeld => ?_)
  case hS => (first | with_reducible exact HSW.out _ bd)
  refine wpAnyH_take (i := 0) (v := ?v0) (by simp only [List.getElem?_toArray, List.getElem?_cons_zero]; rfl) (by kernel_rfl) (by kernel_rfl) (by kernel_rfl) (by exact fun _ _ _ h => h) (Or.inl ⟨by rfl, ?hy0⟩) (by assumption) ?rest0
  case hy0 => (intro w hSw; (try dsimp only at hSw); go_simp; try with_reducible rfl)
  try simp only [Act.put, List.setIfInBounds_toArray, List.set_cons_zero, List.set_cons_succ]
  refine wpAnyH_take (i := 1) (v := ?v1) (by simp only [List.getElem?_toArray, List.getElem?_cons_succ, List.getElem?_cons_zero]; rfl) (by kernel_rfl) (by kernel_rfl) (by kernel_rfl) (by exact fun _ _ _ h => h) (Or.inl ⟨by rfl, ?hy1⟩) (by assumption) ?rest1
  case hy1 => (intro w hSw; (try dsimp only at hSw); go_simp; try with_reducible rfl)
  try simp only [Act.put, List.setIfInBounds_toArray, List.set_cons_zero, List.set_cons_succ]
  refine wpAnyH_take (i := 2) (v := ?v2) (by simp only [List.getElem?_toArray, List.getElem?_cons_succ, List.getElem?_cons_zero]; rfl) (by kernel_rfl) (by kernel_rfl) (by kernel_rfl) (by exact fun _ _ _ h => h) (Or.inl ⟨by rfl, ?hy2⟩) (by assumption) ?rest2
  case hy2 => (intro w hSw; (try dsimp only at hSw); go_simp; try with_reducible rfl)
  try simp only [Act.put, List.setIfInBounds_toArray, List.set_cons_zero, List.set_cons_succ]
  refine wpAnyH_take (i := 3) (v := ?v3) (by simp only [List.getElem?_toArray, List.getElem?_cons_succ, List.getElem?_cons_zero]; rfl) (by kernel_rfl) (by kernel_rfl) (by kernel_rfl) (by exact fun _ _ _ h => h) (Or.inl ⟨by rfl, ?hy3⟩) (by assumption) ?rest3
  case hy3 => (intro w hSw; (try dsimp only at hSw); go_simp; try with_reducible rfl)
  try simp only [Act.put, List.setIfInBounds_toArray, List.set_cons_zero, List.set_cons_succ]
  refine wpAnyH_take (i := 4) (v := ?v4) (by simp only [List.getElem?_toArray, List.getElem?_cons_succ, List.getElem?_cons_zero]; rfl) (by kernel_rfl) (by kernel_rfl) (by kernel_rfl) (by exact fun _ _ _ h => h) (Or.inl ⟨by rfl, ?hy4⟩) (by assumption) ?rest4
  case hy4 => (intro w hSw; (try dsimp only at hSw); go_simp; try with_reducible rfl)
  try simp only [Act.put, List.setIfInBounds_toArray, List.set_cons_zero, List.set_cons_succ]
  refine wpAnyH_take (i := 5) (v := ?v5) (by simp only [List.getElem?_toArray, List.getElem?_cons_succ, List.getElem?_cons_zero]; rfl) (by kernel_rfl) (by kernel_rfl) (by kernel_rfl) (by exact fun _ _ _ h => h) (Or.inl ⟨by rfl, ?hy5⟩) (by assumption) ?rest5
  case hy5 => (intro w hSw; (try dsimp only at hSw); go_simp; try with_reducible rfl)
  try simp only [Act.put, List.setIfInBounds_toArray, List.set_cons_zero, List.set_cons_succ]
  refine wpAnyH_take (i := 6) (v := ?v6) (by simp only [List.getElem?_toArray, List.getElem?_cons_succ, List.getElem?_cons_zero]; rfl) (by kernel_rfl) (by kernel_rfl) (by kernel_rfl) (by exact fun _ _ _ h => h) (Or.inl ⟨by rfl, ?hy6⟩) (by assumption) ?rest6
  case hy6 => (intro w hSw; (try dsimp only at hSw); go_simp; try with_reducible rfl)
  try simp only [Act.put, List.setIfInBounds_toArray, List.set_cons_zero, List.set_cons_succ]
  refine wpAnyH_take (i := 7) (v := ?v7) (by simp only [List.getElem?_toArray, List.getElem?_cons_succ, List.getElem?_cons_zero]; rfl) (by kernel_rfl) (by kernel_rfl) (by kernel_rfl) (by exact fun _ _ _ h => h) (Or.inl ⟨by rfl, ?hy7⟩) (by assumption) ?rest7
  case hy7 => (intro w hSw; (try dsimp only at hSw); go_simp; try with_reducible rfl)
  try simp only [Act.put, List.setIfInBounds_toArray, List.set_cons_zero, List.set_cons_succ]
  refine wpAnyH_take (i := 8) (v := ?v8) (by simp only [List.getElem?_toArray, List.getElem?_cons_succ, List.getElem?_cons_zero]; rfl) (by kernel_rfl) (by kernel_rfl) (by kernel_rfl) (by exact fun _ _ _ h => h) (Or.inl ⟨by rfl, ?hy8⟩) (by assumption) ?rest8
  case hy8 => (intro w hSw; (try dsimp only at hSw); go_simp; try with_reducible rfl)
  try simp only [Act.put, List.setIfInBounds_toArray, List.set_cons_zero, List.set_cons_succ]
  refine wpAnyH_take (i := 9) (v := ?v9) (by simp only [List.getElem?_toArray, List.getElem?_cons_succ, List.getElem?_cons_zero]; rfl) (by kernel_rfl) (by kernel_rfl) (by kernel_rfl) (by exact fun _ _ _ h => h) (Or.inl ⟨by rfl, ?hy9⟩) (by assumption) ?rest9
  case hy9 => (intro w hSw; (try dsimp only at hSw); go_simp; try with_reducible rfl)
  try simp only [Act.put, List.setIfInBounds_toArray, List.set_cons_zero, List.set_cons_succ]
  refine wpAnyH_take (i := 12) (v := ?v12) (by simp only [List.getElem?_toArray, List.getElem?_cons_succ, List.getElem?_cons_zero]; rfl) (by kernel_rfl) (by kernel_rfl) (by kernel_rfl) (by exact fun _ _ _ h => h) (Or.inl ⟨by rfl, ?hy12⟩) (by assumption) ?rest12
  case hy12 => (intro w hSw; (try dsimp only at hSw); go_simp; try with_reducible rfl)
  try simp only [Act.put, List.setIfInBounds_toArray, List.set_cons_zero, List.set_cons_succ]
  refine wpAnyH_take (i := 10) (v := ?v10) (by simp only [List.getElem?_toArray, List.getElem?_cons_succ, List.getElem?_cons_zero]; rfl) (by kernel_rfl) (by kernel_rfl) (by kernel_rfl) (by exact fun _ _ _ h => h) (Or.inl ⟨by rfl, ?hy10⟩) (by assumption) ?rest10
  case hy10 => (intro w hSw; (try dsimp only at hSw); go_simp; try with_reducible rfl)
  try simp only [Act.put, List.setIfInBounds_toArray, List.set_cons_zero, List.set_cons_succ]
  refine wpAnyH_take (i := 11) (v := ?v11) (by simp only [List.getElem?_toArray, List.getElem?_cons_succ, List.getElem?_cons_zero]; rfl) (by kernel_rfl) (by kernel_rfl) (by kernel_rfl) (by exact fun _ _ _ h => h) (Or.inl ⟨by rfl, ?hy11⟩) (by assumption) ?rest11
  case hy11 => (intro w hSw; (try dsimp only at hSw); go_simp; try with_reducible rfl)
  try simp only [Act.put, List.setIfInBounds_toArray, List.set_cons_zero, List.set_cons_succ]
  refine wpAnyH_ready (rs := [13, 14]) (by kernel_rfl) (by simp) ?_
  refine AllReadyH.cons rfl (fun K hK => ?wayA) (AllReadyH.cons rfl (fun K hK => ?wayB) AllReadyH.nil)
  case wayA =>
    go_simp
    refine hmac.mono ?_
    rintro e w3 ⟨rfl, b3'⟩
    have b3 : Below w2.heap.size w2 w3 := bd.trans b3'
    have hTB := arr32_new w3 [] (w3.alloc (.cells z32 66)) rfl
    have hthB : (w3.alloc (.cells z32 66)).there w3.heap.size 0 mc.toArray.size := by rw [show mc.toArray.size = 32 from hmcl]; exact hTB.there
    have bA : Below w2.heap.size w2 (w3.alloc (.cells z32 66)) := b3.alloc b3.size _
    obtain ⟨w6, hw6⟩ : ∃ w6, w6 = (w3.alloc (.cells z32 66)).setCells w3.heap.size 0 mc := ⟨_, rfl⟩
    have hM6 : Arr8 w6 w3.heap.size w3.heap.size 32 M := by
      rw [hw6, HMC.out]
      have := hTB.copied 0 M hMb (by rw [hMl]; omega)
      rwa [lay_full _ _ (by rw [outL_len, hMl])] at this
    have b26 : Below w2.heap.size w2 w6 := by rw [hw6]; exact Below.setCells bA _ _ _ b3.size
    try go_wp2_with fail
    refine hK.out _ _ (HSW.out _ b3) (fun hHeld2 => ?_)
    clear hK K
    refine wpAnyH_ready (rs := [14]) (by kernel_rfl) (by simp) ?_
    refine AllReadyH.cons rfl (fun K hK => ?_) AllReadyH.nil
    go_simp
    change K _ (w3.alloc (.cells z32 66))
    refine hK.out _ _ (HSW.out _ bA) (fun hHeld3 => ?_)
    clear hK K
    refine wpAnyH_ready (rs := [15]) (by kernel_rfl) (by simp) ?_
    refine AllReadyH.cons rfl (fun K hK => ?_) AllReadyH.nil
    rw [if_pos (by kernel_rfl)]
    refine wp_store_mid 66 (.tmp 7) (.tmp 28) rfl w3.heap.size 0 mc.toArray rfl rfl hthB hi32 (all_oneCell_toArray hone) ?_
    change K _ ((w3.alloc (.cells z32 66)).setCells w3.heap.size 0 mc)
    rw [← hw6]
    clear hw6
    refine hK.out _ _ (HSW.out _ b26) (fun hHeld4 => ?_)
    clear hK K
    refine wpAnyH_done (by kernel_rfl) ?_ _
    have o6 := o2.below b26
    have b06 : Below w.heap.size w w6 := b02.trans (b26.mono b02.size)
    have sM6 := (hM6.slB (by omega)).1
    have z26 := b26.size
    have z12 := b2.size
    have z01 := b01.size
    have HB6 := (show Hid _ from b06)
    have hBB : w1.heap.size ≤ w6.heap.size := by omega
    clear hTB bA b3 b3' b26 b06 o2 hHeld hHeld2 hHeld3 hHeld4 hM6 hMb hmac HMC
    go_wp2_with (first
      | (at_builtin; go_must (refine app_list rfl _ _ rfl w1.heap.size a2 52 c2 BD rfl o6 _ 32 32 M rfl sM6 (by omega) hBB ?_)))
    intro a7 c7 w7 o7 g7
    have HB7 := (show Hid _ from HB6.out.trans ((o6.up g7 hBB).mono z01))
    have o8 := o7.base z01
    clear o6 sM6 g7 o7 hthB hi32 hone
    go_wp2
    go_ret2
    have hL : (BD ++ M).length = 52 + 32 := by rw [List.length_append, HPS.out, hMl]
    refine ⟨⟨a7, c7, ?_, ?_⟩, HB7.out⟩
    · rw [HSV.out, hL]; rfl
    · rw [HSV.out, hL]; exact o8
  case wayB =>
    have hTB := arr32_new w2.drew [] (w2.drew.alloc (.cells z32 66)) rfl
    have bB : Below w2.heap.size w2 (w2.drew.alloc (.cells z32 66)) := bd.alloc bd.size _
    have hmac := rmac_any x.a x.n x.c x.zs a2 52 c2 BD _ (hxe.1.below bB) ((o2.below bB).sl (by omega)) (by have := hxe.2.1; omega) (by omega)
    rw [← HMM.out, ← HMC.out] at hmac
    go_simp
    change K _ (w2.drew.alloc (.cells z32 66))
    refine hK.out _ _ (HSW.out _ bB) (fun hHeld2 => ?_)
    clear hK K
    obtain ⟨w5, hw5⟩ : ∃ w5, w5 = w2.drew.alloc (.cells z32 66) := ⟨_, rfl⟩
    rw [← hw5] at hmac hTB bB ⊢
    clear hw5
    refine wpAnyH_ready (rs := [13]) (by kernel_rfl) (by simp) ?_
    refine AllReadyH.cons rfl (fun K hK => ?_) AllReadyH.nil
    go_simp
    refine hmac.mono ?_
    rintro e w3 ⟨rfl, b3'⟩
    have b3 : Below w2.heap.size w2 w3 := bB.trans (b3'.mono bB.size)
    have hTC := hTB.below b3'
    have hthB : w3.there w2.drew.heap.size 0 mc.toArray.size := by rw [show mc.toArray.size = 32 from hmcl]; exact hTC.there
    obtain ⟨w6, hw6⟩ : ∃ w6, w6 = w3.setCells w2.drew.heap.size 0 mc := ⟨_, rfl⟩
    have hM6 : Arr8 w6 w2.drew.heap.size w2.drew.heap.size 32 M := by
      rw [hw6, HMC.out]
      have := hTC.copied 0 M hMb (by rw [hMl]; omega)
      rwa [lay_full _ _ (by rw [outL_len, hMl])] at this
    have b26 : Below w2.heap.size w2 w6 := by rw [hw6]; exact Below.setCells b3 _ _ _ bd.size
    try go_wp2_with fail
    refine hK.out _ _ (HSW.out _ b3) (fun hHeld3 => ?_)
    clear hK K
    refine wpAnyH_ready (rs := [15]) (by kernel_rfl) (by simp) ?_
    refine AllReadyH.cons rfl (fun K hK => ?_) AllReadyH.nil
    rw [if_pos (by kernel_rfl)]
    refine wp_store_mid 66 (.tmp 7) (.tmp 28) rfl w2.drew.heap.size 0 mc.toArray rfl rfl hthB hi32 (all_oneCell_toArray hone) ?_
    change K _ ((w3).setCells w2.drew.heap.size 0 mc)
    rw [← hw6]
    clear hw6
    refine hK.out _ _ (HSW.out _ b26) (fun hHeld4 => ?_)
    clear hK K
    refine wpAnyH_done (by kernel_rfl) ?_ _
    have o6 := o2.below b26
    have b06 : Below w.heap.size w w6 := b02.trans (b26.mono b02.size)
    have sM6 := (hM6.slB (by omega)).1
    have z26 := b26.size
    have z12 := b2.size
    have z01 := b01.size
    have HB6 := (show Hid _ from b06)
    have hBB : w1.heap.size ≤ w6.heap.size := by omega
    clear hTB hTC bB b3 b3' b26 b06 o2 hHeld hHeld2 hHeld3 hHeld4 hM6 hMb hmac HMC
    go_wp2_with (first
      | (at_builtin; go_must (refine app_list rfl _ _ rfl w1.heap.size a2 52 c2 BD rfl o6 _ 32 32 M rfl sM6 (by omega) hBB ?_)))
    intro a7 c7 w7 o7 g7
    have HB7 := (show Hid _ from HB6.out.trans ((o6.up g7 hBB).mono z01))
    have o8 := o7.base z01
    clear o6 sM6 g7 o7 hthB hi32 hone
    go_wp2
    go_ret2
    have hL : (BD ++ M).length = 52 + 32 := by rw [List.length_append, HPS.out, hMl]
    refine ⟨⟨a7, c7, ?_, ?_⟩, HB7.out⟩
    · rw [HSV.out, hL]; rfl
    · rw [HSV.out, hL]; exact o8
end Go.Proofs.YtmikhnaffhheoaaDoor
namespace Go.Proofs.YtmikhnaffhheoaaDoor
open Go.RowKit
set_option maxRecDepth 100000 in
set_option maxHeartbeats 2000000 in
theorem rseal_no (kp : Nat) (made life : Int) (c : Ck) (w : World) (hno : ckMay made life = false) :
    Calls Tryd.prog 16 #[.pointer (some ⟨kp, 0, none⟩), .agg #[.int .i64 made, .int .i64 life, .int .u16 (c.port : Nat), .int .u16 (c.pport : Nat), .int .u32 (c.tag : Nat), .int .u32 (c.ptag : Nat), .int .u32 (c.tsn : Nat), .int .u32 (c.ptsn : Nat), .int .u32 (c.room : Nat), .int .u16 (c.outs : Nat), .int .u16 (c.ins : Nat), .int .u32 (c.addr : Nat), .int .u32 (c.other : Nat)]] w fun e w' => RowC w [] 6 e w' := by
  obtain ⟨W, hW⟩ : ∃ W, W = w.alloc (.cells #[.int .i64 made, .int .i64 life, .int .u16 (c.port : Nat), .int .u16 (c.pport : Nat), .int .u32 (c.tag : Nat), .int .u32 (c.ptag : Nat), .int .u32 (c.tsn : Nat), .int .u32 (c.ptsn : Nat), .int .u32 (c.room : Nat), .int .u16 (c.outs : Nat), .int .u16 (c.ins : Nat), .int .u32 (c.addr : Nat), .int .u32 (c.other : Nat)] 39) := ⟨_, rfl⟩
  have bW : Below w.heap.size w W := by rw [hW]; exact (Below.refl _ _).alloc (Nat.le_refl _) _
  have sP := Stc.new w [.int .i64 made, .int .i64 life, .int .u16 (c.port : Nat), .int .u16 (c.pport : Nat), .int .u32 (c.tag : Nat), .int .u32 (c.ptag : Nat), .int .u32 (c.tsn : Nat), .int .u32 (c.ptsn : Nat), .int .u32 (c.room : Nat), .int .u16 (c.outs : Nat), .int .u16 (c.ins : Nat), .int .u32 (c.addr : Nat), .int .u32 (c.other : Nat)] 39 W hW
  have hmy := rMay_any made life c.port c.pport c.tag c.ptag c.tsn c.ptsn c.room c.outs c.ins c.addr c.other W
  rw [hno] at hmy
  have x0 := sP.cell 0 _ rfl
  have x1 := sP.cell 1 _ rfl
  have x2 := sP.cell 2 _ rfl
  have x3 := sP.cell 3 _ rfl
  have x4 := sP.cell 4 _ rfl
  have x5 := sP.cell 5 _ rfl
  have x6 := sP.cell 6 _ rfl
  have x7 := sP.cell 7 _ rfl
  have x8 := sP.cell 8 _ rfl
  have x9 := sP.cell 9 _ rfl
  have x10 := sP.cell 10 _ rfl
  have x11 := sP.cell 11 _ rfl
  have x12 := sP.cell 12 _ rfl
  go_enter Tryd.func16, Tryd.ntmps16
  go_wp2_with fail
  rw [← hW]
  clear hW
  refine hmy.mono ?_
  rintro e w1 ⟨rfl, b1⟩
  have b01 := bW.trans (b1.mono bW.size)
  clear x0 x1 x2 x3 x4 x5 x6 x7 x8 x9 x10 x11 x12 sP
  go_wp2
  go_ret2
  exact ⟨⟨none, 0, rfl, OwnB.nil _ _⟩, b01⟩
theorem rseal_all (kp : Nat) (rs : List Sec) (x : Sec) (j : Nat) (hj : rs.length = j + 1) (hx : rs[j]? = some x) (made life : Int) (port pport tag ptag tsn ptsn room outs ins addr other : Nat) (w : World) (_hm : (Lit.int .i64 made).wf = true) (_hl : (Lit.int .i64 life).wf = true) (hport : port < 65536) (hpport : pport < 65536) (htag : tag < 4294967296) (hptag : ptag < 4294967296) (htsn : tsn < 4294967296) (hptsn : ptsn < 4294967296) (hroom : room < 4294967296) (houts : outs < 65536) (hins : ins < 65536) (haddr : addr < 4294967296) (hother : other < 4294967296) (hky : RKy w kp rs) :
    Calls Tryd.prog 16 #[.pointer (some ⟨kp, 0, none⟩), .agg #[.int .i64 made, .int .i64 life, .int .u16 (port : Nat), .int .u16 (pport : Nat), .int .u32 (tag : Nat), .int .u32 (ptag : Nat), .int .u32 (tsn : Nat), .int .u32 (ptsn : Nat), .int .u32 (room : Nat), .int .u16 (outs : Nat), .int .u16 (ins : Nat), .int .u32 (addr : Nat), .int .u32 (other : Nat)]] w fun e w' => RowC w (if ckMay made life = true then sealV x.zs ⟨made.toNat, life.toNat, port, pport, tag, ptag, tsn, ptsn, room, outs, ins, addr, other⟩ else []) (if ckMay made life = true then 0 else 6) e w' := by
  cases hM : ckMay made life
  · rw [if_neg (by simp), if_neg (by simp)]
    exact rseal_no kp made life ⟨0, 0, port, pport, tag, ptag, tsn, ptsn, room, outs, ins, addr, other⟩ w hM
  · have hm := of_decide_eq_true hM
    rw [if_pos rfl, if_pos rfl]
    have hok : Ck.ok ⟨made.toNat, life.toNat, port, pport, tag, ptag, tsn, ptsn, room, outs, ins, addr, other⟩ := ⟨by show made.toNat ≤ _; omega, by show life.toNat ≤ _; omega, hport, hpport, htag, hptag, htsn, hptsn, hroom, houts, hins, haddr, hother⟩
    have hse := rseal_ok kp rs x j hj hx ⟨made.toNat, life.toNat, port, pport, tag, ptag, tsn, ptsn, room, outs, ins, addr, other⟩ hok w hky
    have e1 : ((made.toNat : Nat) : Int) = made := by omega
    have e2 : ((life.toNat : Nat) : Int) = life := by omega
    simp only [e1, e2] at hse
    exact hse
end Go.Proofs.YtmikhnaffhheoaaDoor
