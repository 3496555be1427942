/- Whatever packet, and greatest length: the walk of law10.IpOwn ends with true. -/
import Derived.Test.YtpmfofgnapopaabIpRPut
import Derived.Test.YtpmfofgnapopaabIpPcM
import Derived.Test.YtpmfofgnapopaabIpLive
namespace Go.Proofs.Ytpmfofgnapopaab
open Go.RowKit
theorem xorK (x y : Nat) (h : x < 256) (hy : y < 256) : bits .xor .u8 (x : Int) (y : Int) = ((x ^^^ y : Nat) : Int) := u8_xor_nat x y h hy
theorem xor_lt8 (x y : Nat) (hx : x < 256) (hy : y < 256) : x ^^^ y < 256 := Nat.xor_lt_two_pow (n := 8) hx hy
theorem ipV_le (sr ds pr tt id : Nat) (dn mo : Bool) (of : Int) (zs : List Nat) : (ipV sr ds pr tt id dn mo of zs).length ≤ 65535 := by
  unfold ipV
  split
  · rename_i h
    have := mbE_ok h
    rw [List.length_append, ipHd_len]
    omega
  · simp
theorem itB_le (zs : List Nat) (hb : ∀ i, zs.getD i 0 < 256) : (itB zs).length ≤ 65535 := by
  unfold itB
  split
  · have := numV_lt zs 2 2 hb
    rw [List.length_take]
    have h2 : numV zs 2 2 < 65536 := this
    omega
  · simp
/-- Where the pieces' bytes lie. -/
theorem spR_rows {w : World} {B : Nat} {sr ds pr tt id : Nat} {dn mo : Bool} {of : Int} {zs : List Nat} {mtu : Int} {v : Value} {ps : List Pk} (h : SpR w B sr ds pr tt id dn mo of zs mtu v ps) : (∀ x ∈ ps, x.n = 0) ∨ ∃ g cg, OwnB w B (some ⟨g, 0, none⟩) zs.length cg zs ∧ v.ownBlock ≠ some g ∧ ∀ x ∈ ps, ∃ o, x.a = some ⟨g, o, none⟩ ∧ o + x.n ≤ zs.length ∧ x.n ≤ x.c := by
  rcases h with ⟨_, rfl⟩ | ⟨_, _, ab, cb, rfl, ho, hne⟩ | ⟨_, hlt, hm28, _, g, cg, rfl, ho, hne⟩
  · exact .inl (fun x hx => by cases hx)
  · by_cases hz : zs.length = 0
    · exact .inl (fun x hx => by rw [List.mem_singleton] at hx; subst hx; exact hz)
    · have ho' := ho
      rcases ho.own.2 with ⟨_, h0⟩ | ⟨g, cap, cur, hv, _, _, hcap, _⟩
      · exact absurd h0 hz
      · injection hv with e1 e2 e3
        subst e1 e3
        refine .inr ⟨g, cb, ho', fun e => hne g e rfl, fun x hx => ?_⟩
        rw [List.mem_singleton] at hx
        subst hx
        exact ⟨0, rfl, by simp, hcap⟩
  · refine .inr ⟨g, cg, ho, hne, fun x hx => ?_⟩
    obtain ⟨j, hj, rfl⟩ := List.mem_map.1 hx
    rw [List.mem_range] at hj
    have hs1 : 1 ≤ spS mtu := by unfold spS; omega
    have hjn : j * spS mtu ≤ zs.length := by
      cases j with
      | zero => simp
      | succ j => exact Nat.le_of_lt ((cut_more zs.length (spS mtu) j hs1 (by omega)).2 hj)
    refine ⟨j * spS mtu, rfl, ?_, Nat.le_refl _⟩
    show j * spS mtu + (min ((j + 1) * spS mtu) zs.length - j * spS mtu) ≤ zs.length
    omega
/-- The pieces' bytes, whatever stands there. -/
def RowsB (w : World) (B : Nat) (v : Value) (n : Nat) (ps : List Pk) : Prop := (∀ x ∈ ps, x.n = 0) ∨ ∃ g cg xs, OwnB w B (some ⟨g, 0, none⟩) n cg xs ∧ v.ownBlock ≠ some g ∧ ∀ x ∈ ps, ∃ o, x.a = some ⟨g, o, none⟩ ∧ o + x.n ≤ n ∧ x.n ≤ x.c
theorem grown_set (w : World) (g o : Nat) (v : Value) : w.grownBy (w.setCell ⟨g, o, none⟩ v) (some g) := (Fr.setCell (fun b => b = g) w ⟨g, o, none⟩ v rfl) |> fun h => ⟨h.os, h.tape, h.output, h.size, fun k hk hn => h.block k hk (fun e => hn (by rw [e]))⟩
theorem OwnK.fr2 {w : World} {B : Nat} {a : Option Addr} {n c : Nat} {ps : List Pk} (h : OwnK w B a n c ps) (g o : Nat) (v : Value) (hg : (Value.slice a n c).ownBlock ≠ some g) : OwnK (w.setCell ⟨g, o, none⟩ v) B a n c ps := h.kept (grown_set w g o v) (.inr hg)
set_option maxRecDepth 100000 in
set_option maxHeartbeats 1000000 in
theorem walk_IpOwn (sr ds pr tt id : Nat) (dn mo : Bool) (of : Int) (a : Option Addr) (n c : Nat) (zs : List Nat) (mtu : Int) (w : World) (hsr : sr < 4294967296) (hds : ds < 4294967296) (hpr : pr < 256) (htt : tt < 256) (hid : id < 65536) (_hof : (Lit.int .i64 of).wf = true) (h0 : Sl w a n c zs ∧ c ≤ 140737488351232) (hmtu : (Lit.int .i64 mtu).wf = true) :
    Calls Try.prog 6 #[.agg #[.int .u32 (sr : Nat), .int .u32 (ds : Nat), .int .u8 (pr : Nat), .int .u8 (tt : Nat), .int .u16 (id : Nat), .bool dn, .bool mo, .int .i64 of, .slice a n c], .int .i64 mtu] w fun e w' => e = .returned (.bool true) ∧ Below w.heap.size w w' := by
  obtain ⟨h0, hcb⟩ := h0
  clear hcb
  have hl := h0.len
  obtain ⟨W, hW⟩ : ∃ W, W = w.alloc (.cells #[.int .u32 (sr : Nat), .int .u32 (ds : Nat), .int .u8 (pr : Nat), .int .u8 (tt : Nat), .int .u16 (id : Nat), .bool dn, .bool mo, .int .i64 of, .slice a n c] 34) := ⟨_, rfl⟩
  have hX := Stc.new w [.int .u32 (sr : Nat), .int .u32 (ds : Nat), .int .u8 (pr : Nat), .int .u8 (tt : Nat), .int .u16 (id : Nat), .bool dn, .bool mo, .int .i64 of, .slice a n c] 34 W hW
  have hbW : Below w.heap.size w W := by rw [hW]; exact (Below.refl _ _).alloc (Nat.le_refl _) _
  have hsW := h0.below hbW
  have x0 := hX.cell 0 _ rfl
  have x1 := hX.cell 1 _ rfl
  have x2 := hX.cell 2 _ rfl
  have x3 := hX.cell 3 _ rfl
  have x4 := hX.cell 4 _ rfl
  have x5 := hX.cell 5 _ rfl
  have x6 := hX.cell 6 _ rfl
  have x7 := hX.cell 7 _ rfl
  have x8 := hX.cell 8 _ rfl
  have x8' := x8
  rw [hW] at x8'
  have kk := conv_str hsW
  rw [hW] at kk
  obtain ⟨ST, hST⟩ : ∃ ST, ST = strOf zs := ⟨_, rfl⟩
  rw [← hST] at kk
  have HST := (show Hid _ from hST)
  have hp := iput_any sr ds pr tt id dn mo of a n c zs W hsr hds hpr htt hid hsW
  have hr := fun W h => riput_any sr ds pr tt id dn mo of a n c zs W hsr hds hpr htt hid h
  have hsp := fun W h => split_any sr ds pr tt id dn mo of a n c zs mtu W h hmtu
  have hle := ipV_le sr ds pr tt id dn mo of zs
  generalize ipV sr ds pr tt id dn mo of zs = V at *
  generalize mbE mo of n = E at *
  obtain ⟨l, hl'⟩ : ∃ l, l = V.length := ⟨_, rfl⟩
  have HL := (show Hid _ from hl')
  have hl2 : l ≤ 65535 := by omega
  have HLZ := (show Hid _ from hl)
  clear hl' hle hST hl
  go_enter Try.func6, Try.ntmps6
  go_wp2_with fail
  rw [← hW]
  clear hW kk x8'
  refine hp.mono ?_
  rintro e w1 ⟨⟨a1, c1, rfl, o1⟩, b1⟩
  rw [← HL.out] at o1 ⊢
  have hWz := hX.lt
  clear hp
  go_wp2_with fail
  go_loopw [8] (fun i wr => ∃ (j : Nat) (xs : List Nat), j ≤ l ∧ i = .int .i64 j ∧ OwnB wr W.heap.size a1 l c1 xs ∧ Below W.heap.size W wr) (fun i _ => l - (intOf i).toNat)
  case atStart => exact ⟨0, V, by omega, rfl, o1, b1⟩
  case round =>
    obtain ⟨j, xs, hj, rfl, hown, hbel⟩ := hrel
    by_cases hjm : j < l
    · obtain ⟨g, hg⟩ : ∃ g, a1 = some ⟨g, 0, none⟩ := by
        rcases hown.own.2 with ⟨_, h0⟩ | ⟨g, cap, cur, hv, _⟩
        · omega
        · injection hv with e1
          exact ⟨g, e1⟩
      subst hg
      have hgl := (hown.own.lt g rfl).1
      have hc := hown.cell j hjm
      have hfz := hown.free j
      have hx := hown.bnd j
      have HX : Hid (bits .xor .u8 ((xs.getD j 0 : Nat) : Int) 33 = ((xs.getD j 0 ^^^ 33 : Nat) : Int)) := xorK _ 33 hx (by omega)
      have hx2 := xor_lt8 _ 33 hx (by omega)
      generalize xs.getD j 0 = x at *
      go_wp2
      go_roundw
      case rel =>
        refine ⟨j + 1, xs.set j (x ^^^ 33), by omega, by go_num, ?_, ?_⟩
        · rw [HX.out]
          exact hown.store j (x ^^^ 33) hx2
        · rw [HX.out]
          exact hbel.setCell (by show _ ≤ g; omega) _
      case measure => simp [intOf]; omega
    · clear hown o1 b1
      obtain ⟨w2, hw2⟩ : ∃ w2, w2 = wr := ⟨_, rfl⟩
      subst hw2
      have hX2 := hX.below hbel
      have hs2 := hsW.below hbel
      have bb2 : Below w.heap.size w w2 := hbW.trans (hbel.mono hbW.size)
      clear x0 x1 x2 x3 x4 x5 x6 x7 x8 hX hsW hbel hbW
      have x0 := hX2.cell 0 _ rfl
      have x1 := hX2.cell 1 _ rfl
      have x2 := hX2.cell 2 _ rfl
      have x3 := hX2.cell 3 _ rfl
      have x4 := hX2.cell 4 _ rfl
      have x5 := hX2.cell 5 _ rfl
      have x6 := hX2.cell 6 _ rfl
      have x7 := hX2.cell 7 _ rfl
      have x8 := hX2.cell 8 _ rfl
      go_wp2_with fail
      refine (hr w2 hs2).mono ?_
      rintro e w3 ⟨⟨a3, c3, rfl, o3⟩, b3⟩
      rw [← HL.out] at o3 ⊢
      have hX3 := hX2.below b3
      have hs3 := hs2.below b3
      have r3 := o3.sl (by omega)
      have bb3 : Below w.heap.size w w3 := bb2.trans (b3.mono bb2.size)
      have kd := conv_str r3
      obtain ⟨SD, hSD⟩ : ∃ SD, SD = strOf V := ⟨_, rfl⟩
      rw [← hSD] at kd
      have HSD := (show Hid _ from hSD)
      clear x0 x1 x2 x3 x4 x5 x6 x7 x8 hX2 hs2 b3 bb2 hSD
      go_wp2_with fail
      refine (itake_any a3 l c3 V w3 r3).mono ?_
      rintro e w4 ⟨⟨a4, c4, rfl, o4⟩, b4⟩
      have hml := itB_le V r3.bnd
      obtain ⟨m, hm⟩ : ∃ m, m = (itB V).length := ⟨_, rfl⟩
      have hm2 : m ≤ 65535 := by omega
      rw [← hm] at o4 ⊢
      generalize itB V = BV at *
      generalize itN V 12 4 = j1 at *
      generalize itN V 16 4 = j2 at *
      generalize itN V 9 1 = j3 at *
      generalize itN V 8 1 = j4 at *
      generalize itN V 4 2 = j5 at *
      generalize itD V 16384 = j6 at *
      generalize itD V 8192 = j7 at *
      generalize itO V = j8 at *
      generalize itE V = j9 at *
      clear hm hml kd
      have hlx : w.heap.size < w3.heap.size := hX3.lt
      obtain ⟨w5, hw5⟩ : ∃ w5, w5 = w4.alloc (.cells #[.int .u32 (j1 : Nat), .int .u32 (j2 : Nat), .int .u8 (j3 : Nat), .int .u8 (j4 : Nat), .int .u16 (j5 : Nat), .bool j6, .bool j7, .int .i64 (j8 : Nat), .slice a4 m c4] 34) := ⟨_, rfl⟩
      have b45 : Below w4.heap.size w4 w5 := by rw [hw5]; exact (Below.refl _ _).alloc (Nat.le_refl _) _
      have hY5 := Stc.new w4 [.int .u32 (j1 : Nat), .int .u32 (j2 : Nat), .int .u8 (j3 : Nat), .int .u8 (j4 : Nat), .int .u16 (j5 : Nat), .bool j6, .bool j7, .int .i64 (j8 : Nat), .slice a4 m c4] 34 w5 hw5
      have o45 := o4.below b45
      have hlt4 : ∀ g, (Value.slice a4 m c4).ownBlock = some g → g < w4.heap.size := fun g hg => (o4.own.lt g hg).2
      have hz34 := b4.size
      have k35 : Below w3.heap.size w3 w5 := b4.trans (b45.mono b4.size)
      clear o4 b4 b45
      go_wp2_with fail
      rw [← hw5]
      clear hw5
      go_loopw [14] (fun i wr => ∃ (j : Nat) (xs : List Nat), j ≤ m ∧ i = .int .i64 j ∧ OwnB wr w3.heap.size a4 m c4 xs ∧ Stc wr w4.heap.size [.int .u32 (j1 : Nat), .int .u32 (j2 : Nat), .int .u8 (j3 : Nat), .int .u8 (j4 : Nat), .int .u16 (j5 : Nat), .bool j6, .bool j7, .int .i64 (j8 : Nat), .slice a4 m c4] ∧ Below w3.heap.size w3 wr) (fun i _ => m - (intOf i).toNat)
      case atStart => exact ⟨0, BV, by omega, rfl, o45, hY5, k35⟩
      case round =>
        obtain ⟨j2', xs2, hj2, rfl, hown, hY, hbel⟩ := hrel
        have y8 := hY.cell 8 _ rfl
        by_cases hjm2 : j2' < m
        · obtain ⟨g, hg⟩ : ∃ g, a4 = some ⟨g, 0, none⟩ := by
            rcases hown.own.2 with ⟨_, h0⟩ | ⟨g, cap, cur, hv, _⟩
            · omega
            · injection hv with e1
              exact ⟨g, e1⟩
          subst hg
          have hgl := (hown.own.lt g rfl).1
          have hgl4 := hlt4 g rfl
          have hc := hown.cell j2' hjm2
          have hfz := hown.free j2'
          have hx := hown.bnd j2'
          have HX : Hid (bits .xor .u8 ((xs2.getD j2' 0 : Nat) : Int) 33 = ((xs2.getD j2' 0 ^^^ 33 : Nat) : Int)) := xorK _ 33 hx (by omega)
          have hx2 := xor_lt8 _ 33 hx (by omega)
          generalize xs2.getD j2' 0 = x at *
          go_wp2
          go_roundw
          case rel =>
            refine ⟨j2' + 1, xs2.set j2' (x ^^^ 33), by omega, by go_num, ?_, ?_, ?_⟩
            · rw [HX.out]
              exact hown.store j2' (x ^^^ 33) hx2
            · exact hY.other g j2' _ (by omega)
            · exact hbel.setCell (by show _ ≤ g; omega) _
          case measure => simp [intOf]; omega
        · obtain ⟨w6, hw6⟩ : ∃ w6, w6 = wr := ⟨_, rfl⟩
          subst hw6
          have hX6 := hX3.below hbel
          have hs6 := hs3.below hbel
          have o36 := o3.below hbel
          have bb6 : Below w.heap.size w w6 := bb3.trans (hbel.mono bb3.size)
          clear hX3 hs3 o3 bb3 hbel hown k35 hY5 o45 hY r3
          have x0 := hX6.cell 0 _ rfl
          have x1 := hX6.cell 1 _ rfl
          have x2 := hX6.cell 2 _ rfl
          have x3 := hX6.cell 3 _ rfl
          have x4 := hX6.cell 4 _ rfl
          have x5 := hX6.cell 5 _ rfl
          have x6 := hX6.cell 6 _ rfl
          have x7 := hX6.cell 7 _ rfl
          have x8 := hX6.cell 8 _ rfl
          go_wp2_with fail
          refine (hsp w6 hs6).mono ?_
          rintro e w7 ⟨⟨a7, c7, ps, rfl, k7, hR⟩, b7⟩
          have hrows : RowsB w7 w6.heap.size (.slice a7 ps.length c7) n ps := by
            rcases spR_rows hR with h | ⟨g, cg, h1, h2, h3⟩
            · exact .inl h
            · rw [HLZ.out] at h1 h3
              exact .inr ⟨g, cg, zs, h1, h2, h3⟩
          generalize spE dn mo of zs.length mtu = E7 at *
          obtain ⟨K, hK⟩ : ∃ K, K = ps.length := ⟨_, rfl⟩
          have HK := (show Hid _ from hK)
          rw [← hK] at k7 hrows ⊢
          have hKb : K ≤ 9223372036854775807 := by
            by_cases h : 0 < K
            · obtain ⟨_, _, _, _, h1, h2, _⟩ := k7.at_ h
              unfold maxLen at h2
              omega
            · omega
          clear hK hR x0 x1 x2 x3 x4 x5 x6 x7 x8 y8
          go_wp2_with fail
          go_loopw [17] (fun iv wr => ∃ (i : Nat), i ≤ K ∧ iv = .int .i64 (i : Nat) ∧ OwnK wr w6.heap.size a7 K c7 ps ∧ RowsB wr w6.heap.size (.slice a7 K c7) n ps ∧ Below w6.heap.size w6 wr) (fun iv _ => K - (intOf iv).toNat)
          case atStart => exact ⟨0, by omega, rfl, k7, hrows, b7⟩
          case round =>
            obtain ⟨i, hi, rfl, ki, hri, hbi⟩ := hrel
            by_cases hiK : i < K
            · have hii : (i : Int) < (K : Int) := by omega
              obtain ⟨x, hx⟩ : ∃ x, ps[i]? = some x := ⟨_, List.getElem?_eq_getElem (by rw [← HK.out]; exact hiK)⟩
              have hxm : x ∈ ps := List.mem_of_getElem? hx
              obtain ⟨gl, hgl, _, hgl1, hcap1, _, hcell1⟩ := ki.at_ (by omega)
              subst hgl
              have l8 := hcell1 i x hx 8 _ rfl
              have HXM : Hid (x ∈ ps) := hxm
              have HXI : Hid (ps[i]? = some x) := hx
              clear hcell1 hx hxm
              obtain ⟨xs, xd, xp, xt, xi, xn, xm, xo, xa, xl, xc⟩ := x
              simp only at l8
              have hxlb : xl ≤ 9223372036854775807 := by
                rcases hri with h | ⟨g, cg, xs, h1, h2, h3⟩
                · have := h _ HXM.out; simp only at this; omega
                · obtain ⟨o, _, h4, _⟩ := h3 _ HXM.out
                  have := h0.small
                  simp only at h4
                  omega
              go_wp2_with fail
              go_loopw [18] (fun kv wr2 => ∃ (k : Nat), k ≤ xl ∧ kv = .int .i64 (k : Nat) ∧ OwnK wr2 w6.heap.size (some ⟨gl, 0, none⟩) K c7 ps ∧ RowsB wr2 w6.heap.size (.slice (some ⟨gl, 0, none⟩) K c7) n ps ∧ Below w6.heap.size w6 wr2) (fun kv _ => xl - (intOf kv).toNat)
              case atStart => exact ⟨0, by omega, rfl, ki, hri, hbi⟩
              case round =>
                obtain ⟨k, hk, rfl, kk2, hr2, hb2⟩ := hrel
                have hk2 := kk2
                obtain ⟨gl2, hgl2, _, hgl3, _, _, hcell2⟩ := kk2.at_ (by omega)
                injection hgl2 with hgl2
                injection hgl2 with hgl2
                subst hgl2
                have m8 := hcell2 i _ HXI.out 8 _ rfl
                simp only at m8
                clear hcell2 l8
                by_cases hkl : k < xl
                · have hki : (k : Int) < (xl : Int) := by omega
                  rcases hr2 with h | ⟨g, cg, bs, h1, h2, h3⟩
                  · have := h _ HXM.out; simp only at this; omega
                  · obtain ⟨o, ha, hon, hxc⟩ := h3 _ HXM.out
                    simp only at ha hon hxc
                    subst ha
                    have hgB := (h1.own.lt g rfl).1
                    have hc := h1.cell (o + k) (by omega)
                    have hfz := h1.free (o + k)
                    have hx := h1.bnd (o + k)
                    have HX : Hid (bits .xor .u8 ((bs.getD (o + k) 0 : Nat) : Int) 33 = ((bs.getD (o + k) 0 ^^^ 33 : Nat) : Int)) := xorK _ 33 hx (by omega)
                    have hx2 := xor_lt8 _ 33 hx (by omega)
                    have H1 := (show Hid _ from h1)
                    have H2 := (show Hid _ from h2)
                    have H3 := (show Hid _ from h3)
                    have HK2 := (show Hid _ from hk2)
                    clear h1 h2 h3 hk2 kk2
                    generalize bs.getD (o + k) 0 = x at *
                    go_wp2
                    go_roundw
                    case rel =>
                      refine ⟨k + 1, by omega, by go_num, ?_, .inr ⟨g, cg, bs.set (o + k) (x ^^^ 33), ?_, H2.out, H3.out⟩, ?_⟩
                      · exact HK2.out.fr2 g (o + k) _ H2.out
                      · rw [HX.out]
                        exact H1.out.store (o + k) (x ^^^ 33) hx2
                      · exact hb2.setCell (by show _ ≤ g; omega) _
                    case measure => simp [intOf]; omega
                · go_wp2
                  go_roundw
                  case rel => exact ⟨i + 1, by omega, by go_num, hk2, hr2, hb2⟩
                  case measure => simp [intOf]; omega
            · obtain ⟨w8, hw8⟩ : ∃ w8, w8 = wr := ⟨_, rfl⟩
              subst hw8
              have hX8 := hX6.below hbi
              have hs8 := hs6.below hbi
              have o38 := o36.below hbi
              have bb8 : Below w.heap.size w w8 := bb6.trans (hbi.mono bb6.size)
              clear hX6 hs6 o36 bb6 hbi hri ki k7 hrows b7
              go_wp2_with fail
              refine (live10_any w8).mono ?_
              rintro e w9 ⟨rfl, b9⟩
              have hX9 := hX8.below b9
              have k1 := conv_str (hs8.below b9)
              rw [← HST.out] at k1
              have k2 := conv_str ((o38.below b9).sl (by omega))
              rw [← HSD.out] at k2
              have z8 := hX9.cell 8 _ rfl
              have bb9 : Below w.heap.size w w9 := bb8.trans (b9.mono bb8.size)
              clear hX8 hX9 hs8 o38 bb8 b9
              go_wp2
              go_ret
              exact ⟨rfl, bb9⟩
end Go.Proofs.Ytpmfofgnapopaab
