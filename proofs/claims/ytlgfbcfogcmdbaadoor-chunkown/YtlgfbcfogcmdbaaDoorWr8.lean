/- chunk's writer: Sack. -/
import Derived.Test.YtlgfbcfogcmdbaaDoorWr5
namespace Go.Proofs.YtlgfbcfogcmdbaaDoor
open Go.RowKit
/-- A row of blocks. -/
structure BkR (w : World) (a : Option Addr) (n c : Nat) (bs : List (Nat × Nat)) : Prop where
  len : bs.length = n
  cap : n ≤ c
  less : n ≤ 35184372088832
  at_ : n = 0 ∨ ∃ b off, a = some ⟨b, off, none⟩ ∧ b < w.heap.size ∧ ∀ i p, bs[i]? = some p → p.1 < 65536 ∧ p.2 < 65536 ∧ w.cell? ⟨b, off + i * 2, none⟩ = some (.int .u16 (p.1 : Nat)) ∧ w.cell? ⟨b, off + i * 2 + 1, none⟩ = some (.int .u16 (p.2 : Nat))
theorem BkR.small {w : World} {a : Option Addr} {n c : Nat} {bs : List (Nat × Nat)} (h : BkR w a n c bs) : n ≤ 281474976710656 := Nat.le_trans h.less (by decide)
def bksB (bs : List (Nat × Nat)) : List Nat := bs.flatMap fun p => bytesB p.1 2 ++ bytesB p.2 2
def dusB (ds : List Nat) : List Nat := ds.flatMap fun d => bytesB d 4
theorem bksB_len (bs : List (Nat × Nat)) : (bksB bs).length = 4 * bs.length := by
  induction bs with
  | nil => rfl
  | cons p bs ih =>
    unfold bksB at ih ⊢
    rw [List.flatMap_cons, List.length_append, ih]
    simp [bytesB_len]
    omega
theorem dusB_len (ds : List Nat) : (dusB ds).length = 4 * ds.length := by
  induction ds with
  | nil => rfl
  | cons p ds ih =>
    unfold dusB at ih ⊢
    rw [List.flatMap_cons, List.length_append, ih]
    simp [bytesB_len]
    omega
theorem bks_snoc (bs : List (Nat × Nat)) (i : Nat) (p : Nat × Nat) (h : bs[i]? = some p) : bksB (bs.take (i + 1)) = bksB (bs.take i) ++ (bytesB p.1 2 ++ bytesB p.2 2) := by
  unfold bksB
  rw [List.take_add_one, h, List.flatMap_append]
  simp
theorem dus_snoc (ds : List Nat) (i d : Nat) (h : ds[i]? = some d) : dusB (ds.take (i + 1)) = dusB (ds.take i) ++ bytesB d 4 := by
  unfold dusB
  rw [List.take_add_one, h, List.flatMap_append]
  simp
theorem zero_a2 (w : World) : (zeroValue 71).run Tryd.prog w = .ok (.agg #[.int .u16 0, .int .u16 0]) w := by kernel_rfl
set_option linter.unusedVariables false in
set_option maxRecDepth 100000 in
set_option maxHeartbeats 4000000 in
theorem wlay_sack {w : World} {q : Nat} {K : Nat → Prop} {zs : List Nat} (h : WrW w q K zs) (tsn room : Nat) {b1 : Option Addr} {b2 b3 : Nat} {d1 : Option Addr} {d2 d3 : Nat} (W0 : World) {bs : List (Nat × Nat)} {ds : List Nat} (hB : BkR W0 b1 b2 b3 bs) (hD : SlK .u32 4294967296 W0 d1 d2 d3 ds) (hW : Below W0.heap.size W0 w) (hq : W0.heap.size ≤ q) (hb16 : b2 ≤ 16) (hd16 : d2 ≤ 16) (htb : tsn < 4294967296) (hrb : room < 4294967296) (hb : zs.length ≤ 900000) :
    Calls Tryd.prog 90 #[.agg #[.int .u32 (tsn : Nat), .int .u32 (room : Nat), .slice b1 b2 b3, .slice d1 d2 d3], .pointer (some ⟨q, 0, none⟩)] w (WrP w q K (zs ++ (bytesB tsn 4 ++ bytesB room 4 ++ bytesB b2 2 ++ bytesB d2 2 ++ bksB bs ++ dusB ds))) := by
  obtain ⟨W1, hW1⟩ : ∃ W1, W1 = w.alloc (.cells #[.int .u32 (tsn : Nat), .int .u32 (room : Nat), .slice b1 b2 b3, .slice d1 d2 d3] 97) := ⟨_, rfl⟩
  have bb1 : Below w.heap.size w W1 := by rw [hW1]; exact (Below.refl _ _).alloc (Nat.le_refl _) _
  have hst1 := Stc.new w [.int .u32 (tsn : Nat), .int .u32 (room : Nat), .slice b1 b2 b3, .slice d1 d2 d3] 97 W1 hW1
  obtain ⟨x, hx⟩ : ∃ x, x = w.heap.size := ⟨_, rfl⟩
  rw [← hx] at hst1
  have HS := (show Hid _ from h.start bb1 hst1 (by omega))
  have hlt := h.lt
  have HBD := (show Hid _ from And.intro hB (And.intro hD hW))
  have hbc := hB.cap
  have hdc := hD.cap
  have hbl := hB.len
  have hdl := hD.len
  have hz := zero_a2
  have HN := (show Hid _ from wword_any HS.out.wr tsn htb (by omega))
  clear h hst1 bb1 hB hD hW
  go_enter Tryd.func90, Tryd.ntmps90
  go_wp2_with fail
  rw [← hW1, ← hx]
  clear hW1 hx
  refine Calls.mono HN.out ?_
  clear HN
  rintro e v0 hP
  have he := hP.out
  subst he
  have HS1 := (show Hid _ from HS.out.next hP)
  clear hP HS
  have k1 := HS1.out.st.cell 1 _ rfl
  have HN := (show Hid _ from wword_any HS1.out.wr room hrb (by simp [bytesB_len]; omega))
  go_wp2_with fail
  refine Calls.mono HN.out ?_
  clear HN k1
  rintro e v1 hP
  have he := hP.out
  subst he
  have HS2 := (show Hid _ from HS1.out.next hP)
  clear hP HS1
  have k1 := HS2.out.st.cell 2 _ rfl
  have hw1 : IntKind.u16.wrap (b2 : Int) = b2 := by rw [IntKind.wrap_u16]; omega
  have HN := (show Hid _ from whalf_any HS2.out.wr b2 (by omega) (by simp [bytesB_len]; omega))
  go_wp2_with fail
  refine Calls.mono HN.out ?_
  clear HN k1 hw1
  rintro e v2 hP
  have he := hP.out
  subst he
  have HS3 := (show Hid _ from HS2.out.next hP)
  clear hP HS2
  have k1 := HS3.out.st.cell 3 _ rfl
  have hw1 : IntKind.u16.wrap (d2 : Int) = d2 := by rw [IntKind.wrap_u16]; omega
  have HN := (show Hid _ from whalf_any HS3.out.wr d2 (by omega) (by simp [bytesB_len]; omega))
  go_wp2_with fail
  refine Calls.mono HN.out ?_
  clear HN k1 hw1
  rintro e v3 hP
  have he := hP.out
  subst he
  have hS4 := HS3.out.next hP
  obtain ⟨hh, hhh⟩ : ∃ hh, hh = (((zs ++ bytesB tsn 4) ++ bytesB room 4) ++ bytesB b2 2) ++ bytesB d2 2 := ⟨_, rfl⟩
  rw [← hhh] at hS4
  have hhl : hh.length ≤ 900012 := by rw [hhh]; simp [bytesB_len]; omega
  have HHH := (show Hid _ from hhh)
  have k1 := hS4.st.cell 2 _ rfl
  have HS4 : Hid (WcS w q K x [.int .u32 (tsn : Nat), .int .u32 (room : Nat), .slice b1 b2 b3, .slice d1 d2 d3] (hh ++ bksB (bs.take 0)) v3) := by
    show WcS _ _ _ _ _ (hh ++ []) _
    rw [List.append_nil]
    exact hS4
  clear hP HS3 hS4 hhh
  go_wp2
  clear k1
  go_loopw [31] (fun u31 wr => ∃ i : Nat, i ≤ b2 ∧ u31 = .int .i64 (i : Nat) ∧ WcS w q K x [.int .u32 (tsn : Nat), .int .u32 (room : Nat), .slice b1 b2 b3, .slice d1 d2 d3] (hh ++ bksB (bs.take i)) wr) (fun u31 _ => b2 - (intOf u31).toNat)
  case atStart => exact ⟨0, by omega, rfl, HS4.out⟩
  case round =>
    obtain ⟨i, hin, rfl, hS⟩ := hrel
    have HS := (show Hid _ from hS)
    clear hS HS4
    have hil : (bksB (bs.take i)).length ≤ 64 := by rw [bksB_len, List.length_take]; omega
    have hbW : Below W0.heap.size W0 wr := HBD.out.2.2.trans (HS.out.fr.below _ HBD.out.2.2.size (fun k hk => by omega))
    by_cases hlt2 : i < b2
    · have hlt1 : (i : Int) < (b2 : Int) := by omega
      obtain ⟨p, hpi⟩ : ∃ p, bs[i]? = some p := ⟨_, List.getElem?_eq_getElem (by omega)⟩
      obtain ⟨b, off, hab, hbl2, hrow⟩ : ∃ b off, b1 = some ⟨b, off, none⟩ ∧ b < W0.heap.size ∧ ∀ i p, bs[i]? = some p → p.1 < 65536 ∧ p.2 < 65536 ∧ W0.cell? ⟨b, off + i * 2, none⟩ = some (.int .u16 (p.1 : Nat)) ∧ W0.cell? ⟨b, off + i * 2 + 1, none⟩ = some (.int .u16 (p.2 : Nat)) := by
        rcases HBD.out.1.at_ with e | e
        · omega
        · exact e
      subst hab
      obtain ⟨hp1, hp2, c0, c1⟩ := hrow i p hpi
      replace c0 := (hbW.cell (p := ⟨b, off + i * 2, none⟩) hbl2).trans c0
      replace c1 := (hbW.cell (p := ⟨b, off + i * 2 + 1, none⟩) hbl2).trans c1
      have HSN := (show Hid _ from bks_snoc bs i p hpi)
      obtain ⟨f1, f2⟩ := p
      dsimp only at hp1 hp2 c0 c1 HSN
      obtain ⟨yy, hyy⟩ : ∃ yy, yy = hh ++ bksB (bs.take i) := ⟨_, rfl⟩
      have hyl : yy.length ≤ 900100 := by rw [hyy, List.length_append]; omega
      have HYY := (show Hid _ from hyy)
      have hwy := HS.out.wr
      rw [← hyy] at hwy
      obtain ⟨W2, hW2⟩ : ∃ W2, W2 = wr.alloc (.cells #[.int .u16 (f1 : Nat), .int .u16 (f2 : Nat)] 71) := ⟨_, rfl⟩
      have b2' : Below wr.heap.size wr W2 := by rw [hW2]; exact (Below.refl _ _).alloc (Nat.le_refl _) _
      have s2 := Stc.new wr [.int .u16 (f1 : Nat), .int .u16 (f2 : Nat)] 71 W2 hW2
      have HX := (show Hid _ from hwy.start b2' s2 (Nat.le_refl _))
      have HN := (show Hid _ from whalf_any HX.out.wr f1 hp1 (by omega))
      clear hyy hwy b2' s2 hbW hrow hpi
      go_wp2_with fail
      rw [← hW2]
      clear hW2 c0 c1
      refine Calls.mono HN.out ?_
      clear HN
      rintro e u1 hP
      have he := hP.out
      subst he
      have HX1 := (show Hid _ from HX.out.next hP)
      clear hP HX
      have k1 := HX1.out.st.cell 1 _ rfl
      have HN := (show Hid _ from whalf_any HX1.out.wr f2 hp2 (by rw [List.length_append, bytesB_len]; omega))
      go_wp2_with fail
      refine Calls.mono HN.out ?_
      clear HN k1
      rintro e u2 hP
      have he := hP.out
      subst he
      have hX2 := (HX1.out.next hP).done (e := .returned (.tuple #[])) rfl
      have e4 : (yy ++ bytesB f1 2) ++ bytesB f2 2 = hh ++ bksB (bs.take (i + 1)) := by
        rw [HSN.out, HYY.out]
        simp only [List.append_assoc]
      rw [e4] at hX2
      have HF := (show Hid _ from HS.out.next hX2)
      clear hP HX1 hX2 e4 HS
      go_wp2
      go_roundw
      case rel => exact ⟨i + 1, by omega, by go_num, HF.out⟩
      case measure => simp [intOf]; omega
    · have hlt1 : ¬ (i : Int) < (b2 : Int) := by omega
      have e : bs.take i = bs := List.take_of_length_le (by omega)
      obtain ⟨gg, hgg⟩ : ∃ gg, gg = hh ++ bksB bs := ⟨_, rfl⟩
      have hgl : gg.length ≤ 900100 := by rw [hgg, List.length_append, bksB_len]; omega
      have HGG := (show Hid _ from hgg)
      have HS5 : Hid (WcS w q K x [.int .u32 (tsn : Nat), .int .u32 (room : Nat), .slice b1 b2 b3, .slice d1 d2 d3] (gg ++ dusB (ds.take 0)) wr) := by
        show WcS _ _ _ _ _ (gg ++ []) _
        rw [List.append_nil, hgg, ← e]
        have := HS.out
        rw [e] at this ⊢
        exact this
      have k3 := HS.out.st.cell 3 _ rfl
      clear HS hgg e hbW hil
      go_wp2
      clear k3
      go_loopw [47] (fun u47 wr => ∃ j : Nat, j ≤ d2 ∧ u47 = .int .i64 (j : Nat) ∧ WcS w q K x [.int .u32 (tsn : Nat), .int .u32 (room : Nat), .slice b1 b2 b3, .slice d1 d2 d3] (gg ++ dusB (ds.take j)) wr) (fun u47 _ => d2 - (intOf u47).toNat)
      case atStart => exact ⟨0, by omega, rfl, HS5.out⟩
      case round =>
        obtain ⟨j, hjn, rfl, hS⟩ := hrel
        have HS := (show Hid _ from hS)
        clear hS HS5
        have hjl : (dusB (ds.take j)).length ≤ 64 := by rw [dusB_len, List.length_take]; omega
        have hbW : Below W0.heap.size W0 wr := HBD.out.2.2.trans (HS.out.fr.below _ HBD.out.2.2.size (fun k hk => by omega))
        by_cases hlt2 : j < d2
        · have hltj : (j : Int) < (d2 : Int) := by omega
          obtain ⟨b, off, hab, hbl2, hrow⟩ : ∃ b off, d1 = some ⟨b, off, none⟩ ∧ b < W0.heap.size ∧ ∀ i, i < d2 → W0.cell? ⟨b, off + i, none⟩ = some (.int .u32 (ds.getD i 0 : Nat)) := by
            rcases HBD.out.2.1.at_ with e | e
            · omega
            · exact e
          subst hab
          have hdi : ds[j]? = some (ds.getD j 0) := by rw [List.getD_eq_getElem?_getD, List.getElem?_eq_getElem (by omega)]; rfl
          have c0 := (hbW.cell (p := ⟨b, off + j, none⟩) hbl2).trans (hrow j hlt2)
          have hdb := HBD.out.2.1.bnd j
          have HSN := (show Hid _ from dus_snoc ds j _ hdi)
          generalize ds.getD j 0 = dj at *
          have HN := (show Hid _ from wword_any HS.out.wr dj hdb (by rw [List.length_append]; omega))
          clear hrow hdi hbW
          go_wp2_with fail
          refine Calls.mono HN.out ?_
          clear HN c0
          rintro e u1 hP
          have he := hP.out
          subst he
          have hX := HS.out.next hP
          rw [List.append_assoc, ← HSN.out] at hX
          have HF := (show Hid _ from hX)
          clear hP hX HS
          go_wp2
          go_roundw
          case rel => exact ⟨j + 1, by omega, by go_num, HF.out⟩
          case measure => simp [intOf]; omega
        · have hltj : ¬ (j : Int) < (d2 : Int) := by omega
          have e : ds.take j = ds := List.take_of_length_le (by omega)
          have HF : Hid (WrP w q K (zs ++ (bytesB tsn 4 ++ bytesB room 4 ++ bytesB b2 2 ++ bytesB d2 2 ++ bksB bs ++ dusB ds)) (.returned (.tuple #[])) wr) := by
            have := HS.out.done (e := .returned (.tuple #[])) rfl
            rw [e, HGG.out, HHH.out] at this
            rw [show zs ++ (bytesB tsn 4 ++ bytesB room 4 ++ bytesB b2 2 ++ bytesB d2 2 ++ bksB bs ++ dusB ds) = (((((zs ++ bytesB tsn 4) ++ bytesB room 4) ++ bytesB b2 2) ++ bytesB d2 2) ++ bksB bs) ++ dusB ds from by simp only [List.append_assoc]]
            exact this
          clear HS e hbW hjl
          go_wp2
          go_end0
          exact HF.out
set_option linter.unusedVariables false in
set_option maxRecDepth 100000 in
set_option maxHeartbeats 4000000 in
theorem wchunk_sack {w : World} {q : Nat} {K : Nat → Prop} {zs : List Nat} (h : WrW w q K zs) (kind flags tsn stream ssn ppid tag room outs ins : Nat) (b1 : Option Addr) (b2 b3 : Nat) (d1 : Option Addr) (d2 d3 : Nat) (p1 : Option Addr) (p2 p3 : Nat) (x1 : Option Addr) (x2 x3 : Nat) (hk : kind = 3) (W0 : World) {bs : List (Nat × Nat)} {ds : List Nat} (hB : BkR W0 b1 b2 b3 bs) (hD : SlK .u32 4294967296 W0 d1 d2 d3 ds) (hW : Below W0.heap.size W0 w) (hq : W0.heap.size ≤ q) (hb16 : b2 ≤ 16) (hd16 : d2 ≤ 16) (htb : tsn < 4294967296) (hrb : room < 4294967296) (hkb : kind < 256) (hf : flags < 256) (h4 : zs.length % 4 = 0) (hb : zs.length ≤ 800000) (hLb : 12 + 4 * b2 + 4 * d2 ≤ 2000) :
    Calls Tryd.prog 13 #[.pointer (some ⟨q, 0, none⟩), .agg #[.int .u8 (kind : Nat), .int .u8 (flags : Nat), .int .u32 (tsn : Nat), .int .u16 (stream : Nat), .int .u16 (ssn : Nat), .int .u32 (ppid : Nat), .int .u32 (tag : Nat), .int .u32 (room : Nat), .int .u16 (outs : Nat), .int .u16 (ins : Nat), .slice b1 b2 b3, .slice d1 d2 d3, .slice p1 p2 p3, .slice x1 x2 x3]] w (WrP w q K (zs ++ chB kind flags (bytesB tsn 4 ++ bytesB room 4 ++ bytesB b2 2 ++ bytesB d2 2 ++ bksB bs ++ dusB ds))) := by
  obtain ⟨W1, hW1⟩ : ∃ W1, W1 = w.alloc (.cells #[.int .u8 (kind : Nat), .int .u8 (flags : Nat), .int .u32 (tsn : Nat), .int .u16 (stream : Nat), .int .u16 (ssn : Nat), .int .u32 (ppid : Nat), .int .u32 (tag : Nat), .int .u32 (room : Nat), .int .u16 (outs : Nat), .int .u16 (ins : Nat), .slice b1 b2 b3, .slice d1 d2 d3, .slice p1 p2 p3, .slice x1 x2 x3] 32) := ⟨_, rfl⟩
  have bb1 : Below w.heap.size w W1 := by rw [hW1]; exact (Below.refl _ _).alloc (Nat.le_refl _) _
  have hst1 := Stc.new w [.int .u8 (kind : Nat), .int .u8 (flags : Nat), .int .u32 (tsn : Nat), .int .u16 (stream : Nat), .int .u16 (ssn : Nat), .int .u32 (ppid : Nat), .int .u32 (tag : Nat), .int .u32 (room : Nat), .int .u16 (outs : Nat), .int .u16 (ins : Nat), .slice b1 b2 b3, .slice d1 d2 d3, .slice p1 p2 p3, .slice x1 x2 x3] 32 W1 hW1
  have hrg := hst1.range
  have HV := (show Hid _ from valueOf_sack kind flags tsn stream ssn ppid tag room outs ins b1 b2 b3 d1 d2 d3 p1 p2 p3 x1 x2 x3 W1 hk)
  have HS := (show Hid _ from h.start bb1 hst1 (Nat.le_refl _))
  have hm1 : ∀ (v : Value) (w : World), (method 237 97 v "trunkline/chunk.size").run Tryd.prog w = .ok (91, v) w := fun _ _ => by kernel_rfl
  have hm2 : ∀ (v : Value) (w : World), (method 237 97 v "trunkline/chunk.lay").run Tryd.prog w = .ok (90, v) w := fun _ _ => by kernel_rfl
  have hlv : (bytesB tsn 4 ++ bytesB room 4 ++ bytesB b2 2 ++ bytesB d2 2 ++ bksB bs ++ dusB ds).length = 12 + 4 * b2 + 4 * d2 := by simp [bytesB_len, bksB_len, dusB_len, hB.len, hD.len]; omega
  obtain ⟨LL, hLL⟩ : ∃ LL, LL = 12 + 4 * b2 + 4 * d2 := ⟨_, rfl⟩
  have HLL := (show Hid _ from hLL)
  have hbL : LL ≤ 2000 := by rw [hLL]; exact hLb
  have HSZ : Hid (∀ W, Calls Tryd.prog 91 #[.agg #[.int .u32 (tsn : Nat), .int .u32 (room : Nat), .slice b1 b2 b3, .slice d1 d2 d3]] W fun e w' => e = .returned (.int .i64 (LL : Nat)) ∧ Below W.heap.size W w') := fun W => by
    rw [hLL]
    exact size_sack _ _ b1 b2 b3 d1 d2 d3 W (by omega) (by omega)
  clear hLL
  clear h hst1 bb1 hk
  go_enter Tryd.func13, Tryd.ntmps13
  go_wp2_with (first | (refine wpList_load_mid rfl 32 _ rfl w.heap.size 0 rfl [.int .u8 (kind : Nat), .int .u8 (flags : Nat), .int .u32 (tsn : Nat), .int .u16 (stream : Nat), .int .u16 (ssn : Nat), .int .u32 (ppid : Nat), .int .u32 (tag : Nat), .int .u32 (room : Nat), .int .u16 (outs : Nat), .int .u16 (ins : Nat), .slice b1 b2 b3, .slice d1 d2 d3, .slice p1 p2 p3, .slice x1 x2 x3] _ (by rw [← hW1]; exact hrg) Tryd.underlying32 rfl (ch_size14 _ rfl) ?_) | fail)
  rw [← hW1]
  clear hW1 hrg
  refine Calls.mono HV.out ?_
  clear HV
  rintro e w2 ⟨rfl, bv⟩
  have hS2 := HS.out.below bv
  have k0 := hS2.st.cell 0 _ rfl
  have hw0 : IntKind.u64.wrap (kind : Int) = kind := by rw [IntKind.wrap_u64]; omega
  have HN := (show Hid _ from wnum_any hS2.wr kind 1 (by decide) (by decide) (by simpa using hkb) (by omega) (by omega))
  have HS2 := (show Hid _ from hS2)
  clear HS hS2 bv
  go_wp2_with fail
  refine Calls.mono HN.out ?_
  clear HN k0 hw0
  rintro e w3 hP
  have he := hP.out
  subst he
  have hS3 := HS2.out.next hP
  rw [bytesB_one hkb] at hS3
  have k1 := hS3.st.cell 1 _ rfl
  have hw1 : IntKind.u64.wrap (flags : Int) = flags := by rw [IntKind.wrap_u64]; omega
  have hl3 : (zs ++ [kind]).length = zs.length + 1 := by simp
  have HN := (show Hid _ from wnum_any hS3.wr flags 1 (by decide) (by decide) (by simpa using hf) (by omega) (by omega))
  have HS3 := (show Hid _ from hS3)
  clear HS2 hS3 hP
  go_wp2_with fail
  refine Calls.mono HN.out ?_
  clear HN k1 hw1
  rintro e w4 hP
  have he := hP.out
  subst he
  have hS4 := HS3.out.next hP
  rw [bytesB_one hf] at hS4
  have HS4 := (show Hid _ from hS4)
  clear HS3 hS4 hP
  go_wp2_with fail
  refine Calls.mono (HSZ.out w4) ?_
  clear HSZ
  rintro e w5 ⟨rfl, b5⟩
  have hS5 := HS4.out.below b5
  have hl4 : ((zs ++ [kind]) ++ [flags]).length = zs.length + 2 := by simp
  have HN := (show Hid _ from whalf_any hS5.wr (4 + LL) (by omega) (by omega))
  rw [show ((4 + LL : Nat) : Int) = 4 + (LL : Int) from by omega] at HN
  have HS5 := (show Hid _ from hS5)
  have hw4 : IntKind.u16.wrap (4 + (LL : Int)) = 4 + (LL : Int) := by rw [IntKind.wrap_u16]; omega
  clear HS4 hS5 b5
  go_wp2_with fail
  refine Calls.mono HN.out ?_
  clear HN hw4
  rintro e w6 hP
  have he := hP.out
  subst he
  have hS6 := HS5.out.next hP
  have hl6 : (((zs ++ [kind]) ++ [flags]) ++ bytesB (4 + LL) 2).length = zs.length + 4 := by simp [bytesB_len]
  have HN := (show Hid _ from wlay_sack hS6.wr tsn room W0 hB hD (hW.trans (hS6.fr.below _ hW.size (fun k hk => by omega))) hq hb16 hd16 htb hrb (by omega))
  have HS6 := (show Hid _ from hS6)
  clear HS5 hS6 hP
  go_wp2_with fail
  refine Calls.mono HN.out ?_
  clear HN
  rintro e w7 hP
  have he := hP.out
  subst he
  have hS7 := HS6.out.next hP
  have hl7 : ((((zs ++ [kind]) ++ [flags]) ++ bytesB (4 + LL) 2) ++ (bytesB tsn 4 ++ bytesB room 4 ++ bytesB b2 2 ++ bytesB d2 2 ++ bksB bs ++ dusB ds)).length = zs.length + 4 + LL := by rw [List.length_append, hl6, hlv, HLL.out]
  have hpl3 : padN LL ≤ 3 := by unfold padN; omega
  have HN := (show Hid _ from wpad_any hS7.wr (by omega))
  have hp0 : padN ((((zs ++ [kind]) ++ [flags]) ++ bytesB (4 + LL) 2) ++ (bytesB tsn 4 ++ bytesB room 4 ++ bytesB b2 2 ++ bytesB d2 2 ++ bksB bs ++ dusB ds)).length = padN LL := by rw [hl7]; unfold padN; omega
  rw [hp0] at HN
  have HS7 := (show Hid _ from hS7)
  clear HS6 hS7 hP hpl3
  go_wp2_with fail
  refine Calls.mono HN.out ?_
  clear HN
  rintro e w8 hP
  have he := hP.out
  subst he
  have hS8 := HS7.out.next hP
  have e8 : ((((zs ++ [kind]) ++ [flags]) ++ bytesB (4 + LL) 2) ++ (bytesB tsn 4 ++ bytesB room 4 ++ bytesB b2 2 ++ bytesB d2 2 ++ bksB bs ++ dusB ds)) ++ List.replicate (padN LL) 0 = zs ++ chB kind flags (bytesB tsn 4 ++ bytesB room 4 ++ bytesB b2 2 ++ bytesB d2 2 ++ bksB bs ++ dusB ds) := by
    unfold chB
    rw [hlv, ← HLL.out]
    simp
  rw [e8] at hS8
  have HS8 : Hid (WrP w q K (zs ++ chB kind flags (bytesB tsn 4 ++ bytesB room 4 ++ bytesB b2 2 ++ bytesB d2 2 ++ bksB bs ++ dusB ds)) (.returned (.tuple #[])) w8) := hS8.done rfl
  clear HS7 hS8 hP
  go_wp2
  go_end0
  exact HS8.out
end Go.Proofs.YtlgfbcfogcmdbaaDoor
