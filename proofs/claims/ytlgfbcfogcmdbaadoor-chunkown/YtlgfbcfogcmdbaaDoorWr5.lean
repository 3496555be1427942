/- chunk's writer: chunks of Shutdown, of Data, and of unknown kinds. -/
import Derived.Test.YtlgfbcfogcmdbaaDoorWr2
namespace Go.Proofs.YtlgfbcfogcmdbaaDoor
open Go.RowKit
def chB (kind flags : Nat) (vs : List Nat) : List Nat := kind :: flags :: (bytesB (4 + vs.length) 2 ++ vs ++ List.replicate (padN vs.length) 0)
theorem chB_len (kind flags : Nat) (vs : List Nat) : (chB kind flags vs).length = 4 + vs.length + padN vs.length := by
  unfold chB
  simp [bytesB_len]
  omega
theorem wlay_tsnv {w : World} {q : Nat} {K : Nat → Prop} {zs : List Nat} (h : WrW w q K zs) (tsn : Nat) (ht : tsn < 4294967296) (hb : zs.length ≤ 2000000) :
    Calls Tryd.prog 92 #[.int .u32 (tsn : Nat), .pointer (some ⟨q, 0, none⟩)] w (WrP w q K (zs ++ bytesB tsn 4)) := by
  have HN := (show Hid _ from wword_any h tsn ht (by omega))
  clear h
  go_enter Tryd.func92, Tryd.ntmps92
  go_wp2_with fail
  refine Calls.mono HN.out ?_
  rintro e w2 hP
  have he := hP.out
  subst he
  have HP := (show Hid _ from hP)
  clear hP HN
  go_wp2
  go_end0
  exact HP.out
theorem wlay_raw {w : World} {q : Nat} {K : Nat → Prop} {zs : List Nat} (h : WrW w q K zs) {x1 : Option Addr} {x2 x3 : Nat} {xs : List Nat} (hs : Sl w x1 x2 x3 xs) (hx : x2 ≤ 2000) (hb : zs.length ≤ 2000000) :
    Calls Tryd.prog 96 #[.slice x1 x2 x3, .pointer (some ⟨q, 0, none⟩)] w (WrP w q K (zs ++ xs)) := by
  have HN := (show Hid _ from wraw_any h hs (by omega))
  clear h hs
  go_enter Tryd.func96, Tryd.ntmps96
  go_wp2_with fail
  refine Calls.mono HN.out ?_
  rintro e w2 hP
  have he := hP.out
  subst he
  have HP := (show Hid _ from hP)
  clear hP HN
  go_wp2
  go_end0
  exact HP.out
set_option linter.unusedVariables false in
set_option maxRecDepth 100000 in
set_option maxHeartbeats 4000000 in
theorem wlay_data {w : World} {q : Nat} {K : Nat → Prop} {zs : List Nat} (h : WrW w q K zs) (tsn stream ssn ppid : Nat) {x1 : Option Addr} {x2 x3 : Nat} {xs : List Nat} (W0 : World) (hs : Sl W0 x1 x2 x3 xs) (hW : Below W0.heap.size W0 w) (hq : W0.heap.size ≤ q) (hx : x2 ≤ 2000) (ht : tsn < 4294967296) (hst : stream < 65536) (hss : ssn < 65536) (hpp : ppid < 4294967296) (hb : zs.length ≤ 2000000) :
    Calls Tryd.prog 84 #[.agg #[.int .u32 (tsn : Nat), .int .u16 (stream : Nat), .int .u16 (ssn : Nat), .int .u32 (ppid : Nat), .slice x1 x2 x3], .pointer (some ⟨q, 0, none⟩)] w (WrP w q K (zs ++ (bytesB tsn 4 ++ bytesB stream 2 ++ bytesB ssn 2 ++ bytesB ppid 4 ++ xs))) := by
  obtain ⟨W1, hW1⟩ : ∃ W1, W1 = w.alloc (.cells #[.int .u32 (tsn : Nat), .int .u16 (stream : Nat), .int .u16 (ssn : Nat), .int .u32 (ppid : Nat), .slice x1 x2 x3] 92) := ⟨_, rfl⟩
  have bb1 : Below w.heap.size w W1 := by rw [hW1]; exact (Below.refl _ _).alloc (Nat.le_refl _) _
  have hst1 := Stc.new w [.int .u32 (tsn : Nat), .int .u16 (stream : Nat), .int .u16 (ssn : Nat), .int .u32 (ppid : Nat), .slice x1 x2 x3] 92 W1 hW1
  have HS := (show Hid _ from h.start bb1 hst1 (Nat.le_refl _))
  have hlt := h.lt
  clear h hst1 bb1
  have HN := (show Hid _ from wword_any HS.out.wr tsn (by omega) (by omega))
  go_enter Tryd.func84, Tryd.ntmps84
  go_wp2_with fail
  rw [← hW1]
  clear hW1
  refine Calls.mono HN.out ?_
  clear HN
  rintro e v0 hP
  have he := hP.out
  subst he
  have HS1 := (show Hid _ from HS.out.next hP)
  clear hP HS
  have k1 := HS1.out.st.cell 1 _ rfl
  have HN := (show Hid _ from whalf_any HS1.out.wr stream (by omega) (by simp [bytesB_len]; omega))
  go_wp2_with fail
  refine Calls.mono HN.out ?_
  clear HN k1
  rintro e v1 hP
  have he := hP.out
  subst he
  have HS2 := (show Hid _ from HS1.out.next hP)
  clear hP HS1
  have k2 := HS2.out.st.cell 2 _ rfl
  have HN := (show Hid _ from whalf_any HS2.out.wr ssn (by omega) (by simp [bytesB_len]; omega))
  go_wp2_with fail
  refine Calls.mono HN.out ?_
  clear HN k2
  rintro e v2 hP
  have he := hP.out
  subst he
  have HS3 := (show Hid _ from HS2.out.next hP)
  clear hP HS2
  have k3 := HS3.out.st.cell 3 _ rfl
  have HN := (show Hid _ from wword_any HS3.out.wr ppid (by omega) (by simp [bytesB_len]; omega))
  go_wp2_with fail
  refine Calls.mono HN.out ?_
  clear HN k3
  rintro e v3 hP
  have he := hP.out
  subst he
  have HS4 := (show Hid _ from HS3.out.next hP)
  clear hP HS3
  have k4 := HS4.out.st.cell 4 _ rfl
  have HN := (show Hid _ from wraw_any HS4.out.wr (hs.below (hW.trans (HS4.out.fr.below _ hW.size (fun k hk => by omega)))) (by simp [bytesB_len]; omega))
  go_wp2_with fail
  refine Calls.mono HN.out ?_
  clear HN k4
  rintro e v4 hP
  have he := hP.out
  subst he
  have HS5 := (show Hid _ from HS4.out.next hP)
  clear hP HS4
  have HF : Hid (WrP w q K (zs ++ (bytesB tsn 4 ++ bytesB stream 2 ++ bytesB ssn 2 ++ bytesB ppid 4 ++ xs)) (.returned (.tuple #[])) v4) := by
    have := HS5.out.done (e := .returned (.tuple #[])) rfl
    rw [show zs ++ (bytesB tsn 4 ++ bytesB stream 2 ++ bytesB ssn 2 ++ bytesB ppid 4 ++ xs) = (((((zs ++ bytesB tsn 4) ++ bytesB stream 2) ++ bytesB ssn 2) ++ bytesB ppid 4) ++ xs) from by simp only [List.append_assoc]]
    exact this
  clear HS5
  go_wp2
  go_end0
  exact HF.out
set_option linter.unusedVariables false in
set_option maxRecDepth 100000 in
set_option maxHeartbeats 4000000 in
theorem wchunk_tsnv {w : World} {q : Nat} {K : Nat → Prop} {zs : List Nat} (h : WrW w q K zs) (kind flags tsn stream ssn ppid tag room outs ins : Nat) (b1 : Option Addr) (b2 b3 : Nat) (d1 : Option Addr) (d2 d3 : Nat) (p1 : Option Addr) (p2 p3 : Nat) (x1 : Option Addr) (x2 x3 : Nat) (hk : kind = 7) (htb : tsn < 4294967296) (hkb : kind < 256) (hf : flags < 256) (h4 : zs.length % 4 = 0) (hb : zs.length ≤ 1000000) (hLb : 4 ≤ 2000) :
    Calls Tryd.prog 13 #[.pointer (some ⟨q, 0, none⟩), .agg #[.int .u8 (kind : Nat), .int .u8 (flags : Nat), .int .u32 (tsn : Nat), .int .u16 (stream : Nat), .int .u16 (ssn : Nat), .int .u32 (ppid : Nat), .int .u32 (tag : Nat), .int .u32 (room : Nat), .int .u16 (outs : Nat), .int .u16 (ins : Nat), .slice b1 b2 b3, .slice d1 d2 d3, .slice p1 p2 p3, .slice x1 x2 x3]] w (WrP w q K (zs ++ chB kind flags (bytesB tsn 4))) := by
  obtain ⟨W1, hW1⟩ : ∃ W1, W1 = w.alloc (.cells #[.int .u8 (kind : Nat), .int .u8 (flags : Nat), .int .u32 (tsn : Nat), .int .u16 (stream : Nat), .int .u16 (ssn : Nat), .int .u32 (ppid : Nat), .int .u32 (tag : Nat), .int .u32 (room : Nat), .int .u16 (outs : Nat), .int .u16 (ins : Nat), .slice b1 b2 b3, .slice d1 d2 d3, .slice p1 p2 p3, .slice x1 x2 x3] 32) := ⟨_, rfl⟩
  have bb1 : Below w.heap.size w W1 := by rw [hW1]; exact (Below.refl _ _).alloc (Nat.le_refl _) _
  have hst1 := Stc.new w [.int .u8 (kind : Nat), .int .u8 (flags : Nat), .int .u32 (tsn : Nat), .int .u16 (stream : Nat), .int .u16 (ssn : Nat), .int .u32 (ppid : Nat), .int .u32 (tag : Nat), .int .u32 (room : Nat), .int .u16 (outs : Nat), .int .u16 (ins : Nat), .slice b1 b2 b3, .slice d1 d2 d3, .slice p1 p2 p3, .slice x1 x2 x3] 32 W1 hW1
  have hrg := hst1.range
  have HV := (show Hid _ from valueOf_tsnv kind flags tsn stream ssn ppid tag room outs ins b1 b2 b3 d1 d2 d3 p1 p2 p3 x1 x2 x3 W1 hk)
  have HS := (show Hid _ from h.start bb1 hst1 (Nat.le_refl _))
  have hm1 : ∀ (v : Value) (w : World), (method 237 98 v "trunkline/chunk.size").run Tryd.prog w = .ok (93, v) w := fun _ _ => by kernel_rfl
  have hm2 : ∀ (v : Value) (w : World), (method 237 98 v "trunkline/chunk.lay").run Tryd.prog w = .ok (92, v) w := fun _ _ => by kernel_rfl
  have hlv : (bytesB tsn 4).length = 4 := by simp [bytesB_len]
  obtain ⟨LL, hLL⟩ : ∃ LL, LL = 4 := ⟨_, rfl⟩
  have HLL := (show Hid _ from hLL)
  have hbL : LL ≤ 2000 := by rw [hLL]; exact hLb
  have HSZ : Hid (∀ W, Calls Tryd.prog 93 #[.int .u32 (tsn : Nat)] W fun e w' => e = .returned (.int .i64 (LL : Nat)) ∧ Below W.heap.size W w') := fun W => by
    rw [hLL]
    exact size_tsnv tsn W
  clear hLL
  clear h hst1 bb1 hk
  go_enter Tryd.func13, Tryd.ntmps13
  go_wp2_with (first | (refine wpList_load_mid rfl 32 _ rfl w.heap.size 0 rfl [.int .u8 (kind : Nat), .int .u8 (flags : Nat), .int .u32 (tsn : Nat), .int .u16 (stream : Nat), .int .u16 (ssn : Nat), .int .u32 (ppid : Nat), .int .u32 (tag : Nat), .int .u32 (room : Nat), .int .u16 (outs : Nat), .int .u16 (ins : Nat), .slice b1 b2 b3, .slice d1 d2 d3, .slice p1 p2 p3, .slice x1 x2 x3] _ (by rw [← hW1]; exact hrg) Tryd.underlying32 rfl (ch_size14 _ rfl) ?_) | fail)
  rw [← hW1]
  clear hW1 hrg
  refine Calls.mono HV.out ?_
  clear HV
  rintro e w2 ⟨rfl, bv⟩
  have hS2 := HS.out.below bv
  have k0 := hS2.st.cell 0 _ rfl
  have hw0 : IntKind.u64.wrap (kind : Int) = kind := by rw [IntKind.wrap_u64]; omega
  have HN := (show Hid _ from wnum_any hS2.wr kind 1 (by decide) (by decide) (by simpa using hkb) (by omega) (by omega))
  have HS2 := (show Hid _ from hS2)
  clear HS hS2 bv
  go_wp2_with fail
  refine Calls.mono HN.out ?_
  clear HN k0 hw0
  rintro e w3 hP
  have he := hP.out
  subst he
  have hS3 := HS2.out.next hP
  rw [bytesB_one hkb] at hS3
  have k1 := hS3.st.cell 1 _ rfl
  have hw1 : IntKind.u64.wrap (flags : Int) = flags := by rw [IntKind.wrap_u64]; omega
  have hl3 : (zs ++ [kind]).length = zs.length + 1 := by simp
  have HN := (show Hid _ from wnum_any hS3.wr flags 1 (by decide) (by decide) (by simpa using hf) (by omega) (by omega))
  have HS3 := (show Hid _ from hS3)
  clear HS2 hS3 hP
  go_wp2_with fail
  refine Calls.mono HN.out ?_
  clear HN k1 hw1
  rintro e w4 hP
  have he := hP.out
  subst he
  have hS4 := HS3.out.next hP
  rw [bytesB_one hf] at hS4
  have HS4 := (show Hid _ from hS4)
  clear HS3 hS4 hP
  go_wp2_with fail
  refine Calls.mono (HSZ.out w4) ?_
  clear HSZ
  rintro e w5 ⟨rfl, b5⟩
  have hS5 := HS4.out.below b5
  have hl4 : ((zs ++ [kind]) ++ [flags]).length = zs.length + 2 := by simp
  have HN := (show Hid _ from whalf_any hS5.wr (4 + LL) (by omega) (by omega))
  rw [show ((4 + LL : Nat) : Int) = 4 + (LL : Int) from by omega] at HN
  have HS5 := (show Hid _ from hS5)
  have hw4 : IntKind.u16.wrap (4 + (LL : Int)) = 4 + (LL : Int) := by rw [IntKind.wrap_u16]; omega
  clear HS4 hS5 b5
  go_wp2_with fail
  refine Calls.mono HN.out ?_
  clear HN hw4
  rintro e w6 hP
  have he := hP.out
  subst he
  have hS6 := HS5.out.next hP
  have hl6 : (((zs ++ [kind]) ++ [flags]) ++ bytesB (4 + LL) 2).length = zs.length + 4 := by simp [bytesB_len]
  have HN := (show Hid _ from wlay_tsnv hS6.wr tsn htb (by omega))
  have HS6 := (show Hid _ from hS6)
  clear HS5 hS6 hP
  go_wp2_with fail
  refine Calls.mono HN.out ?_
  clear HN
  rintro e w7 hP
  have he := hP.out
  subst he
  have hS7 := HS6.out.next hP
  have hl7 : ((((zs ++ [kind]) ++ [flags]) ++ bytesB (4 + LL) 2) ++ (bytesB tsn 4)).length = zs.length + 4 + LL := by rw [List.length_append, hl6, hlv, HLL.out]
  have hpl3 : padN LL ≤ 3 := by unfold padN; omega
  have HN := (show Hid _ from wpad_any hS7.wr (by omega))
  have hp0 : padN ((((zs ++ [kind]) ++ [flags]) ++ bytesB (4 + LL) 2) ++ (bytesB tsn 4)).length = padN LL := by rw [hl7]; unfold padN; omega
  rw [hp0] at HN
  have HS7 := (show Hid _ from hS7)
  clear HS6 hS7 hP hpl3
  go_wp2_with fail
  refine Calls.mono HN.out ?_
  clear HN
  rintro e w8 hP
  have he := hP.out
  subst he
  have hS8 := HS7.out.next hP
  have e8 : ((((zs ++ [kind]) ++ [flags]) ++ bytesB (4 + LL) 2) ++ (bytesB tsn 4)) ++ List.replicate (padN LL) 0 = zs ++ chB kind flags (bytesB tsn 4) := by
    unfold chB
    rw [hlv, ← HLL.out]
    simp
  rw [e8] at hS8
  have HS8 : Hid (WrP w q K (zs ++ chB kind flags (bytesB tsn 4)) (.returned (.tuple #[])) w8) := hS8.done rfl
  clear HS7 hS8 hP
  go_wp2
  go_end0
  exact HS8.out
set_option linter.unusedVariables false in
set_option maxRecDepth 100000 in
set_option maxHeartbeats 4000000 in
theorem wchunk_raw {w : World} {q : Nat} {K : Nat → Prop} {zs : List Nat} (h : WrW w q K zs) (kind flags tsn stream ssn ppid tag room outs ins : Nat) (b1 : Option Addr) (b2 b3 : Nat) (d1 : Option Addr) (d2 d3 : Nat) (p1 : Option Addr) (p2 p3 : Nat) (x1 : Option Addr) (x2 x3 : Nat) (hk : ¬ kind = 0 ∧ ¬ kind = 1 ∧ ¬ kind = 2 ∧ ¬ kind = 3 ∧ ¬ kind = 4 ∧ ¬ kind = 5 ∧ ¬ kind = 6 ∧ ¬ kind = 7 ∧ ¬ kind = 8 ∧ ¬ kind = 9 ∧ ¬ kind = 11 ∧ ¬ kind = 14) (W0 : World) {xs : List Nat} (hs : Sl W0 x1 x2 x3 xs) (hW : Below W0.heap.size W0 w) (hq : W0.heap.size ≤ q) (hkb : kind < 256) (hf : flags < 256) (h4 : zs.length % 4 = 0) (hb : zs.length ≤ 1000000) (hLb : x2 ≤ 2000) :
    Calls Tryd.prog 13 #[.pointer (some ⟨q, 0, none⟩), .agg #[.int .u8 (kind : Nat), .int .u8 (flags : Nat), .int .u32 (tsn : Nat), .int .u16 (stream : Nat), .int .u16 (ssn : Nat), .int .u32 (ppid : Nat), .int .u32 (tag : Nat), .int .u32 (room : Nat), .int .u16 (outs : Nat), .int .u16 (ins : Nat), .slice b1 b2 b3, .slice d1 d2 d3, .slice p1 p2 p3, .slice x1 x2 x3]] w (WrP w q K (zs ++ chB kind flags (xs))) := by
  obtain ⟨W1, hW1⟩ : ∃ W1, W1 = w.alloc (.cells #[.int .u8 (kind : Nat), .int .u8 (flags : Nat), .int .u32 (tsn : Nat), .int .u16 (stream : Nat), .int .u16 (ssn : Nat), .int .u32 (ppid : Nat), .int .u32 (tag : Nat), .int .u32 (room : Nat), .int .u16 (outs : Nat), .int .u16 (ins : Nat), .slice b1 b2 b3, .slice d1 d2 d3, .slice p1 p2 p3, .slice x1 x2 x3] 32) := ⟨_, rfl⟩
  have bb1 : Below w.heap.size w W1 := by rw [hW1]; exact (Below.refl _ _).alloc (Nat.le_refl _) _
  have hst1 := Stc.new w [.int .u8 (kind : Nat), .int .u8 (flags : Nat), .int .u32 (tsn : Nat), .int .u16 (stream : Nat), .int .u16 (ssn : Nat), .int .u32 (ppid : Nat), .int .u32 (tag : Nat), .int .u32 (room : Nat), .int .u16 (outs : Nat), .int .u16 (ins : Nat), .slice b1 b2 b3, .slice d1 d2 d3, .slice p1 p2 p3, .slice x1 x2 x3] 32 W1 hW1
  have hrg := hst1.range
  have HV := (show Hid _ from valueOf_raw kind flags tsn stream ssn ppid tag room outs ins b1 b2 b3 d1 d2 d3 p1 p2 p3 x1 x2 x3 W1 hk)
  have HS := (show Hid _ from h.start bb1 hst1 (Nat.le_refl _))
  have hm1 : ∀ (v : Value) (w : World), (method 237 101 v "trunkline/chunk.size").run Tryd.prog w = .ok (97, v) w := fun _ _ => by kernel_rfl
  have hm2 : ∀ (v : Value) (w : World), (method 237 101 v "trunkline/chunk.lay").run Tryd.prog w = .ok (96, v) w := fun _ _ => by kernel_rfl
  have hlv : (xs).length = x2 := by exact hs.len
  obtain ⟨LL, hLL⟩ : ∃ LL, LL = x2 := ⟨_, rfl⟩
  have HLL := (show Hid _ from hLL)
  have hbL : LL ≤ 2000 := by rw [hLL]; exact hLb
  have HSZ : Hid (∀ W, Calls Tryd.prog 97 #[.slice x1 x2 x3] W fun e w' => e = .returned (.int .i64 (LL : Nat)) ∧ Below W.heap.size W w') := fun W => by
    rw [hLL]
    exact size_raw x1 x2 x3 W hs.small
  clear hLL
  clear h hst1 bb1 hk
  go_enter Tryd.func13, Tryd.ntmps13
  go_wp2_with (first | (refine wpList_load_mid rfl 32 _ rfl w.heap.size 0 rfl [.int .u8 (kind : Nat), .int .u8 (flags : Nat), .int .u32 (tsn : Nat), .int .u16 (stream : Nat), .int .u16 (ssn : Nat), .int .u32 (ppid : Nat), .int .u32 (tag : Nat), .int .u32 (room : Nat), .int .u16 (outs : Nat), .int .u16 (ins : Nat), .slice b1 b2 b3, .slice d1 d2 d3, .slice p1 p2 p3, .slice x1 x2 x3] _ (by rw [← hW1]; exact hrg) Tryd.underlying32 rfl (ch_size14 _ rfl) ?_) | fail)
  rw [← hW1]
  clear hW1 hrg
  refine Calls.mono HV.out ?_
  clear HV
  rintro e w2 ⟨rfl, bv⟩
  have hS2 := HS.out.below bv
  have k0 := hS2.st.cell 0 _ rfl
  have hw0 : IntKind.u64.wrap (kind : Int) = kind := by rw [IntKind.wrap_u64]; omega
  have HN := (show Hid _ from wnum_any hS2.wr kind 1 (by decide) (by decide) (by simpa using hkb) (by omega) (by omega))
  have HS2 := (show Hid _ from hS2)
  clear HS hS2 bv
  go_wp2_with fail
  refine Calls.mono HN.out ?_
  clear HN k0 hw0
  rintro e w3 hP
  have he := hP.out
  subst he
  have hS3 := HS2.out.next hP
  rw [bytesB_one hkb] at hS3
  have k1 := hS3.st.cell 1 _ rfl
  have hw1 : IntKind.u64.wrap (flags : Int) = flags := by rw [IntKind.wrap_u64]; omega
  have hl3 : (zs ++ [kind]).length = zs.length + 1 := by simp
  have HN := (show Hid _ from wnum_any hS3.wr flags 1 (by decide) (by decide) (by simpa using hf) (by omega) (by omega))
  have HS3 := (show Hid _ from hS3)
  clear HS2 hS3 hP
  go_wp2_with fail
  refine Calls.mono HN.out ?_
  clear HN k1 hw1
  rintro e w4 hP
  have he := hP.out
  subst he
  have hS4 := HS3.out.next hP
  rw [bytesB_one hf] at hS4
  have HS4 := (show Hid _ from hS4)
  clear HS3 hS4 hP
  go_wp2_with fail
  refine Calls.mono (HSZ.out w4) ?_
  clear HSZ
  rintro e w5 ⟨rfl, b5⟩
  have hS5 := HS4.out.below b5
  have hl4 : ((zs ++ [kind]) ++ [flags]).length = zs.length + 2 := by simp
  have HN := (show Hid _ from whalf_any hS5.wr (4 + LL) (by omega) (by omega))
  rw [show ((4 + LL : Nat) : Int) = 4 + (LL : Int) from by omega] at HN
  have HS5 := (show Hid _ from hS5)
  have hw4 : IntKind.u16.wrap (4 + (LL : Int)) = 4 + (LL : Int) := by rw [IntKind.wrap_u16]; omega
  clear HS4 hS5 b5
  go_wp2_with fail
  refine Calls.mono HN.out ?_
  clear HN hw4
  rintro e w6 hP
  have he := hP.out
  subst he
  have hS6 := HS5.out.next hP
  have hl6 : (((zs ++ [kind]) ++ [flags]) ++ bytesB (4 + LL) 2).length = zs.length + 4 := by simp [bytesB_len]
  have HN := (show Hid _ from wlay_raw hS6.wr (hs.below (hW.trans (hS6.fr.below _ hW.size (fun k hk => by omega)))) (by omega) (by omega))
  have HS6 := (show Hid _ from hS6)
  clear HS5 hS6 hP
  go_wp2_with fail
  refine Calls.mono HN.out ?_
  clear HN
  rintro e w7 hP
  have he := hP.out
  subst he
  have hS7 := HS6.out.next hP
  have hl7 : ((((zs ++ [kind]) ++ [flags]) ++ bytesB (4 + LL) 2) ++ (xs)).length = zs.length + 4 + LL := by rw [List.length_append, hl6, hlv, HLL.out]
  have hpl3 : padN LL ≤ 3 := by unfold padN; omega
  have HN := (show Hid _ from wpad_any hS7.wr (by omega))
  have hp0 : padN ((((zs ++ [kind]) ++ [flags]) ++ bytesB (4 + LL) 2) ++ (xs)).length = padN LL := by rw [hl7]; unfold padN; omega
  rw [hp0] at HN
  have HS7 := (show Hid _ from hS7)
  clear HS6 hS7 hP hpl3
  go_wp2_with fail
  refine Calls.mono HN.out ?_
  clear HN
  rintro e w8 hP
  have he := hP.out
  subst he
  have hS8 := HS7.out.next hP
  have e8 : ((((zs ++ [kind]) ++ [flags]) ++ bytesB (4 + LL) 2) ++ (xs)) ++ List.replicate (padN LL) 0 = zs ++ chB kind flags (xs) := by
    unfold chB
    rw [hlv, ← HLL.out]
    simp
  rw [e8] at hS8
  have HS8 : Hid (WrP w q K (zs ++ chB kind flags (xs)) (.returned (.tuple #[])) w8) := hS8.done rfl
  clear HS7 hS8 hP
  go_wp2
  go_end0
  exact HS8.out
set_option linter.unusedVariables false in
set_option maxRecDepth 100000 in
set_option maxHeartbeats 4000000 in
theorem wchunk_data {w : World} {q : Nat} {K : Nat → Prop} {zs : List Nat} (h : WrW w q K zs) (kind flags tsn stream ssn ppid tag room outs ins : Nat) (b1 : Option Addr) (b2 b3 : Nat) (d1 : Option Addr) (d2 d3 : Nat) (p1 : Option Addr) (p2 p3 : Nat) (x1 : Option Addr) (x2 x3 : Nat) (hk : kind = 0) (W0 : World) {xs : List Nat} (hs : Sl W0 x1 x2 x3 xs) (hW : Below W0.heap.size W0 w) (hq : W0.heap.size ≤ q) (htb : tsn < 4294967296) (hstb : stream < 65536) (hssb : ssn < 65536) (hppb : ppid < 4294967296) (hkb : kind < 256) (hf : flags < 256) (h4 : zs.length % 4 = 0) (hb : zs.length ≤ 1000000) (hLb : 12 + x2 ≤ 2000) :
    Calls Tryd.prog 13 #[.pointer (some ⟨q, 0, none⟩), .agg #[.int .u8 (kind : Nat), .int .u8 (flags : Nat), .int .u32 (tsn : Nat), .int .u16 (stream : Nat), .int .u16 (ssn : Nat), .int .u32 (ppid : Nat), .int .u32 (tag : Nat), .int .u32 (room : Nat), .int .u16 (outs : Nat), .int .u16 (ins : Nat), .slice b1 b2 b3, .slice d1 d2 d3, .slice p1 p2 p3, .slice x1 x2 x3]] w (WrP w q K (zs ++ chB kind flags (bytesB tsn 4 ++ bytesB stream 2 ++ bytesB ssn 2 ++ bytesB ppid 4 ++ xs))) := by
  obtain ⟨W1, hW1⟩ : ∃ W1, W1 = w.alloc (.cells #[.int .u8 (kind : Nat), .int .u8 (flags : Nat), .int .u32 (tsn : Nat), .int .u16 (stream : Nat), .int .u16 (ssn : Nat), .int .u32 (ppid : Nat), .int .u32 (tag : Nat), .int .u32 (room : Nat), .int .u16 (outs : Nat), .int .u16 (ins : Nat), .slice b1 b2 b3, .slice d1 d2 d3, .slice p1 p2 p3, .slice x1 x2 x3] 32) := ⟨_, rfl⟩
  have bb1 : Below w.heap.size w W1 := by rw [hW1]; exact (Below.refl _ _).alloc (Nat.le_refl _) _
  have hst1 := Stc.new w [.int .u8 (kind : Nat), .int .u8 (flags : Nat), .int .u32 (tsn : Nat), .int .u16 (stream : Nat), .int .u16 (ssn : Nat), .int .u32 (ppid : Nat), .int .u32 (tag : Nat), .int .u32 (room : Nat), .int .u16 (outs : Nat), .int .u16 (ins : Nat), .slice b1 b2 b3, .slice d1 d2 d3, .slice p1 p2 p3, .slice x1 x2 x3] 32 W1 hW1
  have hrg := hst1.range
  have HV := (show Hid _ from valueOf_data kind flags tsn stream ssn ppid tag room outs ins b1 b2 b3 d1 d2 d3 p1 p2 p3 x1 x2 x3 W1 hk)
  have HS := (show Hid _ from h.start bb1 hst1 (Nat.le_refl _))
  have hm1 : ∀ (v : Value) (w : World), (method 237 92 v "trunkline/chunk.size").run Tryd.prog w = .ok (85, v) w := fun _ _ => by kernel_rfl
  have hm2 : ∀ (v : Value) (w : World), (method 237 92 v "trunkline/chunk.lay").run Tryd.prog w = .ok (84, v) w := fun _ _ => by kernel_rfl
  have hlv : (bytesB tsn 4 ++ bytesB stream 2 ++ bytesB ssn 2 ++ bytesB ppid 4 ++ xs).length = 12 + x2 := by simp [bytesB_len, hs.len]; omega
  obtain ⟨LL, hLL⟩ : ∃ LL, LL = 12 + x2 := ⟨_, rfl⟩
  have HLL := (show Hid _ from hLL)
  have hbL : LL ≤ 2000 := by rw [hLL]; exact hLb
  have HSZ : Hid (∀ W, Calls Tryd.prog 85 #[.agg #[.int .u32 (tsn : Nat), .int .u16 (stream : Nat), .int .u16 (ssn : Nat), .int .u32 (ppid : Nat), .slice x1 x2 x3]] W fun e w' => e = .returned (.int .i64 (LL : Nat)) ∧ Below W.heap.size W w') := fun W => by
    rw [hLL]
    exact size_data (.int .u32 (tsn : Nat)) (.int .u16 (stream : Nat)) (.int .u16 (ssn : Nat)) (.int .u32 (ppid : Nat)) x1 x2 x3 W hs.small
  clear hLL
  clear h hst1 bb1 hk
  go_enter Tryd.func13, Tryd.ntmps13
  go_wp2_with (first | (refine wpList_load_mid rfl 32 _ rfl w.heap.size 0 rfl [.int .u8 (kind : Nat), .int .u8 (flags : Nat), .int .u32 (tsn : Nat), .int .u16 (stream : Nat), .int .u16 (ssn : Nat), .int .u32 (ppid : Nat), .int .u32 (tag : Nat), .int .u32 (room : Nat), .int .u16 (outs : Nat), .int .u16 (ins : Nat), .slice b1 b2 b3, .slice d1 d2 d3, .slice p1 p2 p3, .slice x1 x2 x3] _ (by rw [← hW1]; exact hrg) Tryd.underlying32 rfl (ch_size14 _ rfl) ?_) | fail)
  rw [← hW1]
  clear hW1 hrg
  refine Calls.mono HV.out ?_
  clear HV
  rintro e w2 ⟨rfl, bv⟩
  have hS2 := HS.out.below bv
  have k0 := hS2.st.cell 0 _ rfl
  have hw0 : IntKind.u64.wrap (kind : Int) = kind := by rw [IntKind.wrap_u64]; omega
  have HN := (show Hid _ from wnum_any hS2.wr kind 1 (by decide) (by decide) (by simpa using hkb) (by omega) (by omega))
  have HS2 := (show Hid _ from hS2)
  clear HS hS2 bv
  go_wp2_with fail
  refine Calls.mono HN.out ?_
  clear HN k0 hw0
  rintro e w3 hP
  have he := hP.out
  subst he
  have hS3 := HS2.out.next hP
  rw [bytesB_one hkb] at hS3
  have k1 := hS3.st.cell 1 _ rfl
  have hw1 : IntKind.u64.wrap (flags : Int) = flags := by rw [IntKind.wrap_u64]; omega
  have hl3 : (zs ++ [kind]).length = zs.length + 1 := by simp
  have HN := (show Hid _ from wnum_any hS3.wr flags 1 (by decide) (by decide) (by simpa using hf) (by omega) (by omega))
  have HS3 := (show Hid _ from hS3)
  clear HS2 hS3 hP
  go_wp2_with fail
  refine Calls.mono HN.out ?_
  clear HN k1 hw1
  rintro e w4 hP
  have he := hP.out
  subst he
  have hS4 := HS3.out.next hP
  rw [bytesB_one hf] at hS4
  have HS4 := (show Hid _ from hS4)
  clear HS3 hS4 hP
  go_wp2_with fail
  refine Calls.mono (HSZ.out w4) ?_
  clear HSZ
  rintro e w5 ⟨rfl, b5⟩
  have hS5 := HS4.out.below b5
  have hl4 : ((zs ++ [kind]) ++ [flags]).length = zs.length + 2 := by simp
  have HN := (show Hid _ from whalf_any hS5.wr (4 + LL) (by omega) (by omega))
  rw [show ((4 + LL : Nat) : Int) = 4 + (LL : Int) from by omega] at HN
  have HS5 := (show Hid _ from hS5)
  have hw4 : IntKind.u16.wrap (4 + (LL : Int)) = 4 + (LL : Int) := by rw [IntKind.wrap_u16]; omega
  clear HS4 hS5 b5
  go_wp2_with fail
  refine Calls.mono HN.out ?_
  clear HN hw4
  rintro e w6 hP
  have he := hP.out
  subst he
  have hS6 := HS5.out.next hP
  have hl6 : (((zs ++ [kind]) ++ [flags]) ++ bytesB (4 + LL) 2).length = zs.length + 4 := by simp [bytesB_len]
  have HN := (show Hid _ from wlay_data hS6.wr tsn stream ssn ppid W0 hs (hW.trans (hS6.fr.below _ hW.size (fun k hk => by omega))) hq (by omega) htb hstb hssb hppb (by omega))
  have HS6 := (show Hid _ from hS6)
  clear HS5 hS6 hP
  go_wp2_with fail
  refine Calls.mono HN.out ?_
  clear HN
  rintro e w7 hP
  have he := hP.out
  subst he
  have hS7 := HS6.out.next hP
  have hl7 : ((((zs ++ [kind]) ++ [flags]) ++ bytesB (4 + LL) 2) ++ (bytesB tsn 4 ++ bytesB stream 2 ++ bytesB ssn 2 ++ bytesB ppid 4 ++ xs)).length = zs.length + 4 + LL := by rw [List.length_append, hl6, hlv, HLL.out]
  have hpl3 : padN LL ≤ 3 := by unfold padN; omega
  have HN := (show Hid _ from wpad_any hS7.wr (by omega))
  have hp0 : padN ((((zs ++ [kind]) ++ [flags]) ++ bytesB (4 + LL) 2) ++ (bytesB tsn 4 ++ bytesB stream 2 ++ bytesB ssn 2 ++ bytesB ppid 4 ++ xs)).length = padN LL := by rw [hl7]; unfold padN; omega
  rw [hp0] at HN
  have HS7 := (show Hid _ from hS7)
  clear HS6 hS7 hP hpl3
  go_wp2_with fail
  refine Calls.mono HN.out ?_
  clear HN
  rintro e w8 hP
  have he := hP.out
  subst he
  have hS8 := HS7.out.next hP
  have e8 : ((((zs ++ [kind]) ++ [flags]) ++ bytesB (4 + LL) 2) ++ (bytesB tsn 4 ++ bytesB stream 2 ++ bytesB ssn 2 ++ bytesB ppid 4 ++ xs)) ++ List.replicate (padN LL) 0 = zs ++ chB kind flags (bytesB tsn 4 ++ bytesB stream 2 ++ bytesB ssn 2 ++ bytesB ppid 4 ++ xs) := by
    unfold chB
    rw [hlv, ← HLL.out]
    simp
  rw [e8] at hS8
  have HS8 : Hid (WrP w q K (zs ++ chB kind flags (bytesB tsn 4 ++ bytesB stream 2 ++ bytesB ssn 2 ++ bytesB ppid 4 ++ xs)) (.returned (.tuple #[])) w8) := hS8.done rfl
  clear HS7 hS8 hP
  go_wp2
  go_end0
  exact HS8.out
end Go.Proofs.YtlgfbcfogcmdbaaDoor
