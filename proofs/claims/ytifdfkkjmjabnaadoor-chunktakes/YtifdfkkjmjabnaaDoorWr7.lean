/- chunk's writer: chunks of parameters alone, and Init. -/
import Derived.Test.YtifdfkkjmjabnaaDoorWr6
namespace Go.Proofs.YtifdfkkjmjabnaaDoor
open Go.RowKit
def pmV (p : Pm) : List Nat := bytesB p.k 2 ++ (bytesB (4 + p.zs.length) 2 ++ p.zs)
/-- Parameters, without what pads the last one. -/
def pmsV (ps : List Pm) : List Nat := match ps.getLast? with
  | none => []
  | some p => pmsB ps.dropLast ++ pmV p
theorem psz_sum (ps : List Pm) : (pszP (ps.map fun p => p.zs.length)).1 + (pszP (ps.map fun p => p.zs.length)).2 = (pmsB ps).length := by
  have key : ∀ n (ps : List Pm), ps.length = n → (pszP (ps.map fun p => p.zs.length)).1 + (pszP (ps.map fun p => p.zs.length)).2 = (pmsB ps).length := by
    intro n
    induction n with
    | zero =>
      intro ps h
      have : ps = [] := List.eq_nil_of_length_eq_zero h
      subst this
      rfl
    | succ n ih =>
      intro ps h
      rcases List.eq_nil_or_concat ps with e | ⟨qs, p, e⟩
      · subst e; cases h
      · rw [List.concat_eq_append] at e
        subst e
        have h1 := ih qs (by simpa using h)
        rw [List.map_append, List.map_cons, List.map_nil, pszP_snoc]
        unfold pmsB at h1 ⊢
        rw [List.flatMap_append, List.length_append]
        simp only [List.flatMap_cons, List.flatMap_nil, List.append_nil]
        rw [pmB_len]
        omega
  exact key _ ps rfl
theorem pmsV_len (ps : List Pm) : (pmsV ps).length = psz (ps.map fun p => p.zs.length) := by
  rcases List.eq_nil_or_concat ps with e | ⟨qs, p, e⟩
  · subst e; rfl
  · rw [List.concat_eq_append] at e
    subst e
    have h1 := psz_sum qs
    unfold psz
    rw [List.map_append, List.map_cons, List.map_nil, pszP_snoc]
    unfold pmsV
    simp only [List.getLast?_append, List.getLast?_singleton, Option.some_or, List.dropLast_concat]
    unfold pmV
    simp [bytesB_len]
    omega
theorem pms_split (ps : List Pm) : pmsB ps = pmsV ps ++ List.replicate (padN (pmsV ps).length) 0 := by
  rcases List.eq_nil_or_concat ps with e | ⟨qs, p, e⟩
  · subst e; rfl
  · rw [List.concat_eq_append] at e
    subst e
    have h4 := pmsB_four qs
    have hv : pmsV (qs ++ [p]) = pmsB qs ++ pmV p := by
      unfold pmsV
      simp only [List.getLast?_append, List.getLast?_singleton, Option.some_or, List.dropLast_concat]
    have hl : padN (pmsB qs ++ pmV p).length = padN p.zs.length := by
      rw [List.length_append]
      unfold pmV
      simp only [List.length_append, bytesB_len]
      unfold padN
      omega
    rw [hv, hl]
    unfold pmsB pmV
    rw [List.flatMap_append]
    simp only [List.flatMap_cons, List.flatMap_nil, List.append_nil]
    unfold pmB
    simp only [List.append_assoc]
theorem PmR.prs {w : World} {a : Option Addr} {n c : Nat} {ps : List Pm} (h : PmR w a n c ps) (hz : ∀ p ∈ ps, p.zs.length ≤ 2000) : Prs w a n c (ps.map fun p => p.zs.length) := by
  refine ⟨by rw [List.length_map]; exact h.len, h.small, fun l hl => ?_, ?_⟩
  · obtain ⟨p, hp, rfl⟩ := List.mem_map.1 hl
    have := hz p hp
    omega
  · rcases h.at_ with e | ⟨b, off, e1, e2, e3⟩
    · exact .inl e
    · refine .inr ⟨b, off, e1, e2, fun i l hl => ?_⟩
      rw [List.getElem?_map] at hl
      obtain ⟨p, hp, rfl⟩ := Option.map_eq_some_iff.1 hl
      obtain ⟨_, va, vc, c0, c1, _⟩ := e3 i p hp
      exact ⟨p.k, va, vc, c0, c1⟩
set_option linter.unusedVariables false in
set_option maxRecDepth 100000 in
set_option maxHeartbeats 4000000 in
theorem wchunk_prms {w : World} {q : Nat} {K : Nat → Prop} {zs : List Nat} (h : WrW w q K zs) (kind flags tsn stream ssn ppid tag room outs ins : Nat) (b1 : Option Addr) (b2 b3 : Nat) (d1 : Option Addr) (d2 d3 : Nat) (p1 : Option Addr) (p2 p3 : Nat) (x1 : Option Addr) (x2 x3 : Nat) (hk : kind = 4 ∨ kind = 5 ∨ kind = 6 ∨ kind = 9) (W0 : World) {ps : List Pm} (hp : PmR W0 p1 p2 p3 ps) (hW : Below W0.heap.size W0 w) (hq : W0.heap.size ≤ q) (hn : p2 ≤ 16) (hpm : ∀ p ∈ ps, p.zs.length ≤ 2000) (hkb : kind < 256) (hf : flags < 256) (h4 : zs.length % 4 = 0) (hb : zs.length ≤ 800000) (hLb : psz (ps.map fun p => p.zs.length) ≤ 2000) :
    Calls Tryd.prog 32 #[.pointer (some ⟨q, 0, none⟩), .agg #[.int .u8 (kind : Nat), .int .u8 (flags : Nat), .int .u32 (tsn : Nat), .int .u16 (stream : Nat), .int .u16 (ssn : Nat), .int .u32 (ppid : Nat), .int .u32 (tag : Nat), .int .u32 (room : Nat), .int .u16 (outs : Nat), .int .u16 (ins : Nat), .slice b1 b2 b3, .slice d1 d2 d3, .slice p1 p2 p3, .slice x1 x2 x3]] w (WrP w q K (zs ++ chB kind flags (pmsV ps))) := by
  obtain ⟨W1, hW1⟩ : ∃ W1, W1 = w.alloc (.cells #[.int .u8 (kind : Nat), .int .u8 (flags : Nat), .int .u32 (tsn : Nat), .int .u16 (stream : Nat), .int .u16 (ssn : Nat), .int .u32 (ppid : Nat), .int .u32 (tag : Nat), .int .u32 (room : Nat), .int .u16 (outs : Nat), .int .u16 (ins : Nat), .slice b1 b2 b3, .slice d1 d2 d3, .slice p1 p2 p3, .slice x1 x2 x3] 29) := ⟨_, rfl⟩
  have bb1 : Below w.heap.size w W1 := by rw [hW1]; exact (Below.refl _ _).alloc (Nat.le_refl _) _
  have hst1 := Stc.new w [.int .u8 (kind : Nat), .int .u8 (flags : Nat), .int .u32 (tsn : Nat), .int .u16 (stream : Nat), .int .u16 (ssn : Nat), .int .u32 (ppid : Nat), .int .u32 (tag : Nat), .int .u32 (room : Nat), .int .u16 (outs : Nat), .int .u16 (ins : Nat), .slice b1 b2 b3, .slice d1 d2 d3, .slice p1 p2 p3, .slice x1 x2 x3] 29 W1 hW1
  have hrg := hst1.range
  have HV := (show Hid _ from valueOf_prms kind flags tsn stream ssn ppid tag room outs ins b1 b2 b3 d1 d2 d3 p1 p2 p3 x1 x2 x3 W1 hk)
  have HS := (show Hid _ from h.start bb1 hst1 (Nat.le_refl _))
  have hm1 : ∀ (v : Value) (w : World), (method 245 80 v "trunkline/chunk.size").run Tryd.prog w = .ok (100, v) w := fun _ _ => by kernel_rfl
  have hm2 : ∀ (v : Value) (w : World), (method 245 80 v "trunkline/chunk.lay").run Tryd.prog w = .ok (99, v) w := fun _ _ => by kernel_rfl
  have hlv : (pmsV ps).length = psz (ps.map fun p => p.zs.length) := by exact pmsV_len ps
  obtain ⟨LL, hLL⟩ : ∃ LL, LL = psz (ps.map fun p => p.zs.length) := ⟨_, rfl⟩
  have HLL := (show Hid _ from hLL)
  have hbL : LL ≤ 2000 := by rw [hLL]; exact hLb
  have HSZ : Hid (∀ W, Below W0.heap.size W0 W → Calls Tryd.prog 100 #[.slice p1 p2 p3] W fun e w' => e = .returned (.int .i64 (LL : Nat)) ∧ Below W.heap.size W w') := fun W hWB => by
    rw [hLL]
    exact size_prms p1 p2 p3 _ W ((hp.prs hpm).below hWB) hn
  clear hLL
  clear h hst1 bb1 hk
  go_enter Tryd.func32, Tryd.ntmps32
  go_wp2_with (first | (refine wpList_load_mid rfl 29 _ rfl w.heap.size 0 rfl [.int .u8 (kind : Nat), .int .u8 (flags : Nat), .int .u32 (tsn : Nat), .int .u16 (stream : Nat), .int .u16 (ssn : Nat), .int .u32 (ppid : Nat), .int .u32 (tag : Nat), .int .u32 (room : Nat), .int .u16 (outs : Nat), .int .u16 (ins : Nat), .slice b1 b2 b3, .slice d1 d2 d3, .slice p1 p2 p3, .slice x1 x2 x3] _ (by rw [← hW1]; exact hrg) Tryd.underlying29 rfl (ch_size14 _ rfl) ?_) | fail)
  rw [← hW1]
  clear hW1 hrg
  refine Calls.mono HV.out ?_
  clear HV
  rintro e w2 ⟨rfl, bv⟩
  have hS2 := HS.out.below bv
  have k0 := hS2.st.cell 0 _ rfl
  have hw0 : IntKind.u64.wrap (kind : Int) = kind := by rw [IntKind.wrap_u64]; omega
  have HN := (show Hid _ from wnum_any hS2.wr kind 1 (by decide) (by decide) (by simpa using hkb) (by omega) (by omega))
  have HS2 := (show Hid _ from hS2)
  clear HS hS2 bv
  go_wp2_with fail
  refine Calls.mono HN.out ?_
  clear HN k0 hw0
  rintro e w3 hP
  have he := hP.out
  subst he
  have hS3 := HS2.out.next hP
  rw [bytesB_one hkb] at hS3
  have k1 := hS3.st.cell 1 _ rfl
  have hw1 : IntKind.u64.wrap (flags : Int) = flags := by rw [IntKind.wrap_u64]; omega
  have hl3 : (zs ++ [kind]).length = zs.length + 1 := by simp
  have HN := (show Hid _ from wnum_any hS3.wr flags 1 (by decide) (by decide) (by simpa using hf) (by omega) (by omega))
  have HS3 := (show Hid _ from hS3)
  clear HS2 hS3 hP
  go_wp2_with fail
  refine Calls.mono HN.out ?_
  clear HN k1 hw1
  rintro e w4 hP
  have he := hP.out
  subst he
  have hS4 := HS3.out.next hP
  rw [bytesB_one hf] at hS4
  have HS4 := (show Hid _ from hS4)
  clear HS3 hS4 hP
  go_wp2_with fail
  refine Calls.mono (HSZ.out w4 (hW.trans (HS4.out.fr.below _ hW.size (fun k hk => by omega)))) ?_
  clear HSZ
  rintro e w5 ⟨rfl, b5⟩
  have hS5 := HS4.out.below b5
  have hl4 : ((zs ++ [kind]) ++ [flags]).length = zs.length + 2 := by simp
  have HN := (show Hid _ from whalf_any hS5.wr (4 + LL) (by omega) (by omega))
  rw [show ((4 + LL : Nat) : Int) = 4 + (LL : Int) from by omega] at HN
  have HS5 := (show Hid _ from hS5)
  have hw4 : IntKind.u16.wrap (4 + (LL : Int)) = 4 + (LL : Int) := by rw [IntKind.wrap_u16]; omega
  clear HS4 hS5 b5
  go_wp2_with fail
  refine Calls.mono HN.out ?_
  clear HN hw4
  rintro e w6 hP
  have he := hP.out
  subst he
  have hS6 := HS5.out.next hP
  have hl6 : (((zs ++ [kind]) ++ [flags]) ++ bytesB (4 + LL) 2).length = zs.length + 4 := by simp [bytesB_len]
  have HN := (show Hid _ from wlay_prms hS6.wr W0 hp (hW.trans (hS6.fr.below _ hW.size (fun k hk => by omega))) hq hn hpm (by omega) (by omega))
  have HS6 := (show Hid _ from hS6)
  clear HS5 hS6 hP
  go_wp2_with fail
  refine Calls.mono HN.out ?_
  clear HN
  rintro e w7 hP
  have he := hP.out
  subst he
  have hS7 := HS6.out.next hP
  have hl7 : ((((zs ++ [kind]) ++ [flags]) ++ bytesB (4 + LL) 2) ++ (pmsB ps)).length = zs.length + 4 + (LL + padN LL) := by rw [List.length_append, hl6, pms_split, List.length_append, hlv, List.length_replicate, HLL.out]
  have hpl3 : padN LL ≤ 3 := by unfold padN; omega
  have HN := (show Hid _ from wpad_any hS7.wr (by omega))
  have hp0 : padN ((((zs ++ [kind]) ++ [flags]) ++ bytesB (4 + LL) 2) ++ (pmsB ps)).length = 0 := by rw [hl7]; unfold padN; omega
  rw [hp0] at HN
  have HS7 := (show Hid _ from hS7)
  clear HS6 hS7 hP hpl3
  go_wp2_with fail
  refine Calls.mono HN.out ?_
  clear HN
  rintro e w8 hP
  have he := hP.out
  subst he
  have hS8 := HS7.out.next hP
  have e8 : ((((zs ++ [kind]) ++ [flags]) ++ bytesB (4 + LL) 2) ++ (pmsB ps)) ++ List.replicate (0) 0 = zs ++ chB kind flags (pmsV ps) := by
    unfold chB
    rw [hlv, ← HLL.out, pms_split ps, hlv, ← HLL.out]
    simp
  rw [e8] at hS8
  have HS8 : Hid (WrP w q K (zs ++ chB kind flags (pmsV ps)) (.returned (.tuple #[])) w8) := hS8.done rfl
  clear HS7 hS8 hP
  go_wp2
  go_end0
  exact HS8.out
set_option linter.unusedVariables false in
set_option maxRecDepth 100000 in
set_option maxHeartbeats 4000000 in
theorem wlay_init {w : World} {q : Nat} {K : Nat → Prop} {zs : List Nat} (h : WrW w q K zs) (tag room outs ins tsn : Nat) {p1 : Option Addr} {p2 p3 : Nat} (W0 : World) {ps : List Pm} (hp : PmR W0 p1 p2 p3 ps) (hW : Below W0.heap.size W0 w) (hq : W0.heap.size ≤ q) (hn : p2 ≤ 16) (hpm : ∀ p ∈ ps, p.zs.length ≤ 2000) (hg : tag < 4294967296) (hr : room < 4294967296) (ho : outs < 65536) (hi : ins < 65536) (ht : tsn < 4294967296) (h4 : zs.length % 4 = 0) (hb : zs.length ≤ 900000) :
    Calls Tryd.prog 101 #[.agg #[.int .u32 (tag : Nat), .int .u32 (room : Nat), .int .u16 (outs : Nat), .int .u16 (ins : Nat), .int .u32 (tsn : Nat), .slice p1 p2 p3], .pointer (some ⟨q, 0, none⟩)] w (WrP w q K (zs ++ (bytesB tag 4 ++ bytesB room 4 ++ bytesB outs 2 ++ bytesB ins 2 ++ bytesB tsn 4 ++ pmsB ps))) := by
  obtain ⟨W1, hW1⟩ : ∃ W1, W1 = w.alloc (.cells #[.int .u32 (tag : Nat), .int .u32 (room : Nat), .int .u16 (outs : Nat), .int .u16 (ins : Nat), .int .u32 (tsn : Nat), .slice p1 p2 p3] 82) := ⟨_, rfl⟩
  have bb1 : Below w.heap.size w W1 := by rw [hW1]; exact (Below.refl _ _).alloc (Nat.le_refl _) _
  have hst1 := Stc.new w [.int .u32 (tag : Nat), .int .u32 (room : Nat), .int .u16 (outs : Nat), .int .u16 (ins : Nat), .int .u32 (tsn : Nat), .slice p1 p2 p3] 82 W1 hW1
  have HS := (show Hid _ from h.start bb1 hst1 (Nat.le_refl _))
  have hlt := h.lt
  clear h hst1 bb1
  have HN := (show Hid _ from wword_any HS.out.wr tag (by omega) (by omega))
  go_enter Tryd.func101, Tryd.ntmps101
  go_wp2_with fail
  rw [← hW1]
  clear hW1
  refine Calls.mono HN.out ?_
  clear HN
  rintro e v0 hP
  have he := hP.out
  subst he
  have HS1 := (show Hid _ from HS.out.next hP)
  clear hP HS
  have k1 := HS1.out.st.cell 1 _ rfl
  have HN := (show Hid _ from wword_any HS1.out.wr room (by omega) (by simp [bytesB_len]; omega))
  go_wp2_with fail
  refine Calls.mono HN.out ?_
  clear HN k1
  rintro e v1 hP
  have he := hP.out
  subst he
  have HS2 := (show Hid _ from HS1.out.next hP)
  clear hP HS1
  have k2 := HS2.out.st.cell 2 _ rfl
  have HN := (show Hid _ from whalf_any HS2.out.wr outs (by omega) (by simp [bytesB_len]; omega))
  go_wp2_with fail
  refine Calls.mono HN.out ?_
  clear HN k2
  rintro e v2 hP
  have he := hP.out
  subst he
  have HS3 := (show Hid _ from HS2.out.next hP)
  clear hP HS2
  have k3 := HS3.out.st.cell 3 _ rfl
  have HN := (show Hid _ from whalf_any HS3.out.wr ins (by omega) (by simp [bytesB_len]; omega))
  go_wp2_with fail
  refine Calls.mono HN.out ?_
  clear HN k3
  rintro e v3 hP
  have he := hP.out
  subst he
  have HS4 := (show Hid _ from HS3.out.next hP)
  clear hP HS3
  have k4 := HS4.out.st.cell 4 _ rfl
  have HN := (show Hid _ from wword_any HS4.out.wr tsn (by omega) (by simp [bytesB_len]; omega))
  go_wp2_with fail
  refine Calls.mono HN.out ?_
  clear HN k4
  rintro e v4 hP
  have he := hP.out
  subst he
  have HS5 := (show Hid _ from HS4.out.next hP)
  clear hP HS4
  have k5 := HS5.out.st.cell 5 _ rfl
  have HN := (show Hid _ from wlay_prms HS5.out.wr W0 hp (hW.trans (HS5.out.fr.below _ hW.size (fun k hk => by omega))) hq hn hpm (by simp [bytesB_len]; omega) (by simp [bytesB_len]; omega))
  go_wp2_with fail
  refine Calls.mono HN.out ?_
  clear HN k5
  rintro e v5 hP
  have he := hP.out
  subst he
  have HS6 := (show Hid _ from HS5.out.next hP)
  clear hP HS5
  have HF : Hid (WrP w q K (zs ++ (bytesB tag 4 ++ bytesB room 4 ++ bytesB outs 2 ++ bytesB ins 2 ++ bytesB tsn 4 ++ pmsB ps)) (.returned (.tuple #[])) v5) := by
    have := HS6.out.done (e := .returned (.tuple #[])) rfl
    rw [show zs ++ (bytesB tag 4 ++ bytesB room 4 ++ bytesB outs 2 ++ bytesB ins 2 ++ bytesB tsn 4 ++ pmsB ps) = ((((((zs ++ bytesB tag 4) ++ bytesB room 4) ++ bytesB outs 2) ++ bytesB ins 2) ++ bytesB tsn 4) ++ pmsB ps) from by simp only [List.append_assoc]]
    exact this
  clear HS6
  go_wp2
  go_end0
  exact HF.out
set_option linter.unusedVariables false in
set_option maxRecDepth 100000 in
set_option maxHeartbeats 4000000 in
theorem wchunk_init {w : World} {q : Nat} {K : Nat → Prop} {zs : List Nat} (h : WrW w q K zs) (kind flags tsn stream ssn ppid tag room outs ins : Nat) (b1 : Option Addr) (b2 b3 : Nat) (d1 : Option Addr) (d2 d3 : Nat) (p1 : Option Addr) (p2 p3 : Nat) (x1 : Option Addr) (x2 x3 : Nat) (hk : kind = 1 ∨ kind = 2) (W0 : World) {ps : List Pm} (hp : PmR W0 p1 p2 p3 ps) (hW : Below W0.heap.size W0 w) (hq : W0.heap.size ≤ q) (hn : p2 ≤ 16) (hpm : ∀ p ∈ ps, p.zs.length ≤ 2000) (hg : tag < 4294967296) (hr : room < 4294967296) (ho : outs < 65536) (hi : ins < 65536) (ht : tsn < 4294967296) (hkb : kind < 256) (hf : flags < 256) (h4 : zs.length % 4 = 0) (hb : zs.length ≤ 800000) (hLb : 16 + psz (ps.map fun p => p.zs.length) ≤ 2000) :
    Calls Tryd.prog 32 #[.pointer (some ⟨q, 0, none⟩), .agg #[.int .u8 (kind : Nat), .int .u8 (flags : Nat), .int .u32 (tsn : Nat), .int .u16 (stream : Nat), .int .u16 (ssn : Nat), .int .u32 (ppid : Nat), .int .u32 (tag : Nat), .int .u32 (room : Nat), .int .u16 (outs : Nat), .int .u16 (ins : Nat), .slice b1 b2 b3, .slice d1 d2 d3, .slice p1 p2 p3, .slice x1 x2 x3]] w (WrP w q K (zs ++ chB kind flags (bytesB tag 4 ++ bytesB room 4 ++ bytesB outs 2 ++ bytesB ins 2 ++ bytesB tsn 4 ++ pmsV ps))) := by
  obtain ⟨W1, hW1⟩ : ∃ W1, W1 = w.alloc (.cells #[.int .u8 (kind : Nat), .int .u8 (flags : Nat), .int .u32 (tsn : Nat), .int .u16 (stream : Nat), .int .u16 (ssn : Nat), .int .u32 (ppid : Nat), .int .u32 (tag : Nat), .int .u32 (room : Nat), .int .u16 (outs : Nat), .int .u16 (ins : Nat), .slice b1 b2 b3, .slice d1 d2 d3, .slice p1 p2 p3, .slice x1 x2 x3] 29) := ⟨_, rfl⟩
  have bb1 : Below w.heap.size w W1 := by rw [hW1]; exact (Below.refl _ _).alloc (Nat.le_refl _) _
  have hst1 := Stc.new w [.int .u8 (kind : Nat), .int .u8 (flags : Nat), .int .u32 (tsn : Nat), .int .u16 (stream : Nat), .int .u16 (ssn : Nat), .int .u32 (ppid : Nat), .int .u32 (tag : Nat), .int .u32 (room : Nat), .int .u16 (outs : Nat), .int .u16 (ins : Nat), .slice b1 b2 b3, .slice d1 d2 d3, .slice p1 p2 p3, .slice x1 x2 x3] 29 W1 hW1
  have hrg := hst1.range
  have HV := (show Hid _ from valueOf_init kind flags tsn stream ssn ppid tag room outs ins b1 b2 b3 d1 d2 d3 p1 p2 p3 x1 x2 x3 W1 hk)
  have HS := (show Hid _ from h.start bb1 hst1 (Nat.le_refl _))
  have hm1 : ∀ (v : Value) (w : World), (method 245 82 v "trunkline/chunk.size").run Tryd.prog w = .ok (102, v) w := fun _ _ => by kernel_rfl
  have hm2 : ∀ (v : Value) (w : World), (method 245 82 v "trunkline/chunk.lay").run Tryd.prog w = .ok (101, v) w := fun _ _ => by kernel_rfl
  have hlv : (bytesB tag 4 ++ bytesB room 4 ++ bytesB outs 2 ++ bytesB ins 2 ++ bytesB tsn 4 ++ pmsV ps).length = 16 + psz (ps.map fun p => p.zs.length) := by simp [bytesB_len, pmsV_len]; omega
  obtain ⟨LL, hLL⟩ : ∃ LL, LL = 16 + psz (ps.map fun p => p.zs.length) := ⟨_, rfl⟩
  have HLL := (show Hid _ from hLL)
  have hbL : LL ≤ 2000 := by rw [hLL]; exact hLb
  have HSZ : Hid (∀ W, Below W0.heap.size W0 W → Calls Tryd.prog 102 #[.agg #[.int .u32 (tag : Nat), .int .u32 (room : Nat), .int .u16 (outs : Nat), .int .u16 (ins : Nat), .int .u32 (tsn : Nat), .slice p1 p2 p3]] W fun e w' => e = .returned (.int .i64 (LL : Nat)) ∧ Below W.heap.size W w') := fun W hWB => by
    rw [hLL]
    exact size_init _ _ _ _ _ p1 p2 p3 _ W ((hp.prs hpm).below hWB) hn
  clear hLL
  clear h hst1 bb1 hk
  go_enter Tryd.func32, Tryd.ntmps32
  go_wp2_with (first | (refine wpList_load_mid rfl 29 _ rfl w.heap.size 0 rfl [.int .u8 (kind : Nat), .int .u8 (flags : Nat), .int .u32 (tsn : Nat), .int .u16 (stream : Nat), .int .u16 (ssn : Nat), .int .u32 (ppid : Nat), .int .u32 (tag : Nat), .int .u32 (room : Nat), .int .u16 (outs : Nat), .int .u16 (ins : Nat), .slice b1 b2 b3, .slice d1 d2 d3, .slice p1 p2 p3, .slice x1 x2 x3] _ (by rw [← hW1]; exact hrg) Tryd.underlying29 rfl (ch_size14 _ rfl) ?_) | fail)
  rw [← hW1]
  clear hW1 hrg
  refine Calls.mono HV.out ?_
  clear HV
  rintro e w2 ⟨rfl, bv⟩
  have hS2 := HS.out.below bv
  have k0 := hS2.st.cell 0 _ rfl
  have hw0 : IntKind.u64.wrap (kind : Int) = kind := by rw [IntKind.wrap_u64]; omega
  have HN := (show Hid _ from wnum_any hS2.wr kind 1 (by decide) (by decide) (by simpa using hkb) (by omega) (by omega))
  have HS2 := (show Hid _ from hS2)
  clear HS hS2 bv
  go_wp2_with fail
  refine Calls.mono HN.out ?_
  clear HN k0 hw0
  rintro e w3 hP
  have he := hP.out
  subst he
  have hS3 := HS2.out.next hP
  rw [bytesB_one hkb] at hS3
  have k1 := hS3.st.cell 1 _ rfl
  have hw1 : IntKind.u64.wrap (flags : Int) = flags := by rw [IntKind.wrap_u64]; omega
  have hl3 : (zs ++ [kind]).length = zs.length + 1 := by simp
  have HN := (show Hid _ from wnum_any hS3.wr flags 1 (by decide) (by decide) (by simpa using hf) (by omega) (by omega))
  have HS3 := (show Hid _ from hS3)
  clear HS2 hS3 hP
  go_wp2_with fail
  refine Calls.mono HN.out ?_
  clear HN k1 hw1
  rintro e w4 hP
  have he := hP.out
  subst he
  have hS4 := HS3.out.next hP
  rw [bytesB_one hf] at hS4
  have HS4 := (show Hid _ from hS4)
  clear HS3 hS4 hP
  go_wp2_with fail
  refine Calls.mono (HSZ.out w4 (hW.trans (HS4.out.fr.below _ hW.size (fun k hk => by omega)))) ?_
  clear HSZ
  rintro e w5 ⟨rfl, b5⟩
  have hS5 := HS4.out.below b5
  have hl4 : ((zs ++ [kind]) ++ [flags]).length = zs.length + 2 := by simp
  have HN := (show Hid _ from whalf_any hS5.wr (4 + LL) (by omega) (by omega))
  rw [show ((4 + LL : Nat) : Int) = 4 + (LL : Int) from by omega] at HN
  have HS5 := (show Hid _ from hS5)
  have hw4 : IntKind.u16.wrap (4 + (LL : Int)) = 4 + (LL : Int) := by rw [IntKind.wrap_u16]; omega
  clear HS4 hS5 b5
  go_wp2_with fail
  refine Calls.mono HN.out ?_
  clear HN hw4
  rintro e w6 hP
  have he := hP.out
  subst he
  have hS6 := HS5.out.next hP
  have hl6 : (((zs ++ [kind]) ++ [flags]) ++ bytesB (4 + LL) 2).length = zs.length + 4 := by simp [bytesB_len]
  have HN := (show Hid _ from wlay_init hS6.wr tag room outs ins tsn W0 hp (hW.trans (hS6.fr.below _ hW.size (fun k hk => by omega))) hq hn hpm hg hr ho hi ht (by omega) (by omega))
  have HS6 := (show Hid _ from hS6)
  clear HS5 hS6 hP
  go_wp2_with fail
  refine Calls.mono HN.out ?_
  clear HN
  rintro e w7 hP
  have he := hP.out
  subst he
  have hS7 := HS6.out.next hP
  have hl7 : ((((zs ++ [kind]) ++ [flags]) ++ bytesB (4 + LL) 2) ++ (bytesB tag 4 ++ bytesB room 4 ++ bytesB outs 2 ++ bytesB ins 2 ++ bytesB tsn 4 ++ pmsB ps)).length = zs.length + 4 + (LL + padN LL) := by (rw [List.length_append, hl6, HLL.out, pms_split]; have hv := pmsV_len ps; simp only [List.length_append, bytesB_len, List.length_replicate]; rw [hv]; unfold padN; omega)
  have hpl3 : padN LL ≤ 3 := by unfold padN; omega
  have HN := (show Hid _ from wpad_any hS7.wr (by omega))
  have hp0 : padN ((((zs ++ [kind]) ++ [flags]) ++ bytesB (4 + LL) 2) ++ (bytesB tag 4 ++ bytesB room 4 ++ bytesB outs 2 ++ bytesB ins 2 ++ bytesB tsn 4 ++ pmsB ps)).length = 0 := by rw [hl7]; unfold padN; omega
  rw [hp0] at HN
  have HS7 := (show Hid _ from hS7)
  clear HS6 hS7 hP hpl3
  go_wp2_with fail
  refine Calls.mono HN.out ?_
  clear HN
  rintro e w8 hP
  have he := hP.out
  subst he
  have hS8 := HS7.out.next hP
  have e8 : ((((zs ++ [kind]) ++ [flags]) ++ bytesB (4 + LL) 2) ++ (bytesB tag 4 ++ bytesB room 4 ++ bytesB outs 2 ++ bytesB ins 2 ++ bytesB tsn 4 ++ pmsB ps)) ++ List.replicate (0) 0 = zs ++ chB kind flags (bytesB tag 4 ++ bytesB room 4 ++ bytesB outs 2 ++ bytesB ins 2 ++ bytesB tsn 4 ++ pmsV ps) := by
    unfold chB
    rw [hlv, ← HLL.out, pms_split ps]
    have hv := pmsV_len ps
    have hpp : padN (pmsV ps).length = padN LL := by rw [hv, HLL.out]; unfold padN; omega
    rw [hpp]
    simp
  rw [e8] at hS8
  have HS8 : Hid (WrP w q K (zs ++ chB kind flags (bytesB tag 4 ++ bytesB room 4 ++ bytesB outs 2 ++ bytesB ins 2 ++ bytesB tsn 4 ++ pmsV ps)) (.returned (.tuple #[])) w8) := hS8.done rfl
  clear HS7 hS8 hP
  go_wp2
  go_end0
  exact HS8.out
end Go.Proofs.YtifdfkkjmjabnaaDoor
