/- chunk's writer: a chunk that has nothing. -/
import Derived.Test.YtlgfbcfogcmdbaaDoorWr1
import Derived.Test.YtlgfbcfogcmdbaaDoorCh1
import Derived.Test.YtlgfbcfogcmdbaaDoorCh7
import Derived.Deep.MidRow
namespace Go.Proofs.YtlgfbcfogcmdbaaDoor
open Go.RowKit
theorem wlay_none (q : Nat) (w : World) : Calls Tryd.prog 94 #[.agg #[], .pointer (some ⟨q, 0, none⟩)] w fun e w' => e = .returned (.tuple #[]) ∧ Below w.heap.size w w' := by
  go_enter Tryd.func94, Tryd.ntmps94
  go_wp2
  go_end0
  exact ⟨rfl, by first | exact Below.refl _ _ | exact (Below.refl _ _).alloc (Nat.le_refl _) _⟩
theorem ch_size14 (cs : List Value) (h : cs.length = 14) : (Tryd.prog.info? 32).map (·.size) = some cs.length := by
  rw [h]
  kernel_rfl
theorem bytesB_one {v : Nat} (h : v < 256) : bytesB v 1 = [v] := by
  simp [bytesB, Nat.mod_eq_of_lt h]
theorem bytesB_four : bytesB 4 2 = [0, 4] := by decide
/-- A writer under way, with a block x aboard. -/
structure WcS (w : World) (q : Nat) (K : Nat → Prop) (x : Nat) (cs : List Value) (zs : List Nat) (w' : World) : Prop where
  wr : WrW w' q (fun g => K g ∨ g = x) zs
  st : Stc w' x cs
  fr : Fr (fun k => q ≤ k ∧ ¬ K k) w w'
section
variable {w w1 w2 : World} {q x : Nat} {K : Nat → Prop} {cs : List Value} {zs zs' : List Nat} {e : Ending}
theorem WcS.next (h : WcS w q K x cs zs w1) (hp : WrP w1 q (fun g => K g ∨ g = x) zs' e w2) : WcS w q K x cs zs' w2 :=
  ⟨hp.wr, h.st.fr hp.fr (fun e => e.2 (.inr rfl)), h.fr.trans (hp.fr.mono (fun _ _ hk => ⟨hk.1, fun e => hk.2 (.inl e)⟩))⟩
theorem WcS.below (h : WcS w q K x cs zs w1) (hb : Below w1.heap.size w1 w2) : WcS w q K x cs zs w2 :=
  ⟨h.wr.below hb, h.st.below hb, h.fr.trans (Fr.of_below hb)⟩
theorem WcS.done (h : WcS w q K x cs zs w1) (he : e = .returned (.tuple #[])) : WrP w q K zs e w1 := ⟨he, h.wr.sub (fun _ hg => .inl hg), h.fr⟩
theorem WrW.start (h : WrW w q K zs) (hb : Below w.heap.size w w1) (hst : Stc w1 x cs) (hx : w.heap.size ≤ x) : WcS w q K x cs zs w1 := ⟨h.add hb x hx hst.lt, hst, Fr.of_below hb⟩
end
set_option linter.unusedVariables false in
set_option maxRecDepth 100000 in
set_option maxHeartbeats 4000000 in
theorem wchunk_none {w : World} {q : Nat} {K : Nat → Prop} {zs : List Nat} (h : WrW w q K zs) (kind flags tsn stream ssn ppid tag room outs ins : Nat) (b1 : Option Addr) (b2 b3 : Nat) (d1 : Option Addr) (d2 d3 : Nat) (p1 : Option Addr) (p2 p3 : Nat) (x1 : Option Addr) (x2 x3 : Nat) (hk : kind = 8 ∨ kind = 11 ∨ kind = 14) (hf : flags < 256) (h4 : zs.length % 4 = 0) (hb : zs.length ≤ 1000000) :
    Calls Tryd.prog 13 #[.pointer (some ⟨q, 0, none⟩), .agg #[.int .u8 (kind : Nat), .int .u8 (flags : Nat), .int .u32 (tsn : Nat), .int .u16 (stream : Nat), .int .u16 (ssn : Nat), .int .u32 (ppid : Nat), .int .u32 (tag : Nat), .int .u32 (room : Nat), .int .u16 (outs : Nat), .int .u16 (ins : Nat), .slice b1 b2 b3, .slice d1 d2 d3, .slice p1 p2 p3, .slice x1 x2 x3]] w (WrP w q K (zs ++ [kind, flags, 0, 4])) := by
  have hk256 : kind < 256 := by omega
  obtain ⟨W1, hW1⟩ : ∃ W1, W1 = w.alloc (.cells #[.int .u8 (kind : Nat), .int .u8 (flags : Nat), .int .u32 (tsn : Nat), .int .u16 (stream : Nat), .int .u16 (ssn : Nat), .int .u32 (ppid : Nat), .int .u32 (tag : Nat), .int .u32 (room : Nat), .int .u16 (outs : Nat), .int .u16 (ins : Nat), .slice b1 b2 b3, .slice d1 d2 d3, .slice p1 p2 p3, .slice x1 x2 x3] 32) := ⟨_, rfl⟩
  have bb1 : Below w.heap.size w W1 := by rw [hW1]; exact (Below.refl _ _).alloc (Nat.le_refl _) _
  have hst1 := Stc.new w [.int .u8 (kind : Nat), .int .u8 (flags : Nat), .int .u32 (tsn : Nat), .int .u16 (stream : Nat), .int .u16 (ssn : Nat), .int .u32 (ppid : Nat), .int .u32 (tag : Nat), .int .u32 (room : Nat), .int .u16 (outs : Nat), .int .u16 (ins : Nat), .slice b1 b2 b3, .slice d1 d2 d3, .slice p1 p2 p3, .slice x1 x2 x3] 32 W1 hW1
  have hrg := hst1.range
  have HV := (show Hid _ from valueOf_none kind flags tsn stream ssn ppid tag room outs ins b1 b2 b3 d1 d2 d3 p1 p2 p3 x1 x2 x3 W1 hk)
  have HS := (show Hid _ from h.start bb1 hst1 (Nat.le_refl _))
  have hm1 : ∀ (v : Value) (w : World), (method 237 100 v "trunkline/chunk.size").run Tryd.prog w = .ok (95, v) w := fun _ _ => by kernel_rfl
  have hm2 : ∀ (v : Value) (w : World), (method 237 100 v "trunkline/chunk.lay").run Tryd.prog w = .ok (94, v) w := fun _ _ => by kernel_rfl
  clear h hst1 bb1
  go_enter Tryd.func13, Tryd.ntmps13
  go_wp2_with (first | (refine wpList_load_mid rfl 32 _ rfl w.heap.size 0 rfl [.int .u8 (kind : Nat), .int .u8 (flags : Nat), .int .u32 (tsn : Nat), .int .u16 (stream : Nat), .int .u16 (ssn : Nat), .int .u32 (ppid : Nat), .int .u32 (tag : Nat), .int .u32 (room : Nat), .int .u16 (outs : Nat), .int .u16 (ins : Nat), .slice b1 b2 b3, .slice d1 d2 d3, .slice p1 p2 p3, .slice x1 x2 x3] _ (by rw [← hW1]; exact hrg) Tryd.underlying32 rfl (ch_size14 _ rfl) ?_) | fail)
  rw [← hW1]
  clear hW1 hrg
  refine Calls.mono HV.out ?_
  clear HV
  rintro e w2 ⟨rfl, bv⟩
  have hS2 := HS.out.below bv
  have k0 := hS2.st.cell 0 _ rfl
  have hw0 : IntKind.u64.wrap (kind : Int) = kind := by rw [IntKind.wrap_u64]; omega
  have HN := (show Hid _ from wnum_any hS2.wr kind 1 (by decide) (by decide) (by simpa using hk256) (by omega) (by omega))
  have HS2 := (show Hid _ from hS2)
  clear HS hS2 bv
  go_wp2_with fail
  refine Calls.mono HN.out ?_
  clear HN k0 hw0
  rintro e w3 hP
  have he := hP.out
  subst he
  have hS3 := HS2.out.next hP
  rw [bytesB_one hk256] at hS3
  have k1 := hS3.st.cell 1 _ rfl
  have hw1 : IntKind.u64.wrap (flags : Int) = flags := by rw [IntKind.wrap_u64]; omega
  have hl3 : (zs ++ [kind]).length = zs.length + 1 := by simp
  have HN := (show Hid _ from wnum_any hS3.wr flags 1 (by decide) (by decide) (by simpa using hf) (by omega) (by omega))
  have HS3 := (show Hid _ from hS3)
  clear HS2 hS3 hP
  go_wp2_with fail
  refine Calls.mono HN.out ?_
  clear HN k1 hw1
  rintro e w4 hP
  have he := hP.out
  subst he
  have hS4 := HS3.out.next hP
  rw [bytesB_one hf] at hS4
  have HS4 := (show Hid _ from hS4)
  clear HS3 hS4 hP
  go_wp2_with fail
  refine Calls.mono (size_none w4) ?_
  rintro e w5 ⟨rfl, b5⟩
  have hS5 := HS4.out.below b5
  have hl4 : ((zs ++ [kind]) ++ [flags]).length = zs.length + 2 := by simp
  have HN := (show Hid _ from whalf_any hS5.wr 4 (by decide) (by omega))
  have HS5 := (show Hid _ from hS5)
  have hw4 : IntKind.u16.wrap (4 : Int) = 4 := by rw [IntKind.wrap_u16]; rfl
  clear HS4 hS5 b5
  go_wp2_with fail
  refine Calls.mono HN.out ?_
  clear HN
  rintro e w6 hP
  have he := hP.out
  subst he
  have hS6 := HS5.out.next hP
  rw [bytesB_four] at hS6
  have HS6 := (show Hid _ from hS6)
  clear HS5 hS6 hP
  go_wp2_with fail
  refine Calls.mono (wlay_none q w6) ?_
  rintro e w7 ⟨rfl, b7⟩
  have hS7 := HS6.out.below b7
  have hl7 : (((zs ++ [kind]) ++ [flags]) ++ [0, 4]).length = zs.length + 4 := by simp
  have HN := (show Hid _ from wpad_any hS7.wr (by omega))
  have hp0 : padN (((zs ++ [kind]) ++ [flags]) ++ [0, 4]).length = 0 := by rw [hl7]; unfold padN; omega
  rw [hp0] at HN
  have HS7 := (show Hid _ from hS7)
  clear HS6 hS7 b7
  go_wp2_with fail
  refine Calls.mono HN.out ?_
  clear HN
  rintro e w8 hP
  have he := hP.out
  subst he
  have hS8 := HS7.out.next hP
  have e8 : (((zs ++ [kind]) ++ [flags]) ++ [0, 4]) ++ List.replicate 0 0 = zs ++ [kind, flags, 0, 4] := by simp
  rw [e8] at hS8
  have HS8 : Hid (WrP w q K (zs ++ [kind, flags, 0, 4]) (.returned (.tuple #[])) w8) := hS8.done rfl
  clear HS7 hS8 hP
  go_wp2
  go_end0
  exact HS8.out
end Go.Proofs.YtlgfbcfogcmdbaaDoor
