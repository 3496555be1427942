/- chunk's reader: takeValue for Data, Shutdown, unknown kinds. -/
import Derived.Test.YtifdfkkjmjabnaaDoorRd7
namespace Go.Proofs.YtifdfkkjmjabnaaDoor
open Go.RowKit
set_option linter.unusedVariables false in
set_option maxRecDepth 100000 in
set_option maxHeartbeats 4000000 in
theorem rvalue_data {W0 w : World} {q : Nat} {zs : List Nat} {sh : Int} (h : RdW W0 w q zs sh) (kind : Nat) (hk : kind = 0) (h12 : 12 ≤ zs.length) (hb : zs.length ≤ 140737488351232) :
    Calls Tryd.prog 75 #[.pointer (some ⟨q, 0, none⟩), .int .u8 (kind : Nat)] w (RdD W0 w q (numB (zs.take 4)) (numB ((zs.drop 4).take 2)) (numB ((zs.drop 6).take 2)) (numB ((zs.drop 8).take 4)) (zs.drop 12) sh) := by
  have HV : Hid (Calls Tryd.prog 20 #[.agg #[.int .u8 (kind : Nat), .int .u8 0, .int .u32 0, .int .u16 0, .int .u16 0, .int .u32 0, .int .u32 0, .int .u32 0, .int .u16 0, .int .u16 0, .slice none 0 0, .slice none 0 0, .slice none 0 0, .slice none 0 0]] w fun e w' => e = .returned (.iface 79 (.agg #[.int .u32 0, .int .u16 0, .int .u16 0, .int .u32 0, .slice none 0 0])) ∧ Below w.heap.size w w') := valueOf_data kind 0 0 0 0 0 0 0 0 0 none 0 0 none 0 0 none 0 0 none 0 0 w hk
  have t0 := fun (v : Value) (w : World) => ta_yes_st 79 _ v Tryd.underlying79 w
  have HR := (show Hid _ from h)
  clear h hk
  go_enter Tryd.func75, Tryd.ntmps75
  go_wp2_with fail
  refine Calls.mono HV.out ?_
  clear HV
  rintro e w1 ⟨rfl, b1⟩
  obtain ⟨Wx, hWx⟩ : ∃ Wx, Wx = w1.alloc (.cells #[.int .u32 0, .int .u16 0, .int .u16 0, .int .u32 0, .slice none 0 0] 79) := ⟨_, rfl⟩
  have bx : Below w1.heap.size w1 Wx := by rw [hWx]; exact (Below.refl _ _).alloc (Nat.le_refl _) _
  have b1x : Below w.heap.size w Wx := b1.trans (bx.mono b1.size)
  have HD := (show Hid _ from rdata_any (HR.out.below b1x) h12 hb)
  have HB := (show Hid _ from b1x)
  clear b1 bx b1x
  go_wp2_with fail
  rw [← hWx]
  clear hWx
  refine Calls.mono HD.out ?_
  clear HD
  rintro e w2 hP
  obtain ⟨xa, xc, rfl, ho⟩ := hP.ex
  have HF : Hid (RdD W0 w q (numB (zs.take 4)) (numB ((zs.drop 4).take 2)) (numB ((zs.drop 6).take 2)) (numB ((zs.drop 8).take 4)) (zs.drop 12) sh _ w2) := ⟨⟨xa, xc, rfl, ho.base HB.out.size⟩, hP.rd, (Fr.of_below HB.out).trans hP.fr⟩
  clear ho hP
  generalize numB (zs.take 4) = m1 at *
  generalize numB ((zs.drop 4).take 2) = m2 at *
  generalize numB ((zs.drop 6).take 2) = m3 at *
  generalize numB ((zs.drop 8).take 4) = m4 at *
  generalize (zs.drop 12).length = xl at *
  go_wp2
  go_ret
  exact HF.out
set_option linter.unusedVariables false in
set_option maxRecDepth 100000 in
set_option maxHeartbeats 4000000 in
theorem rvalue_tsnv {W0 w : World} {q : Nat} {zs : List Nat} {sh : Int} (h : RdW W0 w q zs sh) (kind : Nat) (hk : kind = 7) (h4 : zs.length = 4) :
    Calls Tryd.prog 75 #[.pointer (some ⟨q, 0, none⟩), .int .u8 (kind : Nat)] w (RdP W0 w q (.iface 85 (.int .u32 (numB (zs.take 4) : Nat))) [] sh) := by
  have HV : Hid (Calls Tryd.prog 20 #[.agg #[.int .u8 (kind : Nat), .int .u8 0, .int .u32 0, .int .u16 0, .int .u16 0, .int .u32 0, .int .u32 0, .int .u32 0, .int .u16 0, .int .u16 0, .slice none 0 0, .slice none 0 0, .slice none 0 0, .slice none 0 0]] w fun e w' => e = .returned (.iface 85 (.int .u32 0)) ∧ Below w.heap.size w w') := valueOf_tsnv kind 0 0 0 0 0 0 0 0 0 none 0 0 none 0 0 none 0 0 none 0 0 w hk
  have t0 := fun (v : Value) (w : World) => ta_no_st 85 79 _ (.agg #[.int .u32 0, .int .u16 0, .int .u16 0, .int .u32 0, .slice none 0 0]) v Tryd.underlying79 (by kernel_rfl) (by decide) w
  have t1 := fun (v : Value) (w : World) => ta_no_st 85 82 _ (.agg #[.int .u32 0, .int .u32 0, .int .u16 0, .int .u16 0, .int .u32 0, .slice none 0 0]) v Tryd.underlying82 (by kernel_rfl) (by decide) w
  have t2 := fun (v : Value) (w : World) => ta_no_st 85 84 _ (.agg #[.int .u32 0, .int .u32 0, .slice none 0 0, .slice none 0 0]) v Tryd.underlying84 (by kernel_rfl) (by decide) w
  have t3 := fun (v : Value) (w : World) => ta_no_sl 85 80 _ (.slice none 0 0) v Tryd.underlying80 (by kernel_rfl) (by decide) w
  have t4 := fun (v : Value) (w : World) => ta_yes_in 85 _ v Tryd.underlying85 w
  have HR := (show Hid _ from h)
  clear h hk
  go_enter Tryd.func75, Tryd.ntmps75
  go_wp2_with fail
  refine Calls.mono HV.out ?_
  clear HV
  rintro e w1 ⟨rfl, b1⟩
  have HD := (show Hid _ from rword_any (HR.out.below b1) (by omega))
  have HB := (show Hid _ from b1)
  clear b1
  go_wp2_with fail
  refine Calls.mono HD.out ?_
  clear HD
  rintro e w2 hP
  have he := hP.out
  subst he
  have hrd := hP.rd
  rw [List.drop_of_length_le (by omega)] at hrd
  have HF : Hid (RdP W0 w q (.iface 85 (.int .u32 (numB (zs.take 4) : Nat))) [] sh (.returned (.iface 85 (.int .u32 (numB (zs.take 4) : Nat)))) w2) := ⟨rfl, hrd, (Fr.of_below HB.out).trans hP.fr⟩
  clear hrd hP
  generalize numB (zs.take 4) = m1 at *
  go_wp2
  go_ret
  exact HF.out
structure RdR (W0 w : World) (q : Nat) (T : TypeId) (xs : List Nat) (sh : Int) (e : Ending) (w' : World) : Prop where
  ex : ∃ xa xc, e = .returned (.iface T (.slice xa xs.length xc)) ∧ OwnB w' w.heap.size xa xs.length xc xs
  rd : RdW W0 w' q [] sh
  fr : Fr (fun k => k = q) w w'
set_option linter.unusedVariables false in
set_option maxRecDepth 100000 in
set_option maxHeartbeats 4000000 in
theorem rvalue_raw {W0 w : World} {q : Nat} {zs : List Nat} {sh : Int} (h : RdW W0 w q zs sh) (kind : Nat) (hk : ¬ kind = 0 ∧ ¬ kind = 1 ∧ ¬ kind = 2 ∧ ¬ kind = 3 ∧ ¬ kind = 4 ∧ ¬ kind = 5 ∧ ¬ kind = 6 ∧ ¬ kind = 7 ∧ ¬ kind = 8 ∧ ¬ kind = 9 ∧ ¬ kind = 11 ∧ ¬ kind = 14) (hb : zs.length ≤ 140737488351232) :
    Calls Tryd.prog 75 #[.pointer (some ⟨q, 0, none⟩), .int .u8 (kind : Nat)] w (RdR W0 w q 88 zs sh) := by
  have HV : Hid (Calls Tryd.prog 20 #[.agg #[.int .u8 (kind : Nat), .int .u8 0, .int .u32 0, .int .u16 0, .int .u16 0, .int .u32 0, .int .u32 0, .int .u32 0, .int .u16 0, .int .u16 0, .slice none 0 0, .slice none 0 0, .slice none 0 0, .slice none 0 0]] w fun e w' => e = .returned (.iface 88 (.slice none 0 0)) ∧ Below w.heap.size w w') := valueOf_raw kind 0 0 0 0 0 0 0 0 0 none 0 0 none 0 0 none 0 0 none 0 0 w hk
  have t0 := fun (v : Value) (w : World) => ta_no_st 88 79 _ (.agg #[.int .u32 0, .int .u16 0, .int .u16 0, .int .u32 0, .slice none 0 0]) v Tryd.underlying79 (by kernel_rfl) (by decide) w
  have t1 := fun (v : Value) (w : World) => ta_no_st 88 82 _ (.agg #[.int .u32 0, .int .u32 0, .int .u16 0, .int .u16 0, .int .u32 0, .slice none 0 0]) v Tryd.underlying82 (by kernel_rfl) (by decide) w
  have t2 := fun (v : Value) (w : World) => ta_no_st 88 84 _ (.agg #[.int .u32 0, .int .u32 0, .slice none 0 0, .slice none 0 0]) v Tryd.underlying84 (by kernel_rfl) (by decide) w
  have t3 := fun (v : Value) (w : World) => ta_no_sl 88 80 _ (.slice none 0 0) v Tryd.underlying80 (by kernel_rfl) (by decide) w
  have t4 := fun (v : Value) (w : World) => ta_no_in 88 85 _ (.int .u32 0) v Tryd.underlying85 (by kernel_rfl) (by decide) w
  have t5 := fun (v : Value) (w : World) => ta_yes_sl 88 _ v Tryd.underlying88 w
  have HR := (show Hid _ from h)
  clear h hk
  go_enter Tryd.func75, Tryd.ntmps75
  go_wp2_with fail
  refine Calls.mono HV.out ?_
  clear HV
  rintro e w1 ⟨rfl, b1⟩
  have HD := (show Hid _ from rrest_any (HR.out.below b1) hb)
  have HB := (show Hid _ from b1)
  clear b1
  go_wp2_with fail
  refine Calls.mono HD.out ?_
  clear HD
  rintro e w2 hP
  obtain ⟨xa, xc, rfl, ho⟩ := hP.ex
  have HF : Hid (RdR W0 w q 88 zs sh (.returned (.iface 88 (.slice xa zs.length xc))) w2) := ⟨⟨xa, xc, rfl, ho.base HB.out.size⟩, hP.rd, (Fr.of_below HB.out).trans hP.fr⟩
  clear ho hP
  generalize zs.length = xl at *
  go_wp2
  go_ret
  exact HF.out
end Go.Proofs.YtifdfkkjmjabnaaDoor
