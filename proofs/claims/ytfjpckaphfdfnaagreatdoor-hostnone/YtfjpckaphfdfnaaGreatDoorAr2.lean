/- arp: a frame from the card; a question or an answer in one. -/
import Derived.Test.YtfjpckaphfdfnaaGreatDoorAr1
import Derived.Test.YtfjpckaphfdfnaaGreatDoorEtArp2
import Derived.Test.YtfjpckaphfdfnaaGreatDoorRgZ
namespace Go.Proofs.YtfjpckaphfdfnaaGreatDoor
open Go.RowKit
/-- A row is answered. -/
structure RowF (w : World) (L : List Nat) (e : Ending) (w' : World) : Prop where
  row : ∃ a c, e = .returned (.slice a L.length c) ∧ OwnB w' w.heap.size a L.length c L
  bel : Below w.heap.size w w'
set_option maxRecDepth 100000 in
theorem frame_any {w : World} {p : Nat} {mac ip : Nat} {was : Int} {near : Value} {lost : Int} (h : Stc w p (CaC mac ip was near lost)) (hm : mac < 18446744073709551616) (t k : Nat) (a : Option Addr) (n c : Nat) (zs : List Nat) (ht : t < 18446744073709551616) (hk : k < 65536) (hs : Sl w a n c zs) :
    Calls Tryz.prog 158 #[.pointer (some ⟨p, 0, none⟩), .int .u64 (t : Nat), .int .u16 (k : Nat), .slice a n c] w (RowF w (epV t mac k zs)) := by
  have c0 := h.cell 0 _ rfl
  have HP := (show Hid _ from put_any t mac k a n c zs w ht hm hk hs)
  go_enter Tryz.func158, Tryz.ntmps158
  go_wp2_with fail
  refine Calls.mono HP.out ?_
  rintro e w1 ⟨⟨a1, c1, rfl, hr⟩, b1⟩
  have HR := (show Hid _ from And.intro hr b1)
  clear hr b1
  go_wp2
  go_ret
  exact ⟨⟨a1, c1, rfl, HR.out.1⟩, HR.out.2⟩
set_option maxRecDepth 100000 in
set_option maxHeartbeats 1000000 in
theorem tell_any {w : World} {p : Nat} {mac ip : Nat} {was : Int} {near : Value} {lost : Int} (h : Stc w p (CaC mac ip was near lost)) (hm : mac < 281474976710656) (hip : ip < 4294967296) (op to tm ti : Nat) (hop : op = 1 ∨ op = 2) (hto : to < 18446744073709551616) (htm : tm < 281474976710656) (hti : ti < 4294967296) :
    Calls Tryz.prog 123 #[.pointer (some ⟨p, 0, none⟩), .int .i64 (op : Nat), .int .u64 (to : Nat), .int .u64 (tm : Nat), .int .u32 (ti : Nat)] w (RowF w (epV to mac 2054 (arpB op mac ip tm ti))) := by
  obtain ⟨L, hL⟩ : ∃ L, L = arpB op mac ip tm ti := ⟨_, rfl⟩
  have HPA : Hid (∀ W, Calls Tryz.prog 157 #[.agg #[.int .i64 (op : Nat), .int .u64 (mac : Nat), .int .u32 (ip : Nat), .int .u64 (tm : Nat), .int .u32 (ti : Nat)]] W fun e w' => RowE W L 0 e w') := by
    show ∀ W, _
    intro W
    rw [hL]
    exact putArp_ok op mac ip tm ti W hop hm hip htm hti
  have hLl : L.length ≤ 100 := by rw [hL, arpB_len]; omega
  rw [← hL]
  have HKC : Hid (∀ W, Below w.heap.size w W → W.cell? ⟨p, 0, none⟩ = some (.int .u64 (mac : Nat)) ∧ W.cell? ⟨p, 1, none⟩ = some (.int .u32 (ip : Nat))) := by
    show ∀ W, _
    intro W hW
    exact ⟨(h.below hW).cell 0 _ rfl, (h.below hW).cell 1 _ rfl⟩
  clear hL
  go_enter Tryz.func123, Tryz.ntmps123
  go_wp2_with fail
  refine wp_region_parW mixedX (fun θ : Option Addr × Nat => [(14, .int .i64 (op : Nat)), (15, .pointer (some ⟨p, 0, none⟩)), (16, .pointer (some ⟨p, 0, none⟩)), (17, .pointer (some ⟨p, 0, none⟩)), (18, .int .u64 (mac : Nat)), (19, .pointer (some ⟨p, 0, none⟩)), (20, .pointer (some ⟨p, 0, none⟩)), (21, .pointer (some ⟨p, 1, none⟩)), (22, .int .u32 (ip : Nat)), (23, .int .u64 (tm : Nat)), (24, .int .u32 (ti : Nat)), (25, .agg #[.int .i64 (op : Nat), .int .u64 (mac : Nat), .int .u32 (ip : Nat), .int .u64 (tm : Nat), .int .u32 (ti : Nat)]), (26, .tuple #[.slice θ.1 L.length θ.2, .int .i64 0]), (13, .tuple #[.slice θ.1 L.length θ.2, .int .i64 0]), (27, .slice θ.1 L.length θ.2), (28, .int .i64 0), (11, .slice θ.1 L.length θ.2), (12, .int .i64 0)]) (fun θ l W => Below w.heap.size w W ∧ (l 12 = true → OwnB W w.heap.size θ.1 L.length θ.2 L)) (none, 0) ?Z1 ?hZ1 (by kernel_rfl) (by kernel_rfl) (fun θ => by kernel_rfl) (by kernel_rfl) ?h01 ?hops1 ?he1
  case hZ1 => intro θ; simp only [List.foldl_cons, List.foldl_nil, List.setIfInBounds_toArray, List.set_cons_zero, List.set_cons_succ]; rfl
  case h01 => exact ⟨(Below.refl _ _).drew, fun e => (by cases e)⟩
  case hops1 =>
    refine ⟨?_, ?_, ?_, ?_, ?_, ?_, ?_, ?_, ?_, ?_, ?_, ?_, ?_, ?_, ?_, ?_, ?_, ?_, trivial⟩
    · exact par_val (fun θ => by rfl) (fun θ l W hg => ⟨hg.1, fun e => hg.2 (by simpa [updL] using e)⟩) (fun θ l W hl hc hd hg => by go_simp; (try with_reducible rfl); (try omega))
    · exact par_val (fun θ => by rfl) (fun θ l W hg => ⟨hg.1, fun e => hg.2 (by simpa [updL] using e)⟩) (fun θ l W hl hc hd hg => by go_simp; (try with_reducible rfl); (try omega))
    · exact par_val (fun θ => by rfl) (fun θ l W hg => ⟨hg.1, fun e => hg.2 (by simpa [updL] using e)⟩) (fun θ l W hl hc hd hg => by go_simp; (try with_reducible rfl); (try omega))
    · exact par_val (fun θ => by rfl) (fun θ l W hg => ⟨hg.1, fun e => hg.2 (by simpa [updL] using e)⟩) (fun θ l W hl hc hd hg => by go_simp; (try with_reducible rfl); (try omega))
    · exact par_val (fun θ => by rfl) (fun θ l W hg => ⟨hg.1, fun e => hg.2 (by simpa [updL] using e)⟩) (fun θ l W hl hc hd hg => by obtain ⟨d0, d1⟩ := HKC.out W hg.1; go_simp; (try with_reducible rfl); (try omega))
    · exact par_val (fun θ => by rfl) (fun θ l W hg => ⟨hg.1, fun e => hg.2 (by simpa [updL] using e)⟩) (fun θ l W hl hc hd hg => by go_simp; (try with_reducible rfl); (try omega))
    · exact par_val (fun θ => by rfl) (fun θ l W hg => ⟨hg.1, fun e => hg.2 (by simpa [updL] using e)⟩) (fun θ l W hl hc hd hg => by go_simp; (try with_reducible rfl); (try omega))
    · exact par_val (fun θ => by rfl) (fun θ l W hg => ⟨hg.1, fun e => hg.2 (by simpa [updL] using e)⟩) (fun θ l W hl hc hd hg => by go_simp; (try with_reducible rfl); (try omega))
    · exact par_val (fun θ => by rfl) (fun θ l W hg => ⟨hg.1, fun e => hg.2 (by simpa [updL] using e)⟩) (fun θ l W hl hc hd hg => by obtain ⟨d0, d1⟩ := HKC.out W hg.1; go_simp; (try with_reducible rfl); (try omega))
    · exact par_val (fun θ => by rfl) (fun θ l W hg => ⟨hg.1, fun e => hg.2 (by simpa [updL] using e)⟩) (fun θ l W hl hc hd hg => by go_simp; (try with_reducible rfl); (try omega))
    · exact par_val (fun θ => by rfl) (fun θ l W hg => ⟨hg.1, fun e => hg.2 (by simpa [updL] using e)⟩) (fun θ l W hl hc hd hg => by go_simp; (try with_reducible rfl); (try omega))
    · exact par_val (fun θ => by rfl) (fun θ l W hg => ⟨hg.1, fun e => hg.2 (by simpa [updL] using e)⟩) (fun θ l W hl hc hd hg => by go_simp; (try with_reducible rfl); (try omega))
    · exact par_call (fun θ => by rfl) rfl (vs := fun _ => [.agg #[.int .i64 (op : Nat), .int .u64 (mac : Nat), .int .u32 (ip : Nat), .int .u64 (tm : Nat), .int .u32 (ti : Nat)]]) (fun θ => by rfl) Tryz.func157 (by rfl) (by rfl) (fun θ l W hl hc hd hg => by
        have h13 : l 13 = false := (by cases h : l 13 with | false => rfl | true => exact absurd (hc 13 12 (by kernel_rfl) h) (by rw [hl]; decide))
        have h14 : l 14 = false := (by cases h : l 14 with | false => rfl | true => exact absurd (hc 14 12 (by kernel_rfl) h) (by rw [hl]; decide))
        have h16 : l 16 = false := (by cases h : l 16 with | false => rfl | true => exact absurd (hc 16 12 (by kernel_rfl) h) (by rw [hl]; decide))
        refine (HPA.out W).mono ?_
        rintro e W2 ⟨⟨a2, c2, rfl, hr⟩, b2⟩
        refine ⟨_, rfl, next_set (by kernel_rfl) (a2, c2) [(26, .tuple #[.slice a2 L.length c2, .int .i64 0], 12), (13, .tuple #[.slice a2 L.length c2, .int .i64 0], 13), (27, .slice a2 L.length c2, 14), (11, .slice a2 L.length c2, 16)] (by simp only [List.foldl_cons, List.foldl_nil, List.setIfInBounds_toArray, List.set_cons_zero, List.set_cons_succ]) (by kernel_rfl) (fun t ht => by simp at ht; rcases ht with rfl | rfl | rfl | rfl; exact hl; exact h13; exact h14; exact h16) (fun d hd => by cases hd; rfl) ⟨hg.1.trans (b2.mono hg.1.size), fun _ => hr.base hg.1.size⟩⟩)
    · exact par_val (fun θ => by rfl) (fun θ l W hg => ⟨hg.1, fun e => hg.2 (by simpa [updL] using e)⟩) (fun θ l W hl hc hd hg => by go_simp; (try with_reducible rfl); (try omega))
    · exact par_val (fun θ => by rfl) (fun θ l W hg => ⟨hg.1, fun e => hg.2 (by simpa [updL] using e)⟩) (fun θ l W hl hc hd hg => by go_simp; (try with_reducible rfl); (try omega))
    · exact par_val (fun θ => by rfl) (fun θ l W hg => ⟨hg.1, fun e => hg.2 (by simpa [updL] using e)⟩) (fun θ l W hl hc hd hg => by go_simp; (try with_reducible rfl); (try omega))
    · exact par_val (fun θ => by rfl) (fun θ l W hg => ⟨hg.1, fun e => hg.2 (by simpa [updL] using e)⟩) (fun θ l W hl hc hd hg => by go_simp; (try with_reducible rfl); (try omega))
    · exact par_val (fun θ => by rfl) (fun θ l W hg => ⟨hg.1, fun e => hg.2 (by simpa [updL] using e)⟩) (fun θ l W hl hc hd hg => by go_simp; (try with_reducible rfl); (try omega))
  case he1 =>
  rintro ⟨a2, c2⟩ l W hall hg
  obtain ⟨hb, hr⟩ := hg
  have hr := hr (hall 12 (by decide))
  clear hall
  have HF := (show Hid _ from frame_any (h.below hb) (by omega) to 2054 a2 L.length c2 L hto (by omega) (hr.sl (by omega)))
  have HB := (show Hid _ from hb)
  clear hb hr
  go_wp2_with fail
  refine Calls.mono HF.out ?_
  rintro e w3 ⟨⟨a3, c3, rfl, hr3⟩, b3⟩
  have HR := (show Hid _ from And.intro (hr3.base HB.out.size) (HB.out.trans (b3.mono HB.out.size)))
  clear hr3 b3
  go_wp2
  go_ret
  exact ⟨⟨a3, c3, rfl, HR.out.1⟩, HR.out.2⟩
end Go.Proofs.YtfjpckaphfdfnaaGreatDoor
