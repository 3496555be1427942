/- host: a card takes a frame with an ARP question. -/
import Derived.Test.YtfjpckaphfdfnaaGreatDoorHo2
import Derived.Test.YtfjpckaphfdfnaaGreatDoorArB
import Derived.Test.YtfjpckaphfdfnaaGreatDoorAr9
import Derived.Test.YtfjpckaphfdfnaaGreatDoorArT
import Derived.Test.YtfjpckaphfdfnaaGreatDoorSpan
import Derived.Test.YtfjpckaphfdfnaaGreatDoorEtPut
import Derived.Test.YtfjpckaphfdfnaaGreatDoorEtArp2
import Derived.Test.YtfjpckaphfdfnaaGreatDoorOwn
import Derived.ChangeKeysEq
import Derived.Test.YtfjpckaphfdfnaaGreatDoorEtArp
import Derived.Test.YtfjpckaphfdfnaaGreatDoorCopy
import Derived.Deep.RegionHeld3
import Derived.Test.YtfjpckaphfdfnaaGreatDoorBytes
import Derived.Test.YtfjpckaphfdfnaaGreatDoorEtPut2
namespace Go.Proofs.YtfjpckaphfdfnaaGreatDoor
open Go.RowKit Go.MapKept Go.Maps
def fillR (r : RSt) (b : Nat) (zs : List Nat) : RSt := { r with d := if fillE r.N r.tk r.rs zs = 10 then r.d + 1 else r.d, rs := if fillE r.N r.tk r.rs zs = 0 then r.rs ++ [(b, zs)] else r.rs }
def giveR (r : RSt) : RSt := { r with gv := (r.gv + 1) % r.N, rs := r.rs.tail }
section
variable {w0 w : World} {p : Nat} {s : HSt} {R : Nat → RSt} {C : Nat → CSt}
/-- Fill of ring k, as of the host. -/
theorem hfill (h : HoW w0 w p s R C) {k : Nat} (hk : k < 4) {a : Option Addr} {n c : Nat} {zs : List Nat} (hs : Sl w a n c zs) (hd : (R k).d ≤ 1000000) :
    Calls Tryz.prog 56 #[.pointer (some ⟨(R k).p, 0, none⟩), .slice a n c] w fun e w' => ∃ b, e = .returned (.int .i64 (fillE (R k).N (R k).tk (R k).rs zs : Nat)) ∧ HoW w0 w' p s (upd R k (fillR (R k) b zs)) C := by
  obtain ⟨ro, h⟩ := h
  refine (fill_any w0.heap.size (fun j => j = (R k).p ∨ j = (R k).g) (R k).p (R k).g (R k).N (R k).gv (R k).tk (R k).d (R k).rs a n c zs w (h.ring k hk).1 hs hd h.bel.size).mono ?_
  rintro e w' ⟨rfl, hf, b, hb, hr⟩
  refine ⟨b, rfl, h.rings hk (fillR (R k) b zs) rfl rfl hf hr (fun x hx => ?_)⟩
  unfold fillR at hx
  dsimp only at hx
  split at hx
  · rcases List.mem_append.1 hx with e | e
    · exact .inl e
    · simp at e
      rw [e]
      exact .inr hb
  · exact .inl hx
/-- lift of ring k, as of the host. -/
theorem hlift_none (h : HoW w0 w p s R C) {k : Nat} (hk : k < 4) (he : (R k).rs = []) :
    Calls Tryz.prog 36 #[.pointer (some ⟨(R k).p, 0, none⟩)] w fun e w' => e = .returned (.tuple #[.slice none 0 0, .int .i64 13]) ∧ w' = w := by
  obtain ⟨ro, h⟩ := h
  have h1 := (h.ring k hk).1
  unfold RgS at h1
  rw [he] at h1
  exact lift_none _ _ _ _ _ _ _ _ w h1
theorem hlift_some (h : HoW w0 w p s R C) {k : Nat} (hk : k < 4) {b : Nat} {zs : List Nat} {rs : List (Nat × List Nat)} (he : (R k).rs = (b, zs) :: rs) :
    Calls Tryz.prog 36 #[.pointer (some ⟨(R k).p, 0, none⟩)] w fun e w' => (∃ b c, e = .returned (.tuple #[.slice (some ⟨b, 0, none⟩) zs.length c, .int .i64 0]) ∧ OwnB w' w0.heap.size (some ⟨b, 0, none⟩) zs.length c zs ∧ ∀ x ∈ s.E, x.1 ≠ b) ∧ HoW w0 w' p s (upd R k (giveR (R k))) C := by
  obtain ⟨ro, h⟩ := h
  have h1 := (h.ring k hk).1
  unfold RgS at h1
  rw [he] at h1
  refine (lift_some _ _ _ _ _ _ _ _ b zs rs w h1).mono ?_
  rintro e w' ⟨⟨c, rfl, hO⟩, hf, hr⟩
  have et : (giveR (R k)).rs = rs := by unfold giveR; dsimp only; rw [he]; rfl
  have hro := (h.ring k hk).2.2.2 (b, zs) (by rw [he]; simp)
  refine ⟨⟨b, c, rfl, hO, fun x hx e => by have := (h.ext x hx).1; rw [e, hro] at this; omega⟩, h.rings hk (giveR (R k)) rfl rfl hf ?_ (fun x hx => .inl ?_)⟩
  · unfold RgS
    rw [et]
    exact hr
  · rw [et] at hx
    rw [he]
    exact List.mem_cons_of_mem _ hx
set_option maxRecDepth 100000 in
theorem hframe0 (h : HoW w0 w p s R C) {a : Option Addr} {n c : Nat} {zs : List Nat} (hs : Sl w a n c zs) (hd : (R 0).d ≤ 1000000) :
    Calls Tryz.prog 21 #[.pointer (some ⟨p, 0, none⟩), .int .i64 0, .slice a n c] w fun e w' => ∃ b, e = .returned (.int .i64 (fillE (R 0).N (R 0).tk (R 0).rs zs : Nat)) ∧ HoW w0 w' p s (upd R 0 (fillR (R 0) b zs)) C := by
  have hm := mayUse_any p 0 w
  rw [if_pos (by omega)] at hm
  have HH := (show Hid _ from And.intro h hs)
  clear h hs
  go_enter Tryz.func21, Tryz.ntmps21
  go_wp2_with fail
  refine hm.mono ?_
  rintro e w1 ⟨rfl, hb⟩
  clear hm
  obtain ⟨h, hs⟩ := HH.out
  have h1 := h.below hb
  have HF := (show Hid _ from hfill h1 (k := 0) (by omega) (hs.below hb) hd)
  have hc : w1.cell? ⟨p, 11, none⟩ = some (.pointer (some ⟨(R 0).p, 0, none⟩)) := by obtain ⟨ro, h1⟩ := h1; exact h1.st.cell 11 _ rfl
  clear h hs h1 hb HH
  go_wp2_with fail
  refine Calls.mono HF.out ?_
  rintro e w2 ⟨b, rfl, hR⟩
  have HR := (show Hid _ from hR)
  clear HF hR
  go_wp2
  go_ret
  exact ⟨b, rfl, HR.out⟩
set_option maxRecDepth 100000 in
theorem hout0_none (h : HoW w0 w p s R C) (he : (R 1).rs = []) :
    Calls Tryz.prog 10 #[.pointer (some ⟨p, 0, none⟩), .int .i64 0] w fun e w' => e = .returned (.tuple #[.slice none 0 0, .int .i64 13]) ∧ Below w.heap.size w w' := by
  have hm := mayUse_any p 0 w
  rw [if_pos (by omega)] at hm
  have HH := (show Hid _ from h)
  clear h
  go_enter Tryz.func10, Tryz.ntmps10
  go_wp2_with fail
  refine hm.mono ?_
  rintro e w1 ⟨rfl, hb⟩
  clear hm
  have h1 := HoW.below HH.out hb
  have HF := (show Hid _ from hlift_none h1 (k := 1) (by omega) he)
  have hc : w1.cell? ⟨p, 12, none⟩ = some (.pointer (some ⟨(R 1).p, 0, none⟩)) := by obtain ⟨ro, h1⟩ := h1; exact h1.st.cell 12 _ rfl
  have HB := (show Hid _ from hb)
  clear h1 hb HH he
  go_wp2_with fail
  refine Calls.mono HF.out ?_
  rintro e w2 ⟨rfl, rfl⟩
  clear HF
  go_wp2
  go_ret2
  exact ⟨rfl, HB.out⟩
set_option maxRecDepth 100000 in
theorem hout0_some (h : HoW w0 w p s R C) {b : Nat} {zs : List Nat} {rs : List (Nat × List Nat)} (he : (R 1).rs = (b, zs) :: rs) :
    Calls Tryz.prog 10 #[.pointer (some ⟨p, 0, none⟩), .int .i64 0] w fun e w' => (∃ b c, e = .returned (.tuple #[.slice (some ⟨b, 0, none⟩) zs.length c, .int .i64 0]) ∧ OwnB w' w0.heap.size (some ⟨b, 0, none⟩) zs.length c zs ∧ ∀ x ∈ s.E, x.1 ≠ b) ∧ HoW w0 w' p s (upd R 1 (giveR (R 1))) C := by
  have hm := mayUse_any p 0 w
  rw [if_pos (by omega)] at hm
  have HH := (show Hid _ from h)
  clear h
  go_enter Tryz.func10, Tryz.ntmps10
  go_wp2_with fail
  refine hm.mono ?_
  rintro e w1 ⟨rfl, hb⟩
  clear hm
  have h1 := HoW.below HH.out hb
  have HF := (show Hid _ from hlift_some h1 (k := 1) (by omega) he)
  have hc : w1.cell? ⟨p, 12, none⟩ = some (.pointer (some ⟨(R 1).p, 0, none⟩)) := by obtain ⟨ro, h1⟩ := h1; exact h1.st.cell 12 _ rfl
  clear h1 hb HH he
  go_wp2_with fail
  refine Calls.mono HF.out ?_
  rintro e w2 ⟨⟨b2, c2, rfl, hO, hO2⟩, hR⟩
  have HR := (show Hid _ from And.intro hO (And.intro hO2 hR))
  clear HF hO hO2 hR
  go_wp2
  go_ret2
  exact ⟨⟨b2, c2, rfl, HR.out.1, HR.out.2.1⟩, HR.out.2.2⟩
set_option maxRecDepth 100000 in
theorem hnear0 (h : HoW w0 w p s R C) :
    Calls Tryz.prog 12 #[.pointer (some ⟨p, 0, none⟩), .int .i64 0] w fun e w' => (∃ a c, e = .returned (.slice a (C 0).D.length c) ∧ OwnN w' w.heap.size a (C 0).D.length c (C 0).D) ∧ Below w.heap.size w w' := by
  have hm := mayUse_any p 0 w
  rw [if_pos (by omega)] at hm
  have HH := (show Hid _ from h)
  clear h
  go_enter Tryz.func12, Tryz.ntmps12
  go_wp2_with fail
  refine hm.mono ?_
  rintro e w1 ⟨rfl, hb⟩
  clear hm
  have h1 := HoW.below HH.out hb
  have HF : Hid (Calls Tryz.prog 39 #[.pointer (some ⟨(C 0).p, 0, none⟩)] w1 (TabP w1 (C 0).D)) := by obtain ⟨ro, h1⟩ := h1; obtain ⟨kd, h2, _⟩ := h1.cache 0 (by omega); exact table_any h2
  have hc : w1.cell? ⟨p, 13, none⟩ = some (.pointer (some ⟨(C 0).p, 0, none⟩)) := by obtain ⟨ro, h1⟩ := h1; exact h1.st.cell 13 _ rfl
  have HB := (show Hid _ from hb)
  clear h1 hb HH
  go_wp2_with fail
  refine Calls.mono HF.out ?_
  rintro e w2 ⟨⟨a, c, rfl, hO⟩, hb2⟩
  have HR := (show Hid _ from And.intro hO hb2)
  clear HF hO hb2
  go_wp2
  go_ret
  exact ⟨⟨a, c, rfl, HR.out.1.base HB.out.size⟩, HB.out.trans (HR.out.2.mono HB.out.size)⟩
set_option maxRecDepth 100000 in
theorem hlay0_none (a : Option Addr) (c : Nat) (w : World) :
    Calls Tryz.prog 53 #[.pointer (some ⟨p, 0, none⟩), .int .i64 0, .slice a 0 c] w fun e w' => e = .returned (.tuple #[]) ∧ Below w.heap.size w w' := by
  go_enter Tryz.func53, Tryz.ntmps53
  go_wp2_with fail
  go_loopw [10] (fun iv wr => iv = .int .i64 0 ∧ Below w.heap.size w wr) (fun _ _ => 0)
  case atStart => exact ⟨rfl, Below.refl _ _⟩
  case round =>
    obtain ⟨rfl, hb⟩ := hrel
    go_wp2
    go_end0
    exact ⟨rfl, hb⟩
set_option maxRecDepth 100000 in
theorem hlay0_one (h : HoW w0 w p s R C) {g c : Nat} {a1 : Option Addr} {n1 c1 : Nat} {zs : List Nat} (hg : w.cell? ⟨g, 0, none⟩ = some (.slice a1 n1 c1)) (hgl : g < w.heap.size) (hs : Sl w a1 n1 c1 zs) (hc : 1 ≤ c) (hd : (R 1).d ≤ 1000000) (hok : fillE (R 1).N (R 1).tk (R 1).rs zs = 0) :
    Calls Tryz.prog 53 #[.pointer (some ⟨p, 0, none⟩), .int .i64 0, .slice (some ⟨g, 0, none⟩) 1 c] w fun e w' => e = .returned (.tuple #[]) ∧ ∃ b, HoW w0 w' p s (upd R 1 (fillR (R 1) b zs)) C := by
  have HH := (show Hid _ from And.intro h (And.intro hs hg))
  clear h hs hg
  go_enter Tryz.func53, Tryz.ntmps53
  go_wp2_with fail
  go_loopw [10] (fun iv wr => (iv = .int .i64 0 ∧ Below w.heap.size w wr) ∨ (iv = .int .i64 1 ∧ ∃ b, HoW w0 wr p s (upd R 1 (fillR (R 1) b zs)) C)) (fun iv _ => 1 - (intOf iv).toNat)
  case atStart => exact .inl ⟨rfl, Below.refl _ _⟩
  case round =>
    rcases hrel with ⟨rfl, hb⟩ | ⟨rfl, hb⟩
    · obtain ⟨h, hs, hg⟩ := HH.out
      have h1 := h.below hb
      have HF := (show Hid _ from hfill h1 (k := 1) (by omega) (hs.below hb) hd)
      have hcl : wr.cell? ⟨p, 12, none⟩ = some (.pointer (some ⟨(R 1).p, 0, none⟩)) := by obtain ⟨ro, h1⟩ := h1; exact h1.st.cell 12 _ rfl
      have hgc : wr.cell? ⟨g, 0, none⟩ = some (.slice a1 n1 c1) := (hb.cell (p := ⟨g, 0, none⟩) hgl).trans hg
      have hcc : ¬ c = 0 := by omega
      rw [hok] at HF
      clear h hs hg h1 hb HH hd hok
      go_wp2_with fail
      refine Calls.mono HF.out ?_
      rintro e w2 ⟨b, rfl, hR⟩
      have HR := (show Hid _ from hR)
      clear HF hR
      go_wp2
      go_roundw
      case rel => exact .inr ⟨by go_num, b, HR.out⟩
      case measure => simp [intOf]
    · have HB := (show Hid _ from hb)
      clear hb
      go_wp2
      go_end0
      exact ⟨rfl, HB.out⟩
set_option maxRecDepth 100000 in
theorem hframe1 (h : HoW w0 w p s R C) {a : Option Addr} {n c : Nat} {zs : List Nat} (hs : Sl w a n c zs) (hd : (R 2).d ≤ 1000000) :
    Calls Tryz.prog 21 #[.pointer (some ⟨p, 0, none⟩), .int .i64 1, .slice a n c] w fun e w' => ∃ b, e = .returned (.int .i64 (fillE (R 2).N (R 2).tk (R 2).rs zs : Nat)) ∧ HoW w0 w' p s (upd R 2 (fillR (R 2) b zs)) C := by
  have hm := mayUse_any p 1 w
  rw [if_pos (by omega)] at hm
  have HH := (show Hid _ from And.intro h hs)
  clear h hs
  go_enter Tryz.func21, Tryz.ntmps21
  go_wp2_with fail
  refine hm.mono ?_
  rintro e w1 ⟨rfl, hb⟩
  clear hm
  obtain ⟨h, hs⟩ := HH.out
  have h1 := h.below hb
  have HF := (show Hid _ from hfill h1 (k := 2) (by omega) (hs.below hb) hd)
  have hc : w1.cell? ⟨p, 14, none⟩ = some (.pointer (some ⟨(R 2).p, 0, none⟩)) := by obtain ⟨ro, h1⟩ := h1; exact h1.st.cell 14 _ rfl
  clear h hs h1 hb HH
  go_wp2_with fail
  refine Calls.mono HF.out ?_
  rintro e w2 ⟨b, rfl, hR⟩
  have HR := (show Hid _ from hR)
  clear HF hR
  go_wp2
  go_ret
  exact ⟨b, rfl, HR.out⟩
set_option maxRecDepth 100000 in
theorem hout1_none (h : HoW w0 w p s R C) (he : (R 3).rs = []) :
    Calls Tryz.prog 10 #[.pointer (some ⟨p, 0, none⟩), .int .i64 1] w fun e w' => e = .returned (.tuple #[.slice none 0 0, .int .i64 13]) ∧ Below w.heap.size w w' := by
  have hm := mayUse_any p 1 w
  rw [if_pos (by omega)] at hm
  have HH := (show Hid _ from h)
  clear h
  go_enter Tryz.func10, Tryz.ntmps10
  go_wp2_with fail
  refine hm.mono ?_
  rintro e w1 ⟨rfl, hb⟩
  clear hm
  have h1 := HoW.below HH.out hb
  have HF := (show Hid _ from hlift_none h1 (k := 3) (by omega) he)
  have hc : w1.cell? ⟨p, 15, none⟩ = some (.pointer (some ⟨(R 3).p, 0, none⟩)) := by obtain ⟨ro, h1⟩ := h1; exact h1.st.cell 15 _ rfl
  have HB := (show Hid _ from hb)
  clear h1 hb HH he
  go_wp2_with fail
  refine Calls.mono HF.out ?_
  rintro e w2 ⟨rfl, rfl⟩
  clear HF
  go_wp2
  go_ret2
  exact ⟨rfl, HB.out⟩
set_option maxRecDepth 100000 in
theorem hout1_some (h : HoW w0 w p s R C) {b : Nat} {zs : List Nat} {rs : List (Nat × List Nat)} (he : (R 3).rs = (b, zs) :: rs) :
    Calls Tryz.prog 10 #[.pointer (some ⟨p, 0, none⟩), .int .i64 1] w fun e w' => (∃ b c, e = .returned (.tuple #[.slice (some ⟨b, 0, none⟩) zs.length c, .int .i64 0]) ∧ OwnB w' w0.heap.size (some ⟨b, 0, none⟩) zs.length c zs ∧ ∀ x ∈ s.E, x.1 ≠ b) ∧ HoW w0 w' p s (upd R 3 (giveR (R 3))) C := by
  have hm := mayUse_any p 1 w
  rw [if_pos (by omega)] at hm
  have HH := (show Hid _ from h)
  clear h
  go_enter Tryz.func10, Tryz.ntmps10
  go_wp2_with fail
  refine hm.mono ?_
  rintro e w1 ⟨rfl, hb⟩
  clear hm
  have h1 := HoW.below HH.out hb
  have HF := (show Hid _ from hlift_some h1 (k := 3) (by omega) he)
  have hc : w1.cell? ⟨p, 15, none⟩ = some (.pointer (some ⟨(R 3).p, 0, none⟩)) := by obtain ⟨ro, h1⟩ := h1; exact h1.st.cell 15 _ rfl
  clear h1 hb HH he
  go_wp2_with fail
  refine Calls.mono HF.out ?_
  rintro e w2 ⟨⟨b2, c2, rfl, hO, hO2⟩, hR⟩
  have HR := (show Hid _ from And.intro hO (And.intro hO2 hR))
  clear HF hO hO2 hR
  go_wp2
  go_ret2
  exact ⟨⟨b2, c2, rfl, HR.out.1, HR.out.2.1⟩, HR.out.2.2⟩
set_option maxRecDepth 100000 in
theorem hnear1 (h : HoW w0 w p s R C) :
    Calls Tryz.prog 12 #[.pointer (some ⟨p, 0, none⟩), .int .i64 1] w fun e w' => (∃ a c, e = .returned (.slice a (C 1).D.length c) ∧ OwnN w' w.heap.size a (C 1).D.length c (C 1).D) ∧ Below w.heap.size w w' := by
  have hm := mayUse_any p 1 w
  rw [if_pos (by omega)] at hm
  have HH := (show Hid _ from h)
  clear h
  go_enter Tryz.func12, Tryz.ntmps12
  go_wp2_with fail
  refine hm.mono ?_
  rintro e w1 ⟨rfl, hb⟩
  clear hm
  have h1 := HoW.below HH.out hb
  have HF : Hid (Calls Tryz.prog 39 #[.pointer (some ⟨(C 1).p, 0, none⟩)] w1 (TabP w1 (C 1).D)) := by obtain ⟨ro, h1⟩ := h1; obtain ⟨kd, h2, _⟩ := h1.cache 1 (by omega); exact table_any h2
  have hc : w1.cell? ⟨p, 16, none⟩ = some (.pointer (some ⟨(C 1).p, 0, none⟩)) := by obtain ⟨ro, h1⟩ := h1; exact h1.st.cell 16 _ rfl
  have HB := (show Hid _ from hb)
  clear h1 hb HH
  go_wp2_with fail
  refine Calls.mono HF.out ?_
  rintro e w2 ⟨⟨a, c, rfl, hO⟩, hb2⟩
  have HR := (show Hid _ from And.intro hO hb2)
  clear HF hO hb2
  go_wp2
  go_ret
  exact ⟨⟨a, c, rfl, HR.out.1.base HB.out.size⟩, HB.out.trans (HR.out.2.mono HB.out.size)⟩
set_option maxRecDepth 100000 in
theorem hlay1_none (a : Option Addr) (c : Nat) (w : World) :
    Calls Tryz.prog 53 #[.pointer (some ⟨p, 0, none⟩), .int .i64 1, .slice a 0 c] w fun e w' => e = .returned (.tuple #[]) ∧ Below w.heap.size w w' := by
  go_enter Tryz.func53, Tryz.ntmps53
  go_wp2_with fail
  go_loopw [10] (fun iv wr => iv = .int .i64 0 ∧ Below w.heap.size w wr) (fun _ _ => 0)
  case atStart => exact ⟨rfl, Below.refl _ _⟩
  case round =>
    obtain ⟨rfl, hb⟩ := hrel
    go_wp2
    go_end0
    exact ⟨rfl, hb⟩
set_option maxRecDepth 100000 in
theorem hlay1_one (h : HoW w0 w p s R C) {g c : Nat} {a1 : Option Addr} {n1 c1 : Nat} {zs : List Nat} (hg : w.cell? ⟨g, 0, none⟩ = some (.slice a1 n1 c1)) (hgl : g < w.heap.size) (hs : Sl w a1 n1 c1 zs) (hc : 1 ≤ c) (hd : (R 3).d ≤ 1000000) (hok : fillE (R 3).N (R 3).tk (R 3).rs zs = 0) :
    Calls Tryz.prog 53 #[.pointer (some ⟨p, 0, none⟩), .int .i64 1, .slice (some ⟨g, 0, none⟩) 1 c] w fun e w' => e = .returned (.tuple #[]) ∧ ∃ b, HoW w0 w' p s (upd R 3 (fillR (R 3) b zs)) C := by
  have HH := (show Hid _ from And.intro h (And.intro hs hg))
  clear h hs hg
  go_enter Tryz.func53, Tryz.ntmps53
  go_wp2_with fail
  go_loopw [10] (fun iv wr => (iv = .int .i64 0 ∧ Below w.heap.size w wr) ∨ (iv = .int .i64 1 ∧ ∃ b, HoW w0 wr p s (upd R 3 (fillR (R 3) b zs)) C)) (fun iv _ => 1 - (intOf iv).toNat)
  case atStart => exact .inl ⟨rfl, Below.refl _ _⟩
  case round =>
    rcases hrel with ⟨rfl, hb⟩ | ⟨rfl, hb⟩
    · obtain ⟨h, hs, hg⟩ := HH.out
      have h1 := h.below hb
      have HF := (show Hid _ from hfill h1 (k := 3) (by omega) (hs.below hb) hd)
      have hcl : wr.cell? ⟨p, 15, none⟩ = some (.pointer (some ⟨(R 3).p, 0, none⟩)) := by obtain ⟨ro, h1⟩ := h1; exact h1.st.cell 15 _ rfl
      have hgc : wr.cell? ⟨g, 0, none⟩ = some (.slice a1 n1 c1) := (hb.cell (p := ⟨g, 0, none⟩) hgl).trans hg
      have hcc : ¬ c = 0 := by omega
      rw [hok] at HF
      clear h hs hg h1 hb HH hd hok
      go_wp2_with fail
      refine Calls.mono HF.out ?_
      rintro e w2 ⟨b, rfl, hR⟩
      have HR := (show Hid _ from hR)
      clear HF hR
      go_wp2
      go_roundw
      case rel => exact .inr ⟨by go_num, b, HR.out⟩
      case measure => simp [intOf]
    · have HB := (show Hid _ from hb)
      clear hb
      go_wp2
      go_end0
      exact ⟨rfl, HB.out⟩
end
end Go.Proofs.YtfjpckaphfdfnaaGreatDoor
namespace Go.Proofs.YtfjpckaphfdfnaaGreatDoor
open Go.RowKit Go.MapKept Go.Maps
def takeE (now t : Int) (ip fi fm : Nat) : Nat := if atkE now t ≠ 0 then atkE now t else if fi = ip ∨ 281474976710655 ≤ fm then 12 else 0
theorem takeE_ok {now t : Int} {ip fi fm : Nat} (h : takeE now t ip fi fm = 0) : atkE now t = 0 ∧ fi ≠ ip ∧ fm < 281474976710655 := by
  have h1 : atkE now t = 0 := by
    unfold takeE at h
    split at h
    · rename_i h1; exact absurd h h1
    · rename_i h1; omega
  have h2 : ¬ (fi = ip ∨ 281474976710655 ≤ fm) := by
    intro e
    unfold takeE at h
    rw [if_neg (by rw [h1]; simp), if_pos e] at h
    cases h
  exact ⟨h1, by omega, by omega⟩
theorem atkE_ok {now t : Int} (h : atkE now t = 0) : 0 ≤ t ∧ t ≤ 1099511627776 ∧ now ≤ t := by
  unfold atkE at h
  split at h
  · cases h
  · split at h
    · cases h
    · omega
def takeD (ip : Nat) (D : List (Nat × Nbr)) (fi fm ti : Nat) (t : Int) : List (Nat × Nbr) := if (lookD D fi).isSome then putD D fi (knX fm t) else if ti = ip ∧ roomB D = true then putD (roomD D) fi (knX fm t) else D
def takeF (mac ip : Nat) (D : List (Nat × Nbr)) (op : Int) (fm fi ti : Nat) : List (List Nat) := wsF mac fm (nbAt D fi) ++ (if ti = ip ∧ op = 1 then [epV fm mac 2054 (arpB 2 mac ip fm fi)] else [])
structure TakeP (w : World) (kd : Nat → RoleA) (p mac ip : Nat) (now lost : Int) (D : List (Nat × Nbr)) (op : Int) (fm fi ti : Nat) (t : Int) (e : Ending) (w' : World) : Prop where
  ex : ∃ kd' now' D' er fs a n c, ((takeE now t ip fi fm ≠ 0 ∧ now' = now ∧ D' = D ∧ er = takeE now t ip fi fm ∧ fs = []) ∨ (takeE now t ip fi fm = 0 ∧ now' = t ∧ D' = takeD ip D fi fm ti t ∧ er = 0 ∧ fs = takeF mac ip D op fm fi ti)) ∧ CaW w' kd' p mac ip now' lost D' ∧ GrowA kd kd' w w' ∧ e = .returned (.tuple #[.slice a n c, .int .i64 (er : Nat)]) ∧ FrsW w' kd' w.heap.size a n c fs
theorem wsF_none {mac m : Nat} {D : List (Nat × Nbr)} {q : Nat} (h : lookD D q = none) : wsF mac m (nbAt D q) = [] := by unfold nbAt; rw [h]; rfl
set_option maxRecDepth 100000 in
set_option maxHeartbeats 8000000 in
theorem take_arp {w : World} {kd : Nat → RoleA} {p mac ip : Nat} {now lost : Int} {D : List (Nat × Nbr)} (h : CaW w kd p mac ip now lost D) (op : Int) (fm fi tm ti : Nat) (hfi : fi < 4294967296) (t : Int) :
    Calls Tryz.prog 153 #[.pointer (some ⟨p, 0, none⟩), .agg #[.int .i64 op, .int .u64 (fm : Nat), .int .u32 (fi : Nat), .int .u64 (tm : Nat), .int .u32 (ti : Nat)], .int .i64 t] w (TakeP w kd p mac ip now lost D op fm fi ti t) := by
  obtain ⟨W, hW⟩ : ∃ W, W = w.alloc (.cells #[.int .i64 op, .int .u64 (fm : Nat), .int .u32 (fi : Nat), .int .u64 (tm : Nat), .int .u32 (ti : Nat)] 251) := ⟨_, rfl⟩
  have b0 : Below w.heap.size w W := by rw [hW]; exact (Below.refl _ _).alloc (Nat.le_refl _) _
  have stB := Stc.new w [.int .i64 op, .int .u64 (fm : Nat), .int .u32 (fi : Nat), .int .u64 (tm : Nat), .int .u32 (ti : Nat)] 251 W hW
  have hcW := h.below b0
  obtain ⟨nv, hst, _⟩ := hcW.looks
  have HMB := (show Hid _ from amayBe_any hst t)
  have hpl := h.lt
  have HH := (show Hid _ from And.intro h (And.intro b0 (And.intro stB hcW)))
  clear hst hcW stB b0 h
  go_enter Tryz.func153, Tryz.ntmps153
  go_wp2_with fail
  rw [← hW]
  clear hW
  refine Calls.mono HMB.out ?_
  clear HMB
  rintro e w1 ⟨rfl, hb1⟩
  by_cases hk : atkE now t ≠ 0
  · have hk1 : ((atkE now t : Nat) : Int) ≠ 0 := by omega
    have HE : Hid (takeE now t ip fi fm = atkE now t) := by show _ = _; unfold takeE; rw [if_pos hk]
    obtain ⟨E, hE⟩ : ∃ E, E = atkE now t := ⟨_, rfl⟩
    rw [← hE] at hk hk1 HE ⊢
    clear hE
    have HB := (show Hid _ from hb1)
    clear hb1
    go_wp2
    go_ret2
    obtain ⟨h, b0, stB, hcW⟩ := HH.out
    exact ⟨kd, now, D, E, [], none, 0, 0, .inl ⟨by rw [HE.out]; exact hk, rfl, rfl, HE.out.symm, rfl⟩, hcW.below HB.out, GrowA.of_below (b0.trans (HB.out.mono b0.size)), rfl, FrsW.nil _ _ _⟩
  have hk : atkE now t = 0 := by omega
  rw [hk]
  obtain ⟨ht0, ht1, htn⟩ := atkE_ok hk
  obtain ⟨h, b0, stB, hcW⟩ := HH.out
  have hc1 := hcW.below hb1
  have hbw1 : Below w.heap.size w w1 := b0.trans (hb1.mono b0.size)
  have st1 := stB.below hb1
  obtain ⟨nv, hst, _⟩ := hc1.looks
  have HKC : Hid (w1.drew.cell? ⟨w.heap.size, 1, none⟩ = some (.int .u64 (fm : Nat)) ∧ w1.drew.cell? ⟨w.heap.size, 2, none⟩ = some (.int .u32 (fi : Nat)) ∧ w1.drew.cell? ⟨p, 1, none⟩ = some (.int .u32 (ip : Nat))) := ⟨st1.cell 1 _ rfl, st1.cell 2 _ rfl, hst.cell 1 _ rfl⟩
  have HC1 := (show Hid _ from And.intro hc1 (And.intro hbw1 st1))
  have HOC := (show Hid _ from fun W => oneCard_any fm W)
  have HFR := (show Hid _ from h.fresh)
  have HSL : Hid (Srt D ∧ D.length ≤ 8) := ⟨h.srt, h.len⟩
  clear h b0 stB hcW hb1 hc1 hbw1 st1 hst HH
  have HTK := (show Hid _ from hk)
  clear hk
  by_cases hfe : fi = ip
  · have hfe1 : ((fi : Int) == (ip : Int)) = true := by simp; omega
    have hfe2 : (fi : Int) = (ip : Int) := by omega
    go_wp2_with fail
    refine wp_region_fixW mixedX (fun V => V = w1.drew) [(19, .pointer (some ⟨w.heap.size, 2, none⟩)), (20, .int .u32 (fi : Nat)), (21, .pointer (some ⟨p, 0, none⟩)), (22, .pointer (some ⟨p, 0, none⟩)), (23, .pointer (some ⟨p, 1, none⟩)), (24, .int .u32 (ip : Nat)), (25, .bool true), (26, .bool true), (27, undef), (28, undef), (29, undef), (30, undef), (31, .bool true)] ?Z1 ?hZ1 (by kernel_rfl) (by kernel_rfl) (by kernel_rfl) (by kernel_rfl) ?h01 ?hops1 ?he1
    case hZ1 => simp only [List.foldl_cons, List.foldl_nil, List.setIfInBounds_toArray, List.set_cons_zero, List.set_cons_succ]; rfl
    case h01 => rfl
    case hops1 =>
      refine ⟨?_, ?_, ?_, ?_, ?_, ?_, ?_, ?_, ?_, ?_, ?_, ?_, ?_, trivial⟩
      · exact fix_val (by rfl) (fun W hW => by subst hW; obtain ⟨d0, d1, d2⟩ := HKC.out; go_simp; (try with_reducible rfl); (try omega))
      · exact fix_val (by rfl) (fun W hW => by subst hW; obtain ⟨d0, d1, d2⟩ := HKC.out; go_simp; (try with_reducible rfl); (try omega))
      · exact fix_val (by rfl) (fun W hW => by subst hW; obtain ⟨d0, d1, d2⟩ := HKC.out; go_simp; (try with_reducible rfl); (try omega))
      · exact fix_val (by rfl) (fun W hW => by subst hW; obtain ⟨d0, d1, d2⟩ := HKC.out; go_simp; (try with_reducible rfl); (try omega))
      · exact fix_val (by rfl) (fun W hW => by subst hW; obtain ⟨d0, d1, d2⟩ := HKC.out; go_simp; (try with_reducible rfl); (try omega))
      · exact fix_val (by rfl) (fun W hW => by subst hW; obtain ⟨d0, d1, d2⟩ := HKC.out; go_simp; (try with_reducible rfl); (try omega))
      · exact fix_val (by rfl) (fun W hW => by subst hW; obtain ⟨d0, d1, d2⟩ := HKC.out; go_simp; (try with_reducible rfl); (try omega))
      · exact fix_val (by rfl) (fun W hW => by subst hW; obtain ⟨d0, d1, d2⟩ := HKC.out; go_simp; (try with_reducible rfl); (try omega))
      · exact fix_off (by rfl) (fun d hd => by cases hd; rfl)
      · exact fix_off (by rfl) (fun d hd => by cases hd; rfl)
      · exact fix_off (by rfl) (fun d hd => by cases hd; rfl)
      · exact fix_off (by rfl) (fun d hd => by cases hd; rfl)
      · exact fix_val (by rfl) (fun W hW => by subst hW; obtain ⟨d0, d1, d2⟩ := HKC.out; go_simp; (try with_reducible rfl); (try omega))
    case he1 =>
    intro V hV
    have HV := (show Hid _ from hV)
    clear hV
    go_wp2
    go_ret2
    have HE : takeE now t ip fi fm = 12 := by unfold takeE; rw [if_neg (by rw [HTK.out]; simp), if_pos (.inl hfe)]
    obtain ⟨hc1, hbw1, st1⟩ := HC1.out
    have bd : Below w1.heap.size w1 V := by rw [HV.out]; exact (Below.refl _ _).drew
    exact ⟨kd, now, D, 12, [], none, 0, 0, .inl ⟨by rw [HE]; decide, rfl, rfl, HE.symm, rfl⟩, hc1.below bd, GrowA.of_below (hbw1.trans (bd.mono hbw1.size)), rfl, FrsW.nil _ _ _⟩
  have hfe1 : ((fi : Int) == (ip : Int)) = false := by simp; omega
  have hfe2 : ¬ (fi : Int) = (ip : Int) := by omega
  by_cases hfm : 281474976710655 ≤ fm
  · have HOF : Hid (∀ W, Calls Tryz.prog 170 #[.int .u64 (fm : Nat)] W fun e w' => e = .returned (.bool false) ∧ w' = W) := fun W => by
      have := HOC.out W
      rw [decide_eq_false (by omega)] at this
      exact this
    go_wp2_with fail
    refine wp_region_fixW mixedX (fun V => V = w1.drew) [(19, .pointer (some ⟨w.heap.size, 2, none⟩)), (20, .int .u32 (fi : Nat)), (21, .pointer (some ⟨p, 0, none⟩)), (22, .pointer (some ⟨p, 0, none⟩)), (23, .pointer (some ⟨p, 1, none⟩)), (24, .int .u32 (ip : Nat)), (25, .bool false), (26, .bool false), (27, .pointer (some ⟨w.heap.size, 1, none⟩)), (28, .int .u64 (fm : Nat)), (29, .bool false), (30, .bool true), (31, .bool true)] ?Z2 ?hZ2 (by kernel_rfl) (by kernel_rfl) (by kernel_rfl) (by kernel_rfl) ?h02 ?hops2 ?he2
    case hZ2 => simp only [List.foldl_cons, List.foldl_nil, List.setIfInBounds_toArray, List.set_cons_zero, List.set_cons_succ]; rfl
    case h02 => rfl
    case hops2 =>
      refine ⟨?_, ?_, ?_, ?_, ?_, ?_, ?_, ?_, ?_, ?_, ?_, ?_, ?_, trivial⟩
      · exact fix_val (by rfl) (fun W hW => by subst hW; obtain ⟨d0, d1, d2⟩ := HKC.out; go_simp; (try with_reducible rfl); (try omega))
      · exact fix_val (by rfl) (fun W hW => by subst hW; obtain ⟨d0, d1, d2⟩ := HKC.out; go_simp; (try with_reducible rfl); (try omega))
      · exact fix_val (by rfl) (fun W hW => by subst hW; obtain ⟨d0, d1, d2⟩ := HKC.out; go_simp; (try with_reducible rfl); (try omega))
      · exact fix_val (by rfl) (fun W hW => by subst hW; obtain ⟨d0, d1, d2⟩ := HKC.out; go_simp; (try with_reducible rfl); (try omega))
      · exact fix_val (by rfl) (fun W hW => by subst hW; obtain ⟨d0, d1, d2⟩ := HKC.out; go_simp; (try with_reducible rfl); (try omega))
      · exact fix_val (by rfl) (fun W hW => by subst hW; obtain ⟨d0, d1, d2⟩ := HKC.out; go_simp; (try with_reducible rfl); (try omega))
      · exact fix_val (by rfl) (fun W hW => by subst hW; obtain ⟨d0, d1, d2⟩ := HKC.out; go_simp; (try with_reducible rfl); (try omega))
      · exact fix_val (by rfl) (fun W hW => by subst hW; obtain ⟨d0, d1, d2⟩ := HKC.out; go_simp; (try with_reducible rfl); (try omega))
      · exact fix_val (by rfl) (fun W hW => by subst hW; obtain ⟨d0, d1, d2⟩ := HKC.out; go_simp; (try with_reducible rfl); (try omega))
      · exact fix_val (by rfl) (fun W hW => by subst hW; obtain ⟨d0, d1, d2⟩ := HKC.out; go_simp; (try with_reducible rfl); (try omega))
      · exact fix_call (vs := [.int .u64 (fm : Nat)]) (by rfl) rfl (by rfl) Tryz.func170 (by rfl) (by rfl) (fun W hW => by subst hW; exact HOF.out _)
      · exact fix_val (by rfl) (fun W hW => by subst hW; obtain ⟨d0, d1, d2⟩ := HKC.out; go_simp; (try with_reducible rfl); (try omega))
      · exact fix_val (by rfl) (fun W hW => by subst hW; obtain ⟨d0, d1, d2⟩ := HKC.out; go_simp; (try with_reducible rfl); (try omega))
    case he2 =>
    intro V hV
    have HV := (show Hid _ from hV)
    clear hV
    go_wp2
    go_ret2
    have HE : takeE now t ip fi fm = 12 := by unfold takeE; rw [if_neg (by rw [HTK.out]; simp), if_pos (.inr hfm)]
    obtain ⟨hc1, hbw1, st1⟩ := HC1.out
    have bd : Below w1.heap.size w1 V := by rw [HV.out]; exact (Below.refl _ _).drew
    exact ⟨kd, now, D, 12, [], none, 0, 0, .inl ⟨by rw [HE]; decide, rfl, rfl, HE.symm, rfl⟩, hc1.below bd, GrowA.of_below (hbw1.trans (bd.mono hbw1.size)), rfl, FrsW.nil _ _ _⟩
  have hfm2 : fm < 281474976710655 := by omega
  have HEO : Hid (takeE now t ip fi fm = 0) := by show _ = _; unfold takeE; rw [if_neg (by rw [HTK.out]; simp), if_neg (by omega)]
  have HOF : Hid (∀ W, Calls Tryz.prog 170 #[.int .u64 (fm : Nat)] W fun e w' => e = .returned (.bool true) ∧ w' = W) := fun W => by
    have := HOC.out W
    rw [decide_eq_true hfm2] at this
    exact this
  clear HOC hfm
  go_wp2_with fail
  refine wp_region_fixW mixedX (fun V => V = w1.drew) [(19, .pointer (some ⟨w.heap.size, 2, none⟩)), (20, .int .u32 (fi : Nat)), (21, .pointer (some ⟨p, 0, none⟩)), (22, .pointer (some ⟨p, 0, none⟩)), (23, .pointer (some ⟨p, 1, none⟩)), (24, .int .u32 (ip : Nat)), (25, .bool false), (26, .bool false), (27, .pointer (some ⟨w.heap.size, 1, none⟩)), (28, .int .u64 (fm : Nat)), (29, .bool true), (30, .bool false), (31, .bool false)] ?Z3 ?hZ3 (by kernel_rfl) (by kernel_rfl) (by kernel_rfl) (by kernel_rfl) ?h03 ?hops3 ?he3
  case hZ3 => simp only [List.foldl_cons, List.foldl_nil, List.setIfInBounds_toArray, List.set_cons_zero, List.set_cons_succ]; rfl
  case h03 => rfl
  case hops3 =>
    refine ⟨?_, ?_, ?_, ?_, ?_, ?_, ?_, ?_, ?_, ?_, ?_, ?_, ?_, trivial⟩
    · exact fix_val (by rfl) (fun W hW => by subst hW; obtain ⟨d0, d1, d2⟩ := HKC.out; go_simp; (try with_reducible rfl); (try omega))
    · exact fix_val (by rfl) (fun W hW => by subst hW; obtain ⟨d0, d1, d2⟩ := HKC.out; go_simp; (try with_reducible rfl); (try omega))
    · exact fix_val (by rfl) (fun W hW => by subst hW; obtain ⟨d0, d1, d2⟩ := HKC.out; go_simp; (try with_reducible rfl); (try omega))
    · exact fix_val (by rfl) (fun W hW => by subst hW; obtain ⟨d0, d1, d2⟩ := HKC.out; go_simp; (try with_reducible rfl); (try omega))
    · exact fix_val (by rfl) (fun W hW => by subst hW; obtain ⟨d0, d1, d2⟩ := HKC.out; go_simp; (try with_reducible rfl); (try omega))
    · exact fix_val (by rfl) (fun W hW => by subst hW; obtain ⟨d0, d1, d2⟩ := HKC.out; go_simp; (try with_reducible rfl); (try omega))
    · exact fix_val (by rfl) (fun W hW => by subst hW; obtain ⟨d0, d1, d2⟩ := HKC.out; go_simp; (try with_reducible rfl); (try omega))
    · exact fix_val (by rfl) (fun W hW => by subst hW; obtain ⟨d0, d1, d2⟩ := HKC.out; go_simp; (try with_reducible rfl); (try omega))
    · exact fix_val (by rfl) (fun W hW => by subst hW; obtain ⟨d0, d1, d2⟩ := HKC.out; go_simp; (try with_reducible rfl); (try omega))
    · exact fix_val (by rfl) (fun W hW => by subst hW; obtain ⟨d0, d1, d2⟩ := HKC.out; go_simp; (try with_reducible rfl); (try omega))
    · exact fix_call (vs := [.int .u64 (fm : Nat)]) (by rfl) rfl (by rfl) Tryz.func170 (by rfl) (by rfl) (fun W hW => by subst hW; exact HOF.out _)
    · exact fix_val (by rfl) (fun W hW => by subst hW; obtain ⟨d0, d1, d2⟩ := HKC.out; go_simp; (try with_reducible rfl); (try omega))
    · exact fix_val (by rfl) (fun W hW => by subst hW; obtain ⟨d0, d1, d2⟩ := HKC.out; go_simp; (try with_reducible rfl); (try omega))
  case he3 =>
  intro V hV
  obtain ⟨hc1, hbw1, st1⟩ := HC1.out
  have bd : Below w1.heap.size w1 V := by rw [hV]; exact (Below.refl _ _).drew
  have hbV : Below w.heap.size w V := hbw1.trans (bd.mono hbw1.size)
  have hcV := hc1.below bd
  have stV := st1.below bd
  clear hV HKC HC1 HOF hc1 hbw1 st1 bd
  obtain ⟨nvV, hstV, _⟩ := hcV.looks
  have e2 := hstV.cell 2 _ rfl
  have f2 := hstV.free 2
  have hpV := hstV.lt
  obtain ⟨V2, hV2⟩ : ∃ V2, V2 = V.setCell ⟨p, 2, none⟩ (.int .i64 t) := ⟨_, rfl⟩
  have hc2 : CaW V2 kd p mac ip t lost D := by rw [hV2]; exact hcV.tick t htn ht1
  have hf2 : Fr (fun k => k = p) V V2 := by rw [hV2]; exact Fr.setCell _ _ _ _ rfl
  have hkp := hcV.kp
  have hg2 : GrowA kd kd w V2 := (GrowA.of_below hbV).trans (GrowA.of_fr hf2 (fun g _ e => by rw [e, hkp]; exact fun e => (by cases e)))
  have hne : ¬ w.heap.size = p := by omega
  have st2 := stV.fr hf2 hne
  obtain ⟨nv2, hst2, hlk2⟩ := hc2.looks
  have HSV : Hid (∀ V3, Below V2.drew.heap.size V2.drew V3 → V3.cell? ⟨p, 3, none⟩ = some nv2 ∧ V3.cell? ⟨w.heap.size, 2, none⟩ = some (.int .u32 (fi : Nat)) ∧ (Instr.lookup 167 nv2 (.int .u32 (fi : Nat)) true).run Tryz.prog V3 = .ok (.tuple #[(nbAt D fi).v, .bool (lookD D fi).isSome]) V3) := fun V3 hb => ⟨((hst2.below (Below.refl _ _).drew).below hb).cell 3 _ rfl, ((st2.below (Below.refl _ _).drew).below hb).cell 2 _ rfl, by
    have := hlk2 V3 ((Below.refl _ _).drew.trans hb) fi hfi true
    simpa using this⟩
  have HC2 := (show Hid _ from And.intro hc2 (And.intro hg2 st2))
  clear hcV stV hbV hc2 hg2 st2 hf2 hst2 hlk2 hstV
  obtain ⟨x, hx⟩ : ∃ x, x = nbAt D fi := ⟨_, rfl⟩
  obtain ⟨ok, hok⟩ : ∃ ok, ok = (lookD D fi).isSome := ⟨_, rfl⟩
  rw [← hx, ← hok] at HSV
  have HOK := (show Hid _ from hok)
  have HXX := (show Hid _ from hx)
  clear hok hx
  obtain ⟨kn, nm, at_, ak, wa, wn, wc, ws⟩ := x
  unfold Nbr.v at HSV
  dsimp only at HSV
  go_wp2_with fail
  rw [← hV2]
  clear hV2 e2 f2
  refine wp_region_stage mixedX [10, 11] (fun stgN W => match stgN with | 0 => W = V2.drew | 1 => W = V2.drew.alloc (.cells #[.bool false, .int .u64 0, .int .i64 0, .int .i64 0, .slice none 0 0] 166) | _ => W = V2.drew.alloc (.cells #[.bool kn, .int .u64 (nm : Nat), .int .i64 at_, .int .i64 ak, .slice wa wn wc] 166)) (fun W => Below V2.drew.heap.size V2.drew W) [(37, .pointer (some ⟨p, 0, none⟩)), (38, .pointer (some ⟨p, 0, none⟩)), (39, .pointer (some ⟨p, 3, none⟩)), (40, nv2), (41, .pointer (some ⟨w.heap.size, 2, none⟩)), (42, .int .u32 (fi : Nat)), (43, .tuple #[.agg #[.bool kn, .int .u64 (nm : Nat), .int .i64 at_, .int .i64 ak, .slice wa wn wc], .bool ok]), (36, .tuple #[.agg #[.bool kn, .int .u64 (nm : Nat), .int .i64 at_, .int .i64 ak, .slice wa wn wc], .bool ok]), (44, .agg #[.bool kn, .int .u64 (nm : Nat), .int .i64 at_, .int .i64 ak, .slice wa wn wc]), (45, .bool ok), (10, .pointer (some ⟨V2.drew.heap.size, 0, none⟩)), (11, .bool ok)] ?Z101 ?hZ101 (by kernel_rfl) (by kernel_rfl) (by kernel_rfl) (by kernel_rfl) (by kernel_rfl) ?h0101 ?hS101 (.inr ?hl101) ?hops101 ?he101 (by kernel_rfl) (by decide)
  case hZ101 => simp only [List.foldl_cons, List.foldl_nil, List.setIfInBounds_toArray, List.set_cons_zero, List.set_cons_succ]; rfl
  case h0101 => rfl
  case hS101 =>
    intro k W hk hW
    have hk : k < 2 := hk
    obtain rfl | rfl : k = 0 ∨ k = 1 := by omega
    · have hW : W = V2.drew := hW; rw [hW]; exact Below.refl _ _
    · have hW : W = V2.drew.alloc (.cells #[.bool false, .int .u64 0, .int .i64 0, .int .i64 0, .slice none 0 0] 166) := hW; rw [hW]; exact (Below.refl _ _).alloc (Nat.le_refl _) _
  case hl101 =>
    intro W hW
    have hW : W = V2.drew.alloc (.cells #[.bool kn, .int .u64 (nm : Nat), .int .i64 at_, .int .i64 ak, .slice wa wn wc] 166) := hW; rw [hW]; exact (Below.refl _ _).alloc (Nat.le_refl _) _
  case hops101 =>
    refine ⟨?_, ?_, ?_, ?_, ?_, ?_, ?_, ?_, ?_, ?_, ?_, ?_, ?_, trivial⟩
    · exact stg_val (by rfl) (by rfl) (fun W hW => by obtain ⟨d0, d1, d2⟩ := HSV.out W hW; go_simp; (try with_reducible rfl); (try omega))
    · exact stg_val (by rfl) (by rfl) (fun W hW => by obtain ⟨d0, d1, d2⟩ := HSV.out W hW; go_simp; (try with_reducible rfl); (try omega))
    · exact stg_val (by rfl) (by rfl) (fun W hW => by obtain ⟨d0, d1, d2⟩ := HSV.out W hW; go_simp; (try with_reducible rfl); (try omega))
    · exact stg_val (by rfl) (by rfl) (fun W hW => by obtain ⟨d0, d1, d2⟩ := HSV.out W hW; go_simp; (try with_reducible rfl); (try omega))
    · exact stg_val (by rfl) (by rfl) (fun W hW => by obtain ⟨d0, d1, d2⟩ := HSV.out W hW; go_simp; (try with_reducible rfl); (try omega))
    · exact stg_val (by rfl) (by rfl) (fun W hW => by obtain ⟨d0, d1, d2⟩ := HSV.out W hW; go_simp; (try with_reducible rfl); (try omega))
    · exact stg_val (by rfl) (by rfl) (fun W hW => by obtain ⟨d0, d1, d2⟩ := HSV.out W hW; go_simp; (try with_reducible rfl); (try omega))
    · exact stg_val (by rfl) (by rfl) (fun W hW => by obtain ⟨d0, d1, d2⟩ := HSV.out W hW; go_simp; (try with_reducible rfl); (try omega))
    · exact stg_val (by rfl) (by rfl) (fun W hW => by obtain ⟨d0, d1, d2⟩ := HSV.out W hW; go_simp; (try with_reducible rfl); (try omega))
    · exact stg_val (by rfl) (by rfl) (fun W hW => by obtain ⟨d0, d1, d2⟩ := HSV.out W hW; go_simp; (try with_reducible rfl); (try omega))
    · exact stg_run (by rfl) (by rfl) (fun W hW => by have hW : W = V2.drew := hW; subst hW; exact ⟨_, run_allocX rfl zeroN, rfl⟩)
    · exact stg_skip (by rfl) (by rfl) rfl (fun W hW => by have hW : W = V2.drew.alloc (.cells #[.bool false, .int .u64 0, .int .i64 0, .int .i64 0, .slice none 0 0] 166) := hW; subst hW; refine ⟨V2.drew.alloc (.cells #[.bool kn, .int .u64 (nm : Nat), .int .i64 at_, .int .i64 ak, .slice wa wn wc] 166), ?_, rfl⟩; go_simp)
    · exact stg_val (by rfl) (by rfl) (fun W hW => by obtain ⟨d0, d1, d2⟩ := HSV.out W hW; go_simp; (try with_reducible rfl); (try omega))
  case he101 =>
  intro V3 hV3
  have hV3 : V3 = V2.drew.alloc (.cells #[.bool kn, .int .u64 (nm : Nat), .int .i64 at_, .int .i64 ak, .slice wa wn wc] 166) := hV3
  have hb3 : Below V2.heap.size V2 V3 := by rw [hV3]; exact (Below.refl _ _).drew.alloc (Nat.le_refl _) _
  obtain ⟨hc2, hg2, st2⟩ := HC2.out
  have hc3 := hc2.below hb3
  have hg3 : GrowA kd kd w V3 := hg2.trans (GrowA.of_below hb3)
  have st3 := st2.below hb3
  obtain ⟨nv3, hst3, _⟩ := hc3.looks
  have HK9 : Hid (V3.drew.cell? ⟨w.heap.size, 4, none⟩ = some (.int .u32 (ti : Nat)) ∧ V3.drew.cell? ⟨p, 1, none⟩ = some (.int .u32 (ip : Nat))) := ⟨st3.cell 4 _ rfl, hst3.cell 1 _ rfl⟩
  have HC3 := (show Hid _ from And.intro hc3 (And.intro hg3 st3))
  clear hV3 hb3 hc2 hg2 st2 hc3 hg3 st3 hst3 HC2 HSV
  by_cases hti2 : ti = ip
  · have hti1 : ((ti : Int) == (ip : Int)) = true := by simp; omega
    have hti3 : (ti : Int) = (ip : Int) := by omega
    go_wp2_with fail
    refine wp_region_fixW mixedX (fun V => V = V3.drew) [(46, .pointer (some ⟨w.heap.size, 4, none⟩)), (47, .int .u32 (ti : Nat)), (48, .pointer (some ⟨p, 0, none⟩)), (49, .pointer (some ⟨p, 0, none⟩)), (50, .pointer (some ⟨p, 1, none⟩)), (51, .int .u32 (ip : Nat)), (52, .bool true), (12, .bool true)] ?Z4 ?hZ4 (by kernel_rfl) (by kernel_rfl) (by kernel_rfl) (by kernel_rfl) ?h04 ?hops4 ?he4
    case hZ4 => simp only [List.foldl_cons, List.foldl_nil, List.setIfInBounds_toArray, List.set_cons_zero, List.set_cons_succ]; rfl
    case h04 => rfl
    case hops4 =>
      refine ⟨?_, ?_, ?_, ?_, ?_, ?_, ?_, ?_, trivial⟩
      · exact fix_val (by rfl) (fun W hW => by subst hW; obtain ⟨d0, d1⟩ := HK9.out; go_simp; (try with_reducible rfl); (try omega))
      · exact fix_val (by rfl) (fun W hW => by subst hW; obtain ⟨d0, d1⟩ := HK9.out; go_simp; (try with_reducible rfl); (try omega))
      · exact fix_val (by rfl) (fun W hW => by subst hW; obtain ⟨d0, d1⟩ := HK9.out; go_simp; (try with_reducible rfl); (try omega))
      · exact fix_val (by rfl) (fun W hW => by subst hW; obtain ⟨d0, d1⟩ := HK9.out; go_simp; (try with_reducible rfl); (try omega))
      · exact fix_val (by rfl) (fun W hW => by subst hW; obtain ⟨d0, d1⟩ := HK9.out; go_simp; (try with_reducible rfl); (try omega))
      · exact fix_val (by rfl) (fun W hW => by subst hW; obtain ⟨d0, d1⟩ := HK9.out; go_simp; (try with_reducible rfl); (try omega))
      · exact fix_val (by rfl) (fun W hW => by subst hW; obtain ⟨d0, d1⟩ := HK9.out; go_simp; (try with_reducible rfl); (try omega))
      · exact fix_val (by rfl) (fun W hW => by subst hW; obtain ⟨d0, d1⟩ := HK9.out; go_simp; (try with_reducible rfl); (try omega))
    case he4 =>
    intro V hV
    obtain ⟨hc3, hg3, st3⟩ := HC3.out
    have bd : Below V3.heap.size V3 V := by rw [hV]; exact (Below.refl _ _).drew
    have hcV := hc3.below bd
    have hgV : GrowA kd kd w V := hg3.trans (GrowA.of_below bd)
    have stV := st3.below bd
    clear hV HK9 HC3 hc3 hg3 st3 bd
    have HWF : Hid ((wsF mac fm (nbAt D fi)).length ≤ 1000) := by
      show _ ≤ _
      unfold wsF nbAt
      rw [List.length_map]
      cases hl : lookD D fi with
      | none => show 0 ≤ 1000; omega
      | some y => have := (hcV.each _ (lookD_mem hl)).2.1.len; show y.ws.length ≤ 1000; dsimp only at this; omega
    have hkb : kd w.heap.size = .no := by
      cases e : kd w.heap.size with
      | no => rfl
      | _ => exact absurd (HFR.out _ (Nat.le_refl _)) (by rw [e]; exact fun e2 => (by cases e2))
    cases ok with
    | true =>
      have hl1 := HOK.out.symm
      have q1 := stV.cell 1 _ rfl
      have q2 := stV.cell 2 _ rfl
      have HLN := (show Hid _ from learn_any hcV fi fm hfi hfm2 (.inl hl1))
      have HCL := (show Hid _ from And.intro hgV (And.intro hkb stV))
      have HD : Hid (takeD ip D fi fm ti t = putD D fi (knX fm t)) := by show _ = _; unfold takeD; rw [if_pos hl1]
      obtain ⟨F5, hF5⟩ : ∃ F5, F5 = wsF mac fm (nbAt D fi) := ⟨_, rfl⟩
      rw [← hF5] at HLN
      have HF : Hid (wsF mac fm (nbAt D fi) = F5) := hF5.symm
      clear hF5 hcV hgV stV hkb hl1
      go_wp2_with fail
      refine Calls.mono HLN.out ?_
      rintro e w5 ⟨kd5, a5, n5, c5, hc5, hg5, rfl, hfs5⟩
      have st5 := HCL.out.2.2.fr hg5.fr (fun e => e HCL.out.2.1)
      have HC5 : Hid _ := And.intro hc5 (And.intro (HCL.out.1.trans hg5) (And.intro (⟨hfs5.ex.choose, hfs5.ex.choose_spec.1, hfs5.ex.choose_spec.2.1.base HCL.out.1.fr.size, hfs5.ex.choose_spec.2.2.1, fun b hb => ⟨(hfs5.ex.choose_spec.2.2.2 b hb).1, fun g off e => ⟨((hfs5.ex.choose_spec.2.2.2 b hb).2 g off e).1, Nat.le_trans HCL.out.1.fr.size ((hfs5.ex.choose_spec.2.2.2 b hb).2 g off e).2.1, ((hfs5.ex.choose_spec.2.2.2 b hb).2 g off e).2.2⟩⟩⟩ : FrsW w5 kd5 w.heap.size a5 n5 c5 _) st5))
      clear hc5 hg5 hfs5 st5 HLN HCL
      have k0 := HC5.out.2.2.2.cell 0 _ rfl
      have k1 := HC5.out.2.2.2.cell 1 _ rfl
      have k2 := HC5.out.2.2.2.cell 2 _ rfl
      by_cases hop : op = 1
      · have hop1 : (op == 1) = true := by simp [hop]
        obtain ⟨nv5, hst5, _⟩ := HC5.out.1.looks
        have HTL := (show Hid _ from tell_any hst5 (by have := HC5.out.1.mac1; omega) HC5.out.1.ip1 2 fm fm fi (.inr rfl) (by omega) (by omega) hfi)
        clear hst5
        obtain ⟨L, hL⟩ : ∃ L, L = epV fm mac 2054 (arpB 2 mac ip fm fi) := ⟨_, rfl⟩
        have HLL := (show Hid _ from hL)
        have hLl : L.length ≤ 1600 := by rw [hL]; exact epV_le _ _ _ _ (by rw [arpB_len]; omega)
        rw [← hL] at HTL
        have HOP := (show Hid _ from hop)
        clear hL hop
        go_wp2_with fail
        refine Calls.mono HTL.out ?_
        rintro e w6 ⟨⟨a6, c6, rfl, hr6⟩, hb6⟩
        obtain ⟨hc5, hg5, hfs5, st5⟩ := HC5.out
        have hn5 : n5 ≤ 1000 := by rw [hfs5.len, ← HF.out]; exact HWF.out
        obtain ⟨g7, c7, w7, hr7, hfs7, hf7⟩ := FrsW.app (hfs5.below hb6) (hr6.base hg5.fr.size) (by omega) (fun g hg => hc5.fresh g (hr6.own.lt g hg).1) (hc5.below hb6).fresh (Nat.le_trans hg5.fr.size hb6.size) hn5 115
        have HZ := (show Hid _ from And.intro hfs7 (And.intro hf7 hb6))
        clear hc5 hg5 hfs5 st5 hr6 hb6 hfs7 hf7
        go_wp2_with (at_builtin; refine app_eq_list rfl _ _ rfl rfl rfl rfl hr7 ?_)
        go_ret2
        obtain ⟨hc5, hg5, hfs5, st5⟩ := HC5.out
        obtain ⟨hfs7, hf7, hb6⟩ := HZ.out
        refine ⟨kd5, t, _, 0, _, _, _, c7, .inr ⟨HEO.out, rfl, HD.out.symm, rfl, ?_⟩, (hc5.below hb6).fr hf7 (fun g _ e => .inl e.1), ?_, rfl, hfs7⟩
        · unfold takeF
          rw [if_pos ⟨hti2, HOP.out⟩, HF.out, HLL.out]
        · refine ⟨⟨?_, ?_, ?_, ?_, ?_⟩, hg5.no⟩
          · exact (hf7.os.trans hb6.os).trans hg5.fr.os
          · exact (hf7.tape.trans hb6.tape).trans hg5.fr.tape
          · exact (hf7.output.trans hb6.output).trans hg5.fr.output
          · exact Nat.le_trans hg5.fr.size (Nat.le_trans hb6.size hf7.size)
          · intro k hk hn
            have hk5 := Nat.lt_of_lt_of_le hk hg5.fr.size
            exact ((hf7.block k (Nat.lt_of_lt_of_le hk5 hb6.size) (fun e => by omega)).trans (hb6.block k hk5)).trans (hg5.fr.block k hk hn)
      · have hop1 : (op == 1) = false := by simp [hop]
        go_wp2
        go_ret2
        obtain ⟨hc5, hg5, hfs5, st5⟩ := HC5.out
        exact ⟨kd5, t, _, 0, _, a5, n5, c5, .inr ⟨HEO.out, rfl, HD.out.symm, rfl, by unfold takeF; rw [if_neg (fun e => hop e.2), List.append_nil]; exact HF.out.symm⟩, hc5, hg5, rfl, hfs5⟩
    | false =>
      have HLN0 : Hid (lookD D fi = none) := by
        show _ = _
        cases hl : lookD D fi with
        | none => rfl
        | some y => have := HOK.out; rw [hl] at this; cases this
      have HRM := (show Hid _ from room_any hcV)
      have HCV := (show Hid _ from And.intro hgV (And.intro hkb stV))
      clear hcV hgV stV hkb
      go_wp2_with fail
      refine Calls.mono HRM.out ?_
      rintro e w4 ⟨rfl, hc4, hg4⟩
      have hg4w := HCV.out.1.trans hg4
      have st4 := HCV.out.2.2.fr hg4.fr (fun e => e HCV.out.2.1)
      have hkb := HCV.out.2.1
      clear HCV HRM hg4
      cases hrb : roomB D with
      | true =>
        have q1 := st4.cell 1 _ rfl
        have q2 := st4.cell 2 _ rfl
        have HLN := (show Hid _ from learn_any hc4 fi fm hfi hfm2 (.inr (room_len HSL.out.1 HSL.out.2 hrb)))
        rw [wsF_none (room_look HSL.out.1 HLN0.out)] at HLN
        have HCL := (show Hid _ from And.intro hg4w (And.intro hkb st4))
        have HD : Hid (takeD ip D fi fm ti t = putD (roomD D) fi (knX fm t)) := by show _ = _; unfold takeD; rw [HLN0.out, if_neg (by simp), if_pos ⟨hti2, hrb⟩]
        have HF : Hid (wsF mac fm (nbAt D fi) = []) := wsF_none HLN0.out
        clear hc4 hg4w st4 hkb hrb
        go_wp2_with fail
        refine Calls.mono HLN.out ?_
        rintro e w5 ⟨kd5, a5, n5, c5, hc5, hg5, rfl, hfs5⟩
        have st5 := HCL.out.2.2.fr hg5.fr (fun e => e HCL.out.2.1)
        have HC5 : Hid _ := And.intro hc5 (And.intro (HCL.out.1.trans hg5) (And.intro (⟨hfs5.ex.choose, hfs5.ex.choose_spec.1, hfs5.ex.choose_spec.2.1.base HCL.out.1.fr.size, hfs5.ex.choose_spec.2.2.1, fun b hb => ⟨(hfs5.ex.choose_spec.2.2.2 b hb).1, fun g off e => ⟨((hfs5.ex.choose_spec.2.2.2 b hb).2 g off e).1, Nat.le_trans HCL.out.1.fr.size ((hfs5.ex.choose_spec.2.2.2 b hb).2 g off e).2.1, ((hfs5.ex.choose_spec.2.2.2 b hb).2 g off e).2.2⟩⟩⟩ : FrsW w5 kd5 w.heap.size a5 n5 c5 _) st5))
        clear hc5 hg5 hfs5 st5 HLN HCL
        have k0 := HC5.out.2.2.2.cell 0 _ rfl
        have k1 := HC5.out.2.2.2.cell 1 _ rfl
        have k2 := HC5.out.2.2.2.cell 2 _ rfl
        by_cases hop : op = 1
        · have hop1 : (op == 1) = true := by simp [hop]
          obtain ⟨nv5, hst5, _⟩ := HC5.out.1.looks
          have HTL := (show Hid _ from tell_any hst5 (by have := HC5.out.1.mac1; omega) HC5.out.1.ip1 2 fm fm fi (.inr rfl) (by omega) (by omega) hfi)
          clear hst5
          obtain ⟨L, hL⟩ : ∃ L, L = epV fm mac 2054 (arpB 2 mac ip fm fi) := ⟨_, rfl⟩
          have HLL := (show Hid _ from hL)
          have hLl : L.length ≤ 1600 := by rw [hL]; exact epV_le _ _ _ _ (by rw [arpB_len]; omega)
          rw [← hL] at HTL
          have HOP := (show Hid _ from hop)
          clear hL hop
          go_wp2_with fail
          refine Calls.mono HTL.out ?_
          rintro e w6 ⟨⟨a6, c6, rfl, hr6⟩, hb6⟩
          obtain ⟨hc5, hg5, hfs5, st5⟩ := HC5.out
          have hn5 : n5 ≤ 1000 := by rw [hfs5.len, ← HF.out]; exact HWF.out
          obtain ⟨g7, c7, w7, hr7, hfs7, hf7⟩ := FrsW.app (hfs5.below hb6) (hr6.base hg5.fr.size) (by omega) (fun g hg => hc5.fresh g (hr6.own.lt g hg).1) (hc5.below hb6).fresh (Nat.le_trans hg5.fr.size hb6.size) hn5 115
          have HZ := (show Hid _ from And.intro hfs7 (And.intro hf7 hb6))
          clear hc5 hg5 hfs5 st5 hr6 hb6 hfs7 hf7
          go_wp2_with (at_builtin; refine app_eq_list rfl _ _ rfl rfl rfl rfl hr7 ?_)
          go_ret2
          obtain ⟨hc5, hg5, hfs5, st5⟩ := HC5.out
          obtain ⟨hfs7, hf7, hb6⟩ := HZ.out
          refine ⟨kd5, t, _, 0, _, _, _, c7, .inr ⟨HEO.out, rfl, HD.out.symm, rfl, ?_⟩, (hc5.below hb6).fr hf7 (fun g _ e => .inl e.1), ?_, rfl, hfs7⟩
          · unfold takeF
            rw [if_pos ⟨hti2, HOP.out⟩, HF.out, HLL.out]
          · refine ⟨⟨?_, ?_, ?_, ?_, ?_⟩, hg5.no⟩
            · exact (hf7.os.trans hb6.os).trans hg5.fr.os
            · exact (hf7.tape.trans hb6.tape).trans hg5.fr.tape
            · exact (hf7.output.trans hb6.output).trans hg5.fr.output
            · exact Nat.le_trans hg5.fr.size (Nat.le_trans hb6.size hf7.size)
            · intro k hk hn
              have hk5 := Nat.lt_of_lt_of_le hk hg5.fr.size
              exact ((hf7.block k (Nat.lt_of_lt_of_le hk5 hb6.size) (fun e => by omega)).trans (hb6.block k hk5)).trans (hg5.fr.block k hk hn)
        · have hop1 : (op == 1) = false := by simp [hop]
          go_wp2
          go_ret2
          obtain ⟨hc5, hg5, hfs5, st5⟩ := HC5.out
          exact ⟨kd5, t, _, 0, _, a5, n5, c5, .inr ⟨HEO.out, rfl, HD.out.symm, rfl, by unfold takeF; rw [if_neg (fun e => hop e.2), List.append_nil]; exact HF.out.symm⟩, hc5, hg5, rfl, hfs5⟩
      | false =>
        have hrd : roomD D = D := by
          unfold roomB at hrb
          unfold roomD
          split
          · rfl
          · cases ho : oldD D with
            | none => rfl
            | some y => rw [ho] at hrb; simp at hrb
        rw [hrd] at hc4
        have HD : Hid (takeD ip D fi fm ti t = D) := by show _ = _; unfold takeD; rw [HLN0.out, if_neg (by simp), if_neg (by rw [hrb]; simp)]
        have HF : Hid (wsF mac fm (nbAt D fi) = []) := wsF_none HLN0.out
        obtain ⟨kd5, hkd⟩ : ∃ kd5, kd5 = kd := ⟨_, rfl⟩
        have HC5 : Hid (CaW w4 kd5 p mac ip t lost D ∧ GrowA kd kd5 w w4 ∧ FrsW w4 kd5 w.heap.size none 0 0 [] ∧ Stc w4 w.heap.size [.int .i64 op, .int .u64 (fm : Nat), .int .u32 (fi : Nat), .int .u64 (tm : Nat), .int .u32 (ti : Nat)]) := by rw [hkd]; exact ⟨hc4, hg4w, FrsW.nil _ _ _, st4⟩
        clear hc4 hg4w st4 hkb hrd hkd hrb
        have k0 := HC5.out.2.2.2.cell 0 _ rfl
        have k1 := HC5.out.2.2.2.cell 1 _ rfl
        have k2 := HC5.out.2.2.2.cell 2 _ rfl
        by_cases hop : op = 1
        · have hop1 : (op == 1) = true := by simp [hop]
          obtain ⟨nv5, hst5, _⟩ := HC5.out.1.looks
          have HTL := (show Hid _ from tell_any hst5 (by have := HC5.out.1.mac1; omega) HC5.out.1.ip1 2 fm fm fi (.inr rfl) (by omega) (by omega) hfi)
          clear hst5
          obtain ⟨L, hL⟩ : ∃ L, L = epV fm mac 2054 (arpB 2 mac ip fm fi) := ⟨_, rfl⟩
          have HLL := (show Hid _ from hL)
          have hLl : L.length ≤ 1600 := by rw [hL]; exact epV_le _ _ _ _ (by rw [arpB_len]; omega)
          rw [← hL] at HTL
          have HOP := (show Hid _ from hop)
          clear hL hop
          go_wp2_with fail
          refine Calls.mono HTL.out ?_
          rintro e w6 ⟨⟨a6, c6, rfl, hr6⟩, hb6⟩
          obtain ⟨hc5, hg5, hfs5, st5⟩ := HC5.out
          have hn5 : 0 ≤ 1000 := by omega
          obtain ⟨g7, c7, w7, hr7, hfs7, hf7⟩ := FrsW.app (hfs5.below hb6) (hr6.base hg5.fr.size) (by omega) (fun g hg => hc5.fresh g (hr6.own.lt g hg).1) (hc5.below hb6).fresh (Nat.le_trans hg5.fr.size hb6.size) hn5 115
          have HZ := (show Hid _ from And.intro hfs7 (And.intro hf7 hb6))
          clear hc5 hg5 hfs5 st5 hr6 hb6 hfs7 hf7
          go_wp2_with (at_builtin; refine app_eq_list rfl _ _ rfl rfl rfl rfl hr7 ?_)
          go_ret2
          obtain ⟨hc5, hg5, hfs5, st5⟩ := HC5.out
          obtain ⟨hfs7, hf7, hb6⟩ := HZ.out
          refine ⟨kd5, t, _, 0, _, _, _, c7, .inr ⟨HEO.out, rfl, HD.out.symm, rfl, ?_⟩, (hc5.below hb6).fr hf7 (fun g _ e => .inl e.1), ?_, rfl, hfs7⟩
          · unfold takeF
            rw [if_pos ⟨hti2, HOP.out⟩, HF.out, HLL.out]
          · refine ⟨⟨?_, ?_, ?_, ?_, ?_⟩, hg5.no⟩
            · exact (hf7.os.trans hb6.os).trans hg5.fr.os
            · exact (hf7.tape.trans hb6.tape).trans hg5.fr.tape
            · exact (hf7.output.trans hb6.output).trans hg5.fr.output
            · exact Nat.le_trans hg5.fr.size (Nat.le_trans hb6.size hf7.size)
            · intro k hk hn
              have hk5 := Nat.lt_of_lt_of_le hk hg5.fr.size
              exact ((hf7.block k (Nat.lt_of_lt_of_le hk5 hb6.size) (fun e => by omega)).trans (hb6.block k hk5)).trans (hg5.fr.block k hk hn)
        · have hop1 : (op == 1) = false := by simp [hop]
          go_wp2
          go_ret2
          obtain ⟨hc5, hg5, hfs5, st5⟩ := HC5.out
          exact ⟨kd5, t, _, 0, _, none, 0, 0, .inr ⟨HEO.out, rfl, HD.out.symm, rfl, by unfold takeF; rw [if_neg (fun e => hop e.2), List.append_nil]; exact HF.out.symm⟩, hc5, hg5, rfl, hfs5⟩
  · have hti1 : ((ti : Int) == (ip : Int)) = false := by simp; omega
    have hti3 : ¬ (ti : Int) = (ip : Int) := by omega
    go_wp2_with fail
    refine wp_region_fixW mixedX (fun V => V = V3.drew) [(46, .pointer (some ⟨w.heap.size, 4, none⟩)), (47, .int .u32 (ti : Nat)), (48, .pointer (some ⟨p, 0, none⟩)), (49, .pointer (some ⟨p, 0, none⟩)), (50, .pointer (some ⟨p, 1, none⟩)), (51, .int .u32 (ip : Nat)), (52, .bool false), (12, .bool false)] ?Z5 ?hZ5 (by kernel_rfl) (by kernel_rfl) (by kernel_rfl) (by kernel_rfl) ?h05 ?hops5 ?he5
    case hZ5 => simp only [List.foldl_cons, List.foldl_nil, List.setIfInBounds_toArray, List.set_cons_zero, List.set_cons_succ]; rfl
    case h05 => rfl
    case hops5 =>
      refine ⟨?_, ?_, ?_, ?_, ?_, ?_, ?_, ?_, trivial⟩
      · exact fix_val (by rfl) (fun W hW => by subst hW; obtain ⟨d0, d1⟩ := HK9.out; go_simp; (try with_reducible rfl); (try omega))
      · exact fix_val (by rfl) (fun W hW => by subst hW; obtain ⟨d0, d1⟩ := HK9.out; go_simp; (try with_reducible rfl); (try omega))
      · exact fix_val (by rfl) (fun W hW => by subst hW; obtain ⟨d0, d1⟩ := HK9.out; go_simp; (try with_reducible rfl); (try omega))
      · exact fix_val (by rfl) (fun W hW => by subst hW; obtain ⟨d0, d1⟩ := HK9.out; go_simp; (try with_reducible rfl); (try omega))
      · exact fix_val (by rfl) (fun W hW => by subst hW; obtain ⟨d0, d1⟩ := HK9.out; go_simp; (try with_reducible rfl); (try omega))
      · exact fix_val (by rfl) (fun W hW => by subst hW; obtain ⟨d0, d1⟩ := HK9.out; go_simp; (try with_reducible rfl); (try omega))
      · exact fix_val (by rfl) (fun W hW => by subst hW; obtain ⟨d0, d1⟩ := HK9.out; go_simp; (try with_reducible rfl); (try omega))
      · exact fix_val (by rfl) (fun W hW => by subst hW; obtain ⟨d0, d1⟩ := HK9.out; go_simp; (try with_reducible rfl); (try omega))
    case he5 =>
    intro V hV
    obtain ⟨hc3, hg3, st3⟩ := HC3.out
    have bd : Below V3.heap.size V3 V := by rw [hV]; exact (Below.refl _ _).drew
    have hcV := hc3.below bd
    have hgV : GrowA kd kd w V := hg3.trans (GrowA.of_below bd)
    have stV := st3.below bd
    clear hV HK9 HC3 hc3 hg3 st3 bd
    have HWF : Hid ((wsF mac fm (nbAt D fi)).length ≤ 1000) := by
      show _ ≤ _
      unfold wsF nbAt
      rw [List.length_map]
      cases hl : lookD D fi with
      | none => show 0 ≤ 1000; omega
      | some y => have := (hcV.each _ (lookD_mem hl)).2.1.len; show y.ws.length ≤ 1000; dsimp only at this; omega
    have hkb : kd w.heap.size = .no := by
      cases e : kd w.heap.size with
      | no => rfl
      | _ => exact absurd (HFR.out _ (Nat.le_refl _)) (by rw [e]; exact fun e2 => (by cases e2))
    cases ok with
    | true =>
      have hl1 := HOK.out.symm
      have q1 := stV.cell 1 _ rfl
      have q2 := stV.cell 2 _ rfl
      have HLN := (show Hid _ from learn_any hcV fi fm hfi hfm2 (.inl hl1))
      have HCL := (show Hid _ from And.intro hgV (And.intro hkb stV))
      have HD : Hid (takeD ip D fi fm ti t = putD D fi (knX fm t)) := by show _ = _; unfold takeD; rw [if_pos hl1]
      obtain ⟨F5, hF5⟩ : ∃ F5, F5 = wsF mac fm (nbAt D fi) := ⟨_, rfl⟩
      rw [← hF5] at HLN
      have HF : Hid (wsF mac fm (nbAt D fi) = F5) := hF5.symm
      clear hF5 hcV hgV stV hkb hl1
      go_wp2_with fail
      refine Calls.mono HLN.out ?_
      rintro e w5 ⟨kd5, a5, n5, c5, hc5, hg5, rfl, hfs5⟩
      have st5 := HCL.out.2.2.fr hg5.fr (fun e => e HCL.out.2.1)
      have HC5 : Hid _ := And.intro hc5 (And.intro (HCL.out.1.trans hg5) (And.intro (⟨hfs5.ex.choose, hfs5.ex.choose_spec.1, hfs5.ex.choose_spec.2.1.base HCL.out.1.fr.size, hfs5.ex.choose_spec.2.2.1, fun b hb => ⟨(hfs5.ex.choose_spec.2.2.2 b hb).1, fun g off e => ⟨((hfs5.ex.choose_spec.2.2.2 b hb).2 g off e).1, Nat.le_trans HCL.out.1.fr.size ((hfs5.ex.choose_spec.2.2.2 b hb).2 g off e).2.1, ((hfs5.ex.choose_spec.2.2.2 b hb).2 g off e).2.2⟩⟩⟩ : FrsW w5 kd5 w.heap.size a5 n5 c5 _) st5))
      clear hc5 hg5 hfs5 st5 HLN HCL
      go_wp2
      go_ret2
      obtain ⟨hc5, hg5, hfs5, st5⟩ := HC5.out
      exact ⟨kd5, t, _, 0, _, a5, n5, c5, .inr ⟨HEO.out, rfl, HD.out.symm, rfl, by unfold takeF; rw [if_neg (by omega), List.append_nil]; exact HF.out.symm⟩, hc5, hg5, rfl, hfs5⟩
    | false =>
      have HLN0 : Hid (lookD D fi = none) := by
        show _ = _
        cases hl : lookD D fi with
        | none => rfl
        | some y => have := HOK.out; rw [hl] at this; cases this
      have HD : Hid (takeD ip D fi fm ti t = D) := by show _ = _; unfold takeD; rw [HLN0.out, if_neg (by simp), if_neg (fun e => hti2 e.1)]
      have HF : Hid (wsF mac fm (nbAt D fi) = []) := wsF_none HLN0.out
      have HC5 : Hid (CaW V kd p mac ip t lost D ∧ GrowA kd kd w V ∧ FrsW V kd w.heap.size none 0 0 [] ∧ Stc V w.heap.size [.int .i64 op, .int .u64 (fm : Nat), .int .u32 (fi : Nat), .int .u64 (tm : Nat), .int .u32 (ti : Nat)]) := ⟨hcV, hgV, FrsW.nil _ _ _, stV⟩
      clear hcV hgV stV hkb
      go_wp2
      go_ret2
      obtain ⟨hc5, hg5, hfs5, st5⟩ := HC5.out
      exact ⟨kd, t, _, 0, _, none, 0, 0, .inr ⟨HEO.out, rfl, HD.out.symm, rfl, by unfold takeF; rw [if_neg (by omega), List.append_nil]; exact HF.out.symm⟩, hc5, hg5, rfl, hfs5⟩
end Go.Proofs.YtfjpckaphfdfnaaGreatDoor
namespace Go.Proofs.YtfjpckaphfdfnaaGreatDoor
open Go.RowKit
set_option maxHeartbeats 2000000 in
theorem num_any (a : Option Addr) (n c : Nat) (zs : List Nat) (p k : Int) (w : World) (hs : Sl w a n c zs) :
    Calls Tryz.prog 197 #[.slice a n c, .int .i64 p, .int .i64 k] w fun e w' => e = .returned (.tuple #[.int .u64 (numV zs p k : Nat), .int .i64 (nspanE n p k : Nat)]) ∧ w' = w := by
  have hl := hs.len
  by_cases he : nspanE n p k = 0
  · obtain ⟨hk1, hk8, hp0, hpk⟩ := nspan_ok he
    have HE := (show Hid _ from he)
    have HV : Hid (numV zs p k = numB ((zs.drop p.toNat).take k.toNat)) := by show _ = _; unfold numV; rw [hl, if_pos he]
    clear he
    obtain ⟨p, rfl⟩ := Int.eq_ofNat_of_zero_le hp0
    obtain ⟨k, rfl⟩ := Int.eq_ofNat_of_zero_le (show 0 ≤ k by omega)
    rw [Int.toNat_natCast, Int.toNat_natCast] at HV
    have hk8' : k ≤ 8 := by omega
    have hpk' : p + k ≤ n := by omega
    have hk1' : 1 ≤ k := by omega
    have hmid := mid_bnd zs p k hs.bnd
    have hml : ((zs.drop p).take k).length = k := by simp; omega
    obtain ⟨_, hcap, hroom, hsm, _, hb, hat⟩ := hs
    rcases hat with h0 | ⟨b, off, rfl, hlt, hcell⟩
    · omega
    have hcell2 : ∀ i, i < k → w.cell? ⟨b, off + p + i, none⟩ = some (.int .u8 (((zs.drop p).take k).getD i 0 : Nat)) := by
      intro i hi
      rw [mid_getD zs p k i hi, Nat.add_assoc]
      exact hcell (p + i) (by omega)
    clear hcell hb
    generalize (zs.drop p).take k = ys at *
    have hpc : ¬ c = p := by omega
    have hpkp : p + k - p = k := by omega
    go_enter Tryz.func197, Tryz.ntmps197
    go_wp2_with (go_at_call 240; refine (nspan_any n p k _ hsm).mono ?_; rintro e w' ⟨rfl, rfl⟩; rw [HE.out])
    go_loop [9, 27] (fun v i => ∃ j : Nat, j ≤ k ∧ i = .int .i64 j ∧ v = .int .u64 (numB (ys.take j) : Nat)) (fun _ i => k - (intOf i).toNat)
    case atStart => exact ⟨0, by omega, rfl, rfl⟩
    case round =>
      obtain ⟨j, hj, rfl, rfl⟩ := hrel
      by_cases hjk : j < k
      · have hc := hcell2 j hjk
        have hx := hmid j
        have HN : Hid (numB (ys.take (j + 1)) = numB (ys.take j) * 256 + ys.getD j 0) := by show _ = _; rw [take_snocN ys j (by omega), numB_snoc]
        have hq : numB (ys.take j) < 72057594037927936 := by
          have h1 := numB_lt (ys.take j) (fun i => by
            by_cases hi : i < j
            · simp [List.getD_eq_getElem?_getD, hi]; have := hmid i; simp [List.getD_eq_getElem?_getD] at this; exact this
            · rw [List.getD_eq_getElem?_getD, List.getElem?_eq_none (by simp; omega)]; exact Nat.zero_lt_succ _)
          have h2 := pow_small j (by omega)
          rw [List.length_take, Nat.min_eq_left (by omega)] at h1
          omega
        have HO := (show Hid _ from or8 _ _ hq hx)
        clear hcell2 hmid
        generalize numB (ys.take j) = q at *
        generalize ys.getD j 0 = x at *
        go_wp2
        go_round
        case rel => exact ⟨j + 1, by omega, by go_num, by rw [HN.out, ← HO.out]⟩
        case measure => simp [intOf]; omega
      · obtain rfl : j = k := by omega
        have HT : Hid (ys.take j = ys) := by show _ = _; rw [List.take_of_length_le (by omega)]
        go_wp2
        go_ret2
        exact ⟨by rw [HT.out, HV.out, HE.out]; rfl, rfl⟩
  · have HV : Hid (numV zs p k = 0) := by show _ = _; unfold numV; rw [hl, if_neg he]
    have hne : ((nspanE n p k : Int) != 0) = true := by simp; omega
    have hsm := hs.small
    go_enter Tryz.func197, Tryz.ntmps197
    go_wp2_with (go_at_call 240; refine (nspan_any n p k _ hsm).mono ?_; rintro e w' ⟨rfl, rfl⟩)
    go_ret2
    exact ⟨by rw [HV.out]; rfl, rfl⟩
end Go.Proofs.YtfjpckaphfdfnaaGreatDoor
namespace Go.Proofs.YtfjpckaphfdfnaaGreatDoor
open Go.RowKit
theorem numV_lt (zs : List Nat) (p k : Nat) (hb : ∀ i, zs.getD i 0 < 256) : numV zs (p : Int) (k : Int) < 256 ^ k := by
  unfold numV
  split
  · rw [Int.toNat_natCast, Int.toNat_natCast]
    have h := numB_lt ((zs.drop p).take k) (fun i => by
      by_cases hi : i < k
      · rw [List.getD_eq_getElem?_getD, List.getElem?_take_of_lt hi, List.getElem?_drop, ← List.getD_eq_getElem?_getD]; exact hb _
      · rw [List.getD_eq_getElem?_getD, List.getElem?_eq_none (by rw [List.length_take]; omega)]; decide)
    refine Nat.lt_of_lt_of_le h (Nat.pow_le_pow_right (by omega) ?_)
    rw [List.length_take]; omega
  · exact Nat.pos_of_ne_zero (by simp)
set_option maxRecDepth 100000 in
set_option maxHeartbeats 2000000 in
theorem cutting_any (a : Option Addr) (n c : Nat) (w : World) :
    Calls Tryz.prog 151 #[.slice a n c] w fun e w' => e = .returned (.func (.func 196) #[] #[.pointer (some ⟨w.heap.size, 0, none⟩), .pointer (some ⟨w.heap.size + 1, 0, none⟩)]) ∧ w' = (w.alloc (.cells #[.slice a n c] 24)).alloc (.cells #[.int .i64 0] 3) := by
  have hm := hmf
  go_enter Tryz.func151, Tryz.ntmps151
  go_wp2
  go_ret
  exact ⟨rfl, rfl⟩
set_option maxRecDepth 100000 in
set_option maxHeartbeats 2000000 in
theorem cutc_any (pb pt : Nat) (a : Option Addr) (n c : Nat) (zs : List Nat) (t k v : Nat) (w : World) (hs : Sl w a n c zs) (hb : w.cell? ⟨pb, 0, none⟩ = some (.slice a n c)) (ht : w.cell? ⟨pt, 0, none⟩ = some (.int .i64 (t : Nat))) (htf : w.frozen? ⟨pt, 0, none⟩ = false) (htk : t + k ≤ 10000) :
    Calls Tryz.prog 196 #[.int .u64 (v : Nat), .int .i64 (k : Nat), .pointer (some ⟨pb, 0, none⟩), .pointer (some ⟨pt, 0, none⟩)] w fun e w' => e = .returned (.int .u64 (numV zs (t : Int) (k : Int) : Nat)) ∧ w' = w.setCell ⟨pt, 0, none⟩ (.int .i64 ((t + k : Nat) : Int)) := by
  have hn := num_any a n c zs (t : Int) (k : Int) w hs
  have hw : IntKind.i64.wrap ((t : Int) + (k : Int)) = ((t + k : Nat) : Int) := by rw [IntKind.wrap_i64]; omega
  have hw2 : (t : Int) + (k : Int) = ((t + k : Nat) : Int) := by omega
  generalize numV zs (t : Int) (k : Int) = r at *
  obtain ⟨tk, htk2⟩ : ∃ tk, tk = t + k := ⟨_, rfl⟩
  rw [← htk2] at hw hw2 ⊢
  have htk3 : tk ≤ 10000 := by omega
  clear htk2 htk
  go_enter Tryz.func196, Tryz.ntmps196
  go_wp2_with fail
  refine hn.mono ?_
  rintro e w' ⟨rfl, hw'⟩
  subst w'
  go_wp2
  go_ret
  exact ⟨rfl, by first | rfl | (congr 2; go_num) | (rw [show wrap64 (tk : Int) = (tk : Int) from by simp [wrap64]; omega])⟩
/-- What stands while parts are cut. -/
structure HcS (wT : World) (pb pt : Nat) (av : Value) (x r t : Nat) (xs rs : List Value) (W : World) : Prop where
  sb : Stc W pb [av]
  st : Stc W pt [.int .i64 (t : Nat)]
  sx : Stc W x xs
  sr : Stc W r rs
  n1 : pt ≠ pb
  n2 : pt ≠ x
  n3 : pt ≠ r
  n4 : x ≠ pb
  n5 : x ≠ r
  n6 : r ≠ pb
  g1 : wT.heap.size ≤ pt
  g2 : wT.heap.size ≤ x
  g3 : wT.heap.size ≤ r
  bel : Below wT.heap.size wT W
theorem HcS.cut {wT : World} {pb pt : Nat} {a : Option Addr} {n c : Nat} {x r t : Nat} {xs rs : List Value} {W : World} (h : HcS wT pb pt (.slice a n c) x r t xs rs W) (zs : List Nat) (hs : Sl wT a n c zs) (v k : Nat) (htk : t + k ≤ 10000) :
    Calls Tryz.prog 196 #[.int .u64 (v : Nat), .int .i64 (k : Nat), .pointer (some ⟨pb, 0, none⟩), .pointer (some ⟨pt, 0, none⟩)] W fun e w' => e = .returned (.int .u64 (numV zs (t : Int) (k : Int) : Nat)) ∧ HcS wT pb pt (.slice a n c) x r (t + k) xs rs w' := by
  refine (cutc_any pb pt a n c zs t k v W (hs.below h.bel) (h.sb.cell 0 _ rfl) (h.st.cell 0 _ rfl) (h.st.free 0) htk).mono ?_
  rintro e w' ⟨he, rfl⟩
  exact ⟨he, h.sb.other pt 0 _ h.n1, h.st.set 0 _, h.sx.other pt 0 _ h.n2, h.sr.other pt 0 _ h.n3, h.n1, h.n2, h.n3, h.n4, h.n5, h.n6, h.g1, h.g2, h.g3, h.bel.setCell (p := ⟨pt, 0, none⟩) h.g1 _⟩
theorem HcS.set {wT : World} {pb pt : Nat} {av : Value} {x r t : Nat} {xs rs : List Value} {W : World} (h : HcS wT pb pt av x r t xs rs W) (j : Nat) (u : Value) : HcS wT pb pt av x r t (xs.set j u) rs (W.setCell ⟨x, j, none⟩ u) :=
  ⟨h.sb.other x j _ h.n4, h.st.other x j _ (fun e => h.n2 e.symm), h.sx.set j u, h.sr.other x j _ h.n5, h.n1, h.n2, h.n3, h.n4, h.n5, h.n6, h.g1, h.g2, h.g3, h.bel.setCell (p := ⟨x, j, none⟩) h.g2 _⟩
theorem HcS.setR {wT : World} {pb pt : Nat} {av : Value} {x r t : Nat} {xs rs : List Value} {W : World} (h : HcS wT pb pt av x r t xs rs W) (j : Nat) (u : Value) : HcS wT pb pt av x r t xs (rs.set j u) (W.setCell ⟨r, j, none⟩ u) :=
  ⟨h.sb.other r j _ h.n6, h.st.other r j _ (fun e => h.n3 e.symm), h.sx.other r j _ (fun e => h.n5 e.symm), h.sr.set j u, h.n1, h.n2, h.n3, h.n4, h.n5, h.n6, h.g1, h.g2, h.g3, h.bel.setCell (p := ⟨r, j, none⟩) h.g3 _⟩
theorem HcS.start {wT w : World} {pb pt : Nat} {av : Value} {t : Nat} (sb : Stc w pb [av]) (st : Stc w pt [.int .i64 (t : Nat)]) (n1 : pt ≠ pb) (g1 : wT.heap.size ≤ pt) (bel : Below wT.heap.size wT w) (xs rs : List Value) (T T2 : TypeId) : HcS wT pb pt av w.heap.size (w.heap.size + 1) t xs rs ((w.alloc (.cells xs.toArray T)).alloc (.cells rs.toArray T2)) := by
  have hz1 : (w.alloc (.cells xs.toArray T)).heap.size = w.heap.size + 1 := by simp
  have hb1 : Below w.heap.size w (w.alloc (.cells xs.toArray T)) := (Below.refl _ _).alloc (Nat.le_refl _) _
  have hb2 : Below (w.alloc (.cells xs.toArray T)).heap.size (w.alloc (.cells xs.toArray T)) ((w.alloc (.cells xs.toArray T)).alloc (.cells rs.toArray T2)) := (Below.refl _ _).alloc (Nat.le_refl _) _
  have hb : Below w.heap.size w _ := hb1.trans (hb2.mono hb1.size)
  have l1 := sb.lt
  have l2 := st.lt
  have l3 := bel.size
  refine ⟨sb.below hb, st.below hb, (Stc.new w xs T _ rfl).below hb2, ?_, n1, by omega, by omega, by omega, by omega, by omega, g1, l3, by omega, bel.trans (hb.mono l3)⟩
  have := Stc.new (w.alloc (.cells xs.toArray T)) rs T2 _ rfl
  rw [hz1] at this
  exact this
set_option maxRecDepth 100000 in
set_option maxHeartbeats 2000000 in
theorem eachHead_cut (wT : World) (pb pt : Nat) (a : Option Addr) (n c : Nat) (zs : List Nat) (w : World) (hs : Sl wT a n c zs) (sb : Stc w pb [.slice a n c]) (st : Stc w pt [.int .i64 0]) (n1 : pt ≠ pb) (g1 : wT.heap.size ≤ pt) (bel : Below wT.heap.size wT w) :
    Calls Tryz.prog 150 #[.agg #[.int .u64 0, .int .u64 0, .int .u16 0, .slice none 0 0], .func (.func 196) #[] #[.pointer (some ⟨pb, 0, none⟩), .pointer (some ⟨pt, 0, none⟩)]] w fun e w' => e = .returned (.agg #[.int .u64 (numV zs 0 6 : Nat), .int .u64 (numV zs 6 6 : Nat), .int .u16 (numV zs 12 2 : Nat), .slice none 0 0]) ∧ Below wT.heap.size wT w' := by
  have h0 := HcS.start (t := 0) sb st n1 g1 bel [.int .u64 0, .int .u64 0, .int .u16 0, .slice none 0 0] [.int .u64 0, .int .u64 0, .int .u16 0, .slice none 0 0] 238 238
  obtain ⟨W, hW⟩ : ∃ W, W = (w.alloc (.cells #[.int .u64 0, .int .u64 0, .int .u16 0, .slice none 0 0] 238)).alloc (.cells #[.int .u64 0, .int .u64 0, .int .u16 0, .slice none 0 0] 238) := ⟨_, rfl⟩
  change HcS wT pb pt _ w.heap.size (w.heap.size + 1) 0 _ _ ((w.alloc (.cells #[.int .u64 0, .int .u64 0, .int .u16 0, .slice none 0 0] 238)).alloc (.cells #[.int .u64 0, .int .u64 0, .int .u16 0, .slice none 0 0] 238)) at h0
  rw [← hW] at h0
  have hk := numV_lt zs 12 2 hs.bnd
  go_enter Tryz.func150, Tryz.ntmps150
  go_wp2_with fail
  rw [← hW]
  clear hW
  refine (h0.cut zs hs 0 6 (by omega)).mono ?_
  rintro e w1 ⟨rfl, h1⟩
  have e0 : numV zs ((0 : Nat) : Int) ((6 : Nat) : Int) = numV zs 0 6 := rfl
  rw [e0]
  obtain ⟨T, hT⟩ : ∃ T, T = numV zs 0 6 := ⟨_, rfl⟩
  rw [← hT]
  have HT := (show Hid _ from hT)
  have x0 := h1.sx.cell 0 _ rfl
  have x0f := h1.sx.free 0
  have x1 := h1.sx.cell 1 _ rfl
  have h1' := h1.set 0 (.int .u64 (T : Nat))
  clear h0 hT e0
  go_wp2_with fail
  refine (h1'.cut zs hs 0 6 (by omega)).mono ?_
  rintro e w2 ⟨rfl, h2⟩
  have e0 : numV zs ((0 + 6 : Nat) : Int) ((6 : Nat) : Int) = numV zs 6 6 := rfl
  rw [e0]
  obtain ⟨F, hF⟩ : ∃ F, F = numV zs 6 6 := ⟨_, rfl⟩
  rw [← hF]
  have HF := (show Hid _ from hF)
  have y1 := h2.sx.cell 1 _ rfl
  have y1f := h2.sx.free 1
  have y2 := h2.sx.cell 2 _ rfl
  have h2' := h2.set 1 (.int .u64 (F : Nat))
  clear h1 h1' x0 x0f x1 e0 hF
  go_wp2_with fail
  refine (h2'.cut zs hs 0 2 (by omega)).mono ?_
  rintro e w3 ⟨rfl, h3⟩
  have e0 : numV zs ((0 + 6 + 6 : Nat) : Int) ((2 : Nat) : Int) = numV zs 12 2 := rfl
  rw [e0]
  obtain ⟨K, hK⟩ : ∃ K, K = numV zs 12 2 := ⟨_, rfl⟩
  have hk2 : K < 65536 := by rw [hK]; exact hk
  rw [← hK]
  have HK := (show Hid _ from hK)
  have hkm : (K : Int) % 65536 = (K : Int) := by omega
  have z2 := h3.sx.cell 2 _ rfl
  have z2f := h3.sx.free 2
  have z0 := h3.sx.cell 0 _ rfl
  have z1 := h3.sx.cell 1 _ rfl
  have z3 := h3.sx.cell 3 _ rfl
  have h3' := h3.set 2 (.int .u16 (K : Nat))
  have r0 := h3.sr.cell 0 _ rfl
  have r1 := h3.sr.cell 1 _ rfl
  have r2 := h3.sr.cell 2 _ rfl
  have r3 := h3.sr.cell 3 _ rfl
  have r0f := h3.sr.free 0
  have r1f := h3.sr.free 1
  have r2f := h3.sr.free 2
  have r3f := h3.sr.free 3
  have h4 := (((h3'.setR 0 (.int .u64 (T : Nat))).setR 1 (.int .u64 (F : Nat))).setR 2 (.int .u16 (K : Nat))).setR 3 (.slice none 0 0)
  have HBF := (show Hid _ from h4.bel)
  have HRG := (show Hid _ from h4.sr.range)
  clear y1 y1f y2 h2 h2' h3 h3' h4 e0 hK hk
  go_wp2
  try simp only [Exit.inBlock, Exit.then]
  refine bodyPost_ret (results_cellE rfl _ _ (w.heap.size + 1) 0 [.int .u64 (T : Nat), .int .u64 (F : Nat), .int .u16 (K : Nat), .slice none 0 0] _ rfl HRG.out Tryz.underlying238 rfl (by kernel_rfl)) rfl ?_
  exact ⟨by rw [HT.out, HF.out, HK.out], HBF.out⟩
end Go.Proofs.YtfjpckaphfdfnaaGreatDoor
namespace Go.Proofs.YtfjpckaphfdfnaaGreatDoor
open Go.RowKit
theorem isOp_any (op : Int) (w : World) :
    Calls Tryz.prog 199 #[.int .i64 op] w fun e w' => e = .returned (.bool (decide (op = 1 ∨ op = 2))) ∧ w' = w := by
  by_cases h1 : op = 1
  · subst h1
    go_enter Tryz.func199, Tryz.ntmps199
    go_wp2
    go_ret
    exact ⟨rfl, rfl⟩
  · have h1b : (op == 1) = false := by simpa using h1
    have HD : Hid (decide (op = 1 ∨ op = 2) = (op == 2)) := by
      show _ = _
      rw [Bool.eq_iff_iff]
      simp only [decide_eq_true_eq, beq_iff_eq]
      omega
    go_enter Tryz.func199, Tryz.ntmps199
    go_wp2
    go_ret
    exact ⟨by rw [HD.out]; rfl, rfl⟩
set_option maxRecDepth 100000 in
set_option maxHeartbeats 4000000 in
theorem eachArp_cut (wT : World) (pb pt : Nat) (a : Option Addr) (n c : Nat) (zs : List Nat) (w : World) (hs : Sl wT a n c zs) (sb : Stc w pb [.slice a n c]) (st : Stc w pt [.int .i64 0]) (n1 : pt ≠ pb) (g1 : wT.heap.size ≤ pt) (bel : Below wT.heap.size wT w) :
    Calls Tryz.prog 198 #[.agg #[.int .i64 0, .int .u64 0, .int .u32 0, .int .u64 0, .int .u32 0], .func (.func 196) #[] #[.pointer (some ⟨pb, 0, none⟩), .pointer (some ⟨pt, 0, none⟩)]] w fun e w' => e = .returned (.tuple #[.agg #[.int .i64 (numV zs 6 2 : Nat), .int .u64 (numV zs 8 6 : Nat), .int .u32 (numV zs 14 4 : Nat), .int .u64 (numV zs 18 6 : Nat), .int .u32 (numV zs 24 4 : Nat)], .int .u64 (numV zs 0 6 : Nat)]) ∧ Below wT.heap.size wT w' := by
  have h0 := HcS.start (t := 0) sb st n1 g1 bel [.int .i64 0, .int .u64 0, .int .u32 0, .int .u64 0, .int .u32 0] [.int .i64 0, .int .u64 0, .int .u32 0, .int .u64 0, .int .u32 0] 251 251
  obtain ⟨W, hW⟩ : ∃ W, W = (w.alloc (.cells #[.int .i64 0, .int .u64 0, .int .u32 0, .int .u64 0, .int .u32 0] 251)).alloc (.cells #[.int .i64 0, .int .u64 0, .int .u32 0, .int .u64 0, .int .u32 0] 251) := ⟨_, rfl⟩
  change HcS wT pb pt _ w.heap.size (w.heap.size + 1) 0 _ _ ((w.alloc (.cells #[.int .i64 0, .int .u64 0, .int .u32 0, .int .u64 0, .int .u32 0] 251)).alloc (.cells #[.int .i64 0, .int .u64 0, .int .u32 0, .int .u64 0, .int .u32 0] 251)) at h0
  rw [← hW] at h0
  have hk6 := numV_lt zs 6 2 hs.bnd
  have hk14 := numV_lt zs 14 4 hs.bnd
  have hk24 := numV_lt zs 24 4 hs.bnd
  go_enter Tryz.func198, Tryz.ntmps198
  go_wp2_with fail
  rw [← hW]
  clear hW
  refine (h0.cut zs hs 4429186564 6 (by omega)).mono ?_
  rintro e w0 ⟨rfl, d0⟩
  have e0 : numV zs ((0 : Nat) : Int) ((6 : Nat) : Int) = numV zs 0 6 := rfl
  rw [e0]
  obtain ⟨V0, hV0⟩ : ∃ V0, V0 = numV zs 0 6 := ⟨_, rfl⟩
  rw [← hV0]
  have HV0 := (show Hid _ from hV0)
  clear h0 e0 hV0
  have x0 := d0.sx.cell 0 _ rfl
  go_wp2_with fail
  refine (d0.cut zs hs 0 2 (by omega)).mono ?_
  rintro e w1 ⟨rfl, f0⟩
  have e0 : numV zs ((0 + 6 : Nat) : Int) ((2 : Nat) : Int) = numV zs 6 2 := rfl
  rw [e0]
  obtain ⟨V1, hV1⟩ : ∃ V, V = numV zs 6 2 := ⟨_, rfl⟩
  have hb0 : V1 < 65536 := by rw [hV1]; exact hk6
  have hm0 : IntKind.i64.wrap (V1 : Int) = (V1 : Int) := by rw [IntKind.wrap_i64]; omega
  rw [← hV1]
  have HV1 := (show Hid _ from hV1)
  have c0 := f0.sx.cell 0 _ rfl
  have c0f := f0.sx.free 0
  have d1 := f0.set 0 (.int .i64 (V1 : Nat))
  have x1 := f0.sx.cell 1 _ rfl
  clear d0 x0 hV1 e0
  go_wp2_with fail
  refine (d1.cut zs hs 0 6 (by omega)).mono ?_
  rintro e w2 ⟨rfl, f1⟩
  have e0 : numV zs ((0 + 6 + 2 : Nat) : Int) ((6 : Nat) : Int) = numV zs 8 6 := rfl
  rw [e0]
  obtain ⟨V2, hV2⟩ : ∃ V, V = numV zs 8 6 := ⟨_, rfl⟩
  rw [← hV2]
  have HV2 := (show Hid _ from hV2)
  have c1 := f1.sx.cell 1 _ rfl
  have c1f := f1.sx.free 1
  have d2 := f1.set 1 (.int .u64 (V2 : Nat))
  have x2 := f1.sx.cell 2 _ rfl
  clear d1 x1 hV2 e0
  go_wp2_with fail
  refine (d2.cut zs hs 0 4 (by omega)).mono ?_
  rintro e w3 ⟨rfl, f2⟩
  have e0 : numV zs ((0 + 6 + 2 + 6 : Nat) : Int) ((4 : Nat) : Int) = numV zs 14 4 := rfl
  rw [e0]
  obtain ⟨V3, hV3⟩ : ∃ V, V = numV zs 14 4 := ⟨_, rfl⟩
  have hb2 : V3 < 4294967296 := by rw [hV3]; exact hk14
  have hm2 : (V3 : Int) % 4294967296 = (V3 : Int) := by omega
  rw [← hV3]
  have HV3 := (show Hid _ from hV3)
  have c2 := f2.sx.cell 2 _ rfl
  have c2f := f2.sx.free 2
  have d3 := f2.set 2 (.int .u32 (V3 : Nat))
  have x3 := f2.sx.cell 3 _ rfl
  clear d2 x2 hV3 e0
  go_wp2_with fail
  refine (d3.cut zs hs 0 6 (by omega)).mono ?_
  rintro e w4 ⟨rfl, f3⟩
  have e0 : numV zs ((0 + 6 + 2 + 6 + 4 : Nat) : Int) ((6 : Nat) : Int) = numV zs 18 6 := rfl
  rw [e0]
  obtain ⟨V4, hV4⟩ : ∃ V, V = numV zs 18 6 := ⟨_, rfl⟩
  rw [← hV4]
  have HV4 := (show Hid _ from hV4)
  have c3 := f3.sx.cell 3 _ rfl
  have c3f := f3.sx.free 3
  have d4 := f3.set 3 (.int .u64 (V4 : Nat))
  have x4 := f3.sx.cell 4 _ rfl
  clear d3 x3 hV4 e0
  go_wp2_with fail
  refine (d4.cut zs hs 0 4 (by omega)).mono ?_
  rintro e w5 ⟨rfl, f4⟩
  have e0 : numV zs ((0 + 6 + 2 + 6 + 4 + 6 : Nat) : Int) ((4 : Nat) : Int) = numV zs 24 4 := rfl
  rw [e0]
  obtain ⟨V5, hV5⟩ : ∃ V, V = numV zs 24 4 := ⟨_, rfl⟩
  have hb4 : V5 < 4294967296 := by rw [hV5]; exact hk24
  have hm4 : (V5 : Int) % 4294967296 = (V5 : Int) := by omega
  rw [← hV5]
  have HV5 := (show Hid _ from hV5)
  have c4 := f4.sx.cell 4 _ rfl
  have c4f := f4.sx.free 4
  have d5 := f4.set 4 (.int .u32 (V5 : Nat))
  clear e0 hV5
  have z0 := f4.sx.cell 0 _ rfl
  have z1 := f4.sx.cell 1 _ rfl
  have z2 := f4.sx.cell 2 _ rfl
  have z3 := f4.sx.cell 3 _ rfl
  have r0 := f4.sr.cell 0 _ rfl
  have r0f := f4.sr.free 0
  have r1 := f4.sr.cell 1 _ rfl
  have r1f := f4.sr.free 1
  have r2 := f4.sr.cell 2 _ rfl
  have r2f := f4.sr.free 2
  have r3 := f4.sr.cell 3 _ rfl
  have r3f := f4.sr.free 3
  have r4 := f4.sr.cell 4 _ rfl
  have r4f := f4.sr.free 4
  have h9 := (((((d5.setR 0 (.int .i64 (V1 : Nat))).setR 1 (.int .u64 (V2 : Nat))).setR 2 (.int .u32 (V3 : Nat))).setR 3 (.int .u64 (V4 : Nat))).setR 4 (.int .u32 (V5 : Nat)))
  have HBF := (show Hid _ from h9.bel)
  have HRG := (show Hid _ from h9.sr.range)
  clear h9 d5 d4 f4 f3 f2 f1 f0 hk6 hk14 hk24
  go_wp2
  try simp only [Exit.inBlock, Exit.then]
  refine bodyPost_ret (results_cellE2 rfl _ _ (w.heap.size + 1) 0 [.int .i64 (V1 : Nat), .int .u64 (V2 : Nat), .int .u32 (V3 : Nat), .int .u64 (V4 : Nat), .int .u32 (V5 : Nat)] _ rfl HRG.out Tryz.underlying251 rfl (by kernel_rfl)) rfl ?_
  exact ⟨by rw [HV0.out, HV1.out, HV2.out, HV3.out, HV4.out, HV5.out]; rfl, HBF.out⟩
end Go.Proofs.YtfjpckaphfdfnaaGreatDoor
namespace Go.Proofs.YtfjpckaphfdfnaaGreatDoor
open Go.RowKit
def taE (zs : List Nat) : Nat := if zs.length < 28 then 3 else if numV zs 0 6 ≠ 4429186564 then 4 else if numV zs 6 2 = 1 ∨ numV zs 6 2 = 2 then 0 else 11
def taN (zs : List Nat) (p k : Nat) : Nat := if taE zs = 0 then numV zs (p : Int) (k : Int) else 0
structure TaP (zs : List Nat) (w : World) (e : Ending) (w' : World) : Prop where
  ans : e = .returned (.tuple #[.agg #[.int .i64 (taN zs 6 2 : Nat), .int .u64 (taN zs 8 6 : Nat), .int .u32 (taN zs 14 4 : Nat), .int .u64 (taN zs 18 6 : Nat), .int .u32 (taN zs 24 4 : Nat)], .int .i64 (taE zs : Nat)])
  bel : Below w.heap.size w w'
set_option maxRecDepth 100000 in
set_option maxHeartbeats 2000000 in
theorem takeArp_any (a : Option Addr) (n c : Nat) (zs : List Nat) (w : World) (hs : Sl w a n c zs) :
    Calls Tryz.prog 152 #[.slice a n c] w fun e w' => TaP zs w e w' := by
  have hl := hs.len
  have hb0 : Below w.heap.size w (w.alloc (.cells #[.int .i64 0, .int .u64 0, .int .u32 0, .int .u64 0, .int .u32 0] 251)) := (Below.refl _ _).alloc (Nat.le_refl _) _
  have hR0 := Stc.new w [.int .i64 0, .int .u64 0, .int .u32 0, .int .u64 0, .int .u32 0] 251 (w.alloc (.cells #[.int .i64 0, .int .u64 0, .int .u32 0, .int .u64 0, .int .u32 0] 251)) rfl
  by_cases h1 : n < 28
  · have hn1 : (n : Int) < 28 := by omega
    have HE : Hid (taE zs = 3) := by show _ = _; unfold taE; rw [if_pos (by omega)]
    have HN : Hid (∀ p k, taN zs p k = 0) := fun p k => by unfold taN; rw [HE.out]; rfl
    have HRG := (show Hid _ from hR0.range)
    have HBB := (show Hid _ from hb0)
    clear hR0 hb0
    go_enter Tryz.func152, Tryz.ntmps152
    go_wp2
    try simp only [Exit.inBlock, Exit.then]
    refine bodyPost_ret (results_cellE2 rfl _ _ w.heap.size 0 [.int .i64 0, .int .u64 0, .int .u32 0, .int .u64 0, .int .u32 0] _ rfl HRG.out Tryz.underlying251 rfl (by kernel_rfl)) rfl ?_
    exact ⟨by rw [HN.out, HN.out, HN.out, HN.out, HN.out, HE.out]; rfl, HBB.out⟩
  have hn1 : ¬ (n : Int) < 28 := by omega
  obtain ⟨W0, hW0⟩ : ∃ W0, W0 = w.alloc (.cells #[.int .i64 0, .int .u64 0, .int .u32 0, .int .u64 0, .int .u32 0] 251) := ⟨_, rfl⟩
  rw [← hW0] at hb0 hR0
  have hs0 := hs.below hb0
  have hzW : W0.heap.size = w.heap.size + 1 := by rw [hW0]; simp
  obtain ⟨W1, hW1⟩ : ∃ W1, W1 = W0.alloc (.cells #[.slice a n c] 24) := ⟨_, rfl⟩
  obtain ⟨W2, hW2⟩ : ∃ W2, W2 = W1.alloc (.cells #[.int .i64 0] 3) := ⟨_, rfl⟩
  have hz1 : W1.heap.size = W0.heap.size + 1 := by rw [hW1]; simp
  have b01 : Below W0.heap.size W0 W1 := by rw [hW1]; exact (Below.refl _ _).alloc (Nat.le_refl _) _
  have b12 : Below W1.heap.size W1 W2 := by rw [hW2]; exact (Below.refl _ _).alloc (Nat.le_refl _) _
  have b02 : Below W0.heap.size W0 W2 := b01.trans (b12.mono b01.size)
  have sb := (Stc.new W0 [.slice a n c] 24 W1 hW1).below b12
  have st := Stc.new W1 [.int .i64 0] 3 W2 hW2
  have hec := eachArp_cut W0 W0.heap.size W1.heap.size a n c zs W2 hs0 sb st (by omega) (by omega) b02
  have hk6 := numV_lt zs 6 2 hs.bnd
  have HZW := (show Hid _ from hzW)
  have HZ1 := (show Hid _ from hz1)
  have HW1 := (show Hid _ from hW1)
  have HW2 := (show Hid _ from hW2)
  clear hW1 hW2 hzW hz1
  obtain ⟨O, hO⟩ : ∃ O, O = numV zs 6 2 := ⟨_, rfl⟩
  obtain ⟨FM, hFM⟩ : ∃ FM, FM = numV zs 8 6 := ⟨_, rfl⟩
  obtain ⟨FI, hFI⟩ : ∃ FI, FI = numV zs 14 4 := ⟨_, rfl⟩
  obtain ⟨TM, hTM⟩ : ∃ TM, TM = numV zs 18 6 := ⟨_, rfl⟩
  obtain ⟨TI, hTI⟩ : ∃ TI, TI = numV zs 24 4 := ⟨_, rfl⟩
  obtain ⟨BG, hBG⟩ : ∃ BG, BG = numV zs 0 6 := ⟨_, rfl⟩
  rw [← hO, ← hFM, ← hFI, ← hTM, ← hTI, ← hBG] at hec
  have hOb : O < 65536 := by rw [hO]; exact hk6
  have HO := (show Hid _ from hO)
  have HFM := (show Hid _ from hFM)
  have HFI := (show Hid _ from hFI)
  have HTM := (show Hid _ from hTM)
  have HTI := (show Hid _ from hTI)
  have HBG := (show Hid _ from hBG)
  clear hO hFM hFI hTM hTI hBG hk6
  go_enter Tryz.func152, Tryz.ntmps152
  go_wp2_with fail
  rw [← hW0]
  clear hW0
  refine (cutting_any a n c W0).mono ?_
  rintro e w1 ⟨rfl, hw1⟩
  rw [← HW1.out, ← HW2.out] at hw1
  subst hw1
  rw [← HZ1.out]
  go_wp2_with fail
  refine hec.mono ?_
  rintro e w3 ⟨rfl, hb3⟩
  have hR3 := hR0.below hb3
  have hb03 : Below w.heap.size w w3 := hb0.trans (hb3.mono hb0.size)
  have hwq : w.heap.size < w3.heap.size := hR3.lt
  clear hec b01 b12 b02 sb st hb3 hR0 hb0 hs0
  by_cases h2 : BG = 4429186564
  case neg =>
    have h2a : ¬ (BG : Int) = 4429186564 := by omega
    have h2b : ((BG : Int) != 4429186564) = true := by simpa using h2a
    have r0 := hR3.cell 0 _ rfl
    have r0f := hR3.free 0
    have r1 := hR3.cell 1 _ rfl
    have r1f := hR3.free 1
    have r2 := hR3.cell 2 _ rfl
    have r2f := hR3.free 2
    have r3 := hR3.cell 3 _ rfl
    have r3f := hR3.free 3
    have r4 := hR3.cell 4 _ rfl
    have r4f := hR3.free 4
    have HE : Hid (taE zs = 4) := by show _ = _; unfold taE; rw [if_neg (by omega), if_pos (by rw [← HBG.out]; exact h2)]
    have HN : Hid (∀ p k, taN zs p k = 0) := fun p k => by unfold taN; rw [HE.out]; rfl
    have hR4 := ((((((hR3.set 0 (.int .i64 0)).set 1 (.int .u64 0)).set 2 (.int .u32 0)).set 3 (.int .u64 0)).set 4 (.int .u32 0))).below ((Below.refl _ _).alloc (Nat.le_refl _) (.cells #[.int .i64 (O : Nat), .int .u64 (FM : Nat), .int .u32 (FI : Nat), .int .u64 (TM : Nat), .int .u32 (TI : Nat)] 251))
    have hb4 := ((((((hb03.setCell (p := ⟨w.heap.size, 0, none⟩) (Nat.le_refl _) (.int .i64 0)).setCell (p := ⟨w.heap.size, 1, none⟩) (Nat.le_refl _) (.int .u64 0)).setCell (p := ⟨w.heap.size, 2, none⟩) (Nat.le_refl _) (.int .u32 0)).setCell (p := ⟨w.heap.size, 3, none⟩) (Nat.le_refl _) (.int .u64 0)).setCell (p := ⟨w.heap.size, 4, none⟩) (Nat.le_refl _) (.int .u32 0))).alloc (by simp [World.setCell]; omega) (.cells #[.int .i64 (O : Nat), .int .u64 (FM : Nat), .int .u32 (FI : Nat), .int .u64 (TM : Nat), .int .u32 (TI : Nat)] 251)
    have HRG := (show Hid _ from hR4.range)
    have HBB := (show Hid _ from hb4)
    clear hR4 hb4 hR3 hb03
    go_wp2
    try simp only [Exit.inBlock, Exit.then]
    refine bodyPost_ret (results_cellE2 rfl _ _ w.heap.size 0 [.int .i64 0, .int .u64 0, .int .u32 0, .int .u64 0, .int .u32 0] _ rfl HRG.out Tryz.underlying251 rfl (by kernel_rfl)) rfl ?_
    exact ⟨by rw [HN.out, HN.out, HN.out, HN.out, HN.out, HE.out]; rfl, HBB.out⟩
  case pos =>
    by_cases h3 : O = 1 ∨ O = 2
    case neg =>
      have h3b : decide ((O : Int) = 1 ∨ (O : Int) = 2) = false := by rw [decide_eq_false_iff_not]; omega
      have r0 := hR3.cell 0 _ rfl
      have r0f := hR3.free 0
      have r1 := hR3.cell 1 _ rfl
      have r1f := hR3.free 1
      have r2 := hR3.cell 2 _ rfl
      have r2f := hR3.free 2
      have r3 := hR3.cell 3 _ rfl
      have r3f := hR3.free 3
      have r4 := hR3.cell 4 _ rfl
      have r4f := hR3.free 4
      have HE : Hid (taE zs = 11) := by show _ = _; unfold taE; rw [if_neg (by omega), if_neg (by rw [← HBG.out]; simpa using h2), if_neg (by rw [← HO.out]; exact h3)]
      have HN : Hid (∀ p k, taN zs p k = 0) := fun p k => by unfold taN; rw [HE.out]; rfl
      have hR4 := ((((((hR3.set 0 (.int .i64 0)).set 1 (.int .u64 0)).set 2 (.int .u32 0)).set 3 (.int .u64 0)).set 4 (.int .u32 0))).below ((Below.refl _ _).alloc (Nat.le_refl _) (.cells #[.int .i64 (O : Nat), .int .u64 (FM : Nat), .int .u32 (FI : Nat), .int .u64 (TM : Nat), .int .u32 (TI : Nat)] 251))
      have hb4 := ((((((hb03.setCell (p := ⟨w.heap.size, 0, none⟩) (Nat.le_refl _) (.int .i64 0)).setCell (p := ⟨w.heap.size, 1, none⟩) (Nat.le_refl _) (.int .u64 0)).setCell (p := ⟨w.heap.size, 2, none⟩) (Nat.le_refl _) (.int .u32 0)).setCell (p := ⟨w.heap.size, 3, none⟩) (Nat.le_refl _) (.int .u64 0)).setCell (p := ⟨w.heap.size, 4, none⟩) (Nat.le_refl _) (.int .u32 0))).alloc (by simp [World.setCell]; omega) (.cells #[.int .i64 (O : Nat), .int .u64 (FM : Nat), .int .u32 (FI : Nat), .int .u64 (TM : Nat), .int .u32 (TI : Nat)] 251)
      have HRG := (show Hid _ from hR4.range)
      have HBB := (show Hid _ from hb4)
      clear hR4 hb4 hR3 hb03
      have x0 : (w3.alloc (.cells #[.int .i64 (O : Nat), .int .u64 (FM : Nat), .int .u32 (FI : Nat), .int .u64 (TM : Nat), .int .u32 (TI : Nat)] 251)).cell? ⟨w3.heap.size, 0, none⟩ = some (.int .i64 (O : Nat)) := by rw [World.cell?_alloc_mark]; rfl
      subst h2
      go_wp2_with fail
      refine (isOp_any (O : Int) _).mono ?_
      rintro e w4 ⟨rfl, hw4⟩
      subst w4
      rw [h3b]
      go_wp2
      try simp only [Exit.inBlock, Exit.then]
      refine bodyPost_ret (results_cellE2 rfl _ _ w.heap.size 0 [.int .i64 0, .int .u64 0, .int .u32 0, .int .u64 0, .int .u32 0] _ rfl HRG.out Tryz.underlying251 rfl (by kernel_rfl)) rfl ?_
      exact ⟨by rw [HN.out, HN.out, HN.out, HN.out, HN.out, HE.out]; rfl, HBB.out⟩
    case pos =>
      have h3b : decide ((O : Int) = 1 ∨ (O : Int) = 2) = true := by rw [decide_eq_true_iff]; omega
      have HE : Hid (taE zs = 0) := by show _ = _; unfold taE; rw [if_neg (by omega), if_neg (by rw [← HBG.out]; simpa using h2), if_pos (by rw [← HO.out]; exact h3)]
      have HN : Hid (∀ p k : Nat, taN zs p k = numV zs (p : Int) (k : Int)) := fun p k => by unfold taN; rw [HE.out]; rfl
      obtain ⟨w4, hw4⟩ : ∃ w4, w4 = w3.alloc (.cells #[.int .i64 (O : Nat), .int .u64 (FM : Nat), .int .u32 (FI : Nat), .int .u64 (TM : Nat), .int .u32 (TI : Nat)] 251) := ⟨_, rfl⟩
      have b34 : Below w3.heap.size w3 w4 := by rw [hw4]; exact (Below.refl _ _).alloc (Nat.le_refl _) _
      have hX4 := Stc.new w3 [.int .i64 (O : Nat), .int .u64 (FM : Nat), .int .u32 (FI : Nat), .int .u64 (TM : Nat), .int .u32 (TI : Nat)] 251 w4 hw4
      have hR4 := hR3.below b34
      have hb04 : Below w.heap.size w w4 := hb03.trans (b34.mono hb03.size)
      have x0 := hX4.cell 0 _ rfl
      have x1 := hX4.cell 1 _ rfl
      have x2 := hX4.cell 2 _ rfl
      have x3 := hX4.cell 3 _ rfl
      have x4 := hX4.cell 4 _ rfl
      have HR4 := (show Hid _ from hR4)
      have HB4 := (show Hid _ from hb04)
      have x0' := x0
      rw [hw4] at x0'
      clear hR3 hb03 b34 hR4 hb04 hX4
      subst h2
      go_wp2_with fail
      rw [← hw4]
      clear hw4 x0'
      refine (isOp_any (O : Int) _).mono ?_
      rintro e w5 ⟨rfl, hw5⟩
      subst w5
      rw [h3b]
      have hR4 := HR4.out
      have hb04 := HB4.out
      have r0 := hR4.cell 0 _ rfl
      have r0f := hR4.free 0
      have r1 := hR4.cell 1 _ rfl
      have r1f := hR4.free 1
      have r2 := hR4.cell 2 _ rfl
      have r2f := hR4.free 2
      have r3 := hR4.cell 3 _ rfl
      have r3f := hR4.free 3
      have r4 := hR4.cell 4 _ rfl
      have r4f := hR4.free 4
      have hR6 := (((((hR4.set 0 (.int .i64 (O : Nat))).set 1 (.int .u64 (FM : Nat))).set 2 (.int .u32 (FI : Nat))).set 3 (.int .u64 (TM : Nat))).set 4 (.int .u32 (TI : Nat)))
      have hb06 := (((((hb04.setCell (p := ⟨w.heap.size, 0, none⟩) (Nat.le_refl _) (.int .i64 (O : Nat))).setCell (p := ⟨w.heap.size, 1, none⟩) (Nat.le_refl _) (.int .u64 (FM : Nat))).setCell (p := ⟨w.heap.size, 2, none⟩) (Nat.le_refl _) (.int .u32 (FI : Nat))).setCell (p := ⟨w.heap.size, 3, none⟩) (Nat.le_refl _) (.int .u64 (TM : Nat))).setCell (p := ⟨w.heap.size, 4, none⟩) (Nat.le_refl _) (.int .u32 (TI : Nat)))
      have HRG := (show Hid _ from hR6.range)
      have HBB := (show Hid _ from hb06)
      clear hR6 hb06 hR4 hb04 HR4 HB4
      go_wp2
      try simp only [Exit.inBlock, Exit.then]
      refine bodyPost_ret (results_cellE2 rfl _ _ w.heap.size 0 [.int .i64 (O : Nat), .int .u64 (FM : Nat), .int .u32 (FI : Nat), .int .u64 (TM : Nat), .int .u32 (TI : Nat)] _ rfl HRG.out Tryz.underlying251 rfl (by kernel_rfl)) rfl ?_
      exact ⟨by rw [HN.out, HN.out, HN.out, HN.out, HN.out, HE.out, HO.out, HFM.out, HFI.out, HTM.out, HTI.out]; rfl, HBB.out⟩
end Go.Proofs.YtfjpckaphfdfnaaGreatDoor
namespace Go.Proofs.YtfjpckaphfdfnaaGreatDoor
open Go.RowKit Go.MapKept Go.Maps
theorem FrsW.at0 {w : World} {kd : Nat → RoleA} {B : Nat} {a : Option Addr} {n c : Nat} {L : List Nat} {fs : List (List Nat)} (h : FrsW w kd B a n c (L :: fs)) : ∃ (g : Nat) (b : Bd), a = some ⟨g, 0, none⟩ ∧ n ≤ c ∧ w.cell? ⟨g, 0, none⟩ = some (.slice b.a b.n b.c) ∧ Sl w b.a b.n b.c L ∧ b.n = L.length := by
  obtain ⟨bs, h1, h2, h3, h4⟩ := h.ex
  cases bs with
  | nil => cases h1
  | cons b bs =>
    simp only [List.map_cons, List.cons.injEq] at h1
    have hl := h2.len
    simp at hl
    obtain ⟨g, rfl, _, _, hnc, _, hcell, _⟩ := OwnG.at_ h2 (fun _ => rfl) (by omega)
    have := hcell 0 b rfl 0 _ rfl
    refine ⟨g, b, rfl, hnc, by simpa using this, by rw [← h1.1]; exact (h4 b List.mem_cons_self).1, ?_⟩
    rw [← h1.1]
    exact ((h4 b List.mem_cons_self).1.len).symm
/-- The answer's frame. -/
abbrev ansF (mac ip fm fi : Nat) : List Nat := epV fm mac 2054 (arpB 2 mac ip fm fi)
theorem takeD_new (ip fi fm : Nat) (t : Int) : takeD ip [] fi fm ip t = [(fi, knX fm t)] := by
  unfold takeD
  simp [lookD, roomB, roomD, putD]
theorem takeF_new (mac ip fm fi : Nat) : takeF mac ip [] 1 fm fi ip = [ansF mac ip fm fi] := by
  unfold takeF
  rw [wsF_none rfl]
  simp
section
variable {w0 w : World} {p : Nat} {s : HSt} {R : Nat → RSt} {C : Nat → CSt}
def takC0 (C : Nat → CSt) (fi fm : Nat) (t : Int) : CSt := ⟨(C 0).p, (C 0).mac, (C 0).ip, t, (C 0).lost, [(fi, knX fm t)]⟩
set_option maxRecDepth 100000 in
set_option maxHeartbeats 4000000 in
theorem htakeArp0 (h : HoW w0 w p s R C) {a : Option Addr} {n c : Nat} {bs : List Nat} (hs : Sl w a n c bs) (fm fi tm ti : Nat) (hE : taE bs = 0) (e1 : taN bs 6 2 = 1) (e2 : taN bs 8 6 = fm) (e3 : taN bs 14 4 = fi) (e4 : taN bs 18 6 = tm) (e5 : taN bs 24 4 = ti) (hti : ti = (C 0).ip) (hD : (C 0).D = [])
    (ht : takeE (C 0).now s.now (C 0).ip fi fm = 0) (hfi : fi < 4294967296) (hd : (R 1).d ≤ 1000000) (hok : fillE (R 1).N (R 1).tk (R 1).rs (ansF (C 0).mac (C 0).ip fm fi) = 0) :
    Calls Tryz.prog 120 #[.pointer (some ⟨p, 0, none⟩), .int .i64 0, .slice a n c] w fun e w' => e = .returned (.tuple #[]) ∧ ∃ b, HoW w0 w' p s (upd R 1 (fillR (R 1) b (ansF (C 0).mac (C 0).ip fm fi))) (upd C 0 (takC0 C fi fm s.now)) := by
  have hta := takeArp_any a n c bs w hs
  obtain ⟨ro, hV⟩ := h
  have HV := (show Hid _ from hV)
  have HD := (show Hid _ from And.intro hE (And.intro hti (And.intro hD (And.intro ht (And.intro hfi (And.intro hd hok))))))
  have HE5 := (show Hid _ from And.intro e1 (And.intro e2 (And.intro e3 (And.intro e4 e5))))
  clear hs hV e1 e2 e3 e4 e5 hti hD ht hfi hd hok
  go_enter Tryz.func120, Tryz.ntmps120
  go_wp2_with fail
  refine Calls.mono hta ?_
  clear hta
  rintro e w1 ⟨rfl, hb1⟩
  obtain ⟨e1, e2, e3, e4, e5⟩ := HE5.out
  rw [e1, e2, e3, e4, e5, hE]
  have H1 := (show Hid _ from hb1)
  have hz1 := hb1.size
  clear e1 e2 e3 e4 e5 hb1 hE HE5
  go_wp2_with fail
  obtain ⟨W2, hW2⟩ : ∃ W2, W2 = w1.alloc (.cells #[.int .i64 1, .int .u64 (fm : Nat), .int .u32 (fi : Nat), .int .u64 (tm : Nat), .int .u32 (ti : Nat)] 251) := ⟨_, rfl⟩
  have sB := Stc.new w1 [.int .i64 1, .int .u64 (fm : Nat), .int .u32 (fi : Nat), .int .u64 (tm : Nat), .int .u32 (ti : Nat)] 251 W2 hW2
  have hb2 : Below w1.heap.size w1 W2 := by rw [hW2]; exact (Below.refl _ _).alloc (Nat.le_refl _) _
  rw [← hW2]
  clear hW2
  have hd2 : Below W2.heap.size W2 W2.drew := (Below.refl _ _).drew
  have hb3 : Below w.heap.size w W2.drew := H1.out.trans ((hb2.trans (hd2.mono hb2.size)).mono hz1)
  have hV2 := HV.out.below hb3
  have sB2 := sB.below hd2
  have hbn : ro w1.heap.size = 0 := HV.out.new _ hz1
  have hc0 : W2.drew.cell? ⟨p, 13, none⟩ = some (.pointer (some ⟨(C 0).p, 0, none⟩)) ∧ W2.drew.cell? ⟨p, 10, none⟩ = some (.int .i64 s.now) ∧ W2.drew.cell? ⟨w1.heap.size, 0, none⟩ = some (.int .i64 1) ∧ W2.drew.cell? ⟨w1.heap.size, 1, none⟩ = some (.int .u64 (fm : Nat)) ∧ W2.drew.cell? ⟨w1.heap.size, 2, none⟩ = some (.int .u32 (fi : Nat)) ∧ W2.drew.cell? ⟨w1.heap.size, 3, none⟩ = some (.int .u64 (tm : Nat)) ∧ W2.drew.cell? ⟨w1.heap.size, 4, none⟩ = some (.int .u32 (ti : Nat)) := ⟨hV2.st.cell 13 _ rfl, hV2.st.cell 10 _ rfl, sB2.cell 0 _ rfl, sB2.cell 1 _ rfl, sB2.cell 2 _ rfl, sB2.cell 3 _ rfl, sB2.cell 4 _ rfl⟩
  obtain ⟨kd, hca, hkd⟩ := hV2.cache 0 (by omega)
  obtain ⟨hE, hti, hD, ht, hfi, hdd, hok⟩ := HD.out
  have HTA := (show Hid _ from take_arp hca 1 fm fi tm ti hfi s.now)
  have HKD := (show Hid _ from And.intro hV2 (And.intro hkd (And.intro sB2 hbn)))
  clear hV2 hca hkd sB sB2 hb2 hd2 hb3 hbn hE hti hD ht hfi hdd hok
  go_region_held3 (fun w' => w'.cell? ⟨p, 13, none⟩ = some (.pointer (some ⟨(C 0).p, 0, none⟩)) ∧ w'.cell? ⟨p, 10, none⟩ = some (.int .i64 s.now) ∧ w'.cell? ⟨w1.heap.size, 0, none⟩ = some (.int .i64 1) ∧ w'.cell? ⟨w1.heap.size, 1, none⟩ = some (.int .u64 (fm : Nat)) ∧ w'.cell? ⟨w1.heap.size, 2, none⟩ = some (.int .u32 (fi : Nat)) ∧ w'.cell? ⟨w1.heap.size, 3, none⟩ = some (.int .u64 (tm : Nat)) ∧ w'.cell? ⟨w1.heap.size, 4, none⟩ = some (.int .u32 (ti : Nat))) (first | exact hc0 | exact hc1 | go_keep | fail) (first
    | (go_at_call 153; refine Calls.mono HTA.out ?_; rintro e w3 ⟨kd', now', D', er, fs, fa, fn, fc, hR, hc', hg, rfl, hfs⟩; obtain ⟨hV2, hkd, sB2, hbn⟩ := HKD.out; (have h3 : HoW w0 w3 p s R (upd C 0 ⟨(C 0).p, (C 0).mac, (C 0).ip, now', (C 0).lost, D'⟩) := hV2.caches (k := 0) (by omega) _ rfl hkd hg hc'); (have sB3 := sB2.fr hg.fr (fun e => by have := hkd _ e; omega)); (have hc1 : w3.cell? ⟨p, 13, none⟩ = some (.pointer (some ⟨(C 0).p, 0, none⟩)) ∧ w3.cell? ⟨p, 10, none⟩ = some (.int .i64 s.now) ∧ w3.cell? ⟨w1.heap.size, 0, none⟩ = some (.int .i64 1) ∧ w3.cell? ⟨w1.heap.size, 1, none⟩ = some (.int .u64 (fm : Nat)) ∧ w3.cell? ⟨w1.heap.size, 2, none⟩ = some (.int .u32 (fi : Nat)) ∧ w3.cell? ⟨w1.heap.size, 3, none⟩ = some (.int .u64 (tm : Nat)) ∧ w3.cell? ⟨w1.heap.size, 4, none⟩ = some (.int .u32 (ti : Nat)) := by obtain ⟨ro3, h3⟩ := h3; exact ⟨h3.st.cell 13 _ rfl, h3.st.cell 10 _ rfl, sB3.cell 0 _ rfl, sB3.cell 1 _ rfl, sB3.cell 2 _ rfl, sB3.cell 3 _ rfl, sB3.cell 4 _ rfl⟩))
    | fail)
  all_goals
    obtain ⟨hE, hti, hD, ht, hfi, hdd, hok⟩ := HD.out
    rcases hR with ⟨hx, _⟩ | ⟨_, rfl, rfl, rfl, rfl⟩
    · exact absurd ht hx
    subst hti
    rw [hD] at hfs h3
    rw [takeD_new] at h3
    rw [takeF_new] at hfs
    have hn1 := hfs.len
    simp at hn1
    subst hn1
    obtain ⟨g3, b3, rfl, hnc3, k3, s3, l3⟩ := hfs.at0
    have hgl : g3 < w3.heap.size := by
      have := k3
      simp only [World.cell?] at this
      rcases Nat.lt_or_ge g3 w3.heap.size with h9 | h9
      · exact h9
      · simp [h9] at this
    have HL := (show Hid _ from hlay0_one h3 k3 hgl s3 hnc3 hdd hok)
    clear h3 k3 hgl s3 l3 hnc3 hfs hc' hg hD ht hfi hdd hok hE hc1 hc0
    go_wp2_with fail
    refine Calls.mono HL.out ?_
    rintro e w4 ⟨rfl, hR⟩
    have HR := (show Hid _ from hR)
    clear HL hR
    go_wp2
    go_end0
    exact ⟨rfl, HR.out⟩
def takC1 (C : Nat → CSt) (fi fm : Nat) (t : Int) : CSt := ⟨(C 1).p, (C 1).mac, (C 1).ip, t, (C 1).lost, [(fi, knX fm t)]⟩
set_option maxRecDepth 100000 in
set_option maxHeartbeats 4000000 in
theorem htakeArp1 (h : HoW w0 w p s R C) {a : Option Addr} {n c : Nat} {bs : List Nat} (hs : Sl w a n c bs) (fm fi tm ti : Nat) (hE : taE bs = 0) (e1 : taN bs 6 2 = 1) (e2 : taN bs 8 6 = fm) (e3 : taN bs 14 4 = fi) (e4 : taN bs 18 6 = tm) (e5 : taN bs 24 4 = ti) (hti : ti = (C 1).ip) (hD : (C 1).D = [])
    (ht : takeE (C 1).now s.now (C 1).ip fi fm = 0) (hfi : fi < 4294967296) (hd : (R 3).d ≤ 1000000) (hok : fillE (R 3).N (R 3).tk (R 3).rs (ansF (C 1).mac (C 1).ip fm fi) = 0) :
    Calls Tryz.prog 120 #[.pointer (some ⟨p, 0, none⟩), .int .i64 1, .slice a n c] w fun e w' => e = .returned (.tuple #[]) ∧ ∃ b, HoW w0 w' p s (upd R 3 (fillR (R 3) b (ansF (C 1).mac (C 1).ip fm fi))) (upd C 1 (takC1 C fi fm s.now)) := by
  have hta := takeArp_any a n c bs w hs
  obtain ⟨ro, hV⟩ := h
  have HV := (show Hid _ from hV)
  have HD := (show Hid _ from And.intro hE (And.intro hti (And.intro hD (And.intro ht (And.intro hfi (And.intro hd hok))))))
  have HE5 := (show Hid _ from And.intro e1 (And.intro e2 (And.intro e3 (And.intro e4 e5))))
  clear hs hV e1 e2 e3 e4 e5 hti hD ht hfi hd hok
  go_enter Tryz.func120, Tryz.ntmps120
  go_wp2_with fail
  refine Calls.mono hta ?_
  clear hta
  rintro e w1 ⟨rfl, hb1⟩
  obtain ⟨e1, e2, e3, e4, e5⟩ := HE5.out
  rw [e1, e2, e3, e4, e5, hE]
  have H1 := (show Hid _ from hb1)
  have hz1 := hb1.size
  clear e1 e2 e3 e4 e5 hb1 hE HE5
  go_wp2_with fail
  obtain ⟨W2, hW2⟩ : ∃ W2, W2 = w1.alloc (.cells #[.int .i64 1, .int .u64 (fm : Nat), .int .u32 (fi : Nat), .int .u64 (tm : Nat), .int .u32 (ti : Nat)] 251) := ⟨_, rfl⟩
  have sB := Stc.new w1 [.int .i64 1, .int .u64 (fm : Nat), .int .u32 (fi : Nat), .int .u64 (tm : Nat), .int .u32 (ti : Nat)] 251 W2 hW2
  have hb2 : Below w1.heap.size w1 W2 := by rw [hW2]; exact (Below.refl _ _).alloc (Nat.le_refl _) _
  rw [← hW2]
  clear hW2
  have hd2 : Below W2.heap.size W2 W2.drew := (Below.refl _ _).drew
  have hb3 : Below w.heap.size w W2.drew := H1.out.trans ((hb2.trans (hd2.mono hb2.size)).mono hz1)
  have hV2 := HV.out.below hb3
  have sB2 := sB.below hd2
  have hbn : ro w1.heap.size = 0 := HV.out.new _ hz1
  have hc0 : W2.drew.cell? ⟨p, 16, none⟩ = some (.pointer (some ⟨(C 1).p, 0, none⟩)) ∧ W2.drew.cell? ⟨p, 10, none⟩ = some (.int .i64 s.now) ∧ W2.drew.cell? ⟨w1.heap.size, 0, none⟩ = some (.int .i64 1) ∧ W2.drew.cell? ⟨w1.heap.size, 1, none⟩ = some (.int .u64 (fm : Nat)) ∧ W2.drew.cell? ⟨w1.heap.size, 2, none⟩ = some (.int .u32 (fi : Nat)) ∧ W2.drew.cell? ⟨w1.heap.size, 3, none⟩ = some (.int .u64 (tm : Nat)) ∧ W2.drew.cell? ⟨w1.heap.size, 4, none⟩ = some (.int .u32 (ti : Nat)) := ⟨hV2.st.cell 16 _ rfl, hV2.st.cell 10 _ rfl, sB2.cell 0 _ rfl, sB2.cell 1 _ rfl, sB2.cell 2 _ rfl, sB2.cell 3 _ rfl, sB2.cell 4 _ rfl⟩
  obtain ⟨kd, hca, hkd⟩ := hV2.cache 1 (by omega)
  obtain ⟨hE, hti, hD, ht, hfi, hdd, hok⟩ := HD.out
  have HTA := (show Hid _ from take_arp hca 1 fm fi tm ti hfi s.now)
  have HKD := (show Hid _ from And.intro hV2 (And.intro hkd (And.intro sB2 hbn)))
  clear hV2 hca hkd sB sB2 hb2 hd2 hb3 hbn hE hti hD ht hfi hdd hok
  go_region_held3 (fun w' => w'.cell? ⟨p, 16, none⟩ = some (.pointer (some ⟨(C 1).p, 0, none⟩)) ∧ w'.cell? ⟨p, 10, none⟩ = some (.int .i64 s.now) ∧ w'.cell? ⟨w1.heap.size, 0, none⟩ = some (.int .i64 1) ∧ w'.cell? ⟨w1.heap.size, 1, none⟩ = some (.int .u64 (fm : Nat)) ∧ w'.cell? ⟨w1.heap.size, 2, none⟩ = some (.int .u32 (fi : Nat)) ∧ w'.cell? ⟨w1.heap.size, 3, none⟩ = some (.int .u64 (tm : Nat)) ∧ w'.cell? ⟨w1.heap.size, 4, none⟩ = some (.int .u32 (ti : Nat))) (first | exact hc0 | exact hc1 | go_keep | fail) (first
    | (go_at_call 153; refine Calls.mono HTA.out ?_; rintro e w3 ⟨kd', now', D', er, fs, fa, fn, fc, hR, hc', hg, rfl, hfs⟩; obtain ⟨hV2, hkd, sB2, hbn⟩ := HKD.out; (have h3 : HoW w0 w3 p s R (upd C 1 ⟨(C 1).p, (C 1).mac, (C 1).ip, now', (C 1).lost, D'⟩) := hV2.caches (k := 1) (by omega) _ rfl hkd hg hc'); (have sB3 := sB2.fr hg.fr (fun e => by have := hkd _ e; omega)); (have hc1 : w3.cell? ⟨p, 16, none⟩ = some (.pointer (some ⟨(C 1).p, 0, none⟩)) ∧ w3.cell? ⟨p, 10, none⟩ = some (.int .i64 s.now) ∧ w3.cell? ⟨w1.heap.size, 0, none⟩ = some (.int .i64 1) ∧ w3.cell? ⟨w1.heap.size, 1, none⟩ = some (.int .u64 (fm : Nat)) ∧ w3.cell? ⟨w1.heap.size, 2, none⟩ = some (.int .u32 (fi : Nat)) ∧ w3.cell? ⟨w1.heap.size, 3, none⟩ = some (.int .u64 (tm : Nat)) ∧ w3.cell? ⟨w1.heap.size, 4, none⟩ = some (.int .u32 (ti : Nat)) := by obtain ⟨ro3, h3⟩ := h3; exact ⟨h3.st.cell 16 _ rfl, h3.st.cell 10 _ rfl, sB3.cell 0 _ rfl, sB3.cell 1 _ rfl, sB3.cell 2 _ rfl, sB3.cell 3 _ rfl, sB3.cell 4 _ rfl⟩))
    | fail)
  all_goals
    obtain ⟨hE, hti, hD, ht, hfi, hdd, hok⟩ := HD.out
    rcases hR with ⟨hx, _⟩ | ⟨_, rfl, rfl, rfl, rfl⟩
    · exact absurd ht hx
    subst hti
    rw [hD] at hfs h3
    rw [takeD_new] at h3
    rw [takeF_new] at hfs
    have hn1 := hfs.len
    simp at hn1
    subst hn1
    obtain ⟨g3, b3, rfl, hnc3, k3, s3, l3⟩ := hfs.at0
    have hgl : g3 < w3.heap.size := by
      have := k3
      simp only [World.cell?] at this
      rcases Nat.lt_or_ge g3 w3.heap.size with h9 | h9
      · exact h9
      · simp [h9] at this
    have HL := (show Hid _ from hlay1_one h3 k3 hgl s3 hnc3 hdd hok)
    clear h3 k3 hgl s3 l3 hnc3 hfs hc' hg hD ht hfi hdd hok hE hc1 hc0
    go_wp2_with fail
    refine Calls.mono HL.out ?_
    rintro e w4 ⟨rfl, hR⟩
    have HR := (show Hid _ from hR)
    clear HL hR
    go_wp2
    go_end0
    exact ⟨rfl, HR.out⟩
end
end Go.Proofs.YtfjpckaphfdfnaaGreatDoor
namespace Go.Proofs.YtfjpckaphfdfnaaGreatDoor
open Go.RowKit
theorem el8 : Tryz.prog.elem 24 = 5 := by simp [Program.elem, Tryz.underlying24]
theorem cells8 : Tryz.prog.cellsOf 5 = 1 := by kernel_rfl
theorem und8 : Tryz.prog.underlying 24 = some (.slice (Tryz.prog.elem 24)) := by rw [el8]; exact Tryz.underlying24
theorem size8 (w : World) : (sizeOf (Tryz.prog.elem 24)).run Tryz.prog w = .ok 1 w := by
  obtain ⟨i, hi, hz0, hz1, hz2⟩ := info_parts own_info
  rw [el8, run_sizeOf w hi, cells8]
theorem slice_to (a : Option Addr) (n c j : Nat) (h : j ≤ c) (w : World) : (Instr.slice 24 (.slice a n c) none (some (.int .i64 (j : Int))) none).run Tryz.prog w = .ok (.slice a j c) w := by
  rw [run_slice_h w 24 a n c und8 .i64 j (by omega) (by omega), size8]
  simp only [Result.andThen, sliced]
  have e : (if c = 0 then a else a.map (·.add (0 * 1))) = a := by
    split
    · rfl
    · cases a with
      | none => rfl
      | some p => simp [Addr.add]
  rw [e]
  simp
theorem slice_from (b off n c : Nat) (l : Int) (x : Nat) (hl : l = (x : Int)) (h : x ≤ n) (_hc : n ≤ c) : ∃ a', (∀ w, (Instr.slice 24 (.slice (some ⟨b, off, none⟩) n c) (some (.int .i64 l)) none none).run Tryz.prog w = .ok (.slice (some a') (n - x) (c - x)) w) ∧ (x < n → a' = ⟨b, off + x, none⟩) := by
  subst hl
  refine ⟨if c = x then ⟨b, off, none⟩ else ⟨b, off + x, none⟩, fun w => ?_, fun hx => by rw [if_neg (by omega)]⟩
  rw [run_slice_l w 24 _ n c und8 .i64 x (by omega) (by omega), size8]
  simp only [Result.andThen, sliced, Int.toNat_natCast]
  split <;> simp [Addr.add]
end Go.Proofs.YtfjpckaphfdfnaaGreatDoor
namespace Go.Proofs.YtfjpckaphfdfnaaGreatDoor
open Go.RowKit
def tkE (zs : List Nat) : Nat := if zs.length < 14 then 3 else if 1514 < zs.length then 6 else if numV zs 12 2 < 1536 then 4 else 0
def tkB (zs : List Nat) : List Nat := if tkE zs = 0 then zs.drop 14 else []
def tkN (zs : List Nat) (p k : Nat) : Nat := if tkE zs = 0 then numV zs (p : Int) (k : Int) else 0
/-- A frame and an error are answered. -/
structure TkP (zs : List Nat) (w : World) (e : Ending) (w' : World) : Prop where
  ans : ∃ a c, e = .returned (.tuple #[.agg #[.int .u64 (tkN zs 0 6 : Nat), .int .u64 (tkN zs 6 6 : Nat), .int .u16 (tkN zs 12 2 : Nat), .slice a (tkB zs).length c], .int .i64 (tkE zs : Nat)]) ∧ Sl w' a (tkB zs).length c (tkB zs)
  bel : Below w.heap.size w w'
theorem SlK.dropE {k : IntKind} {M : Nat} {w : World} {b off : Nat} {n c : Nat} {zs : List Nat} (h : SlK k M w (some ⟨b, off, none⟩) n c zs) (j : Nat) (hj : j ≤ n) (a' : Addr) (ha : j < n → a' = ⟨b, off + j, none⟩) : SlK k M w (some a') (n - j) (c - j) (zs.drop j) := by
  obtain ⟨h1, h2, h3, h4, h5, h6, h7⟩ := h
  refine ⟨by simp; omega, by omega, by omega, by omega, (fun h => by cases h), fun i => ?_, ?_⟩
  · have := h6 (j + i)
    simpa [List.getD_eq_getElem?_getD] using this
  · rcases h7 with h7 | ⟨b', off', e, hlt, hc⟩
    · exact .inl (by omega)
    · by_cases hjn : j < n
      · injection e with e
        injection e with e1 e2
        subst e1 e2
        refine .inr ⟨b, off + j, by rw [ha hjn], hlt, fun i hi => ?_⟩
        rw [Nat.add_assoc, hc (j + i) (by omega)]
        simp [List.getD_eq_getElem?_getD]
      · exact .inl (by omega)
theorem SlK.setOtherE {k : IntKind} {M : Nat} {w : World} {b off n c : Nat} {zs : List Nat} (h : SlK k M w (some ⟨b, off, none⟩) n c zs) (g o : Nat) (v : Value) (hne : b ≠ g) : SlK k M (w.setCell ⟨g, o, none⟩ v) (some ⟨b, off, none⟩) n c zs := by
  refine ⟨h.len, h.cap, h.room, h.small, h.nz, h.bnd, ?_⟩
  rcases h.at_ with h0 | ⟨b', off', e, hlt, hc⟩
  · exact .inl h0
  · injection e with e
    injection e with e1 e2
    subst e1 e2
    refine .inr ⟨b, off, rfl, by simpa [World.setCell] using hlt, fun i hi => ?_⟩
    rw [World.cell?_setCell_other _ _ _ _ (by intro e2; injection e2 with e3 _; exact hne e3.symm)]
    exact hc i hi
set_option maxRecDepth 100000 in
set_option maxHeartbeats 2000000 in
theorem take_any (a : Option Addr) (n c : Nat) (zs : List Nat) (w : World) (hs : Sl w a n c zs) :
    Calls Tryz.prog 118 #[.slice a n c] w fun e w' => TkP zs w e w' := by
  have hl := hs.len
  have hb0 : Below w.heap.size w (w.alloc (.cells #[.int .u64 0, .int .u64 0, .int .u16 0, .slice none 0 0] 238)) := (Below.refl _ _).alloc (Nat.le_refl _) _
  have hR0 := Stc.new w [.int .u64 0, .int .u64 0, .int .u16 0, .slice none 0 0] 238 (w.alloc (.cells #[.int .u64 0, .int .u64 0, .int .u16 0, .slice none 0 0] 238)) rfl
  by_cases h1 : n < 14
  · have hn1 : (n : Int) < 14 := by omega
    have HE : Hid (tkE zs = 3) := by show _ = _; unfold tkE; rw [if_pos (by omega)]
    have HB : Hid (tkB zs = []) := by show _ = _; unfold tkB; rw [HE.out]; rfl
    have HN : Hid (∀ p k, tkN zs p k = 0) := fun p k => by unfold tkN; rw [HE.out]; rfl
    have HRG := (show Hid _ from hR0.range)
    have HBB := (show Hid _ from hb0)
    clear hR0 hb0
    go_enter Tryz.func118, Tryz.ntmps118
    go_wp2
    try simp only [Exit.inBlock, Exit.then]
    refine bodyPost_ret (results_cellE2 rfl _ _ w.heap.size 0 [.int .u64 0, .int .u64 0, .int .u16 0, .slice none 0 0] _ rfl HRG.out Tryz.underlying238 rfl (by kernel_rfl)) rfl ?_
    refine ⟨⟨none, 0, ?_, ?_⟩, HBB.out⟩
    · rw [HN.out, HN.out, HN.out, HE.out, HB.out]; rfl
    · rw [HB.out]; exact SlK.nil _ _ _ (by omega)
  · by_cases h2 : 1514 < n
    · have hn1 : ¬ (n : Int) < 14 := by omega
      have hn2 : (1514 : Int) < n := by omega
      have HE : Hid (tkE zs = 6) := by show _ = _; unfold tkE; rw [if_neg (by omega), if_pos (by omega)]
      have HB : Hid (tkB zs = []) := by show _ = _; unfold tkB; rw [HE.out]; rfl
      have HN : Hid (∀ p k, tkN zs p k = 0) := fun p k => by unfold tkN; rw [HE.out]; rfl
      have HRG := (show Hid _ from hR0.range)
      have HBB := (show Hid _ from hb0)
      clear hR0 hb0
      go_enter Tryz.func118, Tryz.ntmps118
      go_wp2
      try simp only [Exit.inBlock, Exit.then]
      refine bodyPost_ret (results_cellE2 rfl _ _ w.heap.size 0 [.int .u64 0, .int .u64 0, .int .u16 0, .slice none 0 0] _ rfl HRG.out Tryz.underlying238 rfl (by kernel_rfl)) rfl ?_
      refine ⟨⟨none, 0, ?_, ?_⟩, HBB.out⟩
      · rw [HN.out, HN.out, HN.out, HE.out, HB.out]; rfl
      · rw [HB.out]; exact SlK.nil _ _ _ (by omega)
    · have hn1 : ¬ (n : Int) < 14 := by omega
      have hn2 : ¬ (1514 : Int) < n := by omega
      obtain ⟨W0, hW0⟩ : ∃ W0, W0 = w.alloc (.cells #[.int .u64 0, .int .u64 0, .int .u16 0, .slice none 0 0] 238) := ⟨_, rfl⟩
      rw [← hW0] at hb0 hR0
      have hs0 := hs.below hb0
      have hzW : W0.heap.size = w.heap.size + 1 := by rw [hW0]; simp
      obtain ⟨W1, hW1⟩ : ∃ W1, W1 = W0.alloc (.cells #[.slice a n c] 24) := ⟨_, rfl⟩
      obtain ⟨W2, hW2⟩ : ∃ W2, W2 = W1.alloc (.cells #[.int .i64 0] 3) := ⟨_, rfl⟩
      have hz1 : W1.heap.size = W0.heap.size + 1 := by rw [hW1]; simp
      have b01 : Below W0.heap.size W0 W1 := by rw [hW1]; exact (Below.refl _ _).alloc (Nat.le_refl _) _
      have b12 : Below W1.heap.size W1 W2 := by rw [hW2]; exact (Below.refl _ _).alloc (Nat.le_refl _) _
      have b02 : Below W0.heap.size W0 W2 := b01.trans (b12.mono b01.size)
      have sb := (Stc.new W0 [.slice a n c] 24 W1 hW1).below b12
      have st := Stc.new W1 [.int .i64 0] 3 W2 hW2
      have hec := eachHead_cut W0 W0.heap.size W1.heap.size a n c zs W2 hs0 sb st (by omega) b01.size b02
      have hkb := numV_lt zs 12 2 hs.bnd
      have HZW := (show Hid _ from hzW)
      have HZ1 := (show Hid _ from hz1)
      have HW1 := (show Hid _ from hW1)
      have HW2 := (show Hid _ from hW2)
      clear hW1 hW2 hzW hz1
      go_enter Tryz.func118, Tryz.ntmps118
      go_wp2_with fail
      rw [← hW0]
      clear hW0
      refine (cutting_any a n c W0).mono ?_
      rintro e w1 ⟨rfl, hw1⟩
      rw [← HW1.out, ← HW2.out] at hw1
      subst hw1
      rw [← HZ1.out]
      go_wp2_with fail
      refine hec.mono ?_
      rintro e w3 ⟨rfl, hb3⟩
      have hR3 := hR0.below hb3
      have hs3 := hs0.below hb3
      have hb03 : Below w.heap.size w w3 := hb0.trans (hb3.mono hb0.size)
      obtain ⟨T, hT⟩ : ∃ T, T = numV zs 0 6 := ⟨_, rfl⟩
      obtain ⟨F, hF⟩ : ∃ F, F = numV zs 6 6 := ⟨_, rfl⟩
      obtain ⟨K, hK⟩ : ∃ K, K = numV zs 12 2 := ⟨_, rfl⟩
      rw [← hT, ← hF, ← hK]
      have HT := (show Hid _ from hT)
      have HF := (show Hid _ from hF)
      have HK := (show Hid _ from hK)
      have hk2 : K < 65536 := by rw [hK]; exact hkb
      have hwq : w.heap.size < w3.heap.size := hR3.lt
      clear hT hF hK hkb hec b01 b12 b02 sb st
      by_cases h3 : K < 1536
      · have hk3 : (K : Int) < 1536 := by omega
        have HE : Hid (tkE zs = 4) := by show _ = _; unfold tkE; rw [if_neg (by omega), if_neg (by omega), if_pos (by rw [← HK.out]; exact h3)]
        have HB : Hid (tkB zs = []) := by show _ = _; unfold tkB; rw [HE.out]; rfl
        have HN : Hid (∀ p k, tkN zs p k = 0) := fun p k => by unfold tkN; rw [HE.out]; rfl
        have r0 := hR3.cell 0 _ rfl
        have r1 := hR3.cell 1 _ rfl
        have r2 := hR3.cell 2 _ rfl
        have r3 := hR3.cell 3 _ rfl
        have r0f := hR3.free 0
        have r1f := hR3.free 1
        have r2f := hR3.free 2
        have r3f := hR3.free 3
        have hR4 := ((((hR3.set 0 (.int .u64 0)).set 1 (.int .u64 0)).set 2 (.int .u16 0)).set 3 (.slice none 0 0)).below ((Below.refl _ _).alloc (Nat.le_refl _) (.cells #[.int .u64 (T : Nat), .int .u64 (F : Nat), .int .u16 (K : Nat), .slice none 0 0] 238))
        have hb4 := ((((hb03.setCell (p := ⟨w.heap.size, 0, none⟩) (Nat.le_refl _) (.int .u64 0)).setCell (p := ⟨w.heap.size, 1, none⟩) (Nat.le_refl _) (.int .u64 0)).setCell (p := ⟨w.heap.size, 2, none⟩) (Nat.le_refl _) (.int .u16 0)).setCell (p := ⟨w.heap.size, 3, none⟩) (Nat.le_refl _) (.slice none 0 0)).alloc (by simp [World.setCell]; omega) (.cells #[.int .u64 (T : Nat), .int .u64 (F : Nat), .int .u16 (K : Nat), .slice none 0 0] 238)
        have HRG := (show Hid _ from hR4.range)
        have HBB := (show Hid _ from hb4)
        clear hR4 hb4 hR3 hb03
        go_wp2
        try simp only [Exit.inBlock, Exit.then]
        refine bodyPost_ret (results_cellE2 rfl _ _ w.heap.size 0 [.int .u64 0, .int .u64 0, .int .u16 0, .slice none 0 0] _ rfl HRG.out Tryz.underlying238 rfl (by kernel_rfl)) rfl ?_
        refine ⟨⟨none, 0, ?_, ?_⟩, HBB.out⟩
        · rw [HN.out, HN.out, HN.out, HE.out, HB.out]; rfl
        · rw [HB.out]; exact SlK.nil _ _ _ (by omega)
      · have hk3 : ¬ (K : Int) < 1536 := by omega
        have HE : Hid (tkE zs = 0) := by show _ = _; unfold tkE; rw [if_neg (by omega), if_neg (by omega), if_neg (by rw [← HK.out]; exact h3)]
        have HB : Hid (tkB zs = zs.drop 14) := by show _ = _; unfold tkB; rw [HE.out]; rfl
        have HN : Hid (∀ p k : Nat, tkN zs p k = numV zs p k) := fun p k => by unfold tkN; rw [HE.out]; rfl
        rcases hs.at_ with h00 | ⟨b, off, rfl, hltb, _⟩
        · omega
        obtain ⟨ab, hab, hab2⟩ := slice_from b off n c 14 14 rfl (by omega) hs.cap
        have hsd3 : Sl w3 (some ab) (n - 14) (c - 14) (zs.drop 14) := hs3.dropE 14 (by omega) ab hab2
        obtain ⟨w4, hw4⟩ : ∃ w4, w4 = w3.alloc (.cells #[.int .u64 (T : Nat), .int .u64 (F : Nat), .int .u16 (K : Nat), .slice none 0 0] 238) := ⟨_, rfl⟩
        have hb34 : Below w3.heap.size w3 w4 := by rw [hw4]; exact (Below.refl _ _).alloc (Nat.le_refl _) _
        have hX4 := Stc.new w3 [.int .u64 (T : Nat), .int .u64 (F : Nat), .int .u16 (K : Nat), .slice none 0 0] 238 w4 hw4
        have hR4 := hR3.below hb34
        have hsd4 := hsd3.below hb34
        have hb04 : Below w.heap.size w w4 := hb03.trans (hb34.mono hb03.size)
        have hdl : (zs.drop 14).length = n - 14 := hsd4.len
        clear hR3 hsd3 hb34 hb03 hs3 hb3
        go_wp2_with fail
        rw [← hw4]
        clear hw4
        refine (clone_any (some ab) (n - 14) (c - 14) (zs.drop 14) w4 hsd4 (by omega)).mono ?_
        rintro e w5 ⟨a5, c5, rfl, ho5, _, hb45⟩
        have hX5 := hX4.below hb45
        have hR5 := hR4.below hb45
        have hb05 : Below w.heap.size w w5 := hb04.trans (hb45.mono hb04.size)
        have hs5 := ho5.sl (by omega)
        have hx4 := hX4.lt
        have hr4 := hR4.lt
        have x0 := hX5.cell 0 _ rfl
        have x1 := hX5.cell 1 _ rfl
        have x2 := hX5.cell 2 _ rfl
        have x3 := hX5.cell 3 _ rfl
        have x3f := hX5.free 3
        have r0 := hR5.cell 0 _ rfl
        have r1 := hR5.cell 1 _ rfl
        have r2 := hR5.cell 2 _ rfl
        have r3 := hR5.cell 3 _ rfl
        have r0f := hR5.free 0
        have r1f := hR5.free 1
        have r2f := hR5.free 2
        have r3f := hR5.free 3
        have hR6 := ((((hR5.other w3.heap.size 3 (.slice a5 (n - 14) c5) (by omega)).set 0 (.int .u64 (T : Nat))).set 1 (.int .u64 (F : Nat))).set 2 (.int .u16 (K : Nat))).set 3 (.slice a5 (n - 14) c5)
        have hb06 := ((((hb05.setCell (p := ⟨w3.heap.size, 3, none⟩) (by show w.heap.size ≤ w3.heap.size; omega) (.slice a5 (n - 14) c5)).setCell (p := ⟨w.heap.size, 0, none⟩) (Nat.le_refl _) (.int .u64 (T : Nat))).setCell (p := ⟨w.heap.size, 1, none⟩) (Nat.le_refl _) (.int .u64 (F : Nat))).setCell (p := ⟨w.heap.size, 2, none⟩) (Nat.le_refl _) (.int .u16 (K : Nat))).setCell (p := ⟨w.heap.size, 3, none⟩) (Nat.le_refl _) (.slice a5 (n - 14) c5)
        have HSF : Hid (Sl (((((w5.setCell ⟨w3.heap.size, 3, none⟩ (.slice a5 (n - 14) c5)).setCell ⟨w.heap.size, 0, none⟩ (.int .u64 (T : Nat))).setCell ⟨w.heap.size, 1, none⟩ (.int .u64 (F : Nat))).setCell ⟨w.heap.size, 2, none⟩ (.int .u16 (K : Nat))).setCell ⟨w.heap.size, 3, none⟩ (.slice a5 (n - 14) c5)) a5 (n - 14) c5 (zs.drop 14)) := by
          rcases hs5.at_ with h00 | ⟨g5, o5, rfl, _, _⟩
          · exact ⟨hs5.len, hs5.cap, hs5.room, hs5.small, hs5.nz, hs5.bnd, .inl h00⟩
          · have hg5 : w4.heap.size ≤ g5 := (ho5.own.lt g5 rfl).1
            exact ((((hs5.setOtherE w3.heap.size 3 _ (by omega)).setOtherE w.heap.size 0 _ (by omega)).setOtherE w.heap.size 1 _ (by omega)).setOtherE w.heap.size 2 _ (by omega)).setOtherE w.heap.size 3 _ (by omega)
        have HRG := (show Hid _ from hR6.range)
        have HBB := (show Hid _ from hb06)
        have HDL := (show Hid _ from hdl)
        clear hR6 hb06 hX4 hX5 hR4 hR5 hb04 hb05 hs5 ho5 hsd4 hdl hb45
        go_wp2
        try simp only [Exit.inBlock, Exit.then]
        refine bodyPost_ret (results_cellE2 rfl _ _ w.heap.size 0 [.int .u64 (T : Nat), .int .u64 (F : Nat), .int .u16 (K : Nat), .slice a5 (n - 14) c5] _ rfl HRG.out Tryz.underlying238 rfl (by kernel_rfl)) rfl ?_
        refine ⟨⟨a5, c5, ?_, ?_⟩, HBB.out⟩
        · rw [HN.out, HN.out, HN.out, HE.out, HB.out, HDL.out]
          rw [HT.out, HF.out, HK.out]
          rfl
        · rw [HB.out, HDL.out]; exact HSF.out
end Go.Proofs.YtfjpckaphfdfnaaGreatDoor
namespace Go.Proofs.YtfjpckaphfdfnaaGreatDoor
open Go.RowKit
set_option maxHeartbeats 2000000 in
theorem refbytes_any (v : Nat) (k : Int) (w : World) (hv : v < 18446744073709551616) :
    Calls Tryz.prog 222 #[.int .u64 (v : Nat), .int .i64 k] w fun e w' => ∃ a c, e = .returned (.tuple #[.slice a (bytesV v k).length c, .int .i64 (bytesE v k : Nat)]) ∧ OwnB w' w.heap.size a (bytesV v k).length c (bytesV v k) ∧ Below w.heap.size w w' := by
  by_cases hk : k < 1 ∨ 8 < k
  · have HE : Hid (bytesE v k = 2) := by show _ = _; unfold bytesE; rw [if_pos hk]
    have HV : Hid (bytesV v k = []) := by show _ = _; unfold bytesV; rw [HE.out]; rfl
    by_cases hk1 : k < 1
    · go_enter Tryz.func222, Tryz.ntmps222
      go_wp2
      go_ret2
      rw [HE.out, HV.out]
      exact ⟨none, 0, rfl, OwnB.nil _ _, Below.refl _ _⟩
    · have hk8 : 8 < k := by omega
      go_enter Tryz.func222, Tryz.ntmps222
      go_wp2
      go_ret2
      rw [HE.out, HV.out]
      exact ⟨none, 0, rfl, OwnB.nil _ _, Below.refl _ _⟩
  · have hk1 : 1 ≤ k := by omega
    have hk8 : k ≤ 8 := by omega
    have HE : Hid (bytesE v k = if v / 256 ^ k.toNat = 0 then 0 else 6) := by show _ = _; unfold bytesE; rw [if_neg hk]
    have HV : Hid (bytesV v k = if bytesE v k = 0 then bytesB v k.toNat else []) := rfl
    obtain ⟨k, rfl⟩ := Int.eq_ofNat_of_zero_le (show 0 ≤ k by omega)
    rw [Int.toNat_natCast] at HE HV
    have hmk := mkn k (by omega)
    have hfull := own_full w k (by omega)
    clear hk
    go_enter Tryz.func222, Tryz.ntmps222
    go_wp2
    go_loopw [0, 7] (fun vv i wr => ∃ m : Nat, m ≤ k ∧ ((m = 0 ∧ i = .int .i64 (-1)) ∨ ∃ q : Nat, m = q + 1 ∧ i = .int .i64 q) ∧ vv = .int .u64 (v / 256 ^ (k - m) : Nat) ∧ OwnB wr w.heap.size (some ⟨w.heap.size, 0, none⟩) k k (List.replicate m 0 ++ bytesB v (k - m)) ∧ Below w.heap.size w wr) (fun _ i _ => (intOf i + 1).toNat)
    case atStart =>
      refine ⟨k, Nat.le_refl _, .inr ⟨k - 1, by omega, by go_num⟩, by simp, by simpa [bytesB] using hfull, (Below.refl _ _).alloc (Nat.le_refl _) _⟩
    case round =>
      obtain ⟨m, hm, hcase, rfl, hown, hbel⟩ := hrel
      have hd : v / 256 ^ (k - m) < 18446744073709551616 := Nat.lt_of_le_of_lt (Nat.div_le_self _ _) hv
      rcases hcase with ⟨rfl, rfl⟩ | ⟨q, rfl, rfl⟩
      · have HB : Hid (List.replicate 0 0 ++ bytesB v (k - 0) = bytesB v k) := by show _ = _; simp
        rw [HB.out] at hown
        rw [Nat.sub_zero] at *
        have hbl := bytesB_len v k
        by_cases hz : v / 256 ^ k = 0
        · rw [if_pos hz] at HE
          rw [HE.out, if_pos rfl] at HV
          rw [hz]
          go_wp2
          go_ret2
          rw [HV.out, HE.out]
          exact ⟨some ⟨w.heap.size, 0, none⟩, k, by rw [hbl]; rfl, by rw [hbl]; exact hown, hbel⟩
        · rw [if_neg hz] at HE
          rw [HE.out, if_neg (by omega)] at HV
          generalize v / 256 ^ k = u at *
          have hz' : (0 : Int) < (u : Int) := by omega
          go_wp2
          go_ret2
          rw [HV.out, HE.out]
          exact ⟨none, 0, rfl, OwnB.nil _ _, hbel⟩
      · have hc := hown.cell q (by omega)
        have hf := hown.free q
        have HS : Hid ((List.replicate (q + 1) 0 ++ bytesB v (k - (q + 1))).set q (v / 256 ^ (k - (q + 1)) % 256) = List.replicate q 0 ++ bytesB v (k - q)) := by
          show _ = _
          rw [rep_set, show k - q = k - (q + 1) + 1 from by omega]
          rfl
        have HD := (show Hid _ from div_step v q k (by omega))
        generalize (List.replicate (q + 1) 0 ++ bytesB v (k - (q + 1))) = ys at *
        generalize v / 256 ^ (k - (q + 1)) = u at *
        have hqk : (q : Int) < (k : Int) := by omega
        go_wp2
        go_roundw
        case rel =>
          refine ⟨q, by omega, ?_, ?_, ?_, hbel.setCell (Nat.le_refl _) _⟩
          · by_cases hq0 : q = 0
            · subst hq0; exact .inl ⟨rfl, by go_num⟩
            · exact .inr ⟨q - 1, by omega, by go_num⟩
          · rw [← HD.out]; go_num
          · rw [← HS.out, show ((u : Int) % 256) = ((u % 256 : Nat) : Int) from by omega]
            exact hown.store q (u % 256) (by omega)
        case measure => simp [intOf]
end Go.Proofs.YtfjpckaphfdfnaaGreatDoor
namespace Go.Proofs.YtfjpckaphfdfnaaGreatDoor
open Go.RowKit
theorem card_any (m : Nat) (w : World) (hm : m < 18446744073709551616) :
    Calls Tryz.prog 171 #[.int .u64 (m : Nat)] w fun e w' => e = .returned (.bool (decide (m < 281474976710656))) ∧ w' = w := by
  have HD : Hid (decide ((m : Int) < 281474976710656) = decide (m < 281474976710656)) := by show _ = _; rw [decide_eq_decide]; omega
  go_enter Tryz.func171, Tryz.ntmps171
  go_wp2
  go_ret
  exact ⟨by rw [← HD.out]; rfl, rfl⟩
/-- A row that was laid on. -/
structure LayP (B : Nat) (L : List Nat) (w : World) (e : Ending) (w' : World) : Prop where
  row : ∃ a c, e = .returned (.slice a L.length c) ∧ OwnB w' B a L.length c L
  bel : Below B w w'
set_option maxRecDepth 100000 in
set_option maxHeartbeats 2000000 in
theorem rlay_any (B : Nat) (a : Option Addr) (n c : Nat) (zs : List Nat) (v k : Nat) (w : World) (h : OwnB w B a n c zs) (hB : B ≤ w.heap.size) (hv : v < 256 ^ k) (h1 : 1 ≤ k) (h8 : k ≤ 8) (hn : n ≤ 10000) :
    Calls Tryz.prog 172 #[.slice a n c, .int .u64 (v : Nat), .int .i64 (k : Nat)] w fun e w' => LayP B (zs ++ bytesB v k) w e w' := by
  have hv64 : v < 18446744073709551616 := Nat.lt_of_lt_of_le hv (Nat.le_trans (Nat.pow_le_pow_right (by omega) h8) (by decide))
  have hby := refbytes_any v (k : Int) w hv64
  rw [bytesE_in v k hv h1 h8, bytesV_in v k hv h1 h8, bytesB_len] at hby
  obtain ⟨D, hD⟩ : ∃ D, D = bytesB v k := ⟨_, rfl⟩
  rw [← hD] at hby ⊢
  clear hD hv
  go_enter Tryz.func172, Tryz.ntmps172
  go_wp2_with fail
  refine hby.mono ?_
  rintro e w1 ⟨ad, cd, rfl, hod, hb1⟩
  have ho1 := h.below hb1
  have hsd := hod.sl (by omega)
  have hz1 : B ≤ w1.heap.size := Nat.le_trans hB hb1.size
  go_wp2_with (at_builtin; go_must (refine app_list rfl _ _ rfl B a n c zs rfl ho1 _ k cd D rfl hsd (by omega) hz1 ?_))
  intro a2 c2 w2 ho2 hg2
  have hb2 : Below B w w2 := (hb1.mono hB).trans (ho1.up hg2 hz1)
  have HL : Hid ((zs ++ D).length = n + k) := ho2.len
  go_wp2
  go_ret
  exact ⟨⟨a2, c2, by rw [HL.out]; rfl, by rw [HL.out]; exact ho2⟩, hb2⟩
set_option maxRecDepth 100000 in
set_option maxHeartbeats 2000000 in
theorem rput_any (t f k : Nat) (a : Option Addr) (n c : Nat) (zs : List Nat) (w : World) (ht : t < 18446744073709551616) (hf : f < 18446744073709551616) (hk : k < 65536) (hs : Sl w a n c zs) :
    Calls Tryz.prog 132 #[.agg #[.int .u64 (t : Nat), .int .u64 (f : Nat), .int .u16 (k : Nat), .slice a n c]] w fun e w' => RowE w (epV t f k zs) (epE t f k n) e w' := by
  have hl := hs.len
  have hct := fun W => card_any t W ht
  have hcf := fun W => card_any f W hf
  have hbW : Below w.heap.size w (w.alloc (.cells #[.int .u64 (t : Nat), .int .u64 (f : Nat), .int .u16 (k : Nat), .slice a n c] 238)) := (Below.refl _ _).alloc (Nat.le_refl _) _
  by_cases h1 : t < 281474976710656
  · rw [decide_eq_true h1] at hct
    by_cases h2 : f < 281474976710656
    · rw [decide_eq_true h2] at hcf
      by_cases h3 : k < 1536
      · have hk3 : (k : Int) < 1536 := by omega
        have HE : Hid (epE t f k n = 2) := by show _ = _; unfold epE; rw [if_pos (by omega)]
        have HV : Hid (epV t f k zs = []) := by show _ = _; unfold epV; rw [hl, HE.out]; rfl
        go_enter Tryz.func132, Tryz.ntmps132
        go_wp2_with fail
        refine (hct _).mono ?_
        rintro e w' ⟨rfl, hw'⟩
        subst w'
        go_wp2_with fail
        refine (hcf _).mono ?_
        rintro e w' ⟨rfl, hw'⟩
        subst w'
        go_wp2
        go_ret2
        rw [HE.out, HV.out]
        exact ⟨⟨none, 0, rfl, OwnB.nil _ _⟩, hbW⟩
      · by_cases h4 : 1500 < n
        · have hk3 : ¬ (k : Int) < 1536 := by omega
          have hk4 : (1500 : Int) < n := by omega
          have HE : Hid (epE t f k n = 6) := by show _ = _; unfold epE; rw [if_neg (by omega), if_pos h4]
          have HV : Hid (epV t f k zs = []) := by show _ = _; unfold epV; rw [hl, HE.out]; rfl
          go_enter Tryz.func132, Tryz.ntmps132
          go_wp2_with fail
          refine (hct _).mono ?_
          rintro e w' ⟨rfl, hw'⟩
          subst w'
          go_wp2_with fail
          refine (hcf _).mono ?_
          rintro e w' ⟨rfl, hw'⟩
          subst w'
          go_wp2
          go_ret2
          rw [HE.out, HV.out]
          exact ⟨⟨none, 0, rfl, OwnB.nil _ _⟩, hbW⟩
        · have hk3 : ¬ (k : Int) < 1536 := by omega
          have hk4 : ¬ (1500 : Int) < n := by omega
          have HE : Hid (epE t f k n = 0) := by show _ = _; unfold epE; rw [if_neg (by omega), if_neg (by omega)]
          have HV : Hid (epV t f k zs = ((([] ++ bytesB t 6) ++ bytesB f 6) ++ bytesB k 2) ++ zs) := by show _ = _; unfold epV; rw [hl, HE.out]; simp
          obtain ⟨W, hW⟩ : ∃ W, W = w.alloc (.cells #[.int .u64 (t : Nat), .int .u64 (f : Nat), .int .u16 (k : Nat), .slice a n c] 238) := ⟨_, rfl⟩
          have hX := Stc.new w [.int .u64 (t : Nat), .int .u64 (f : Nat), .int .u16 (k : Nat), .slice a n c] 238 W hW
          rw [← hW] at hbW
          have hzW : W.heap.size = w.heap.size + 1 := by rw [hW]; simp
          have HZW := (show Hid _ from hzW)
          have hsW := hs.below hbW
          have x0 := hX.cell 0 _ rfl
          have x1 := hX.cell 1 _ rfl
          have x2 := hX.cell 2 _ rfl
          have x3 := hX.cell 3 _ rfl
          have hl0 := rlay_any W.heap.size none 0 0 [] t 6 W (OwnB.nil _ _) (Nat.le_refl _) (by show t < 256 ^ 6; omega) (by omega) (by omega) (by omega)
          obtain ⟨L0, hL0⟩ : ∃ L0, L0 = [] ++ bytesB t 6 := ⟨_, rfl⟩
          obtain ⟨L1, hL1⟩ : ∃ L1, L1 = L0 ++ bytesB f 6 := ⟨_, rfl⟩
          obtain ⟨L2, hL2⟩ : ∃ L2, L2 = L1 ++ bytesB k 2 := ⟨_, rfl⟩
          have k0 : L0.length = 6 := by rw [hL0]; simp [bytesB_len]
          have k1 : L1.length = 12 := by rw [hL1]; simp [bytesB_len, k0]
          have k2 : L2.length = 14 := by rw [hL2]; simp [bytesB_len, k1]
          rw [← hL0, ← hL1, ← hL2] at HV
          rw [← hL0] at hl0
          have H1 := (show Hid _ from hL1)
          have H2 := (show Hid _ from hL2)
          clear hL0 hL1 hL2 hzW
          go_enter Tryz.func132, Tryz.ntmps132
          go_wp2_with fail
          rw [← hW]
          clear hW
          refine (hct _).mono ?_
          rintro e w' ⟨rfl, hw'⟩
          subst w'
          go_wp2_with fail
          refine (hcf _).mono ?_
          rintro e w' ⟨rfl, hw'⟩
          subst w'
          go_wp2_with fail
          refine hl0.mono ?_
          rintro e w1 ⟨⟨a1, c1, rfl, o1⟩, b1⟩
          have hX1 := hX.below b1
          have y1 := hX1.cell 1 _ rfl
          have hz1 := b1.size
          rw [k0] at o1 ⊢
          have hl1 := rlay_any W.heap.size a1 6 c1 L0 f 6 w1 o1 hz1 (by show f < 256 ^ 6; omega) (by omega) (by omega) (by omega)
          rw [← H1.out] at hl1
          clear hl0 x0 x1 x2 x3
          go_wp2_with fail
          refine hl1.mono ?_
          rintro e w2 ⟨⟨a2, c2, rfl, o2⟩, b2⟩
          have b02 : Below W.heap.size W w2 := b1.trans b2
          have hX2 := hX.below b02
          have y2 := hX2.cell 2 _ rfl
          have hz2 := b02.size
          rw [k1] at o2 ⊢
          have hl2 := rlay_any W.heap.size a2 12 c2 L1 k 2 w2 o2 hz2 (by show k < 256 ^ 2; omega) (by omega) (by omega) (by omega)
          rw [← H2.out] at hl2
          clear hl1 y1 o1
          go_wp2_with fail
          refine hl2.mono ?_
          rintro e w3 ⟨⟨a3, c3, rfl, o3⟩, b3⟩
          have b03 : Below W.heap.size W w3 := b02.trans b3
          have hX3 := hX.below b03
          have y3 := hX3.cell 3 _ rfl
          have hz3 := b03.size
          rw [k2] at o3 ⊢
          have hs3 := hsW.below b03
          clear hl2 y2 o2
          go_wp2_with (at_builtin; go_must (refine app_list rfl _ _ rfl W.heap.size a3 14 c3 L2 rfl o3 _ n c zs rfl hs3 (by omega) hz3 ?_))
          intro a4 c4 w4 ho4 hg4
          have hb4 : Below w.heap.size w w4 := hbW.trans ((b03.trans (o3.up hg4 hz3)).mono hbW.size)
          have ho4' := ho4.base hbW.size
          have HLL : Hid ((epV t f k zs).length = 14 + n) := by show _ = _; rw [HV.out]; exact ho4.len
          go_wp2
          go_ret2
          exact ⟨⟨a4, c4, by rw [HLL.out, HE.out]; rfl, by rw [HLL.out, HV.out]; exact ho4'⟩, hb4⟩
    · rw [decide_eq_false h2] at hcf
      have HE : Hid (epE t f k n = 2) := by show _ = _; unfold epE; rw [if_pos (by omega)]
      have HV : Hid (epV t f k zs = []) := by show _ = _; unfold epV; rw [hl, HE.out]; rfl
      go_enter Tryz.func132, Tryz.ntmps132
      go_wp2_with fail
      refine (hct _).mono ?_
      rintro e w' ⟨rfl, hw'⟩
      subst w'
      go_wp2_with fail
      refine (hcf _).mono ?_
      rintro e w' ⟨rfl, hw'⟩
      subst w'
      go_wp2
      go_ret2
      rw [HE.out, HV.out]
      exact ⟨⟨none, 0, rfl, OwnB.nil _ _⟩, hbW⟩
  · rw [decide_eq_false h1] at hct
    have HE : Hid (epE t f k n = 2) := by show _ = _; unfold epE; rw [if_pos (by omega)]
    have HV : Hid (epV t f k zs = []) := by show _ = _; unfold epV; rw [hl, HE.out]; rfl
    go_enter Tryz.func132, Tryz.ntmps132
    go_wp2_with fail
    refine (hct _).mono ?_
    rintro e w' ⟨rfl, hw'⟩
    subst w'
    go_wp2
    go_ret2
    rw [HE.out, HV.out]
    exact ⟨⟨none, 0, rfl, OwnB.nil _ _⟩, hbW⟩
set_option maxRecDepth 100000 in
theorem for_any (t f k : Nat) (a : Option Addr) (n c : Nat) (m : Nat) (w : World) :
    Calls Tryz.prog 119 #[.agg #[.int .u64 (t : Nat), .int .u64 (f : Nat), .int .u16 (k : Nat), .slice a n c], .int .u64 (m : Nat)] w fun e w' => e = .returned (.bool (decide (t = m ∨ t = 281474976710655))) ∧ Below w.heap.size w w' := by
  have hbW : Below w.heap.size w (w.alloc (.cells #[.int .u64 (t : Nat), .int .u64 (f : Nat), .int .u16 (k : Nat), .slice a n c] 238)) := (Below.refl _ _).alloc (Nat.le_refl _) _
  by_cases h1 : t = m
  · subst h1
    go_enter Tryz.func119, Tryz.ntmps119
    go_wp2
    go_ret
    exact ⟨by simp, hbW⟩
  · have h2 : ¬ (t : Int) = (m : Int) := by omega
    have h3 : ((t : Int) == (m : Int)) = false := by simpa using h2
    have HD : Hid (decide (t = m ∨ t = 281474976710655) = ((t : Int) == 281474976710655)) := by
      show _ = _
      rw [Bool.eq_iff_iff]
      simp only [decide_eq_true_eq, beq_iff_eq]
      omega
    go_enter Tryz.func119, Tryz.ntmps119
    go_wp2
    go_ret
    exact ⟨by rw [HD.out]; rfl, hbW⟩
end Go.Proofs.YtfjpckaphfdfnaaGreatDoor
namespace Go.Proofs.YtfjpckaphfdfnaaGreatDoor
open Go.RowKit Go.MapKept Go.Maps
section
variable {w0 w : World} {p : Nat} {s : HSt} {R : Nat → RSt} {C : Nat → CSt}
set_option maxRecDepth 100000 in
set_option maxHeartbeats 4000000 in
theorem htakeFrame0 (h : HoW w0 w p s R C) {a : Option Addr} {n c : Nat} {zs : List Nat} (hs : Sl w a n c zs) (dr : Value) (f : Nat) (bs : List Nat) (z1 : tkE zs = 0) (z2 : tkN zs 0 6 = 281474976710655) (z3 : tkN zs 6 6 = f) (z4 : tkN zs 12 2 = 2054) (z5 : tkB zs = bs)
    (fm fi tm ti : Nat) (hE : taE bs = 0) (e1 : taN bs 6 2 = 1) (e2 : taN bs 8 6 = fm) (e3 : taN bs 14 4 = fi) (e4 : taN bs 18 6 = tm) (e5 : taN bs 24 4 = ti) (hti : ti = (C 0).ip) (hD : (C 0).D = [])
    (ht : takeE (C 0).now s.now (C 0).ip fi fm = 0) (hfi : fi < 4294967296) (hd : (R 1).d ≤ 1000000) (hok : fillE (R 1).N (R 1).tk (R 1).rs (ansF (C 0).mac (C 0).ip fm fi) = 0) :
    Calls Tryz.prog 88 #[.pointer (some ⟨p, 0, none⟩), .int .i64 0, .slice a n c, dr] w fun e w' => e = .returned (.tuple #[]) ∧ ∃ b, HoW w0 w' p s (upd R 1 (fillR (R 1) b (ansF (C 0).mac (C 0).ip fm fi))) (upd C 0 (takC0 C fi fm s.now)) := by
  have hta := take_any a n c zs w hs
  have HA := (show Hid _ from fun (W : World) (xa : Option Addr) (xn xc : Nat) (hW : HoW w0 W p s R C) (hx : Sl W xa xn xc bs) => htakeArp0 hW hx fm fi tm ti hE e1 e2 e3 e4 e5 hti hD ht hfi hd hok)
  have HZ := (show Hid _ from And.intro z1 (And.intro z2 (And.intro z3 (And.intro z4 z5))))
  have HH := (show Hid _ from h)
  clear h hs z1 z2 z3 z4 z5 hE e1 e2 e3 e4 e5 hti hD ht hfi hd hok
  go_enter Tryz.func88, Tryz.ntmps88
  go_wp2_with fail
  refine Calls.mono hta ?_
  clear hta
  rintro e w1 ⟨⟨xa, xc, rfl, hx⟩, hb1⟩
  obtain ⟨z1, z2, z3, z4, z5⟩ := HZ.out
  rw [z1, z2, z3, z4]
  rw [z5] at hx ⊢
  obtain ⟨xn, hxn⟩ : ∃ xn, xn = bs.length := ⟨_, rfl⟩
  rw [← hxn] at hx ⊢
  have h1 := HoW.below HH.out hb1
  have H1 := (show Hid _ from And.intro h1 hx)
  clear hb1 h1 hx z1 z2 z3 z4 z5 HZ HH hxn
  have HFO : Hid (∀ W, Calls Tryz.prog 119 #[.agg #[.int .u64 281474976710655, .int .u64 (f : Nat), .int .u16 2054, .slice xa xn xc], .int .u64 (s.m0 : Nat)] W fun e w' => e = .returned (.bool true) ∧ Below W.heap.size W w') := fun W => by
    have h := for_any 281474976710655 f 2054 xa xn xc s.m0 W
    rw [show decide (281474976710655 = s.m0 ∨ 281474976710655 = 281474976710655) = true by simp] at h
    exact h
  go_wp2_with fail
  obtain ⟨W2, hW2⟩ : ∃ W2, W2 = w1.alloc (.cells #[.int .u64 281474976710655, .int .u64 (f : Nat), .int .u16 2054, .slice xa xn xc] 238) := ⟨_, rfl⟩
  have sB := Stc.new w1 [.int .u64 281474976710655, .int .u64 (f : Nat), .int .u16 2054, .slice xa xn xc] 238 W2 hW2
  have hb2 : Below w1.heap.size w1 W2 := by rw [hW2]; exact (Below.refl _ _).alloc (Nat.le_refl _) _
  rw [← hW2]
  clear hW2
  have hd2 : Below W2.heap.size W2 W2.drew := (Below.refl _ _).drew
  have HALL : Hid (∀ V, Below W2.heap.size W2 V → V.cell? ⟨p, 0, none⟩ = some (.int .u64 (s.m0 : Nat)) ∧ V.cell? ⟨w1.heap.size, 0, none⟩ = some (.int .u64 281474976710655) ∧ V.cell? ⟨w1.heap.size, 1, none⟩ = some (.int .u64 (f : Nat)) ∧ V.cell? ⟨w1.heap.size, 2, none⟩ = some (.int .u16 2054) ∧ V.cell? ⟨w1.heap.size, 3, none⟩ = some (.slice xa xn xc)) := fun V hV => by
    obtain ⟨ro, hx⟩ := H1.out.1
    have sx := (hx.below hb2).below hV
    have sy := sB.below hV
    exact ⟨sx.st.cell 0 _ rfl, sy.cell 0 _ rfl, sy.cell 1 _ rfl, sy.cell 2 _ rfl, sy.cell 3 _ rfl⟩
  have hc0 := HALL.out _ hd2
  have HB2 := (show Hid _ from hb2)
  clear sB hb2
  go_region_held3 (fun w' => w'.cell? ⟨p, 0, none⟩ = some (.int .u64 (s.m0 : Nat)) ∧ w'.cell? ⟨w1.heap.size, 0, none⟩ = some (.int .u64 281474976710655) ∧ w'.cell? ⟨w1.heap.size, 1, none⟩ = some (.int .u64 (f : Nat)) ∧ w'.cell? ⟨w1.heap.size, 2, none⟩ = some (.int .u16 2054) ∧ w'.cell? ⟨w1.heap.size, 3, none⟩ = some (.slice xa xn xc)) (first | exact hc0 | exact hc1 | go_keep | fail) (first
    | (go_at_call 119; refine Calls.mono (HFO.out _) ?_; rintro e w3 ⟨rfl, hb3⟩; have hd3 := hd2.trans (hb3.mono hd2.size); have hc1 := HALL.out _ hd3)
    | fail)
  all_goals
    have hbx : Below w1.heap.size w1 w3 := HB2.out.trans (hd3.mono HB2.out.size)
    have HL := (show Hid _ from HA.out w3 xa xn xc (HoW.below H1.out.1 hbx) (H1.out.2.below hbx))
    have x3 : w3.cell? ⟨w1.heap.size, 3, none⟩ = some (.slice xa xn xc) := hc1.2.2.2.2
    clear hc1 hc0 hbx hd3 hd2
    go_wp2_with fail
    refine Calls.mono HL.out ?_
    rintro e w4 ⟨rfl, hR⟩
    have HR := (show Hid _ from hR)
    clear HL hR x3
    go_wp2
    go_end0
    exact ⟨rfl, HR.out⟩
set_option maxRecDepth 100000 in
set_option maxHeartbeats 4000000 in
theorem htakeFrame1 (h : HoW w0 w p s R C) {a : Option Addr} {n c : Nat} {zs : List Nat} (hs : Sl w a n c zs) (dr : Value) (f : Nat) (bs : List Nat) (z1 : tkE zs = 0) (z2 : tkN zs 0 6 = 281474976710655) (z3 : tkN zs 6 6 = f) (z4 : tkN zs 12 2 = 2054) (z5 : tkB zs = bs)
    (fm fi tm ti : Nat) (hE : taE bs = 0) (e1 : taN bs 6 2 = 1) (e2 : taN bs 8 6 = fm) (e3 : taN bs 14 4 = fi) (e4 : taN bs 18 6 = tm) (e5 : taN bs 24 4 = ti) (hti : ti = (C 1).ip) (hD : (C 1).D = [])
    (ht : takeE (C 1).now s.now (C 1).ip fi fm = 0) (hfi : fi < 4294967296) (hd : (R 3).d ≤ 1000000) (hok : fillE (R 3).N (R 3).tk (R 3).rs (ansF (C 1).mac (C 1).ip fm fi) = 0) :
    Calls Tryz.prog 88 #[.pointer (some ⟨p, 0, none⟩), .int .i64 1, .slice a n c, dr] w fun e w' => e = .returned (.tuple #[]) ∧ ∃ b, HoW w0 w' p s (upd R 3 (fillR (R 3) b (ansF (C 1).mac (C 1).ip fm fi))) (upd C 1 (takC1 C fi fm s.now)) := by
  have hta := take_any a n c zs w hs
  have HA := (show Hid _ from fun (W : World) (xa : Option Addr) (xn xc : Nat) (hW : HoW w0 W p s R C) (hx : Sl W xa xn xc bs) => htakeArp1 hW hx fm fi tm ti hE e1 e2 e3 e4 e5 hti hD ht hfi hd hok)
  have HZ := (show Hid _ from And.intro z1 (And.intro z2 (And.intro z3 (And.intro z4 z5))))
  have HH := (show Hid _ from h)
  clear h hs z1 z2 z3 z4 z5 hE e1 e2 e3 e4 e5 hti hD ht hfi hd hok
  go_enter Tryz.func88, Tryz.ntmps88
  go_wp2_with fail
  refine Calls.mono hta ?_
  clear hta
  rintro e w1 ⟨⟨xa, xc, rfl, hx⟩, hb1⟩
  obtain ⟨z1, z2, z3, z4, z5⟩ := HZ.out
  rw [z1, z2, z3, z4]
  rw [z5] at hx ⊢
  obtain ⟨xn, hxn⟩ : ∃ xn, xn = bs.length := ⟨_, rfl⟩
  rw [← hxn] at hx ⊢
  have h1 := HoW.below HH.out hb1
  have H1 := (show Hid _ from And.intro h1 hx)
  clear hb1 h1 hx z1 z2 z3 z4 z5 HZ HH hxn
  have HFO : Hid (∀ W, Calls Tryz.prog 119 #[.agg #[.int .u64 281474976710655, .int .u64 (f : Nat), .int .u16 2054, .slice xa xn xc], .int .u64 (s.m1 : Nat)] W fun e w' => e = .returned (.bool true) ∧ Below W.heap.size W w') := fun W => by
    have h := for_any 281474976710655 f 2054 xa xn xc s.m1 W
    rw [show decide (281474976710655 = s.m1 ∨ 281474976710655 = 281474976710655) = true by simp] at h
    exact h
  go_wp2_with fail
  obtain ⟨W2, hW2⟩ : ∃ W2, W2 = w1.alloc (.cells #[.int .u64 281474976710655, .int .u64 (f : Nat), .int .u16 2054, .slice xa xn xc] 238) := ⟨_, rfl⟩
  have sB := Stc.new w1 [.int .u64 281474976710655, .int .u64 (f : Nat), .int .u16 2054, .slice xa xn xc] 238 W2 hW2
  have hb2 : Below w1.heap.size w1 W2 := by rw [hW2]; exact (Below.refl _ _).alloc (Nat.le_refl _) _
  rw [← hW2]
  clear hW2
  have hd2 : Below W2.heap.size W2 W2.drew := (Below.refl _ _).drew
  have HALL : Hid (∀ V, Below W2.heap.size W2 V → V.cell? ⟨p, 1, none⟩ = some (.int .u64 (s.m1 : Nat)) ∧ V.cell? ⟨w1.heap.size, 0, none⟩ = some (.int .u64 281474976710655) ∧ V.cell? ⟨w1.heap.size, 1, none⟩ = some (.int .u64 (f : Nat)) ∧ V.cell? ⟨w1.heap.size, 2, none⟩ = some (.int .u16 2054) ∧ V.cell? ⟨w1.heap.size, 3, none⟩ = some (.slice xa xn xc)) := fun V hV => by
    obtain ⟨ro, hx⟩ := H1.out.1
    have sx := (hx.below hb2).below hV
    have sy := sB.below hV
    exact ⟨sx.st.cell 1 _ rfl, sy.cell 0 _ rfl, sy.cell 1 _ rfl, sy.cell 2 _ rfl, sy.cell 3 _ rfl⟩
  have hc0 := HALL.out _ hd2
  have HB2 := (show Hid _ from hb2)
  clear sB hb2
  go_region_held3 (fun w' => w'.cell? ⟨p, 1, none⟩ = some (.int .u64 (s.m1 : Nat)) ∧ w'.cell? ⟨w1.heap.size, 0, none⟩ = some (.int .u64 281474976710655) ∧ w'.cell? ⟨w1.heap.size, 1, none⟩ = some (.int .u64 (f : Nat)) ∧ w'.cell? ⟨w1.heap.size, 2, none⟩ = some (.int .u16 2054) ∧ w'.cell? ⟨w1.heap.size, 3, none⟩ = some (.slice xa xn xc)) (first | exact hc0 | exact hc1 | go_keep | fail) (first
    | (go_at_call 119; refine Calls.mono (HFO.out _) ?_; rintro e w3 ⟨rfl, hb3⟩; have hd3 := hd2.trans (hb3.mono hd2.size); have hc1 := HALL.out _ hd3)
    | fail)
  all_goals
    have hbx : Below w1.heap.size w1 w3 := HB2.out.trans (hd3.mono HB2.out.size)
    have HL := (show Hid _ from HA.out w3 xa xn xc (HoW.below H1.out.1 hbx) (H1.out.2.below hbx))
    have x3 : w3.cell? ⟨w1.heap.size, 3, none⟩ = some (.slice xa xn xc) := hc1.2.2.2.2
    clear hc1 hc0 hbx hd3 hd2
    go_wp2_with fail
    refine Calls.mono HL.out ?_
    rintro e w4 ⟨rfl, hR⟩
    have HR := (show Hid _ from hR)
    clear HL hR x3
    go_wp2
    go_end0
    exact ⟨rfl, HR.out⟩
end
end Go.Proofs.YtfjpckaphfdfnaaGreatDoor
