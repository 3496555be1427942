/- arp: a neighbour is kept; a question is asked. -/
import Derived.Test.YtfjpckaphfdfnaaGreatDoorAr6
namespace Go.Proofs.YtfjpckaphfdfnaaGreatDoor
open Go.RowKit Go.MapKept Go.Maps
structure KeepP (w : World) (kd : Nat → RoleA) (p mac ip : Nat) (now lost : Int) (D : List (Nat × Nbr)) (e : Ending) (w' : World) : Prop where
  out : e = .returned (.tuple #[])
  st : ∃ kd', CaW w' kd' p mac ip now lost D ∧ GrowA kd kd' w w'
theorem mset_put {D : List (Nat × Nbr)} (hs : Srt D) (q : Nat) (x : Nbr) : mset (fun q' => (lookD D q').map Nbr.v) q x.v = fun q' => (lookD (putD D q x) q').map Nbr.v := by
  funext q'
  rw [look_put D q x q' hs]
  unfold mset
  split <;> rfl
theorem mdel_del {D : List (Nat × Nbr)} (hs : Srt D) (q : Nat) : mdel (fun q' => (lookD D q').map Nbr.v) q = fun q' => (lookD (delD D q) q').map Nbr.v := by
  funext q'
  rw [look_del D q q' hs]
  unfold mdel
  split <;> rfl
theorem keepD {w : World} {kd : Nat → RoleA} {p mac ip : Nat} {now lost : Int} {D : List (Nat × Nbr)} {q : Nat} (h : CaV (fun q' => q' ≠ q) w kd p mac ip now lost D) (x : Nbr) (hx : NbW w kd q x) (ho : NbOk now x) (hq : q < 4294967296) (hl : (lookD D q).isSome = true ∨ D.length < 8) :
    Calls Tryz.prog 122 #[.pointer (some ⟨p, 0, none⟩), .int .u32 (q : Nat), x.v] w (KeepP w kd p mac ip now lost (putD D q x)) := by
  have hlen : (putD D q x).length ≤ 8 := by
    rw [len_put D q x h.srt]
    have := h.len
    rcases hl with hl | hl
    · rw [hl]; simpa using this
    · split <;> omega
  have hkb : ∀ y ∈ putD D q x, y.1 < 4294967296 := fun y hy => by
    rcases putD_mem hy with rfl | hy
    · exact hq
    · exact h.keys y hy
  have heach : ∀ (kd' : Nat → RoleA) (w' : World) (Q : Nat → Prop), Fr Q w w' → (∀ g, g < w.heap.size → Q g → kd g = .cache ∨ kd g = .map) → (∀ g, g < w.heap.size → kd' g = kd g) → ∀ y ∈ putD D q x, (True → NbW w' kd' y.1 y.2) ∧ NbOk now y.2 ∧ y.1 < 4294967296 := by
    intro kd' w' Q hf hQ hk y hy
    have hq2 : ∀ r g, g < w.heap.size → Q g → kd g ≠ .body ∧ kd g ≠ .row r := fun r g hg hq => by
      rcases hQ g hg hq with e | e <;> rw [e] <;> exact ⟨fun e => (by cases e), fun e => (by cases e)⟩
    have hm := (h.srt.put q x).look (show (y.1, y.2) ∈ putD D q x from hy)
    rw [look_put D q x y.1 h.srt] at hm
    split at hm
    · rename_i e
      injection hm with hm
      rw [← hm, e]
      exact ⟨fun _ => hx.fr hf (hq2 q) (fun g hg _ => hk g hg), ho, hq⟩
    · rename_i e
      have := h.each _ (lookD_mem hm)
      exact ⟨fun _ => (this.1 e).fr hf (hq2 y.1) (fun g hg _ => hk g hg), this.2⟩
  rcases h.near with ⟨h1, rfl⟩ | ⟨mb, h1, h2, h3⟩
  · refine (keep_none h1 q hq x.kn x.mac x.at_ x.ak x.a x.n x.c).mono ?_
    rintro e w' ⟨rfl, k1, k2, k3⟩
    have hz : w.heap.size + 1 < w'.heap.size := k2.lt
    refine ⟨rfl, fun g => if g = w.heap.size + 1 then .map else kd g, ⟨?_, .inr ⟨_, k1, ?_, if_pos rfl⟩, heach _ _ _ k3 (fun g hg hQ => ?_) (fun g hg => if_neg (by omega)), h.srt.put q x, hlen, fun g hg => ?_, h.mac1, h.ip1, h.now0, h.now1⟩, ⟨k3.mono (fun g hg hQ => ?_), fun g hg hn => ?_⟩⟩
    · rw [if_neg (by have := h1.lt; omega)]; exact h.kp
    · have := k2.congr (g' := fun q' => (lookD (putD [] q x) q').map Nbr.v) (fun q' _ => congrFun (mset_put h.srt q x) q')
      exact this
    · rcases hQ with e | e
      · rw [e]; exact .inl h.kp
      · omega
    · rw [if_neg (by omega)]; exact h.fresh g (by omega)
    · rcases hQ with e | e
      · rw [e, h.kp]; exact fun e => (by cases e)
      · omega
    · show (if g = w.heap.size + 1 then RoleA.map else kd g) = .no
      rw [if_neg (by omega)]; exact hn
  · have hpm : p ≠ mb := fun e => by rw [← e, h.kp] at h3; cases h3
    refine (keep_some h1 h2 hpm q hq x.kn x.mac x.at_ x.ak x.a x.n x.c).mono ?_
    rintro e w' ⟨rfl, k1, k2, k3⟩
    refine ⟨rfl, kd, ⟨h.kp, .inr ⟨mb, k1, ?_, h3⟩, heach _ _ _ k3 (fun g hg hQ => ?_) (fun g hg => rfl), h.srt.put q x, hlen, fun g hg => h.fresh g (Nat.le_trans k3.size hg), h.mac1, h.ip1, h.now0, h.now1⟩, GrowA.of_fr k3 (fun g hg hQ => ?_)⟩
    · have e1 : mset (fun q' => (lookD D q').map Nbr.v) q (.agg #[.bool x.kn, .int .u64 (x.mac : Nat), .int .i64 x.at_, .int .i64 x.ak, .slice x.a x.n x.c]) = fun q' => (lookD (putD D q x) q').map Nbr.v := mset_put h.srt q x
      rw [e1] at k2
      exact k2.tightD (h.srt.put q x) hkb
    · rcases hQ with e | e
      · rw [e]; exact .inl h.kp
      · rw [e]; exact .inr h3
    · rcases hQ with e | e
      · rw [e, h.kp]; exact fun e => (by cases e)
      · rw [e, h3]; exact fun e => (by cases e)
def askX (x : Nbr) (now : Int) : Nbr := { x with at_ := now, ak := x.ak + 1 }
/-- A frame is answered, in memory of nobody's. -/
structure FrmP (w : World) (kd' : Nat → RoleA) (L : List Nat) (e : Ending) (w' : World) : Prop where
  out : ∃ a c, e = .returned (.slice a L.length c) ∧ OwnB w' w.heap.size a L.length c L ∧ (∀ g, (Value.slice a L.length c).ownBlock = some g → kd' g = .no)
structure AskP (w : World) (kd : Nat → RoleA) (p mac ip : Nat) (now lost : Int) (D : List (Nat × Nbr)) (L : List Nat) (e : Ending) (w' : World) : Prop where
  st : ∃ kd', CaW w' kd' p mac ip now lost D ∧ GrowA kd kd' w w' ∧ FrmP w kd' L e w'
set_option maxRecDepth 100000 in
set_option maxHeartbeats 1000000 in
theorem ask_any {w : World} {kd : Nat → RoleA} {p mac ip : Nat} {now lost : Int} {D : List (Nat × Nbr)} {q : Nat} (h : CaV (fun q' => q' ≠ q) w kd p mac ip now lost D) (x : Nbr) (hx : NbW w kd q x) (ho : NbOk now x) (hak : x.ak ≤ 2) (hq : q < 4294967296) (hl : (lookD D q).isSome = true ∨ D.length < 8) :
    Calls Tryz.prog 92 #[.pointer (some ⟨p, 0, none⟩), .int .u32 (q : Nat), x.v] w (AskP w kd p mac ip now lost (putD D q (askX x now)) (epV 281474976710655 mac 2054 (arpB 1 mac ip 0 q))) := by
  obtain ⟨v, hst⟩ := h.st
  have ho2 : NbOk now (askX x now) := ⟨ho.mac, h.now0, by show now ≤ now; omega, by have := ho.ak0; show 0 ≤ x.ak + 1; omega, by show x.ak + 1 ≤ 3; omega, ho.len, ho.none⟩
  obtain ⟨W, hW⟩ : ∃ W, W = w.alloc (.cells #[.bool x.kn, .int .u64 (x.mac : Nat), .int .i64 now, .int .i64 (x.ak + 1), .slice x.a x.n x.c] 166) := ⟨_, rfl⟩
  have b0 : Below w.heap.size w W := by rw [hW]; exact (Below.refl _ _).alloc (Nat.le_refl _) _
  have hx2 : NbW W kd q (askX x now) := by
    have := hx.fr (kd' := kd) (Fr.of_below (P := fun _ => False) b0) (fun _ _ h => h.elim) (fun _ _ _ => rfl)
    exact ⟨this.row, this.rk, this.bs⟩
  have HK := (show Hid _ from keepD (h.below b0) (askX x now) hx2 ho2 hq hl)
  have c2 := hst.cell 2 _ rfl
  have hpl := hst.lt
  have HB := (show Hid _ from b0)
  have hk1 := ho.ak0
  have HM : Hid (mac < 281474976710655 ∧ ip < 4294967296) := ⟨h.mac1, h.ip1⟩
  obtain ⟨kn, nm, at_, ak, wa, wn, wc, ws⟩ := x
  unfold Nbr.v askX at HK
  unfold Nbr.v
  dsimp only at *
  clear h hst b0 hx2 hx ho ho2 hl
  go_enter Tryz.func92, Tryz.ntmps92
  go_wp2_with fail
  rw [← hW]
  clear hW c2
  refine Calls.mono HK.out ?_
  rintro e w1 ⟨rfl, kd1, hc1, hg1⟩
  obtain ⟨v1, hs1⟩ := hc1.st
  have HT := (show Hid _ from tell_any hs1 (by have := HM.out.1; omega) HM.out.2 1 281474976710655 0 q (.inl rfl) (by omega) (by omega) hq)
  have HC := (show Hid _ from And.intro hc1 hg1)
  clear hc1 hg1 hs1
  go_wp2_with fail
  refine Calls.mono HT.out ?_
  rintro e w2 ⟨⟨a2, c2, rfl, hr2⟩, hb2⟩
  have HR := (show Hid _ from And.intro hr2 hb2)
  clear hr2 hb2
  go_wp2
  go_ret
  obtain ⟨hc1, hg1⟩ := HC.out
  obtain ⟨hr2, hb2⟩ := HR.out
  have hsz := Nat.le_trans HB.out.size hg1.fr.size
  refine ⟨kd1, hc1.below hb2, (GrowA.of_below HB.out).trans (hg1.trans (GrowA.of_below hb2)), a2, c2, rfl, hr2.base hsz, fun g hg => ?_⟩
  exact hc1.fresh g (hr2.own.lt g hg).1
end Go.Proofs.YtfjpckaphfdfnaaGreatDoor
