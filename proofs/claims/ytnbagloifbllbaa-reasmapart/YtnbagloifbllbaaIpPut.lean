/- What ip.Put answers. -/
import Derived.Test.YtnbagloifbllbaaIpHead
import Derived.Deep.RegionHeld3
namespace Go.Proofs.Ytnbagloifbllbaa
open Go.RowKit
/-- A row and an error are answered. -/
structure RowE (w : World) (L : List Nat) (er : Nat) (e : Ending) (w' : World) : Prop where
  row : ∃ a c, e = .returned (.tuple #[.slice a L.length c, .int .i64 (er : Nat)]) ∧ OwnB w' w.heap.size a L.length c L
  bel : Below w.heap.size w w'
set_option maxRecDepth 100000 in
set_option maxHeartbeats 1000000 in
theorem iput_any (sr ds pr tt id : Nat) (dn mo : Bool) (of : Int) (a : Option Addr) (n c : Nat) (zs : List Nat) (w : World) (hsr : sr < 4294967296) (hds : ds < 4294967296) (hpr : pr < 256) (htt : tt < 256) (hid : id < 65536) (hs : Sl w a n c zs) :
    Calls Try.prog 17 #[.agg #[.int .u32 (sr : Nat), .int .u32 (ds : Nat), .int .u8 (pr : Nat), .int .u8 (tt : Nat), .int .u16 (id : Nat), .bool dn, .bool mo, .int .i64 of, .slice a n c]] w fun e w' => RowE w (ipV sr ds pr tt id dn mo of zs) (mbE mo of n) e w' := by
  have hl := hs.len
  have hsm := hs.small
  obtain ⟨W, hW⟩ : ∃ W, W = w.alloc (.cells #[.int .u32 (sr : Nat), .int .u32 (ds : Nat), .int .u8 (pr : Nat), .int .u8 (tt : Nat), .int .u16 (id : Nat), .bool dn, .bool mo, .int .i64 of, .slice a n c] 26) := ⟨_, rfl⟩
  have hX := Stc.new w [.int .u32 (sr : Nat), .int .u32 (ds : Nat), .int .u8 (pr : Nat), .int .u8 (tt : Nat), .int .u16 (id : Nat), .bool dn, .bool mo, .int .i64 of, .slice a n c] 26 W hW
  have hbW : Below w.heap.size w W := by rw [hW]; exact (Below.refl _ _).alloc (Nat.le_refl _) _
  have hsW := hs.below hbW
  have x0 := hX.cell 0 _ rfl
  have x1 := hX.cell 1 _ rfl
  have x2 := hX.cell 2 _ rfl
  have x3 := hX.cell 3 _ rfl
  have x4 := hX.cell 4 _ rfl
  have x5 := hX.cell 5 _ rfl
  have x6 := hX.cell 6 _ rfl
  have x7 := hX.cell 7 _ rfl
  have x8 := hX.cell 8 _ rfl
  have hmb := fun W => mayBe_any sr ds pr tt id dn mo of a n c W hsm
  by_cases hE : mbE mo of n = 0
  · obtain ⟨q1, q2, q3, q4, q5⟩ := mbE_ok hE
    obtain ⟨o, ho⟩ : ∃ o : Nat, of = (o : Int) := ⟨of.toNat, by omega⟩
    subst ho
    have HV : Hid (ipV sr ds pr tt id dn mo (o : Int) zs = ipHd sr ds pr tt id (flV dn mo o) n ++ zs) := by show _ = _; unfold ipV; rw [hl, if_pos hE, Int.toNat_natCast]
    have HL : Hid ((ipV sr ds pr tt id dn mo (o : Int) zs).length = 20 + n) := by show _ = _; rw [HV.out, List.length_append, ipHd_len, hl]
    have HE := (show Hid _ from hE)
    rw [hE] at hmb
    have hhd := fun W => head_any sr ds pr tt id dn mo o a n c W hsr hds hpr htt hid (by omega) (by omega)
    generalize ipHd sr ds pr tt id (flV dn mo o) n = H at *
    clear q3 q4 hE
    go_enter Try.func17, Try.ntmps17
    go_wp2_with fail
    rw [← hW]
    clear hW
    refine (hmb W).mono ?_
    rintro e w1 ⟨rfl, b1⟩
    have hX1 := hX.below b1
    have hs1 := hsW.below b1
    have bb1 : Below w.heap.size w w1 := hbW.trans (b1.mono hbW.size)
    clear x0 x1 x2 x3 x4 x5 x6 x7 x8 hX hsW hbW b1
    have x0 := hX1.cell 0 _ rfl
    have x1 := hX1.cell 1 _ rfl
    have x2 := hX1.cell 2 _ rfl
    have x3 := hX1.cell 3 _ rfl
    have x4 := hX1.cell 4 _ rfl
    have x5 := hX1.cell 5 _ rfl
    have x6 := hX1.cell 6 _ rfl
    have x7 := hX1.cell 7 _ rfl
    have x8 := hX1.cell 8 _ rfl
    have hXd := hX1.below (Below.refl _ _).drew
    clear x0 x1 x2 x3 x4 x5 x6 x7 x8
    have x0 := hXd.cell 0 _ rfl
    have x1 := hXd.cell 1 _ rfl
    have x2 := hXd.cell 2 _ rfl
    have x3 := hXd.cell 3 _ rfl
    have x4 := hXd.cell 4 _ rfl
    have x5 := hXd.cell 5 _ rfl
    have x6 := hXd.cell 6 _ rfl
    have x7 := hXd.cell 7 _ rfl
    have x8 := hXd.cell 8 _ rfl
    go_wp2_with fail
    go_region_held3 (fun w' => w'.cell? ⟨w.heap.size, 0, none⟩ = some (.int .u32 (sr : Nat)) ∧ w'.cell? ⟨w.heap.size, 1, none⟩ = some (.int .u32 (ds : Nat)) ∧ w'.cell? ⟨w.heap.size, 2, none⟩ = some (.int .u8 (pr : Nat)) ∧ w'.cell? ⟨w.heap.size, 3, none⟩ = some (.int .u8 (tt : Nat)) ∧ w'.cell? ⟨w.heap.size, 4, none⟩ = some (.int .u16 (id : Nat)) ∧ w'.cell? ⟨w.heap.size, 5, none⟩ = some (.bool dn) ∧ w'.cell? ⟨w.heap.size, 6, none⟩ = some (.bool mo) ∧ w'.cell? ⟨w.heap.size, 7, none⟩ = some (.int .i64 ((o : Nat) : Int)) ∧ w'.cell? ⟨w.heap.size, 8, none⟩ = some (.slice a n c)) (first | exact ⟨hXd.cell 0 _ rfl, hXd.cell 1 _ rfl, hXd.cell 2 _ rfl, hXd.cell 3 _ rfl, hXd.cell 4 _ rfl, hXd.cell 5 _ rfl, hXd.cell 6 _ rfl, hXd.cell 7 _ rfl, hXd.cell 8 _ rfl⟩ | exact ⟨hX2.cell 0 _ rfl, hX2.cell 1 _ rfl, hX2.cell 2 _ rfl, hX2.cell 3 _ rfl, hX2.cell 4 _ rfl, hX2.cell 5 _ rfl, hX2.cell 6 _ rfl, hX2.cell 7 _ rfl, hX2.cell 8 _ rfl⟩ | exact ⟨hX3.cell 0 _ rfl, hX3.cell 1 _ rfl, hX3.cell 2 _ rfl, hX3.cell 3 _ rfl, hX3.cell 4 _ rfl, hX3.cell 5 _ rfl, hX3.cell 6 _ rfl, hX3.cell 7 _ rfl, hX3.cell 8 _ rfl⟩ | fail) (first
      | (go_at_call 27; refine (hhd _).mono ?_; rintro e w2 ⟨a2, c2, rfl, o2, b2⟩; have hX2 := hXd.below b2; have bb2 : Below w1.heap.size w1 w2 := ((Below.refl _ _).drew).trans b2; have hs2 := hs1.below bb2)
      | (refine app_step2 (by rfl) _ _ (by rfl) w1.heap.size a2 20 c2 H (by rfl) o2 _ n c zs (by rfl) hs2 (by omega) bb2.size ?_; intro a3 c3 w3 o3 g3 p3; have bb3 : Below w1.heap.size w1 w3 := bb2.trans (o2.up g3 bb2.size); have hX3 := hX1.below bb3)
      | fail)
    all_goals
      have o4 := o3.base bb1.size
      have bb4 : Below w.heap.size w w3 := bb1.trans (bb3.mono bb1.size)
      clear hX3 hX2 hXd hX1 o3 o2 g3 p3 hs2 hs1
      go_wp2
      go_ret2
      exact ⟨⟨a3, c3, by rw [HL.out, HE.out]; rfl, by rw [HL.out, HV.out]; exact o4⟩, bb4⟩
  · have hne : ¬ ((mbE mo of n : Nat) : Int) = 0 := by omega
    have hne2 : (((mbE mo of n : Nat) : Int) != 0) = true := by simpa using hne
    have HV : Hid (ipV sr ds pr tt id dn mo of zs = []) := by show _ = _; unfold ipV; rw [hl, if_neg hE]
    generalize mbE mo of n = E at *
    go_enter Try.func17, Try.ntmps17
    go_wp2_with fail
    rw [← hW]
    clear hW
    refine (hmb W).mono ?_
    rintro e w1 ⟨rfl, b1⟩
    go_wp2
    go_ret2
    rw [HV.out]
    exact ⟨⟨none, 0, rfl, OwnB.nil _ _⟩, hbW.trans (b1.mono hbW.size)⟩
end Go.Proofs.Ytnbagloifbllbaa
