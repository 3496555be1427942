/- arp: is the last question so long ago? -/
import Derived.Test.YtfjpckaphfdfnaaGreatDoorAr4
namespace Go.Proofs.YtfjpckaphfdfnaaGreatDoor
open Go.RowKit Go.MapKept Go.Maps
def dueB (now : Int) (kn : Bool) (at_ : Int) : Bool := !kn && decide (10 ≤ now - at_)
set_option maxRecDepth 100000 in
set_option maxHeartbeats 1000000 in
theorem due_any {w : World} {p : Nat} {mac ip : Nat} {now : Int} {near : Value} {lost : Int} (h : Stc w p (CaC mac ip now near lost)) (kn : Bool) (nm : Nat) (at_ ak : Int) (wa : Option Addr) (wn wc : Nat) (h0 : 0 ≤ now) (h1 : now ≤ 1099511627776) (h2 : 0 ≤ at_) (h3 : at_ ≤ 1099511627776) :
    Calls Tryz.prog 91 #[.pointer (some ⟨p, 0, none⟩), .agg #[.bool kn, .int .u64 (nm : Nat), .int .i64 at_, .int .i64 ak, .slice wa wn wc]] w fun e w' => e = .returned (.bool (dueB now kn at_)) ∧ Below w.heap.size w w' := by
  obtain ⟨W, hW⟩ : ∃ W, W = w.alloc (.cells #[.bool kn, .int .u64 (nm : Nat), .int .i64 at_, .int .i64 ak, .slice wa wn wc] 166) := ⟨_, rfl⟩
  have b0 : Below w.heap.size w W := by rw [hW]; exact (Below.refl _ _).alloc (Nat.le_refl _) _
  have stN := Stc.new w [.bool kn, .int .u64 (nm : Nat), .int .i64 at_, .int .i64 ak, .slice wa wn wc] 166 W hW
  have HKC : Hid (W.drew.cell? ⟨p, 2, none⟩ = some (.int .i64 now) ∧ W.drew.cell? ⟨w.heap.size, 0, none⟩ = some (.bool kn) ∧ W.drew.cell? ⟨w.heap.size, 2, none⟩ = some (.int .i64 at_)) :=
    ⟨((h.below b0).below (Below.refl _ _).drew).cell 2 _ rfl, (stN.below (Below.refl _ _).drew).cell 0 _ rfl, (stN.below (Below.refl _ _).drew).cell 2 _ rfl⟩
  have HB := (show Hid _ from b0)
  clear h b0 stN
  cases kn with
  | true =>
    go_enter Tryz.func91, Tryz.ntmps91
    go_wp2_with fail
    rw [← hW]
    clear hW
    refine wp_region_fixW mixedX (fun V => V = W.drew) [(5, .pointer (some ⟨w.heap.size, 0, none⟩)), (6, .bool true), (7, .bool false), (8, .bool false), (9, undef), (10, undef), (11, undef), (12, undef), (13, undef), (14, undef), (15, undef), (16, undef), (17, .bool false), (4, .bool false)] ?Z1 ?hZ1 (by kernel_rfl) (by kernel_rfl) (by kernel_rfl) (by kernel_rfl) ?h01 ?hops1 ?he1
    case hZ1 => simp only [List.foldl_cons, List.foldl_nil, List.setIfInBounds_toArray, List.set_cons_zero, List.set_cons_succ]; rfl
    case h01 => rfl
    case hops1 =>
      refine ⟨?_, ?_, ?_, ?_, ?_, ?_, ?_, ?_, ?_, ?_, ?_, ?_, ?_, ?_, trivial⟩
      · exact fix_val (by rfl) (fun W hW => by subst hW; obtain ⟨d0, d1, d2⟩ := HKC.out; go_simp; (try with_reducible rfl); (try omega))
      · exact fix_val (by rfl) (fun W hW => by subst hW; obtain ⟨d0, d1, d2⟩ := HKC.out; go_simp; (try with_reducible rfl); (try omega))
      · exact fix_val (by rfl) (fun W hW => by subst hW; obtain ⟨d0, d1, d2⟩ := HKC.out; go_simp; (try with_reducible rfl); (try omega))
      · exact fix_val (by rfl) (fun W hW => by subst hW; obtain ⟨d0, d1, d2⟩ := HKC.out; go_simp; (try with_reducible rfl); (try omega))
      · exact fix_off (by rfl) (fun d hd => by cases hd; rfl)
      · exact fix_off (by rfl) (fun d hd => by cases hd; rfl)
      · exact fix_off (by rfl) (fun d hd => by cases hd; rfl)
      · exact fix_off (by rfl) (fun d hd => by cases hd; rfl)
      · exact fix_off (by rfl) (fun d hd => by cases hd; rfl)
      · exact fix_off (by rfl) (fun d hd => by cases hd; rfl)
      · exact fix_off (by rfl) (fun d hd => by cases hd; rfl)
      · exact fix_off (by rfl) (fun d hd => by cases hd; rfl)
      · exact fix_val (by rfl) (fun W hW => by subst hW; obtain ⟨d0, d1, d2⟩ := HKC.out; go_simp; (try with_reducible rfl); (try omega))
      · exact fix_val (by rfl) (fun W hW => by subst hW; obtain ⟨d0, d1, d2⟩ := HKC.out; go_simp; (try with_reducible rfl); (try omega))
    case he1 =>
    rintro V rfl
    go_wp2
    go_ret
    exact ⟨rfl, HB.out.trans ((Below.refl _ _).drew.mono HB.out.size)⟩
  | false =>
    have hwr : IntKind.i64.wrap (now - at_) = now - at_ := by rw [IntKind.wrap_i64]; omega
    go_enter Tryz.func91, Tryz.ntmps91
    go_wp2_with fail
    rw [← hW]
    clear hW
    refine wp_region_fixW mixedX (fun V => V = W.drew) [(5, .pointer (some ⟨w.heap.size, 0, none⟩)), (6, .bool false), (7, .bool true), (8, .bool true), (9, .pointer (some ⟨p, 0, none⟩)), (10, .pointer (some ⟨p, 0, none⟩)), (11, .pointer (some ⟨p, 2, none⟩)), (12, .int .i64 now), (13, .pointer (some ⟨w.heap.size, 2, none⟩)), (14, .int .i64 at_), (15, .int .i64 (now - at_)), (16, .bool (decide (10 ≤ now - at_))), (17, .bool (decide (10 ≤ now - at_))), (4, .bool (decide (10 ≤ now - at_)))] ?Z2 ?hZ2 (by kernel_rfl) (by kernel_rfl) (by kernel_rfl) (by kernel_rfl) ?h02 ?hops2 ?he2
    case hZ2 => simp only [List.foldl_cons, List.foldl_nil, List.setIfInBounds_toArray, List.set_cons_zero, List.set_cons_succ]; rfl
    case h02 => rfl
    case hops2 =>
      refine ⟨?_, ?_, ?_, ?_, ?_, ?_, ?_, ?_, ?_, ?_, ?_, ?_, ?_, ?_, trivial⟩
      · exact fix_val (by rfl) (fun W hW => by subst hW; obtain ⟨d0, d1, d2⟩ := HKC.out; go_simp; (try with_reducible rfl); (try omega))
      · exact fix_val (by rfl) (fun W hW => by subst hW; obtain ⟨d0, d1, d2⟩ := HKC.out; go_simp; (try with_reducible rfl); (try omega))
      · exact fix_val (by rfl) (fun W hW => by subst hW; obtain ⟨d0, d1, d2⟩ := HKC.out; go_simp; (try with_reducible rfl); (try omega))
      · exact fix_val (by rfl) (fun W hW => by subst hW; obtain ⟨d0, d1, d2⟩ := HKC.out; go_simp; (try with_reducible rfl); (try omega))
      · exact fix_val (by rfl) (fun W hW => by subst hW; obtain ⟨d0, d1, d2⟩ := HKC.out; go_simp; (try with_reducible rfl); (try omega))
      · exact fix_val (by rfl) (fun W hW => by subst hW; obtain ⟨d0, d1, d2⟩ := HKC.out; go_simp; (try with_reducible rfl); (try omega))
      · exact fix_val (by rfl) (fun W hW => by subst hW; obtain ⟨d0, d1, d2⟩ := HKC.out; go_simp; (try with_reducible rfl); (try omega))
      · exact fix_val (by rfl) (fun W hW => by subst hW; obtain ⟨d0, d1, d2⟩ := HKC.out; go_simp; (try with_reducible rfl); (try omega))
      · exact fix_val (by rfl) (fun W hW => by subst hW; obtain ⟨d0, d1, d2⟩ := HKC.out; go_simp; (try with_reducible rfl); (try omega))
      · exact fix_val (by rfl) (fun W hW => by subst hW; obtain ⟨d0, d1, d2⟩ := HKC.out; go_simp; (try with_reducible rfl); (try omega))
      · exact fix_val (by rfl) (fun W hW => by subst hW; obtain ⟨d0, d1, d2⟩ := HKC.out; go_simp; (try with_reducible rfl); (try omega))
      · exact fix_val (by rfl) (fun W hW => by subst hW; obtain ⟨d0, d1, d2⟩ := HKC.out; go_simp; (try with_reducible rfl); (try omega))
      · exact fix_val (by rfl) (fun W hW => by subst hW; obtain ⟨d0, d1, d2⟩ := HKC.out; go_simp; (try with_reducible rfl); (try omega))
      · exact fix_val (by rfl) (fun W hW => by subst hW; obtain ⟨d0, d1, d2⟩ := HKC.out; go_simp; (try with_reducible rfl); (try omega))
    case he2 =>
    rintro V rfl
    go_wp2
    go_ret
    exact ⟨by simp [dueB], HB.out.trans ((Below.refl _ _).drew.mono HB.out.size)⟩
end Go.Proofs.YtfjpckaphfdfnaaGreatDoor
