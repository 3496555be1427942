/- What ether.PutArp answers where it may be. -/
import Derived.Test.YtfjpckaphfdfnaaGreatDoorEtArp
namespace Go.Proofs.YtfjpckaphfdfnaaGreatDoor
open Go.RowKit
theorem isOp_ok (op : Nat) (w : World) (h : op = 1 ∨ op = 2) :
    Calls Tryz.prog 199 #[.int .i64 (op : Nat)] w fun e w' => e = .returned (.bool true) ∧ w' = w := by
  rcases h with rfl | rfl
  · go_enter Tryz.func199, Tryz.ntmps199
    go_wp2
    go_ret
    exact ⟨rfl, rfl⟩
  · go_enter Tryz.func199, Tryz.ntmps199
    go_wp2
    go_ret
    exact ⟨rfl, rfl⟩
def arpB (op fm fi tm ti : Nat) : List Nat := ((((([] ++ arpH) ++ bytesB op 2) ++ bytesB fm 6) ++ bytesB fi 4) ++ bytesB tm 6) ++ bytesB ti 4
theorem arpB_len (op fm fi tm ti : Nat) : (arpB op fm fi tm ti).length = 28 := by simp [arpB, arpH, bytesB_len]
set_option maxRecDepth 100000 in
set_option maxHeartbeats 2000000 in
theorem putArp_ok (op fm fi tm ti : Nat) (w : World) (hop : op = 1 ∨ op = 2) (hfm : fm < 281474976710656) (hfi : fi < 4294967296) (htm : tm < 281474976710656) (hti : ti < 4294967296) :
    Calls Tryz.prog 157 #[.agg #[.int .i64 (op : Nat), .int .u64 (fm : Nat), .int .u32 (fi : Nat), .int .u64 (tm : Nat), .int .u32 (ti : Nat)]] w fun e w' => RowE w (arpB op fm fi tm ti) 0 e w' := by
  have hco := fun W => isOp_ok op W hop
  have hct := fun W => isCard_any fm W (by omega)
  have hcf := fun W => isCard_any tm W (by omega)
  rw [decide_eq_true hfm] at hct
  rw [decide_eq_true htm] at hcf
  have hop6 : op < 65536 := by omega
  obtain ⟨W, hW⟩ : ∃ W, W = w.alloc (.cells #[.int .i64 (op : Nat), .int .u64 (fm : Nat), .int .u32 (fi : Nat), .int .u64 (tm : Nat), .int .u32 (ti : Nat)] 251) := ⟨_, rfl⟩
  have hX := Stc.new w [.int .i64 (op : Nat), .int .u64 (fm : Nat), .int .u32 (fi : Nat), .int .u64 (tm : Nat), .int .u32 (ti : Nat)] 251 W hW
  have hbW : Below w.heap.size w W := by rw [hW]; exact (Below.refl _ _).alloc (Nat.le_refl _) _
  have hzW : W.heap.size = w.heap.size + 1 := by rw [hW]; simp
  have HZW := (show Hid _ from hzW)
  have x0 := hX.cell 0 _ rfl
  have x1 := hX.cell 1 _ rfl
  have x2 := hX.cell 2 _ rfl
  have x3 := hX.cell 3 _ rfl
  have x4 := hX.cell 4 _ rfl
  have hm := hmf
  go_enter Tryz.func157, Tryz.ntmps157
  go_wp2_with fail
  rw [← hW]
  clear hW hzW hop
  refine (hco _).mono ?_
  rintro e w' ⟨rfl, hw'⟩
  subst w'
  go_wp2_with fail
  refine (hct _).mono ?_
  rintro e w' ⟨rfl, hw'⟩
  subst w'
  go_wp2_with fail
  refine (hcf _).mono ?_
  rintro e w' ⟨rfl, hw'⟩
  subst w'
  obtain ⟨W2, hW2⟩ : ∃ W2, W2 = W.alloc (.cells #[.slice none 0 0] 24) := ⟨_, rfl⟩
  have hXd := (hX.below (show Below W.heap.size W W2 from by rw [hW2]; exact (Below.refl _ _).alloc (Nat.le_refl _) _)).below (Below.refl _ _).drew
  have y0 := hXd.cell 0 _ rfl
  have y1 := hXd.cell 1 _ rfl
  have y2 := hXd.cell 2 _ rfl
  have y3 := hXd.cell 3 _ rfl
  have y4 := hXd.cell 4 _ rfl
  go_wp2_with fail
  rw [← hW2]
  have HW2 := (show Hid _ from hW2)
  clear x0 x1 x2 x3 x4 hct hcf hco hW2
  go_region_held3 (fun w' => w'.cell? ⟨w.heap.size, 0, none⟩ = some (.int .i64 (op : Nat)) ∧ w'.cell? ⟨w.heap.size, 1, none⟩ = some (.int .u64 (fm : Nat)) ∧ w'.cell? ⟨w.heap.size, 2, none⟩ = some (.int .u32 (fi : Nat)) ∧ w'.cell? ⟨w.heap.size, 3, none⟩ = some (.int .u64 (tm : Nat)) ∧ w'.cell? ⟨w.heap.size, 4, none⟩ = some (.int .u32 (ti : Nat))) (first | exact ⟨hXd.cell 0 _ rfl, hXd.cell 1 _ rfl, hXd.cell 2 _ rfl, hXd.cell 3 _ rfl, hXd.cell 4 _ rfl⟩ | exact ⟨hXe.cell 0 _ rfl, hXe.cell 1 _ rfl, hXe.cell 2 _ rfl, hXe.cell 3 _ rfl, hXe.cell 4 _ rfl⟩ | exact ⟨hXl.cell 0 _ rfl, hXl.cell 1 _ rfl, hXl.cell 2 _ rfl, hXl.cell 3 _ rfl, hXl.cell 4 _ rfl⟩ | go_keep) (first
    | (go_at_call 213; refine (laying_any W.heap.size _).mono ?_; rintro e wl ⟨rfl, hwl⟩; obtain ⟨hLS, hXl, hbl⟩ := ly_new w.heap.size w.heap.size _ W W2 wl W.heap.size 24 341 rfl (by have := HZW.out; omega) hX HW2.out _ (Below.refl _ _).drew rfl hwl; clear hwl)
    | (go_at_call 198; refine (eachArp_lay w.heap.size _ W.heap.size none [] op fm fi tm ti wl hLS hop6 hfm hfi htm hti (by simp)).mono ?_; rintro e we ⟨⟨ve, rfl⟩, ⟨ge, hSe, hge⟩, hfe⟩; have hXe := hXl.fr hfe (by have := HZW.out; simp; omega))
    | fail)
  all_goals
    have hwW := HZW.out
    have hbe : Below w.heap.size w we := (hbW.trans (hbl.mono hbW.size)).trans (hfe.below w.heap.size (hbW.trans (hbl.mono hbW.size)).size (fun k e => e.elim (fun e => by omega) (fun e => by cases e)))
    have hSe2 : LyS w.heap.size W2.heap.size W.heap.size ge (arpB op fm fi tm ti) we := hSe
    obtain ⟨a5, c5, hrow, hown, _⟩ := hSe2.row
    clear hSe2 hSe hfe hXe hXl hLS hXd y0 y1 y2 y3 y4 hwW hbl hbW
    go_wp2
    go_ret2
    exact ⟨⟨a5, c5, rfl, hown⟩, hbe⟩
end Go.Proofs.YtfjpckaphfdfnaaGreatDoor
