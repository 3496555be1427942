/- What ether.PutArp answers. -/
import Derived.Test.YtnmjoidafgafjaaEtTArp2
namespace Go.Proofs.Ytnmjoidafgafjaa
open Go.RowKit
def paE (op : Int) (fm tm : Nat) : Nat := if (op = 1 ∨ op = 2) ∧ fm < 281474976710656 ∧ tm < 281474976710656 then 0 else 2
def paV (op : Int) (fm fi tm ti : Nat) : List Nat := if paE op fm tm = 0 then arpB op.toNat fm fi tm ti else []
set_option maxRecDepth 100000 in
set_option maxHeartbeats 2000000 in
theorem putArp_any (op : Int) (fm fi tm ti : Nat) (w : World) (hfm : fm < 18446744073709551616) (hfi : fi < 4294967296) (htm : tm < 18446744073709551616) (hti : ti < 4294967296) :
    Calls Try.prog 14 #[.agg #[.int .i64 op, .int .u64 (fm : Nat), .int .u32 (fi : Nat), .int .u64 (tm : Nat), .int .u32 (ti : Nat)]] w fun e w' => RowE w (paV op fm fi tm ti) (paE op fm tm) e w' := by
  have hco := fun W => isOp_any op W
  have hct := fun W => isCard_any fm W hfm
  have hcf := fun W => isCard_any tm W htm
  have hbW : Below w.heap.size w (w.alloc (.cells #[.int .i64 op, .int .u64 (fm : Nat), .int .u32 (fi : Nat), .int .u64 (tm : Nat), .int .u32 (ti : Nat)] 38)) := (Below.refl _ _).alloc (Nat.le_refl _) _
  by_cases h1 : op = 1 ∨ op = 2
  case neg =>
    rw [decide_eq_false h1] at hco
    clear hct hcf
    have HE : Hid (paE op fm tm = 2) := by show _ = _; unfold paE; rw [if_neg (by omega)]
    have HV : Hid (paV op fm fi tm ti = []) := by show _ = _; unfold paV; rw [HE.out]; rfl
    go_enter Try.func14, Try.ntmps14
    go_wp2_with fail
    refine (hco _).mono ?_
    rintro e w' ⟨rfl, hw'⟩
    subst w'
    go_wp2
    go_ret2
    rw [HE.out, HV.out]
    exact ⟨⟨none, 0, rfl, OwnB.nil _ _⟩, hbW⟩
  case pos =>
  by_cases h2 : fm < 281474976710656
  case neg =>
    rw [decide_eq_true h1] at hco
    rw [decide_eq_false h2] at hct
    clear hcf
    have HE : Hid (paE op fm tm = 2) := by show _ = _; unfold paE; rw [if_neg (by omega)]
    have HV : Hid (paV op fm fi tm ti = []) := by show _ = _; unfold paV; rw [HE.out]; rfl
    go_enter Try.func14, Try.ntmps14
    go_wp2_with fail
    refine (hco _).mono ?_
    rintro e w' ⟨rfl, hw'⟩
    subst w'
    go_wp2_with fail
    refine (hct _).mono ?_
    rintro e w' ⟨rfl, hw'⟩
    subst w'
    go_wp2
    go_ret2
    rw [HE.out, HV.out]
    exact ⟨⟨none, 0, rfl, OwnB.nil _ _⟩, hbW⟩
  case pos =>
  by_cases h3 : tm < 281474976710656
  case neg =>
    rw [decide_eq_true h1] at hco
    rw [decide_eq_true h2] at hct
    rw [decide_eq_false h3] at hcf
    skip
    have HE : Hid (paE op fm tm = 2) := by show _ = _; unfold paE; rw [if_neg (by omega)]
    have HV : Hid (paV op fm fi tm ti = []) := by show _ = _; unfold paV; rw [HE.out]; rfl
    go_enter Try.func14, Try.ntmps14
    go_wp2_with fail
    refine (hco _).mono ?_
    rintro e w' ⟨rfl, hw'⟩
    subst w'
    go_wp2_with fail
    refine (hct _).mono ?_
    rintro e w' ⟨rfl, hw'⟩
    subst w'
    go_wp2_with fail
    refine (hcf _).mono ?_
    rintro e w' ⟨rfl, hw'⟩
    subst w'
    go_wp2
    go_ret2
    rw [HE.out, HV.out]
    exact ⟨⟨none, 0, rfl, OwnB.nil _ _⟩, hbW⟩
  case pos =>
    have hop : op.toNat = 1 ∨ op.toNat = 2 := by omega
    have he : op = ((op.toNat : Nat) : Int) := by omega
    have hE : paE op fm tm = 0 := by unfold paE; rw [if_pos ⟨h1, h2, h3⟩]
    have hV : paV op fm fi tm ti = arpB op.toNat fm fi tm ti := by unfold paV; rw [if_pos hE]
    have := putArp_ok op.toNat fm fi tm ti w hop h2 hfi h3 hti
    rw [← he] at this
    rw [hE, hV]
    exact this
end Go.Proofs.Ytnmjoidafgafjaa
