/- What ip's (parts).lengths answers; what ip.Take answers: definitions. -/
import Derived.Test.YtplicfknjhjjgaaIpRH
import Derived.Test.YtplicfknjhjjgaaSlc
namespace Go.Proofs.Ytplicfknjhjjgaa
open Go.RowKit
def lnE (VR HD WH n : Nat) : Nat := if VR ≠ 4 ∨ HD < 20 then 4 else if n < HD then 3 else if WH < HD then 4 else if n < WH then 3 else 0
set_option maxRecDepth 100000 in
set_option maxHeartbeats 1000000 in
theorem lengths_any (SR DS PR TT ID : Nat) (o14 o13 : Bool) (OF VR HD WH : Nat) (o15 : Bool) (n : Nat) (w : World) :
    Calls Try.prog 42 #[.agg #[.int .u32 (SR : Nat), .int .u32 (DS : Nat), .int .u8 (PR : Nat), .int .u8 (TT : Nat), .int .u16 (ID : Nat), .bool o14, .bool o13, .int .i64 (OF : Nat), .slice none 0 0, .int .u64 (VR : Nat), .int .i64 (HD : Nat), .int .i64 (WH : Nat), .bool o15], .int .i64 (n : Nat)] w fun e w' => e = .returned (.int .i64 (lnE VR HD WH n : Nat)) ∧ Below w.heap.size w w' := by
  have hbW : Below w.heap.size w (w.alloc (.cells #[.int .u32 (SR : Nat), .int .u32 (DS : Nat), .int .u8 (PR : Nat), .int .u8 (TT : Nat), .int .u16 (ID : Nat), .bool o14, .bool o13, .int .i64 (OF : Nat), .slice none 0 0, .int .u64 (VR : Nat), .int .i64 (HD : Nat), .int .i64 (WH : Nat), .bool o15] 78)) := (Below.refl _ _).alloc (Nat.le_refl _) _
  by_cases h1 : VR = 4
  case neg =>
    have t1 : ((VR : Int) != 4) = true := by simp; omega
    have HE : Hid (lnE VR HD WH n = 4) := by show _ = _; unfold lnE; rw [if_pos (.inl h1)]
    go_enter Try.func42, Try.ntmps42
    go_wp2
    go_ret
    exact ⟨by rw [HE.out]; rfl, hbW⟩
  case pos =>
  subst h1
  by_cases h2 : HD < 20
  case pos =>
    have t2 : (HD : Int) < 20 := by omega
    have HE : Hid (lnE 4 HD WH n = 4) := by show _ = _; unfold lnE; rw [if_pos (.inr h2)]
    go_enter Try.func42, Try.ntmps42
    go_wp2
    go_ret
    exact ⟨by rw [HE.out]; rfl, hbW⟩
  case neg =>
  have t2 : ¬ (HD : Int) < 20 := by omega
  have N2 : Hid (¬ (4 ≠ 4 ∨ HD < 20)) := by intro h; omega
  by_cases h3 : n < HD
  case pos =>
    have t3 : (n : Int) < (HD : Int) := by omega
    have HE : Hid (lnE 4 HD WH n = 3) := by show _ = _; unfold lnE; rw [if_neg N2.out, if_pos h3]
    go_enter Try.func42, Try.ntmps42
    go_wp2
    go_ret
    exact ⟨by rw [HE.out]; rfl, hbW⟩
  case neg =>
  have t3 : ¬ (n : Int) < (HD : Int) := by omega
  by_cases h4 : WH < HD
  case pos =>
    have t4 : (WH : Int) < (HD : Int) := by omega
    have HE : Hid (lnE 4 HD WH n = 4) := by show _ = _; unfold lnE; rw [if_neg N2.out, if_neg h3, if_pos h4]
    go_enter Try.func42, Try.ntmps42
    go_wp2
    go_ret
    exact ⟨by rw [HE.out]; rfl, hbW⟩
  case neg =>
  have t4 : ¬ (WH : Int) < (HD : Int) := by omega
  by_cases h5 : n < WH
  case pos =>
    have t5 : (n : Int) < (WH : Int) := by omega
    have HE : Hid (lnE 4 HD WH n = 3) := by show _ = _; unfold lnE; rw [if_neg N2.out, if_neg h3, if_neg h4, if_pos h5]
    go_enter Try.func42, Try.ntmps42
    go_wp2
    go_ret
    exact ⟨by rw [HE.out]; rfl, hbW⟩
  case neg =>
    have t5 : ¬ (n : Int) < (WH : Int) := by omega
    have HE : Hid (lnE 4 HD WH n = 0) := by show _ = _; unfold lnE; rw [if_neg N2.out, if_neg h3, if_neg h4, if_neg h5]
    go_enter Try.func42, Try.ntmps42
    go_wp2
    go_ret
    exact ⟨by rw [HE.out]; rfl, hbW⟩
def hdL (zs : List Nat) : Nat := numV zs 0 1 % 16 * 4
def itE (zs : List Nat) : Nat := if zs.length < 20 then 3 else if lnE (numV zs 0 1 / 16) (hdL zs) (numV zs 2 2) zs.length ≠ 0 then lnE (numV zs 0 1 / 16) (hdL zs) (numV zs 2 2) zs.length else if net (zs.take (hdL zs)) ≠ 0 then 5 else if numV zs 6 2 / 32768 % 2 = 1 ∨ (numV zs 6 2 / 8192 % 2 = 1 ∧ (numV zs 2 2 - hdL zs) % 8 ≠ 0) then 4 else if 65515 < numV zs 6 2 % 8192 * 8 + (numV zs 2 2 - hdL zs) then 6 else 0
def itB (zs : List Nat) : List Nat := if itE zs = 0 then (zs.drop (hdL zs)).take (numV zs 2 2 - hdL zs) else []
def itN (zs : List Nat) (p k : Nat) : Nat := if itE zs = 0 then numV zs (p : Int) (k : Int) else 0
def itD (zs : List Nat) (q : Nat) : Bool := if itE zs = 0 then decide (numV zs 6 2 / q % 2 = 1) else false
def itO (zs : List Nat) : Nat := if itE zs = 0 then numV zs 6 2 % 8192 * 8 else 0
/-- A packet and an error are answered. -/
structure TipP (zs : List Nat) (w : World) (e : Ending) (w' : World) : Prop where
  ans : ∃ a c, e = .returned (.tuple #[.agg #[.int .u32 (itN zs 12 4 : Nat), .int .u32 (itN zs 16 4 : Nat), .int .u8 (itN zs 9 1 : Nat), .int .u8 (itN zs 8 1 : Nat), .int .u16 (itN zs 4 2 : Nat), .bool (itD zs 16384), .bool (itD zs 8192), .int .i64 (itO zs : Nat), .slice a (itB zs).length c], .int .i64 (itE zs : Nat)]) ∧ OwnB w' w.heap.size a (itB zs).length c (itB zs)
  bel : Below w.heap.size w w'
theorem slice_lh (b off n c l h : Nat) (hl : l ≤ h) (hh : h ≤ c) : ∃ a', (∀ w, (Instr.slice 24 (.slice (some ⟨b, off, none⟩) n c) (some (.int .i64 (l : Int))) (some (.int .i64 (h : Int))) none).run Try.prog w = .ok (.slice (some a') (h - l) (c - l)) w) ∧ (l < h → a' = ⟨b, off + l, none⟩) := by
  refine ⟨if c = l then ⟨b, off, none⟩ else ⟨b, off + l, none⟩, fun w => ?_, fun hx => by rw [if_neg (by omega)]⟩
  rw [run_slice_lh w 24 _ n c und8 .i64 .i64 l h (by omega) (by omega) (by omega), size8]
  simp only [Result.andThen, sliced, Int.toNat_natCast]
  split <;> simp [Addr.add]
theorem SlK.midE {k : IntKind} {M : Nat} {w : World} {b off : Nat} {n c : Nat} {zs : List Nat} (h : SlK k M w (some ⟨b, off, none⟩) n c zs) (l j : Nat) (hj : l ≤ j) (hn : j ≤ n) (hM : 0 < M) (a' : Addr) (ha : l < j → a' = ⟨b, off + l, none⟩) : SlK k M w (some a') (j - l) (c - l) ((zs.drop l).take (j - l)) := by
  by_cases hq : l < j
  · have h1 := h.dropE l (by omega) ⟨b, off + l, none⟩ (fun _ => rfl)
    rw [ha hq]
    exact h1.takeE (j - l) (by omega) hM
  · obtain rfl : l = j := by omega
    have hr := h.room
    have hc := h.cap
    refine ⟨by simp, by omega, by omega, by omega, (fun e => by cases e), fun i => by simp [hM], .inl (by omega)⟩
end Go.Proofs.Ytplicfknjhjjgaa
