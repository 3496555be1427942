/- ref19.Of, ref19.Alike. -/
import Derived.Test.YtpdnkbhgobdniaaJdLive
namespace Go.Proofs.Ytpdnkbhgobdniaa
open Go.RowKit Go.MapKept Go.Maps
/-- Is a mark one of a side? -/
def ofJ (x : Mk) (q : Sd) : Bool := decide (x.sd = q)
set_option maxRecDepth 100000 in
set_option maxHeartbeats 2000000 in
theorem of19_any (x : Mk) (h : Int) (o p : Nat) (w : World) (v : Value) (hv : v = .agg x.vals.toArray) :
    Calls Try.prog 16 #[v, .int .i64 h, .int .u32 (o : Nat), .int .u32 (p : Nat)] w fun e w' => e = .returned (.bool (ofJ x (h, o, p))) ∧ Below w.heap.size w w' := by
  subst hv
  obtain ⟨is, host, ow, peer, st, ssn, pp, fr, a, nn, c, zs, note⟩ := x
  unfold Mk.vals ofJ Mk.sd
  dsimp only
  by_cases h1 : host = h
  · subst h1
    by_cases h2 : ow = o
    · subst h2
      by_cases h3 : peer = p
      · subst h3
        go_enter Try.func16, Try.ntmps16
        go_wp2
        go_ret
        exact ⟨by simp, (Below.refl _ _).alloc (Nat.le_refl _) _⟩
      · have h3' : ¬ (peer : Int) = (p : Int) := by omega
        go_enter Try.func16, Try.ntmps16
        go_wp2
        go_ret
        exact ⟨by simp [h3]; omega, (Below.refl _ _).alloc (Nat.le_refl _) _⟩
    · have h2' : ¬ (ow : Int) = (o : Int) := by omega
      go_enter Try.func16, Try.ntmps16
      go_wp2
      go_ret
      exact ⟨by simp [h2], (Below.refl _ _).alloc (Nat.le_refl _) _⟩
  · go_enter Try.func16, Try.ntmps16
    go_wp2
    go_ret
    exact ⟨by simp [h1], (Below.refl _ _).alloc (Nat.le_refl _) _⟩
/-- Are messages alike? -/
def alkJ (x y : Mg) : Bool := decide (x.st = y.st ∧ x.pp = y.pp ∧ x.free = y.free ∧ x.zs = y.zs)
set_option maxRecDepth 100000 in
set_option maxHeartbeats 2000000 in
theorem alike_any (x y : Mg) (w : World) (hx : x.Ok w) (hy : y.Ok w) (v u : Value) (hv : v = .agg x.cells.toArray) (hu : u = .agg y.cells.toArray) :
    Calls Try.prog 17 #[v, u] w fun e w' => e = .returned (.bool (alkJ x y)) ∧ Below w.heap.size w w' := by
  subst hv hu
  obtain ⟨s1, n1, p1, f1, a1, l1, c1, z1⟩ := x
  obtain ⟨s2, n2, p2, f2, a2, l2, c2, z2⟩ := y
  have hb : ∀ o1 o2, Below w.heap.size w ((w.alloc o1).alloc o2) := fun o1 o2 => ((Below.refl _ _).alloc (Nat.le_refl _) _).alloc (by simp) _
  have cv1 := conv_str (hx.sl.below (hb (.cells #[.int .u16 (s1 : Nat), .int .u16 (n1 : Nat), .int .u32 (p1 : Nat), .bool f1, .slice a1 l1 c1] 41) (.cells #[.int .u16 (s2 : Nat), .int .u16 (n2 : Nat), .int .u32 (p2 : Nat), .bool f2, .slice a2 l2 c2] 41)))
  have cv2 := conv_str (hy.sl.below (hb (.cells #[.int .u16 (s1 : Nat), .int .u16 (n1 : Nat), .int .u32 (p1 : Nat), .bool f1, .slice a1 l1 c1] 41) (.cells #[.int .u16 (s2 : Nat), .int .u16 (n2 : Nat), .int .u32 (p2 : Nat), .bool f2, .slice a2 l2 c2] 41)))
  have HB := (show Hid _ from strOf_beq hx.sl.bnd hy.sl.bnd)
  dsimp only at cv1 cv2
  clear hx hy hb
  unfold Mg.cells alkJ
  dsimp only
  by_cases h1 : s1 = s2
  · subst h1
    by_cases h2 : p1 = p2
    · subst h2
      by_cases h3 : f1 = f2
      · subst h3
        go_enter Try.func17, Try.ntmps17
        go_wp2
        go_ret
        have hh := HB.out
        rw [hh]
        exact ⟨by simp, ((Below.refl _ _).alloc (Nat.le_refl _) _).alloc (by simp) _⟩
      · have h3' : (f1 == f2) = false := by simpa using h3
        go_enter Try.func17, Try.ntmps17
        go_wp2
        go_ret
        exact ⟨by simp, ((Below.refl _ _).alloc (Nat.le_refl _) _).alloc (by simp) _⟩
    · have h2' : ¬ (p1 : Int) = (p2 : Int) := by omega
      go_enter Try.func17, Try.ntmps17
      go_wp2
      go_ret
      exact ⟨by simp, ((Below.refl _ _).alloc (Nat.le_refl _) _).alloc (by simp) _⟩
  · have h1' : ¬ (s1 : Int) = (s2 : Int) := by omega
    go_enter Try.func17, Try.ntmps17
    go_wp2
    go_ret
    exact ⟨by simp, ((Below.refl _ _).alloc (Nat.le_refl _) _).alloc (by simp) _⟩
end Go.Proofs.Ytpdnkbhgobdniaa
