/- A chunk as data; what Check answers for every chunk. -/
import Derived.Test.YtlgfbcfogcmdbaaDoorChK
namespace Go.Proofs.YtlgfbcfogcmdbaaDoor
open Go.RowKit
structure Ck where
  k : Nat
  f : Nat
  t : Nat
  st : Nat
  ss : Nat
  pp : Nat
  tg : Nat
  rm : Nat
  os : Nat
  is_ : Nat
  b1 : Option Addr
  b2 : Nat
  b3 : Nat
  d1 : Option Addr
  d2 : Nat
  d3 : Nat
  p1 : Option Addr
  p2 : Nat
  p3 : Nat
  x1 : Option Addr
  x2 : Nat
  x3 : Nat
  ls : List Nat
  zs : List Nat
def Ck.val (c : Ck) : Value := .agg #[.int .u8 (c.k : Nat), .int .u8 (c.f : Nat), .int .u32 (c.t : Nat), .int .u16 (c.st : Nat), .int .u16 (c.ss : Nat), .int .u32 (c.pp : Nat), .int .u32 (c.tg : Nat), .int .u32 (c.rm : Nat), .int .u16 (c.os : Nat), .int .u16 (c.is_ : Nat), .slice c.b1 c.b2 c.b3, .slice c.d1 c.d2 c.d3, .slice c.p1 c.p2 c.p3, .slice c.x1 c.x2 c.x3]
structure CkOk (c : Ck) : Prop where
  k : c.k < 256
  f : c.f < 256
  t : c.t < 4294967296
  st : c.st < 65536
  ss : c.ss < 65536
  pp : c.pp < 4294967296
  b2 : c.b2 ≤ 281474976710656
  d2 : c.d2 ≤ 281474976710656
/-- A chunk as it lies. -/
structure CkW (w : World) (c : Ck) : Prop where
  ok : CkOk c
  ps : Prs w c.p1 c.p2 c.p3 c.ls
  sl : Sl w c.x1 c.x2 c.x3 c.zs
theorem CkW.below {w w' : World} {c : Ck} (h : CkW w c) (hb : Below w.heap.size w w') : CkW w' c := ⟨h.ok, h.ps.below hb, h.sl.below hb⟩
def chkOf (c : Ck) : Int :=
  if c.k = 0 then chkN (decide (c.tg = 0 ∧ c.rm = 0 ∧ c.os = 0 ∧ c.is_ = 0 ∧ c.b2 = 0 ∧ c.d2 = 0 ∧ c.p2 = 0)) (decide (c.x2 = 0)) false (4 + (12 + c.x2) + padN (12 + c.x2))
  else if c.k = 1 ∨ c.k = 2 then chkN (decide (c.st = 0 ∧ c.ss = 0 ∧ c.pp = 0 ∧ c.b2 = 0 ∧ c.d2 = 0 ∧ c.x2 = 0)) false (decide (16 < c.p2)) (4 + (16 + psz c.ls) + padN (16 + psz c.ls))
  else if c.k = 3 then chkN (decide (c.st = 0 ∧ c.ss = 0 ∧ c.pp = 0 ∧ c.tg = 0 ∧ c.os = 0 ∧ c.is_ = 0 ∧ c.p2 = 0 ∧ c.x2 = 0)) false (decide (16 < c.b2 ∨ 16 < c.d2)) (4 + (12 + 4 * c.b2 + 4 * c.d2) + padN (12 + 4 * c.b2 + 4 * c.d2))
  else if c.k = 4 ∨ c.k = 5 ∨ c.k = 6 ∨ c.k = 9 then chkN (decide (c.t = 0 ∧ c.st = 0 ∧ c.ss = 0 ∧ c.pp = 0 ∧ c.tg = 0 ∧ c.rm = 0 ∧ c.os = 0 ∧ c.is_ = 0 ∧ c.b2 = 0 ∧ c.d2 = 0 ∧ c.x2 = 0)) false (decide (16 < c.p2)) (4 + (psz c.ls) + padN (psz c.ls))
  else if c.k = 7 then chkN (decide (c.st = 0 ∧ c.ss = 0 ∧ c.pp = 0 ∧ c.tg = 0 ∧ c.rm = 0 ∧ c.os = 0 ∧ c.is_ = 0 ∧ c.b2 = 0 ∧ c.d2 = 0 ∧ c.p2 = 0 ∧ c.x2 = 0)) false false 8
  else if c.k = 8 ∨ c.k = 11 ∨ c.k = 14 then chkN (decide (c.t = 0 ∧ c.st = 0 ∧ c.ss = 0 ∧ c.pp = 0 ∧ c.tg = 0 ∧ c.rm = 0 ∧ c.os = 0 ∧ c.is_ = 0 ∧ c.b2 = 0 ∧ c.d2 = 0 ∧ c.p2 = 0 ∧ c.x2 = 0)) false false 4
  else chkN (decide (c.t = 0 ∧ c.st = 0 ∧ c.ss = 0 ∧ c.pp = 0 ∧ c.tg = 0 ∧ c.rm = 0 ∧ c.os = 0 ∧ c.is_ = 0 ∧ c.b2 = 0 ∧ c.d2 = 0 ∧ c.p2 = 0)) false false (4 + c.x2 + padN c.x2)
theorem chkN_cases (q l m : Bool) (n : Nat) : chkN q l m n = 0 ∨ chkN q l m n = 2 ∨ chkN q l m n = 6 := by
  unfold chkN
  split
  · split
    · exact .inr (.inr rfl)
    · exact .inl rfl
  · exact .inr (.inl rfl)
theorem chkOf_cases (c : Ck) : chkOf c = 0 ∨ chkOf c = 2 ∨ chkOf c = 6 := by
  unfold chkOf
  repeat' split
  all_goals exact chkN_cases _ _ _ _
/-- A Data chunk that may be. -/
theorem chkOf_data {c : Ck} (h : chkOf c = 0) (hk : c.k = 0) : 0 < c.x2 ∧ c.x2 ≤ 1452 := by
  unfold chkOf at h
  rw [if_pos hk] at h
  unfold chkN at h
  split at h
  · rename_i h1
    split at h
    · cases h
    · rename_i h2
      simp at h1 h2
      omega
  · cases h
theorem check_all (c : Ck) (w : World) (h : CkW w c) (v : Value) (hv : v = c.val) : Calls Tryd.prog 24 #[v] w fun e w' => e = .returned (.int .i64 (chkOf c)) ∧ Below w.heap.size w w' := by
  subst hv
  unfold chkOf
  by_cases h0 : c.k = 0
  · rw [if_pos h0]
    exact check_data c.k c.f c.t c.st c.ss c.pp c.tg c.rm c.os c.is_ c.b1 c.b2 c.b3 c.d1 c.d2 c.d3 c.p1 c.p2 c.p3 c.x1 c.x2 c.x3 w h0 h.sl.small
  rw [if_neg h0]
  by_cases h1 : c.k = 1 ∨ c.k = 2
  · rw [if_pos h1]
    exact check_init c.k c.f c.t c.st c.ss c.pp c.tg c.rm c.os c.is_ c.b1 c.b2 c.b3 c.d1 c.d2 c.d3 c.p1 c.p2 c.p3 c.x1 c.x2 c.x3 w h1 c.ls h.ps
  rw [if_neg h1]
  by_cases h3 : c.k = 3
  · rw [if_pos h3]
    exact check_sack c.k c.f c.t c.st c.ss c.pp c.tg c.rm c.os c.is_ c.b1 c.b2 c.b3 c.d1 c.d2 c.d3 c.p1 c.p2 c.p3 c.x1 c.x2 c.x3 w h3 h.ok.b2 h.ok.d2
  rw [if_neg h3]
  by_cases h4 : c.k = 4 ∨ c.k = 5 ∨ c.k = 6 ∨ c.k = 9
  · rw [if_pos h4]
    exact check_prms c.k c.f c.t c.st c.ss c.pp c.tg c.rm c.os c.is_ c.b1 c.b2 c.b3 c.d1 c.d2 c.d3 c.p1 c.p2 c.p3 c.x1 c.x2 c.x3 w h4 c.ls h.ps
  rw [if_neg h4]
  by_cases h7 : c.k = 7
  · rw [if_pos h7]
    exact check_tsnv c.k c.f c.t c.st c.ss c.pp c.tg c.rm c.os c.is_ c.b1 c.b2 c.b3 c.d1 c.d2 c.d3 c.p1 c.p2 c.p3 c.x1 c.x2 c.x3 w h7
  rw [if_neg h7]
  by_cases h8 : c.k = 8 ∨ c.k = 11 ∨ c.k = 14
  · rw [if_pos h8]
    exact check_none c.k c.f c.t c.st c.ss c.pp c.tg c.rm c.os c.is_ c.b1 c.b2 c.b3 c.d1 c.d2 c.d3 c.p1 c.p2 c.p3 c.x1 c.x2 c.x3 w h8
  rw [if_neg h8]
  exact check_raw c.k c.f c.t c.st c.ss c.pp c.tg c.rm c.os c.is_ c.b1 c.b2 c.b3 c.d1 c.d2 c.d3 c.p1 c.p2 c.p3 c.x1 c.x2 c.x3 w (by omega) h.sl.small
end Go.Proofs.YtlgfbcfogcmdbaaDoor
