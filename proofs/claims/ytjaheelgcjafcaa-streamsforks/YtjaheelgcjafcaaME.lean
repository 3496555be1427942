/- What is wanted of CkQ, whose functions this cut lacks (mkslim.py). -/
import Derived.Test.YtjaheelgcjafcaaKM
import Derived.Test.YtjaheelgcjafcaaKL
import Derived.Test.YtjaheelgcjafcaaKB
import Derived.Test.YtjaheelgcjafcaaProg
import Derived.Test.YtjaheelgcjafcaaBase
import Derived.Test.YtjaheelgcjafcaaSlc
import Derived.Test.YtjaheelgcjafcaaKG
import Derived.Test.YtjaheelgcjafcaaKJ
import Derived.Test.YtjaheelgcjafcaaOwnG
import Derived.Test.YtjaheelgcjafcaaKK
import Derived.Test.YtjaheelgcjafcaaCopy
import Derived.Lib.SlBytesConst
import Derived.Defers
import Derived.Recover
import Derived.Deep.MidRow
import Derived.Deep.DeepMust
import Derived.Outline
import Derived.WalkLawsBesides
import Derived.WalkSpells
namespace Go.Proofs.Ytjaheelgcjafcaa
open Go.RowKit
def PqD.pm (x : PqD) : Pm := ⟨x.kind, x.dataZ⟩
def ChQ.cd (x : ChQ) : CD := ⟨x.k, x.f, x.t, x.st, x.ss, x.pp, x.tg, x.rm, x.os, x.is, x.bD, x.dD, x.pD.map PqD.pm, x.xZ⟩
def ChQ.ck (x : ChQ) : Ck := ⟨x.k, x.f, x.t, x.st, x.ss, x.pp, x.tg, x.rm, x.os, x.is, x.bA, x.bN, x.bC, x.dA, x.dN, x.dC, x.pA, x.pN, x.pC, x.xA, x.xN, x.xC, (x.pD.map PqD.pm).map (fun p => p.zs.length), x.xZ⟩
theorem SlPq.pmR {w : World} {a : Option Addr} {n c : Nat} {dd : List PqD} (h : SlPq w a n c dd) : PmR w a n c (dd.map PqD.pm) := by
  refine ⟨by rw [List.length_map]; exact h.len, h.cap, h.small, ?_⟩
  rcases h.at_ with h0 | ⟨b, off, rfl, hlt, hc⟩
  · exact .inl h0
  · refine .inr ⟨b, off, rfl, hlt, fun i p hp => ?_⟩
    rw [List.getElem?_map] at hp
    cases hx : dd[i]? with
    | none => rw [hx] at hp; cases hp
    | some x =>
      rw [hx] at hp
      obtain rfl : x.pm = p := Option.some.inj hp
      have hw := h.wf x (List.mem_of_getElem? hx)
      unfold PqD.Wf at hw
      have hl := hw.2.1.len
      refine ⟨hw.1, x.dataA, x.dataC, hc i x hx 0 _ rfl, ?_, ?_⟩
      · show w.cell? _ = some (.slice x.dataA x.dataZ.length x.dataC)
        rw [hl]
        exact hc i x hx 1 _ rfl
      · show Sl w x.dataA x.dataZ.length x.dataC x.dataZ
        rw [hl]
        exact hw.2.1
theorem PmR.prsB {w : World} {a : Option Addr} {n c : Nat} {ps : List Pm} (h : PmR w a n c ps) : Prs w a n c (ps.map fun p => p.zs.length) := by
  have hs : ∀ l ∈ ps.map (fun p => p.zs.length), l ≤ 281474976710656 := by
    intro l hl
    obtain ⟨p, hp, rfl⟩ := List.mem_map.1 hl
    obtain ⟨i, hi⟩ := List.getElem?_of_mem hp
    have hlt := (List.getElem?_eq_some_iff.1 hi).1
    have hn := h.len
    rcases h.at_ with h0 | ⟨b, off, rfl, _, hc⟩
    · omega
    · obtain ⟨_, va, vc, _, _, h3⟩ := hc i p hi
      exact h3.small
  refine ⟨by rw [List.length_map]; exact h.len, h.small, hs, ?_⟩
  rcases h.at_ with h0 | ⟨b, off, rfl, hlt, hc⟩
  · exact .inl h0
  · refine .inr ⟨b, off, rfl, hlt, fun i l hl => ?_⟩
    rw [List.getElem?_map] at hl
    cases hx : ps[i]? with
    | none => rw [hx] at hl; cases hl
    | some p =>
      rw [hx] at hl
      obtain rfl : p.zs.length = l := Option.some.inj hl
      obtain ⟨_, va, vc, h1, h2, _⟩ := hc i p hx
      exact ⟨p.k, va, vc, h1, h2⟩
theorem pm_in {ps : List Pm} {p : Pm} (h : p ∈ ps) : 4 + p.zs.length ≤ (pmsB ps).length := by
  induction ps with
  | nil => cases h
  | cons q ps ih =>
    unfold pmsB at ih ⊢
    rw [List.flatMap_cons, List.length_append]
    rcases List.mem_cons.1 h with rfl | h1
    · have := pmB_len p
      omega
    · have := ih h1
      omega
theorem pm_psz {ps : List Pm} {p : Pm} (h : p ∈ ps) : p.zs.length ≤ psz (ps.map fun p => p.zs.length) := by
  have h1 := pm_in h
  have h2 := pms_split ps
  have h3 := congrArg List.length h2
  rw [List.length_append, List.length_replicate, pmsV_len] at h3
  have h4 := padN_lt (psz (ps.map fun p => p.zs.length))
  omega
/-- The bytes of a chunk's value. -/
def valB (c : CD) : List Nat :=
  if c.kind = 0 then bytesB c.tsn 4 ++ (bytesB c.stream 2 ++ (bytesB c.ssn 2 ++ (bytesB c.ppid 4 ++ c.xs)))
  else if c.kind = 1 ∨ c.kind = 2 then bytesB c.tag 4 ++ (bytesB c.room 4 ++ (bytesB c.outs 2 ++ (bytesB c.ins 2 ++ (bytesB c.tsn 4 ++ pmsV c.ps))))
  else if c.kind = 3 then sackB c.tsn c.room c.bs c.ds
  else if c.kind = 4 ∨ c.kind = 5 ∨ c.kind = 6 ∨ c.kind = 9 then pmsV c.ps
  else if c.kind = 7 then bytesB c.tsn 4
  else if c.kind = 8 ∨ c.kind = 11 ∨ c.kind = 14 then []
  else c.xs
def spcN (c : CD) : Nat := 4 + (valB c).length + padN (valB c).length
theorem chkN_ok {q l m : Bool} {n : Nat} (h : chkN q l m n = 0) : q = true ∧ l = false ∧ m = false ∧ n ≤ 1468 := by
  unfold chkN at h
  cases q <;> cases l <;> cases m <;> simp at h ⊢
  omega
end Go.Proofs.Ytjaheelgcjafcaa
