/- A slice of bytes as a string. -/
import Derived.Test.YtfjpckaphfdfnaaGreatDoorProg
import Derived.Test.YtfjpckaphfdfnaaGreatDoorBase
import Derived.Laws.IdiomStrings
namespace Go.Proofs.YtfjpckaphfdfnaaGreatDoor
open Go.RowKit
def strOf (zs : List Nat) : ByteArray := ⟨(zs.map UInt8.ofNat).toArray⟩
theorem conv_str {w : World} {a : Option Addr} {n c : Nat} {zs : List Nat} (hs : Sl w a n c zs) : (convert 24 9 (.slice a n c)).run Tryz.prog w = .ok (.string (strOf zs)) w := by
  obtain ⟨hl, hcap, hroom, hsm, hnz, hb, hat⟩ := hs
  cases a with
  | none =>
    obtain rfl := hnz rfl
    obtain rfl : n = 0 := by omega
    obtain rfl : zs = [] := List.eq_nil_of_length_eq_zero hl
    rw [run_convert_bytes_string w 24 9 5 none 0 0 Tryz.underlying24 Tryz.underlying5 Tryz.underlying9]
    rfl
  | some p =>
    have hlen : (zs.map UInt8.ofNat).length = n := by simp [hl]
    have := run_convert_bytes_back (P := Tryz.prog) w 24 9 5 p c (zs.map UInt8.ofNat) Tryz.underlying24 Tryz.underlying5 Tryz.underlying9 (fun j hj => by
      rw [hlen] at hj
      rcases hat with h0 | ⟨b, off, hp, _, hcell⟩
      · omega
      · injection hp with hp
        subst hp
        have ea : (⟨b, off, none⟩ : Addr).add j = ⟨b, off + j, none⟩ := by
          unfold Addr.add
          split
          · subst_vars; rfl
          · rfl
        have hbj := hb j
        have e2 : zs[j]'(by omega) = zs.getD j 0 := by simp [List.getD_eq_getElem?_getD, show j < zs.length from by omega]
        rw [ea, hcell j hj, List.getElem_map, e2]
        generalize zs.getD j 0 = q at hbj
        have e3 : (UInt8.ofNat q).toNat = q := by rw [UInt8.toNat_ofNat']; omega
        rw [e3])
    rw [hlen] at this
    exact this
theorem strOf_inj {zs ys : List Nat} (hz : ∀ i, zs.getD i 0 < 256) (hy : ∀ i, ys.getD i 0 < 256) (h : strOf zs = strOf ys) : zs = ys := by
  have h1 : zs.map UInt8.ofNat = ys.map UInt8.ofNat := by
    unfold strOf at h
    injection h with h
    simpa using congrArg Array.toList h
  have hl : zs.length = ys.length := by simpa using congrArg List.length h1
  apply List.ext_getElem hl
  intro i h2 h3
  have h4 : (zs.map UInt8.ofNat)[i]'(by simpa using h2) = (ys.map UInt8.ofNat)[i]'(by simpa using h3) := by simp only [h1]
  rw [List.getElem_map, List.getElem_map] at h4
  have a1 := hz i
  have a2 := hy i
  simp [List.getD_eq_getElem?_getD, h2] at a1
  simp [List.getD_eq_getElem?_getD, h3] at a2
  have h5 := congrArg UInt8.toNat h4
  simpa [UInt8.toNat_ofNat', Nat.mod_eq_of_lt a1, Nat.mod_eq_of_lt a2] using h5
end Go.Proofs.YtfjpckaphfdfnaaGreatDoor
