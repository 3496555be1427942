/- A frame's bytes are read as the frame, and back: mathematics. -/
import Derived.Test.YtpmnjfkcffddgaaBnM
import Derived.Test.YtpmnjfkcffddgaaEtTake
namespace Go.Proofs.Ytpmnjfkcffddgaa
open Go.RowKit
theorem ep_take (t f k : Nat) (zs : List Nat) (h : epE t f k zs.length = 0) (hk : k < 65536) : tkE (epV t f k zs) = 0 ∧ tkN (epV t f k zs) 0 6 = t ∧ tkN (epV t f k zs) 6 6 = f ∧ tkN (epV t f k zs) 12 2 = k ∧ tkB (epV t f k zs) = zs := by
  have hV : epV t f k zs = bytesB t 6 ++ (bytesB f 6 ++ (bytesB k 2 ++ zs)) := by unfold epV; rw [if_pos h]
  have h' := h
  unfold epE at h'
  split at h'
  · cases h'
  · rename_i h1
    split at h'
    · cases h'
    · rename_i h2
      have e0 : numV (epV t f k zs) ((0 : Nat) : Int) ((6 : Nat) : Int) = t := by rw [hV]; exact numV_at [] t 6 _ (by omega) (by omega) (by show t < 281474976710656; omega) 0 rfl
      have e6 : numV (epV t f k zs) ((6 : Nat) : Int) ((6 : Nat) : Int) = f := by rw [hV]; exact numV_at (bytesB t 6) f 6 _ (by omega) (by omega) (by show f < 281474976710656; omega) 6 (by rw [bytesB_len])
      have e12 : numV (epV t f k zs) ((12 : Nat) : Int) ((2 : Nat) : Int) = k := by
        rw [hV, ← List.append_assoc]
        exact numV_at (bytesB t 6 ++ bytesB f 6) k 2 _ (by omega) (by omega) (by show k < 65536; omega) 12 (by rw [List.length_append, bytesB_len, bytesB_len])
      have hE : tkE (epV t f k zs) = 0 := by
        have hl : (epV t f k zs).length = 14 + zs.length := by rw [hV]; simp [bytesB_len]; omega
        unfold tkE
        rw [if_neg (by omega), if_neg (by omega), show numV (epV t f k zs) 12 2 = k from e12, if_neg (by omega)]
      refine ⟨hE, ?_, ?_, ?_, ?_⟩
      · unfold tkN; rw [if_pos hE]; exact e0
      · unfold tkN; rw [if_pos hE]; exact e6
      · unfold tkN; rw [if_pos hE]; exact e12
      · unfold tkB
        rw [if_pos hE, hV, ← List.append_assoc, ← List.append_assoc]
        exact List.drop_left' (by simp [bytesB_len])
theorem tk_put (zs : List Nat) (hb : ∀ i, zs.getD i 0 < 256) (h : tkE zs = 0) : epE (tkN zs 0 6) (tkN zs 6 6) (tkN zs 12 2) (tkB zs).length = 0 ∧ epV (tkN zs 0 6) (tkN zs 6 6) (tkN zs 12 2) (tkB zs) = zs := by
  have h' := h
  unfold tkE at h'
  split at h'
  · cases h'
  · rename_i h1
    split at h'
    · cases h'
    · rename_i h2
      split at h'
      · cases h'
      · rename_i h3
        have n0 : tkN zs 0 6 = numV zs ((0 : Nat) : Int) ((6 : Nat) : Int) := by unfold tkN; rw [if_pos h]
        have n6 : tkN zs 6 6 = numV zs ((6 : Nat) : Int) ((6 : Nat) : Int) := by unfold tkN; rw [if_pos h]
        have n12 : tkN zs 12 2 = numV zs ((12 : Nat) : Int) ((2 : Nat) : Int) := by unfold tkN; rw [if_pos h]
        have hB : tkB zs = zs.drop 14 := by unfold tkB; rw [if_pos h]
        have l0 := numV_lt zs 0 6 hb
        have l6 := numV_lt zs 6 6 hb
        rw [n0, n6, n12, hB]
        have hE : epE (numV zs ((0 : Nat) : Int) ((6 : Nat) : Int)) (numV zs ((6 : Nat) : Int) ((6 : Nat) : Int)) (numV zs ((12 : Nat) : Int) ((2 : Nat) : Int)) (zs.drop 14).length = 0 := by
          unfold epE
          have h3' : ¬ numV zs ((12 : Nat) : Int) ((2 : Nat) : Int) < 1536 := h3
          rw [if_neg (by omega), if_neg (by rw [List.length_drop]; omega)]
        refine ⟨hE, ?_⟩
        unfold epV
        rw [if_pos hE, bytesB_at zs 0 6 hb (by omega) (by omega) (by omega), bytesB_at zs 6 6 hb (by omega) (by omega) (by omega), bytesB_at zs 12 2 hb (by omega) (by omega) (by omega)]
        have a1 : (zs.drop 12).take 2 ++ zs.drop 14 = zs.drop 12 := by
          have := List.take_append_drop 2 (zs.drop 12)
          rwa [List.drop_drop] at this
        have a2 : (zs.drop 6).take 6 ++ zs.drop 12 = zs.drop 6 := by
          have := List.take_append_drop 6 (zs.drop 6)
          rwa [List.drop_drop] at this
        rw [a1, a2]
        exact List.take_append_drop 6 zs
theorem tk_bad (zs : List Nat) (h : ¬ tkE zs = 0) : tkB zs = [] ∧ (∀ p k, tkN zs p k = 0) := ⟨by unfold tkB; rw [if_neg h], fun p k => by unfold tkN; rw [if_neg h]⟩
end Go.Proofs.Ytpmnjfkcffddgaa
