/- Numbers as bytes, and bytes as numbers: mathematics. -/
import Derived.Test.YtpmnjfkcffddgaaBytes
namespace Go.Proofs.Ytpmnjfkcffddgaa
open Go.RowKit
theorem bytesB_mod (n : Nat) : ∀ a r : Nat, bytesB (a * 256 ^ n + r) n = bytesB r n := by
  induction n with
  | zero => intro a r; rfl
  | succ n ih =>
    intro a r
    have hP : 0 < 256 ^ n := Nat.pow_pos (by omega)
    have e1 : a * 256 ^ (n + 1) + r = (a * 256) * 256 ^ n + r := by rw [Nat.pow_succ, Nat.mul_assoc, Nat.mul_comm 256]
    show ((a * 256 ^ (n + 1) + r) / 256 ^ n % 256) :: bytesB (a * 256 ^ (n + 1) + r) n = (r / 256 ^ n % 256) :: bytesB r n
    rw [e1, ih, Nat.add_comm, Nat.add_mul_div_right _ _ hP]
    congr 1
    omega
theorem numB_acc (l : List Nat) : ∀ acc, l.foldl (fun v d => v * 256 + d) acc = acc * 256 ^ l.length + numB l := by
  induction l with
  | nil => intro acc; simp [numB]
  | cons x l ih =>
    intro acc
    show l.foldl _ (acc * 256 + x) = acc * 256 ^ (l.length + 1) + l.foldl _ (0 * 256 + x)
    rw [ih, ih (0 * 256 + x), Nat.pow_succ]
    generalize 256 ^ l.length = P
    rw [Nat.add_mul, Nat.zero_mul, Nat.zero_add, Nat.mul_assoc, Nat.mul_comm 256 P]
    omega
theorem numB_cons (x : Nat) (l : List Nat) : numB (x :: l) = x * 256 ^ l.length + numB l := by
  show l.foldl _ (0 * 256 + x) = _
  rw [numB_acc]
  simp
theorem numB_ltM (l : List Nat) (hb : ∀ x ∈ l, x < 256) : numB l < 256 ^ l.length := by
  refine numB_lt l fun i => ?_
  rw [List.getD_eq_getElem?_getD]
  cases h : l[i]? with
  | none => simp
  | some x => exact hb x (List.mem_of_getElem? h)
theorem bytesB_numB (l : List Nat) (hb : ∀ x ∈ l, x < 256) : bytesB (numB l) l.length = l := by
  induction l with
  | nil => rfl
  | cons x l ih =>
    have hl : ∀ y ∈ l, y < 256 := fun y hy => hb y (List.mem_cons_of_mem _ hy)
    have hx := hb x List.mem_cons_self
    have hlt := numB_ltM l hl
    have hP : 0 < 256 ^ l.length := Nat.pow_pos (by omega)
    rw [numB_cons]
    show ((x * 256 ^ l.length + numB l) / 256 ^ l.length % 256) :: bytesB (x * 256 ^ l.length + numB l) l.length = x :: l
    rw [bytesB_mod, ih hl, Nat.add_comm, Nat.add_mul_div_right _ _ hP, Nat.div_eq_of_lt hlt]
    congr 1
    omega
/-- A number that stands in bytes is read there. -/
theorem numV_at (A : List Nat) (v k : Nat) (R : List Nat) (h1 : 1 ≤ k) (h8 : k ≤ 8) (hv : v < 256 ^ k) (p : Nat) (hp : p = A.length) : numV (A ++ (bytesB v k ++ R)) (p : Int) (k : Int) = v := by
  subst hp
  unfold numV
  have e : nspanE (A ++ (bytesB v k ++ R)).length (A.length : Int) (k : Int) = 0 := by
    unfold nspanE spanE
    rw [if_neg (by omega)]
    simp only [List.length_append, bytesB_len]
    rw [if_neg (by omega), if_neg (by omega)]
  rw [if_pos e, Int.toNat_natCast, Int.toNat_natCast, List.drop_left, List.take_append_of_le_length (by rw [bytesB_len]; exact Nat.le_refl _), List.take_of_length_le (by rw [bytesB_len]; exact Nat.le_refl _)]
  show (bytesB v k).foldl _ 0 = v
  rw [numB_bytes, Nat.mod_eq_of_lt hv]
  omega
theorem mem_bnd {zs : List Nat} (hb : ∀ i, zs.getD i 0 < 256) : ∀ x ∈ zs, x < 256 := by
  intro x hx
  obtain ⟨i, hi⟩ := List.getElem?_of_mem hx
  have := hb i
  rw [List.getD_eq_getElem?_getD, hi] at this
  exact this
/-- The bytes of a number that is read are the bytes that stand there. -/
theorem bytesB_at (zs : List Nat) (p k : Nat) (hb : ∀ i, zs.getD i 0 < 256) (h1 : 1 ≤ k) (h8 : k ≤ 8) (hl : p + k ≤ zs.length) : bytesB (numV zs (p : Int) (k : Int)) k = (zs.drop p).take k := by
  unfold numV
  have e : nspanE zs.length (p : Int) (k : Int) = 0 := by
    unfold nspanE spanE
    rw [if_neg (by omega), if_neg (by omega), if_neg (by omega)]
  rw [if_pos e, Int.toNat_natCast, Int.toNat_natCast]
  have hll : ((zs.drop p).take k).length = k := by rw [List.length_take, List.length_drop]; omega
  have hm : ∀ x ∈ (zs.drop p).take k, x < 256 := fun x hx => mem_bnd hb x (List.mem_of_mem_drop (List.mem_of_mem_take hx))
  have := bytesB_numB _ hm
  rwa [hll] at this
end Go.Proofs.Ytpmnjfkcffddgaa
