/- streams: New and Next; Add of a chunk. -/
import Derived.Test.YtjaheelgcjafcaaSfA
import Derived.Test.YtjaheelgcjafcaaCks
namespace Go.Proofs.Ytjaheelgcjafcaa
open Go.RowKit Go.MapKept Go.Maps
/-- New streams. -/
theorem SmW.new {w w' : World} (n : Nat) (h1 : 1 ≤ n) (h8 : n ≤ 8) (hw : w' = (((w.alloc (.cells (madeCells #[.int .u16 0] n) 42)).alloc (.map #[] 0)).alloc (.map #[] 0)).alloc (.cells #[.slice (some ⟨w.heap.size, 0, none⟩) n n, .map (some (w.heap.size + 1)), .map (some (w.heap.size + 2))] 76)) :
    SmW w' (w.heap.size + 3) w.heap.size (w.heap.size + 1) (w.heap.size + 2) (fun _ => (none, 0)) (fun _ => False) ⟨List.replicate n 0, [], []⟩ := by
  obtain ⟨W1, hW1⟩ : ∃ W, W = w.alloc (.cells (madeCells #[.int .u16 0] n) 42) := ⟨_, rfl⟩
  obtain ⟨W2, hW2⟩ : ∃ W, W = W1.alloc (.map #[] 0) := ⟨_, rfl⟩
  obtain ⟨W3, hW3⟩ : ∃ W, W = W2.alloc (.map #[] 0) := ⟨_, rfl⟩
  rw [← hW1, ← hW2, ← hW3] at hw
  have z1 : W1.heap.size = w.heap.size + 1 := by rw [hW1]; simp
  have z2 : W2.heap.size = w.heap.size + 2 := by rw [hW2]; simp [z1]
  have z3 : W3.heap.size = w.heap.size + 3 := by rw [hW3]; simp [z2]
  have b1 : Below W1.heap.size W1 W2 := by rw [hW2]; exact (Below.refl _ _).alloc (Nat.le_refl _) _
  have b2 : Below W2.heap.size W2 W3 := by rw [hW3]; exact (Below.refl _ _).alloc (Nat.le_refl _) _
  have b3 : Below W3.heap.size W3 w' := by rw [hw]; exact (Below.refl _ _).alloc (Nat.le_refl _) _
  have b13 : Below W1.heap.size W1 w' := b1.trans ((b2.trans (b3.mono b2.size)).mono b1.size)
  have hs := Stc.new W3 [.slice (some ⟨w.heap.size, 0, none⟩) n n, .map (some (w.heap.size + 1)), .map (some (w.heap.size + 2))] 76 w' hw
  rw [z3] at hs
  have m1 := (Mp.made (ek := ipV) (K := IpK) W1 W2 hW2).below (b2.trans (b3.mono b2.size))
  have m2 := (Mp.made (ek := tuV) (K := IpK) W2 W3 hW3).below b3
  rw [z1] at m1
  rw [z2] at m2
  have hrow : Stc W1 w.heap.size (madeCells #[.int .u16 0] n).toList := Stc.new w _ 42 W1 (by rw [hW1])
  have hrow' := hrow.below b13
  refine ⟨by simpa using hs, fun i hi => ?_, hrow'.free, hrow'.lt, by simpa using h1, by simpa using h8, fun i => ?_, m1, m2, fun y hy => (by cases hy), fun y hy => (by cases hy), List.Pairwise.nil, List.Pairwise.nil, ⟨by omega, by omega, by omega, by omega, by omega, by omega⟩, fun g hg => hg.elim, fun g hg => hg.elim, Nat.zero_le _, fun y hy => (by cases hy)⟩
  · simp only [List.length_replicate] at hi
    have e : (List.replicate n 0).getD i 0 = 0 := by simp [List.getD_eq_getElem?_getD, hi]
    rw [e]
    refine hrow'.cell i _ ?_
    rw [Array.getElem?_toList]
    simp [madeCells, hi, Nat.mod_one]
  · simp [List.getD_eq_getElem?_getD, List.getElem?_replicate]
    split <;> simp
set_option linter.unusedVariables false in
set_option maxRecDepth 100000 in
theorem snext_any {w : World} {p nb mb wb : Nat} {wr0 : Nat → Option Addr × Nat} {Y : Nat → Prop} {s : SmS} (h : SmW w p nb mb wb wr0 Y s) (n : Int) :
    Calls Try.prog 22 #[.pointer (some ⟨p, 0, none⟩), .int .i64 n] w fun e w' => e = .returned (if 0 ≤ n ∧ n < s.nx.length then .tuple #[.int .u16 (s.nx.getD n.toNat 0 : Nat), .int .i64 0] else .tuple #[.int .u16 0, .int .i64 14]) ∧ Below w.heap.size w w' := by
  have c0 := h.st.cell 0 _ rfl
  have hpl := h.st.lt
  have hn8 := h.n8
  by_cases h0 : n < 0
  · rw [if_neg (by omega)]
    go_enter Try.func22, Try.ntmps22
    go_wp2
    go_ret2
    exact ⟨rfl, Below.refl _ _⟩
  · obtain ⟨m, rfl⟩ : ∃ m : Nat, n = (m : Int) := ⟨n.toNat, by omega⟩
    obtain ⟨sn, hsn⟩ : ∃ sn, sn = s.nx.length := ⟨_, rfl⟩
    rw [← hsn] at c0 hn8 ⊢
    by_cases hm : m < sn
    · rw [if_pos (by omega)]
      have hx := h.nx m (by omega)
      have hmi : (m : Int) < (sn : Int) := by omega
      rw [Int.toNat_natCast]
      generalize s.nx.getD m 0 = v at *
      clear h hsn
      go_enter Try.func22, Try.ntmps22
      go_wp2
      go_ret2
      exact ⟨rfl, Below.refl _ _⟩
    · rw [if_neg (by omega)]
      have hmi : ¬ (m : Int) < (sn : Int) := by omega
      clear h hsn
      go_enter Try.func22, Try.ntmps22
      go_wp2
      go_ret2
      exact ⟨rfl, Below.refl _ _⟩
/-- Add of a chunk as it lies. -/
theorem sadd_ck {w : World} {p nb mb wb : Nat} {wr0 : Nat → Option Addr × Nat} {Y : Nat → Prop} {s : SmS} (h : SmW w p nb mb wb wr0 Y s) (c : Ck) (hc : CkW w c) (v : Value) (hv : v = c.val) :
    Calls Try.prog 14 #[.pointer (some ⟨p, 0, none⟩), v] w (AddR w p nb mb wb Y s c.k c.f c.t c.st c.ss c.pp c.x2 c.zs (chkOf c)) :=
  sadd_any h c.k c.f c.t c.st c.ss c.pp _ _ _ _ _ _ _ c.x1 c.x2 c.x3 c.zs (chkOf c) hc.ok.k hc.ok.f hc.ok.t hc.ok.st hc.ok.ss hc.ok.pp hc.sl (fun hE hk => (chkOf_data hE hk).2) (fun W u hW hu => check_all c W (hc.below hW) u hu) v hv
end Go.Proofs.Ytjaheelgcjafcaa
