/- How a head is cut out of bytes. -/
import Derived.Test.YtpmnjfkcffddgaaEtPut
import Derived.Test.YtpmnjfkcffddgaaNum
namespace Go.Proofs.Ytpmnjfkcffddgaa
open Go.RowKit
theorem numV_lt (zs : List Nat) (p k : Nat) (hb : ∀ i, zs.getD i 0 < 256) : numV zs (p : Int) (k : Int) < 256 ^ k := by
  unfold numV
  split
  · rw [Int.toNat_natCast, Int.toNat_natCast]
    have h := numB_lt ((zs.drop p).take k) (fun i => by
      by_cases hi : i < k
      · rw [List.getD_eq_getElem?_getD, List.getElem?_take_of_lt hi, List.getElem?_drop, ← List.getD_eq_getElem?_getD]; exact hb _
      · rw [List.getD_eq_getElem?_getD, List.getElem?_eq_none (by rw [List.length_take]; omega)]; decide)
    refine Nat.lt_of_lt_of_le h (Nat.pow_le_pow_right (by omega) ?_)
    rw [List.length_take]; omega
  · exact Nat.pos_of_ne_zero (by simp)
set_option maxRecDepth 100000 in
set_option maxHeartbeats 2000000 in
theorem cutting_any (a : Option Addr) (n c : Nat) (w : World) :
    Calls Try.prog 32 #[.slice a n c] w fun e w' => e = .returned (.func (.func 39) #[] #[.pointer (some ⟨w.heap.size, 0, none⟩), .pointer (some ⟨w.heap.size + 1, 0, none⟩)]) ∧ w' = (w.alloc (.cells #[.slice a n c] 29)).alloc (.cells #[.int .i64 0] 3) := by
  have hm := hmf
  go_enter Try.func32, Try.ntmps32
  go_wp2
  go_ret
  exact ⟨rfl, rfl⟩
set_option maxRecDepth 100000 in
set_option maxHeartbeats 2000000 in
theorem cutc_any (pb pt : Nat) (a : Option Addr) (n c : Nat) (zs : List Nat) (t k v : Nat) (w : World) (hs : Sl w a n c zs) (hb : w.cell? ⟨pb, 0, none⟩ = some (.slice a n c)) (ht : w.cell? ⟨pt, 0, none⟩ = some (.int .i64 (t : Nat))) (htf : w.frozen? ⟨pt, 0, none⟩ = false) (htk : t + k ≤ 10000) :
    Calls Try.prog 39 #[.int .u64 (v : Nat), .int .i64 (k : Nat), .pointer (some ⟨pb, 0, none⟩), .pointer (some ⟨pt, 0, none⟩)] w fun e w' => e = .returned (.int .u64 (numV zs (t : Int) (k : Int) : Nat)) ∧ w' = w.setCell ⟨pt, 0, none⟩ (.int .i64 ((t + k : Nat) : Int)) := by
  have hn := num_any a n c zs (t : Int) (k : Int) w hs
  have hw : IntKind.i64.wrap ((t : Int) + (k : Int)) = ((t + k : Nat) : Int) := by rw [IntKind.wrap_i64]; omega
  have hw2 : (t : Int) + (k : Int) = ((t + k : Nat) : Int) := by omega
  generalize numV zs (t : Int) (k : Int) = r at *
  obtain ⟨tk, htk2⟩ : ∃ tk, tk = t + k := ⟨_, rfl⟩
  rw [← htk2] at hw hw2 ⊢
  have htk3 : tk ≤ 10000 := by omega
  clear htk2 htk
  go_enter Try.func39, Try.ntmps39
  go_wp2_with fail
  refine hn.mono ?_
  rintro e w' ⟨rfl, hw'⟩
  subst w'
  go_wp2
  go_ret
  exact ⟨rfl, by first | rfl | (congr 2; go_num) | (rw [show wrap64 (tk : Int) = (tk : Int) from by simp [wrap64]; omega])⟩
/-- What stands while parts are cut. -/
structure HcS (wT : World) (pb pt : Nat) (av : Value) (x r t : Nat) (xs rs : List Value) (W : World) : Prop where
  sb : Stc W pb [av]
  st : Stc W pt [.int .i64 (t : Nat)]
  sx : Stc W x xs
  sr : Stc W r rs
  n1 : pt ≠ pb
  n2 : pt ≠ x
  n3 : pt ≠ r
  n4 : x ≠ pb
  n5 : x ≠ r
  n6 : r ≠ pb
  g1 : wT.heap.size ≤ pt
  g2 : wT.heap.size ≤ x
  g3 : wT.heap.size ≤ r
  bel : Below wT.heap.size wT W
theorem HcS.cut {wT : World} {pb pt : Nat} {a : Option Addr} {n c : Nat} {x r t : Nat} {xs rs : List Value} {W : World} (h : HcS wT pb pt (.slice a n c) x r t xs rs W) (zs : List Nat) (hs : Sl wT a n c zs) (v k : Nat) (htk : t + k ≤ 10000) :
    Calls Try.prog 39 #[.int .u64 (v : Nat), .int .i64 (k : Nat), .pointer (some ⟨pb, 0, none⟩), .pointer (some ⟨pt, 0, none⟩)] W fun e w' => e = .returned (.int .u64 (numV zs (t : Int) (k : Int) : Nat)) ∧ HcS wT pb pt (.slice a n c) x r (t + k) xs rs w' := by
  refine (cutc_any pb pt a n c zs t k v W (hs.below h.bel) (h.sb.cell 0 _ rfl) (h.st.cell 0 _ rfl) (h.st.free 0) htk).mono ?_
  rintro e w' ⟨he, rfl⟩
  exact ⟨he, h.sb.other pt 0 _ h.n1, h.st.set 0 _, h.sx.other pt 0 _ h.n2, h.sr.other pt 0 _ h.n3, h.n1, h.n2, h.n3, h.n4, h.n5, h.n6, h.g1, h.g2, h.g3, h.bel.setCell (p := ⟨pt, 0, none⟩) h.g1 _⟩
theorem HcS.set {wT : World} {pb pt : Nat} {av : Value} {x r t : Nat} {xs rs : List Value} {W : World} (h : HcS wT pb pt av x r t xs rs W) (j : Nat) (u : Value) : HcS wT pb pt av x r t (xs.set j u) rs (W.setCell ⟨x, j, none⟩ u) :=
  ⟨h.sb.other x j _ h.n4, h.st.other x j _ (fun e => h.n2 e.symm), h.sx.set j u, h.sr.other x j _ h.n5, h.n1, h.n2, h.n3, h.n4, h.n5, h.n6, h.g1, h.g2, h.g3, h.bel.setCell (p := ⟨x, j, none⟩) h.g2 _⟩
theorem HcS.setR {wT : World} {pb pt : Nat} {av : Value} {x r t : Nat} {xs rs : List Value} {W : World} (h : HcS wT pb pt av x r t xs rs W) (j : Nat) (u : Value) : HcS wT pb pt av x r t xs (rs.set j u) (W.setCell ⟨r, j, none⟩ u) :=
  ⟨h.sb.other r j _ h.n6, h.st.other r j _ (fun e => h.n3 e.symm), h.sx.other r j _ (fun e => h.n5 e.symm), h.sr.set j u, h.n1, h.n2, h.n3, h.n4, h.n5, h.n6, h.g1, h.g2, h.g3, h.bel.setCell (p := ⟨r, j, none⟩) h.g3 _⟩
theorem HcS.start {wT w : World} {pb pt : Nat} {av : Value} {t : Nat} (sb : Stc w pb [av]) (st : Stc w pt [.int .i64 (t : Nat)]) (n1 : pt ≠ pb) (g1 : wT.heap.size ≤ pt) (bel : Below wT.heap.size wT w) (xs rs : List Value) (T T2 : TypeId) : HcS wT pb pt av w.heap.size (w.heap.size + 1) t xs rs ((w.alloc (.cells xs.toArray T)).alloc (.cells rs.toArray T2)) := by
  have hz1 : (w.alloc (.cells xs.toArray T)).heap.size = w.heap.size + 1 := by simp
  have hb1 : Below w.heap.size w (w.alloc (.cells xs.toArray T)) := (Below.refl _ _).alloc (Nat.le_refl _) _
  have hb2 : Below (w.alloc (.cells xs.toArray T)).heap.size (w.alloc (.cells xs.toArray T)) ((w.alloc (.cells xs.toArray T)).alloc (.cells rs.toArray T2)) := (Below.refl _ _).alloc (Nat.le_refl _) _
  have hb : Below w.heap.size w _ := hb1.trans (hb2.mono hb1.size)
  have l1 := sb.lt
  have l2 := st.lt
  have l3 := bel.size
  refine ⟨sb.below hb, st.below hb, (Stc.new w xs T _ rfl).below hb2, ?_, n1, by omega, by omega, by omega, by omega, by omega, g1, l3, by omega, bel.trans (hb.mono l3)⟩
  have := Stc.new (w.alloc (.cells xs.toArray T)) rs T2 _ rfl
  rw [hz1] at this
  exact this
set_option maxRecDepth 100000 in
set_option maxHeartbeats 2000000 in
theorem eachHead_cut (wT : World) (pb pt : Nat) (a : Option Addr) (n c : Nat) (zs : List Nat) (w : World) (hs : Sl wT a n c zs) (sb : Stc w pb [.slice a n c]) (st : Stc w pt [.int .i64 0]) (n1 : pt ≠ pb) (g1 : wT.heap.size ≤ pt) (bel : Below wT.heap.size wT w) :
    Calls Try.prog 31 #[.agg #[.int .u64 0, .int .u64 0, .int .u16 0, .slice none 0 0], .func (.func 39) #[] #[.pointer (some ⟨pb, 0, none⟩), .pointer (some ⟨pt, 0, none⟩)]] w fun e w' => e = .returned (.agg #[.int .u64 (numV zs 0 6 : Nat), .int .u64 (numV zs 6 6 : Nat), .int .u16 (numV zs 12 2 : Nat), .slice none 0 0]) ∧ Below wT.heap.size wT w' := by
  have h0 := HcS.start (t := 0) sb st n1 g1 bel [.int .u64 0, .int .u64 0, .int .u16 0, .slice none 0 0] [.int .u64 0, .int .u64 0, .int .u16 0, .slice none 0 0] 51 51
  obtain ⟨W, hW⟩ : ∃ W, W = (w.alloc (.cells #[.int .u64 0, .int .u64 0, .int .u16 0, .slice none 0 0] 51)).alloc (.cells #[.int .u64 0, .int .u64 0, .int .u16 0, .slice none 0 0] 51) := ⟨_, rfl⟩
  change HcS wT pb pt _ w.heap.size (w.heap.size + 1) 0 _ _ ((w.alloc (.cells #[.int .u64 0, .int .u64 0, .int .u16 0, .slice none 0 0] 51)).alloc (.cells #[.int .u64 0, .int .u64 0, .int .u16 0, .slice none 0 0] 51)) at h0
  rw [← hW] at h0
  have hk := numV_lt zs 12 2 hs.bnd
  go_enter Try.func31, Try.ntmps31
  go_wp2_with fail
  rw [← hW]
  clear hW
  refine (h0.cut zs hs 0 6 (by omega)).mono ?_
  rintro e w1 ⟨rfl, h1⟩
  have e0 : numV zs ((0 : Nat) : Int) ((6 : Nat) : Int) = numV zs 0 6 := rfl
  rw [e0]
  obtain ⟨T, hT⟩ : ∃ T, T = numV zs 0 6 := ⟨_, rfl⟩
  rw [← hT]
  have HT := (show Hid _ from hT)
  have x0 := h1.sx.cell 0 _ rfl
  have x0f := h1.sx.free 0
  have x1 := h1.sx.cell 1 _ rfl
  have h1' := h1.set 0 (.int .u64 (T : Nat))
  clear h0 hT e0
  go_wp2_with fail
  refine (h1'.cut zs hs 0 6 (by omega)).mono ?_
  rintro e w2 ⟨rfl, h2⟩
  have e0 : numV zs ((0 + 6 : Nat) : Int) ((6 : Nat) : Int) = numV zs 6 6 := rfl
  rw [e0]
  obtain ⟨F, hF⟩ : ∃ F, F = numV zs 6 6 := ⟨_, rfl⟩
  rw [← hF]
  have HF := (show Hid _ from hF)
  have y1 := h2.sx.cell 1 _ rfl
  have y1f := h2.sx.free 1
  have y2 := h2.sx.cell 2 _ rfl
  have h2' := h2.set 1 (.int .u64 (F : Nat))
  clear h1 h1' x0 x0f x1 e0 hF
  go_wp2_with fail
  refine (h2'.cut zs hs 0 2 (by omega)).mono ?_
  rintro e w3 ⟨rfl, h3⟩
  have e0 : numV zs ((0 + 6 + 6 : Nat) : Int) ((2 : Nat) : Int) = numV zs 12 2 := rfl
  rw [e0]
  obtain ⟨K, hK⟩ : ∃ K, K = numV zs 12 2 := ⟨_, rfl⟩
  have hk2 : K < 65536 := by rw [hK]; exact hk
  rw [← hK]
  have HK := (show Hid _ from hK)
  have hkm : (K : Int) % 65536 = (K : Int) := by omega
  have z2 := h3.sx.cell 2 _ rfl
  have z2f := h3.sx.free 2
  have z0 := h3.sx.cell 0 _ rfl
  have z1 := h3.sx.cell 1 _ rfl
  have z3 := h3.sx.cell 3 _ rfl
  have h3' := h3.set 2 (.int .u16 (K : Nat))
  have r0 := h3.sr.cell 0 _ rfl
  have r1 := h3.sr.cell 1 _ rfl
  have r2 := h3.sr.cell 2 _ rfl
  have r3 := h3.sr.cell 3 _ rfl
  have r0f := h3.sr.free 0
  have r1f := h3.sr.free 1
  have r2f := h3.sr.free 2
  have r3f := h3.sr.free 3
  have h4 := (((h3'.setR 0 (.int .u64 (T : Nat))).setR 1 (.int .u64 (F : Nat))).setR 2 (.int .u16 (K : Nat))).setR 3 (.slice none 0 0)
  have HBF := (show Hid _ from h4.bel)
  have HRG := (show Hid _ from h4.sr.range)
  clear y1 y1f y2 h2 h2' h3 h3' h4 e0 hK hk
  go_wp2
  try simp only [Exit.inBlock, Exit.then]
  refine bodyPost_ret (results_cellE rfl _ _ (w.heap.size + 1) 0 [.int .u64 (T : Nat), .int .u64 (F : Nat), .int .u16 (K : Nat), .slice none 0 0] _ rfl HRG.out Try.underlying51 rfl (by kernel_rfl)) rfl ?_
  exact ⟨by rw [HT.out, HF.out, HK.out], HBF.out⟩
end Go.Proofs.Ytpmnjfkcffddgaa
