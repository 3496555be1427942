/- How ip's reading goes through bytes. -/
import Derived.Test.YtplicfknjhjjgaaIpSm
import Derived.Test.YtplicfknjhjjgaaNum
namespace Go.Proofs.Ytplicfknjhjjgaa
open Go.RowKit
set_option maxRecDepth 100000 in
set_option maxHeartbeats 1000000 in
theorem reading_any (a : Option Addr) (n c : Nat) (w : World) :
    Calls Try.prog 37 #[.slice a n c] w fun e w' => e = .returned (.func (.func 64) #[] #[.pointer (some ⟨w.heap.size, 0, none⟩), .pointer (some ⟨w.heap.size + 1, 0, none⟩)]) ∧ w' = (w.alloc (.cells #[.slice a n c] 24)).alloc (.cells #[.int .i64 0] 3) := by
  have hm := hmf
  go_enter Try.func37, Try.ntmps37
  go_wp2
  go_ret
  exact ⟨rfl, rfl⟩
set_option maxRecDepth 100000 in
set_option maxHeartbeats 1000000 in
theorem readc_any (pb pt : Nat) (a : Option Addr) (n c : Nat) (zs : List Nat) (t k : Nat) (w : World) (hs : Sl w a n c zs) (hb : w.cell? ⟨pb, 0, none⟩ = some (.slice a n c)) (ht : w.cell? ⟨pt, 0, none⟩ = some (.int .i64 (t : Nat))) (htf : w.frozen? ⟨pt, 0, none⟩ = false) (htk : t + k ≤ 10000) :
    Calls Try.prog 64 #[.int .i64 (k : Nat), .pointer (some ⟨pb, 0, none⟩), .pointer (some ⟨pt, 0, none⟩)] w fun e w' => e = .returned (.int .u64 (numV zs (t : Int) (k : Int) : Nat)) ∧ w' = w.setCell ⟨pt, 0, none⟩ (.int .i64 ((t + k : Nat) : Int)) := by
  have hn := num_any a n c zs (t : Int) (k : Int) w hs
  have hw : IntKind.i64.wrap ((t : Int) + (k : Int)) = ((t + k : Nat) : Int) := by rw [IntKind.wrap_i64]; omega
  have hw2 : (t : Int) + (k : Int) = ((t + k : Nat) : Int) := by omega
  generalize numV zs (t : Int) (k : Int) = r at *
  obtain ⟨tk, htk2⟩ : ∃ tk, tk = t + k := ⟨_, rfl⟩
  rw [← htk2] at hw hw2 ⊢
  have htk3 : tk ≤ 10000 := by omega
  clear htk2 htk
  go_enter Try.func64, Try.ntmps64
  go_wp2_with fail
  refine hn.mono ?_
  rintro e w' ⟨rfl, hw'⟩
  subst w'
  go_wp2
  go_ret
  exact ⟨rfl, by first | rfl | (congr 2; go_num) | (rw [show wrap64 (tk : Int) = (tk : Int) from by simp [wrap64]; omega])⟩
/-- What stands while parts are cut. -/
structure HcS (wT : World) (pb pt : Nat) (av : Value) (x r t : Nat) (xs rs : List Value) (W : World) : Prop where
  sb : Stc W pb [av]
  st : Stc W pt [.int .i64 (t : Nat)]
  sx : Stc W x xs
  sr : Stc W r rs
  n1 : pt ≠ pb
  n2 : pt ≠ x
  n3 : pt ≠ r
  n4 : x ≠ pb
  n5 : x ≠ r
  n6 : r ≠ pb
  g1 : wT.heap.size ≤ pt
  g2 : wT.heap.size ≤ x
  g3 : wT.heap.size ≤ r
  bel : Below wT.heap.size wT W
theorem HcS.cut {wT : World} {pb pt : Nat} {a : Option Addr} {n c : Nat} {x r t : Nat} {xs rs : List Value} {W : World} (h : HcS wT pb pt (.slice a n c) x r t xs rs W) (zs : List Nat) (hs : Sl wT a n c zs) (k : Nat) (htk : t + k ≤ 10000) :
    Calls Try.prog 64 #[.int .i64 (k : Nat), .pointer (some ⟨pb, 0, none⟩), .pointer (some ⟨pt, 0, none⟩)] W fun e w' => e = .returned (.int .u64 (numV zs (t : Int) (k : Int) : Nat)) ∧ HcS wT pb pt (.slice a n c) x r (t + k) xs rs w' := by
  refine (readc_any pb pt a n c zs t k W (hs.below h.bel) (h.sb.cell 0 _ rfl) (h.st.cell 0 _ rfl) (h.st.free 0) htk).mono ?_
  rintro e w' ⟨he, rfl⟩
  exact ⟨he, h.sb.other pt 0 _ h.n1, h.st.set 0 _, h.sx.other pt 0 _ h.n2, h.sr.other pt 0 _ h.n3, h.n1, h.n2, h.n3, h.n4, h.n5, h.n6, h.g1, h.g2, h.g3, h.bel.setCell (p := ⟨pt, 0, none⟩) h.g1 _⟩
theorem HcS.set {wT : World} {pb pt : Nat} {av : Value} {x r t : Nat} {xs rs : List Value} {W : World} (h : HcS wT pb pt av x r t xs rs W) (j : Nat) (u : Value) : HcS wT pb pt av x r t (xs.set j u) rs (W.setCell ⟨x, j, none⟩ u) :=
  ⟨h.sb.other x j _ h.n4, h.st.other x j _ (fun e => h.n2 e.symm), h.sx.set j u, h.sr.other x j _ h.n5, h.n1, h.n2, h.n3, h.n4, h.n5, h.n6, h.g1, h.g2, h.g3, h.bel.setCell (p := ⟨x, j, none⟩) h.g2 _⟩
theorem HcS.setR {wT : World} {pb pt : Nat} {av : Value} {x r t : Nat} {xs rs : List Value} {W : World} (h : HcS wT pb pt av x r t xs rs W) (j : Nat) (u : Value) : HcS wT pb pt av x r t xs (rs.set j u) (W.setCell ⟨r, j, none⟩ u) :=
  ⟨h.sb.other r j _ h.n6, h.st.other r j _ (fun e => h.n3 e.symm), h.sx.other r j _ (fun e => h.n5 e.symm), h.sr.set j u, h.n1, h.n2, h.n3, h.n4, h.n5, h.n6, h.g1, h.g2, h.g3, h.bel.setCell (p := ⟨r, j, none⟩) h.g3 _⟩
theorem HcS.start {wT w : World} {pb pt : Nat} {av : Value} {t : Nat} (sb : Stc w pb [av]) (st : Stc w pt [.int .i64 (t : Nat)]) (n1 : pt ≠ pb) (g1 : wT.heap.size ≤ pt) (bel : Below wT.heap.size wT w) (xs rs : List Value) (T T2 : TypeId) : HcS wT pb pt av w.heap.size (w.heap.size + 1) t xs rs ((w.alloc (.cells xs.toArray T)).alloc (.cells rs.toArray T2)) := by
  have hz1 : (w.alloc (.cells xs.toArray T)).heap.size = w.heap.size + 1 := by simp
  have hb1 : Below w.heap.size w (w.alloc (.cells xs.toArray T)) := (Below.refl _ _).alloc (Nat.le_refl _) _
  have hb2 : Below (w.alloc (.cells xs.toArray T)).heap.size (w.alloc (.cells xs.toArray T)) ((w.alloc (.cells xs.toArray T)).alloc (.cells rs.toArray T2)) := (Below.refl _ _).alloc (Nat.le_refl _) _
  have hb : Below w.heap.size w _ := hb1.trans (hb2.mono hb1.size)
  have l1 := sb.lt
  have l2 := st.lt
  have l3 := bel.size
  refine ⟨sb.below hb, st.below hb, (Stc.new w xs T _ rfl).below hb2, ?_, n1, by omega, by omega, by omega, by omega, by omega, g1, l3, by omega, bel.trans (hb.mono l3)⟩
  have := Stc.new (w.alloc (.cells xs.toArray T)) rs T2 _ rfl
  rw [hz1] at this
  exact this
end Go.Proofs.Ytplicfknjhjjgaa
