/- What ip.head answers. -/
import Derived.Test.YtnbagloifbllbaaIpSm
namespace Go.Proofs.Ytnbagloifbllbaa
open Go.RowKit
theorem layi_any (po : Nat) (w : World) :
    Calls Try.prog 43 #[.pointer (some ⟨po, 0, none⟩)] w fun e w' => e = .returned (.func (.func 53) #[] #[.pointer (some ⟨w.heap.size, 0, none⟩)]) ∧ w' = w.alloc (.cells #[.pointer (some ⟨po, 0, none⟩)] 76) := by
  have hm := hmf
  go_enter Try.func43, Try.ntmps43
  go_wp2
  go_ret
  exact ⟨rfl, rfl⟩
/-- What stands while parts are laid: the parameter at x, the row's variable at po. -/
structure HpS (w0 : World) (B pc po x : Nat) (zs : List Nat) (xs : List Value) (W : World) : Prop where
  st : ∃ g, LyS B pc po g zs W ∧ (∀ g', g = some g' → w0.heap.size ≤ g') ∧ g ≠ some x
  sx : Stc W x xs
  nx : x ≠ po
  wp : w0.heap.size ≤ po
  bel : Below w0.heap.size w0 W
theorem HpS.lay {w0 : World} {B pc po x : Nat} {zs : List Nat} {xs : List Value} {W : World} (h : HpS w0 B pc po x zs xs W) (v k : Nat) (hv : v < 256 ^ k) (h1 : 1 ≤ k) (h8 : k ≤ 8) (hl : zs.length ≤ 10000) :
    Calls Try.prog 53 #[.int .u64 (v : Nat), .int .i64 (k : Nat), .pointer (some ⟨pc, 0, none⟩)] W fun e w' => (∃ r, e = .returned r) ∧ HpS w0 B pc po x (zs ++ bytesB v k) xs w' := by
  obtain ⟨g, hS, hg, hgx⟩ := h.st
  refine (layc_any B pc po g zs v k W hS hv h1 h8 hl).mono ?_
  rintro e w' ⟨he, ⟨g1, hS1, hg1⟩, hf⟩
  have hz := h.bel.size
  refine ⟨he, ⟨g1, hS1, fun g' e => ?_, fun e => ?_⟩, h.sx.fr hf (fun e => e.elim h.nx hgx), h.nx, h.wp, h.bel.trans (hf.below _ hz (fun b hb => ?_))⟩
  · rcases hg1 g' e with e2 | e2
    · exact hg g' e2
    · omega
  · rcases hg1 x e with e2 | e2
    · exact hgx e2
    · have := h.sx.lt; omega
  · rcases hb with hb | hb
    · rw [hb]; exact h.wp
    · exact hg b hb
theorem HpS.next {w0 : World} {B pc po x : Nat} {zs : List Nat} {xs : List Value} {W W' : World} (h : HpS w0 B pc po x zs xs W) (hb : Below W.heap.size W W') : HpS w0 B pc po x zs xs W' := by
  obtain ⟨g, hS, hg, hgx⟩ := h.st
  exact ⟨⟨g, hS.below hb, hg, hgx⟩, h.sx.below hb, h.nx, h.wp, h.bel.trans (hb.mono h.bel.size)⟩
/-- The beginning: the parameter, the row's variable, what laying's function holds. -/
theorem hp_new (w W W2 W3 : World) (xs : List Value) (T T1 T2 : TypeId) (hW : W = w.alloc (.cells xs.toArray T)) (hW2 : W2 = W.alloc (.cells #[.slice none 0 0] T1)) (hW3 : W3 = W2.alloc (.cells #[.pointer (some ⟨W.heap.size, 0, none⟩)] T2)) : HpS w w.heap.size W2.heap.size W.heap.size w.heap.size [] xs W3 := by
  have z1 : W.heap.size = w.heap.size + 1 := by rw [hW]; simp
  have z2 : W2.heap.size = W.heap.size + 1 := by rw [hW2]; simp
  have z3 : W3.heap.size = W2.heap.size + 1 := by rw [hW3]; simp
  have b1 : Below w.heap.size w W := by rw [hW]; exact (Below.refl _ _).alloc (Nat.le_refl _) _
  have b2 : Below W.heap.size W W2 := by rw [hW2]; exact (Below.refl _ _).alloc (Nat.le_refl _) _
  have b3 : Below W2.heap.size W2 W3 := by rw [hW3]; exact (Below.refl _ _).alloc (Nat.le_refl _) _
  have b23 : Below W.heap.size W W3 := b2.trans (b3.mono b2.size)
  have s2 := (Stc.new W [.slice none 0 0] T1 W2 hW2).below b3
  have s3 := Stc.new W2 [.pointer (some ⟨W.heap.size, 0, none⟩)] T2 W3 hW3
  exact ⟨⟨none, ⟨by omega, by omega, by omega, by omega, by simp, by simp, s3.cell 0 _ rfl, ⟨none, 0, s2.cell 0 _ rfl, OwnB.nil _ _, rfl⟩, s2.free 0⟩, (fun g' e => by cases e), by simp⟩, (Stc.new w xs T W hW).below b23, by omega, by omega, b1.trans (b23.mono b1.size)⟩
set_option maxRecDepth 100000 in
set_option maxHeartbeats 1000000 in
theorem head_any (sr ds pr tt id : Nat) (dn mo : Bool) (o : Nat) (a : Option Addr) (n c : Nat) (w : World) (hsr : sr < 4294967296) (hds : ds < 4294967296) (hpr : pr < 256) (htt : tt < 256) (hid : id < 65536) (ho : o ≤ 65528) (hn : n ≤ 65515) :
    Calls Try.prog 27 #[.agg #[.int .u32 (sr : Nat), .int .u32 (ds : Nat), .int .u8 (pr : Nat), .int .u8 (tt : Nat), .int .u16 (id : Nat), .bool dn, .bool mo, .int .i64 ((o : Nat) : Int), .slice a n c]] w fun e w' => ∃ a' c', e = .returned (.slice a' 20 c') ∧ OwnB w' w.heap.size a' 20 c' (ipHd sr ds pr tt id (flV dn mo o) n) ∧ Below w.heap.size w w' := by
  have hfl := flV_lt dn mo o ho
  have hfg := fun W => flags_any sr ds pr tt id dn mo (o : Int) a n c W o rfl ho
  have HHD : Hid (ipHd sr ds pr tt id (flV dn mo o) n = setV (ipA n id (flV dn mo o) tt pr ++ ([0, 0] ++ ipR sr ds)) ((10 : Nat) : Int) (net (ipA n id (flV dn mo o) tt pr ++ ([0, 0] ++ ipR sr ds))) 2) := by
    show _ = _
    rw [setV_mid _ _ _ (net_le _) 10 (ipA_len _ _ _ _ _).symm]
    rfl
  have HHL := (show Hid _ from ipHd_len sr ds pr tt id (flV dn mo o) n)
  generalize flV dn mo o = fl at *
  obtain ⟨HD, hHD⟩ : ∃ HD, HD = ipHd sr ds pr tt id fl n := ⟨_, rfl⟩
  rw [← hHD] at HHD HHL ⊢
  clear hHD
  obtain ⟨L0, hL0⟩ : ∃ L0 : List Nat, L0 = [] := ⟨_, rfl⟩
  have K0 : Hid (L0.length = 0) := by show _ = _; rw [hL0]; rfl
  obtain ⟨L1, hL1⟩ : ∃ L, L = L0 ++ bytesB 69 1 := ⟨_, rfl⟩
  obtain ⟨L2, hL2⟩ : ∃ L, L = L1 ++ bytesB 0 1 := ⟨_, rfl⟩
  obtain ⟨L3, hL3⟩ : ∃ L, L = L2 ++ bytesB (20 + n) 2 := ⟨_, rfl⟩
  obtain ⟨L4, hL4⟩ : ∃ L, L = L3 ++ bytesB id 2 := ⟨_, rfl⟩
  obtain ⟨L5, hL5⟩ : ∃ L, L = L4 ++ bytesB fl 2 := ⟨_, rfl⟩
  obtain ⟨L6, hL6⟩ : ∃ L, L = L5 ++ bytesB tt 1 := ⟨_, rfl⟩
  obtain ⟨L7, hL7⟩ : ∃ L, L = L6 ++ bytesB pr 1 := ⟨_, rfl⟩
  obtain ⟨L8, hL8⟩ : ∃ L, L = L7 ++ bytesB 0 2 := ⟨_, rfl⟩
  obtain ⟨L9, hL9⟩ : ∃ L, L = L8 ++ bytesB sr 4 := ⟨_, rfl⟩
  obtain ⟨L10, hL10⟩ : ∃ L, L = L9 ++ bytesB ds 4 := ⟨_, rfl⟩
  have k1 : L1.length = 1 := by rw [hL1]; simp [bytesB_len, hL0]
  have k2 : L2.length = 2 := by rw [hL2]; simp [bytesB_len, k1]
  have k3 : L3.length = 4 := by rw [hL3]; simp [bytesB_len, k2]
  have k4 : L4.length = 6 := by rw [hL4]; simp [bytesB_len, k3]
  have k5 : L5.length = 8 := by rw [hL5]; simp [bytesB_len, k4]
  have k6 : L6.length = 9 := by rw [hL6]; simp [bytesB_len, k5]
  have k7 : L7.length = 10 := by rw [hL7]; simp [bytesB_len, k6]
  have k8 : L8.length = 12 := by rw [hL8]; simp [bytesB_len, k7]
  have k9 : L9.length = 16 := by rw [hL9]; simp [bytesB_len, k8]
  have k10 : L10.length = 20 := by rw [hL10]; simp [bytesB_len, k9]
  have HZ : Hid (ipA n id fl tt pr ++ ([0, 0] ++ ipR sr ds) = L10) := by
    show _ = _
    rw [hL10, hL9, hL8, hL7, hL6, hL5, hL4, hL3, hL2, hL1, hL0]
    simp [ipA, ipR, bytesB_two, List.append_assoc]
  rw [HZ.out] at HHD
  have N1 := (show Hid _ from hL1.symm)
  have K1 := (show Hid _ from k1)
  have N2 := (show Hid _ from hL2.symm)
  have K2 := (show Hid _ from k2)
  have N3 := (show Hid _ from hL3.symm)
  have K3 := (show Hid _ from k3)
  have N4 := (show Hid _ from hL4.symm)
  have K4 := (show Hid _ from k4)
  have N5 := (show Hid _ from hL5.symm)
  have K5 := (show Hid _ from k5)
  have N6 := (show Hid _ from hL6.symm)
  have K6 := (show Hid _ from k6)
  have N7 := (show Hid _ from hL7.symm)
  have K7 := (show Hid _ from k7)
  have N8 := (show Hid _ from hL8.symm)
  have K8 := (show Hid _ from k8)
  have N9 := (show Hid _ from hL9.symm)
  have K9 := (show Hid _ from k9)
  have N10 := (show Hid _ from hL10.symm)
  have K10 := (show Hid _ from k10)
  clear hL1 hL2 hL3 hL4 hL5 hL6 hL7 hL8 hL9 hL10 k1 k2 k3 k4 k5 k6 k7 k8 k9 k10
  obtain ⟨W, hW⟩ : ∃ W, W = w.alloc (.cells #[.int .u32 (sr : Nat), .int .u32 (ds : Nat), .int .u8 (pr : Nat), .int .u8 (tt : Nat), .int .u16 (id : Nat), .bool dn, .bool mo, .int .i64 ((o : Nat) : Int), .slice a n c] 26) := ⟨_, rfl⟩
  obtain ⟨W2, hW2⟩ : ∃ W2, W2 = W.alloc (.cells #[.slice none 0 0] 24) := ⟨_, rfl⟩
  obtain ⟨W3, hW3⟩ : ∃ W3, W3 = W2.alloc (.cells #[.pointer (some ⟨W.heap.size, 0, none⟩)] 76) := ⟨_, rfl⟩
  have g0 := hp_new w W W2 W3 [.int .u32 (sr : Nat), .int .u32 (ds : Nat), .int .u8 (pr : Nat), .int .u8 (tt : Nat), .int .u16 (id : Nat), .bool dn, .bool mo, .int .i64 ((o : Nat) : Int), .slice a n c] 26 24 76 hW hW2 hW3
  rw [← hL0] at g0
  have HW3 := (show Hid _ from hW3)
  have HZW : Hid (W.heap.size = w.heap.size + 1) := by show _ = _; rw [hW]; simp
  have hm := hmf
  clear hL0 hW3
  go_enter Try.func27, Try.ntmps27
  go_wp2_with fail
  rw [← hW]
  rw [← hW2, ← HZW.out]
  clear hW hW2
  refine (layi_any W.heap.size W2).mono ?_
  rintro e w' ⟨rfl, hw'⟩
  rw [← HW3.out] at hw'
  subst hw'
  go_wp2_with fail
  refine (g0.lay 69 1 (by decide) (by omega) (by omega) (by rw [K0.out]; omega)).mono ?_
  rintro e w1 ⟨⟨r1, rfl⟩, g1⟩
  rw [N1.out] at g1
  clear g0
  go_wp2_with fail
  refine (g1.lay 0 1 (by decide) (by omega) (by omega) (by rw [K1.out]; omega)).mono ?_
  rintro e w2 ⟨⟨r2, rfl⟩, g2⟩
  rw [N2.out] at g2
  clear g1
  have x8 := g2.sx.cell 8 _ rfl
  go_wp2_with fail
  rw [show (20 : Int) + (n : Int) = ((20 + n : Nat) : Int) from by omega]
  refine (g2.lay (20 + n) 2 (by show 20 + n < 256 ^ 2; omega) (by omega) (by omega) (by rw [K2.out]; omega)).mono ?_
  rintro e w3 ⟨⟨r3, rfl⟩, g3⟩
  rw [N3.out] at g3
  clear g2 x8
  have x4 := g3.sx.cell 4 _ rfl
  go_wp2_with fail
  refine (g3.lay id 2 (by show id < 256 ^ 2; omega) (by omega) (by omega) (by rw [K3.out]; omega)).mono ?_
  rintro e w4 ⟨⟨r4, rfl⟩, g4⟩
  rw [N4.out] at g4
  clear g3 x4
  have x0 := g4.sx.cell 0 _ rfl
  have x1 := g4.sx.cell 1 _ rfl
  have x2 := g4.sx.cell 2 _ rfl
  have x3 := g4.sx.cell 3 _ rfl
  have x4 := g4.sx.cell 4 _ rfl
  have x5 := g4.sx.cell 5 _ rfl
  have x6 := g4.sx.cell 6 _ rfl
  have x7 := g4.sx.cell 7 _ rfl
  have x8 := g4.sx.cell 8 _ rfl
  go_wp2_with fail
  refine (hfg w4).mono ?_
  rintro e wf ⟨rfl, bf⟩
  have g4f := g4.next bf
  clear x0 x1 x2 x3 x4 x5 x6 x7 x8 g4
  go_wp2_with fail
  refine (g4f.lay fl 2 (by show fl < 256 ^ 2; omega) (by omega) (by omega) (by rw [K4.out]; omega)).mono ?_
  rintro e w5 ⟨⟨r5, rfl⟩, g5⟩
  rw [N5.out] at g5
  clear g4f
  have x3 := g5.sx.cell 3 _ rfl
  go_wp2_with fail
  refine (g5.lay tt 1 (by show tt < 256 ^ 1; omega) (by omega) (by omega) (by rw [K5.out]; omega)).mono ?_
  rintro e w6 ⟨⟨r6, rfl⟩, g6⟩
  rw [N6.out] at g6
  clear g5 x3
  have x2 := g6.sx.cell 2 _ rfl
  go_wp2_with fail
  refine (g6.lay pr 1 (by show pr < 256 ^ 1; omega) (by omega) (by omega) (by rw [K6.out]; omega)).mono ?_
  rintro e w7 ⟨⟨r7, rfl⟩, g7⟩
  rw [N7.out] at g7
  clear g6 x2
  go_wp2_with fail
  refine (g7.lay 0 2 (by decide) (by omega) (by omega) (by rw [K7.out]; omega)).mono ?_
  rintro e w8 ⟨⟨r8, rfl⟩, g8⟩
  rw [N8.out] at g8
  clear g7
  have x0 := g8.sx.cell 0 _ rfl
  go_wp2_with fail
  refine (g8.lay sr 4 (by show sr < 256 ^ 4; omega) (by omega) (by omega) (by rw [K8.out]; omega)).mono ?_
  rintro e w9 ⟨⟨r9, rfl⟩, g9⟩
  rw [N9.out] at g9
  clear g8 x0
  have x1 := g9.sx.cell 1 _ rfl
  go_wp2_with fail
  refine (g9.lay ds 4 (by show ds < 256 ^ 4; omega) (by omega) (by omega) (by rw [K9.out]; omega)).mono ?_
  rintro e w10 ⟨⟨r10, rfl⟩, g10⟩
  rw [N10.out] at g10
  clear g9 x1
  obtain ⟨g, hS, hg, hgx⟩ := g10.st
  obtain ⟨ar, cr, hrow, hown, hgr⟩ := hS.row
  rw [K10.out] at hrow hown
  have bb := g10.bel
  have HB := (show Hid _ from bb)
  clear g10 hS hg hgx hgr bb
  go_wp2_with fail
  refine (stamped_any ar 20 cr L10 10 w10 (hown.sl (by omega)) (by omega)).mono ?_
  rintro e w11 ⟨a11, c11, rfl, o11, b11⟩
  rw [← HHD.out, HHL.out] at o11 ⊢
  have b12 := HB.out.trans (b11.mono HB.out.size)
  have o12 := o11.base HB.out.size
  go_wp2
  go_ret
  exact ⟨a11, c11, rfl, o12, b12⟩
end Go.Proofs.Ytnbagloifbllbaa
