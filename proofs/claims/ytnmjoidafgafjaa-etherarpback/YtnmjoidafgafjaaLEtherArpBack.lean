/- Whatever question, and bytes behind it: the walk of law08.EtherArpBack ends with true. -/
import Derived.Test.YtnmjoidafgafjaaEtPArp
import Derived.Test.YtnmjoidafgafjaaBnM
import Derived.Test.YtnmjoidafgafjaaEtLive
namespace Go.Proofs.Ytnmjoidafgafjaa
open Go.RowKit
theorem arp_back (op fm fi tm ti : Nat) (ys : List Nat) (hop : op = 1 ∨ op = 2) (hfm : fm < 281474976710656) (hfi : fi < 4294967296) (htm : tm < 281474976710656) (hti : ti < 4294967296) :
    taE (arpB op fm fi tm ti ++ ys) = 0 ∧ taN (arpB op fm fi tm ti ++ ys) 6 2 = op ∧ taN (arpB op fm fi tm ti ++ ys) 8 6 = fm ∧ taN (arpB op fm fi tm ti ++ ys) 14 4 = fi ∧ taN (arpB op fm fi tm ti ++ ys) 18 6 = tm ∧ taN (arpB op fm fi tm ti ++ ys) 24 4 = ti := by
  have e0 : numV (arpB op fm fi tm ti ++ ys) ((0 : Nat) : Int) ((6 : Nat) : Int) = 4429186564 := by
    have := numV_at [] 4429186564 6 (bytesB op 2 ++ (bytesB fm 6 ++ (bytesB fi 4 ++ (bytesB tm 6 ++ (bytesB ti 4 ++ ys))))) (by omega) (by omega) (by decide) 0 rfl
    simpa [arpB, arpH, List.append_assoc] using this
  have e6 : numV (arpB op fm fi tm ti ++ ys) ((6 : Nat) : Int) ((2 : Nat) : Int) = op := by
    have := numV_at (bytesB 4429186564 6) op 2 (bytesB fm 6 ++ (bytesB fi 4 ++ (bytesB tm 6 ++ (bytesB ti 4 ++ ys)))) (by omega) (by omega) (by show op < 65536; omega) 6 (by rw [bytesB_len])
    simpa [arpB, arpH, List.append_assoc] using this
  have e8 : numV (arpB op fm fi tm ti ++ ys) ((8 : Nat) : Int) ((6 : Nat) : Int) = fm := by
    have := numV_at (bytesB 4429186564 6 ++ bytesB op 2) fm 6 (bytesB fi 4 ++ (bytesB tm 6 ++ (bytesB ti 4 ++ ys))) (by omega) (by omega) (by show fm < 281474976710656; omega) 8 (by simp [bytesB_len])
    simpa [arpB, arpH, List.append_assoc] using this
  have e14 : numV (arpB op fm fi tm ti ++ ys) ((14 : Nat) : Int) ((4 : Nat) : Int) = fi := by
    have := numV_at (bytesB 4429186564 6 ++ bytesB op 2 ++ bytesB fm 6) fi 4 (bytesB tm 6 ++ (bytesB ti 4 ++ ys)) (by omega) (by omega) (by show fi < 4294967296; omega) 14 (by simp [bytesB_len])
    simpa [arpB, arpH, List.append_assoc] using this
  have e18 : numV (arpB op fm fi tm ti ++ ys) ((18 : Nat) : Int) ((6 : Nat) : Int) = tm := by
    have := numV_at (bytesB 4429186564 6 ++ bytesB op 2 ++ bytesB fm 6 ++ bytesB fi 4) tm 6 (bytesB ti 4 ++ ys) (by omega) (by omega) (by show tm < 281474976710656; omega) 18 (by simp [bytesB_len])
    simpa [arpB, arpH, List.append_assoc] using this
  have e24 : numV (arpB op fm fi tm ti ++ ys) ((24 : Nat) : Int) ((4 : Nat) : Int) = ti := by
    have := numV_at (bytesB 4429186564 6 ++ bytesB op 2 ++ bytesB fm 6 ++ bytesB fi 4 ++ bytesB tm 6) ti 4 ys (by omega) (by omega) (by show ti < 4294967296; omega) 24 (by simp [bytesB_len])
    simpa [arpB, arpH, List.append_assoc] using this
  have hE : taE (arpB op fm fi tm ti ++ ys) = 0 := by
    unfold taE
    rw [if_neg (by rw [List.length_append, arpB_len]; omega), show numV (arpB op fm fi tm ti ++ ys) 0 6 = 4429186564 from e0, if_neg (by simp), show numV (arpB op fm fi tm ti ++ ys) 6 2 = op from e6, if_pos hop]
  refine ⟨hE, ?_, ?_, ?_, ?_, ?_⟩ <;> unfold taN <;> rw [if_pos hE]
  · exact e6
  · exact e8
  · exact e14
  · exact e18
  · exact e24
set_option maxRecDepth 100000 in
set_option maxHeartbeats 4000000 in
theorem walk_EtherArpBack (op : Int) (fm fi tm ti : Nat) (a : Option Addr) (n c : Nat) (ys : List Nat) (w : World) (_hop : (Lit.int .i64 op).wf = true) (hfm : fm < 18446744073709551616) (hfi : fi < 4294967296) (htm : tm < 18446744073709551616) (hti : ti < 4294967296) (h1 : Sl w a n c ys ∧ c * 1 ≤ 140737488351232) :
    Calls Try.prog 6 #[.agg #[.int .i64 op, .int .u64 (fm : Nat), .int .u32 (fi : Nat), .int .u64 (tm : Nat), .int .u32 (ti : Nat)], .slice a n c] w fun e w' => e = .returned (.bool true) ∧ Below w.heap.size w w' := by
  obtain ⟨h1, hcb⟩ := h1
  have hcap := h1.cap
  have hn : n ≤ 140737488351232 := by omega
  clear hcap hcb
  obtain ⟨W, hW⟩ : ∃ W, W = w.alloc (.cells #[.int .i64 op, .int .u64 (fm : Nat), .int .u32 (fi : Nat), .int .u64 (tm : Nat), .int .u32 (ti : Nat)] 38) := ⟨_, rfl⟩
  have hX := Stc.new w [.int .i64 op, .int .u64 (fm : Nat), .int .u32 (fi : Nat), .int .u64 (tm : Nat), .int .u32 (ti : Nat)] 38 W hW
  have hbW : Below w.heap.size w W := by rw [hW]; exact (Below.refl _ _).alloc (Nat.le_refl _) _
  have hyW := h1.below hbW
  have x0 := hX.cell 0 _ rfl
  have x1 := hX.cell 1 _ rfl
  have x2 := hX.cell 2 _ rfl
  have x3 := hX.cell 3 _ rfl
  have x4 := hX.cell 4 _ rfl
  by_cases hE : paE op fm tm = 0
  · have hx : (op = 1 ∨ op = 2) ∧ fm < 281474976710656 ∧ tm < 281474976710656 := by
      unfold paE at hE
      split at hE
      · assumption
      · cases hE
    obtain ⟨q1, q2, q3⟩ := hx
    obtain ⟨on, hon⟩ : ∃ on : Nat, op = (on : Int) := ⟨op.toNat, by omega⟩
    subst hon
    have q1' : on = 1 ∨ on = 2 := by omega
    have HV : Hid (paV (on : Int) fm fi tm ti = arpB on fm fi tm ti) := by show _ = _; unfold paV; rw [if_pos hE, Int.toNat_natCast]
    have HE := (show Hid _ from hE)
    have HBK := (show Hid _ from arp_back on fm fi tm ti ys q1' q2 hfi q3 hti)
    have HLN := (show Hid _ from arpB_len on fm fi tm ti)
    obtain ⟨L, hL⟩ : ∃ L, L = arpB on fm fi tm ti := ⟨_, rfl⟩
    rw [← hL] at HV HBK HLN
    clear hL hE q1
    go_enter Try.func6, Try.ntmps6
    go_wp2_with fail
    rw [← hW]
    clear hW
    refine (putArp_any (on : Int) fm fi tm ti W hfm hfi htm hti).mono ?_
    rintro e w1 ⟨⟨a1, c1, rfl, o1⟩, b1⟩
    rw [HE.out, HV.out, HLN.out]
    rw [HV.out, HLN.out] at o1
    have hX1 := hX.below b1
    have hy1 := hyW.below b1
    have bb1 : Below w.heap.size w w1 := hbW.trans (b1.mono hbW.size)
    have hz1 := bb1.size
    have hq1 : w.heap.size < w1.heap.size := hX1.lt
    clear x0 x1 x2 x3 x4 hX hyW b1 hbW
    have ho : OwnB (w1.alloc (.cells #[] 5)) w1.heap.size (some ⟨w1.heap.size, 0, none⟩) 0 0 [] := own_empty w1
    have b12 : Below w1.heap.size w1 (w1.alloc (.cells #[] 5)) := (Below.refl _ _).alloc (Nat.le_refl _) _
    have r1 := (o1.sl (by omega)).below b12
    go_wp2_with (at_builtin; go_must (refine app_list rfl _ _ rfl w1.heap.size _ 0 0 [] rfl ho _ 28 c1 L rfl r1 (by omega) (by simp) ?_))
    intro a2 c2 w2 ho2 hg2
    have hb2 : Below w1.heap.size w1 w2 := b12.trans (ho.up hg2 (by simp))
    have hz2 := hb2.size
    have hy2 := hy1.below hb2
    have hX2 := hX1.below hb2
    clear ho hg2 b12 r1 hy1 hX1 o1
    go_wp2_with (at_builtin; go_must (refine app_list rfl _ _ rfl w1.heap.size _ 28 c2 L rfl ho2 _ n c ys rfl hy2 (by omega) (by omega) ?_))
    intro a3 c3 w3 ho3 hg3
    have hb3 : Below w1.heap.size w1 w3 := hb2.trans (ho2.up hg3 (by omega))
    have hX3 := hX2.fr (Fr.grown hg3 (P := fun b => w1.heap.size ≤ b) (fun k hk => (ho2.own.lt k hk).1)) (fun h => absurd (show w1.heap.size ≤ w.heap.size from h) (by omega))
    have bb3 : Below w.heap.size w w3 := bb1.trans (hb3.mono bb1.size)
    clear ho2 hg3 hy2 hX2 hb2
    go_wp2_with fail
    refine (takeArp_any a3 (28 + n) c3 (L ++ ys) w3 (ho3.sl (by omega))).mono ?_
    rintro e w4 ⟨rfl, b4⟩
    obtain ⟨k0, k1, k2, k3, k4, k5⟩ := HBK.out
    rw [k0, k1, k2, k3, k4, k5]
    have hX4 := hX3.below b4
    have bb4 : Below w.heap.size w w4 := bb3.trans (b4.mono bb3.size)
    obtain ⟨w5, hw5⟩ : ∃ w5, w5 = w4.alloc (.cells #[.int .i64 (on : Nat), .int .u64 (fm : Nat), .int .u32 (fi : Nat), .int .u64 (tm : Nat), .int .u32 (ti : Nat)] 38) := ⟨_, rfl⟩
    have b45 : Below w4.heap.size w4 w5 := by rw [hw5]; exact (Below.refl _ _).alloc (Nat.le_refl _) _
    have hY5 := Stc.new w4 [.int .i64 (on : Nat), .int .u64 (fm : Nat), .int .u32 (fi : Nat), .int .u64 (tm : Nat), .int .u32 (ti : Nat)] 38 w5 hw5
    have hX5 := hX4.below b45
    have bb5 : Below w.heap.size w w5 := bb4.trans (b45.mono bb4.size)
    clear k0 k1 k2 k3 k4 k5 hX3 hX4 ho3 hb3 bb3 bb4 b4 b45 bb1
    go_wp2_with fail
    rw [← hw5]
    clear hw5
    refine (live8_any w5).mono ?_
    rintro e w6 ⟨rfl, b6⟩
    have hX6 := hX5.below b6
    have hY6 := hY5.below b6
    have bb6 : Below w.heap.size w w6 := bb5.trans (b6.mono bb5.size)
    have x0 := hX6.cell 0 _ rfl
    have x1 := hX6.cell 1 _ rfl
    have x2 := hX6.cell 2 _ rfl
    have x3 := hX6.cell 3 _ rfl
    have x4 := hX6.cell 4 _ rfl
    have y0 := hY6.cell 0 _ rfl
    have y1 := hY6.cell 1 _ rfl
    have y2 := hY6.cell 2 _ rfl
    have y3 := hY6.cell 3 _ rfl
    have y4 := hY6.cell 4 _ rfl
    clear hX5 hY5 hX6 hY6 bb5 b6
    go_wp2
    go_ret
    exact ⟨rfl, bb6⟩
  · have HE2 : Hid (paE op fm tm = 2) := by
      show _ = _
      unfold paE at hE ⊢
      split at hE
      · exact absurd rfl hE
      · rename_i h; rw [if_neg h]
    have HV : Hid (paV op fm fi tm ti = []) := by show _ = _; unfold paV; rw [if_neg hE]
    go_enter Try.func6, Try.ntmps6
    go_wp2_with fail
    rw [← hW]
    clear hW
    refine (putArp_any op fm fi tm ti W hfm hfi htm hti).mono ?_
    rintro e w1 ⟨⟨a1, c1, rfl, o1⟩, b1⟩
    rw [HE2.out, HV.out]
    have bb1 : Below w.heap.size w w1 := hbW.trans (b1.mono hbW.size)
    go_wp2_with fail
    refine (live8_any w1).mono ?_
    rintro e w2 ⟨rfl, b2⟩
    go_wp2
    go_ret
    exact ⟨rfl, bb1.trans (b2.mono bb1.size)⟩
end Go.Proofs.Ytnmjoidafgafjaa
