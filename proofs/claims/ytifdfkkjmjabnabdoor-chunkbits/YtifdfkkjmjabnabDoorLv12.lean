/- law12.live: what must be whatever is asked. -/
import Derived.Test.YtifdfkkjmjabnabDoorRd6
namespace Go.Proofs.YtifdfkkjmjabnabDoor
open Go.RowKit
def c11 : List Value := [.int .u8 11, .int .u8 0, .int .u32 0, .int .u16 0, .int .u16 0, .int .u32 0, .int .u32 0, .int .u32 0, .int .u16 0, .int .u16 0, .slice none 0 0, .slice none 0 0, .slice none 0 0, .slice none 0 0]
theorem c11_one : ∀ u ∈ c11, u.oneCell' = true := by
  unfold c11
  intro v hv
  simp at hv
  rcases hv with rfl | rfl | rfl | rfl | rfl | rfl | rfl <;> rfl
def lvB : List Nat := hdB 1 2 3 ++ [11, 0, 0, 4]
theorem lvB_eq : lvB = [0, 1, 0, 2, 0, 0, 0, 3, 0, 0, 0, 0, 11, 0, 0, 4] := by decide
theorem lvB_blank : blank lvB = lvB := by rw [lvB_eq]; decide
theorem lv_stamp : ∃ x0 x1 x2 x3, stampV lvB = [0, 1, 0, 2, 0, 0, 0, 3, x0, x1, x2, x3, 11, 0, 0, 4] := by
  unfold stampV
  rw [lvB_blank, if_neg (by rw [lvB_eq]; decide)]
  generalize crc lvB = X
  rw [lvB_eq]
  exact ⟨X % 256, X / 256 % 256, X / 65536 % 256, X / 16777216 % 256, rfl⟩
/-- One chunk that has nothing, in a row of its own. -/
theorem lv_row (w W : World) (hW : W = w.alloc (.cells c11.toArray 35)) : CkR W (some ⟨w.heap.size, 0, none⟩) 1 1 (fun _ => c11) (fun _ => 0) (fun _ => .iface 102 (.agg #[])) (fun _ => 4) := by
  have s := Stc.new w c11 35 W hW
  have hk : (11 : Nat) = 8 ∨ (11 : Nat) = 11 ∨ (11 : Nat) = 14 := .inr (.inl rfl)
  exact ⟨Nat.le_refl _, by decide, fun _ _ => rfl, fun _ _ => c11_one, .inr ⟨w.heap.size, 0, rfl, s.lt, fun j hj => by
    have : j = 0 := by omega
    subst this
    exact s.range⟩, fun _ _ V _ => check_none 11 0 0 0 0 0 0 0 0 0 none 0 0 none 0 0 none 0 0 none 0 0 V hk, fun _ _ _ V _ => valueOf_none 11 0 0 0 0 0 0 0 0 0 none 0 0 none 0 0 none 0 0 none 0 0 V hk, fun _ _ _ V _ => space_none V _ rfl, fun _ _ _ => by decide⟩
theorem lv_put (w : World) : CkB w 1 (fun _ => c11) (fun _ => 0) (fun _ => 4) (fun _ => [11, 0, 0, 4]) :=
  ⟨fun _ _ _ W q zs hw _ _ h4 hb => wchunk_none hw 11 0 0 0 0 0 0 0 0 0 none 0 0 none 0 0 none 0 0 none 0 0 (.inr (.inl rfl)) (by decide) h4 (by omega), fun _ _ _ => rfl, fun _ _ _ => rfl⟩
set_option linter.unusedVariables false in
set_option maxRecDepth 100000 in
set_option maxHeartbeats 8000000 in
theorem live12_any (w : World) (hname : ∀ W, Below w.heap.size w W → Calls Tryd.prog 8 #[.int .u8 3] W fun e w' => e = .returned (.string ⟨#[83, 65, 67, 75]⟩) ∧ Below W.heap.size W w') :
    Calls Tryd.prog 5 #[] w fun e w' => e = .returned (.bool true) ∧ Below w.heap.size w w' := by
  obtain ⟨W1, hW1⟩ : ∃ W1, W1 = w.alloc (.cells c11.toArray 35) := ⟨_, rfl⟩
  have b1 : Below w.heap.size w W1 := by rw [hW1]; exact (Below.refl _ _).alloc (Nat.le_refl _) _
  have HP := (show Hid _ from put_any (lv_row w W1 hW1) (lv_put W1) 1 2 3 (by decide) (by decide) (by decide))
  obtain ⟨x0, x1, x2, x3, hst⟩ := lv_stamp
  have hE : mbE (fun _ => 0) (fun _ => 4) 1 = 0 := by decide
  have hpv : putV 1 2 3 (fun _ => 0) (fun _ => 4) (fun _ => [11, 0, 0, 4]) 1 = stampV lvB := by
    unfold putV
    rw [if_pos hE]
    rfl
  rw [hpv, hE] at HP
  have hsum : stampedB (stampV lvB) = true := stamped_stamp lvB (by rw [lvB_eq]; decide)
  obtain ⟨ys, hys⟩ : ∃ ys, ys = stampV lvB := ⟨_, rfl⟩
  rw [← hys] at HP hst hsum
  have hyl : ys.length = 16 := by rw [hst]; rfl
  have HYS := (show Hid _ from And.intro hst hsum)
  have HB1 := (show Hid _ from b1)
  have HNM := (show Hid _ from hname)
  clear hE hpv hst hsum hys b1 hname
  unfold c11 at hW1
  go_enter Tryd.func5, Tryd.ntmps5
  go_wp2_with fail
  rw [← hW1]
  clear hW1
  refine Calls.mono HP.out ?_
  clear HP
  rintro e w2 hR
  obtain ⟨a, c, rfl, ho⟩ := hR.ex
  rw [hyl] at ho ⊢
  have hb2 : Below w.heap.size w w2 := HB1.out.trans (hR.bel.mono HB1.out.size)
  have hs := ho.sl (by decide)
  obtain ⟨b, off, hab, hbl, hcell⟩ : ∃ b off, a = some ⟨b, off, none⟩ ∧ b < w2.heap.size ∧ ∀ i, i < 16 → w2.cell? ⟨b, off + i, none⟩ = some (.int .u8 (ys.getD i 0 : Nat)) := by
    rcases hs.at_ with e | e
    · omega
    · exact e
  subst hab
  have hy12 : ys.getD 12 0 = 11 := by rw [HYS.out.1]; rfl
  have hy15 : ys.getD 15 0 = 4 := by rw [HYS.out.1]; rfl
  have v12 := hcell 12 (by decide)
  have v15 := hcell 15 (by decide)
  rw [hy12] at v12
  rw [hy15] at v15
  have hcap := hs.cap
  have HT := (show Hid _ from take_ok hs (by decide) (by decide) HYS.out.2 1 (fun _ => ⟨c11, rfl, c11_one⟩) (fun i => if i = 0 then ys.drop 12 else []) rfl rfl (fun i hi => by
    have : i = 0 := by omega
    subst this
    rw [HYS.out.1]
    show [11, 0, 0, 4] ≠ []
    decide) (by decide) (fun i hi W0 q W hW => by
    have : i = 0 := by omega
    subst this
    have e1 : (if (0 : Nat) = 0 then ys.drop 12 else []) = [11, 0, 0, 4] := by rw [HYS.out.1]; rfl
    have e2 : (if (0 : Nat) + 1 = 0 then ys.drop 12 else []) = [] := rfl
    rw [e1] at hW
    rw [e2]
    exact rchunk_none 11 0 hW 0 (by decide) (.inr (.inl rfl)) (by decide)))
  have hn3 : numB ((ys.drop 4).take 4) = 3 := by rw [HYS.out.1]; rfl
  rw [hn3] at HT
  have HB2 := (show Hid _ from hb2)
  clear hs ho hR HB1 hcell hy12 hy15 hb2
  generalize numB (ys.take 2) = n1 at *
  generalize numB ((ys.drop 2).take 2) = n2 at *
  go_wp2_with fail
  refine Calls.mono HT.out ?_
  clear HT
  rintro e w3 hR
  obtain ⟨la, lc, rfl, ho⟩ := hR.ex
  have hb3 : Below w.heap.size w w3 := HB2.out.trans (hR.bel.mono HB2.out.size)
  have u12 := (hR.bel.cell (p := ⟨b, off + 12, none⟩) hbl).trans v12
  have u15 := (hR.bel.cell (p := ⟨b, off + 15, none⟩) hbl).trans v15
  have hbl3 : b < w3.heap.size := Nat.lt_of_lt_of_le hbl hR.bel.size
  obtain ⟨lg, hla, _, hlg, hlc, _, hcl, _⟩ := OwnG.at_ ho (fun x => x.2.1) (by decide)
  subst hla
  have l0 := hcl 0 _ rfl 0 _ rfl
  simp only [Nat.zero_mul, Nat.add_zero] at l0
  obtain ⟨W4, hW4⟩ : ∃ W4, W4 = w3.alloc (.cells #[.int .u16 (n1 : Nat), .int .u16 (n2 : Nat), .int .u32 3] 28) := ⟨_, rfl⟩
  have b4 : Below w3.heap.size w3 W4 := by rw [hW4]; exact (Below.refl _ _).alloc (Nat.le_refl _) _
  obtain ⟨W5, hW5⟩ : ∃ W5, W5 = W4.alloc (.cells #[.int .u8 1] 5) := ⟨_, rfl⟩
  have b5 : Below W4.heap.size W4 W5 := by rw [hW5]; exact (Below.refl _ _).alloc (Nat.le_refl _) _
  have HB5 : Hid (Below w.heap.size w W5) := (hb3.trans (b4.mono hb3.size)).trans (b5.mono (Nat.le_trans hb3.size b4.size))
  have HSZ : Hid (Calls Tryd.prog 14 #[.agg #[.int .u8 0, .int .u8 0, .int .u32 0, .int .u16 0, .int .u16 0, .int .u32 0, .int .u32 0, .int .u32 0, .int .u16 0, .int .u16 0, .slice none 0 0, .slice none 0 0, .slice none 0 0, .slice (some ⟨W4.heap.size, 0, none⟩) 1 1]] W5 fun e w' => e = .returned (.int .i64 20) ∧ Below W5.heap.size W5 w') := sizeC_data 0 0 0 0 0 0 0 0 0 0 none 0 0 none 0 0 none 0 0 (some ⟨W4.heap.size, 0, none⟩) 1 1 W5 rfl (by decide)
  have z4 : W4.heap.size = w3.heap.size + 1 := by rw [hW4]; simp
  rw [z4] at HSZ
  clear hR ho hcl HB2 hb3 v12 v15 b4 b5 z4
  go_wp2_with fail
  rw [← hW4, ← hW5]
  clear hW4 hW5
  refine Calls.mono HSZ.out ?_
  clear HSZ
  rintro e w6 ⟨rfl, b6⟩
  have HB6 : Hid (Below w.heap.size w w6) := HB5.out.trans (b6.mono HB5.out.size)
  clear b6 HB5 u12 u15 l0
  go_wp2_with fail
  refine Calls.mono (HNM.out w6 HB6.out) ?_
  rintro e w7 ⟨rfl, b7⟩
  have HB7 : Hid (Below w.heap.size w w7) := HB6.out.trans (b7.mono HB6.out.size)
  clear b7 HB6 HNM
  go_wp2
  go_ret
  exact ⟨rfl, HB7.out⟩
end Go.Proofs.YtifdfkkjmjabnabDoor
