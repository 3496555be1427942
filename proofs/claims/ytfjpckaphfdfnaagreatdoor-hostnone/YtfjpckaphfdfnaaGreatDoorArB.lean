/- arp: what Table answers. -/
import Derived.Test.YtfjpckaphfdfnaaGreatDoorArT
namespace Go.Proofs.YtfjpckaphfdfnaaGreatDoor
open Go.RowKit Go.MapKept Go.Maps
/-- A row of Table: address, card, known, how many wait. -/
def rowN (y : Nat × Nbr) : List Value := [.int .u32 (y.1 : Nat), .int .u64 (y.2.mac : Nat), .bool y.2.kn, .int .i64 (y.2.ws.length : Nat)]
abbrev OwnN := OwnG 125 4 rowN
theorem layN : Lays Tryz.prog 46 125 4 32 rowN :=
  ⟨Tryz.underlying46, ⟨.agg #[.int .u32 0, .int .u64 0, .bool false, .int .i64 0], by kernel_rfl, rfl⟩, by decide, fun _ => rfl, fun x u hu => by
    simp [rowN] at hu
    rcases hu with rfl | rfl | rfl | rfl <;> rfl⟩
structure TabP (w : World) (D : List (Nat × Nbr)) (e : Ending) (w' : World) : Prop where
  out : ∃ a c, e = .returned (.slice a D.length c) ∧ OwnN w' w.heap.size a D.length c D
  bel : Below w.heap.size w w'
set_option maxRecDepth 100000 in
set_option maxHeartbeats 2000000 in
theorem table_any {w : World} {kd : Nat → RoleA} {p mac ip : Nat} {now lost : Int} {D : List (Nat × Nbr)} (h : CaW w kd p mac ip now lost D) :
    Calls Tryz.prog 39 #[.pointer (some ⟨p, 0, none⟩)] w (TabP w D) := by
  have HAD := (show Hid _ from addr_D h)
  obtain ⟨nv, hst, hlook⟩ := h.looks
  have HH := (show Hid _ from And.intro h (And.intro hst hlook))
  have hl8 := h.len
  have hpl := h.lt
  clear h hst hlook
  go_enter Tryz.func39, Tryz.ntmps39
  go_wp2_with fail
  refine Calls.mono HAD.out ?_
  rintro e w1 ⟨⟨a, c, rfl, ho⟩, hb⟩
  clear HAD
  rw [List.length_map] at ho ⊢
  obtain ⟨n, hn⟩ : ∃ n, n = D.length := ⟨_, rfl⟩
  rw [← hn] at ho hl8 ⊢
  have HN := (show Hid _ from hn)
  have HO := (show Hid _ from And.intro ho hb)
  have hcap := ho.cap
  clear hn ho hb
  go_wp2
  go_loopw [3, 12] (fun u3 u12 wr => ∃ (i : Nat) (a1 : Option Addr) (c1 : Nat), i ≤ n ∧ u12 = .int .i64 (i : Nat) ∧ u3 = .slice a1 i c1 ∧ Below w1.heap.size w1 wr ∧ OwnN wr w1.heap.size a1 i c1 (D.take i)) (fun _ u12 _ => n - (intOf u12).toNat)
  case atStart => exact ⟨0, none, 0, by omega, rfl, rfl, Below.refl _ _, OwnG.nil _ _⟩
  case round =>
    obtain ⟨i, a1, c1, hi, rfl, rfl, hbw, how⟩ := hrel
    by_cases hlt : i < n
    · have hlt1 : (i : Int) < (n : Int) := by omega
      obtain ⟨ho, hb⟩ := HO.out
      obtain ⟨h, hst, hlook⟩ := HH.out
      obtain ⟨g, rfl, hg1, hg2, hnc, _⟩ := OwnG.at_ ho (fun _ => rfl) (by omega)
      obtain ⟨y, hy⟩ : ∃ y, D[i]? = some y := ⟨_, List.getElem?_eq_getElem (by have := HN.out; omega)⟩
      have hym : y ∈ D := List.mem_of_getElem? hy
      have ck := (hbw.cell (p := ⟨g, i, none⟩) hg2).trans (OwnA.cell ho i (by omega))
      have hyk : (D.map (·.1)).getD i 0 = y.1 := by rw [List.getD_eq_getElem?_getD, List.getElem?_map, hy]; rfl
      rw [hyk] at ck
      have hwr : Below w.heap.size w wr := hb.trans (hbw.mono hb.size)
      have hrun := hlook wr hwr y.1 (h.keys y hym) false
      simp only [Bool.false_eq_true, if_false] at hrun
      have hnb : nbAt D y.1 = y.2 := by unfold nbAt; rw [h.srt.look (q := y.1) (x := y.2) hym]; rfl
      rw [hnb] at hrun
      have hwl := ((h.each y hym).1 trivial).row.len
      have HTK : Hid (D.take (i + 1) = D.take i ++ [y]) := by
        show _ = _
        rw [List.take_add_one, hy]
        rfl
      have c3 := (hst.below hwr).cell 3 _ rfl
      obtain ⟨q, ⟨kn, nm, at_, ak, wa, wn, wc, ws⟩⟩ := y
      unfold Nbr.v at hrun
      dsimp only at *
      obtain ⟨W, hW⟩ : ∃ W, W = wr.alloc (.cells #[.bool kn, .int .u64 (nm : Nat), .int .i64 at_, .int .i64 ak, .slice wa wn wc] 166) := ⟨_, rfl⟩
      have b0 : Below wr.heap.size wr W := by rw [hW]; exact (Below.refl _ _).alloc (Nat.le_refl _) _
      obtain ⟨W2, hW2⟩ : ∃ W2, W2 = W.alloc (.cells #[.int .u32 (q : Nat), .int .u64 (nm : Nat), .bool kn, .int .i64 (wn : Nat)] 125) := ⟨_, rfl⟩
      have b2 : Below W.heap.size W W2 := by rw [hW2]; exact (Below.refl _ _).alloc (Nat.le_refl _) _
      have st2 := Stc.new W [.int .u32 (q : Nat), .int .u64 (nm : Nat), .bool kn, .int .i64 (wn : Nat)] 125 W2 hW2
      have hsz : W.heap.size = wr.heap.size + 1 := by rw [hW]; simp
      rw [hsz] at st2
      obtain ⟨g7, c7, w7, hr7, ho7, hgr7, _, _⟩ := OwnG.app layN ((OwnG.below how b0).below b2) 46 (q, ⟨kn, nm, at_, ak, wa, wn, wc, ws⟩) ⟨wr.heap.size + 1, 0, none⟩ (fun j u hj => by
        have hj2 : ([.int .u32 (q : Nat), .int .u64 (nm : Nat), .bool kn, .int .i64 (wn : Nat)] : List Value)[j]? = some u := by rw [← hwl]; exact hj
        have := st2.cell j u hj2
        unfold Addr.add
        split
        · rename_i e; subst e; exact this
        · simpa using this) (by unfold maxLen; omega) (by omega) (Nat.le_trans hbw.size (Nat.le_trans b0.size b2.size))
      have hb7 : Below w1.heap.size w1 w7 := (hbw.trans ((b0.trans (b2.mono b0.size)).mono hbw.size)).trans (((OwnG.below how b0).below b2).up hgr7 (Nat.le_trans hbw.size (Nat.le_trans b0.size b2.size)))
      have HZ := (show Hid _ from And.intro ho7 hb7)
      rw [hW2, hW] at hr7
      clear hb7 ho7 hgr7 st2 b2 b0 hW2 hW how hbw hyk hwr hnb hwl ho hb h hst hlook hy hym hsz
      go_wp2_with (at_builtin; refine app_eq_list rfl _ _ rfl rfl rfl rfl hr7 ?_)
      go_roundw
      case rel => exact ⟨i + 1, _, c7, by omega, by go_num, rfl, HZ.out.2, by rw [HTK.out]; exact HZ.out.1⟩
      case measure => simp [intOf]; omega
    · obtain rfl : i = n := by omega
      have HZ := (show Hid _ from And.intro how hbw)
      clear how hbw
      go_wp2
      go_ret
      obtain ⟨ho, hb⟩ := HO.out
      have ht : D.take i = D := List.take_of_length_le (by have := HN.out; omega)
      have h1 := HZ.out.1
      rw [ht] at h1
      refine ⟨⟨a1, c1, by rw [← HN.out]; rfl, by rw [← HN.out]; exact h1.base hb.size⟩, hb.trans (HZ.out.2.mono hb.size)⟩
end Go.Proofs.YtfjpckaphfdfnaaGreatDoor
