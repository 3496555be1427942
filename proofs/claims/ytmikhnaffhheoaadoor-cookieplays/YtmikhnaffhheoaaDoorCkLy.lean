/- What cookie.lay answers. -/
import Derived.Test.YtmikhnaffhheoaaDoorOwnN
import Derived.Test.YtmikhnaffhheoaaDoorBytes
import Derived.Outline
import Derived.Deep.DeepMust
namespace Go.Proofs.YtmikhnaffhheoaaDoor
open Go.RowKit
def lyB (ps : List (Nat × Nat)) : List Nat := ps.flatMap fun p => bytesB p.1 p.2
theorem lyB_snoc (ps : List (Nat × Nat)) (j : Nat) (h : j < ps.length) : lyB (ps.take (j + 1)) = lyB (ps.take j) ++ bytesB (ps.getD j (0, 0)).1 (ps.getD j (0, 0)).2 := by
  unfold lyB
  rw [List.take_succ_eq_append_getElem h, List.flatMap_append]
  simp [List.getD_eq_getElem?_getD, List.getElem?_eq_getElem h]
theorem lyB_len (ps : List (Nat × Nat)) (h : ∀ p ∈ ps, p.2 ≤ 8) : (lyB ps).length ≤ 8 * ps.length := by
  induction ps with
  | nil => simp [lyB]
  | cons p ps ih =>
    have h1 := ih (fun q hq => h q (List.mem_cons_of_mem _ hq))
    have h2 := h p List.mem_cons_self
    unfold lyB at h1 ⊢
    rw [List.flatMap_cons, List.length_append, bytesB_len, List.length_cons]
    omega
theorem bytesE_inC (v k : Nat) (hv : v < 256 ^ k) (h1 : 1 ≤ k) (h8 : k ≤ 8) : bytesE v (k : Int) = 0 := by
  unfold bytesE
  rw [if_neg (by omega), Int.toNat_natCast, if_pos (Nat.div_eq_of_lt hv)]
theorem bytesV_inC (v k : Nat) (hv : v < 256 ^ k) (h1 : 1 ≤ k) (h8 : k ≤ 8) : bytesV v (k : Int) = bytesB v k := by
  unfold bytesV
  rw [bytesE_inC v k hv h1 h8, if_pos rfl, Int.toNat_natCast]
set_option maxRecDepth 100000 in
set_option maxHeartbeats 2000000 in
theorem layC_any (B : Nat) (a : Option Addr) (n c : Nat) (ps : List (Nat × Nat)) (w : World) (h : OwnN w B a n c ps) (hb : ∀ p ∈ ps, p.1 < 256 ^ p.2 ∧ 1 ≤ p.2) (hn : n ≤ 1000) :
    Calls Tryd.prog 21 #[.slice a n c] w fun e w' => ∃ a' c', e = .returned (.slice a' (lyB ps).length c') ∧ OwnB w' w.heap.size a' (lyB ps).length c' (lyB ps) ∧ Below w.heap.size w w' := by
  have hl := h.len
  have HL : Hid (ps.length = n) := hl
  have HB := (show Hid _ from hb)
  have HP8 : Hid (∀ p ∈ ps, p.2 ≤ 8) := fun p hp => (h.bnd p hp).2
  have HP64 : Hid (∀ p ∈ ps, p.1 < 18446744073709551616) := fun p hp => (h.bnd p hp).1
  clear hl hb
  go_enter Tryd.func21, Tryd.ntmps21
  go_wp2
  go_loopw [3, 10] (fun vo i wr => ∃ (j m : Nat) (ao : Option Addr) (co : Nat), j ≤ n ∧ i = .int .i64 j ∧ vo = .slice ao m co ∧ OwnB wr w.heap.size ao m co (lyB (ps.take j)) ∧ Hid (m = (lyB (ps.take j)).length) ∧ m ≤ 8 * j ∧ Below w.heap.size w wr) (fun _ i _ => n - (intOf i).toNat)
  case atStart => exact ⟨0, 0, none, 0, by omega, rfl, rfl, OwnB.nil _ _, rfl, by omega, Below.refl _ _⟩
  case round =>
    obtain ⟨j, m, ao, co, hj, rfl, rfl, ho, HM, hm8, hbel⟩ := hrel
    by_cases hlt : j < n
    · obtain ⟨g, rfl, hBg, hgw, hnc, hcm, hcells, _⟩ := h.at_ (by omega)
      obtain ⟨c0, c1⟩ := hcells j hlt
      have c0' := (hbel.cell (p := ⟨g, j * 2, none⟩) hgw).trans c0
      have c1' := (hbel.cell (p := ⟨g, j * 2 + 1, none⟩) hgw).trans c1
      have hmem : ps.getD j (0, 0) ∈ ps := by
        rw [List.getD_eq_getElem?_getD, List.getElem?_eq_getElem (by rw [HL.out]; exact hlt)]
        exact List.getElem_mem _
      have HSN := (show Hid _ from lyB_snoc ps j (by rw [HL.out]; exact hlt))
      have p1 := HB.out _ hmem
      have p2 := HP8.out _ hmem
      have p3 := HP64.out _ hmem
      obtain ⟨v, hv⟩ : ∃ v, v = (ps.getD j (0, 0)).1 := ⟨_, rfl⟩
      obtain ⟨k, hk⟩ : ∃ v, v = (ps.getD j (0, 0)).2 := ⟨_, rfl⟩
      rw [← hv] at c0' p1 p3 HSN
      rw [← hk] at c1' p1 p2 HSN
      have hji : (j : Int) < (n : Int) := by omega
      have hglt : g < wr.heap.size := Nat.lt_of_lt_of_le hgw hbel.size
      obtain ⟨W, hW⟩ : ∃ W, W = wr.alloc (.cells #[.int .u64 (v : Nat), .int .i64 (k : Nat)] 63) := ⟨_, rfl⟩
      have hby := bytes_any v (k : Int) W p3
      rw [bytesE_inC v k p1.1 p1.2 p2, bytesV_inC v k p1.1 p1.2 p2, bytesB_len] at hby
      have bW : Below wr.heap.size wr W := by rw [hW]; exact (Below.refl _ _).alloc (Nat.le_refl _) _
      have hoW := ho.below bW
      have hbW : Below w.heap.size w W := hbel.trans (bW.mono hbel.size)
      obtain ⟨D, hD⟩ : ∃ D, D = bytesB v k := ⟨_, rfl⟩
      rw [← hD] at HSN hby
      have hDl : D.length = k := by rw [hD]; exact bytesB_len v k
      have HD := (show Hid _ from hDl)
      clear hv hk hD hDl hcells c0 c1 hmem hBg hcm p1 p3 ho bW
      obtain ⟨A, hA⟩ : ∃ A, A = lyB (ps.take j) := ⟨_, rfl⟩
      rw [← hA] at hoW HM HSN
      clear hA
      go_wp2_with fail
      rw [← hW]
      clear hW
      refine hby.mono ?_
      rintro e w2 ⟨ad, cd, rfl, od, b2⟩
      have ho2 := hoW.below b2
      have hb2 : Below w.heap.size w w2 := hbW.trans (b2.mono hbW.size)
      have hsd := od.sl (by omega)
      have hz2 := hb2.size
      clear od b2 hoW hbW hby c0' c1' hglt
      go_wp2_with (at_builtin; go_must (refine app_list rfl _ _ rfl w.heap.size ao m co A rfl ho2 _ k cd D rfl hsd (by omega) hz2 ?_))
      intro a3 c3 w3 o3 g3
      have hb3 : Below w.heap.size w w3 := hb2.trans (ho2.up g3 hz2)
      have HM3 : Hid (m + k = (A ++ D).length) := by show _ = _; rw [List.length_append, ← HM.out, HD.out]
      rw [← HSN.out] at o3 HM3
      clear g3 ho2 hb2 hsd hz2
      go_wp2
      go_roundw
      case rel => exact ⟨j + 1, m + k, a3, c3, by omega, by go_num, rfl, o3, HM3, by omega, hb3⟩
      case measure => simp [intOf]; omega
    · obtain rfl : j = n := by omega
      have HT : Hid (ps.take j = ps) := by show _ = _; rw [← HL.out]; exact List.take_length
      rw [HT.out] at ho HM
      go_wp2
      go_ret
      rw [← HM.out]
      exact ⟨ao, co, rfl, ho, hbel⟩
end Go.Proofs.YtmikhnaffhheoaaDoor
