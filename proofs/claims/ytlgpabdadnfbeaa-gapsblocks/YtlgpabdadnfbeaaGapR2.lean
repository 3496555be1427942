/- The reference's tracker: Top, Has, Dups, Fork, New. -/
import Derived.Test.YtlgpabdadnfbeaaGapR1
import Derived.Deep.QuietTactic
import Derived.BigQuiet
namespace Go.Proofs.Ytlgpabdadnfbeaa
open Go.RowKit
def anyV (F : List Nat) (m : Int) : Bool := F.any (fun z => decide ((z : Int) = m))
theorem anyV_take (F : List Nat) (m : Int) (i : Nat) (hi : i < F.length) : anyV (F.take (i + 1)) m = (anyV (F.take i) m || decide ((F.getD i 0 : Int) = m)) := by
  unfold anyV
  rw [List.take_add_one, List.any_append, List.getElem?_eq_getElem hi, List.getD_eq_getElem?_getD, List.getElem?_eq_getElem hi]
  simp
set_option maxHeartbeats 1000000 in
theorem rhas_any (B p : Nat) (fb db : Option Nat) (cum : Nat) (F ds : List Nat) (t : Nat) (w : World) (h : RTk w B p fb db cum F ds) (ht : t < 4294967296) :
    Calls Try.prog 41 #[.pointer (some ⟨p, 0, none⟩), .int .u32 t] w fun e w' => e = .returned (.bool (decide (aheadV 4294967296 cum t ≤ 0) || anyV F (aheadV 4294967296 cum t))) ∧ Below w.heap.size w w' := by
  have ha := rahead32 cum t h.cumlt ht
  have hc0 := h.c0
  generalize aheadV 4294967296 cum t = m at *
  go_enter Try.func41, Try.ntmps41
  go_wp2_with fail
  refine (ha _).mono ?_
  rintro e w1 ⟨er, rfl, hb1⟩
  have h1 := h.below hb1
  obtain ⟨a, n, c, hf1, hs, _⟩ := h1.far
  have hl := hs.len
  have hsm := hs.small
  have HB1 := (show Hid _ from hb1)
  clear ha hc0 h hb1 h1
  go_wp2
  go_loopw [7, 8] (fun q i wr => ∃ (k d : Nat), k ≤ n ∧ i = .int .i64 k ∧ wr = w1.drewN d ∧ q = .bool (decide (m ≤ 0) || anyV (F.take k) m)) (fun q i _ => n - (intOf i).toNat)
  case atStart => exact ⟨0, 0, by omega, rfl, rfl, by simp [anyV]⟩
  case round =>
    obtain ⟨k, d, hk, rfl, rfl, rfl⟩ := hrel
    by_cases hkn : k < n
    · rcases hs.at_ with h0 | ⟨g, off, rfl, hlt, hcell⟩
      · omega
      have hc := hcell k hkn
      have HT : Hid ((decide (m ≤ 0) || anyV (F.take (k + 1)) m) = ((decide (m ≤ 0) || anyV (F.take k) m) || decide ((F.getD k 0 : Int) = m))) := by
        show _ = _
        rw [anyV_take F m k (by omega), Bool.or_assoc]
      clear hcell
      generalize F.getD k 0 = x at *
      generalize (decide (m ≤ 0) || anyV (F.take k) m) = q at *
      have hk1 : (k : Int) < (n : Int) := by omega
      cases q with
      | true =>
        go_wp2
        go_roundw
        case rel => exact ⟨k + 1, d, by omega, by go_num, rfl, by rw [HT.out]; rfl⟩
        case measure => simp [intOf]; omega
      | false =>
        go_wp2
        go_roundw
        case rel => exact ⟨k + 1, d, by omega, by go_num, rfl, by rw [HT.out, Bool.false_or]; congr 1⟩
        case measure => simp [intOf]; omega
    · obtain rfl : k = n := by omega
      have HF : Hid (F.take k = F) := by show _ = _; exact List.take_of_length_le (by omega)
      go_wp2
      go_ret
      exact ⟨by rw [HF.out]; rfl, HB1.out.trans ((drewN_belowR _ d).mono HB1.out.size)⟩
def topF (F : List Nat) : Nat := if F.length = 0 then 0 else F.getD (F.length - 1) 0
set_option maxHeartbeats 1000000 in
theorem rtop_any (B p : Nat) (fb db : Option Nat) (cum : Nat) (F ds : List Nat) (w : World) (h : RTk w B p fb db cum F ds) :
    Calls Try.prog 40 #[.pointer (some ⟨p, 0, none⟩)] w fun e w' => e = .returned (.int .u32 (addV 4294967296 cum (topF F : Nat) : Nat)) ∧ Below w.heap.size w w' := by
  obtain ⟨a, n, c, h1, hs, _⟩ := h.far
  have hc0 := h.c0
  have hl := hs.len
  have hsm := hs.small
  have hcl := h.cumlt
  by_cases hn : n = 0
  · subst hn
    have HV : Hid (addV 4294967296 cum (topF F : Nat) = cum) := by
      show _ = _
      unfold topF addV
      rw [if_pos hl]
      omega
    go_enter Try.func40, Try.ntmps40
    go_wp2
    go_ret
    exact ⟨by rw [HV.out]; rfl, Below.refl _ _⟩
  · rcases hs.at_ with h0 | ⟨g, off, rfl, hlt, hcell⟩
    · omega
    have hc := hcell (n - 1) (by omega)
    have HV : Hid ((addV 4294967296 cum (topF F : Nat) : Int) = ((cum : Int) + F.getD (n - 1) 0) % 4294967296) := by
      show _ = _
      rw [addV_int _ _ _ (by omega)]
      unfold topF
      rw [if_neg (by omega), hl]
      rfl
    clear hcell
    generalize F.getD (n - 1) 0 = x at *
    have hcast : ((n : Int) - 1) = ((n - 1 : Nat) : Int) := by omega
    have hn1 : ((n : Int) == 0) = false := by simp; omega
    go_enter Try.func40, Try.ntmps40
    go_wp2_with fail
    go_quiet (fail)
    all_goals
      go_wp2
      go_ret
      exact ⟨by rw [HV.out]; simp, by first | exact Below.refl _ _ | exact drewN_belowR _ _⟩
set_option maxHeartbeats 1000000 in
theorem rdups_any (B p : Nat) (fb db : Option Nat) (cum : Nat) (F ds : List Nat) (w : World) (h : RTk w B p fb db cum F ds) :
    Calls Try.prog 20 #[.pointer (some ⟨p, 0, none⟩)] w fun e w' => ∃ a c, e = .returned (.slice a ds.length c) ∧ SlU w' a ds.length c ds ∧ blockOf a = db ∧ RTk w' B p fb none cum F [] ∧ Fr (fun k => k = p) w w' := by
  obtain ⟨a, n, c, h2, hs, hd⟩ := h.dup
  obtain ⟨a1, n1, c1, h1, hs1, hf⟩ := h.far
  obtain rfl := hs.len
  have hfr := h.free 2
  have hF : Fr (fun k => k = p) w (w.setCell ⟨p, 2, none⟩ (.slice none 0 0)) := Fr.setCell _ _ _ _ rfl
  have HO : Hid (SlU (w.setCell ⟨p, 2, none⟩ (.slice none 0 0)) a ds.length c ds) := hs.fr hF (fun k hk e => (h.dge k (by rw [← hd, hk])).2.2 e)
  have HT : Hid (RTk (w.setCell ⟨p, 2, none⟩ (.slice none 0 0)) B p fb none cum F []) := by
    refine ⟨h.base, by simp [World.setCell]; exact h.lt, h.cumlt, ?_, ⟨a1, n1, c1, ?_, hs1.fr hF (fun k hk e => (h.fge k (by rw [← hf, hk])).2.2 e), hf⟩, ⟨none, 0, 0, ?_, SlK.nil _ _ _ (by omega), rfl⟩, fun i => by rw [World.frozen?_setCell]; exact h.free i, fun k hk => ?_, fun k hk => by cases hk⟩
    · rw [World.cell?_setCell_other _ _ _ _ (by intro e2; injection e2 with _ e3; omega)]
      exact h.c0
    · rw [World.cell?_setCell_other _ _ _ _ (by intro e2; injection e2 with _ e3; omega)]
      exact h1
    · exact World.cell?_setCell_same' _ _ _ (by rw [h2]; rfl)
    · have := h.fge k hk
      exact ⟨this.1, by simp [World.setCell]; exact this.2.1, this.2.2⟩
  have HF := (show Hid _ from hF)
  have HD := (show Hid _ from hd)
  clear h hs hs1 h1 hd hF hf
  go_enter Try.func20, Try.ntmps20
  go_wp2
  go_ret
  exact ⟨a, c, rfl, HO.out, HD.out, HT.out, HF.out⟩
set_option maxHeartbeats 1000000 in
theorem rnew_any (f : Nat) (w : World) (_hf : f < 4294967296) :
    Calls Try.prog 26 #[.int .u32 f] w fun e w' => ∃ p, e = .returned (.pointer (some ⟨p, 0, none⟩)) ∧ RTk w' w.heap.size p none none (addV 4294967296 f (-1)) [] [] ∧ Below w.heap.size w w' := by
  have hlt := addV_lt 4294967296 f (-1) (by omega)
  have hv := addV_int 4294967296 f (-1) (by omega)
  generalize addV 4294967296 f (-1) = c at *
  go_enter Try.func26, Try.ntmps26
  go_wp2
  go_ret
  have hcell : ∀ i, (w.alloc (.cells #[.int .u32 (((f : Int) - 1) % 4294967296), .slice none 0 0, .slice none 0 0] 72)).cell? ⟨w.heap.size, i, none⟩ = (#[.int .u32 (((f : Int) - 1) % 4294967296), .slice none 0 0, .slice none 0 0] : Array Value)[i]? := fun i => cell_new2 _ _ _ _ rfl
  have hfree : ∀ i, (w.alloc (.cells #[.int .u32 (((f : Int) - 1) % 4294967296), .slice none 0 0, .slice none 0 0] 72)).frozen? ⟨w.heap.size, i, none⟩ = false := by
    intro i
    have hh : (w.alloc (.cells #[.int .u32 (((f : Int) - 1) % 4294967296), .slice none 0 0, .slice none 0 0] 72)).heap[w.heap.size]? = some (.cells #[.int .u32 (((f : Int) - 1) % 4294967296), .slice none 0 0, .slice none 0 0] 72) := by
      show (w.heap.push _)[w.heap.size]? = _
      simp
    unfold World.frozen?
    dsimp only
    rw [hh]
    simp
  refine ⟨w.heap.size, rfl, ⟨Nat.le_refl _, by simp, hlt, ?_, ⟨none, 0, 0, ?_, SlK.nil _ _ _ (by omega), rfl⟩, ⟨none, 0, 0, ?_, SlK.nil _ _ _ (by omega), rfl⟩, hfree, (fun k hk => by cases hk), (fun k hk => by cases hk)⟩, (Below.refl _ _).alloc (Nat.le_refl _) _⟩
  · rw [hcell, show ((f : Int) - 1) % 4294967296 = (c : Int) from by omega]; rfl
  · rw [hcell]; rfl
  · rw [hcell]; rfl
end Go.Proofs.Ytlgpabdadnfbeaa
