/- What copy makes of a row of the call's own; bytes.Clone. -/
import Derived.Test.YtfjpckaphfdfnaaGreatDoorOwn
import Derived.Laws.CopyOwn
import Derived.Lib.SliceRun
import Derived.Outline
import Derived.WalkLawsBesides
import Derived.WalkSpells
namespace Go.Proofs.YtfjpckaphfdfnaaGreatDoor
open Go.RowKit
/-- Bytes laid over others from a place on. -/
def lay (zs : List Nat) (p : Nat) (ys : List Nat) : List Nat := zs.take p ++ (ys ++ zs.drop (p + ys.length))
theorem lay_len (zs : List Nat) (p : Nat) (ys : List Nat) (h : p + ys.length ≤ zs.length) : (lay zs p ys).length = zs.length := by simp [lay]; omega
theorem lay_getD (zs : List Nat) (p : Nat) (ys : List Nat) (h : p + ys.length ≤ zs.length) (i : Nat) : (lay zs p ys).getD i 0 = if p ≤ i ∧ i < p + ys.length then ys.getD (i - p) 0 else zs.getD i 0 := by
  unfold lay
  rw [getD_app, List.length_take, Nat.min_eq_left (by omega), getD_app]
  by_cases h1 : i < p
  · rw [if_pos h1, if_neg (by omega)]
    simp [List.getD_eq_getElem?_getD, h1]
  · rw [if_neg h1]
    by_cases h2 : i < p + ys.length
    · rw [if_pos (by omega), if_pos (by omega)]
    · rw [if_neg (by omega), if_neg (by omega)]
      simp only [List.getD_eq_getElem?_getD, List.getElem?_drop]
      rw [show p + ys.length + (i - p - ys.length) = i from by omega]
theorem lay_nil (zs : List Nat) (p : Nat) : lay zs p [] = zs := by simp [lay]
set_option maxRecDepth 100000 in
/-- copy into a row of the call's own: its run. -/
theorem copy_run (w : World) (B g off dl dc n c : Nat) (dp : Option Addr) (zs : List Nat) (hown : OwnB w B (some ⟨g, 0, none⟩) n c zs)
    (sa : Option Addr) (m sc : Nat) (ys : List Nat) (hsrc : Sl w sa m sc ys) (hdp : 0 < m → dp = some ⟨g, off, none⟩) (hm : m ≤ dl) (hfit : off + m ≤ n) :
    ∃ w', (∀ ty, (Builtin.copy_ #[24, 24] ty #[.slice dp dl dc, .slice sa m sc]).run Tryz.prog w = .ok (goInt m) w') ∧ OwnB w' B (some ⟨g, 0, none⟩) n c (lay zs off ys) ∧ w.grownBy w' (some g) := by
  have hsz : (Tryz.prog.info? 5).map (·.size) = some 1 := by kernel_rfl
  obtain ⟨hl2, hcap2, hroom2, hsm2, hnz2, hb2, hat2⟩ := hsrc
  by_cases h0 : m = 0
  · subst h0
    obtain rfl : ys = [] := List.eq_nil_of_length_eq_zero hl2
    refine ⟨w, fun ty => run_copy_none (P := Tryz.prog) w 24 24 ty 5 dp sa dl dc 0 sc Tryz.underlying24 hsz (by simp), ?_, World.grownBy.refl w _⟩
    rw [lay_nil]; exact hown
  · rcases hat2 with h1 | ⟨b, of2, rfl, _, hcell⟩
    · omega
    have hdp' := hdp (by omega)
    subst hdp'
    rcases hown.own.2 with ⟨hv, _⟩ | ⟨g', cap, cur, hv, hBg, hh, hnc, hcm, hcs, htake⟩
    · cases hv
    injection hv with e1 e2 e3
    injection e1 with e1
    injection e1 with e1
    subst e1 e3
    have hcl : cur.toList.length = c := by simpa using hcs
    have hml : (vals ys).length = m := by simp [vals, hl2]
    have htk : cur.toList.take n = vals zs := by simpa using htake
    have hsplit : cur.toList = vals zs ++ cur.toList.drop n := by rw [← htk]; exact (List.take_append_drop n _).symm
    have hvl : (vals zs).length = n := by simp [vals, hown.len]
    have hsrc : ∀ j u, (vals ys)[j]? = some u → w.cell? ((⟨b, of2, none⟩ : Addr).add j) = some u := by
      intro j u hj
      have hjl : j < ys.length := by
        have := (List.getElem?_eq_some_iff.1 hj).1
        simpa [vals] using this
      have ea : (⟨b, of2, none⟩ : Addr).add j = ⟨b, of2 + j, none⟩ := by
        unfold Addr.add
        split
        · subst_vars; rfl
        · rfl
      rw [ea, hcell j (by omega), ← hj, vals_at ys j hjl]
    have hr := fun ty => run_copy_row (P := Tryz.prog) w 24 24 ty 5 g off dl dc ⟨b, of2, none⟩ m sc cur 5 (vals ys) Tryz.underlying24 hsz hh (by rw [hml]; exact (Nat.min_eq_left hm).symm) hsrc (by rw [hml]; omega) (vals_one ys)
    simp only [hml, List.append_assoc] at hr
    refine ⟨_, hr, ?_⟩
    have hlist : cur.toList.take off ++ (vals ys ++ cur.toList.drop (off + (vals ys).length)) = vals (lay zs off ys) ++ cur.toList.drop n := by
      have e1 : cur.toList.take off = (vals zs).take off := by
        rw [← htk, List.take_take, Nat.min_eq_left (by omega)]
      have e2 : cur.toList.drop (off + (vals ys).length) = (vals zs).drop (off + (vals ys).length) ++ cur.toList.drop n := by
        conv => lhs; rw [hsplit]
        rw [List.drop_append_of_le_length (by rw [hvl, hml]; exact hfit)]
      rw [e1, e2]
      simp [lay, vals, List.map_take, List.map_drop]
    have hll : (vals (lay zs off ys)).length = n := by
      have := lay_len zs off ys (by rw [hown.len, hl2]; exact hfit)
      simp [vals, this, hown.len]
    refine ⟨⟨?_, ⟨by rw [hll]; omega, .inr ⟨g, c, _, rfl, hBg, setRow_heap w g _ _ _ _ hh, hnc, hcm, ?_, ?_⟩⟩, fun i => ?_⟩, ⟨rfl, rfl, rfl, by simp [World.setRow], fun k _ hk => setRow_other w g k _ (fun e => hk (by rw [e]))⟩⟩
    · rw [lay_len zs off ys (by rw [hown.len, hl2]; exact hfit)]; exact hown.len
    · have := congrArg List.length hlist
      rw [hml] at this
      rw [List.size_toArray, this, List.length_append, hll, List.length_drop, hcl]
      omega
    · have hl3 := hlist
      rw [hml] at hl3
      simp only [Nat.mul_one]
      rw [hl3, List.take_append_of_le_length (by rw [hll]; exact Nat.le_refl _), List.take_of_length_le (by rw [hll]; exact Nat.le_refl _)]
    · rw [lay_getD zs off ys (by rw [hown.len, hl2]; exact hfit)]
      split
      · exact hb2 _
      · exact hown.bnd _
set_option maxHeartbeats 1000000 in
theorem clone_any (a : Option Addr) (n c : Nat) (zs : List Nat) (w : World) (hs : Sl w a n c zs) (hn : n ≤ 140737488351232) :
    Calls Tryz.prog 97 #[.slice a n c] w fun e w' => ∃ a' c', e = .returned (.slice a' n c') ∧ OwnB w' w.heap.size a' n c' zs ∧ (0 < n → ∃ g, a' = some ⟨g, 0, none⟩) ∧ Below w.heap.size w w' := by
  have hq := fun (a : Option Addr) (n c : Nat) (w : World) => Lib.run_eql_slice_nil (P := Tryz.prog) w 24 5 a n c 0 0 Tryz.underlying24
  cases a with
  | none =>
    have hc := hs.nz rfl
    have hn0 := hs.cap
    subst hc
    obtain rfl : n = 0 := by omega
    obtain rfl : zs = [] := List.eq_nil_of_length_eq_zero hs.len
    go_enter Tryz.func97, Tryz.ntmps97
    go_wp2
    go_ret
    exact ⟨none, 0, rfl, OwnB.nil _ _, fun h => by omega, Below.refl _ _⟩
  | some p =>
    have ho : OwnB (w.alloc (.cells #[] 5)) w.heap.size (some ⟨w.heap.size, 0, none⟩) 0 0 [] := own_empty w
    go_enter Tryz.func97, Tryz.ntmps97
    go_wp2_with (at_builtin; go_must (refine app_list rfl _ _ rfl w.heap.size _ 0 0 [] rfl ho _ n c zs rfl (hs.alloc _) (by omega) (by simp) ?_))
    intro a1 c1 w1 ho1 hg1
    have hb1 : Below w.heap.size w w1 := ((Below.refl _ _).alloc (Nat.le_refl _) _).trans (ho.up hg1 (by simp))
    go_wp2
    go_ret
    refine ⟨a1, c1, rfl, ho1, fun hpos => ?_, hb1⟩
    rcases ho1.own.2 with ⟨_, h0⟩ | ⟨g, cap, cur, hv, _⟩
    · omega
    · injection hv with e1
      exact ⟨g, e1⟩
end Go.Proofs.YtfjpckaphfdfnaaGreatDoor
