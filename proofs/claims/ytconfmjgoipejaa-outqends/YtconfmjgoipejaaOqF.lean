/- outq: the iterator over the pieces that fly on a way. -/
import Derived.Test.YtconfmjgoipejaaOqD
import Derived.BigQuiet
import Derived.Deep.DeepMust
namespace Go.Proofs.Ytconfmjgoipejaa
open Go.RowKit Go.Shelf
attribute [local go_sem] Oper.semAt_some
def selF (pb : Nat) (wy : Int) (k : Nat) (W : World) : Option Bool :=
  match W.cell? ⟨pb, k * 17 + 14, none⟩, W.cell? ⟨pb, k * 17 + 15, none⟩ with
  | some (.int .i64 s), some (.int .i64 v) => some (s == 1 && v == wy)
  | _, _ => none
theorem selF_some {pb k : Nat} {wy : Int} {W : World} {b : Bool} (h : selF pb wy k W = some b) : ∃ s v : Int, W.cell? ⟨pb, k * 17 + 14, none⟩ = some (.int .i64 s) ∧ W.cell? ⟨pb, k * 17 + 15, none⟩ = some (.int .i64 v) ∧ (s == 1 && v == wy) = b := by
  unfold selF at h
  split at h
  · rename_i s v hs hv
    exact ⟨s, v, hs, hv, Option.some.inj h⟩
  · cases h
abbrev wQ (Bt Bw q : Nat) : Nat → Prop := fun b => b = Bt ∨ b = Bw ∨ b = q
theorem yield_bool {A : Prop} {B : Prop} {e : Ending} (h : (e = .returned (.bool true) ∧ A) ∨ (e = .returned (.bool false) ∧ B)) : ∃ r : Bool, e = .returned (.bool r) ∧ (r = true → A) ∧ (r = false → B) := by
  rcases h with ⟨rfl, h⟩ | ⟨rfl, h⟩
  · exact ⟨true, rfl, fun _ => h, fun h => (by cases h)⟩
  · exact ⟨false, rfl, fun h => (by cases h), fun _ => h⟩
theorem kq_in {S Bt Bw q X : Nat} {W2 W3 : World} (hX : X = S + 2) (h : Kq S 4 (wQ Bt Bw q) W2.drew W3) : Kq X (2 + 0) (qQ (S + 1) q) W2 W3 :=
  ⟨h.size, fun b hb => h.same b (by
    rcases hb with ⟨h1, h2⟩ | rfl | rfl
    · exact .inl ⟨by omega, by omega⟩
    · exact .inl ⟨by omega, by omega⟩
    · exact .inr (.inr (.inr rfl)))⟩
theorem grown_drew (W : World) : W.grownBy W.drew none := ⟨rfl, rfl, rfl, Nat.le_refl _, fun _ _ _ => rfl⟩
structure WP (Bt Bw q : Nat) (wy : Int) (pa : Option Addr) (n cap : Nat) (W : World) : Prop where
  box : W.cell? ⟨Bt, 0, none⟩ = some (.pointer (some ⟨q, 0, none⟩))
  row : W.cell? ⟨q, 3, none⟩ = some (.slice pa n cap)
  way : W.cell? ⟨Bw, 0, none⟩ = some (.int .i64 wy)
set_option maxRecDepth 100000 in
set_option maxHeartbeats 2000000 in
theorem flyers_itr (Bt Bw q pb n cap : Nat) (wy : Int) (pa : Option Addr) (hpa : n = 0 ∨ pa = some ⟨pb, 0, none⟩) (hn : n ≤ 1000000) :
    Itr 45 #[.pointer (some ⟨Bt, 0, none⟩), .pointer (some ⟨Bw, 0, none⟩)] (dueE pb) n 4 (selF pb wy) (wQ Bt Bw q) (WP Bt Bw q wy pa n cap) := by
  intro m l J Jx W hJ hJx hP hlW hQW hY h0
  refine callsIn_of_wp_marks Try.func45 rfl trivial ?_ rfl
  simp only [Try.ntmps45, List.size_toArray, List.length_cons, List.length_nil, Nat.reduceAdd, Nat.reduceSub, Array.replicate_succ, Array.replicate_zero, List.push_toArray, List.append_toArray, List.nil_append, List.cons_append]
  have hBt : Bt < W.heap.size := hQW Bt (.inl rfl)
  have hBw : Bw < W.heap.size := hQW Bw (.inr (.inl rfl))
  have hq : q < W.heap.size := hQW q (.inr (.inr rfl))
  obtain ⟨V, hV⟩ : ∃ V, V = W.alloc (.cells #[.func (.yield l) #[] #[]] 105) := ⟨_, rfl⟩
  have bV : Below W.heap.size W V := by rw [hV]; exact (Below.refl _ _).alloc (Nat.le_refl _) _
  have zV : V.heap.size = W.heap.size + 1 := by rw [hV]; simp
  have cV : V.cell? ⟨W.heap.size, 0, none⟩ = some (.func (.yield l) #[] #[]) := by rw [hV]; exact box_new W _ _
  have hb := (bV.cell (p := ⟨Bt, 0, none⟩) hBt).trans hP.box
  have hJV : J 0 V := by rw [hV]; exact hJ.alloc _ h0
  have HV := (show Hid _ from hV)
  rw [hV] at hb
  gi_wp2
  refine ⟨trivial, fun h => (by cases h), (callsIn_wide.2 (steps_call _ _)).mono ?_⟩
  rintro e w' ⟨rfl, rfl⟩
  gi_wp2
  rw [← HV.out]
  obtain ⟨U, hU⟩ : ∃ U, U = V.alloc (.cells #[.pointer (some ⟨q, 0, none⟩)] 23) := ⟨_, rfl⟩
  have bU : Below V.heap.size V U := by rw [hU]; exact (Below.refl _ _).alloc (Nat.le_refl _) _
  have bWU : Below W.heap.size W U := bV.trans (bU.mono (by omega))
  have zU : U.heap.size = W.heap.size + 2 := by rw [hU]; simp; omega
  have cU : U.cell? ⟨W.heap.size + 1, 0, none⟩ = some (.pointer (some ⟨q, 0, none⟩)) := by rw [hU, ← zV]; exact box_new V _ _
  have cU0 : U.cell? ⟨W.heap.size, 0, none⟩ = some (.func (.yield l) #[] #[]) := (bU.cell (p := ⟨W.heap.size, 0, none⟩) (by show W.heap.size < _; omega)).trans cV
  have hJU : J 0 U := by rw [hU]; exact hJ.alloc _ hJV
  have cUw : U.cell? ⟨Bw, 0, none⟩ = some (.int .i64 wy) := (bWU.cell (p := ⟨Bw, 0, none⟩) hBw).trans hP.way
  have cUq : U.cell? ⟨q, 3, none⟩ = some (.slice pa n cap) := (bWU.cell (p := ⟨q, 3, none⟩) hq).trans hP.row
  rw [← hU]
  clear hb cV hV bV bU hU HV
  refine range_sel (gf := 44) (lb := #[.pointer (some ⟨W.heap.size + 1, 0, none⟩)]) rfl (enters_of Try.func44 (by kernel_rfl) rfl)
    (steps_itr (W.heap.size + 1) q pb n cap pa hpa hn) (fun _ => rfl)
    (fun W2 h2 => ⟨(h2.cell (p := ⟨W.heap.size + 1, 0, none⟩) (by show W.heap.size + 1 < _; omega)).trans cU, (h2.cell (p := ⟨q, 3, none⟩) (by show q < _; omega)).trans cUq⟩)
    (fun b hb => by rcases hb with rfl | rfl <;> omega)
    (fun k W2 => J k W2 ∧ W2.cell? ⟨W.heap.size, 0, none⟩ = some (.func (.yield l) #[] #[]) ∧ W2.cell? ⟨Bw, 0, none⟩ = some (.int .i64 wy))
    (fun k W2 => J k W2 ∧ W2.cell? ⟨W.heap.size, 0, none⟩ = some (.func (.yield l) #[] #[]) ∧ W2.cell? ⟨Bw, 0, none⟩ = some (.int .i64 wy))
    (fun c W2 => c = .ret ∧ Jx W2)
    (fun s A B row hs hg hr => ⟨hJ s A B row hs.1 hg (fun r e => ⟨by have := (hr r e).1; omega, (hr r e).2⟩), own_kept hs.2.1 hg hr, own_kept hs.2.2 hg hr⟩)
    (fun s A B row hs hg hr => ⟨hJ s A B row hs.1 hg (fun r e => ⟨by have := (hr r e).1; omega, (hr r e).2⟩), own_kept hs.2.1 hg hr, own_kept hs.2.2 hg hr⟩)
    (fun c s A B row hs hg hr => ⟨hs.1, hJx s A B row hs.2 hg (fun r e => ⟨by have := (hr r e).1; omega, (hr r e).2⟩)⟩)
    ⟨hJU, cU0, cUw⟩
    (fun k W2 _ h => .inl ⟨rfl, h⟩)
    (fun k => { tmps := #[.func (.yield l) #[] #[], .pointer (some ⟨Bt, 0, none⟩), .pointer (some ⟨Bw, 0, none⟩), .pointer (some ⟨W.heap.size, 0, none⟩), undef, .pointer (some ⟨pb, k * 17, none⟩), .pointer (some ⟨q, 0, none⟩), .func (.func 44) #[] #[.pointer (some ⟨W.heap.size + 1, 0, none⟩)], .int .i64 ((k : Int) + 1), .pointer (some ⟨pb, k * 17, none⟩), undef, undef, undef, undef, undef, undef, undef, undef, undef, undef, undef, undef, undef, undef, undef, undef, undef, undef, undef], defers := [] }) ?assign ?body ?done ?stop
  case assign =>
    intro n' l' k W2 K hK
    gi_wp2
    exact hK
  case body =>
    rintro n' l' k W2 hk ⟨hJ2, hc2, hw2⟩ hz2
    have hmx : Try.prog.follows .mixedOrders = true := by kernel_rfl
    have hJd : J k W2.drew := hJ k W2 W2.drew none hJ2 (grown_drew W2) (fun r e => (by cases e))
    rcases hY k W2.drew hk hJd with ⟨hs, hy0⟩ | ⟨hs, hJ3⟩
    · obtain ⟨s, v, hsc0, hvc0, hsb⟩ := selF_some hs
      obtain ⟨fy, ty, ay, by1, hy, hR⟩ := hy0 (n' - 1)
      have hsc : W2.cell? ⟨pb, k * 17 + 14, none⟩ = some (.int .i64 s) := hsc0
      have hvc : W2.cell? ⟨pb, k * 17 + 15, none⟩ = some (.int .i64 v) := hvc0
      clear hY hJU cU0 cU cUq cUw hy0 hs hsc0 hvc0
      obtain ⟨rfl, rfl⟩ : s = 1 ∧ v = wy := by simpa using hsb
      clear hsb
      gi_wp2
      first | (go_must (gi_region_with_o (first
        | (refine ⟨fun h => (by cases h), RoundIn.mono (F := Fence.wide.inRound l') hR ?_⟩; rintro e W3 hp3; obtain ⟨r, rfl, h3, h4⟩ := yield_bool hp3; clear hp3)
        | (refine ⟨fun _ h => (by cases h), RoundIn.mono (F := Fence.wide.inRound l') hR ?_⟩; rintro e W3 hp3; obtain ⟨r, rfl, h3, h4⟩ := yield_bool hp3; clear hp3)))) | fail
      all_goals
        cases r with
        | true =>
          obtain ⟨hJ3, hk3⟩ := h3 rfl
          clear h3 h4 hR hy
          gi_wp2
          exact ⟨kq_in zU hk3, hJ3, (hk3.cell (.inl ⟨by omega, by omega⟩)).trans hc2, (hk3.cell (.inr (.inr (.inl rfl)))).trans hw2⟩
        | false =>
          obtain ⟨hJx3, hk3⟩ := h4 rfl
          clear h3 h4 hR hy
          gi_wp2
          exact ⟨kq_in zU hk3, rfl, hJx3⟩
    · obtain ⟨s, v, hsc0, hvc0, hsb⟩ := selF_some hs
      have hsc : W2.cell? ⟨pb, k * 17 + 14, none⟩ = some (.int .i64 s) := hsc0
      have hvc : W2.cell? ⟨pb, k * 17 + 15, none⟩ = some (.int .i64 v) := hvc0
      clear hY hJU cU0 cU cUq cUw hs hsc0 hvc0
      by_cases hs1 : s = 1
      · subst hs1
        have hv : ¬ v = wy := by simpa using hsb
        have hv2 : (v == wy) = false := by simpa using hv
        clear hsb
        gi_wp2
        first | (go_must (gi_region_with_o (refine ⟨fun _ h => (by cases h), ?_⟩))) | fail
        all_goals gi_wp2
        all_goals exact ⟨⟨Nat.le_refl _, fun _ _ => rfl⟩, hJ3, hc2, hw2⟩
      · have hs2 : (s == 1) = false := by simpa using hs1
        clear hsb
        gi_wp2
        first | (go_must (gi_region_with_o (refine ⟨fun _ h => (by cases h), ?_⟩))) | fail
        all_goals gi_wp2
        all_goals exact ⟨⟨Nat.le_refl _, fun _ _ => rfl⟩, hJ3, hc2, hw2⟩
  case done =>
    rintro W2 ⟨hJ2, _, _⟩ hD
    gi_wp2
    refine ⟨by simp, .inl ⟨_, _, rfl, run_takeDeferred hD, ?_⟩⟩
    exact ⟨_, results_none rfl _ _ _, ⟨_, rfl⟩, .inl (hJ.putObj _ hJ2 (by omega) hD rfl)⟩
  case stop =>
    rintro c W2 ⟨rfl, hx⟩ hD
    gi_wp2
    refine ⟨by simp, .inl ⟨_, _, rfl, run_takeDeferred hD, ?_⟩⟩
    exact ⟨_, results_none rfl _ _ _, ⟨_, rfl⟩, .inr (own_put hJx _ hx (by omega) hD rfl)⟩
end Go.Proofs.Ytconfmjgoipejaa
