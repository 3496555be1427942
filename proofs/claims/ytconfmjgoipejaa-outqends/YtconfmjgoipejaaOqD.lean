/- outq: steps (the call), and the iterator over the pieces that are due. -/
import Derived.Test.YtconfmjgoipejaaOqI
namespace Go.Proofs.Ytconfmjgoipejaa
open Go.RowKit Go.Shelf
attribute [local go_sem] Oper.semAt_some
theorem steps_call (p : Option Addr) (w : World) : Calls Try.prog 30 #[.pointer p] w fun e w' => e = .returned (.func (.func 44) #[] #[.pointer (some ⟨w.heap.size, 0, none⟩)]) ∧ w' = w.alloc (.cells #[.pointer p] 23) := by
  go_enter Try.func30, Try.ntmps30
  go_wp2
  go_ret
  exact ⟨rfl, rfl⟩
theorem box_new (W : World) (v : Value) (t : TypeId) : (W.alloc (.cells #[v] t)).cell? ⟨W.heap.size, 0, none⟩ = some v := by
  rw [World.cell?_alloc_mark]
  rfl
theorem own_kept {W W' : World} {row : Option Nat} {b i : Nat} {v : Value} (h : W.cell? ⟨b, i, none⟩ = some v) (hg : W.grownBy W' row) {B : Nat} (hr : ∀ r, row = some r → B ≤ r ∧ ∃ o : Obj, W.heap[r]? = some o ∧ o.isCells = false) : W'.cell? ⟨b, i, none⟩ = some v :=
  cell_kept h hg (fun r e => (hr r e).2)
def selD (pb : Nat) (k : Nat) (W : World) : Option Bool :=
  match W.cell? ⟨pb, k * 17 + 14, none⟩ with
  | some (.int .i64 s) => some (s == 2 || s == 0)
  | _ => none
theorem selD_some {pb k : Nat} {W : World} {b : Bool} (h : selD pb k W = some b) : ∃ s : Int, W.cell? ⟨pb, k * 17 + 14, none⟩ = some (.int .i64 s) ∧ (s == 2 || s == 0) = b := by
  unfold selD at h
  split at h
  · rename_i s hs
    exact ⟨s, hs, Option.some.inj h⟩
  · cases h
abbrev dueE (pb : Nat) (k : Nat) : Array Value := #[.pointer (some ⟨pb, k * 17, none⟩)]
set_option maxRecDepth 100000 in
set_option maxHeartbeats 2000000 in
theorem due_itr (Bt q pb n cap : Nat) (pa : Option Addr) (hpa : n = 0 ∨ pa = some ⟨pb, 0, none⟩) (hn : n ≤ 1000000) :
    Itr 40 #[.pointer (some ⟨Bt, 0, none⟩)] (dueE pb) n 4 (selD pb) (qQ Bt q) (QP Bt q pa n cap) := by
  intro m l J Jx W hJ hJx hP hlW hQW hY h0
  refine callsIn_of_wp_marks Try.func40 rfl trivial ?_ rfl
  simp only [Try.ntmps40, List.size_toArray, List.length_cons, List.length_nil, Nat.reduceAdd, Nat.reduceSub, Array.replicate_succ, Array.replicate_zero, List.push_toArray, List.append_toArray, List.nil_append, List.cons_append]
  have hBt : Bt < W.heap.size := hQW Bt (.inl rfl)
  have hq : q < W.heap.size := hQW q (.inr rfl)
  obtain ⟨V, hV⟩ : ∃ V, V = W.alloc (.cells #[.func (.yield l) #[] #[]] 105) := ⟨_, rfl⟩
  have bV : Below W.heap.size W V := by rw [hV]; exact (Below.refl _ _).alloc (Nat.le_refl _) _
  have zV : V.heap.size = W.heap.size + 1 := by rw [hV]; simp
  have cV : V.cell? ⟨W.heap.size, 0, none⟩ = some (.func (.yield l) #[] #[]) := by rw [hV]; exact box_new W _ _
  have hb := (bV.cell (p := ⟨Bt, 0, none⟩) hBt).trans hP.box
  have hJV : J 0 V := by rw [hV]; exact hJ.alloc _ h0
  have HV := (show Hid _ from hV)
  rw [hV] at hb
  gi_wp2
  refine ⟨trivial, fun h => (by cases h), (callsIn_wide.2 (steps_call _ _)).mono ?_⟩
  rintro e w' ⟨rfl, rfl⟩
  gi_wp2
  rw [← HV.out]
  obtain ⟨U, hU⟩ : ∃ U, U = V.alloc (.cells #[.pointer (some ⟨q, 0, none⟩)] 23) := ⟨_, rfl⟩
  have bU : Below V.heap.size V U := by rw [hU]; exact (Below.refl _ _).alloc (Nat.le_refl _) _
  have bWU : Below W.heap.size W U := bV.trans (bU.mono (by omega))
  have zU : U.heap.size = W.heap.size + 2 := by rw [hU]; simp; omega
  have cU : U.cell? ⟨W.heap.size + 1, 0, none⟩ = some (.pointer (some ⟨q, 0, none⟩)) := by rw [hU, ← zV]; exact box_new V _ _
  have cU0 : U.cell? ⟨W.heap.size, 0, none⟩ = some (.func (.yield l) #[] #[]) := (bU.cell (p := ⟨W.heap.size, 0, none⟩) (by show W.heap.size < _; omega)).trans cV
  have hJU : J 0 U := by rw [hU]; exact hJ.alloc _ hJV
  have cUq : U.cell? ⟨q, 3, none⟩ = some (.slice pa n cap) := (bWU.cell (p := ⟨q, 3, none⟩) hq).trans hP.row
  rw [← hU]
  clear hb cV hV bV bU hU HV
  refine range_sel (gf := 44) (lb := #[.pointer (some ⟨W.heap.size + 1, 0, none⟩)]) rfl (enters_of Try.func44 (by kernel_rfl) rfl)
    (steps_itr (W.heap.size + 1) q pb n cap pa hpa hn) (fun _ => rfl)
    (fun W2 h2 => ⟨(h2.cell (p := ⟨W.heap.size + 1, 0, none⟩) (by show W.heap.size + 1 < _; omega)).trans cU, (h2.cell (p := ⟨q, 3, none⟩) (by show q < _; omega)).trans cUq⟩)
    (fun b hb => by rcases hb with rfl | rfl <;> omega)
    (fun k W2 => J k W2 ∧ W2.cell? ⟨W.heap.size, 0, none⟩ = some (.func (.yield l) #[] #[]))
    (fun k W2 => J k W2 ∧ W2.cell? ⟨W.heap.size, 0, none⟩ = some (.func (.yield l) #[] #[]))
    (fun c W2 => c = .ret ∧ Jx W2)
    (fun s A B row hs hg hr => ⟨hJ s A B row hs.1 hg (fun r e => ⟨by have := (hr r e).1; omega, (hr r e).2⟩), own_kept hs.2 hg hr⟩)
    (fun s A B row hs hg hr => ⟨hJ s A B row hs.1 hg (fun r e => ⟨by have := (hr r e).1; omega, (hr r e).2⟩), own_kept hs.2 hg hr⟩)
    (fun c s A B row hs hg hr => ⟨hs.1, hJx s A B row hs.2 hg (fun r e => ⟨by have := (hr r e).1; omega, (hr r e).2⟩)⟩)
    ⟨hJU, cU0⟩
    (fun k W2 _ h => .inl ⟨rfl, h⟩)
    (fun k => { tmps := #[.func (.yield l) #[] #[], .pointer (some ⟨Bt, 0, none⟩), .pointer (some ⟨W.heap.size, 0, none⟩), undef, .pointer (some ⟨pb, k * 17, none⟩), .pointer (some ⟨q, 0, none⟩), .func (.func 44) #[] #[.pointer (some ⟨W.heap.size + 1, 0, none⟩)], .int .i64 ((k : Int) + 1), .pointer (some ⟨pb, k * 17, none⟩), undef, undef, undef, undef, undef, undef, undef, undef, undef, undef, undef, undef, undef, undef, undef, undef, undef, undef], defers := [] }) ?assign ?body ?done ?stop
  case assign =>
    intro n' l' k W2 K hK
    gi_wp2
    exact hK
  case body =>
    rintro n' l' k W2 hk ⟨hJ2, hc2⟩ hz2
    rcases hY k W2 hk hJ2 with ⟨hs, hy0⟩ | ⟨hs, hJ3⟩
    · obtain ⟨s, hsc, hsb⟩ := selD_some hs
      obtain ⟨fy, ty, ay, by1, hy, hR⟩ := hy0 (n' - 1)
      clear hY hJU cU0 cU cUq hy0 hs
      have hs2 : s = 2 ∨ s = 0 := by simpa using hsb
      clear hsb
      rcases hs2 with rfl | rfl
      all_goals
        gi_wp2
        refine ⟨fun h => (by cases h), RoundIn.mono (F := Fence.wide.inRound l') hR ?_⟩
        rintro e W3 (⟨rfl, hJ3, hk3⟩ | ⟨rfl, hJx3, hk3⟩)
        · clear hR hy
          gi_wp2
          exact ⟨hk3.sub (fun b h1 h2 => .inl ⟨by omega, by omega⟩) (fun b hb => hb.elim (fun h => .inl ⟨by omega, by omega⟩) (fun h => .inr (.inr h))), hJ3, (hk3.cell (.inl ⟨by omega, by omega⟩)).trans hc2⟩
        · clear hR hy
          gi_wp2
          exact ⟨hk3.sub (fun b h1 h2 => .inl ⟨by omega, by omega⟩) (fun b hb => hb.elim (fun h => .inl ⟨by omega, by omega⟩) (fun h => .inr (.inr h))), rfl, hJx3⟩
    · obtain ⟨s, hsc, hsb⟩ := selD_some hs
      clear hY hJU cU0 cU cUq hs
      have hs2 : (s == 2) = false := by simp at hsb ⊢; exact hsb.1
      have hs0 : (s == 0) = false := by simp at hsb ⊢; exact hsb.2
      have hs2' : ¬ s = 2 := by simpa using hs2
      have hs0' : ¬ s = 0 := by simpa using hs0
      clear hsb
      gi_wp2
      refine ⟨fun _ h => (by cases h), ?_⟩
      gi_wp2
      exact ⟨Kq.refl _ _ _ _, hJ3, hc2⟩
  case done =>
    rintro W2 ⟨hJ2, _⟩ hD
    gi_wp2
    refine ⟨by simp, .inl ⟨_, _, rfl, run_takeDeferred hD, ?_⟩⟩
    exact ⟨_, results_none rfl _ _ _, ⟨_, rfl⟩, .inl (hJ.putObj _ hJ2 (by omega) hD rfl)⟩
  case stop =>
    rintro c W2 ⟨rfl, hx⟩ hD
    gi_wp2
    refine ⟨by simp, .inl ⟨_, _, rfl, run_takeDeferred hD, ?_⟩⟩
    exact ⟨_, results_none rfl _ _ _, ⟨_, rfl⟩, .inr (own_put hJx _ hx (by omega) hD rfl)⟩
end Go.Proofs.Ytconfmjgoipejaa
