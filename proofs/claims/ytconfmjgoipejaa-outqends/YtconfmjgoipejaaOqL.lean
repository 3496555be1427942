/- outq: Left. -/
import Derived.Test.YtconfmjgoipejaaOqB
namespace Go.Proofs.Ytconfmjgoipejaa
open Go.RowKit Go.Shelf
attribute [local go_sem] Oper.semAt_some
set_option maxRecDepth 100000 in
set_option maxHeartbeats 2000000 in
theorem left_any {w : World} {q nb : Nat} {pa : Option Addr} {cap : Nat} {L : List PcA} {cum size : Nat} {nx : List Nat} (h : QuW w q nb pa cap L cum size nx) (hL : L.length ≤ 100000) (hS : sumL L L.length ≤ 100000) :
    Calls Try.prog 15 #[.pointer (some ⟨q, 0, none⟩)] w fun e w' => e = .returned (.tuple #[.int .i64 (L.length : Nat), .int .i64 (sumL L L.length : Nat)]) ∧ Below w.heap.size w w' := by
  refine (callsIn_wide (n := 3)).1 ?_
  refine callsIn_of_wp_marks Try.func15 rfl trivial ?_ rfl
  simp only [Try.ntmps15, List.size_toArray, List.length_cons, List.length_nil, Nat.reduceAdd, Nat.reduceSub, Array.replicate_succ, Array.replicate_zero, List.push_toArray, List.append_toArray, List.nil_append, List.cons_append]
  gi_wp2
  refine ⟨trivial, (callsIn_wide.2 (steps_call _ _)).mono ?_⟩
  rintro e w' ⟨rfl, rfl⟩
  gi_wp2
  obtain ⟨V, hV⟩ : ∃ V, V = w.alloc (.cells #[.int .i64 0] 3) := ⟨_, rfl⟩
  obtain ⟨U, hU⟩ : ∃ U, U = V.alloc (.cells #[.pointer (some ⟨q, 0, none⟩)] 23) := ⟨_, rfl⟩
  have zV : V.heap.size = w.heap.size + 1 := by rw [hV]; simp
  have zU : U.heap.size = w.heap.size + 2 := by rw [hU]; simp; omega
  have xV := Bx.new w (.int .i64 0) 3 V hV
  have bV := xV.bel
  have bU : Below V.heap.size V U := by rw [hU]; exact (Below.refl _ _).alloc (Nat.le_refl _) _
  have bWU : Below w.heap.size w U := bV.trans (bU.mono (by omega))
  have cU : U.cell? ⟨w.heap.size + 1, 0, none⟩ = some (.pointer (some ⟨q, 0, none⟩)) := by rw [hU, ← zV]; exact box_new V _ _
  have xU : Bx w w.heap.size w.heap.size (.int .i64 (sumL L 0 : Nat)) U := xV.below bU (by omega) (by omega)
  have hq := h.tq.lt
  have cUq : U.cell? ⟨q, 3, none⟩ = some (.slice pa L.length cap) := (bWU.cell (p := ⟨q, 3, none⟩) hq).trans h.c3
  obtain ⟨pb, hpa, hpc⟩ := h.at_
  rw [← hV, ← hU]
  have hx : ∀ k, k < L.length → ∃ x, L[k]? = some x := fun k hk => ⟨_, List.getElem?_eq_getElem hk⟩
  have hsz : pa = some ⟨pb, 0, none⟩ ∨ L.length = 0 := hpa.elim .inr .inl
  have hc0 := cUq
  have bU0 := bWU
  clear hV hU bV bU xV
  refine range_sel (gf := 44) (lb := #[.pointer (some ⟨w.heap.size + 1, 0, none⟩)]) rfl (enters_of Try.func44 (by kernel_rfl) rfl)
    (steps_itr (w.heap.size + 1) q pb L.length cap pa hpa (by omega)) (fun _ => rfl)
    (fun W2 h2 => ⟨(h2.cell (p := ⟨w.heap.size + 1, 0, none⟩) (by show w.heap.size + 1 < _; omega)).trans cU, (h2.cell (p := ⟨q, 3, none⟩) (by show q < _; omega)).trans cUq⟩)
    (fun b hb => by rcases hb with rfl | rfl <;> omega)
    (fun k W2 => Bx w w.heap.size w.heap.size (.int .i64 (sumL L k : Nat)) W2 ∧ w.heap.size ≤ W2.heap.size)
    (fun k W2 => Bx w w.heap.size w.heap.size (.int .i64 (sumL L k : Nat)) W2 ∧ w.heap.size ≤ W2.heap.size)
    (fun _ _ => False)
    (fun s A B row hs hg hr => ⟨hs.1.grown (by omega) hs.2 hg hr, Nat.le_trans hs.2 hg.size⟩)
    (fun s A B row hs hg hr => ⟨hs.1.grown (by omega) hs.2 hg hr, Nat.le_trans hs.2 hg.size⟩)
    (fun c s A B row hs hg hr => hs)
    ⟨xU, by omega⟩
    (fun k W2 _ h => .inl ⟨rfl, h⟩)
    (fun k => { tmps := #[.pointer (some ⟨q, 0, none⟩), undef, .int .i64 0, .int .i64 0, .pointer (some ⟨w.heap.size, 0, none⟩), undef, .pointer (some ⟨pb, k * 17, none⟩), .pointer (some ⟨q, 0, none⟩), .bool false, .pointer (some ⟨q, 0, none⟩), .func (.func 44) #[] #[.pointer (some ⟨w.heap.size + 1, 0, none⟩)], .int .i64 ((k : Int) + 1), .pointer (some ⟨pb, k * 17, none⟩), undef, undef, undef, undef, undef, undef, undef, undef, undef, undef, undef, undef, undef, undef], defers := [] }) ?assign ?body ?done ?stop
  case assign =>
    intro n' l' k W2 K hK
    gi_wp2
    exact hK
  case body =>
    rintro n' l' k W2 hk ⟨hx2, hz⟩ hz2
    obtain ⟨x, hxk⟩ := hx k hk
    have hcx := (hpc k x hxk).2.1 13 _ rfl
    have hcx2 : W2.cell? ⟨pb, k * 17 + 13, none⟩ = some (.slice x.2.1 x.1.zs.length x.2.2) := (hx2.bel.cell (p := ⟨pb, k * 17 + 13, none⟩) (hpc k x hxk).1.lt).trans hcx
    have hc2 := hx2.cell
    have hf2 := hx2.free
    have hle := sumL_le (L := L) (k + 1)
    have hwr : IntKind.i64.wrap ((sumL L k : Nat) + (x.1.zs.length : Nat)) = ((sumL L (k + 1) : Nat) : Int) := by
      rw [sumL_succ hxk] at hle ⊢
      rw [IntKind.wrap_i64]
      omega
    gi_wp2
    gi_region
    all_goals
      gi_wp2
      exact ⟨Kq.setDrew W2 _ _ (by omega) (by show ¬ (w.heap.size = _ ∨ w.heap.size = q); omega), (hx2.set (Nat.le_refl _) _).drew, by simpa [World.setCell] using hz⟩
  case done =>
    rintro W2 ⟨hx2, hz⟩ hD
    have hc2 := hx2.cell
    have hq2 := (hx2.bel.cell (p := ⟨q, 3, none⟩) hq).trans h.c3
    gi_wp2
    gi_region
    all_goals
      (try gi_wp2)
      refine ⟨by simp, .inl ⟨_, _, rfl, run_takeDeferred hD, ?_⟩⟩
      exact ⟨_, results_tmp2 rfl _ _ _, rfl, (hx2.bel.drew).grown (grownBy_putObj' _ _ _) hz (fun k hk => by
        obtain rfl := Option.some.inj hk
        omega)⟩
  case stop =>
    rintro c W2 hF hD
    exact hF.elim
end Go.Proofs.Ytconfmjgoipejaa
