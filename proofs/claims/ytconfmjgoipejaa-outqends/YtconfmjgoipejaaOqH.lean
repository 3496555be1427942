/- outq: Flight. -/
import Derived.Test.YtconfmjgoipejaaOqG
namespace Go.Proofs.Ytconfmjgoipejaa
open Go.RowKit Go.Shelf
attribute [local go_sem] Oper.semAt_some
/-- What a piece's cells tell of it. -/
theorem piece_at {w W : World} {n0 : Nat} (hb : Below n0 w W) (h0 : w.heap.size ≤ n0) {pb k : Nat} {x : PcA}
    (hpc : BT w pb 82 ∧ (∀ (i : Nat) u, (pcV x)[i]? = some u → w.cell? ⟨pb, k * 17 + i, none⟩ = some u) ∧ ∀ i, w.frozen? ⟨pb, i, none⟩ = false) (i : Nat) (u : Value) (hu : (pcV x)[i]? = some u) : W.cell? ⟨pb, k * 17 + i, none⟩ = some u :=
  (hb.cell (p := ⟨pb, k * 17 + i, none⟩) (by have := hpc.1.lt; show pb < n0; omega)).trans (hpc.2.1 i u hu)
theorem wrap_sum {f : PcA → Nat} {L : List PcA} {k : Nat} {x : PcA} (hxk : L[k]? = some x) (hle : sumG f L L.length ≤ 1000000000) : IntKind.i64.wrap ((sumG f L k : Nat) + (f x : Nat)) = ((sumG f L (k + 1) : Nat) : Int) := by
  have h1 := sumG_up f L (k + 1)
  rw [sumG_succ hxk] at h1 ⊢
  rw [IntKind.wrap_i64]
  omega
set_option maxRecDepth 100000 in
set_option maxHeartbeats 2000000 in
theorem flight_any {w : World} {q nb : Nat} {pa : Option Addr} {cap : Nat} {L : List PcA} {cum size : Nat} {nx : List Nat} (h : QuW w q nb pa cap L cum size nx) (hL : L.length ≤ 100000) (hS : sumL L L.length ≤ 100000) (wy : Int) :
    Calls Try.prog 16 #[.pointer (some ⟨q, 0, none⟩), .int .i64 wy] w fun e w' => e = .returned (.int .i64 (sumG (flyP wy) L L.length : Nat)) ∧ Below w.heap.size w w' := by
  refine (callsIn_wide (n := 3)).1 ?_
  refine callsIn_of_wp_marks Try.func16 rfl trivial ?_ rfl
  simp only [Try.ntmps16, List.size_toArray, List.length_cons, List.length_nil, Nat.reduceAdd, Nat.reduceSub, Array.replicate_succ, Array.replicate_zero, List.push_toArray, List.append_toArray, List.nil_append, List.cons_append]
  gi_wp2
  refine ⟨trivial, (callsIn_wide.2 (flyers_call _ _ _)).mono ?_⟩
  rintro e w' ⟨rfl, rfl⟩
  gi_wp2
  obtain ⟨V, hV⟩ : ∃ V, V = w.alloc (.cells #[.int .i64 0] 3) := ⟨_, rfl⟩
  obtain ⟨U1, hU1⟩ : ∃ U1, U1 = V.alloc (.cells #[.pointer (some ⟨q, 0, none⟩)] 23) := ⟨_, rfl⟩
  obtain ⟨U, hU⟩ : ∃ U, U = U1.alloc (.cells #[.int .i64 wy] 3) := ⟨_, rfl⟩
  have zV : V.heap.size = w.heap.size + 1 := by rw [hV]; simp
  have zU1 : U1.heap.size = w.heap.size + 2 := by rw [hU1]; simp; omega
  have zU : U.heap.size = w.heap.size + 3 := by rw [hU]; simp; omega
  have xV := Bx.new w (.int .i64 0) 3 V hV
  have bV := xV.bel
  have bU1 : Below V.heap.size V U1 := by rw [hU1]; exact (Below.refl _ _).alloc (Nat.le_refl _) _
  have bU2 : Below U1.heap.size U1 U := by rw [hU]; exact (Below.refl _ _).alloc (Nat.le_refl _) _
  have bU : Below V.heap.size V U := bU1.trans (bU2.mono (by omega))
  have bWU : Below w.heap.size w U := bV.trans (bU.mono (by omega))
  have cU : U.cell? ⟨w.heap.size + 1, 0, none⟩ = some (.pointer (some ⟨q, 0, none⟩)) := (bU2.cell (p := ⟨w.heap.size + 1, 0, none⟩) (by show w.heap.size + 1 < U1.heap.size; omega)).trans (by rw [hU1, ← zV]; exact box_new V _ _)
  have cUw : U.cell? ⟨w.heap.size + 2, 0, none⟩ = some (.int .i64 wy) := by rw [hU, ← zU1]; exact box_new U1 _ _
  have xU : Bx w w.heap.size w.heap.size (.int .i64 (sumG (flyP wy) L 0 : Nat)) U := xV.below bU (by omega) (by omega)
  have hq := h.tq.lt
  have cUq : U.cell? ⟨q, 3, none⟩ = some (.slice pa L.length cap) := (bWU.cell (p := ⟨q, 3, none⟩) hq).trans h.c3
  obtain ⟨pb, hpa, hpc⟩ := h.at_
  rw [← hV, ← hU1, ← hU]
  have hx : ∀ k, k < L.length → ∃ x, L[k]? = some x := fun k hk => ⟨_, List.getElem?_eq_getElem hk⟩
  have hc0 := cUq
  have bU0 := bWU
  have hfs : sumG (flyP wy) L L.length ≤ 1000000000 := by
    have := sumG_le (flyP_le wy) L L.length
    rw [sumL_G] at hS
    omega
  clear hV hU1 hU bV bU bU1 bU2 xV
  refine range_sel (gf := 45) (lb := #[.pointer (some ⟨w.heap.size + 1, 0, none⟩), .pointer (some ⟨w.heap.size + 2, 0, none⟩)]) rfl (enters_of Try.func45 (by kernel_rfl) rfl)
    (flyers_itr (w.heap.size + 1) (w.heap.size + 2) q pb L.length cap wy pa hpa (by omega)) (fun _ => rfl)
    (fun W2 h2 => ⟨(h2.cell (p := ⟨w.heap.size + 1, 0, none⟩) (by show w.heap.size + 1 < _; omega)).trans cU, (h2.cell (p := ⟨q, 3, none⟩) (by show q < _; omega)).trans cUq, (h2.cell (p := ⟨w.heap.size + 2, 0, none⟩) (by show w.heap.size + 2 < _; omega)).trans cUw⟩)
    (fun b hb => by rcases hb with rfl | rfl | rfl <;> omega)
    (fun k W2 => Bx w w.heap.size w.heap.size (.int .i64 (sumG (flyP wy) L k : Nat)) W2 ∧ w.heap.size ≤ W2.heap.size)
    (fun k W2 => (Bx w w.heap.size w.heap.size (.int .i64 (sumG (flyP wy) L k : Nat)) W2 ∧ w.heap.size ≤ W2.heap.size) ∧ ∃ x, L[k]? = some x ∧ flyP wy x = x.1.zs.length)
    (fun _ _ => False)
    (fun s A B row hs hg hr => ⟨hs.1.grown (by omega) hs.2 hg hr, Nat.le_trans hs.2 hg.size⟩)
    (fun s A B row hs hg hr => ⟨⟨hs.1.1.grown (by omega) hs.1.2 hg hr, Nat.le_trans hs.1.2 hg.size⟩, hs.2⟩)
    (fun c s A B row hs hg hr => hs)
    ⟨xU, by omega⟩
    (fun k W2 hk hI => by
      obtain ⟨x, hxk⟩ := hx k hk
      have e1 := piece_at hI.1.bel (Nat.le_refl _) (hpc k x hxk) 14 _ rfl
      have e2 := piece_at hI.1.bel (Nat.le_refl _) (hpc k x hxk) 15 _ rfl
      unfold selF
      rw [e1, e2]
      dsimp only
      by_cases hs : x.1.is = 1 ∧ (x.1.wy : Int) = wy
      · refine .inl ⟨?_, hI, x, hxk, by unfold flyP; rw [if_pos hs]⟩
        rw [hs.1, hs.2]
        simp
      · refine .inr ⟨?_, ?_⟩
        · congr 1
          simp only [Bool.and_eq_false_imp, beq_iff_eq, beq_eq_false_iff_ne]
          exact fun h1 h2 => hs ⟨by omega, h2⟩
        · rw [sumG_succ hxk]
          unfold flyP at hI ⊢
          rw [if_neg hs, Nat.add_zero]
          exact hI)
    (fun k => { tmps := #[.pointer (some ⟨q, 0, none⟩), .int .i64 wy, undef, undef, .int .i64 0, .pointer (some ⟨w.heap.size, 0, none⟩), .pointer (some ⟨pb, k * 17, none⟩), .pointer (some ⟨q, 0, none⟩), .bool false, .pointer (some ⟨q, 0, none⟩), .int .i64 wy, .func (.func 45) #[] #[.pointer (some ⟨w.heap.size + 1, 0, none⟩), .pointer (some ⟨w.heap.size + 2, 0, none⟩)], .pointer (some ⟨pb, k * 17, none⟩), undef, undef, undef, undef, undef, undef, undef, undef, undef], defers := [] }) ?assign ?body ?done ?stop
  case assign =>
    intro n' l' k W2 K hK
    gi_wp2
    exact hK
  case body =>
    rintro n' l' k W2 hk ⟨⟨hx2, hz⟩, x, hxk, hfx⟩ hz2
    have hcx2 : W2.cell? ⟨pb, k * 17 + 13, none⟩ = some (.slice x.2.1 x.1.zs.length x.2.2) := piece_at hx2.bel (Nat.le_refl _) (hpc k x hxk) 13 _ rfl
    have hc2 := hx2.cell
    have hf2 := hx2.free
    have hwr := wrap_sum hxk hfs
    rw [hfx] at hwr
    gi_wp2
    gi_region
    all_goals
      gi_wp2
      exact ⟨Kq.setDrew W2 _ _ (by omega) (by show ¬ (w.heap.size = _ ∨ w.heap.size = _ ∨ w.heap.size = q); omega), (hx2.set (Nat.le_refl _) _).drew, by simpa [World.setCell] using hz⟩
  case done =>
    rintro W2 ⟨hx2, hz⟩ hD
    have hc2 := hx2.cell
    gi_wp2
    refine ⟨by simp, .inl ⟨_, _, rfl, run_takeDeferred hD, ?_⟩⟩
    exact ⟨_, results_tmp rfl _ _ _, rfl, hx2.bel.grown (grownBy_putObj' _ _ _) hz (fun k hk => by
      obtain rfl := Option.some.inj hk
      omega)⟩
  case stop =>
    rintro c W2 hF hD
    exact hF.elim
end Go.Proofs.Ytconfmjgoipejaa
