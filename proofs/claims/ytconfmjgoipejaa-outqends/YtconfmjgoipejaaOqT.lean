/- outq: top. -/
import Derived.Test.YtconfmjgoipejaaOqE
namespace Go.Proofs.Ytconfmjgoipejaa
open Go.RowKit Go.Shelf
attribute [local go_sem] Oper.semAt_some
/-- How many pieces at the beginning are not fresh. -/
def topL : List PcA → Nat
  | [] => 0
  | x :: l => if x.1.is = 0 then 0 else topL l + 1
theorem topL_le : ∀ L : List PcA, topL L ≤ L.length
  | [] => Nat.le_refl _
  | x :: l => by
    unfold topL
    have := topL_le l
    split
    · exact Nat.zero_le _
    · simpa using this
theorem topL_all : ∀ L : List PcA, (∀ x ∈ L, ¬ x.1.is = 0) → topL L = L.length
  | [], _ => rfl
  | x :: l, h => by
    unfold topL
    rw [if_neg (h x List.mem_cons_self), topL_all l (fun y hy => h y (List.mem_cons_of_mem _ hy))]
    rfl
theorem topL_at : ∀ (L : List PcA) (k : Nat) (x : PcA), L[k]? = some x → x.1.is = 0 → (∀ y ∈ L.take k, ¬ y.1.is = 0) → topL L = k
  | [], k, x, h, _, _ => by simp at h
  | y :: l, 0, x, h, h0, _ => by
    obtain rfl : y = x := by simpa using h
    unfold topL
    rw [if_pos h0]
  | y :: l, k + 1, x, h, h0, hn => by
    unfold topL
    rw [if_neg (hn y (by simp)), topL_at l k x (by simpa using h) h0 (fun z hz => hn z (by simp [hz]))]
set_option maxRecDepth 100000 in
set_option maxHeartbeats 2000000 in
theorem top_any {w : World} {q nb : Nat} {pa : Option Addr} {cap : Nat} {L : List PcA} {cum size : Nat} {nx : List Nat} (h : QuW w q nb pa cap L cum size nx) (hL : L.length ≤ 100000) :
    Calls Try.prog 47 #[.pointer (some ⟨q, 0, none⟩)] w fun e w' => e = .returned (.int .i64 (topL L : Nat)) ∧ Below w.heap.size w w' := by
  refine (callsIn_wide (n := 3)).1 ?_
  refine callsIn_of_wp_marks Try.func47 rfl trivial ?_ rfl
  simp only [Try.ntmps47, List.size_toArray, List.length_cons, List.length_nil, Nat.reduceAdd, Nat.reduceSub, Array.replicate_succ, Array.replicate_zero, List.push_toArray, List.append_toArray, List.nil_append, List.cons_append]
  gi_wp2
  refine ⟨trivial, (callsIn_wide.2 (steps_call _ _)).mono ?_⟩
  rintro e w' ⟨rfl, rfl⟩
  gi_wp2
  obtain ⟨V, hV⟩ : ∃ V, V = w.alloc (.cells #[.int .i64 0] 3) := ⟨_, rfl⟩
  obtain ⟨U, hU⟩ : ∃ U, U = V.alloc (.cells #[.pointer (some ⟨q, 0, none⟩)] 23) := ⟨_, rfl⟩
  have zV : V.heap.size = w.heap.size + 1 := by rw [hV]; simp
  have zU : U.heap.size = w.heap.size + 2 := by rw [hU]; simp; omega
  have xV := Bx.new w (.int .i64 0) 3 V hV
  have bV := xV.bel
  have bU : Below V.heap.size V U := by rw [hU]; exact (Below.refl _ _).alloc (Nat.le_refl _) _
  have bWU : Below w.heap.size w U := bV.trans (bU.mono (by omega))
  have cU : U.cell? ⟨w.heap.size + 1, 0, none⟩ = some (.pointer (some ⟨q, 0, none⟩)) := by rw [hU, ← zV]; exact box_new V _ _
  have xU : Bx w w.heap.size w.heap.size (.int .i64 ((0 : Nat) : Int)) U := xV.below bU (by omega) (by omega)
  have hq := h.tq.lt
  have cUq : U.cell? ⟨q, 3, none⟩ = some (.slice pa L.length cap) := (bWU.cell (p := ⟨q, 3, none⟩) hq).trans h.c3
  obtain ⟨pb, hpa, hpc⟩ := h.at_
  rw [← hV, ← hU]
  have hx : ∀ k, k < L.length → ∃ x, L[k]? = some x := fun k hk => ⟨_, List.getElem?_eq_getElem hk⟩
  clear hV hU bV bU xV
  refine range_sel (gf := 44) (lb := #[.pointer (some ⟨w.heap.size + 1, 0, none⟩)]) rfl (enters_of Try.func44 (by kernel_rfl) rfl)
    (steps_itr (w.heap.size + 1) q pb L.length cap pa hpa (by omega)) (fun _ => rfl)
    (fun W2 h2 => ⟨(h2.cell (p := ⟨w.heap.size + 1, 0, none⟩) (by show w.heap.size + 1 < _; omega)).trans cU, (h2.cell (p := ⟨q, 3, none⟩) (by show q < _; omega)).trans cUq⟩)
    (fun b hb => by rcases hb with rfl | rfl <;> omega)
    (fun k W2 => (Bx w w.heap.size w.heap.size (.int .i64 (k : Nat)) W2 ∧ w.heap.size ≤ W2.heap.size) ∧ ∀ y ∈ L.take k, ¬ y.1.is = 0)
    (fun k W2 => (Bx w w.heap.size w.heap.size (.int .i64 (k : Nat)) W2 ∧ w.heap.size ≤ W2.heap.size) ∧ ∀ y ∈ L.take k, ¬ y.1.is = 0)
    (fun c W2 => c = .exit 0 ∧ Bx w w.heap.size w.heap.size (.int .i64 (topL L : Nat)) W2 ∧ w.heap.size ≤ W2.heap.size)
    (fun s A B row hs hg hr => ⟨⟨hs.1.1.grown (by omega) hs.1.2 hg hr, Nat.le_trans hs.1.2 hg.size⟩, hs.2⟩)
    (fun s A B row hs hg hr => ⟨⟨hs.1.1.grown (by omega) hs.1.2 hg hr, Nat.le_trans hs.1.2 hg.size⟩, hs.2⟩)
    (fun c s A B row hs hg hr => ⟨hs.1, hs.2.1.grown (by omega) hs.2.2 hg hr, Nat.le_trans hs.2.2 hg.size⟩)
    ⟨⟨xU, by omega⟩, fun y hy => by simp at hy⟩
    (fun k W2 _ h => .inl ⟨rfl, h⟩)
    (fun k => { tmps := #[.pointer (some ⟨q, 0, none⟩), undef, .int .i64 0, .pointer (some ⟨w.heap.size, 0, none⟩), .int .i64 ((k : Int) + 1), .pointer (some ⟨pb, k * 17, none⟩), .pointer (some ⟨q, 0, none⟩), .func (.func 44) #[] #[.pointer (some ⟨w.heap.size + 1, 0, none⟩)], .int .i64 ((k : Int) + 1), .pointer (some ⟨pb, k * 17, none⟩), undef, undef, undef, undef, undef, undef, undef], defers := [] }) ?assign ?body ?done ?stop
  case assign =>
    intro n' l' k W2 K hK
    gi_wp2
    exact hK
  case body =>
    rintro n' l' k W2 hk ⟨⟨hx2, hz⟩, hn⟩ hz2
    obtain ⟨x, hxk⟩ := hx k hk
    have hcx2 : W2.cell? ⟨pb, k * 17 + 14, none⟩ = some (.int .i64 (x.1.is : Nat)) := piece_at hx2.bel (Nat.le_refl _) (hpc k x hxk) 14 _ rfl
    have hc2 := hx2.cell
    have hf2 := hx2.free
    obtain ⟨is, his⟩ : ∃ is, is = x.1.is := ⟨_, rfl⟩
    rw [← his] at hcx2
    have HIS := (show Hid _ from his)
    clear his
    by_cases h0 : is = 0
    · have ht := topL_at L k x hxk (by rw [← HIS.out]; exact h0) hn
      have HT := (show Hid _ from ht)
      have hz0 : ((is : Int) == 0) = true := by simp [h0]
      subst h0
      clear ht hn
      gi_wp2
      exact ⟨Kq.refl _ _ _ _, rfl, by rw [HT.out]; exact hx2, hz⟩
    · have hz0 : ((is : Int) == 0) = false := by simp; exact h0
      have HN : Hid (∀ y ∈ L.take (k + 1), ¬ y.1.is = 0) := by
        show ∀ _, _
        intro y hy
        rw [List.take_add_one, hxk] at hy
        rcases List.mem_append.1 hy with hy | hy
        · exact hn y hy
        · obtain rfl : y = x := by simpa using hy
          rw [← HIS.out]; exact h0
      clear hn
      gi_wp2
      exact ⟨Kq.setB W2 _ _ (by omega) (by show ¬ (w.heap.size = _ ∨ w.heap.size = q); omega), ⟨hx2.set (Nat.le_refl _) _, by simpa [World.setCell] using hz⟩, HN.out⟩
  case done =>
    rintro W2 ⟨⟨hx2, hz⟩, hn⟩ hD
    have HT : Hid (topL L = L.length) := topL_all L (fun y hy => hn y (by rwa [List.take_length]))
    have hc2 := hx2.cell
    clear hn
    gi_wp2
    refine ⟨by simp, .inl ⟨_, _, rfl, run_takeDeferred hD, ?_⟩⟩
    exact ⟨_, results_tmp rfl _ _ _, by rw [HT.out]; rfl, hx2.bel.grown (grownBy_putObj' _ _ _) hz (fun k hk => by
      obtain rfl := Option.some.inj hk
      omega)⟩
  case stop =>
    rintro c W2 ⟨rfl, hx2, hz⟩ hD
    have hc2 := hx2.cell
    gi_wp2
    refine ⟨by simp, .inl ⟨_, _, rfl, run_takeDeferred hD, ?_⟩⟩
    exact ⟨_, results_tmp rfl _ _ _, rfl, hx2.bel.grown (grownBy_putObj' _ _ _) hz (fun k hk => by
      obtain rfl := Option.some.inj hk
      omega)⟩
end Go.Proofs.Ytconfmjgoipejaa
