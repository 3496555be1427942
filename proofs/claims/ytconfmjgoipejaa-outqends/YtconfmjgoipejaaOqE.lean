/- outq: Expire. -/
import Derived.Test.YtconfmjgoipejaaOqX
namespace Go.Proofs.Ytconfmjgoipejaa
open Go.RowKit Go.Shelf
attribute [local go_sem] Oper.semAt_some
structure ExpP (w : World) (q nb : Nat) (pa : Option Addr) (cap : Nat) (L : List PcA) (cum size : Nat) (nx : List Nat) (wy : Int) (e : Ending) (w' : World) : Prop where
  ex : e = .returned (.tuple #[.int .i64 (sumG (selP wy) L L.length : Nat), .int .i64 0])
  qu : QuW w' q nb pa cap (L.map (expP wy)) cum size nx
  fr : Fr (qB q nb pa) w w'
set_option maxRecDepth 100000 in
set_option maxHeartbeats 4000000 in
theorem expire_any {w : World} {q nb : Nat} {pa : Option Addr} {cap : Nat} {L : List PcA} {cum size : Nat} {nx : List Nat} (h : QuW w q nb pa cap L cum size nx) (hL : L.length ≤ 100000) (wy : Int) (hw0 : 0 ≤ wy) (hw2 : wy < 2) :
    Calls Try.prog 18 #[.pointer (some ⟨q, 0, none⟩), .int .i64 wy] w (ExpP w q nb pa cap L cum size nx wy) := by
  refine (callsIn_wide (n := 3)).1 ?_
  refine callsIn_of_wp_marks Try.func18 rfl trivial ?_ rfl
  simp only [Try.ntmps18, List.size_toArray, List.length_cons, List.length_nil, Nat.reduceAdd, Nat.reduceSub, Array.replicate_succ, Array.replicate_zero, List.push_toArray, List.append_toArray, List.nil_append, List.cons_append]
  gi_wp2
  have hway := isWay_any wy w
  rw [decide_eq_true ⟨hw0, hw2⟩] at hway
  refine ⟨trivial, (callsIn_wide.2 hway).mono ?_⟩
  clear hway
  rintro e w1 ⟨rfl, b1⟩
  gi_wp2
  refine ⟨trivial, (callsIn_wide.2 (flyers_call _ _ _)).mono ?_⟩
  rintro e w' ⟨rfl, rfl⟩
  gi_wp2
  have hq1 := h.below b1
  obtain ⟨V, hV⟩ : ∃ V, V = w1.alloc (.cells #[.int .i64 0] 3) := ⟨_, rfl⟩
  obtain ⟨U1, hU1⟩ : ∃ U1, U1 = V.alloc (.cells #[.pointer (some ⟨q, 0, none⟩)] 23) := ⟨_, rfl⟩
  obtain ⟨U, hU⟩ : ∃ U, U = U1.alloc (.cells #[.int .i64 wy] 3) := ⟨_, rfl⟩
  have zV : V.heap.size = w1.heap.size + 1 := by rw [hV]; simp
  have zU1 : U1.heap.size = w1.heap.size + 2 := by rw [hU1]; simp; omega
  have zU : U.heap.size = w1.heap.size + 3 := by rw [hU]; simp; omega
  have xV := Cx.new w1 (.int .i64 0) 3 V hV
  have bV : Below w1.heap.size w1 V := by rw [hV]; exact (Below.refl _ _).alloc (Nat.le_refl _) _
  have bU1 : Below V.heap.size V U1 := by rw [hU1]; exact (Below.refl _ _).alloc (Nat.le_refl _) _
  have bU2 : Below U1.heap.size U1 U := by rw [hU]; exact (Below.refl _ _).alloc (Nat.le_refl _) _
  have bU : Below V.heap.size V U := bU1.trans (bU2.mono (by omega))
  have bWU : Below w1.heap.size w1 U := bV.trans (bU.mono (by omega))
  have cU : U.cell? ⟨w1.heap.size + 1, 0, none⟩ = some (.pointer (some ⟨q, 0, none⟩)) := (bU2.cell (p := ⟨w1.heap.size + 1, 0, none⟩) (by show w1.heap.size + 1 < U1.heap.size; omega)).trans (by rw [hU1, ← zV]; exact box_new V _ _)
  have cUw : U.cell? ⟨w1.heap.size + 2, 0, none⟩ = some (.int .i64 wy) := by rw [hU, ← zU1]; exact box_new U1 _ _
  have hqU := hq1.below bWU
  have hIU : ExR w q nb pa cap L cum size nx wy w1.heap.size 0 U := ⟨by rw [mapTo_zero]; exact hqU, (Fr.of_below b1).trans (Fr.of_below bWU), xV.below bU⟩
  have cUq : U.cell? ⟨q, 3, none⟩ = some (.slice pa L.length cap) := hqU.c3
  have hq : q < w1.heap.size := hq1.tq.lt
  obtain ⟨pb, hpa, hpc⟩ := h.at_
  have hnq : ∀ k, k < L.length → pa = some ⟨pb, 0, none⟩ ∧ pb ≠ q ∧ pb < w1.heap.size := fun k hk => by
    obtain ⟨x, hx⟩ : ∃ x, L[k]? = some x := ⟨_, List.getElem?_eq_getElem hk⟩
    have hbt := (hpc k x hx).1
    exact ⟨hpa.resolve_left (by omega), (h.neq pb hbt).1, Nat.lt_of_lt_of_le hbt.lt b1.size⟩
  rw [← hV, ← hU1, ← hU]
  have hsz := b1.size
  have hcnt := selP_le wy L
  clear hV hU1 hU bV bU bU1 bU2 xV hq1 hqU
  refine range_sel (gf := 45) (lb := #[.pointer (some ⟨w1.heap.size + 1, 0, none⟩), .pointer (some ⟨w1.heap.size + 2, 0, none⟩)]) rfl (enters_of Try.func45 (by kernel_rfl) rfl)
    (flyers_itr (w1.heap.size + 1) (w1.heap.size + 2) q pb L.length cap wy pa hpa (by omega)) (fun _ => rfl)
    (fun W2 h2 => ⟨(h2.cell (p := ⟨w1.heap.size + 1, 0, none⟩) (by show w1.heap.size + 1 < _; omega)).trans cU, (h2.cell (p := ⟨q, 3, none⟩) (by show q < _; omega)).trans cUq, (h2.cell (p := ⟨w1.heap.size + 2, 0, none⟩) (by show w1.heap.size + 2 < _; omega)).trans cUw⟩)
    (fun b hb => by rcases hb with rfl | rfl | rfl <;> omega)
    (ExR w q nb pa cap L cum size nx wy w1.heap.size)
    (fun k W2 => ExR w q nb pa cap L cum size nx wy w1.heap.size k W2 ∧ ∃ x, L[k]? = some x ∧ x.1.is = 1 ∧ (x.1.wy : Int) = wy)
    (fun _ _ => False)
    (fun s A B row hs hg hr => ⟨hs.qu.grown hg (fun r e => (hr r e).2), hs.fr.new hg (fun r e => by have := (hr r e).1; omega), hs.cx.grown hg (fun r e => (hr r e).2)⟩)
    (fun s A B row hs hg hr => ⟨⟨hs.1.qu.grown hg (fun r e => (hr r e).2), hs.1.fr.new hg (fun r e => by have := (hr r e).1; omega), hs.1.cx.grown hg (fun r e => (hr r e).2)⟩, hs.2⟩)
    (fun c s A B row hs hg hr => hs)
    hIU
    (fun k W2 hk hI => by
      obtain ⟨x, hxk⟩ : ∃ x, L[k]? = some x := ⟨_, List.getElem?_eq_getElem hk⟩
      have hmk : (mapTo (expP wy) L k)[k]? = some x := by rw [mapTo_get _ _ (Nat.le_of_lt hk) (Nat.le_refl _)]; exact hxk
      obtain ⟨pb2, hp2, hc2⟩ := hI.qu.at_
      have hpe : pb2 = pb := by
        have h1 := hp2.resolve_left (by rw [mapTo_len _ _ _ (Nat.le_of_lt hk)]; omega)
        rw [(hnq k hk).1] at h1
        injection h1 with h1
        injection h1 with h1
        exact h1.symm
      subst hpe
      have e1 := (hc2 k x hmk).2.1 14 _ rfl
      have e2 := (hc2 k x hmk).2.1 15 _ rfl
      unfold selF
      rw [e1, e2]
      dsimp only
      by_cases hs : x.1.is = 1 ∧ (x.1.wy : Int) = wy
      · refine .inl ⟨?_, hI, x, hxk, hs⟩
        rw [hs.1, hs.2]
        simp
      · refine .inr ⟨?_, ?_⟩
        · congr 1
          simp only [Bool.and_eq_false_imp, beq_iff_eq, beq_eq_false_iff_ne]
          exact fun h1 h2 => hs ⟨by omega, h2⟩
        · refine ⟨?_, hI.fr, ?_⟩
          · rw [← mapTo_id (expP wy) L hxk (by unfold expP; rw [if_neg hs])]
            exact hI.qu
          · have e : sumG (selP wy) L (k + 1) = sumG (selP wy) L k := by
              rw [sumG_succ hxk]
              unfold selP
              rw [if_neg hs, Nat.add_zero]
            rw [e]
            exact hI.cx)
    (fun k => { tmps := #[.pointer (some ⟨q, 0, none⟩), .int .i64 wy, undef, undef, .int .i64 0, .int .i64 0, .pointer (some ⟨w1.heap.size, 0, none⟩), .pointer (some ⟨pb, k * 17, none⟩), .pointer (some ⟨q, 0, none⟩), .bool false, .int .i64 wy, .bool true, .bool false, .pointer (some ⟨q, 0, none⟩), .int .i64 wy, .func (.func 45) #[] #[.pointer (some ⟨w1.heap.size + 1, 0, none⟩), .pointer (some ⟨w1.heap.size + 2, 0, none⟩)], .pointer (some ⟨pb, k * 17, none⟩), undef, undef, undef, undef, undef, undef], defers := [] }) ?assign ?body ?done ?stop
  case assign =>
    intro n' l' k W2 K hK
    gi_wp2
    exact hK
  case body =>
    rintro n' l' k W2 hk ⟨hI, x, hxk, hs1, hs2⟩ hz2
    have hmk : (mapTo (expP wy) L k)[k]? = some x := by rw [mapTo_get _ _ (Nat.le_of_lt hk) (Nat.le_refl _)]; exact hxk
    obtain ⟨hpa1, hpq, hpl⟩ := hnq k hk
    subst hpa1
    obtain ⟨pb2, hp2, hc2⟩ := hI.qu.at_
    have hpe : pb2 = pb := by
      have h1 := hp2.resolve_left (by rw [mapTo_len _ _ _ (Nat.le_of_lt hk)]; omega)
      injection h1 with h1
      injection h1 with h1
      exact h1.symm
    subst hpe
    have g1 := (hc2 k x hmk).2.1 14 _ rfl
    have f1 := (hc2 k x hmk).2.2 (k * 17 + 14)
    have hc := hI.cx.cell
    have hf := hI.cx.free
    have hcl := hcnt (k + 1)
    have e : sumG (selP wy) L (k + 1) = sumG (selP wy) L k + 1 := by
      rw [sumG_succ hxk]
      unfold selP
      rw [if_pos ⟨hs1, hs2⟩]
    have hwr : IntKind.i64.wrap ((sumG (selP wy) L k : Nat) + 1) = ((sumG (selP wy) L (k + 1) : Nat) : Int) := by
      rw [e] at hcl ⊢
      rw [IntKind.wrap_i64]
      omega
    have hex : expP wy x = ({ x.1 with is := 2 }, x.2) := by unfold expP; rw [if_pos ⟨hs1, hs2⟩]
    have q3 := hI.qu.put (j := 14) (v := .int .i64 2) (y := expP wy x) rfl hmk (by omega) (by rw [hex]; rfl) (by rw [hex]; exact ⟨rfl, rfl⟩)
    rw [mapTo_set _ _ hxk] at q3
    have hne : pb2 ≠ w1.heap.size := by omega
    have hcast : ((sumG (selP wy) L k : Nat) : Int) + 1 = ((sumG (selP wy) L (k + 1) : Nat) : Int) := by rw [e]; rfl
    have hx3 : Cx 3 w1.heap.size (.int .i64 (sumG (selP wy) L (k + 1) : Nat)) ((W2.setCell ⟨pb2, k * 17 + 14, none⟩ (.int .i64 2)).setCell ⟨w1.heap.size, 0, none⟩ (.int .i64 (sumG (selP wy) L (k + 1) : Nat))) := (hI.cx.other _ _ hne).set _
    have hf3 : Fr (qB q nb (some ⟨pb2, 0, none⟩)) w ((W2.setCell ⟨pb2, k * 17 + 14, none⟩ (.int .i64 2)).setCell ⟨w1.heap.size, 0, none⟩ (.int .i64 (sumG (selP wy) L (k + 1) : Nat))) := (hI.fr.put _ _ (.inl (.inr (.inr ⟨0, none, rfl⟩)))).put _ _ (.inr (by show w.heap.size ≤ w1.heap.size; omega))
    have h3 := q3.var ⟨w1.heap.size, 0, none⟩ (.int .i64 (sumG (selP wy) L (k + 1) : Nat)) (T := 3) (hI.cx.bt.setCell _ _) (by decide) (by decide) (by decide) (by decide)
    have H3 := (show Hid _ from And.intro h3 (And.intro hf3 hx3))
    clear h3 hf3 hx3 hcast e q3 hex hcl
    gi_wp2
    refine ⟨(Kq.set W2 _ _ ?_ ?_).trans (Kq.setB _ _ _ ?_ ?_), H3.out.1, H3.out.2.1, H3.out.2.2⟩
    · show ¬ (_ ≤ pb2 ∧ _)
      omega
    · show ¬ (pb2 = _ ∨ pb2 = _ ∨ pb2 = q)
      omega
    · omega
    · show ¬ (w1.heap.size = _ ∨ w1.heap.size = _ ∨ w1.heap.size = q)
      omega
  case done =>
    rintro W2 hI hD
    have hc2 := hI.cx.cell
    gi_wp2
    refine ⟨by simp, .inl ⟨_, _, rfl, run_takeDeferred hD, ?_⟩⟩
    refine ⟨_, results_tmp2 rfl _ _ _, rfl, ?_, hI.fr.new (grownBy_putObj' _ _ _) (fun k hk => by
      obtain rfl := Option.some.inj hk
      omega)⟩
    have := hI.qu.grown (grownBy_putObj' W2 U.heap.size (.deferred none)) (fun r e => by cases e; exact ⟨_, hD, rfl⟩)
    rwa [mapTo_all] at this
  case stop =>
    rintro c W2 hF hD
    exact hF.elim
end Go.Proofs.Ytconfmjgoipejaa
