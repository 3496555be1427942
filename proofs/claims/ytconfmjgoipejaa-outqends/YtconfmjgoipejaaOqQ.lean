/- outq: miss. -/
import Derived.Test.YtconfmjgoipejaaOqO
namespace Go.Proofs.Ytconfmjgoipejaa
open Go.RowKit Go.Shelf
attribute [local go_sem] Oper.semAt_some
/-- A piece that another one overtook. -/
def misP (x : PcA) : PcA := if x.1.is = 1 then ({ x.1 with ms := x.1.ms + 1, is := if x.1.ms + 1 = 3 then 2 else x.1.is }, x.2) else x
def fastP (x : PcA) : Nat := if x.1.is = 1 ∧ x.1.ms + 1 = 3 then 1 else 0
structure MisR (w : World) (q nb : Nat) (pa : Option Addr) (cap : Nat) (L : List PcA) (cum size : Nat) (nx : List Nat) (ab b0 b1 : Nat) (mv fs : Bool) (N : Nat) (e : Ending) (w' : World) : Prop where
  ex : e = .returned (.tuple #[])
  qu : QuW w' q nb pa cap (mapI (fun _ => misP) L N) cum size nx
  ac : AcW ab b0 b1 mv (fs || decide (0 < sumG fastP L N)) w'
  fr : Fr (qA q nb pa ab) w w'
structure MsI (w : World) (q nb : Nat) (pa : Option Addr) (cap : Nat) (L : List PcA) (cum size : Nat) (nx : List Nat) (ab b0 b1 : Nat) (mv fs : Bool) (far N S : Nat) (k : Nat) (W : World) : Prop where
  qu : QuW W q nb pa cap (mapI (fun _ => misP) L k) cum size nx
  ac : AcW ab b0 b1 mv (fs || decide (0 < sumG fastP L k)) W
  fr : Fr (qA q nb pa ab) w W
  fx : Cx 3 S (.int .i64 (far : Nat)) W
  bx : Cx 97 (S + 1) (.pointer (some ⟨ab, 0, none⟩)) W
  le : k ≤ N
section
variable {w W W' : World} {q nb : Nat} {pa : Option Addr} {cap : Nat} {L : List PcA} {cum size : Nat} {nx : List Nat} {ab b0 b1 : Nat} {mv fs : Bool} {far N S k : Nat}
theorem MsI.grown {row : Option Nat} {B : Nat} (hs : MsI w q nb pa cap L cum size nx ab b0 b1 mv fs far N S k W) (hB : w.heap.size ≤ B) (hg : W.grownBy W' row) (hr : ∀ r, row = some r → B ≤ r ∧ ∃ o : Obj, W.heap[r]? = some o ∧ o.isCells = false) : MsI w q nb pa cap L cum size nx ab b0 b1 mv fs far N S k W' :=
  ⟨hs.qu.grown hg (fun r e => (hr r e).2), hs.ac.grown hg (fun r e => (hr r e).2), hs.fr.new hg (fun r e => by have := (hr r e).1; omega), hs.fx.grown hg (fun r e => (hr r e).2), hs.bx.grown hg (fun r e => (hr r e).2), hs.le⟩
/-- A piece that does not fly. -/
theorem MsI.skip (hs : MsI w q nb pa cap L cum size nx ab b0 b1 mv fs far N S k W) {x : PcA} (hx : L[k]? = some x) (h1 : ¬ x.1.is = 1) (hN : k + 1 ≤ N) : MsI w q nb pa cap L cum size nx ab b0 b1 mv fs far N S (k + 1) W :=
  ⟨by rw [← mapI_id (fun _ => misP) L hx (by unfold misP; rw [if_neg h1])]; exact hs.qu, by
    rw [sumG_succ hx]
    have : fastP x = 0 := by unfold fastP; rw [if_neg (fun e => h1 e.1)]
    rw [this]
    exact hs.ac, hs.fr, hs.fx, hs.bx, hN⟩
/-- One that flies, missed less than thrice. -/
theorem MsI.one (hs : MsI w q nb pa cap L cum size nx ab b0 b1 mv fs far N S k W) {x : PcA} {pb : Nat} (hpa : pa = some ⟨pb, 0, none⟩) (hx : L[k]? = some x) (h1 : x.1.is = 1) (h3 : ¬ x.1.ms + 1 = 3) (hN : k + 1 ≤ N) :
    MsI w q nb pa cap L cum size nx ab b0 b1 mv fs far N S (k + 1) (W.setCell ⟨pb, k * 17 + 16, none⟩ (.int .i64 ((x.1.ms + 1 : Nat) : Int))) := by
  subst hpa
  have hmk : (mapI (fun _ => misP) L k)[k]? = some x := by rw [mapI_get _ _ (Nat.le_refl _)]; exact hx
  have hbt : BT W pb 82 := hs.qu.row.bt pb rfl
  have ex : misP x = ({ x.1 with ms := x.1.ms + 1 }, x.2) := by unfold misP; rw [if_pos h1, if_neg h3]
  have h := hs.qu.put (j := 16) (v := .int .i64 ((x.1.ms + 1 : Nat) : Int)) (y := misP x) rfl hmk (by omega) (by rw [ex]; rfl) (by rw [ex]; exact ⟨rfl, rfl⟩)
  rw [mapI_set (fun _ => misP) L hx] at h
  refine ⟨h, ?_, hs.fr.put _ _ (.inl (.inl (.inr (.inr ⟨0, none, rfl⟩)))), hs.fx.other _ _ (hbt.ne hs.fx.bt (by decide)), hs.bx.other _ _ (hbt.ne hs.bx.bt (by decide)), hN⟩
  rw [sumG_succ hx]
  have : fastP x = 0 := by unfold fastP; rw [if_neg (fun e => h3 e.2)]
  rw [this]
  exact hs.ac.other _ _ (hbt.ne hs.ac.bt (by decide))
/-- .. and thrice. -/
theorem MsI.two (hs : MsI w q nb pa cap L cum size nx ab b0 b1 mv fs far N S k W) {x : PcA} {pb : Nat} (hpa : pa = some ⟨pb, 0, none⟩) (hx : L[k]? = some x) (h1 : x.1.is = 1) (h3 : x.1.ms + 1 = 3) (hN : k + 1 ≤ N) :
    MsI w q nb pa cap L cum size nx ab b0 b1 mv fs far N S (k + 1) (((W.setCell ⟨pb, k * 17 + 16, none⟩ (.int .i64 3)).setCell ⟨pb, k * 17 + 14, none⟩ (.int .i64 2)).setCell ⟨ab, 3, none⟩ (.bool true)) := by
  subst hpa
  have hmk : (mapI (fun _ => misP) L k)[k]? = some x := by rw [mapI_get _ _ (Nat.le_refl _)]; exact hx
  have hkl := (List.getElem?_eq_some_iff.1 hmk).1
  have hbt : BT W pb 82 := hs.qu.row.bt pb rfl
  have ex : misP x = ({ x.1 with ms := 3, is := 2 }, x.2) := by unfold misP; rw [if_pos h1, if_pos h3, h3]
  have h := hs.qu.put (j := 16) (v := .int .i64 3) (y := ({ x.1 with ms := 3 }, x.2)) rfl hmk (by omega) (by rfl) ⟨rfl, rfl⟩
  have hmk2 : ((mapI (fun _ => misP) L k).set k (({ x.1 with ms := 3 }, x.2) : PcA))[k]? = some (({ x.1 with ms := 3 }, x.2) : PcA) := by rw [List.getElem?_set, if_pos rfl, if_pos hkl]
  have h2 := h.put (j := 14) (v := .int .i64 2) (y := misP x) rfl hmk2 (by omega) (by rw [ex]; rfl) (by rw [ex]; exact ⟨rfl, rfl⟩)
  rw [List.set_set, mapI_set (fun _ => misP) L hx] at h2
  have na : pb ≠ ab := hbt.ne hs.ac.bt (by decide)
  have h3' := h2.var ⟨ab, 3, none⟩ (.bool true) (T := 58) ((hs.ac.bt.setCell _ _).setCell _ _) (by decide) (by decide) (by decide) (by decide)
  refine ⟨h3', ?_, ((hs.fr.put _ _ (.inl (.inl (.inr (.inr ⟨0, none, rfl⟩))))).put _ _ (.inl (.inl (.inr (.inr ⟨0, none, rfl⟩))))).put _ _ (.inl (.inr rfl)), ((hs.fx.other _ _ (hbt.ne hs.fx.bt (by decide))).other _ _ (hbt.ne hs.fx.bt (by decide))).other _ _ (hs.ac.bt.ne hs.fx.bt (by decide)), ((hs.bx.other _ _ (hbt.ne hs.bx.bt (by decide))).other _ _ (hbt.ne hs.bx.bt (by decide))).other _ _ (hs.ac.bt.ne hs.bx.bt (by decide)), hN⟩
  rw [sumG_succ hx]
  have : fastP x = 1 := by unfold fastP; rw [if_pos ⟨h1, h3⟩]
  rw [this]
  have e : (fs || decide (0 < sumG fastP L k + 1)) = true := by simp
  rw [e]
  exact ((hs.ac.other _ _ na).other _ _ na).put3 true
end
theorem kq_new {W2 W3 : World} {B C : Nat} {Qs P : Nat → Prop} (hf : Fr P W2 W3) (hB : B + C ≤ W2.heap.size) (hQ : ∀ b, Qs b → b < W2.heap.size) (h1 : ∀ b, P b → ¬ (B ≤ b ∧ b < B + C)) (h2 : ∀ b, P b → ¬ Qs b) : Kq B C Qs W2 W3 :=
  ⟨hf.size, fun b hb => hf.block b (hb.elim (fun h => by omega) (hQ b)) (fun hp => hb.elim (h1 b hp) (h2 b hp))⟩
set_option maxRecDepth 100000 in
set_option maxHeartbeats 4000000 in
theorem miss_any {w : World} {q nb : Nat} {pa : Option Addr} {cap : Nat} {L : List PcA} {cum size : Nat} {nx : List Nat} (h : QuW w q nb pa cap L cum size nx) (hL : L.length ≤ 100000) (hm : ∀ x ∈ L, x.1.ms ≤ 100000)
    {ab b0 b1 : Nat} {mv fs : Bool} (ha : AcW ab b0 b1 mv fs w) (far : Nat) (hfar : far ≤ 100000) :
    Calls Try.prog 34 #[.pointer (some ⟨q, 0, none⟩), .int .i64 (far : Nat), .pointer (some ⟨ab, 0, none⟩)] w (MisR w q nb pa cap L cum size nx ab b0 b1 mv fs (min (far - 1) L.length)) := by
  refine (callsIn_wide (n := 3)).1 ?_
  refine callsIn_of_wp_marks Try.func34 rfl trivial ?_ rfl
  simp only [Try.ntmps34, List.size_toArray, List.length_cons, List.length_nil, Nat.reduceAdd, Nat.reduceSub, Array.replicate_succ, Array.replicate_zero, List.push_toArray, List.append_toArray, List.nil_append, List.cons_append]
  obtain ⟨N, hN⟩ : ∃ N, N = min (far - 1) L.length := ⟨_, rfl⟩
  rw [← hN]
  have hN1 : N ≤ L.length := by omega
  have hN2 : N ≤ far - 1 := by omega
  have hN3 : far - 1 ≤ N ∨ L.length ≤ N := by omega
  clear hN
  gi_wp2
  refine ⟨trivial, (callsIn_wide.2 (steps_call _ _)).mono ?_⟩
  rintro e w' ⟨rfl, rfl⟩
  gi_wp2
  obtain ⟨V0, hV0⟩ : ∃ V0, V0 = w.alloc (.cells #[.int .i64 (far : Nat)] 3) := ⟨_, rfl⟩
  obtain ⟨V, hV⟩ : ∃ V, V = V0.alloc (.cells #[.pointer (some ⟨ab, 0, none⟩)] 97) := ⟨_, rfl⟩
  obtain ⟨U, hU⟩ : ∃ U, U = V.alloc (.cells #[.pointer (some ⟨q, 0, none⟩)] 23) := ⟨_, rfl⟩
  have zV0 : V0.heap.size = w.heap.size + 1 := by rw [hV0]; simp
  have zV : V.heap.size = w.heap.size + 2 := by rw [hV]; simp; omega
  have zU : U.heap.size = w.heap.size + 3 := by rw [hU]; simp; omega
  have x0 := Cx.new w (.int .i64 (far : Nat)) 3 V0 hV0
  have x1 := Cx.new V0 (.pointer (some ⟨ab, 0, none⟩)) 97 V hV
  have c0 : Below w.heap.size w V0 := by rw [hV0]; exact (Below.refl _ _).alloc (Nat.le_refl _) _
  have c1 : Below V0.heap.size V0 V := by rw [hV]; exact (Below.refl _ _).alloc (Nat.le_refl _) _
  have c2 : Below V.heap.size V U := by rw [hU]; exact (Below.refl _ _).alloc (Nat.le_refl _) _
  have bwU : Below w.heap.size w U := (c0.trans (c1.mono (by omega))).trans (c2.mono (by omega))
  rw [zV0] at x1
  have cU : U.cell? ⟨w.heap.size + 2, 0, none⟩ = some (.pointer (some ⟨q, 0, none⟩)) := by rw [hU, ← zV]; exact box_new V _ _
  have hqU := h.below bwU
  have hIU : MsI w q nb pa cap L cum size nx ab b0 b1 mv fs far N w.heap.size 0 U :=
    ⟨by rw [mapI_zero]; exact hqU, by simpa [sumG] using ha.below bwU, Fr.of_below bwU, (x0.below c1).below c2, x1.below c2, Nat.zero_le _⟩
  have cUq : U.cell? ⟨q, 3, none⟩ = some (.slice pa L.length cap) := hqU.c3
  have hq : q < w.heap.size := h.tq.lt
  have hab : ab < w.heap.size := ha.lt
  obtain ⟨pb, hpa, hpc⟩ := h.at_
  have hpl : ∀ k, k < L.length → pa = some ⟨pb, 0, none⟩ ∧ pb ≠ q ∧ pb < w.heap.size := fun k hk => by
    obtain ⟨x, hx⟩ : ∃ x, L[k]? = some x := ⟨_, List.getElem?_eq_getElem hk⟩
    have hbt := (hpc k x hx).1
    exact ⟨hpa.resolve_left (by omega), (h.neq pb hbt).1, hbt.lt⟩
  have hneq := (qu_ab h ha).1
  rw [← hV0, ← hV, ← hU]
  try rw [zV]
  try rw [zV0]
  clear hV0 hV hU x0 x1 c0 c1 c2 hqU
  refine range_sel (gf := 44) (lb := #[.pointer (some ⟨w.heap.size + 2, 0, none⟩)]) rfl (enters_of Try.func44 (by kernel_rfl) rfl)
    (steps_itr (w.heap.size + 2) q pb L.length cap pa hpa (by omega)) (fun _ => rfl)
    (fun W2 h2 => ⟨(h2.cell (p := ⟨w.heap.size + 2, 0, none⟩) (by show w.heap.size + 2 < _; omega)).trans cU, (h2.cell (p := ⟨q, 3, none⟩) (by show q < _; omega)).trans cUq⟩)
    (fun b hb => by rcases hb with rfl | rfl <;> omega)
    (MsI w q nb pa cap L cum size nx ab b0 b1 mv fs far N w.heap.size)
    (MsI w q nb pa cap L cum size nx ab b0 b1 mv fs far N w.heap.size)
    (fun c W2 => c = .exit 0 ∧ MsI w q nb pa cap L cum size nx ab b0 b1 mv fs far N w.heap.size N W2)
    (fun s A B row hs hg hr => hs.grown (by omega) hg hr)
    (fun s A B row hs hg hr => hs.grown (by omega) hg hr)
    (fun c s A B row hs hg hr => ⟨hs.1, hs.2.grown (by omega) hg hr⟩)
    hIU
    (fun k W2 _ h => .inl ⟨rfl, h⟩)
    (fun k => { tmps := #[.pointer (some ⟨q, 0, none⟩), .int .i64 (far : Nat), .pointer (some ⟨ab, 0, none⟩), undef, .pointer (some ⟨w.heap.size, 0, none⟩), .pointer (some ⟨w.heap.size + 1, 0, none⟩), .int .i64 ((k : Int) + 1), .pointer (some ⟨pb, k * 17, none⟩), .pointer (some ⟨q, 0, none⟩), .func (.func 44) #[] #[.pointer (some ⟨w.heap.size + 2, 0, none⟩)], .int .i64 ((k : Int) + 1), .pointer (some ⟨pb, k * 17, none⟩), undef, undef, undef, undef, undef, undef, undef, undef, undef, undef, undef, undef, undef, undef, undef, undef, undef, undef, undef, undef, undef, undef, undef, undef, undef, undef], defers := [] }) ?assign ?body ?done ?stop
  case assign =>
    intro n' l' k W2 K hK
    gi_wp2
    exact hK
  case body =>
    rintro n' l' k W2 hk hI hz2
    have hcf := hI.fx.cell
    have hcb := hI.bx.cell
    by_cases hge : k + 1 ≥ far
    · have hge1 : ((k : Int) + 1) ≥ (far : Int) := by omega
      obtain rfl : k = N := by have := hI.le; omega
      clear hcb
      gi_wp2
      exact ⟨Kq.refl _ _ _ _, rfl, hI⟩
    · have hge1 : ¬ ((k : Int) + 1) ≥ (far : Int) := by omega
      have hkN : k + 1 ≤ N := by omega
      obtain ⟨hpa1, hpq, hpw⟩ := hpl k hk
      obtain ⟨x, hxk⟩ : ∃ x, L[k]? = some x := ⟨_, List.getElem?_eq_getElem hk⟩
      have hmk : (mapI (fun _ => misP) L k)[k]? = some x := by rw [mapI_get _ _ (Nat.le_refl _)]; exact hxk
      obtain ⟨pb2, hp2, hc2⟩ := hI.qu.at_
      have hpe : pb2 = pb := by
        have h1 := hp2.resolve_left (by rw [mapI_len]; omega)
        rw [hpa1] at h1
        injection h1 with h1
        injection h1 with h1
        exact h1.symm
      subst hpe
      have k14 := (hc2 k x hmk).2.1 14 _ rfl
      have k16 := (hc2 k x hmk).2.1 16 _ rfl
      have f14 := (hc2 k x hmk).2.2 (k * 17 + 14)
      have f16 := (hc2 k x hmk).2.2 (k * 17 + 16)
      have hml := hm x (List.mem_of_getElem? hxk)
      by_cases h1 : x.1.is = 1
      · obtain ⟨ms, hms⟩ : ∃ ms, ms = x.1.ms := ⟨_, rfl⟩
        rw [← hms] at k16 hml
        rw [h1] at k14
        have HMS := (show Hid _ from hms)
        have ka := hI.ac.c3
        have fa := hI.ac.free 3
        by_cases h3 : ms + 1 = 3
        · have H := (show Hid _ from hI.two hpa1 hxk h1 (by rw [← hms]; exact h3) hkN)
          have hm2 : ms = 2 := by omega
          subst hm2
          have hfr := H.out.fr
          clear hms hcf
          have hcf := hI.fx.cell
          have HP := (show Hid _ from hpa1)
          have HAQ := (show Hid _ from hneq)
          clear hI hfr hpa1 hc2 hp2 hpa
          gi_wp2
          refine ⟨(Kq.set W2 _ _ ?_ ?_).trans ((Kq.set _ _ _ ?_ ?_).trans (Kq.set _ _ _ ?_ ?_)), H.out⟩
          · show ¬ (_ ≤ pb2 ∧ _)
            omega
          · show ¬ (pb2 = _ ∨ pb2 = q)
            omega
          · show ¬ (_ ≤ pb2 ∧ _)
            omega
          · show ¬ (pb2 = _ ∨ pb2 = q)
            omega
          · show ¬ (_ ≤ ab ∧ _)
            omega
          · show ¬ (ab = _ ∨ ab = q)
            have := HAQ.out
            omega
        · have H := (show Hid _ from hI.one hpa1 hxk h1 (by rw [← hms]; exact h3) hkN)
          rw [← hms] at H
          have h3z : (((ms : Int) + 1) == 3) = false := by simp; omega
          have HP := (show Hid _ from hpa1)
          clear hms hI hpa1 hc2 hp2 hpa
          gi_wp2
          refine ⟨Kq.set W2 _ _ ?_ ?_, H.out⟩
          · show ¬ (_ ≤ pb2 ∧ _)
            omega
          · show ¬ (pb2 = _ ∨ pb2 = q)
            omega
      · have h1z : ((x.1.is : Int) != 1) = true := by simp; omega
        have H := (show Hid _ from hI.skip hxk h1 hkN)
        obtain ⟨is, his⟩ : ∃ is, is = x.1.is := ⟨_, rfl⟩
        rw [← his] at k14 h1z h1
        clear his hI hpa1 hc2 hp2 hpa
        gi_wp2
        exact ⟨Kq.refl _ _ _ _, H.out⟩
  case done =>
    rintro W2 hI hD
    have hNL : N = L.length := by have := hI.le; omega
    rw [← hNL] at hI
    gi_wp2
    refine ⟨by simp, .inl ⟨_, _, rfl, run_takeDeferred hD, ?_⟩⟩
    have hg := grownBy_putObj' W2 U.heap.size (.deferred none)
    have hI2 := hI.grown (B := w.heap.size) (Nat.le_refl _) hg (fun r e => by cases e; exact ⟨by omega, _, hD, rfl⟩)
    exact ⟨_, results_none rfl _ _ _, rfl, hI2.qu, hI2.ac, hI2.fr⟩
  case stop =>
    rintro c W2 ⟨rfl, hI⟩ hD
    gi_wp2
    refine ⟨by simp, .inl ⟨_, _, rfl, run_takeDeferred hD, ?_⟩⟩
    have hg := grownBy_putObj' W2 U.heap.size (.deferred none)
    have hI2 := hI.grown (B := w.heap.size) (Nat.le_refl _) hg (fun r e => by cases e; exact ⟨by omega, _, hD, rfl⟩)
    exact ⟨_, results_none rfl _ _ _, rfl, hI2.qu, hI2.ac, hI2.fr⟩
end Go.Proofs.Ytconfmjgoipejaa
