/- outq: move. -/
import Derived.Test.YtconfmjgoipejaaOqP
import Derived.BigQuiet
import Derived.Deep.DeepMust
namespace Go.Proofs.Ytconfmjgoipejaa
open Go.RowKit Go.Shelf
attribute [local go_sem] Oper.semAt_some
/-- The queue's blocks, and one more. -/
def qA (q nb : Nat) (pa : Option Addr) (ab : Nat) : Nat → Prop := fun b => qB q nb pa b ∨ b = ab
structure MovR (w : World) (q nb : Nat) (pa : Option Addr) (cap : Nat) (L : List PcA) (cum size : Nat) (nx : List Nat) (ab b0 b1 : Nat) (fs : Bool) (t G : Nat) (e : Ending) (w' : World) : Prop where
  ex : e = .returned (.tuple #[])
  qu : QuW w' q nb pa cap (L.drop G) t size nx
  ac : AcW ab (b0 + sumG (cntP 0) L G) (b1 + sumG (cntP 1) L G) (decide (0 < G)) fs w'
  fr : Fr (qA q nb pa ab) w w'
/-- In the loop. -/
structure MvI (w : World) (q nb : Nat) (pa : Option Addr) (cap : Nat) (L : List PcA) (cum size : Nat) (nx : List Nat) (ab b0 b1 : Nat) (mv fs : Bool) (G S S2 : Nat) (k : Nat) (W : World) : Prop where
  qu : QuW W q nb pa cap L cum size nx
  ac : AcW ab (b0 + sumG (cntP 0) L k) (b1 + sumG (cntP 1) L k) mv fs W
  fr : Fr (qA q nb pa ab) w W
  bx : Cx 97 S (.pointer (some ⟨ab, 0, none⟩)) W
  gx : Cx 3 S2 (.int .i64 (G : Nat)) W
  le : k ≤ G
theorem cntP_le (wy : Nat) (x : PcA) : cntP wy x ≤ lenP x := by
  unfold cntP lenP
  split
  · exact Nat.le_refl _
  · exact Nat.zero_le _
theorem qu_ab {W : World} {q nb : Nat} {pa : Option Addr} {cap : Nat} {L : List PcA} {cum size : Nat} {nx : List Nat} {ab b0 b1 : Nat} {mv fs : Bool} (h : QuW W q nb pa cap L cum size nx) (ha : AcW ab b0 b1 mv fs W) : ab ≠ q ∧ ab ≠ nb ∧ (∀ g, BT W g 82 → ab ≠ g) ∧ ∀ g, BT W g 5 → ab ≠ g :=
  ⟨ha.bt.ne h.tq (by decide), ha.bt.ne h.tn (by decide), fun g hg => ha.bt.ne hg (by decide), fun g hg => ha.bt.ne hg (by decide)⟩
/-- Behind the loop. -/
structure MvK (w : World) (q nb : Nat) (pa : Option Addr) (cap : Nat) (L : List PcA) (cum size : Nat) (nx : List Nat) (ab c0 c1 : Nat) (mv fs : Bool) (G S S2 D : Nat) (W : World) : Prop where
  qu : QuW W q nb pa cap L cum size nx
  ac : AcW ab c0 c1 mv fs W
  fr : Fr (qA q nb pa ab) w W
  bx : Cx 97 S (.pointer (some ⟨ab, 0, none⟩)) W
  gx : Cx 3 S2 (.int .i64 (G : Nat)) W
  df : W.heap[D]? = some (.deferred (some []))
theorem own_some {pa : Option Addr} {n c b : Nat} (h : (Value.slice pa n c).ownBlock = some b) : ∃ o s, pa = some ⟨b, o, s⟩ := by
  cases pa with
  | none => cases h
  | some a =>
    obtain ⟨x, o, s⟩ := a
    obtain rfl : x = b := Option.some.inj h
    exact ⟨o, s, rfl⟩
theorem mv_store {w W2 : World} {q nb : Nat} {pa : Option Addr} {cap : Nat} {L : List PcA} {cum size : Nat} {nx : List Nat} {ab b0 b1 : Nat} {mv fs : Bool} {G S S2 : Nat} (hI : MvI w q nb pa cap L cum size nx ab b0 b1 mv fs G S S2 G W2) (hS : ¬ S = q) (hS2 : ¬ S2 = q) {D : Nat} (hD : W2.heap[D]? = some (.deferred (some [])))
    {W : World} (hd : Del.DelQ W2.drew 0 pa L.length cap L G (.returned (.slice pa (L.length - G) cap)) W) : W.cell? ⟨q, 3, none⟩ = some (.slice pa L.length cap) ∧ W.frozen? ⟨q, 3, none⟩ = false ∧ W.cell? ⟨S2, 0, none⟩ = some (.int .i64 (G : Nat)) ∧
      MvK w q nb pa cap (L.drop G) cum size nx ab (b0 + sumG (cntP 0) L G) (b1 + sumG (cntP 1) L G) mv fs G S S2 D (W.setCell ⟨q, 3, none⟩ (.slice pa (L.length - G) cap)) := by
  have hq := hI.qu.drew
  obtain ⟨n1, n2, n3⟩ := hq.own
  have hac := hI.ac.drew
  have hbx := hI.bx.drew
  have hgx := hI.gx.drew
  have na : ¬ (Value.slice pa L.length cap).ownBlock = some ab := fun e => (hq.row.bt ab e).ne hac.bt (by decide) rfl
  have nb1 : ¬ (Value.slice pa L.length cap).ownBlock = some S := fun e => (hq.row.bt S e).ne hbx.bt (by decide) rfl
  have nb2 : ¬ (Value.slice pa L.length cap).ownBlock = some S2 := fun e => (hq.row.bt S2 e).ne hgx.bt (by decide) rfl
  refine ⟨(hd.fr.cell _ hq.tq.lt n1).trans hq.c3, (hd.fr.frozen ⟨q, 3, none⟩ hq.tq.lt n1).trans (hq.fq 3), (hgx.fr hd.fr nb2).cell, hq.del hd.row hd.fr, (hac.fr hd.fr na).other _ _ (fun e => (hac.bt.ne hq.tq (by decide)) e.symm), ?_, (hbx.fr hd.fr nb1).other _ _ (fun e => hS e.symm), (hgx.fr hd.fr nb2).other _ _ (fun e => hS2 e.symm), ?_⟩
  · exact ((hI.fr.drew).trans (hd.fr.mono (fun b _ e => .inl (.inr (.inr (own_some e)))))).put _ _ (.inl (.inl (.inl rfl)))
  · have hDl : D < W2.drew.heap.size := (Array.getElem?_eq_some_iff.1 hD).1
    have e1 : W.heap[D]? = W2.drew.heap[D]? := hd.fr.block D hDl (fun e => by
      obtain ⟨cur, r, hh⟩ := hq.row.bt D e
      have hD2 : W2.drew.heap[D]? = some (.deferred (some [])) := hD
      rw [hD2] at hh
      cases hh)
    rw [Below.heap_setCell _ _ _ _ (fun e => by
      obtain ⟨cur, r, hh⟩ := hq.tq
      have hD2 : W2.drew.heap[D]? = some (.deferred (some [])) := hD
      rw [show q = D from by simpa using e.symm, hD2] at hh
      cases hh), e1]
    exact hD
set_option maxRecDepth 100000 in
set_option maxHeartbeats 4000000 in
theorem move_any {w : World} {q nb : Nat} {pa : Option Addr} {cap : Nat} {L : List PcA} {cum size : Nat} {nx : List Nat} (h : QuW w q nb pa cap L cum size nx) (hL : L.length ≤ 100000) (hS : sumL L L.length ≤ 100000) (hw : ∀ x ∈ L, x.1.is = 1 → x.1.wy < 2)
    {ab b0 b1 : Nat} {mv fs : Bool} (ha : AcW ab b0 b1 mv fs w) (hb0 : b0 ≤ 100000) (hb1 : b1 ≤ 100000) (t G : Nat) (hc : cum < 4294967296) (ht : t < 4294967296) (hG : aheadV 4294967296 cum t = (G : Int)) (hGL : G ≤ L.length) :
    Calls Try.prog 33 #[.pointer (some ⟨q, 0, none⟩), .int .u32 (t : Nat), .pointer (some ⟨ab, 0, none⟩)] w (MovR w q nb pa cap L cum size nx ab b0 b1 fs t G) := by
  refine (callsIn_wide (n := 3)).1 ?_
  refine callsIn_of_wp_marks Try.func33 rfl trivial ?_ rfl
  simp only [Try.ntmps33, List.size_toArray, List.length_cons, List.length_nil, Nat.reduceAdd, Nat.reduceSub, Array.replicate_succ, Array.replicate_zero, List.push_toArray, List.append_toArray, List.nil_append, List.cons_append]
  obtain ⟨V0, hV0⟩ : ∃ V0, V0 = w.alloc (.cells #[.pointer (some ⟨ab, 0, none⟩)] 97) := ⟨_, rfl⟩
  have b0' : Below w.heap.size w V0 := by rw [hV0]; exact (Below.refl _ _).alloc (Nat.le_refl _) _
  have x0 := Cx.new w (.pointer (some ⟨ab, 0, none⟩)) 97 V0 hV0
  have hah := qahead_any (h.below b0') hc t ht
  rw [hG] at hah
  have HV0 := (show Hid _ from hV0)
  clear hV0
  gi_wp2
  rw [← HV0.out]
  refine ⟨trivial, (callsIn_wide.2 hah).mono ?_⟩
  clear hah
  rintro e w1 ⟨rfl, b1'⟩
  obtain ⟨V, hV⟩ : ∃ V, V = w1.alloc (.cells #[.int .i64 (G : Nat)] 3) := ⟨_, rfl⟩
  have HV := (show Hid _ from hV)
  clear hV
  gi_wp2
  rw [← HV.out]
  refine ⟨trivial, (callsIn_wide.2 (steps_call _ _)).mono ?_⟩
  rintro e w' ⟨rfl, rfl⟩
  gi_wp2
  obtain ⟨U, hU⟩ : ∃ U, U = V.alloc (.cells #[.pointer (some ⟨q, 0, none⟩)] 23) := ⟨_, rfl⟩
  have bV : Below w1.heap.size w1 V := by rw [HV.out]; exact (Below.refl _ _).alloc (Nat.le_refl _) _
  have bU : Below V.heap.size V U := by rw [hU]; exact (Below.refl _ _).alloc (Nat.le_refl _) _
  have xV := Cx.new w1 (.int .i64 (G : Nat)) 3 V HV.out
  have zV0 : V0.heap.size = w.heap.size + 1 := by rw [HV0.out]; simp
  have zV : V.heap.size = w1.heap.size + 1 := by rw [HV.out]; simp
  have zU : U.heap.size = w1.heap.size + 2 := by rw [hU]; simp; omega
  have cU : U.cell? ⟨w1.heap.size + 1, 0, none⟩ = some (.pointer (some ⟨q, 0, none⟩)) := by rw [hU, ← zV]; exact box_new V _ _
  have b1s := b1'.size
  have bwU : Below w.heap.size w U := ((b0'.trans (b1'.mono (by omega))).trans (bV.mono (by omega))).trans (bU.mono (by omega))
  have hqU := h.below bwU
  have hIU : MvI w q nb pa cap L cum size nx ab b0 b1 mv fs G w.heap.size w1.heap.size 0 U :=
    ⟨hqU, by simpa [sumG] using ha.below bwU, Fr.of_below bwU, ((x0.below b1').below bV).below bU, xV.below bU, Nat.zero_le _⟩
  have cUq : U.cell? ⟨q, 3, none⟩ = some (.slice pa L.length cap) := hqU.c3
  have hq : q < w.heap.size := h.tq.lt
  have hab : ab < w.heap.size := ha.lt
  obtain ⟨pb, hpa, hpc⟩ := h.at_
  have hwy := hw
  have hsz : w1.heap.size ≥ w.heap.size + 1 := by omega
  have hs0 : ∀ k, sumG (cntP 0) L k ≤ 100000 := fun k => Nat.le_trans (sumG_up _ _ _) (Nat.le_trans (sumG_le (cntP_le 0) L L.length) (by rw [← sumL_G]; exact hS))
  have hs1 : ∀ k, sumG (cntP 1) L k ≤ 100000 := fun k => Nat.le_trans (sumG_up _ _ _) (Nat.le_trans (sumG_le (cntP_le 1) L L.length) (by rw [← sumL_G]; exact hS))
  have hnb : nb < w.heap.size := h.tn.lt
  have hneq := qu_ab h ha
  rw [← hU, zV]
  clear bV bU xV hU x0 b0' b1' hqU HV HV0
  refine range_sel (gf := 44) (lb := #[.pointer (some ⟨w1.heap.size + 1, 0, none⟩)]) rfl (enters_of Try.func44 (by kernel_rfl) rfl)
    (steps_itr (w1.heap.size + 1) q pb L.length cap pa hpa (by omega)) (fun _ => rfl)
    (fun W2 h2 => ⟨(h2.cell (p := ⟨w1.heap.size + 1, 0, none⟩) (by show w1.heap.size + 1 < _; omega)).trans cU, (h2.cell (p := ⟨q, 3, none⟩) (by show q < _; omega)).trans cUq⟩)
    (fun b hb => by rcases hb with rfl | rfl <;> omega)
    (MvI w q nb pa cap L cum size nx ab b0 b1 mv fs G w.heap.size w1.heap.size)
    (MvI w q nb pa cap L cum size nx ab b0 b1 mv fs G w.heap.size w1.heap.size)
    (fun c W2 => c = .exit 0 ∧ MvI w q nb pa cap L cum size nx ab b0 b1 mv fs G w.heap.size w1.heap.size G W2)
    (fun s A B row hs hg hr => ⟨hs.qu.grown hg (fun r e => (hr r e).2), hs.ac.grown hg (fun r e => (hr r e).2), hs.fr.new hg (fun r e => by have := (hr r e).1; omega), hs.bx.grown hg (fun r e => (hr r e).2), hs.gx.grown hg (fun r e => (hr r e).2), hs.le⟩)
    (fun s A B row hs hg hr => ⟨hs.qu.grown hg (fun r e => (hr r e).2), hs.ac.grown hg (fun r e => (hr r e).2), hs.fr.new hg (fun r e => by have := (hr r e).1; omega), hs.bx.grown hg (fun r e => (hr r e).2), hs.gx.grown hg (fun r e => (hr r e).2), hs.le⟩)
    (fun c s A B row hs hg hr => ⟨hs.1, hs.2.qu.grown hg (fun r e => (hr r e).2), hs.2.ac.grown hg (fun r e => (hr r e).2), hs.2.fr.new hg (fun r e => by have := (hr r e).1; omega), hs.2.bx.grown hg (fun r e => (hr r e).2), hs.2.gx.grown hg (fun r e => (hr r e).2), hs.2.le⟩)
    hIU
    (fun k W2 _ h => .inl ⟨rfl, h⟩)
    (fun k => { tmps := #[.pointer (some ⟨q, 0, none⟩), .int .u32 (t : Nat), .pointer (some ⟨ab, 0, none⟩), undef, undef, .pointer (some ⟨w.heap.size, 0, none⟩), .pointer (some ⟨w1.heap.size, 0, none⟩), .int .i64 ((k : Int) + 1), .pointer (some ⟨pb, k * 17, none⟩), .pointer (some ⟨q, 0, none⟩), .int .u32 (t : Nat), .int .i64 (G : Nat), .pointer (some ⟨q, 0, none⟩), .func (.func 44) #[] #[.pointer (some ⟨w1.heap.size + 1, 0, none⟩)], .int .i64 ((k : Int) + 1), .pointer (some ⟨pb, k * 17, none⟩), undef, undef, undef, undef, undef, undef, undef, undef, undef, undef, undef, undef, undef, undef, undef, undef, undef, undef, undef, undef, undef, undef, undef, undef], defers := [] }) ?assign ?body ?done ?stop
  case assign =>
    intro n' l' k W2 K hK
    gi_wp2
    exact hK
  case body =>
    rintro n' l' k W2 hk hI hz2
    have hcb := hI.bx.cell
    have hcg := hI.gx.cell
    by_cases hgt : k + 1 > G
    · have hgt1 : ((k : Int) + 1) > (G : Int) := by omega
      obtain rfl : k = G := by have := hI.le; omega
      clear hcb
      gi_wp2
      exact ⟨Kq.refl _ _ _ _, rfl, hI⟩
    · have hgt1 : ¬ ((k : Int) + 1) > (G : Int) := by omega
      obtain ⟨x, hxk⟩ : ∃ x, L[k]? = some x := ⟨_, List.getElem?_eq_getElem hk⟩
      obtain ⟨pb2, hp2, hc2⟩ := hI.qu.at_
      have hpe : pb2 = pb := by
        have h1 := hp2.resolve_left (by omega)
        rw [hpa.resolve_left (by omega)] at h1
        injection h1 with h1
        injection h1 with h1
        exact h1.symm
      subst hpe
      have hbt := (hc2 k x hxk).1
      have hcc := (hc2 k x hxk).2.1
      have hxl : x.1.zs.length ≤ 1000000 := by
        have h1 := sumL_le (L := L) (k + 1)
        rw [sumL_succ hxk] at h1
        omega
      have HC := (show Hid _ from fun (_ : Unit) => count_any hI.ac (pb := pb2) (k := k) (x := x) (by have := hs0 k; omega) (by have := hs1 k; omega) hxl (hw x (List.mem_of_getElem? hxk)) (hcc 14 _ rfl) (hcc 15 _ rfl) (hcc 13 _ rfl))
      have HI := (show Hid _ from And.intro hI hbt)
      clear hcc hbt hc2 hI
      gi_wp2
      refine ⟨trivial, fun h => (by cases h), CallsIn.inRound l' ((callsIn_wide.2 (HC.out ())).mono ?_)⟩
      rintro e W3 ⟨rfl, hac, hfr⟩
      have hI := HI.out.1
      have hbt := HI.out.2
      have hne2 := qu_ab hI.qu hI.ac
      have hq3 := hI.qu.fr hfr (fun e => hne2.1 e.symm) (fun e => hne2.2.1 e.symm) (fun g hg e => hne2.2.2.1 g (hI.qu.row.bt g hg) e.symm) (fun g hg e => hne2.2.2.2 g hg e.symm)
      have H3 : Hid (MvI w q nb pa cap L cum size nx ab b0 b1 mv fs G w.heap.size w1.heap.size (k + 1) W3) :=
        ⟨hq3, by rw [sumG_succ hxk, sumG_succ hxk, ← Nat.add_assoc, ← Nat.add_assoc]; exact hac, hI.fr.trans (hfr.mono (fun b _ e => .inr e)), hI.bx.fr hfr (by omega), hI.gx.fr hfr (by omega), by omega⟩
      have HK : Hid (Kq U.heap.size (2 + 0) (qQ (w1.heap.size + 1) q) W2 W3) := ⟨hfr.size, fun b hb => by
        by_cases hbl : b < W2.heap.size
        · refine hfr.block b hbl (fun e => ?_)
          subst e
          rcases hb with hb | hb | hb
          · omega
          · omega
          · exact hne2.1 hb
        · exfalso
          rcases hb with hb | hb | hb
          · omega
          · omega
          · have := hI.qu.tq.lt; omega⟩
      clear hac hfr hq3 hne2 hI hbt
      gi_wp2
      exact ⟨HK.out, H3.out⟩
  case done =>
    rintro W2 hI hD
    obtain ⟨G', hG'⟩ : ∃ G', G' = L.length := ⟨_, rfl⟩
    have hGG : L.length = G := by have := hI.le; omega
    rw [hGG] at hI
    have HDL := (show Hid _ from fun (_ : Unit) => Del.delete_any hI.qu.drew.row G hGL (by omega))
    have HST := (show Hid _ from fun W hd => mv_store hI (W := W) (by omega) (by omega) hD hd)
    have k3 := hI.qu.c3
    have kg := hI.gx.cell
    have hb2s := hI.fr.size
    clear hI
    gi_wp2_with fail
    refine wpIn_wide.2 ?_
    refine wp_region_stage mixedX [6, 9] (fun stgN W => match stgN with | 0 => W = W2.drew | 1 => Del.DelQ W2.drew 0 pa L.length cap L G (.returned (.slice pa (L.length - G) cap)) W | _ => MvK w q nb pa cap (L.drop G) cum size nx ab (b0 + sumG (cntP 0) L G) (b1 + sumG (cntP 1) L G) mv fs G w.heap.size w1.heap.size U.heap.size W) (fun W => W.cell? ⟨q, 3, none⟩ = some (.slice pa L.length cap) ∧ W.cell? ⟨w1.heap.size, 0, none⟩ = some (.int .i64 (G : Nat))) [(22, .pointer (some ⟨q, 0, none⟩)), (23, .pointer (some ⟨q, 0, none⟩)), (24, .pointer (some ⟨q, 0, none⟩)), (25, .pointer (some ⟨q, 3, none⟩)), (26, .slice pa L.length cap), (27, .int .i64 (G : Nat)), (28, .slice pa (L.length - G) cap), (29, .pointer (some ⟨q, 0, none⟩)), (30, .pointer (some ⟨q, 3, none⟩))] ?Z62 ?hZ62 (by kernel_rfl) (by kernel_rfl) (by kernel_rfl) (by kernel_rfl) (by kernel_rfl) ?h062 ?hS62 (.inl (by kernel_rfl)) ?hops62 ?he62 (by kernel_rfl) (by decide)
    case hZ62 => simp only [List.foldl_cons, List.foldl_nil, List.setIfInBounds_toArray, List.set_cons_zero, List.set_cons_succ]; rfl
    case h062 => rfl
    case hS62 =>
      intro k W hk hW
      have hk : k < 2 := hk
      obtain rfl | rfl : k = 0 ∨ k = 1 := by omega
      · have hW : W = W2.drew := hW; rw [hW]; exact ⟨k3, kg⟩
      · obtain ⟨z1, z2, z3, z4⟩ := HST.out W hW; exact ⟨z1, z3⟩
    case hops62 =>
      refine ⟨?_, ?_, ?_, ?_, ?_, ?_, ?_, ?_, ?_, ?_, trivial⟩
      · exact stg_val (by rfl) (by rfl) (fun W hW => by obtain ⟨y0, y1⟩ := hW; go_simp; (try with_reducible rfl); (try omega))
      · exact stg_val (by rfl) (by rfl) (fun W hW => by obtain ⟨y0, y1⟩ := hW; go_simp; (try with_reducible rfl); (try omega))
      · exact stg_val (by rfl) (by rfl) (fun W hW => by obtain ⟨y0, y1⟩ := hW; go_simp; (try with_reducible rfl); (try omega))
      · exact stg_val (by rfl) (by rfl) (fun W hW => by obtain ⟨y0, y1⟩ := hW; go_simp; (try with_reducible rfl); (try omega))
      · exact stg_val (by rfl) (by rfl) (fun W hW => by obtain ⟨y0, y1⟩ := hW; go_simp; (try with_reducible rfl); (try omega))
      · exact stg_val (by rfl) (by rfl) (fun W hW => by obtain ⟨y0, y1⟩ := hW; go_simp; (try with_reducible rfl); (try omega))
      · exact stg_call (vs := [.slice pa L.length cap, .int .i64 0, .int .i64 (G : Nat)]) (by rfl) (by rfl) rfl (by rfl) Try.func49 (by rfl) (by rfl) (fun W hW => by have hW : W = W2.drew := hW; subst hW; exact (HDL.out ()).mono (fun e V hd => ⟨hd.ex, ⟨rfl, hd.row, hd.fr⟩⟩))
      · exact stg_val (by rfl) (by rfl) (fun W hW => by obtain ⟨y0, y1⟩ := hW; go_simp; (try with_reducible rfl); (try omega))
      · exact stg_val (by rfl) (by rfl) (fun W hW => by obtain ⟨y0, y1⟩ := hW; go_simp; (try with_reducible rfl); (try omega))
      · exact stg_skip (by rfl) (by rfl) rfl (fun W hW => by obtain ⟨z1, z2, z3, z4⟩ := HST.out W hW; clear hW; refine ⟨_, by go_simp, z4⟩)
    case he62 =>
    intro W hW
    have hK : MvK w q nb pa cap (L.drop G) cum size nx ab (b0 + sumG (cntP 0) L G) (b1 + sumG (cntP 1) L G) mv fs G w.heap.size w1.heap.size U.heap.size W := hW
    clear hW k3 kg HDL HST hD
    have j0 := hK.qu.c0
    have g0 := hK.qu.fq 0
    have j1 := hK.bx.cell
    have j2 := hK.gx.cell
    have j3 := hK.ac.c2
    have g3 := hK.ac.free 2
    have HK := (show Hid _ from hK)
    have hne := qu_ab hK.qu hK.ac
    have hn1 : ¬ ab = q := hne.1
    have hn2 : ¬ q = w.heap.size := by omega
    have hn3 : ¬ q = w1.heap.size := by omega
    clear hK hne
    gi_wp2
    have hK := HK.out
    have h1 := hK.qu.setCum t
    have hac1 := (hK.ac.other ⟨q, 0, none⟩ (.int .u32 (t : Nat)) (fun e => hn1 e.symm)).put2 (decide (0 < G))
    have h2 := h1.var ⟨ab, 2, none⟩ (.bool (decide (0 < G))) (T := 58) (hK.ac.bt.setCell _ _) (by decide) (by decide) (by decide) (by decide)
    have f2 := (hK.fr.put ⟨q, 0, none⟩ (.int .u32 (t : Nat)) (.inl (.inl (.inl rfl)))).put ⟨ab, 2, none⟩ (.bool (decide (0 < G))) (.inl (.inr rfl))
    have hD2 : ((W.setCell ⟨q, 0, none⟩ (.int .u32 (t : Nat))).setCell ⟨ab, 2, none⟩ (.bool (decide (0 < G)))).heap[U.heap.size]? = some (.deferred (some [])) := by
      rw [Below.heap_setCell _ _ _ _ (by show U.heap.size ≠ ab; omega), Below.heap_setCell _ _ _ _ (by show U.heap.size ≠ q; omega)]
      exact hK.df
    refine ⟨by simp, .inl ⟨_, _, rfl, run_takeDeferred hD2, ?_⟩⟩
    have hg := grownBy_putObj' ((W.setCell ⟨q, 0, none⟩ (.int .u32 (t : Nat))).setCell ⟨ab, 2, none⟩ (.bool (decide (0 < G)))) U.heap.size (.deferred none)
    exact ⟨_, results_none rfl _ _ _, rfl, h2.grown hg (fun r e => by cases e; exact ⟨_, hD2, rfl⟩), hac1.grown hg (fun r e => by cases e; exact ⟨_, hD2, rfl⟩), f2.new hg (fun r e => by cases e; omega)⟩
  case stop =>
    rintro c W2 ⟨rfl, hI⟩ hD
    have HDL := (show Hid _ from fun (_ : Unit) => Del.delete_any hI.qu.drew.row G hGL (by omega))
    have HST := (show Hid _ from fun W hd => mv_store hI (W := W) (by omega) (by omega) hD hd)
    have k3 := hI.qu.c3
    have kg := hI.gx.cell
    have hb2s := hI.fr.size
    clear hI
    gi_wp2_with fail
    refine wpIn_wide.2 ?_
    refine wp_region_stage mixedX [6, 9] (fun stgN W => match stgN with | 0 => W = W2.drew | 1 => Del.DelQ W2.drew 0 pa L.length cap L G (.returned (.slice pa (L.length - G) cap)) W | _ => MvK w q nb pa cap (L.drop G) cum size nx ab (b0 + sumG (cntP 0) L G) (b1 + sumG (cntP 1) L G) mv fs G w.heap.size w1.heap.size U.heap.size W) (fun W => W.cell? ⟨q, 3, none⟩ = some (.slice pa L.length cap) ∧ W.cell? ⟨w1.heap.size, 0, none⟩ = some (.int .i64 (G : Nat))) [(22, .pointer (some ⟨q, 0, none⟩)), (23, .pointer (some ⟨q, 0, none⟩)), (24, .pointer (some ⟨q, 0, none⟩)), (25, .pointer (some ⟨q, 3, none⟩)), (26, .slice pa L.length cap), (27, .int .i64 (G : Nat)), (28, .slice pa (L.length - G) cap), (29, .pointer (some ⟨q, 0, none⟩)), (30, .pointer (some ⟨q, 3, none⟩))] ?Z63 ?hZ63 (by kernel_rfl) (by kernel_rfl) (by kernel_rfl) (by kernel_rfl) (by kernel_rfl) ?h063 ?hS63 (.inl (by kernel_rfl)) ?hops63 ?he63 (by kernel_rfl) (by decide)
    case hZ63 => simp only [List.foldl_cons, List.foldl_nil, List.setIfInBounds_toArray, List.set_cons_zero, List.set_cons_succ]; rfl
    case h063 => rfl
    case hS63 =>
      intro k W hk hW
      have hk : k < 2 := hk
      obtain rfl | rfl : k = 0 ∨ k = 1 := by omega
      · have hW : W = W2.drew := hW; rw [hW]; exact ⟨k3, kg⟩
      · obtain ⟨z1, z2, z3, z4⟩ := HST.out W hW; exact ⟨z1, z3⟩
    case hops63 =>
      refine ⟨?_, ?_, ?_, ?_, ?_, ?_, ?_, ?_, ?_, ?_, trivial⟩
      · exact stg_val (by rfl) (by rfl) (fun W hW => by obtain ⟨y0, y1⟩ := hW; go_simp; (try with_reducible rfl); (try omega))
      · exact stg_val (by rfl) (by rfl) (fun W hW => by obtain ⟨y0, y1⟩ := hW; go_simp; (try with_reducible rfl); (try omega))
      · exact stg_val (by rfl) (by rfl) (fun W hW => by obtain ⟨y0, y1⟩ := hW; go_simp; (try with_reducible rfl); (try omega))
      · exact stg_val (by rfl) (by rfl) (fun W hW => by obtain ⟨y0, y1⟩ := hW; go_simp; (try with_reducible rfl); (try omega))
      · exact stg_val (by rfl) (by rfl) (fun W hW => by obtain ⟨y0, y1⟩ := hW; go_simp; (try with_reducible rfl); (try omega))
      · exact stg_val (by rfl) (by rfl) (fun W hW => by obtain ⟨y0, y1⟩ := hW; go_simp; (try with_reducible rfl); (try omega))
      · exact stg_call (vs := [.slice pa L.length cap, .int .i64 0, .int .i64 (G : Nat)]) (by rfl) (by rfl) rfl (by rfl) Try.func49 (by rfl) (by rfl) (fun W hW => by have hW : W = W2.drew := hW; subst hW; exact (HDL.out ()).mono (fun e V hd => ⟨hd.ex, ⟨rfl, hd.row, hd.fr⟩⟩))
      · exact stg_val (by rfl) (by rfl) (fun W hW => by obtain ⟨y0, y1⟩ := hW; go_simp; (try with_reducible rfl); (try omega))
      · exact stg_val (by rfl) (by rfl) (fun W hW => by obtain ⟨y0, y1⟩ := hW; go_simp; (try with_reducible rfl); (try omega))
      · exact stg_skip (by rfl) (by rfl) rfl (fun W hW => by obtain ⟨z1, z2, z3, z4⟩ := HST.out W hW; clear hW; refine ⟨_, by go_simp, z4⟩)
    case he63 =>
    intro W hW
    have hK : MvK w q nb pa cap (L.drop G) cum size nx ab (b0 + sumG (cntP 0) L G) (b1 + sumG (cntP 1) L G) mv fs G w.heap.size w1.heap.size U.heap.size W := hW
    clear hW k3 kg HDL HST hD
    have j0 := hK.qu.c0
    have g0 := hK.qu.fq 0
    have j1 := hK.bx.cell
    have j2 := hK.gx.cell
    have j3 := hK.ac.c2
    have g3 := hK.ac.free 2
    have HK := (show Hid _ from hK)
    have hne := qu_ab hK.qu hK.ac
    have hn1 : ¬ ab = q := hne.1
    have hn2 : ¬ q = w.heap.size := by omega
    have hn3 : ¬ q = w1.heap.size := by omega
    clear hK hne
    gi_wp2
    have hK := HK.out
    have h1 := hK.qu.setCum t
    have hac1 := (hK.ac.other ⟨q, 0, none⟩ (.int .u32 (t : Nat)) (fun e => hn1 e.symm)).put2 (decide (0 < G))
    have h2 := h1.var ⟨ab, 2, none⟩ (.bool (decide (0 < G))) (T := 58) (hK.ac.bt.setCell _ _) (by decide) (by decide) (by decide) (by decide)
    have f2 := (hK.fr.put ⟨q, 0, none⟩ (.int .u32 (t : Nat)) (.inl (.inl (.inl rfl)))).put ⟨ab, 2, none⟩ (.bool (decide (0 < G))) (.inl (.inr rfl))
    have hD2 : ((W.setCell ⟨q, 0, none⟩ (.int .u32 (t : Nat))).setCell ⟨ab, 2, none⟩ (.bool (decide (0 < G)))).heap[U.heap.size]? = some (.deferred (some [])) := by
      rw [Below.heap_setCell _ _ _ _ (by show U.heap.size ≠ ab; omega), Below.heap_setCell _ _ _ _ (by show U.heap.size ≠ q; omega)]
      exact hK.df
    refine ⟨by simp, .inl ⟨_, _, rfl, run_takeDeferred hD2, ?_⟩⟩
    have hg := grownBy_putObj' ((W.setCell ⟨q, 0, none⟩ (.int .u32 (t : Nat))).setCell ⟨ab, 2, none⟩ (.bool (decide (0 < G)))) U.heap.size (.deferred none)
    exact ⟨_, results_none rfl _ _ _, rfl, h2.grown hg (fun r e => by cases e; exact ⟨_, hD2, rfl⟩), hac1.grown hg (fun r e => by cases e; exact ⟨_, hD2, rfl⟩), f2.new hg (fun r e => by cases e; omega)⟩
end Go.Proofs.Ytconfmjgoipejaa
