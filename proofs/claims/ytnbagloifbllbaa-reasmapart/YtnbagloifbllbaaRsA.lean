/- (*reasm.Pool).begin, where there is room. -/
import Derived.Test.YtnbagloifbllbaaRs9
import Derived.Test.YtnbagloifbllbaaRgY
namespace Go.Proofs.Ytnbagloifbllbaa
open Go.RowKit
/-- From one pool to another: its own blocks alone are turned, others may be added. -/
structure Grow (kd kd' : Nat → Role) (w w' : World) : Prop where
  keep : ∀ g, g < w.heap.size → kd' g = kd g
  fr : Fr (fun g => kd g ≠ .no) w w'
theorem Grow.trans {kd kd' kd'' : Nat → Role} {w w' w'' : World} (h : Grow kd kd' w w') (k : Grow kd' kd'' w' w'') : Grow kd kd'' w w'' :=
  ⟨fun g hg => (k.keep g (Nat.lt_of_lt_of_le hg h.fr.size)).trans (h.keep g hg), ⟨k.fr.os.trans h.fr.os, k.fr.tape.trans h.fr.tape, k.fr.output.trans h.fr.output, Nat.le_trans h.fr.size k.fr.size, fun g hg hn => (k.fr.block g (Nat.lt_of_lt_of_le hg h.fr.size) (by rw [h.keep g hg]; exact hn)).trans (h.fr.block g hg hn)⟩⟩
theorem Grow.of_below {kd : Nat → Role} {w w' : World} (h : Below w.heap.size w w') : Grow kd kd w w' := ⟨fun _ _ => rfl, Fr.of_below h⟩
structure BgP (kd : Nat → Role) (p : Nat) (now dr : Int) (hs : List Pa) (t : Pt) (w : World) (e : Ending) (w' : World) : Prop where
  ans : e = .returned (.int .i64 (hs.length : Nat))
  pool : ∃ kd', PoolW w' kd' p now dr (hs ++ [⟨t, []⟩]) ∧ Grow kd kd' w w'
/-- A pool with one more, behind append. -/
theorem PoolW.push {w w1 w2 : World} {kd : Nat → Role} {p : Nat} {now dr : Int} {hs : List Pa} {a : Option Addr} {c : Nat} (h : PoolW w kd p now dr hs) (hc1 : Stc w p [.int .i64 now, .slice a hs.length c, .int .i64 dr]) (hrk : ∀ g, (Value.slice a hs.length c).ownBlock = some g → kd g = .row) (b1 : Below w.heap.size w w1) (t : Pt) (ht : t.a = none ∧ t.n = 0 ∧ t.c = 0) (hnm : ∀ x ∈ hs, x.t.nm ≠ t.nm) {g c2 : Nat}
    (ho : OwnT w2 0 (some ⟨g, 0, none⟩) (hs.length + 1) c2 (hs.map (·.t) ++ [t])) (hg : w1.grownBy w2 (Value.slice a hs.length c).ownBlock) (hl : (Value.slice a hs.length c).ownBlock = some g ∨ g = w1.heap.size) :
    ∃ kd', PoolW (w2.setCell ⟨p, 1, none⟩ (.slice (some ⟨g, 0, none⟩) (hs.length + 1) c2)) kd' p now dr (hs ++ [⟨t, []⟩]) ∧ Grow kd kd' w (w2.setCell ⟨p, 1, none⟩ (.slice (some ⟨g, 0, none⟩) (hs.length + 1) c2)) := by
  have hgl : g < w2.heap.size := (ho.own.lt g rfl).2
  have hz1 := b1.size
  have hz2 := hg.size
  have hkp := h.kp
  have hgk : g < w.heap.size → kd g = .row := fun hlt => by
    rcases hl with hl | hl
    · exact hrk g hl
    · omega
  have hgp : g ≠ p := fun e => by
    subst e
    have := hgk hc1.lt
    rw [hkp] at this
    cases this
  obtain ⟨v, hv⟩ : ∃ v, v = Value.slice (some ⟨g, 0, none⟩) (hs.length + 1) c2 := ⟨_, rfl⟩
  rw [← hv]
  have fr2 : Fr (fun b => b = p ∨ (Value.slice a hs.length c).ownBlock = some b) w w2 := (Fr.of_below b1).trans (Fr.grown hg (fun k hk => .inr hk))
  have fr3 := fr2.trans (Fr.setCell (fun b => b = p ∨ (Value.slice a hs.length c).ownBlock = some b) w2 ⟨p, 1, none⟩ v (.inl rfl))
  have hz3 : (w2.setCell ⟨p, 1, none⟩ v).heap.size = w2.heap.size := by simp [World.setCell]
  have st2 : Stc w2 p [.int .i64 now, .slice a hs.length c, .int .i64 dr] := hc1.fr ((Fr.of_below (P := fun b => (Value.slice a hs.length c).ownBlock = some b) b1).trans (Fr.grown hg (fun k hk => hk))) (fun e => by
    have := hrk p e
    rw [hkp] at this
    cases this)
  refine ⟨fun b => if b < w.heap.size then kd b else if b = g then .row else .no, ⟨?_, ⟨some ⟨g, 0, none⟩, c2, ?_, ?_, ?_⟩, ?_, ?_, ?_⟩, ⟨fun b hb => if_pos hb, ?_⟩⟩
  · show (if p < w.heap.size then kd p else _) = _
    rw [if_pos hc1.lt]
    exact hkp
  · rw [List.length_append]
    have := st2.set 1 v
    rw [hv] at this
    rw [hv]
    exact this
  · rw [List.length_append, List.map_append]
    exact ho.fr (Fr.setCell (fun b => b = p) w2 ⟨p, 1, none⟩ v rfl) (fun b hb e => hgp (by
      have : g = b := by simpa [Value.ownBlock] using hb
      rw [this]; exact e))
  · intro b hb
    have hgb : g = b := by simpa [Value.ownBlock] using hb
    subst hgb
    show (if g < w.heap.size then kd g else if g = g then Role.row else .no) = _
    split
    · rename_i h1; exact hgk h1
    · rw [if_pos rfl]
  · intro x hx
    rcases List.mem_append.1 hx with hx | hx
    · refine (h.each x hx).fr fr3 (fun b hb hQ => ?_) (fun b hb _ => if_pos hb)
      rcases hQ with rfl | hQ
      · rw [hkp]; exact ⟨fun e => (by cases e), fun e => (by cases e)⟩
      · rw [hrk b hQ]; exact ⟨fun e => (by cases e), fun e => (by cases e)⟩
    · rw [List.mem_singleton] at hx
      subst hx
      obtain ⟨h1, h2, h3⟩ := ht
      refine ⟨?_, fun b hb => ?_, fun q hq => ?_⟩
      · dsimp only
        rw [h1, h2, h3]
        exact OwnK.nil _ _
      · dsimp only at hb
        rw [h1, h2, h3] at hb
        cases hb
      · cases hq
  · intro b hb
    have hb : w2.heap.size ≤ b := by rw [← hz3]; exact hb
    show (if b < w.heap.size then kd b else if b = g then Role.row else .no) = _
    rw [if_neg (by omega), if_neg (by omega)]
  · rw [List.map_append, List.nodup_append]
    refine ⟨h.nodup, by simp, fun x hx y hy e => ?_⟩
    obtain ⟨z, hz, rfl⟩ := List.mem_map.1 hx
    simp at hy
    exact hnm z hz (e.trans hy)
  · refine fr3.mono (fun b _ hQ => ?_)
    rcases hQ with rfl | hQ
    · rw [hkp]; exact fun e => (by cases e)
    · rw [hrk b hQ]; exact fun e => (by cases e)
set_option maxRecDepth 100000 in
set_option maxHeartbeats 1000000 in
theorem begin_any {w : World} {kd : Nat → Role} {p : Nat} {now dr : Int} {hs : List Pa} (h : PoolW w kd p now dr hs) (hroom : hs.length < 4) (sr ds pr id : Nat) (hnm : ∀ x ∈ hs, x.t.nm ≠ (sr, ds, pr, id)) :
    Calls Try.prog 50 #[.pointer (some ⟨p, 0, none⟩), .agg #[.int .u32 (sr : Nat), .int .u32 (ds : Nat), .int .u8 (pr : Nat), .int .u16 (id : Nat)]] w (BgP kd p now dr hs ⟨sr, ds, pr, id, now, none, 0, 0⟩ w) := by
  obtain ⟨a, c, hc1, hrow, hrk⟩ := h.cells
  have HPU := fun w1 w2 (b1 : Below w.heap.size w w1) g c2 h1 h2 h3 => h.push (w1 := w1) (w2 := w2) (g := g) (c2 := c2) hc1 hrk b1 ⟨sr, ds, pr, id, now, none, 0, 0⟩ ⟨rfl, rfl, rfl⟩ hnm h1 h2 h3
  have HBG : Hid (∀ W, (∃ kd', PoolW W kd' p now dr (hs ++ [⟨⟨sr, ds, pr, id, now, none, 0, 0⟩, []⟩]) ∧ Grow kd kd' w W) → BgP kd p now dr hs ⟨sr, ds, pr, id, now, none, 0, 0⟩ w (.returned (.int .i64 (hs.length : Nat))) W) := fun W hW => ⟨rfl, hW⟩
  have hpg : (Value.slice a hs.length c).ownBlock ≠ some p := fun e => by have h1 := hrk p e; rw [h.kp] at h1; cases h1
  obtain ⟨n, hn⟩ : ∃ n, n = hs.length := ⟨_, rfl⟩
  rw [← hn] at hc1 hrow hroom HPU HBG hpg
  clear hn h hnm hrk
  have hpl := hc1.lt
  obtain ⟨w1, hw1⟩ : ∃ w1, w1 = w.alloc (.cells #[.int .u32 (sr : Nat), .int .u32 (ds : Nat), .int .u8 (pr : Nat), .int .u16 (id : Nat)] 56) := ⟨_, rfl⟩
  have b1 : Below w.heap.size w w1 := by rw [hw1]; exact (Below.refl _ _).alloc (Nat.le_refl _) _
  have sn := Stc.new w [.int .u32 (sr : Nat), .int .u32 (ds : Nat), .int .u8 (pr : Nat), .int .u16 (id : Nat)] 56 w1 hw1
  have b1d : Below w.heap.size w w1.drew := b1.trans ((Below.refl _ _).drew.mono b1.size)
  obtain ⟨wa, hwa⟩ : ∃ wa, wa = w1.drew.alloc (.cells #[.int .u32 (sr : Nat), .int .u32 (ds : Nat), .int .u8 (pr : Nat), .int .u16 (id : Nat), .int .i64 now, .slice none 0 0] 58) := ⟨_, rfl⟩
  have ba : Below w1.drew.heap.size w1.drew wa := by rw [hwa]; exact (Below.refl _ _).alloc (Nat.le_refl _) _
  have sa := Stc.new w1.drew [.int .u32 (sr : Nat), .int .u32 (ds : Nat), .int .u8 (pr : Nat), .int .u16 (id : Nat), .int .i64 now, .slice none 0 0] 58 wa hwa
  have bba := b1d.trans (ba.mono b1d.size)
  have hza := bba.size
  obtain ⟨g, c2, wb, happ, hob, hgb, hlb, hglb⟩ := (hrow.below bba).app layPt 48 ⟨sr, ds, pr, id, now, none, 0, 0⟩ ⟨w1.drew.heap.size, 0, none⟩ (fun j u hu => by rw [Addr.add_mid, Nat.zero_add]; exact sa.cell j u hu) (by unfold maxLen; omega) (by omega) (Nat.zero_le _)
  obtain ⟨wc, hwc⟩ : ∃ wc, wc = wb.setCell ⟨p, 1, none⟩ (.slice (some ⟨g, 0, none⟩) (n + 1) c2) := ⟨_, rfl⟩
  have hpost := HPU wa wb bba g c2 hob hgb hlb
  rw [← hwc] at hpost
  have cA := hc1.below b1d
  have cB := hc1.below bba
  have cC := cB.fr (Fr.grown (P := fun b => (Value.slice a n c).ownBlock = some b) hgb (fun k hk => hk)) hpg
  have cD := cC.set 1 (.slice (some ⟨g, 0, none⟩) (n + 1) c2)
  rw [← hwc] at cD
  have snA := sn.below (Below.refl _ _).drew
  have snB := snA.below ba
  have snC := snB.fr (Fr.grown (P := fun b => (Value.slice a n c).ownBlock = some b) hgb (fun k hk => hk)) (fun e => by have := (hrow.own.lt _ e).2; omega)
  have hw1l := sn.lt
  have c10 := hc1.cell 1 _ rfl
  have m0 := cA.cell 0 _ rfl
  have m1 := cA.cell 1 _ rfl
  have n0 := cB.cell 0 _ rfl
  have n1 := cB.cell 1 _ rfl
  have o0 := cC.cell 0 _ rfl
  have o1 := cC.cell 1 _ rfl
  have of1 := cC.free 1
  have q1 := cD.cell 1 _ rfl
  have HWA := (show Hid _ from hwa)
  have HWC := (show Hid _ from hwc)
  have happ : (Builtin.append_ #[48, 48] 48 #[.slice a n c, .slice (some ⟨w1.heap.size, 0, none⟩) 1 1]).run Try.prog wa = .ok (.slice (some ⟨g, 0, none⟩) (n + 1) c2) wb := happ
  clear hwa hwc
  have hn4 : ¬ ((n : Nat) : Int) = 4 := by omega
  go_enter Try.func50, Try.ntmps50
  go_wp2_with fail
  rw [← hw1]
  clear hw1
  clear c10 HPU
  refine wp_region_stage mixedX [11, 12, 15] (fun k W => match k with | 0 => W = w1.drew | 1 => W = wa | 2 => W = wb | _ => W = wc) (fun W => W.cell? ⟨p, 0, none⟩ = some (.int .i64 now) ∧ W.cell? ⟨p, 1, none⟩ = some (.slice a n c) ∧ W.cell? ⟨w.heap.size, 0, none⟩ = some (.int .u32 (sr : Nat)) ∧ W.cell? ⟨w.heap.size, 1, none⟩ = some (.int .u32 (ds : Nat)) ∧ W.cell? ⟨w.heap.size, 2, none⟩ = some (.int .u8 (pr : Nat)) ∧ W.cell? ⟨w.heap.size, 3, none⟩ = some (.int .u16 (id : Nat))) [(21, .pointer (some ⟨p, 0, none⟩)), (22, .pointer (some ⟨p, 0, none⟩)), (23, .pointer (some ⟨p, 0, none⟩)), (24, .pointer (some ⟨p, 1, none⟩)), (25, .slice a n c), (26, .agg #[.int .u32 (sr : Nat), .int .u32 (ds : Nat), .int .u8 (pr : Nat), .int .u16 (id : Nat)]), (27, .pointer (some ⟨p, 0, none⟩)), (28, .pointer (some ⟨p, 0, none⟩)), (29, .pointer (some ⟨p, 0, none⟩)), (30, .int .i64 now), (31, .agg #[.int .u32 (sr : Nat), .int .u32 (ds : Nat), .int .u8 (pr : Nat), .int .u16 (id : Nat), .int .i64 now, .slice none 0 0]), (32, .slice (some ⟨w1.heap.size, 0, none⟩) 1 1), (33, .slice (some ⟨g, 0, none⟩) (n + 1) c2), (34, .pointer (some ⟨p, 0, none⟩)), (35, .pointer (some ⟨p, 1, none⟩))] ?Z1 ?hZ1 (by kernel_rfl) (by kernel_rfl) (by kernel_rfl) (by kernel_rfl) (by kernel_rfl) ?h01 ?hS1 (.inl (by kernel_rfl)) ?hops1 ?he1 (by kernel_rfl) (by decide)
  case hZ1 => simp only [List.foldl_cons, List.foldl_nil, List.setIfInBounds_toArray, List.set_cons_zero, List.set_cons_succ]; rfl
  case h01 => rfl
  case hS1 =>
    intro k W hk hW
    have hk : k < 3 := hk
    obtain rfl | rfl | rfl : k = 0 ∨ k = 1 ∨ k = 2 := by omega
    · subst hW; exact ⟨m0, m1, snA.cell 0 _ rfl, snA.cell 1 _ rfl, snA.cell 2 _ rfl, snA.cell 3 _ rfl⟩
    · subst hW; exact ⟨n0, n1, snB.cell 0 _ rfl, snB.cell 1 _ rfl, snB.cell 2 _ rfl, snB.cell 3 _ rfl⟩
    · subst hW; exact ⟨o0, o1, snC.cell 0 _ rfl, snC.cell 1 _ rfl, snC.cell 2 _ rfl, snC.cell 3 _ rfl⟩
  case hops1 =>
    refine ⟨?_, ?_, ?_, ?_, ?_, ?_, ?_, ?_, ?_, ?_, ?_, ?_, ?_, ?_, ?_, ?_, trivial⟩
    · exact stg_val (by rfl) (by rfl) (fun W hW => by obtain ⟨x0, x1, x2, x3, x4, x5⟩ := hW; go_simp; (try with_reducible rfl); (try omega))
    · exact stg_val (by rfl) (by rfl) (fun W hW => by obtain ⟨x0, x1, x2, x3, x4, x5⟩ := hW; go_simp; (try with_reducible rfl); (try omega))
    · exact stg_val (by rfl) (by rfl) (fun W hW => by obtain ⟨x0, x1, x2, x3, x4, x5⟩ := hW; go_simp; (try with_reducible rfl); (try omega))
    · exact stg_val (by rfl) (by rfl) (fun W hW => by obtain ⟨x0, x1, x2, x3, x4, x5⟩ := hW; go_simp; (try with_reducible rfl); (try omega))
    · exact stg_val (by rfl) (by rfl) (fun W hW => by obtain ⟨x0, x1, x2, x3, x4, x5⟩ := hW; go_simp; (try with_reducible rfl); (try omega))
    · exact stg_val (by rfl) (by rfl) (fun W hW => by obtain ⟨x0, x1, x2, x3, x4, x5⟩ := hW; go_simp; (try with_reducible rfl); (try omega))
    · exact stg_val (by rfl) (by rfl) (fun W hW => by obtain ⟨x0, x1, x2, x3, x4, x5⟩ := hW; go_simp; (try with_reducible rfl); (try omega))
    · exact stg_val (by rfl) (by rfl) (fun W hW => by obtain ⟨x0, x1, x2, x3, x4, x5⟩ := hW; go_simp; (try with_reducible rfl); (try omega))
    · exact stg_val (by rfl) (by rfl) (fun W hW => by obtain ⟨x0, x1, x2, x3, x4, x5⟩ := hW; go_simp; (try with_reducible rfl); (try omega))
    · exact stg_val (by rfl) (by rfl) (fun W hW => by obtain ⟨x0, x1, x2, x3, x4, x5⟩ := hW; go_simp; (try with_reducible rfl); (try omega))
    · exact stg_val (by rfl) (by rfl) (fun W hW => by obtain ⟨x0, x1, x2, x3, x4, x5⟩ := hW; go_simp; (try with_reducible rfl); (try omega))
    · exact stg_run (by rfl) (by rfl) (fun W hW => by subst hW; refine ⟨wa, ?_, rfl⟩; rw [HWA.out]; go_simp; try rfl)
    · exact stg_run (by rfl) (by rfl) (fun W hW => by subst hW; exact ⟨wb, run_appX rfl rfl rfl rfl happ, rfl⟩)
    · exact stg_val (by rfl) (by rfl) (fun W hW => by obtain ⟨x0, x1, x2, x3, x4, x5⟩ := hW; go_simp; (try with_reducible rfl); (try omega))
    · exact stg_val (by rfl) (by rfl) (fun W hW => by obtain ⟨x0, x1, x2, x3, x4, x5⟩ := hW; go_simp; (try with_reducible rfl); (try omega))
    · exact stg_skip (by rfl) (by rfl) rfl (fun W hW => by subst hW; refine ⟨wc, ?_, rfl⟩; rw [HWC.out]; go_simp; try rfl)
  case he1 =>
  intro W hW
  subst hW
  have HFA := (show Hid _ from HBG.out W hpost)
  clear hpost HBG HWA HWC happ
  go_wp2
  go_ret
  exact HFA.out
end Go.Proofs.Ytnbagloifbllbaa
