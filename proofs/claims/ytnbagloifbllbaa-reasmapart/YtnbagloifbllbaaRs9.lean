/- (*reasm.Pool).pieces. -/
import Derived.Test.YtnbagloifbllbaaRsP
namespace Go.Proofs.Ytnbagloifbllbaa
open Go.RowKit
structure PiP (hs : List Pa) (nm : Nm) (w : World) (e : Ending) (w' : World) : Prop where
  ans : (∃ h ∈ hs, h.t.nm = nm ∧ e = .returned (.slice h.t.a h.t.n h.t.c)) ∨ ((∀ h ∈ hs, h.t.nm ≠ nm) ∧ e = .returned (.slice none 0 0))
  bel : Below w.heap.size w w'
theorem namedF (args : Array Value) (W : World) : (callFunc 49 args).run Try.prog W = .ok (.enter 49 args) W := by kernel_rfl
theorem namedc2 (x : Pt) (q : Nat) (sr ds pr id : Nat) (w : World) (hq : Stc w q [.int .u32 (sr : Nat), .int .u32 (ds : Nat), .int .u8 (pr : Nat), .int .u16 (id : Nat)]) :
    Calls Try.prog 49 (#[.agg #[.int .u32 (x.sr : Nat), .int .u32 (x.ds : Nat), .int .u8 (x.pr : Nat), .int .u16 (x.id : Nat), .int .i64 x.si, .slice x.a x.n x.c]] ++ #[.pointer (some ⟨q, 0, none⟩)]) w fun e w' => e = .returned (.bool (decide (x.nm = (sr, ds, pr, id)))) ∧ Below w.heap.size w w' := by
  have h := namedc_any x q sr ds pr id w hq
  rw [show (#[Value.agg #[.int .u32 (x.sr : Nat), .int .u32 (x.ds : Nat), .int .u8 (x.pr : Nat), .int .u16 (x.id : Nat), .int .i64 x.si, .slice x.a x.n x.c]] ++ #[Value.pointer (some ⟨q, 0, none⟩)]) = #[Value.agg #[.int .u32 (x.sr : Nat), .int .u32 (x.ds : Nat), .int .u8 (x.pr : Nat), .int .u16 (x.id : Nat), .int .i64 x.si, .slice x.a x.n x.c], Value.pointer (some ⟨q, 0, none⟩)] by simp]
  exact h
theorem idxN_any (q sr ds pr id : Nat) (B : Nat) (a : Option Addr) (n c : Nat) (ts : List Pt) (w : World) (v1 v2 : Value) (h1 : v1 = .slice a n c) (h2 : v2 = .func (.func 49) #[] #[.pointer (some ⟨q, 0, none⟩)]) (ho : OwnT w B a n c ts) (hq : Stc w q [.int .u32 (sr : Nat), .int .u32 (ds : Nat), .int .u8 (pr : Nat), .int .u16 (id : Nat)]) :
    Calls Try.prog 46 #[v1, v2] w fun e w' => ∃ v, e = .returned (.int .i64 v) ∧ IdxP (fun x => decide (x.nm = (sr, ds, pr, id))) ts v ∧ Below w.heap.size w w' := by
  subst h1 h2
  exact idxT_any 49 #[.pointer (some ⟨q, 0, none⟩)] _ B a n c ts w ho namedF (fun W hW x _ => namedc2 x q sr ds pr id W (hq.below hW))
set_option maxRecDepth 100000 in
set_option maxHeartbeats 1000000 in
theorem pieces_any {w : World} {kd : Nat → Role} {p : Nat} {now dr : Int} {hs : List Pa} (h : PoolW w kd p now dr hs) (sr ds pr id : Nat) :
    Calls Try.prog 30 #[.pointer (some ⟨p, 0, none⟩), .agg #[.int .u32 (sr : Nat), .int .u32 (ds : Nat), .int .u8 (pr : Nat), .int .u16 (id : Nat)]] w (PiP hs (sr, ds, pr, id) w) := by
  obtain ⟨a, c, hc1, hrow, _⟩ := h.cells
  obtain ⟨n, hn⟩ : ∃ n, n = hs.length := ⟨_, rfl⟩
  rw [← hn] at hc1 hrow
  have HN := (show Hid _ from hn)
  clear hn h
  have hpl := hc1.lt
  obtain ⟨w1, hw1⟩ : ∃ w1, w1 = w.alloc (.cells #[.int .u32 (sr : Nat), .int .u32 (ds : Nat), .int .u8 (pr : Nat), .int .u16 (id : Nat)] 56) := ⟨_, rfl⟩
  have b1 : Below w.heap.size w w1 := by rw [hw1]; exact (Below.refl _ _).alloc (Nat.le_refl _) _
  have sn := Stc.new w [.int .u32 (sr : Nat), .int .u32 (ds : Nat), .int .u8 (pr : Nat), .int .u16 (id : Nat)] 56 w1 hw1
  have b1d : Below w.heap.size w w1.drew := b1.trans ((Below.refl _ _).drew.mono b1.size)
  have snd := sn.below (Below.refl _ _).drew
  have hc1d := hc1.below b1d
  have hrowd := hrow.below b1d
  have d1 := hc1d.cell 1 _ rfl
  have e0 := snd.cell 0 _ rfl
  have e1 := snd.cell 1 _ rfl
  have e2 := snd.cell 2 _ rfl
  have e3 := snd.cell 3 _ rfl
  go_enter Try.func30, Try.ntmps30
  go_wp2_with fail
  rw [← hw1]
  clear hw1
  have hnl := snd.lt
  have HK : Hid (∀ W, Below w1.drew.heap.size w1.drew W → W.cell? ⟨p, 1, none⟩ = some (.slice a n c) ∧ W.cell? ⟨w.heap.size, 0, none⟩ = some (.int .u32 (sr : Nat)) ∧ W.cell? ⟨w.heap.size, 1, none⟩ = some (.int .u32 (ds : Nat)) ∧ W.cell? ⟨w.heap.size, 2, none⟩ = some (.int .u8 (pr : Nat)) ∧ W.cell? ⟨w.heap.size, 3, none⟩ = some (.int .u16 (id : Nat))) := fun W hW => ⟨(hc1d.below hW).cell 1 _ rfl, (snd.below hW).cell 0 _ rfl, (snd.below hW).cell 1 _ rfl, (snd.below hW).cell 2 _ rfl, (snd.below hW).cell 3 _ rfl⟩
  go_region_held3 (fun w' => w'.cell? ⟨p, 1, none⟩ = some (.slice a n c) ∧ w'.cell? ⟨w.heap.size, 0, none⟩ = some (.int .u32 (sr : Nat)) ∧ w'.cell? ⟨w.heap.size, 1, none⟩ = some (.int .u32 (ds : Nat)) ∧ w'.cell? ⟨w.heap.size, 2, none⟩ = some (.int .u8 (pr : Nat)) ∧ w'.cell? ⟨w.heap.size, 3, none⟩ = some (.int .u16 (id : Nat))) (first | exact ⟨d1, e0, e1, e2, e3⟩ | exact HK.out _ bK | fail) (first
    | (go_at_call 36; refine (named_any sr ds pr id _).mono ?_; rintro e wn ⟨rfl, sN, bN⟩; have bK := bN)
    | (go_at_call 46; refine (idxN_any w1.heap.size sr ds pr id 0 a n c (hs.map (·.t)) wn _ _ (by rfl) (by rfl) (hrowd.below bN) sN).mono ?_; rintro e wi ⟨v, rfl, hv, bI⟩; have bK := bN.trans (bI.mono bN.size))
    | fail)
  have bb := b1d.trans (bK.mono b1d.size)
  have hc2 := hc1d.below bK
  have hrow2 := hrowd.below bK
  clear d1 e0 e1 e2 e3 HK hc1 hc1d hrow hrowd sn snd b1 b1d sN bN bI bK hnl
  have d1 := hc2.cell 1 _ rfl
  rcases hv with ⟨rfl, hno⟩ | ⟨j, x, rfl, hx, hp, _⟩
  · have HP : Hid (PiP hs (sr, ds, pr, id) w (.returned (.slice none 0 0)) wi) := ⟨.inr ⟨fun h hh e => (by
      have := hno h.t (List.mem_map.2 ⟨h, hh, rfl⟩)
      simp [e] at this), rfl⟩, bb⟩
    clear hno
    go_wp2
    go_ret
    exact HP.out
  · rw [List.getElem?_map] at hx
    obtain ⟨h, hh, hhx⟩ := Option.map_eq_some_iff.1 hx
    subst hhx
    have hjn : j < n := by have := (List.getElem?_eq_some_iff.1 hh).1; rw [HN.out]; exact this
    have hji : (j : Int) < (n : Int) := by omega
    obtain ⟨g, rfl, _, hgl, hcap, _, hcell, _⟩ := hrow2.at_ (fun _ => rfl) (by omega)
    have l5 := hcell j h.t (by rw [List.getElem?_map, hh]; rfl) 5 _ rfl
    have HP : Hid (PiP hs (sr, ds, pr, id) w (.returned (.slice h.t.a h.t.n h.t.c)) wi) := ⟨.inl ⟨h, List.mem_of_getElem? hh, by simpa using hp, rfl⟩, bb⟩
    clear hcell hp hx
    go_wp2
    go_ret
    exact HP.out
end Go.Proofs.Ytnbagloifbllbaa
