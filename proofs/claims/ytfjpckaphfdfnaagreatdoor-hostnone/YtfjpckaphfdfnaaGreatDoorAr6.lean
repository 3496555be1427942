/- arp: the addresses of a cache's neighbours; is one over?; a question. -/
import Derived.Test.YtfjpckaphfdfnaaGreatDoorArW
namespace Go.Proofs.YtfjpckaphfdfnaaGreatDoor
open Go.RowKit Go.MapKept Go.Maps Go.Shelf
attribute [local go_sem] Oper.semAt_some
set_option maxRecDepth 100000 in
set_option maxHeartbeats 1000000 in
theorem keys1_nil (m : Nat) (l Bm : Nat) (J Jx : List Nat → World → Prop) (W : World) (hJ : AbidesFrom W.heap.size J) (hB : W.cell? ⟨Bm, 0, none⟩ = some (.map none)) (h0 : J [] W) :
    CallsIn Fence.wide m Tryz.prog 135 #[.func (.yield l) #[] #[], .pointer (some ⟨Bm, 0, none⟩)] W fun e W' => (∃ v, e = .returned v) ∧
      ((∃ xs, KeysOf (fun _ => none) 0 xs ∧ J xs W') ∨ (∃ pre, True ∧ Jx pre W')) := by
  refine callsIn_of_wp Tryz.func135 rfl trivial ?_ rfl
  simp only [Tryz.ntmps135, List.size_toArray, List.length_cons, List.length_nil, Nat.reduceAdd, Nat.reduceSub, Array.replicate_succ, Array.replicate_zero, List.push_toArray, List.append_toArray, List.nil_append, List.cons_append]
  have hrun := run_range_nilMap (P := Tryz.prog) W 167 _ _ Tryz.underlying167
  have hnx : ∀ ty, (Instr.next (.pointer (some ⟨W.heap.size, 0, none⟩)) false ty).run Tryz.prog (W.alloc (.mapIter none 0 #[] 0)) = _ := fun ty => run_next_nilMap _ ty 0 0 #[]
  have HJ : Hid (J [] (W.alloc (.mapIter none 0 #[] 0))) := hJ [] W _ none h0 (World.grownBy_alloc W _ none) (fun r e => by cases e)
  gi_wp2
  refine wpIn_loop_rounds 1 ?_
  rw [roundsIn_succ]
  gi_wp2
  go_end0
  exact ⟨⟨_, rfl⟩, .inl ⟨[], ⟨List.nodup_nil, fun q => by simp, Nat.le_refl _⟩, HJ.out⟩⟩
theorem keysN_stops (m : Nat) (Bm : Nat) (w : World) (hBm : Bm < w.heap.size) (hB : w.cell? ⟨Bm, 0, none⟩ = some (.map none)) :
    SeqStopsK Fence.wide m Tryz.prog 135 #[.pointer (some ⟨Bm, 0, none⟩)] encA KeepsWalks (KeysOf (fun _ => none) 0) (fun _ => True) 0 w :=
  fun l J Jx W hW hJ _ _ h0 => keys1_nil m l Bm J Jx W hJ ((hW.cell (p := ⟨Bm, 0, none⟩) hBm).trans hB) h0
set_option maxRecDepth 100000 in
set_option maxHeartbeats 1000000 in
theorem addr_none {w : World} {p : Nat} {mac ip : Nat} {now : Int} {lost : Int} (h : Stc w p (CaC mac ip now (.map none) lost)) :
    Calls Tryz.prog 68 #[.pointer (some ⟨p, 0, none⟩)] w (SrdP w (fun _ => none) 0) := by
  refine (callsIn_wide (n := 6)).1 ?_
  have c3 := h.cell 3 _ rfl
  obtain ⟨W0, hW0⟩ : ∃ W0, W0 = w.alloc (.cells #[.map none] 167) := ⟨_, rfl⟩
  have hb0 : Below w.heap.size w W0 := by rw [hW0]; exact (Below.refl _ w).alloc (Nat.le_refl _) _
  have st := Stc.new w [.map none] 167 W0 hW0
  have hS := sorted_in 5 135 0 #[.pointer (some ⟨w.heap.size, 0, none⟩)] (fun _ => none) W0 W0 (Below.refl _ _) (by omega) (enters_of Tryz.func135 (by kernel_rfl) rfl) (keysN_stops _ w.heap.size W0 st.lt (st.cell 0 _ rfl)) (by omega)
  have HB := (show Hid _ from hb0)
  rw [hW0] at hS
  clear hb0 st h
  refine callsIn_of_wp Tryz.func68 rfl trivial ?_ rfl
  simp only [Tryz.ntmps68, List.size_toArray, List.length_cons, List.length_nil, Nat.reduceAdd, Nat.reduceSub, Array.replicate_succ, Array.replicate_zero, List.push_toArray, List.append_toArray, List.nil_append, List.cons_append]
  gi_wp2_with (first
    | (refine ⟨trivial, ?_⟩; gi_at_call 105; refine (callsIn_wide.2 (keys_any _ _)).mono ?_; rintro e w' ⟨rfl, rfl⟩)
    | (refine ⟨trivial, ?_⟩; gi_at_call 104; refine hS.mono ?_; rintro e w' ⟨⟨a, c, L, rfl, hr, ho⟩, hb⟩)
    | fail)
  rw [← hW0] at hb ho
  have HX := (show Hid _ from And.intro hr (And.intro ho hb))
  clear hr ho hb hS
  go_ret
  exact ⟨⟨a, c, L, rfl, HX.out.1, HX.out.2.1.base HB.out.size⟩, HB.out.trans (HX.out.2.2.mono HB.out.size)⟩
structure AdP (w : World) (L : List Nat) (e : Ending) (w' : World) : Prop where
  out : ∃ a c, e = .returned (.slice a L.length c) ∧ OwnA w' w.heap.size a L.length c L
  bel : Below w.heap.size w w'
theorem addr_D {w : World} {kd : Nat → RoleA} {p mac ip : Nat} {now lost : Int} {D : List (Nat × Nbr)} (h : CaW w kd p mac ip now lost D) :
    Calls Tryz.prog 68 #[.pointer (some ⟨p, 0, none⟩)] w (AdP w (D.map (·.1))) := by
  rcases h.near with ⟨h1, rfl⟩ | ⟨mb, h1, h2, h3⟩
  · refine (addr_none h1).mono ?_
    rintro e w' ⟨⟨a, c, L, rfl, hr, ho⟩, hb⟩
    have : L = [] := List.eq_nil_of_length_eq_zero (by have := hr.len; omega)
    subst this
    exact ⟨⟨a, c, rfl, ho⟩, hb⟩
  · refine (addr_any h1 h2 (by have := h.len; omega)).mono ?_
    rintro e w' ⟨⟨a, c, L, rfl, hr, ho⟩, hb⟩
    have := rise_keys h.srt h.keys hr
    subst this
    exact ⟨⟨a, c, rfl, ho⟩, hb⟩
def overB (now : Int) (x : Nbr) : Bool := if x.kn then decide (600 ≤ now - x.at_) else (dueB now x.kn x.at_ && decide (3 ≤ x.ak))
set_option maxRecDepth 100000 in
set_option maxHeartbeats 1000000 in
theorem over_any {w : World} {p : Nat} {mac ip : Nat} {now : Int} {near : Value} {lost : Int} (h : Stc w p (CaC mac ip now near lost)) (x : Nbr) (h0 : 0 ≤ now) (h1 : now ≤ 1099511627776) (ho : NbOk now x) :
    Calls Tryz.prog 90 #[.pointer (some ⟨p, 0, none⟩), x.v] w fun e w' => e = .returned (.bool (overB now x)) ∧ Below w.heap.size w w' := by
  obtain ⟨kn, nm, at_, ak, wa, wn, wc, ws⟩ := x
  have h2 := ho.at0
  have h3 := ho.at1
  have h4 := ho.ak0
  have h5 := ho.ak1
  unfold Nbr.v
  dsimp only at *
  obtain ⟨W, hW⟩ : ∃ W, W = w.alloc (.cells #[.bool kn, .int .u64 (nm : Nat), .int .i64 at_, .int .i64 ak, .slice wa wn wc] 166) := ⟨_, rfl⟩
  have b0 : Below w.heap.size w W := by rw [hW]; exact (Below.refl _ _).alloc (Nat.le_refl _) _
  have stN := Stc.new w [.bool kn, .int .u64 (nm : Nat), .int .i64 at_, .int .i64 ak, .slice wa wn wc] 166 W hW
  have stC := h.below b0
  have c2 := stC.cell 2 _ rfl
  have d0 := stN.cell 0 _ rfl
  have d2 := stN.cell 2 _ rfl
  have d3 := stN.cell 3 _ rfl
  have HB := (show Hid _ from b0)
  have hwr : IntKind.i64.wrap (now - at_) = now - at_ := by rw [IntKind.wrap_i64]; omega
  have HD := (show Hid _ from due_any stC kn nm at_ ak wa wn wc h0 h1 h2 (by omega))
  have HST := (show Hid _ from And.intro stN stC)
  have l0 := stN.cell 1 _ rfl
  have l4 := stN.cell 4 _ rfl
  clear h b0 stN stC ho
  cases kn with
  | true =>
    go_enter Tryz.func90, Tryz.ntmps90
    rw [hW] at c2 d0 d2 d3 l0 l4
    go_wp2
    rw [← hW]
    rw [← hW] at c2 d0 d2 d3 l0 l4
    have HKC : Hid (W.drew.cell? ⟨p, 2, none⟩ = some (.int .i64 now) ∧ W.drew.cell? ⟨w.heap.size, 2, none⟩ = some (.int .i64 at_)) := ⟨c2, d2⟩
    clear hW c2 d0 d2 d3 l0 l4
    refine wp_region_fixW mixedX (fun V => V = W.drew) [(7, .pointer (some ⟨p, 0, none⟩)), (8, .pointer (some ⟨p, 0, none⟩)), (9, .pointer (some ⟨p, 2, none⟩)), (10, .int .i64 now), (11, .pointer (some ⟨w.heap.size, 2, none⟩)), (12, .int .i64 at_), (13, .int .i64 (now - at_)), (14, .bool (decide (600 ≤ now - at_))), (4, .bool (decide (600 ≤ now - at_)))] ?Z1 ?hZ1 (by kernel_rfl) (by kernel_rfl) (by kernel_rfl) (by kernel_rfl) ?h01 ?hops1 ?he1
    case hZ1 => simp only [List.foldl_cons, List.foldl_nil, List.setIfInBounds_toArray, List.set_cons_zero, List.set_cons_succ]; rfl
    case h01 => rfl
    case hops1 =>
      refine ⟨?_, ?_, ?_, ?_, ?_, ?_, ?_, ?_, ?_, trivial⟩
      · exact fix_val (by rfl) (fun W hW => by subst hW; obtain ⟨d0, d1⟩ := HKC.out; go_simp; (try with_reducible rfl); (try omega))
      · exact fix_val (by rfl) (fun W hW => by subst hW; obtain ⟨d0, d1⟩ := HKC.out; go_simp; (try with_reducible rfl); (try omega))
      · exact fix_val (by rfl) (fun W hW => by subst hW; obtain ⟨d0, d1⟩ := HKC.out; go_simp; (try with_reducible rfl); (try omega))
      · exact fix_val (by rfl) (fun W hW => by subst hW; obtain ⟨d0, d1⟩ := HKC.out; go_simp; (try with_reducible rfl); (try omega))
      · exact fix_val (by rfl) (fun W hW => by subst hW; obtain ⟨d0, d1⟩ := HKC.out; go_simp; (try with_reducible rfl); (try omega))
      · exact fix_val (by rfl) (fun W hW => by subst hW; obtain ⟨d0, d1⟩ := HKC.out; go_simp; (try with_reducible rfl); (try omega))
      · exact fix_val (by rfl) (fun W hW => by subst hW; obtain ⟨d0, d1⟩ := HKC.out; go_simp; (try with_reducible rfl); (try omega))
      · exact fix_val (by rfl) (fun W hW => by subst hW; obtain ⟨d0, d1⟩ := HKC.out; go_simp; (try with_reducible rfl); (try omega))
      · exact fix_val (by rfl) (fun W hW => by subst hW; obtain ⟨d0, d1⟩ := HKC.out; go_simp; (try with_reducible rfl); (try omega))
    case he1 =>
    rintro V rfl
    go_wp2
    go_ret
    refine ⟨?_, HB.out.trans ((Below.refl _ _).drew.mono HB.out.size)⟩
    simp [overB]
  | false =>
    go_enter Tryz.func90, Tryz.ntmps90
    rw [hW] at c2 d0 d2 d3 l0 l4
    go_wp2_with fail
    rw [← hW]
    rw [← hW] at c2 d0 d2 d3 l0 l4
    clear hW
    refine Calls.mono HD.out ?_
    rintro e w1 ⟨rfl, hb1⟩
    have e3 := (HST.out.1.below hb1).cell 3 _ rfl
    have HBB := (show Hid _ from HB.out.trans (hb1.mono HB.out.size))
    clear hb1
    obtain ⟨b, hb⟩ : ∃ b, b = dueB now false at_ := ⟨_, rfl⟩
    have HBD := (show Hid _ from hb)
    rw [← hb]
    clear hb
    cases b with
    | true =>
      go_wp2
      go_ret
      refine ⟨?_, HBB.out⟩
      unfold overB
      dsimp only
      rw [← HBD.out]
      simp
    | false =>
      go_wp2
      go_ret
      refine ⟨?_, HBB.out⟩
      unfold overB
      dsimp only
      rw [← HBD.out]
      simp
end Go.Proofs.YtfjpckaphfdfnaaGreatDoor
