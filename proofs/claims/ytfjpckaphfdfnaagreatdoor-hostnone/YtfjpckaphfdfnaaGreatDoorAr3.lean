/- arp: a neighbour is laid into the map. -/
import Derived.Test.YtfjpckaphfdfnaaGreatDoorAr2
import Derived.Test.YtfjpckaphfdfnaaGreatDoorMp
import Derived.Test.YtfjpckaphfdfnaaGreatDoorRgW
namespace Go.Proofs.YtfjpckaphfdfnaaGreatDoor
open Go.RowKit Go.MapKept Go.Maps
def ipV (q : Nat) : Value := .int .u32 (q : Nat)
def IpK (q : Nat) : Prop := q < 4294967296
theorem ipKE : KE Tryz.prog 23 ipV IpK where
  keyed := int_keyed Tryz.underlying23
  ok q h := ⟨_, keyOf_int_mk Tryz.underlying23 (by unfold IpK at h; simp [Lit.wf, IntKind.min, IntKind.max, IntKind.signed, IntKind.bits]; omega)⟩
  inj q q' _ _ h := by simp [ipV] at h; omega
theorem near_some (b : Nat) (W : World) : (binOp .eql 167 (.map (some b)) (.map none)).run Tryz.prog W = .ok (.bool false) W := by kernel_rfl
theorem near_none (W : World) : (binOp .eql 167 (.map none) (.map none)).run Tryz.prog W = .ok (.bool true) W := by kernel_rfl
/-- Behind keep: the map mb holds it. -/
structure KpP (p mac ip : Nat) (now lost : Int) (n : Nat) (g : Nat → Option Value) (mb : Nat) (w : World) (e : Ending) (w' : World) : Prop where
  out : e = .returned (.tuple #[])
  cells : Stc w' p (CaC mac ip now (.map (some mb)) lost)
  map : Mp ipV IpK w' mb n g
  fr : Fr (fun k => k = p ∨ k = mb) w w'
set_option maxRecDepth 100000 in
set_option maxHeartbeats 1000000 in
theorem keep_some {w : World} {p mb : Nat} {mac ip : Nat} {now : Int} {lost : Int} {n : Nat} {g : Nat → Option Value} (h : Stc w p (CaC mac ip now (.map (some mb)) lost)) (hm : Mp ipV IpK w mb n g) (hpm : p ≠ mb) (q : Nat) (hq : q < 4294967296) (kn : Bool) (nm : Nat) (at_ ak : Int) (wa : Option Addr) (wn wc : Nat) :
    Calls Tryz.prog 122 #[.pointer (some ⟨p, 0, none⟩), .int .u32 (q : Nat), .agg #[.bool kn, .int .u64 (nm : Nat), .int .i64 at_, .int .i64 ak, .slice wa wn wc]] w (KpP p mac ip now lost (n + 1) (mset g q (.agg #[.bool kn, .int .u64 (nm : Nat), .int .i64 at_, .int .i64 ak, .slice wa wn wc])) mb w) := by
  obtain ⟨W, hW⟩ : ∃ W, W = w.alloc (.cells #[.bool kn, .int .u64 (nm : Nat), .int .i64 at_, .int .i64 ak, .slice wa wn wc] 166) := ⟨_, rfl⟩
  have b0 : Below w.heap.size w W := by rw [hW]; exact (Below.refl _ _).alloc (Nat.le_refl _) _
  have stN := Stc.new w [.bool kn, .int .u64 (nm : Nat), .int .i64 at_, .int .i64 ak, .slice wa wn wc] 166 W hW
  have h1 := h.below b0
  have c3 := h1.cell 3 _ rfl
  rw [hW] at c3
  have HMP : Hid (Mp ipV IpK W.drew mb n g) := (hm.below b0).below (Below.refl _ _).drew
  have HQ : Hid (IpK q) := hq
  have nn := near_some mb
  have HKC : Hid (W.drew.cell? ⟨p, 3, none⟩ = some (.map (some mb)) ∧ W.drew.cell? ⟨w.heap.size, 0, none⟩ = some (.bool kn) ∧ W.drew.cell? ⟨w.heap.size, 1, none⟩ = some (.int .u64 (nm : Nat)) ∧ W.drew.cell? ⟨w.heap.size, 2, none⟩ = some (.int .i64 at_) ∧ W.drew.cell? ⟨w.heap.size, 3, none⟩ = some (.int .i64 ak) ∧ W.drew.cell? ⟨w.heap.size, 4, none⟩ = some (.slice wa wn wc)) := by
    have s := stN.below (Below.refl _ _).drew
    exact ⟨(h1.below (Below.refl _ _).drew).cell 3 _ rfl, s.cell 0 _ rfl, s.cell 1 _ rfl, s.cell 2 _ rfl, s.cell 3 _ rfl, s.cell 4 _ rfl⟩
  have HH := (show Hid _ from And.intro h1 b0)
  clear stN h1 b0 h hm
  · go_enter Tryz.func122, Tryz.ntmps122
    go_wp2_with fail
    rw [← hW]
    clear hW
    refine wp_region_seq mixedX [] (fun l V => (l 6 = false → V = W.drew) ∧ (l 6 = true → Mp ipV IpK V mb (n + 1) (mset g q (.agg #[.bool kn, .int .u64 (nm : Nat), .int .i64 at_, .int .i64 ak, .slice wa wn wc])) ∧ Fr (· = mb) W.drew V)) [(15, .pointer (some ⟨p, 0, none⟩)), (16, .pointer (some ⟨p, 0, none⟩)), (17, .pointer (some ⟨p, 3, none⟩)), (18, .map (some mb)), (19, .int .u32 (q : Nat)), (20, .agg #[.bool kn, .int .u64 (nm : Nat), .int .i64 at_, .int .i64 ak, .slice wa wn wc])] ?Z1 ?hZ1 (by kernel_rfl) (by kernel_rfl) (by kernel_rfl) (by kernel_rfl) ?h01 ?hops1 ?he1
    case hZ1 => simp only [List.foldl_cons, List.foldl_nil, List.setIfInBounds_toArray, List.set_cons_zero, List.set_cons_succ]; rfl
    case h01 => exact ⟨fun _ => rfl, fun e => (by cases e)⟩
    case hops1 =>
      refine ⟨?_, ?_, ?_, ?_, ?_, ?_, ?_, trivial⟩
      · exact seq_val (by rfl) (fun l V hg => ⟨fun e => hg.1 (by simpa [updL] using e), fun e => hg.2 (by simpa [updL] using e)⟩) (fun l V hl hc hg => by go_simp; (try with_reducible rfl); (try omega))
      · exact seq_val (by rfl) (fun l V hg => ⟨fun e => hg.1 (by simpa [updL] using e), fun e => hg.2 (by simpa [updL] using e)⟩) (fun l V hl hc hg => by go_simp; (try with_reducible rfl); (try omega))
      · exact seq_val (by rfl) (fun l V hg => ⟨fun e => hg.1 (by simpa [updL] using e), fun e => hg.2 (by simpa [updL] using e)⟩) (fun l V hl hc hg => by go_simp; (try with_reducible rfl); (try omega))
      · exact seq_val (by rfl) (fun l V hg => ⟨fun e => hg.1 (by simpa [updL] using e), fun e => hg.2 (by simpa [updL] using e)⟩) (fun l V hl hc hg => by have h6 : l 6 = false := (by cases h6 : l 6 with | false => rfl | true => exact absurd (hc 6 3 (by kernel_rfl) h6) (by rw [hl]; decide)); obtain rfl := hg.1 h6; obtain ⟨d0, d1, d2, d3, d4, d5⟩ := HKC.out; go_simp; (try with_reducible rfl); (try omega))
      · exact seq_val (by rfl) (fun l V hg => ⟨fun e => hg.1 (by simpa [updL] using e), fun e => hg.2 (by simpa [updL] using e)⟩) (fun l V hl hc hg => by go_simp; (try with_reducible rfl); (try omega))
      · exact seq_val (by rfl) (fun l V hg => ⟨fun e => hg.1 (by simpa [updL] using e), fun e => hg.2 (by simpa [updL] using e)⟩) (fun l V hl hc hg => by have h6 : l 6 = false := (by cases h6 : l 6 with | false => rfl | true => exact absurd (hc 6 5 (by kernel_rfl) h6) (by rw [hl]; decide)); obtain rfl := hg.1 h6; obtain ⟨d0, d1, d2, d3, d4, d5⟩ := HKC.out; go_simp; (try with_reducible rfl); (try omega))
      · exact seq_skip (by rfl) rfl (fun l V hl hd hc hg => by
          obtain rfl := hg.1 hl
          obtain ⟨V2, hr, hm, hf, _⟩ := HMP.out.upd ipKE Tryz.underlying167 (q := q) HQ.out (.agg #[.bool kn, .int .u64 (nm : Nat), .int .i64 at_, .int .i64 ak, .slice wa wn wc])
          refine ⟨V2, by simp [execOp, Act.eval, ipV] at hr ⊢; simp [hr, Result.andThen], fun e => (by simp [updL] at e), fun _ => ⟨hm, hf⟩⟩)
    case he1 =>
    intro l V hall hg
    obtain ⟨hm, hf⟩ := hg.2 (hall 6 (by decide))
    clear hg hall
    have HV := (show Hid _ from And.intro hm hf)
    clear hm hf
    go_wp2
    refine bodyPost_ret (results_none rfl _ _ _) rfl ?_
    obtain ⟨hm, hf⟩ := HV.out
    obtain ⟨h1, b0⟩ := HH.out
    have hf2 : Fr (· = mb) w V := (Fr.of_below (b0.trans ((Below.refl _ _).drew.mono b0.size))).trans hf
    exact ⟨rfl, (h1.below (Below.refl _ _).drew).fr hf hpm, hm, hf2.mono (fun k _ hk => .inr hk)⟩
set_option maxRecDepth 100000 in
set_option maxHeartbeats 1000000 in
theorem keep_none {w : World} {p : Nat} {mac ip : Nat} {now : Int} {lost : Int} (h : Stc w p (CaC mac ip now (.map none) lost)) (q : Nat) (hq : q < 4294967296) (kn : Bool) (nm : Nat) (at_ ak : Int) (wa : Option Addr) (wn wc : Nat) :
    Calls Tryz.prog 122 #[.pointer (some ⟨p, 0, none⟩), .int .u32 (q : Nat), .agg #[.bool kn, .int .u64 (nm : Nat), .int .i64 at_, .int .i64 ak, .slice wa wn wc]] w (KpP p mac ip now lost 1 (mset (fun _ => none) q (.agg #[.bool kn, .int .u64 (nm : Nat), .int .i64 at_, .int .i64 ak, .slice wa wn wc])) (w.heap.size + 1) w) := by
  have hpl := h.lt
  obtain ⟨g, hg⟩ : ∃ g : Nat → Option Value, g = fun _ => none := ⟨_, rfl⟩
  rw [← hg]
  obtain ⟨W0, hW0⟩ : ∃ W, W = w.setCell ⟨p, 3, none⟩ (.map (some (w.heap.size + 1))) := ⟨_, rfl⟩
  obtain ⟨W1, hW1⟩ : ∃ W, W = W0.alloc (.cells #[.bool kn, .int .u64 (nm : Nat), .int .i64 at_, .int .i64 ak, .slice wa wn wc] 166) := ⟨_, rfl⟩
  obtain ⟨W, hW⟩ : ∃ W, W = W1.alloc (.map #[] 0) := ⟨_, rfl⟩
  have hz0 : W0.heap.size = w.heap.size := by rw [hW0]; simp
  have hz1 : W1.heap.size = w.heap.size + 1 := by rw [hW1]; simp [hz0]
  have b1 : Below W0.heap.size W0 W1 := by rw [hW1]; exact (Below.refl _ _).alloc (Nat.le_refl _) _
  have b2 : Below W1.heap.size W1 W := by rw [hW]; exact (Below.refl _ _).alloc (Nat.le_refl _) _
  have h0 : Stc W0 p (CaC mac ip now (.map (some (w.heap.size + 1))) lost) := by rw [hW0]; exact h.set 3 _
  have h3 := (h0.below b1).below b2
  have hf0 : Fr (· = p) w W0 := by rw [hW0]; exact Fr.setCell _ _ _ _ rfl
  have hf3 : Fr (· = p) w W := hf0.trans (Fr.of_below (b1.trans (b2.mono b1.size)))
  have hm2 : Mp ipV IpK W (w.heap.size + 1) 0 g := by rw [hg, ← hz1]; exact Mp.made W1 W hW
  have stN := (Stc.new W0 [.bool kn, .int .u64 (nm : Nat), .int .i64 at_, .int .i64 ak, .slice wa wn wc] 166 W1 hW1).below b2
  rw [hz0] at stN
  have c3 := h.cell 3 _ rfl
  have f3 := h.free 3
  have HMP : Hid (Mp ipV IpK W.drew (w.heap.size + 1) 0 g) := hm2.below (Below.refl _ _).drew
  have HQ : Hid (IpK q) := hq
  have nn := near_none
  have hmm := @run_makeMap Tryz.prog
  have HKC : Hid (W.drew.cell? ⟨p, 3, none⟩ = some (.map (some (w.heap.size + 1))) ∧ W.drew.cell? ⟨w.heap.size, 0, none⟩ = some (.bool kn) ∧ W.drew.cell? ⟨w.heap.size, 1, none⟩ = some (.int .u64 (nm : Nat)) ∧ W.drew.cell? ⟨w.heap.size, 2, none⟩ = some (.int .i64 at_) ∧ W.drew.cell? ⟨w.heap.size, 3, none⟩ = some (.int .i64 ak) ∧ W.drew.cell? ⟨w.heap.size, 4, none⟩ = some (.slice wa wn wc)) := by
    have s := stN.below (Below.refl _ _).drew
    exact ⟨(h3.below (Below.refl _ _).drew).cell 3 _ rfl, s.cell 0 _ rfl, s.cell 1 _ rfl, s.cell 2 _ rfl, s.cell 3 _ rfl, s.cell 4 _ rfl⟩
  have HH := (show Hid _ from And.intro h3 hf3)
  have hpn : ¬ p = w.heap.size := by omega
  have hpn1 : ¬ p = w.heap.size + 1 := by omega
  rw [hW1, hW0] at hW
  clear stN h0 h3 b1 b2 hf0 hf3 hm2 hW1 hW0 hz0 hz1 hg h
  obtain ⟨n, hn⟩ : ∃ n : Nat, n = 0 := ⟨_, rfl⟩
  have HN : Hid (n = 0) := hn
  rw [← hn] at HMP
  clear hn
  · go_enter Tryz.func122, Tryz.ntmps122
    go_wp2_with fail
    rw [← hW]
    clear hW
    refine wp_region_seq mixedX [] (fun l V => (l 6 = false → V = W.drew) ∧ (l 6 = true → Mp ipV IpK V (w.heap.size + 1) (n + 1) (mset g q (.agg #[.bool kn, .int .u64 (nm : Nat), .int .i64 at_, .int .i64 ak, .slice wa wn wc])) ∧ Fr (· = (w.heap.size + 1)) W.drew V)) [(15, .pointer (some ⟨p, 0, none⟩)), (16, .pointer (some ⟨p, 0, none⟩)), (17, .pointer (some ⟨p, 3, none⟩)), (18, .map (some (w.heap.size + 1))), (19, .int .u32 (q : Nat)), (20, .agg #[.bool kn, .int .u64 (nm : Nat), .int .i64 at_, .int .i64 ak, .slice wa wn wc])] ?Z2 ?hZ2 (by kernel_rfl) (by kernel_rfl) (by kernel_rfl) (by kernel_rfl) ?h02 ?hops2 ?he2
    case hZ2 => simp only [List.foldl_cons, List.foldl_nil, List.setIfInBounds_toArray, List.set_cons_zero, List.set_cons_succ]; rfl
    case h02 => exact ⟨fun _ => rfl, fun e => (by cases e)⟩
    case hops2 =>
      refine ⟨?_, ?_, ?_, ?_, ?_, ?_, ?_, trivial⟩
      · exact seq_val (by rfl) (fun l V hg => ⟨fun e => hg.1 (by simpa [updL] using e), fun e => hg.2 (by simpa [updL] using e)⟩) (fun l V hl hc hg => by go_simp; (try with_reducible rfl); (try omega))
      · exact seq_val (by rfl) (fun l V hg => ⟨fun e => hg.1 (by simpa [updL] using e), fun e => hg.2 (by simpa [updL] using e)⟩) (fun l V hl hc hg => by go_simp; (try with_reducible rfl); (try omega))
      · exact seq_val (by rfl) (fun l V hg => ⟨fun e => hg.1 (by simpa [updL] using e), fun e => hg.2 (by simpa [updL] using e)⟩) (fun l V hl hc hg => by go_simp; (try with_reducible rfl); (try omega))
      · exact seq_val (by rfl) (fun l V hg => ⟨fun e => hg.1 (by simpa [updL] using e), fun e => hg.2 (by simpa [updL] using e)⟩) (fun l V hl hc hg => by have h6 : l 6 = false := (by cases h6 : l 6 with | false => rfl | true => exact absurd (hc 6 3 (by kernel_rfl) h6) (by rw [hl]; decide)); obtain rfl := hg.1 h6; obtain ⟨d0, d1, d2, d3, d4, d5⟩ := HKC.out; go_simp; (try with_reducible rfl); (try omega))
      · exact seq_val (by rfl) (fun l V hg => ⟨fun e => hg.1 (by simpa [updL] using e), fun e => hg.2 (by simpa [updL] using e)⟩) (fun l V hl hc hg => by go_simp; (try with_reducible rfl); (try omega))
      · exact seq_val (by rfl) (fun l V hg => ⟨fun e => hg.1 (by simpa [updL] using e), fun e => hg.2 (by simpa [updL] using e)⟩) (fun l V hl hc hg => by have h6 : l 6 = false := (by cases h6 : l 6 with | false => rfl | true => exact absurd (hc 6 5 (by kernel_rfl) h6) (by rw [hl]; decide)); obtain rfl := hg.1 h6; obtain ⟨d0, d1, d2, d3, d4, d5⟩ := HKC.out; go_simp; (try with_reducible rfl); (try omega))
      · exact seq_skip (by rfl) rfl (fun l V hl hd hc hg => by
          obtain rfl := hg.1 hl
          obtain ⟨V2, hr, hm, hf, _⟩ := HMP.out.upd ipKE Tryz.underlying167 (q := q) HQ.out (.agg #[.bool kn, .int .u64 (nm : Nat), .int .i64 at_, .int .i64 ak, .slice wa wn wc])
          refine ⟨V2, by simp [execOp, Act.eval, ipV] at hr ⊢; simp [hr, Result.andThen], fun e => (by simp [updL] at e), fun _ => ⟨hm, hf⟩⟩)
    case he2 =>
    intro l V hall hg
    obtain ⟨hm, hf⟩ := hg.2 (hall 6 (by decide))
    clear hg hall
    have HV := (show Hid _ from And.intro hm hf)
    clear hm hf
    go_wp2
    refine bodyPost_ret (results_none rfl _ _ _) rfl ?_
    obtain ⟨hm, hf⟩ := HV.out
    obtain ⟨h3, hf3⟩ := HH.out
    rw [HN.out] at hm
    have hf2 : Fr (fun k => k = p ∨ k = w.heap.size + 1) w V := ((hf3.trans (Fr.of_below (Below.refl _ _).drew)).mono (fun k _ hk => .inl hk)).trans (hf.mono (fun k _ hk => .inr hk))
    exact ⟨rfl, (h3.below (Below.refl _ _).drew).fr hf hpn1, hm, hf2⟩
end Go.Proofs.YtfjpckaphfdfnaaGreatDoor
