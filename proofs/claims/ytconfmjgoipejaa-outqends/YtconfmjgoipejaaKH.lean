/- law14.live: what must be whatever is asked. -/
import Derived.Test.YtconfmjgoipejaaKG
import Derived.Test.YtconfmjgoipejaaRfM
import Derived.Test.YtconfmjgoipejaaOqD
import Derived.Test.YtconfmjgoipejaaOqA
import Derived.Test.YtconfmjgoipejaaKF
import Derived.Test.YtconfmjgoipejaaProg
import Derived.Test.YtconfmjgoipejaaBase
import Derived.Laws.IdiomStrings
import Derived.Lib.SlBytesConst
namespace Go.Proofs.Ytconfmjgoipejaa
open Go.RowKit Go.Shelf
attribute [local go_sem] Oper.semAt_some
section
variable {w : World} {q nb : Nat} {pa : Option Addr} {cap : Nat} {L : List PcA} {cum size : Nat} {nx : List Nat}
/-- The first piece's and the last one's marks. -/
def markL (n : Nat) (ps : List Pc) : List Pc := (ps.modify 0 (markF 2)).modify (n - 1) (markF 1)
set_option maxRecDepth 100000 in
set_option maxHeartbeats 4000000 in
theorem push_ok (h : QuW w q nb pa cap L cum size nx) (hL : L.length ≤ 100000) (hS : sumL L L.length ≤ 100000) (hc : cum < 4294967296) (hz : 1 ≤ size) (hz2 : size ≤ 100000) (hnx : ∀ i, nx.getD i 0 < 65536) (st ss pp : Nat) (fr : Bool) {da : Option Addr} {dn dc : Nat} {zs : List Nat} (hst : st < 65536) (hs : Sl w da dn dc zs) (hsk : ∀ b o s, da = some ⟨b, o, s⟩ → b < w.heap.size ∧ ¬ qB q nb pa b)
    (hgood : mpE nx.length st dn (sumL L L.length) = 0) :
    Calls Try.prog 12 #[.pointer (some ⟨q, 0, none⟩), .agg #[.int .u16 (st : Nat), .int .u16 (ss : Nat), .int .u32 (pp : Nat), .bool fr, .slice da dn dc]] w (PshR w q nb pa L cum size (nmX fr nx st) (markL (cntN dn size) ((List.range (cntN dn size)).map (newPc cum L.length (nmF fr) st (nmS fr nx st) pp size zs)))) := by
  refine (callsIn_wide (n := 3)).1 ?_
  refine callsIn_of_wp_marks Try.func12 rfl trivial ?_ rfl
  simp only [Try.ntmps12, List.size_toArray, List.length_cons, List.length_nil, Nat.reduceAdd, Nat.reduceSub, Array.replicate_succ, Array.replicate_zero, List.push_toArray, List.append_toArray, List.nil_append, List.cons_append]
  have hgd : st < nx.length ∧ 0 < dn ∧ dn ≤ 4096 := by
    unfold mpE at hgood
    split at hgood
    · omega
    · split at hgood <;> omega
  obtain ⟨hsn, hd0, hd1⟩ := hgd
  obtain ⟨db, off, rfl⟩ : ∃ b off, da = some ⟨b, off, none⟩ := by
    rcases hs.at_ with e | ⟨b, off, e, _⟩
    · omega
    · exact ⟨b, off, e⟩
  have hdc := hs.cap
  obtain ⟨f0, hf0⟩ : ∃ f0, f0 = nmF fr := ⟨_, rfl⟩
  obtain ⟨s0, hs0⟩ : ∃ s0, s0 = nmS fr nx st := ⟨_, rfl⟩
  obtain ⟨nx2, hx2⟩ : ∃ nx2, nx2 = nmX fr nx st := ⟨_, rfl⟩
  have HN := (show Hid _ from fun (W : World) (hq : QuW W q nb pa cap L cum size nx) => number_any hq st ss pp fr hsn hnx (some ⟨db, off, none⟩) dn dc)
  rw [← hf0, ← hs0, ← hx2] at HN
  rw [← hf0, ← hs0, ← hx2]
  obtain ⟨V0, hV0⟩ : ∃ V, V = w.alloc (.cells #[.pointer (some ⟨q, 0, none⟩)] 23) := ⟨_, rfl⟩
  obtain ⟨V, hV⟩ : ∃ V, V = V0.alloc (.cells #[.int .u16 (st : Nat), .int .u16 (ss : Nat), .int .u32 (pp : Nat), .bool fr, .slice (some ⟨db, off, none⟩) dn dc] 38) := ⟨_, rfl⟩
  have z0 : V0.heap.size = w.heap.size + 1 := by rw [hV0]; simp
  have zV : V.heap.size = w.heap.size + 1 + 1 := by rw [hV]; simp [z0]
  have b0 : Below w.heap.size w V0 := by rw [hV0]; exact (Below.refl _ _).alloc (Nat.le_refl _) _
  have bV' : Below V0.heap.size V0 V := by rw [hV]; exact (Below.refl _ _).alloc (Nat.le_refl _) _
  have bV : Below w.heap.size w V := b0.trans (bV'.mono (by omega))
  have xq := (Cx.new w (.pointer (some ⟨q, 0, none⟩)) 23 V0 hV0).below bV'
  have sm := Stc.new V0 [.int .u16 (st : Nat), .int .u16 (ss : Nat), .int .u32 (pp : Nat), .bool fr, .slice (some ⟨db, off, none⟩) dn dc] 38 V hV
  have tm : BT V V0.heap.size 38 := ⟨_, _, by rw [hV]; exact World.alloc_heap_new V0 _⟩
  rw [z0] at sm tm
  have hmp := mayPush_any (h.below bV) hL hS st ss pp fr (some ⟨db, off, none⟩) dn dc hst (by omega)
  rw [hgood] at hmp
  have H0 := (show Hid _ from And.intro h (And.intro bV (And.intro xq (And.intro sm (And.intro tm zV)))))
  have HS := (show Hid _ from And.intro hs (And.intro hsk (And.intro hsn (And.intro hd0 hd1))))
  have HF0 : Hid (f0 = 0 ∨ f0 = 4) := by
    show _ ∨ _
    rw [hf0]
    cases fr
    · exact .inl rfl
    · exact .inr rfl
  have HV := (show Hid _ from And.intro hV0 hV)
  clear h hV0 hV z0 zV b0 bV' bV xq sm tm hs hsk hsn hgood hf0 hs0 hx2 hnx
  gi_wp2
  rw [← HV.out.1, ← HV.out.2]
  refine ⟨trivial, (callsIn_wide.2 hmp).mono ?_⟩
  rintro e w1 ⟨rfl, b1⟩
  clear hmp
  obtain ⟨h, bV, xq, sm, tm, zV⟩ := H0.out
  have bw1 : Below w.heap.size w w1 := bV.trans (b1.mono (by omega))
  have h1 := h.below bw1
  have xq1 := xq.below b1
  have sm1 := sm.below b1
  have tm1 := tm.below b1
  have hnum := HN.out w1 h1
  have c0 := xq1.cell
  have m0 := sm1.cell 0 _ rfl
  have m1 := sm1.cell 1 _ rfl
  have m2 := sm1.cell 2 _ rfl
  have m3 := sm1.cell 3 _ rfl
  have m4 := sm1.cell 4 _ rfl
  have H1 := (show Hid _ from And.intro h1 (And.intro bw1 (And.intro xq1 (And.intro sm1 tm1))))
  clear h bV xq sm tm zV b1 bw1 h1 xq1 sm1 tm1
  gi_wp2
  refine ⟨trivial, (callsIn_wide.2 hnum).mono ?_⟩
  rintro e w2 ⟨rfl, h2, f2⟩
  obtain ⟨h1, bw1, xq1, sm1, tm1⟩ := H1.out
  have xq2 := xq1.fr f2 (fun e => xq1.bt.ne h1.tn (by decide) e)
  have sm2 := sm1.fr f2 (fun e => tm1.ne h1.tn (by decide) e)
  have tm2 : BT w2 (w.heap.size + 1) 38 := tm1.same (f2.block _ tm1.lt (fun e => tm1.ne h1.tn (by decide) e))
  have hs2 : Sl w2 (some ⟨db, off, none⟩) dn dc zs := Sl.frQ (HS.out.1.below bw1) f2 (fun b o s e hb => (HS.out.2.1 b o s e).2 (.inr (.inl hb)))
  have fr2 : Fr (qB q nb pa) w w2 := (Fr.of_below (P := qB q nb pa) bw1).trans (f2.mono (fun k _ e => .inr (.inl e)))
  obtain ⟨W3, hW3⟩ : ∃ W3, W3 = w2.alloc (.cells #[.int .u8 0, .int .u8 (f0 : Nat), .int .u32 0, .int .u16 (st : Nat), .int .u16 (s0 : Nat), .int .u32 (pp : Nat), .int .u32 0, .int .u32 0, .int .u16 0, .int .u16 0, .slice none 0 0, .slice none 0 0, .slice none 0 0, .slice none 0 0] 47) := ⟨_, rfl⟩
  have z3 : W3.heap.size = w2.heap.size + 1 := by rw [hW3]; simp
  have b3 : Below w2.heap.size w2 W3 := by rw [hW3]; exact (Below.refl _ _).alloc (Nat.le_refl _) _
  have sc3 := Stc.new w2 (numV f0 st s0 pp) 47 W3 hW3
  have tc3 : BT W3 w2.heap.size 47 := ⟨_, _, by rw [hW3]; exact World.alloc_heap_new w2 _⟩
  have xq3 := xq2.below b3
  have sm3 := sm2.below b3
  have tm3 := tm2.below b3
  have hs3 := hs2.below b3
  have h3 := h2.below b3
  have fr3 : Fr (qB q nb pa) w W3 := fr2.tail (b3.mono fr2.size)
  obtain ⟨U0, hU0⟩ : ∃ U, U = W3.drew.alloc (.cells #[.slice (some ⟨db, off, none⟩) dn dc] 36) := ⟨_, rfl⟩
  obtain ⟨U, hU⟩ : ∃ U, U = (W3.drew.alloc (.cells #[.slice (some ⟨db, off, none⟩) dn dc] 36)).alloc (.cells #[.int .i64 (size : Nat)] 3) := ⟨_, rfl⟩
  have HU := (show Hid _ from hU)
  rw [← hU0] at hU
  have zU0 : U0.heap.size = W3.heap.size + 1 := by rw [hU0]; simp
  have zU : U.heap.size = W3.heap.size + 2 := by rw [hU]; simp [zU0]
  have bU0 : Below W3.heap.size W3 U0 := by rw [hU0]; exact (Below.refl _ _).drew.alloc (Nat.le_refl _) _
  have bU1 : Below U0.heap.size U0 U := by rw [hU]; exact (Below.refl _ _).alloc (Nat.le_refl _) _
  have bU : Below W3.heap.size W3 U := bU0.trans (bU1.mono (by omega))
  have cUs : U.cell? ⟨W3.heap.size, 0, none⟩ = some (.slice (some ⟨db, off, none⟩) dn dc) := (bU1.cell (p := ⟨W3.heap.size, 0, none⟩) (by show W3.heap.size < U0.heap.size; omega)).trans (by rw [hU0]; exact box_new W3.drew _ _)
  have cUn : U.cell? ⟨W3.heap.size + 1, 0, none⟩ = some (.int .i64 (size : Nat)) := by rw [hU, ← zU0]; exact box_new U0 _ _
  have hPU : PuR w q nb w.heap.size (w.heap.size + 1) w2.heap.size pa L cum size nx2 [.int .u16 (st : Nat), .int .u16 (ss : Nat), .int .u32 (pp : Nat), .bool fr, .slice (some ⟨db, off, none⟩) dn dc] (newPc cum L.length f0 st s0 pp size zs) (U.heap.size + 2) 0 (numV f0 st s0 pp) pa cap [] W3 :=
    ⟨by rw [List.append_nil]; exact h3, rfl, fun b hb => .inl (by
      rw [List.append_nil] at hb
      refine ⟨.inr (.inr ?_), (H0.out.1.row.bt b hb).lt⟩
      cases pa with
      | none => cases hb
      | some p =>
        obtain ⟨x1, x2, x3⟩ := p
        simp only [Value.ownBlock, Option.some.injEq] at hb
        exact ⟨x2, x3, by rw [hb]⟩), xq3, tm3, sm3, tc3, sc3, fr3⟩
  have hPU2 := hPU.below bU
  have hsU := hs3.below bU
  have c0 := xq3.cell
  have m4 := sm3.cell 4 _ rfl
  have q1 := h3.c1
  have q3 := h3.c3
  have e0 := xq2.cell
  have e3 := h2.c3
  have l0 := xq2.lt
  have l3 := h2.tq.lt
  have HW3 := (show Hid _ from hW3)
  have HQZ : Hid (w2.heap.size < W3.heap.size) := by show _ < _; omega
  have HQ := (show Hid _ from And.intro hPU2 (And.intro hsU (And.intro fr2.size zU)))
  clear h1 bw1 xq1 sm1 tm1 xq2 sm2 tm2 hs2 fr2 hW3 z3 b3 sc3 tc3 xq3 sm3 tm3 hs3 h3 fr3 hU hU0 zU0 zU bU0 bU1 bU hPU hPU2 hsU h2 f2 m0 m1 m2 m3
  simp only [numV]
  gi_wp2
  rw [← HW3.out]
  refine wpIn_wide.2 ?_
  refine wp_region_stage mixedX [6] (fun stgN W => match stgN with | 0 => W = W3.drew | _ => W = U) (fun W => W.cell? ⟨w.heap.size, 0, none⟩ = some (.pointer (some ⟨q, 0, none⟩)) ∧ W.cell? ⟨w.heap.size + 1, 4, none⟩ = some (.slice (some ⟨db, off, none⟩) dn dc) ∧ W.cell? ⟨q, 1, none⟩ = some (.int .i64 (size : Nat))) [(23, .pointer (some ⟨w.heap.size + 1, 4, none⟩)), (24, .slice (some ⟨db, off, none⟩) dn dc), (25, .pointer (some ⟨q, 0, none⟩)), (26, .pointer (some ⟨q, 0, none⟩)), (27, .pointer (some ⟨q, 1, none⟩)), (28, .int .i64 (size : Nat)), (29, .func (.func 39) #[] #[.pointer (some ⟨W3.heap.size, 0, none⟩), .pointer (some ⟨W3.heap.size + 1, 0, none⟩)])] ?Z1 ?hZ1 (by kernel_rfl) (by kernel_rfl) (by kernel_rfl) (by kernel_rfl) (by kernel_rfl) ?h01 ?hS1 (.inr ?hl1) ?hops1 ?he1 (by kernel_rfl) (by decide)
  case hZ1 => simp only [List.foldl_cons, List.foldl_nil, List.setIfInBounds_toArray, List.set_cons_zero, List.set_cons_succ]; rfl
  case h01 => rfl
  case hS1 =>
    intro k W hk hW
    have hk : k < 1 := hk
    obtain rfl : k = 0 := by omega
    · have hW : W = W3.drew := hW; rw [hW]; exact ⟨c0, m4, q1⟩
  case hl1 =>
    intro W hW
    have hW : W = U := hW; rw [hW]; exact ⟨HQ.out.1.xq.cell, HQ.out.1.sm.cell 4 _ rfl, HQ.out.1.qu.c1⟩
  case hops1 =>
    refine ⟨?_, ?_, ?_, ?_, ?_, ?_, ?_, trivial⟩
    · exact stg_val (by rfl) (by rfl) (fun W hW => by obtain ⟨y0, y1, y2⟩ := hW; go_simp; (try with_reducible rfl); (try omega))
    · exact stg_val (by rfl) (by rfl) (fun W hW => by obtain ⟨y0, y1, y2⟩ := hW; go_simp; (try with_reducible rfl); (try omega))
    · exact stg_val (by rfl) (by rfl) (fun W hW => by obtain ⟨y0, y1, y2⟩ := hW; go_simp; (try with_reducible rfl); (try omega))
    · exact stg_val (by rfl) (by rfl) (fun W hW => by obtain ⟨y0, y1, y2⟩ := hW; go_simp; (try with_reducible rfl); (try omega))
    · exact stg_val (by rfl) (by rfl) (fun W hW => by obtain ⟨y0, y1, y2⟩ := hW; go_simp; (try with_reducible rfl); (try omega))
    · exact stg_val (by rfl) (by rfl) (fun W hW => by obtain ⟨y0, y1, y2⟩ := hW; go_simp; (try with_reducible rfl); (try omega))
    · exact stg_call (vs := [.slice (some ⟨db, off, none⟩) dn dc, .int .i64 (size : Nat)]) (by rfl) (by rfl) rfl (by rfl) Try.func23 (by rfl) (by rfl) (fun W hW => by have hW : W = W3.drew := hW; subst hW; exact (chunks_call _ dn dc size hz _).mono (fun e V hd => ⟨hd.1, hd.2.trans HU.out.symm⟩))
  case he1 =>
  intro W hW
  have hW2 : W = U := hW
  rw [hW2]
  clear hW hW2 W
  gi_wp2
  obtain ⟨hPU, hsU, hwn, zU⟩ := HQ.out
  have HZ := (show Hid _ from zU)
  have HW23 := (show Hid _ from HQZ.out)
  clear zU
  have hdb : db < w.heap.size := (HS.out.2.1 db off none rfl).1
  have hWU : w.heap.size ≤ U.heap.size := hPU.fr.size
  obtain ⟨mv, hmv⟩ : ∃ mv, mv = [Value.int .u16 (st : Nat), .int .u16 (ss : Nat), .int .u32 (pp : Nat), .bool fr, .slice (some ⟨db, off, none⟩) dn dc] := ⟨_, rfl⟩
  obtain ⟨pf, hpf⟩ : ∃ pf, pf = newPc cum L.length f0 st s0 pp size zs := ⟨_, rfl⟩
  rw [← hmv, ← hpf] at hPU
  have HM := (show Hid _ from And.intro hmv hpf)
  clear hmv hpf
  refine range_sel (gf := 39) (lb := #[.pointer (some ⟨W3.heap.size, 0, none⟩), .pointer (some ⟨W3.heap.size + 1, 0, none⟩)]) rfl (enters_of Try.func39 (by kernel_rfl) rfl)
    (parts_itr W3.heap.size (W3.heap.size + 1) db off dn dc size (cntN dn size) hz hz2 (by have := HS.out; omega) hdc (fun k hk => cntN_lt hz hk) (cntN_le hz)) (fun _ => rfl)
    (fun V hV => ⟨(hV.cell (p := ⟨W3.heap.size, 0, none⟩) (by show W3.heap.size < _; have := HZ.out; omega)).trans cUs, (hV.cell (p := ⟨W3.heap.size + 1, 0, none⟩) (by show W3.heap.size + 1 < _; have := HZ.out; omega)).trans cUn⟩)
    (fun b hb => by have := HZ.out; rcases hb with rfl | rfl <;> omega)
    (PuI w q nb w.heap.size (w.heap.size + 1) w2.heap.size pa L cum size nx2 mv pf (U.heap.size + 2) f0 st s0 pp db off dn dc zs)
    (PuI w q nb w.heap.size (w.heap.size + 1) w2.heap.size pa L cum size nx2 mv pf (U.heap.size + 2) f0 st s0 pp db off dn dc zs)
    (fun _ _ => False)
    (fun s A B row hs hg hr => hs.grown hdb hg (fun r e => by have := (hr r e).1; have := hWU; omega) (fun r e => (hr r e).2))
    (fun s A B row hs hg hr => hs.grown hdb hg (fun r e => by have := (hr r e).1; have := hWU; omega) (fun r e => (hr r e).2))
    (fun c s A B row hs hg hr => hs)
    ⟨⟨_, _, _, _, _, _, _, hPU⟩, hsU⟩
    (fun k W2 _ h => .inl ⟨rfl, h⟩)
    (fun k => { tmps := #[.pointer (some ⟨q, 0, none⟩), .agg #[.int .u16 (st : Nat), .int .u16 (ss : Nat), .int .u32 (pp : Nat), .bool fr, .slice (some ⟨db, off, none⟩) dn dc], .pointer (some ⟨w.heap.size, 0, none⟩), .pointer (some ⟨w.heap.size + 1, 0, none⟩), .int .i64 0, .int .i64 0, .pointer (some ⟨w2.heap.size, 0, none⟩), .int .i64 (L.length : Nat), .slice (some ⟨db, off + k * size, none⟩) (partN dn size k) (partN dn size k), .pointer (some ⟨q, 0, none⟩), .agg #[.int .u16 (st : Nat), .int .u16 (ss : Nat), .int .u32 (pp : Nat), .bool fr, .slice (some ⟨db, off, none⟩) dn dc], .int .i64 0, .int .i64 0, .bool false, undef, .pointer (some ⟨q, 0, none⟩), .agg #[.int .u16 (st : Nat), .int .u16 (ss : Nat), .int .u32 (pp : Nat), .bool fr, .slice (some ⟨db, off, none⟩) dn dc], .agg #[.int .u8 0, .int .u8 (f0 : Nat), .int .u32 0, .int .u16 (st : Nat), .int .u16 (s0 : Nat), .int .u32 (pp : Nat), .int .u32 0, .int .u32 0, .int .u16 0, .int .u16 0, .slice none 0 0, .slice none 0 0, .slice none 0 0, .slice none 0 0], .pointer (some ⟨q, 0, none⟩), .pointer (some ⟨q, 0, none⟩), .pointer (some ⟨q, 3, none⟩), .slice pa L.length cap, .int .i64 (L.length : Nat), .pointer (some ⟨w.heap.size + 1, 4, none⟩), .slice (some ⟨db, off, none⟩) dn dc, .pointer (some ⟨q, 0, none⟩), .pointer (some ⟨q, 0, none⟩), .pointer (some ⟨q, 1, none⟩), .int .i64 (size : Nat), .func (.func 39) #[] #[.pointer (some ⟨W3.heap.size, 0, none⟩), .pointer (some ⟨W3.heap.size + 1, 0, none⟩)], .slice (some ⟨db, off + k * size, none⟩) (partN dn size k) (partN dn size k), undef, undef, undef, undef, undef, undef, undef, undef, undef, undef, undef, undef, undef, undef, undef, undef, undef, undef, undef, undef, undef, undef, undef, undef, undef, undef, undef, undef, undef, undef, undef, undef, undef, undef, undef, undef, undef, undef, undef, undef, undef, undef, undef, undef, undef, undef, undef, undef, undef, undef, undef, undef, undef, undef, undef, undef, undef], defers := [] }) ?assign ?body ?done ?stop
  case assign =>
    intro n' l' k W2 K hK
    gi_wp2
    exact hK
  case body =>
    rintro n' l' k W2 hk ⟨⟨t, a, n, c, pa2, cap2, M, hP⟩, hs2⟩ hz2
    have hML := hP.len
    have c0 := hP.xq.cell
    have q0 := hP.qu.c0
    have q3 := hP.qu.c3
    obtain ⟨ln, hln⟩ : ∃ ln, ln = (L ++ M).length := ⟨_, rfl⟩
    have hlk : ln = L.length + k := by rw [hln, List.length_append, hML]
    rw [← hln] at q3
    have hkm := cntN_max (dn := dn) hz
    have hlb : ln ≤ 200000 := by have := HS.out; omega
    have hwr : IntKind.i64.wrap ((ln : Int) + 1) = ((ln + 1 : Nat) : Int) := by rw [IntKind.wrap_i64]; omega
    obtain ⟨T, hT⟩ : ∃ T, T = addV 4294967296 cum ((ln + 1 : Nat) : Int) := ⟨_, rfl⟩
    have hzz := HZ.out
    have hw3 := HW23.out
    have hlt : ∀ b, (U.heap.size ≤ b ∧ b < U.heap.size + 2) ∨ qC W3.heap.size (W3.heap.size + 1) b → b < W2.heap.size := by
      rintro b (hb | rfl | rfl) <;> omega
    have HLT := (show Hid _ from And.intro hlt hz2)
    have HT := (show Hid _ from hT)
    have HL := (show Hid _ from hln)
    have HP3 := (show Hid _ from fun (W4 : World) (hb : Below W2.drew.heap.size W2.drew W4) => And.intro (hP.drew.below hb) ((hs2.below (Below.refl _ _).drew).below hb))
    have HST := (show Hid _ from fun (W4 : World) (h4 : PuR w q nb w.heap.size (w.heap.size + 1) w2.heap.size pa L cum size nx2 mv pf (U.heap.size + 2) k (chV f0 t st s0 pp a n c) pa2 cap2 M W4) (h5 : Sl W4 (some ⟨db, off, none⟩) dn dc zs) (h6 : Below W2.drew.heap.size W2.drew W4) => (show PuR w q nb w.heap.size (w.heap.size + 1) w2.heap.size pa L cum size nx2 mv pf (U.heap.size + 2) k (chV f0 T st s0 pp a n c) pa2 cap2 M (W4.setCell ⟨w2.heap.size, 2, none⟩ (.int .u32 (T : Nat))) ∧ Sl (W4.setCell ⟨w2.heap.size, 2, none⟩ (.int .u32 (T : Nat))) (some ⟨db, off, none⟩) dn dc zs ∧ Kq U.heap.size 2 (qC W3.heap.size (W3.heap.size + 1)) W2 (W4.setCell ⟨w2.heap.size, 2, none⟩ (.int .u32 (T : Nat))) from ⟨h4.setC hwn (j := 2) (by show 2 < 14; omega) _, Sl.frQ h5 (Fr.setCell (fun k => k = w2.heap.size) W4 ⟨w2.heap.size, 2, none⟩ (.int .u32 (T : Nat)) rfl) (fun b o s e hb => by
      injection e with e
      injection e with e1 _ _
      omega), (Kq.belowQ (W := W2) ((Below.refl _ _).drew.trans h6) hlt).trans (Kq.set W4 ⟨w2.heap.size, 2, none⟩ _ (by show ¬ (U.heap.size ≤ w2.heap.size ∧ _); omega) (by show ¬ (w2.heap.size = _ ∨ w2.heap.size = _); omega))⟩))
    clear hP hs2 hML hln hT hlk hkm hz2 hzz hw3 hlt
    gi_wp2_with fail
    refine wpIn_region_stage mixedX [10, 12] (fun stgN W => match stgN with | 0 => W = W2.drew | 1 => Below W2.drew.heap.size W2.drew W | _ => PuR w q nb w.heap.size (w.heap.size + 1) w2.heap.size pa L cum size nx2 mv pf (U.heap.size + 2) k (chV f0 T st s0 pp a n c) pa2 cap2 M W ∧ Sl W (some ⟨db, off, none⟩) dn dc zs ∧ Kq U.heap.size 2 (qC W3.heap.size (W3.heap.size + 1)) W2 W) (fun W => W.cell? ⟨w.heap.size, 0, none⟩ = some (.pointer (some ⟨q, 0, none⟩)) ∧ W.cell? ⟨q, 0, none⟩ = some (.int .u32 (cum : Nat)) ∧ W.cell? ⟨q, 3, none⟩ = some (.slice pa2 ln cap2)) [(31, .pointer (some ⟨q, 0, none⟩)), (32, .pointer (some ⟨q, 0, none⟩)), (33, .pointer (some ⟨q, 0, none⟩)), (34, .int .u32 (cum : Nat)), (35, .pointer (some ⟨q, 0, none⟩)), (36, .pointer (some ⟨q, 0, none⟩)), (37, .pointer (some ⟨q, 3, none⟩)), (38, .slice pa2 ln cap2), (39, .int .i64 (ln : Nat)), (40, .int .i64 ((ln + 1 : Nat) : Int)), (41, .int .u32 (T : Nat)), (42, .pointer (some ⟨w2.heap.size, 2, none⟩))] ?Z2 ?hZ2 (by kernel_rfl) (by kernel_rfl) (by kernel_rfl) (by kernel_rfl) (by kernel_rfl) ?h02 ?hS2 (.inr ?hl2) ?hops2 ?he2 (by kernel_rfl) (by decide) (by kernel_rfl)
    case hZ2 => simp only [List.foldl_cons, List.foldl_nil, List.setIfInBounds_toArray, List.set_cons_zero, List.set_cons_succ]; rfl
    case h02 => rfl
    case hS2 =>
      intro k W hk hW
      have hk : k < 2 := hk
      obtain rfl | rfl : k = 0 ∨ k = 1 := by omega
      · have hW : W = W2.drew := hW; rw [hW]; exact ⟨c0, q0, q3⟩
      · have hW : Below W2.drew.heap.size W2.drew W := hW; obtain ⟨hP3, _⟩ := HP3.out W hW; exact ⟨hP3.xq.cell, hP3.qu.c0, by rw [HL.out]; exact hP3.qu.c3⟩
    case hl2 =>
      intro W hW
      exact ⟨hW.1.xq.cell, hW.1.qu.c0, by rw [HL.out]; exact hW.1.qu.c3⟩
    case hops2 =>
      refine ⟨?_, ?_, ?_, ?_, ?_, ?_, ?_, ?_, ?_, ?_, ?_, ?_, ?_, trivial⟩
      · exact stg_val (by rfl) (by rfl) (fun W hW => by obtain ⟨y0, y1, y2⟩ := hW; go_simp; (try with_reducible rfl); (try omega))
      · exact stg_val (by rfl) (by rfl) (fun W hW => by obtain ⟨y0, y1, y2⟩ := hW; go_simp; (try with_reducible rfl); (try omega))
      · exact stg_val (by rfl) (by rfl) (fun W hW => by obtain ⟨y0, y1, y2⟩ := hW; go_simp; (try with_reducible rfl); (try omega))
      · exact stg_val (by rfl) (by rfl) (fun W hW => by obtain ⟨y0, y1, y2⟩ := hW; go_simp; (try with_reducible rfl); (try omega))
      · exact stg_val (by rfl) (by rfl) (fun W hW => by obtain ⟨y0, y1, y2⟩ := hW; go_simp; (try with_reducible rfl); (try omega))
      · exact stg_val (by rfl) (by rfl) (fun W hW => by obtain ⟨y0, y1, y2⟩ := hW; go_simp; (try with_reducible rfl); (try omega))
      · exact stg_val (by rfl) (by rfl) (fun W hW => by obtain ⟨y0, y1, y2⟩ := hW; go_simp; (try with_reducible rfl); (try omega))
      · exact stg_val (by rfl) (by rfl) (fun W hW => by obtain ⟨y0, y1, y2⟩ := hW; go_simp; (try with_reducible rfl); (try omega))
      · exact stg_val (by rfl) (by rfl) (fun W hW => by obtain ⟨y0, y1, y2⟩ := hW; go_simp; (try with_reducible rfl); (try omega))
      · exact stg_val (by rfl) (by rfl) (fun W hW => by obtain ⟨y0, y1, y2⟩ := hW; go_simp; (try with_reducible rfl); (try omega))
      · exact stg_call (vs := [.int .u32 (cum : Nat), .int .i64 ((ln + 1 : Nat) : Int)]) (by rfl) (by rfl) rfl (by rfl) Try.func20 (by rfl) (by rfl) (fun W hW => by have hW : W = W2.drew := hW; subst hW; exact (onward_any cum _ _ hc _ _ rfl rfl).mono (fun e V hd => ⟨by rw [hd.1, ← HT.out]; rfl, hd.2⟩))
      · exact stg_val (by rfl) (by rfl) (fun W hW => by obtain ⟨y0, y1, y2⟩ := hW; go_simp; (try with_reducible rfl); (try omega))
      · exact stg_skip (by rfl) (by rfl) rfl (fun W hW => by have hW : Below W2.drew.heap.size W2.drew W := hW; obtain ⟨hP3, hs3⟩ := HP3.out W hW; have y2 := hP3.sc.cell 2 _ rfl; have yf := hP3.sc.free 2; exact ⟨W.setCell ⟨w2.heap.size, 2, none⟩ (.int .u32 (T : Nat)), by go_simp, HST.out W hP3 hs3 hW⟩)
    case he2 =>
    intro W4 hW4
    obtain ⟨hP4, hs4, hk4⟩ := (show PuR w q nb w.heap.size (w.heap.size + 1) w2.heap.size pa L cum size nx2 mv pf (U.heap.size + 2) k (chV f0 T st s0 pp a n c) pa2 cap2 M W4 ∧ Sl W4 (some ⟨db, off, none⟩) dn dc zs ∧ Kq U.heap.size 2 (qC W3.heap.size (W3.heap.size + 1)) W2 W4 from hW4)
    have hkl := cntN_lt hz hk
    obtain ⟨pn, hpn⟩ : ∃ pn, pn = partN dn size k := ⟨_, rfl⟩
    have hpv : pn = min size (dn - k * size) := hpn
    rw [← hpn]
    have hpart := Sl.part hs4 (k * size) pn (by omega) (by omega)
    have hcl := clone_any _ _ _ _ W4 hpart (by have := HS.out; omega)
    have HP4 := (show Hid _ from And.intro hP4 (And.intro hs4 hk4))
    have HPN := (show Hid _ from And.intro hpn hpv)
    clear hW4 hP4 hs4 hk4 hpart hpn hpv hkl c0 q0 q3 hwr HP3 HST
    gi_wp2
    refine ⟨trivial, fun h => (by cases h), CallsIn.inRound l' ((callsIn_wide.2 hcl).mono ?_)⟩
    rintro e W5 ⟨a5, c5, rfl, ho5, -, b5⟩
    clear hcl
    have hP5 := HP4.out.1.below b5
    have hs5 := HP4.out.2.1.below b5
    have x13 := hP5.sc.cell 13 _ rfl
    have f13 := hP5.sc.free 13
    obtain ⟨W6, hW6⟩ : ∃ W6, W6 = W5.setCell ⟨w2.heap.size, 13, none⟩ (.slice a5 pn c5) := ⟨_, rfl⟩
    have hP6 : PuR w q nb w.heap.size (w.heap.size + 1) w2.heap.size pa L cum size nx2 mv pf (U.heap.size + 2) k (chV f0 T st s0 pp a5 pn c5) pa2 cap2 M W6 := by
      rw [hW6]
      exact hP5.setC hwn (j := 13) (by show 13 < 14; omega) _
    have hs6 : Sl W6 (some ⟨db, off, none⟩) dn dc zs := by
      rw [hW6]
      refine Sl.frQ hs5 (Fr.setCell (fun k => k = w2.heap.size) W5 ⟨w2.heap.size, 13, none⟩ _ rfl) (fun b o s e hb => ?_)
      injection e with e
      injection e with e1 _ _
      omega
    have ho6 : OwnB W6 0 a5 pn c5 ((zs.drop (k * size)).take pn) := by
      rw [hW6]
      exact (ho5.base (Nat.zero_le _)).frY (Fr.setCell (fun k => k = w2.heap.size) W5 ⟨w2.heap.size, 13, none⟩ _ rfl) (fun g hg e => hg.ne (e ▸ hP5.tc) (by decide) rfl)
    have hk6 : Kq U.heap.size 2 (qC W3.heap.size (W3.heap.size + 1)) W2 W6 := by
      have hzz := HZ.out
      have hw3 := HW23.out
      have hk4 := HP4.out.2.2
      rw [hW6]
      exact (hk4.trans (Kq.belowQ b5 (fun b hb => Nat.lt_of_lt_of_le (HLT.out.1 b hb) hk4.size))).trans (Kq.set W5 ⟨w2.heap.size, 13, none⟩ _ (by show ¬ (U.heap.size ≤ w2.heap.size ∧ _); omega) (by show ¬ (w2.heap.size = _ ∨ w2.heap.size = _); omega))
    have H6 := (show Hid _ from And.intro hP6 (And.intro hs6 (And.intro ho6 hk6)))
    have HW6 := (show Hid _ from hW6)
    clear hP5 hs5 ho5 hP6 hs6 ho6 hk6 hW6 b5
    gi_wp2
    rw [← HW6.out]
    obtain ⟨hP6, hs6, ho6, hk6⟩ := H6.out
    obtain ⟨y, hy⟩ : ∃ y : PcA, y = (pf k, a5, c5) := ⟨_, rfl⟩
    have hlk : ln = L.length + k := by rw [HL.out, List.length_append, hP6.len]
    have hzl : zs.length = dn := HS.out.1.len
    have hzs : (zs.drop (k * size)).take size = (zs.drop (k * size)).take pn := by
      rw [HPN.out.2]
      by_cases h : size ≤ dn - k * size
      · rw [Nat.min_eq_left h]
      · rw [Nat.min_eq_right (by omega), List.take_of_length_le (by rw [List.length_drop]; omega), List.take_of_length_le (by rw [List.length_drop]; omega)]
    have hyz : y.1.zs = (zs.drop (k * size)).take pn := by rw [hy, HM.out.2]; exact hzs
    have hyl : y.1.zs.length = pn := by
      rw [hyz, List.length_take, List.length_drop, hzl]
      have := HPN.out.2
      omega
    have hpc : pcV y = [.int .u8 0, .int .u8 (f0 : Nat), .int .u32 (T : Nat), .int .u16 (st : Nat), .int .u16 (s0 : Nat), .int .u32 (pp : Nat), .int .u32 0, .int .u32 0, .int .u16 0, .int .u16 0, .slice none 0 0, .slice none 0 0, .slice none 0 0, .slice a5 pn c5, .int .i64 0, .int .i64 0, .int .i64 0] := by
      unfold pcV
      rw [hyl, hy, HM.out.2, HT.out, hlk]
      rfl
    obtain ⟨Va, hVa⟩ : ∃ Va, Va = W6.drew.alloc (.cells (pcV y).toArray 82) := ⟨_, rfl⟩
    have bVa : Below W6.drew.heap.size W6.drew Va := by rw [hVa]; exact (Below.refl _ _).alloc (Nat.le_refl _) _
    obtain ⟨g, c7, Vb, hp⟩ := QuW.push hP6.drew.qu (by rw [← HL.out]; omega) y (by
      rw [hyl, hyz, hy]
      exact ho6.frY (Q := fun _ => False) (Fr.of_below (Below.refl _ _).drew) (fun _ _ e => e)) Va hVa
    have hPa := hP6.drew.below bVa
    have hPb := hP6.drew.mid hp
    have HVA := (show Hid _ from hVa)
    rw [hpc] at HVA
    have happ : (Builtin.append_ #[69, 69] 69 #[.slice pa2 ln cap2, .slice (some ⟨W6.heap.size, 0, none⟩) 1 1]).run Try.prog Va = .ok (.slice (some ⟨g, 0, none⟩) (ln + 1) c7) Vb := by rw [HL.out]; exact hp.run _
    obtain ⟨Vc, hVc⟩ : ∃ Vc, Vc = Vb.setCell ⟨q, 3, none⟩ (.slice (some ⟨g, 0, none⟩) (ln + 1) c7) := ⟨_, rfl⟩
    have hPc : PuR w q nb w.heap.size (w.heap.size + 1) w2.heap.size pa L cum size nx2 mv pf (U.heap.size + 2) (k + 1) (chV f0 T st s0 pp a5 pn c5) (some ⟨g, 0, none⟩) c7 (M ++ [y]) Vc := by
      rw [hVc, HL.out]
      exact hP6.drew.push (by omega) (Nat.le_trans HLT.out.2 hk6.size) y (by rw [hy]) hp
    have hqb := hP6.ow
    have hqw : q < w.heap.size := H0.out.1.tq.lt
    have hzz := HZ.out
    have hw3 := HW23.out
    have hkc : Kq U.heap.size 2 (qC W3.heap.size (W3.heap.size + 1)) W2 Vc := by
      rw [hVc]
      refine (hk6.trans ((Kq.belowQ (W := W6) (Below.refl _ _).drew (fun b hb => Nat.lt_of_lt_of_le (HLT.out.1 b hb) hk6.size)).trans (Kq.frQ hp.fr (fun b hb => ⟨Nat.lt_of_lt_of_le (HLT.out.1 b hb) hk6.size, fun e => ?_⟩)))).trans (Kq.set Vb ⟨q, 3, none⟩ _ (by show ¬ (U.heap.size ≤ q ∧ _); omega) (by show ¬ (q = _ ∨ q = _); omega))
      rcases hqb b e with ⟨_, e2⟩ | e2 <;> rcases hb with hb | hb | hb <;> omega
    have hsc : Sl Vc (some ⟨db, off, none⟩) dn dc zs := by
      rw [hVc]
      refine Sl.frQ (Sl.frQ (hs6.below (Below.refl _ _).drew) hp.fr (fun b o s e hb => ?_)) (Fr.setCell (fun k => k = q) Vb ⟨q, 3, none⟩ _ rfl) (fun b o s e hb => (HS.out.2.1 b o s e).2 (.inl hb))
      rcases hqb b hb with ⟨e1, _⟩ | e2
      · exact (HS.out.2.1 b o s e).2 e1
      · have := (HS.out.2.1 b o s e).1
        omega
    have HC := (show Hid _ from And.intro hPc (And.intro hkc hsc))
    have HVC := (show Hid _ from hVc)
    have vq : Vb.cell? ⟨q, 3, none⟩ = some (.slice pa2 ln cap2) := by rw [HL.out]; exact hp.qc
    have vf := hp.qf
    have HA := (show Hid _ from And.intro hP6 (And.intro hPa hPb))
    have HQ3 := (show Hid _ from vq)
    clear hqb hzz hw3 hkc hsc hk6 hP6 hs6 ho6 hlk hzl hzs hyz hyl hpc hPa hPb hVa bVa hPc hVc hp hy
    refine wpIn_region_stage mixedX [7, 8, 11] (fun stgN W => match stgN with | 0 => W = W6.drew | 1 => W = Va | 2 => W = Vb | _ => W = Vc) (fun W => W.cell? ⟨w.heap.size, 0, none⟩ = some (.pointer (some ⟨q, 0, none⟩)) ∧ W.cell? ⟨q, 3, none⟩ = some (.slice pa2 ln cap2) ∧ Stc W w2.heap.size (chV f0 T st s0 pp a5 pn c5)) [(46, .pointer (some ⟨q, 0, none⟩)), (47, .pointer (some ⟨q, 0, none⟩)), (48, .pointer (some ⟨q, 0, none⟩)), (49, .pointer (some ⟨q, 3, none⟩)), (50, .slice pa2 ln cap2), (51, .agg #[.int .u8 0, .int .u8 (f0 : Nat), .int .u32 (T : Nat), .int .u16 (st : Nat), .int .u16 (s0 : Nat), .int .u32 (pp : Nat), .int .u32 0, .int .u32 0, .int .u16 0, .int .u16 0, .slice none 0 0, .slice none 0 0, .slice none 0 0, .slice a5 pn c5]), (52, .agg #[.int .u8 0, .int .u8 (f0 : Nat), .int .u32 (T : Nat), .int .u16 (st : Nat), .int .u16 (s0 : Nat), .int .u32 (pp : Nat), .int .u32 0, .int .u32 0, .int .u16 0, .int .u16 0, .slice none 0 0, .slice none 0 0, .slice none 0 0, .slice a5 pn c5, .int .i64 0, .int .i64 0, .int .i64 0]), (53, .slice (some ⟨W6.heap.size, 0, none⟩) 1 1), (54, .slice (some ⟨g, 0, none⟩) (ln + 1) c7), (55, .pointer (some ⟨q, 0, none⟩)), (56, .pointer (some ⟨q, 3, none⟩))] ?Z3 ?hZ3 (by kernel_rfl) (by kernel_rfl) (by kernel_rfl) (by kernel_rfl) (by kernel_rfl) ?h03 ?hS3 (.inl (by kernel_rfl)) ?hops3 ?he3 (by kernel_rfl) (by decide) (by kernel_rfl)
    case hZ3 => simp only [List.foldl_cons, List.foldl_nil, List.setIfInBounds_toArray, List.set_cons_zero, List.set_cons_succ]; rfl
    case h03 => rfl
    case hS3 =>
      intro k W hk hW
      have hk : k < 3 := hk
      obtain rfl | rfl | rfl : k = 0 ∨ k = 1 ∨ k = 2 := by omega
      · have hW : W = W6.drew := hW; rw [hW]; exact ⟨HA.out.1.xq.cell, by rw [HL.out]; exact HA.out.1.qu.c3, HA.out.1.drew.sc⟩
      · have hW : W = Va := hW; rw [hW]; exact ⟨HA.out.2.1.xq.cell, by rw [HL.out]; exact HA.out.2.1.qu.c3, HA.out.2.1.sc⟩
      · have hW : W = Vb := hW; rw [hW]; exact ⟨HA.out.2.2.1.cell, HQ3.out, HA.out.2.2.2⟩
    case hops3 =>
      refine ⟨?_, ?_, ?_, ?_, ?_, ?_, ?_, ?_, ?_, ?_, ?_, ?_, trivial⟩
      · exact stg_val (by rfl) (by rfl) (fun W hW => by obtain ⟨y0, y1, ys⟩ := hW; have z0 := ys.cell 0 _ rfl; have z1 := ys.cell 1 _ rfl; have z2 := ys.cell 2 _ rfl; have z3 := ys.cell 3 _ rfl; have z4 := ys.cell 4 _ rfl; have z5 := ys.cell 5 _ rfl; have z6 := ys.cell 6 _ rfl; have z7 := ys.cell 7 _ rfl; have z8 := ys.cell 8 _ rfl; have z9 := ys.cell 9 _ rfl; have z10 := ys.cell 10 _ rfl; have z11 := ys.cell 11 _ rfl; have z12 := ys.cell 12 _ rfl; have z13 := ys.cell 13 _ rfl; go_simp; (try with_reducible rfl); (try omega))
      · exact stg_val (by rfl) (by rfl) (fun W hW => by obtain ⟨y0, y1, ys⟩ := hW; have z0 := ys.cell 0 _ rfl; have z1 := ys.cell 1 _ rfl; have z2 := ys.cell 2 _ rfl; have z3 := ys.cell 3 _ rfl; have z4 := ys.cell 4 _ rfl; have z5 := ys.cell 5 _ rfl; have z6 := ys.cell 6 _ rfl; have z7 := ys.cell 7 _ rfl; have z8 := ys.cell 8 _ rfl; have z9 := ys.cell 9 _ rfl; have z10 := ys.cell 10 _ rfl; have z11 := ys.cell 11 _ rfl; have z12 := ys.cell 12 _ rfl; have z13 := ys.cell 13 _ rfl; go_simp; (try with_reducible rfl); (try omega))
      · exact stg_val (by rfl) (by rfl) (fun W hW => by obtain ⟨y0, y1, ys⟩ := hW; have z0 := ys.cell 0 _ rfl; have z1 := ys.cell 1 _ rfl; have z2 := ys.cell 2 _ rfl; have z3 := ys.cell 3 _ rfl; have z4 := ys.cell 4 _ rfl; have z5 := ys.cell 5 _ rfl; have z6 := ys.cell 6 _ rfl; have z7 := ys.cell 7 _ rfl; have z8 := ys.cell 8 _ rfl; have z9 := ys.cell 9 _ rfl; have z10 := ys.cell 10 _ rfl; have z11 := ys.cell 11 _ rfl; have z12 := ys.cell 12 _ rfl; have z13 := ys.cell 13 _ rfl; go_simp; (try with_reducible rfl); (try omega))
      · exact stg_val (by rfl) (by rfl) (fun W hW => by obtain ⟨y0, y1, ys⟩ := hW; have z0 := ys.cell 0 _ rfl; have z1 := ys.cell 1 _ rfl; have z2 := ys.cell 2 _ rfl; have z3 := ys.cell 3 _ rfl; have z4 := ys.cell 4 _ rfl; have z5 := ys.cell 5 _ rfl; have z6 := ys.cell 6 _ rfl; have z7 := ys.cell 7 _ rfl; have z8 := ys.cell 8 _ rfl; have z9 := ys.cell 9 _ rfl; have z10 := ys.cell 10 _ rfl; have z11 := ys.cell 11 _ rfl; have z12 := ys.cell 12 _ rfl; have z13 := ys.cell 13 _ rfl; go_simp; (try with_reducible rfl); (try omega))
      · exact stg_val (by rfl) (by rfl) (fun W hW => by obtain ⟨y0, y1, ys⟩ := hW; have z0 := ys.cell 0 _ rfl; have z1 := ys.cell 1 _ rfl; have z2 := ys.cell 2 _ rfl; have z3 := ys.cell 3 _ rfl; have z4 := ys.cell 4 _ rfl; have z5 := ys.cell 5 _ rfl; have z6 := ys.cell 6 _ rfl; have z7 := ys.cell 7 _ rfl; have z8 := ys.cell 8 _ rfl; have z9 := ys.cell 9 _ rfl; have z10 := ys.cell 10 _ rfl; have z11 := ys.cell 11 _ rfl; have z12 := ys.cell 12 _ rfl; have z13 := ys.cell 13 _ rfl; go_simp; (try with_reducible rfl); (try omega))
      · exact stg_val (by rfl) (by rfl) (fun W hW => by obtain ⟨y0, y1, ys⟩ := hW; have z0 := ys.cell 0 _ rfl; have z1 := ys.cell 1 _ rfl; have z2 := ys.cell 2 _ rfl; have z3 := ys.cell 3 _ rfl; have z4 := ys.cell 4 _ rfl; have z5 := ys.cell 5 _ rfl; have z6 := ys.cell 6 _ rfl; have z7 := ys.cell 7 _ rfl; have z8 := ys.cell 8 _ rfl; have z9 := ys.cell 9 _ rfl; have z10 := ys.cell 10 _ rfl; have z11 := ys.cell 11 _ rfl; have z12 := ys.cell 12 _ rfl; have z13 := ys.cell 13 _ rfl; go_simp; (try with_reducible rfl); (try omega))
      · exact stg_val (by rfl) (by rfl) (fun W hW => by obtain ⟨y0, y1, ys⟩ := hW; have z0 := ys.cell 0 _ rfl; have z1 := ys.cell 1 _ rfl; have z2 := ys.cell 2 _ rfl; have z3 := ys.cell 3 _ rfl; have z4 := ys.cell 4 _ rfl; have z5 := ys.cell 5 _ rfl; have z6 := ys.cell 6 _ rfl; have z7 := ys.cell 7 _ rfl; have z8 := ys.cell 8 _ rfl; have z9 := ys.cell 9 _ rfl; have z10 := ys.cell 10 _ rfl; have z11 := ys.cell 11 _ rfl; have z12 := ys.cell 12 _ rfl; have z13 := ys.cell 13 _ rfl; go_simp; (try with_reducible rfl); (try omega))
      · exact stg_run (by rfl) (by rfl) (fun W hW => by have hW : W = W6.drew := hW; subst hW; refine ⟨Va, ?_, rfl⟩; rw [HVA.out]; go_simp; try rfl)
      · exact stg_run (by rfl) (by rfl) (fun W hW => by have hW : W = Va := hW; subst hW; exact ⟨Vb, run_appX rfl rfl rfl rfl happ, rfl⟩)
      · exact stg_val (by rfl) (by rfl) (fun W hW => by obtain ⟨y0, y1, ys⟩ := hW; have z0 := ys.cell 0 _ rfl; have z1 := ys.cell 1 _ rfl; have z2 := ys.cell 2 _ rfl; have z3 := ys.cell 3 _ rfl; have z4 := ys.cell 4 _ rfl; have z5 := ys.cell 5 _ rfl; have z6 := ys.cell 6 _ rfl; have z7 := ys.cell 7 _ rfl; have z8 := ys.cell 8 _ rfl; have z9 := ys.cell 9 _ rfl; have z10 := ys.cell 10 _ rfl; have z11 := ys.cell 11 _ rfl; have z12 := ys.cell 12 _ rfl; have z13 := ys.cell 13 _ rfl; go_simp; (try with_reducible rfl); (try omega))
      · exact stg_val (by rfl) (by rfl) (fun W hW => by obtain ⟨y0, y1, ys⟩ := hW; have z0 := ys.cell 0 _ rfl; have z1 := ys.cell 1 _ rfl; have z2 := ys.cell 2 _ rfl; have z3 := ys.cell 3 _ rfl; have z4 := ys.cell 4 _ rfl; have z5 := ys.cell 5 _ rfl; have z6 := ys.cell 6 _ rfl; have z7 := ys.cell 7 _ rfl; have z8 := ys.cell 8 _ rfl; have z9 := ys.cell 9 _ rfl; have z10 := ys.cell 10 _ rfl; have z11 := ys.cell 11 _ rfl; have z12 := ys.cell 12 _ rfl; have z13 := ys.cell 13 _ rfl; go_simp; (try with_reducible rfl); (try omega))
      · exact stg_skip (by rfl) (by rfl) rfl (fun W hW => by have hW : W = Vb := hW; subst hW; refine ⟨Vc, ?_, rfl⟩; rw [HVC.out]; go_simp; try rfl)
    case he3 =>
    intro W7 hW7
    have hW8 : W7 = Vc := hW7
    rw [hW8]
    clear hW7 hW8 W7 happ
    gi_wp2
    exact ⟨HC.out.2.1, ⟨⟨_, _, _, _, _, _, _, HC.out.1⟩, HC.out.2.2⟩⟩
  case done =>
    rintro W2 ⟨⟨t, a, n, c, pa2, cap2, M, hP⟩, hsl⟩ hD
    clear hsl
    have hML := hP.len
    have hN : 0 < cntN dn size := by
      have h1 := cntN_le (dn := dn) hz
      have h2 := HS.out
      rcases Nat.eq_zero_or_pos (cntN dn size) with e | e
      · rw [e] at h1; omega
      · exact e
    have hNm := cntN_max (dn := dn) hz
    obtain ⟨pb, hpb, hpc⟩ := hP.qu.at_
    obtain rfl := hpb.resolve_left (by rw [List.length_append]; omega)
    clear hpb
    obtain ⟨x0, hx0⟩ : ∃ x, M[0]? = some x := ⟨_, List.getElem?_eq_getElem (by omega)⟩
    have hfl : ∀ (j : Nat) (x : PcA), M[j]? = some x → x.1.f = f0 := fun j x hx => by
      have h1 : (M.map (·.1))[j]? = some x.1 := by rw [List.getElem?_map, hx]; rfl
      rw [hP.ml, HM.out.2, List.getElem?_map] at h1
      cases hr : (List.range (cntN dn size))[j]? with
      | none => rw [hr] at h1; cases h1
      | some i =>
        rw [hr] at h1
        injection h1 with h1
        rw [← h1]
        rfl
    have hqm := hP.qu.mark hx0 2
    have c0 := hP.xq.cell
    have q3 := hP.qu.c3
    obtain ⟨ln, hln⟩ : ∃ ln, ln = (L ++ M).length := ⟨_, rfl⟩
    rw [← hln] at q3
    have hlk : (L.length : Int) < (ln : Int) := by rw [hln, List.length_append]; omega
    have hx1 : (L ++ M)[L.length]? = some x0 := by rw [List.getElem?_append_right (Nat.le_refl _), Nat.sub_self]; exact hx0
    have g1 := (hpc _ _ hx1).2.1 1 _ rfl
    have fz1 := (hpc _ _ hx1).2.2 (L.length * 17 + 1)
    rw [hfl 0 x0 hx0] at g1 hqm
    obtain ⟨f1, hf1⟩ : ∃ f1, f1 = f0 ||| 2 := ⟨_, rfl⟩
    have hb1 : bits BinOp.or IntKind.u8 (f0 : Int) 2 = (f1 : Int) := by
      rw [hf1]
      rcases HF0.out with e | e <;> rw [e] <;> rfl
    rw [← hf1, show (L.length + 0) * 17 + 1 = L.length * 17 + 1 from rfl] at hqm
    obtain ⟨V, hV⟩ : ∃ V, V = W2.setCell ⟨pb, L.length * 17 + 1, none⟩ (.int .u8 (f1 : Int)) := ⟨_, rfl⟩
    rw [← hV] at hqm
    -- the last piece
    have hl2 : (M.modify 0 (markA 2)).length = cntN dn size := by rw [List.length_modify]; exact hML
    obtain ⟨x2, hx2⟩ : ∃ x, (M.modify 0 (markA 2))[cntN dn size - 1]? = some x := ⟨_, List.getElem?_eq_getElem (by omega)⟩
    have hq2 := hqm.mark hx2 1
    obtain ⟨l1, hl1⟩ : ∃ l1, l1 = L.length + (cntN dn size - 1) := ⟨_, rfl⟩
    have hll : ln = l1 + 1 := by rw [hln, List.length_append]; omega
    have hx3 : (L ++ M.modify 0 (markA 2))[l1]? = some x2 := by rw [hl1, List.getElem?_append_right (by omega), Nat.add_sub_cancel_left]; exact hx2
    obtain ⟨pb2, hpb2, hpc2⟩ := hqm.at_
    have hpe : pb2 = pb := by
      have h1 := hpb2.resolve_left (by rw [List.length_append]; omega)
      injection h1 with h1
      injection h1 with h1
      exact h1.symm
    subst hpe
    have g2 := (hpc2 _ _ hx3).2.1 1 _ rfl
    have fz2 := (hpc2 _ _ hx3).2.2 (l1 * 17 + 1)
    have hF2 : x2.1.f = f0 ∨ x2.1.f = f1 := by
      rw [List.getElem?_modify] at hx2
      cases hm : M[cntN dn size - 1]? with
      | none => rw [hm] at hx2; cases hx2
      | some y =>
        rw [hm] at hx2
        injection hx2 with hx2
        have hy := hfl _ _ hm
        by_cases h0 : 0 = cntN dn size - 1
        · simp only [if_pos h0] at hx2
          rw [← hx2, hf1, ← hy]
          exact .inr rfl
        · simp only [if_neg h0] at hx2
          rw [← hx2, ← hy]
          exact .inl rfl
    obtain ⟨fl, hfl2⟩ : ∃ fl, fl = x2.1.f := ⟨_, rfl⟩
    rw [← hfl2] at g2 hq2 hF2
    obtain ⟨f2, hf2⟩ : ∃ f2, f2 = fl ||| 1 := ⟨_, rfl⟩
    have hb2 : bits BinOp.or IntKind.u8 (fl : Int) 1 = (f2 : Int) := by
      rw [hf2]
      rcases hF2 with e | e
      · rcases HF0.out with e2 | e2 <;> rw [e, e2] <;> rfl
      · rcases HF0.out with e2 | e2 <;> rw [e, hf1, e2] <;> rfl
    rw [← hf2, ← hl1] at hq2
    have cV := (show V.cell? ⟨w.heap.size, 0, none⟩ = some (.pointer (some ⟨q, 0, none⟩)) from by
      rw [hV]
      exact (hP.xq.other ⟨pb2, L.length * 17 + 1, none⟩ _ (show pb2 ≠ w.heap.size from fun e => hP.xq.bt.ne (hP.qu.row.bt pb2 rfl) (by decide) e.symm)).cell)
    have qV := hqm.c3
    have hlm : (L ++ M.modify 0 (markA 2)).length = ln := by rw [hln, List.length_append, List.length_append, List.length_modify]
    rw [hlm] at qV
    obtain ⟨V2, hV2⟩ : ∃ V2, V2 = V.drew.setCell ⟨pb2, l1 * 17 + 1, none⟩ (.int .u8 (f2 : Int)) := ⟨_, rfl⟩
    have hqd := hqm.below (Below.refl _ _).drew
    have hq3 := hqd.mark hx2 1
    rw [← hfl2, ← hf2, ← hl1, ← hV2] at hq3
    have hpo := hP.ow pb2 rfl
    have hUs : w.heap.size ≤ U.heap.size := hWU
    have hne : pb2 ≠ U.heap.size := by omega
    have hD2 : V2.heap[U.heap.size]? = some (.deferred (some [])) := by
      rw [hV2, Below.heap_setCell _ _ _ _ (by show U.heap.size ≠ pb2; omega)]
      show V.heap[U.heap.size]? = _
      rw [hV, Below.heap_setCell _ _ _ _ (by show U.heap.size ≠ pb2; omega)]
      exact hD
    have hpP : qB q nb pa pb2 ∨ w.heap.size ≤ pb2 := hpo.imp (fun e => e.1) (fun e => by omega)
    have hfr2 : Fr (qB q nb pa) w V2 := by
      rw [hV2, hV]
      exact ((hP.fr.put ⟨pb2, L.length * 17 + 1, none⟩ (.int .u8 (f1 : Int)) hpP).drew).put ⟨pb2, l1 * 17 + 1, none⟩ (.int .u8 (f2 : Int)) hpP
    have hmm : ((M.modify 0 (markA 2)).modify (cntN dn size - 1) (markA 1)).map (·.1) = markL (cntN dn size) ((List.range (cntN dn size)).map (newPc cum L.length f0 st s0 pp size zs)) := by
      rw [map_mark, map_mark, hP.ml, HM.out.2]
      rfl
    have hg2 := grownBy_putObj' V2 U.heap.size (.deferred none)
    have HE : Hid (PshR w q nb pa L cum size nx2 (markL (cntN dn size) ((List.range (cntN dn size)).map (newPc cum L.length f0 st s0 pp size zs))) (.returned (.int .i64 0)) (V2.putObj U.heap.size (.deferred none))) :=
      ⟨rfl, ⟨_, _, _, hq3.grown hg2 (fun r e => by cases e; exact ⟨_, hD2, rfl⟩), hmm, fun b o s e => by
        injection e with e
        injection e with e
        rw [← e]
        exact hpP⟩, hfr2.new hg2 (fun r e => by
        obtain rfl := Option.some.inj e
        exact hUs)⟩
    have HD2 := (show Hid _ from hD2)
    have HV3 := (show Hid _ from hV)
    have HVV := (show Hid _ from hV2)
    have k1 : (0 : Int) ≤ (l1 : Int) := by omega
    have k2 : (l1 : Int) < (ln : Int) := by omega
    have hwr : IntKind.i64.wrap ((ln : Int) - 1) = (l1 : Int) := by rw [IntKind.wrap_i64]; have := HS.out; omega
    clear hx1 hpc hfl hqm hln hll hl2 hx2 hq2 hx3 hpb2 hpc2 hF2 hfl2 hf1 hf2 hV hV2 hqd hq3 hpo hne hD2 hpP hfr2 hmm hg2 hlm hP hN hNm hML hx0 hl1
    gi_wp2
    rw [← HV3.out]
    refine wpIn_wide.2 ?_
    refine wp_region_stage mixedX [18] (fun stgN W => match stgN with | 0 => W = V.drew | _ => W = V2) (fun W => W.cell? ⟨w.heap.size, 0, none⟩ = some (.pointer (some ⟨q, 0, none⟩)) ∧ W.cell? ⟨q, 3, none⟩ = some (.slice (some ⟨pb2, 0, none⟩) ln cap2) ∧ W.cell? ⟨pb2, l1 * 17 + 1, none⟩ = some (.int .u8 (fl : Nat))) [(70, .pointer (some ⟨q, 0, none⟩)), (71, .pointer (some ⟨q, 0, none⟩)), (72, .pointer (some ⟨q, 3, none⟩)), (73, .slice (some ⟨pb2, 0, none⟩) ln cap2), (74, .pointer (some ⟨q, 0, none⟩)), (75, .pointer (some ⟨q, 0, none⟩)), (76, .pointer (some ⟨q, 3, none⟩)), (77, .slice (some ⟨pb2, 0, none⟩) ln cap2), (78, .int .i64 (ln : Nat)), (79, .int .i64 (l1 : Nat)), (80, .pointer (some ⟨pb2, l1 * 17, none⟩)), (81, .pointer (some ⟨pb2, l1 * 17, none⟩)), (82, .pointer (some ⟨pb2, l1 * 17 + 1, none⟩)), (83, .int .u8 (fl : Nat)), (84, .int .u8 (f2 : Nat)), (85, .pointer (some ⟨pb2, l1 * 17, none⟩)), (86, .pointer (some ⟨pb2, l1 * 17, none⟩)), (87, .pointer (some ⟨pb2, l1 * 17 + 1, none⟩))] ?Z4 ?hZ4 (by kernel_rfl) (by kernel_rfl) (by kernel_rfl) (by kernel_rfl) (by kernel_rfl) ?h04 ?hS4 (.inl (by kernel_rfl)) ?hops4 ?he4 (by kernel_rfl) (by decide)
    case hZ4 => simp only [List.foldl_cons, List.foldl_nil, List.setIfInBounds_toArray, List.set_cons_zero, List.set_cons_succ]; rfl
    case h04 => rfl
    case hS4 =>
      intro k W hk hW
      have hk : k < 1 := hk
      obtain rfl : k = 0 := by omega
      · have hW : W = V.drew := hW; rw [hW]; exact ⟨cV, qV, g2⟩
    case hops4 =>
      refine ⟨?_, ?_, ?_, ?_, ?_, ?_, ?_, ?_, ?_, ?_, ?_, ?_, ?_, ?_, ?_, ?_, ?_, ?_, ?_, trivial⟩
      · exact stg_val (by rfl) (by rfl) (fun W hW => by obtain ⟨y0, y1, y2⟩ := hW; go_simp; (try with_reducible rfl); (try omega))
      · exact stg_val (by rfl) (by rfl) (fun W hW => by obtain ⟨y0, y1, y2⟩ := hW; go_simp; (try with_reducible rfl); (try omega))
      · exact stg_val (by rfl) (by rfl) (fun W hW => by obtain ⟨y0, y1, y2⟩ := hW; go_simp; (try with_reducible rfl); (try omega))
      · exact stg_val (by rfl) (by rfl) (fun W hW => by obtain ⟨y0, y1, y2⟩ := hW; go_simp; (try with_reducible rfl); (try omega))
      · exact stg_val (by rfl) (by rfl) (fun W hW => by obtain ⟨y0, y1, y2⟩ := hW; go_simp; (try with_reducible rfl); (try omega))
      · exact stg_val (by rfl) (by rfl) (fun W hW => by obtain ⟨y0, y1, y2⟩ := hW; go_simp; (try with_reducible rfl); (try omega))
      · exact stg_val (by rfl) (by rfl) (fun W hW => by obtain ⟨y0, y1, y2⟩ := hW; go_simp; (try with_reducible rfl); (try omega))
      · exact stg_val (by rfl) (by rfl) (fun W hW => by obtain ⟨y0, y1, y2⟩ := hW; go_simp; (try with_reducible rfl); (try omega))
      · exact stg_val (by rfl) (by rfl) (fun W hW => by obtain ⟨y0, y1, y2⟩ := hW; go_simp; (try with_reducible rfl); (try omega))
      · exact stg_val (by rfl) (by rfl) (fun W hW => by obtain ⟨y0, y1, y2⟩ := hW; go_simp; (try with_reducible rfl); (try omega))
      · exact stg_val (by rfl) (by rfl) (fun W hW => by obtain ⟨y0, y1, y2⟩ := hW; go_simp; (try with_reducible rfl); (try omega))
      · exact stg_val (by rfl) (by rfl) (fun W hW => by obtain ⟨y0, y1, y2⟩ := hW; go_simp; (try with_reducible rfl); (try omega))
      · exact stg_val (by rfl) (by rfl) (fun W hW => by obtain ⟨y0, y1, y2⟩ := hW; go_simp; (try with_reducible rfl); (try omega))
      · exact stg_val (by rfl) (by rfl) (fun W hW => by obtain ⟨y0, y1, y2⟩ := hW; go_simp; (try with_reducible rfl); (try omega))
      · exact stg_val (by rfl) (by rfl) (fun W hW => by obtain ⟨y0, y1, y2⟩ := hW; go_simp; (try with_reducible rfl); (try omega))
      · exact stg_val (by rfl) (by rfl) (fun W hW => by obtain ⟨y0, y1, y2⟩ := hW; go_simp; (try with_reducible rfl); (try omega))
      · exact stg_val (by rfl) (by rfl) (fun W hW => by obtain ⟨y0, y1, y2⟩ := hW; go_simp; (try with_reducible rfl); (try omega))
      · exact stg_val (by rfl) (by rfl) (fun W hW => by obtain ⟨y0, y1, y2⟩ := hW; go_simp; (try with_reducible rfl); (try omega))
      · exact stg_skip (by rfl) (by rfl) rfl (fun W hW => by have hW : W = V.drew := hW; subst hW; refine ⟨V2, ?_, rfl⟩; rw [HVV.out]; go_simp; try rfl)
    case he4 =>
    intro W7 hW7
    have hW8 : W7 = V2 := hW7
    rw [hW8]
    clear hW7 hW8 W7
    gi_wp2
    refine ⟨by simp, .inl ⟨_, _, rfl, run_takeDeferred HD2.out, ?_⟩⟩
    refine ⟨_, results_tmp rfl _ _ _, ?_⟩
    exact HE.out
  case stop =>
    rintro c W2 hF hD
    exact hF.elim
end
end Go.Proofs.Ytconfmjgoipejaa
namespace Go.Proofs.Ytconfmjgoipejaa
open Go.RowKit Go.Shelf
attribute [local go_sem] Oper.semAt_some
/-- The iterator's contract. -/
def ItrZ (gf : Nat) (lb : Array Value) (enc : Nat → Array Value) (N C : Nat) (sel : Nat → World → Option Bool) (Qs : Nat → Prop) (Pre : World → Prop) : Prop :=
  ∀ (m l : Nat) (J : Nat → World → Prop) (Jx : World → Prop) (W : World), OwnFrom W.heap.size J → OwnFrom W.heap.size (fun (_ : Unit) W => Jx W) → Pre W → l < W.heap.size → (∀ b, Qs b → b < W.heap.size) →
    (∀ k W1, k < N → W.heap.size + C ≤ W1.heap.size → J k W1 → (sel k W1 = some true ∧ ∀ m', YieldAt Fence.wide m' Try.prog l (enc k) W1 fun e W' =>
        (e = .returned (.bool true) ∧ J (k + 1) W' ∧ Kq W.heap.size C Qs W1 W') ∨ (e = .returned (.bool false) ∧ Jx W' ∧ Kq W.heap.size C Qs W1 W')) ∨ (sel k W1 = some false ∧ J (k + 1) W1)) →
    J 0 W →
    CallsIn Fence.wide m Try.prog gf (#[.func (.yield l) #[] #[]] ++ lb) W fun e W' => (∃ v, e = .returned v) ∧ (J N W' ∨ Jx W')
set_option maxHeartbeats 1000000 in
/-- The caller's law. -/
theorem range_selZ {g : Operand} {ps : Array Tmp} {assign body : Code} {Q : Exit → Act → World → Prop} {a : Act} {w : World} {n : Nat}
    {gf : Nat} {lb : Array Value} (hg : a.eval g = .func (.func gf) #[] lb) (eg : ∀ args w, (callFunc gf args).run Try.prog w = .ok (.enter gf args) w)
    {enc : Nat → Array Value} {N C : Nat} {sel : Nat → World → Option Bool} {Qs : Nat → Prop} {Pre : World → Prop} (hit : ItrZ gf lb enc N C sel Qs Pre) (hps : ∀ k, (enc k).size = ps.size)
    (hpre : ∀ W, Below w.heap.size w W → Pre W) (hQ : ∀ b, Qs b → b < w.heap.size)
    (I IY : Nat → World → Prop) (Ix : Code → World → Prop) (hI : OwnFrom w.heap.size I) (hIY : OwnFrom w.heap.size IY) (hIx : ∀ c, OwnFrom w.heap.size (fun (_ : Unit) W => Ix c W)) (h0 : I 0 w)
    (hround : ∀ k W, k < N → I k W → (sel k W = some true ∧ IY k W) ∨ (sel k W = some false ∧ I (k + 1) W))
    (a₁ : Nat → Act)
    (hassign : ∀ (n' l k : Nat) (W : World) (K : Act → World → Prop), K (a₁ k) W →
      assign.wpIn (Fence.wide.inRound l) n' Try.prog (Exit.then K (fun _ _ _ => False)) { tmps := (ps.zip (enc k)).foldl (fun t (p, v) => t.setIfInBounds p v) a.tmps, defers := [] } W)
    (hbody : ∀ (n' l k : Nat) (W : World), k < N → IY k W → w.heap.size + (2 + C) ≤ W.heap.size → body.wpIn (Fence.wide.inRound l) n' Try.prog (rPost w.heap.size (2 + C) Qs I Ix k W) (a₁ k) W)
    (hdone : ∀ (W : World), I N W → W.heap[w.heap.size]? = some (.deferred (some [])) → Q .normal { a with defers := { target := .collected w.heap.size, args := #[] } :: a.defers } W)
    (hstop : ∀ (c : Code) (W : World), Ix c W → W.heap[w.heap.size]? = some (.deferred (some [])) → c.wpIn Fence.wide n Try.prog Q { a with defers := { target := .collected w.heap.size, args := #[] } :: a.defers } W) :
    (Code.rangeFunc g ps assign body).wpIn Fence.wide n Try.prog Q a w := by
  refine wpIn_rangeFunc ?_
  intro fn _
  obtain ⟨rc, hrc⟩ : ∃ rc : LoopState → Option Code → Loop, rc = fun st pe => { state := st, pending := pe, fn, tmps := a.tmps, params := ps, assign, body, defers := w.heap.size } := ⟨_, rfl⟩
  obtain ⟨W1, hW1⟩ : ∃ W1, (w.alloc (.deferred (some []))).alloc (.loop (rc .ready none)) = W1 := ⟨_, rfl⟩
  have hz : W1.heap.size = w.heap.size + 2 := by rw [← hW1]; simp
  have hL1 : W1.heap[w.heap.size + 1]? = some (.loop (rc .ready none)) := by
    rw [← hW1]
    have := World.alloc_heap_new (w.alloc (.deferred (some []))) (.loop (rc .ready none))
    rwa [World.size_alloc] at this
  have hK1 : W1.heap[w.heap.size]? = some (.deferred (some [])) := by
    rw [← hW1]
    exact (Below.heap_alloc _ _ _ (by simp)).trans (World.alloc_heap_new w _)
  have hb1 : Below w.heap.size w W1 := by
    rw [← hW1]
    exact ((Below.refl _ w).alloc (Nat.le_refl _) _).alloc (by simp) _
  have hI1 : I 0 W1 := by rw [← hW1]; exact hI.alloc _ (hI.alloc _ h0)
  refine ⟨w.heap.size + 1, [{ target := .collected w.heap.size, args := #[] }], W1, { target := .fn (.func gf) lb, args := #[.func (.yield (w.heap.size + 1)) #[] #[]] }, W1, gf,
    #[.func (.yield (w.heap.size + 1)) #[] #[]] ++ lb, W1, ?_, ?_, ?_, ?_, fun h => (by cases h), ?_⟩
  · rw [← hW1, hrc]
    exact run_enterLoop_outer _ _ _ _ _
  · simp only [resolve, hg]
    simp [go_sem]
  · intro f' _
    trivial
  · simp [invoke, go_sem, eg]
  · refine (hit (n - 1) (w.heap.size + 1)
      (fun k W => I k W ∧ W.heap[w.heap.size + 1]? = some (.loop (rc .ready none)) ∧ W.heap[w.heap.size]? = some (.deferred (some [])))
      (fun W => ∃ c, Ix c W ∧ W.heap[w.heap.size + 1]? = some (.loop (rc .done (some c))) ∧ W.heap[w.heap.size]? = some (.deferred (some [])))
      W1 ?_ ?_ (hpre _ hb1) (by omega) (fun b hb => by have := hQ b hb; omega) ?_ ⟨hI1, hL1, hK1⟩).mono ?_
    · intro s A B row hs hg' hr
      have hr1 : ∀ r, row = some r → w.heap.size + 2 ≤ r := fun r e => by have := (hr r e).1; omega
      exact ⟨hI s A B row hs.1 hg' (fun r e => ⟨by have := hr1 r e; omega, (hr r e).2⟩), grown_same hg' hs.2.1 hr1 (by omega), grown_same hg' hs.2.2 hr1 (by omega)⟩
    · intro s A B row hs hg' hr
      obtain ⟨c, hc, h1, h2⟩ := hs
      have hr1 : ∀ r, row = some r → w.heap.size + 2 ≤ r := fun r e => by have := (hr r e).1; omega
      exact ⟨c, hIx c () A B row hc hg' (fun r e => ⟨by have := hr1 r e; omega, (hr r e).2⟩), grown_same hg' h1 hr1 (by omega), grown_same hg' h2 hr1 (by omega)⟩
    · rintro k W hk hzC ⟨hi, hl, hd⟩
      rcases hround k W hk hi with ⟨hs, hy⟩ | ⟨hs, hi2⟩
      · refine .inl ⟨hs, fun m' => ?_⟩
        have hlt : w.heap.size + 1 < W.heap.size := (Array.getElem?_eq_some_iff.1 hl).1
        have hyd := run_yield (P := Try.prog) (args := enc k) hl (by rw [hrc]; exact hps k)
        rw [hrc] at hyd
        refine ⟨fn, _, assign, body, hyd, roundIn_of_wpIn trivial (hassign _ _ k W _ ⟨_, run_beginRound hl (by rw [hrc]), ?_⟩)⟩
        obtain ⟨V, hV⟩ : ∃ V, V = W.putObj (w.heap.size + 1) (.loop { rc .ready none with state := .busy }) := ⟨_, rfl⟩
        have hVl : V.heap[w.heap.size + 1]? = some (.loop { rc .ready none with state := .busy }) := by rw [hV]; exact World.putObj_heap_same hlt
        have hVd : V.heap[w.heap.size]? = some (.deferred (some [])) := by rw [hV]; exact (World.putObj_heap_other (by omega)).trans hd
        have hnq : ¬ Qs (w.heap.size + 1) := fun h => by have := hQ _ h; omega
        have kV : Kq (w.heap.size + 2) C Qs W V := by rw [hV]; exact Kq.put _ _ _ (by omega) hnq
        have hyV : IY k V := by rw [hV]; exact hIY.putObj _ hy (by omega) hl rfl
        rw [← hV]
        have hlast : ∀ (jump : Option Code) (W3 : World), Kq w.heap.size (2 + C) Qs V W3 →
            (Instr.endRound (w.heap.size + 1) jump).run Try.prog W3 = .ok (.bool jump.isNone) (W3.putObj (w.heap.size + 1) (.loop (rc (if jump.isNone then .ready else .done) jump))) ∧
            W3.heap[w.heap.size + 1]? = some (.loop { rc .ready none with state := .busy }) ∧
            (W3.putObj (w.heap.size + 1) (.loop (rc (if jump.isNone then .ready else .done) jump))).heap[w.heap.size + 1]? = some (.loop (rc (if jump.isNone then .ready else .done) jump)) ∧
            (W3.putObj (w.heap.size + 1) (.loop (rc (if jump.isNone then .ready else .done) jump))).heap[w.heap.size]? = some (.deferred (some [])) ∧
            Kq W1.heap.size C Qs W (W3.putObj (w.heap.size + 1) (.loop (rc (if jump.isNone then .ready else .done) jump))) := by
          intro jump W3 hk3
          have h3 := (hk3.same (w.heap.size + 1) (.inl ⟨by omega, by omega⟩)).trans hVl
          have h4 := (hk3.same w.heap.size (.inl ⟨by omega, by omega⟩)).trans hVd
          have h5 := run_endRound (P := Try.prog) jump h3
          refine ⟨?_, h3, World.putObj_heap_same (Array.getElem?_eq_some_iff.1 h3).1, (World.putObj_heap_other (by omega)).trans h4, ?_⟩
          · rw [hrc] at h5 ⊢
            exact h5
          · rw [hz]
            exact (kV.trans (hk3.sub (fun b h1 h2 => .inl ⟨by omega, by omega⟩) (fun b hb => .inr hb))).trans (Kq.put _ _ _ (by omega) hnq)
        refine wpIn_mono (hbody _ _ k V hk hyV (by rw [hV]; have := (grownBy_putObj' W (w.heap.size + 1) (.loop { rc .ready none with state := .busy })).size; omega)) ?_
        rintro e a3 W3 hp
        cases e with
        | normal =>
          obtain ⟨h1, h2, h3, h4, h5⟩ := hlast none W3 hp.1
          exact ⟨_, _, h1, .inl ⟨rfl, ⟨hI.putObj _ hp.2 (by omega) h2 rfl, h3, h4⟩, h5⟩⟩
        | ret =>
          obtain ⟨h1, h2, h3, h4, h5⟩ := hlast (some .ret) W3 hp.1
          exact ⟨_, _, h1, .inr ⟨rfl, ⟨.ret, own_put (hIx _) _ hp.2 (by omega) h2 rfl, h3, h4⟩, h5⟩⟩
        | exit id =>
          obtain ⟨h1, h2, h3, h4, h5⟩ := hlast (some (.exit id)) W3 hp.1
          exact ⟨_, _, h1, .inr ⟨rfl, ⟨.exit id, own_put (hIx _) _ hp.2 (by omega) h2 rfl, h3, h4⟩, h5⟩⟩
        | goto t =>
          obtain ⟨h1, h2, h3, h4, h5⟩ := hlast (some (.goto t)) W3 hp.1
          exact ⟨_, _, h1, .inr ⟨rfl, ⟨.goto t, own_put (hIx _) _ hp.2 (by omega) h2 rfl, h3, h4⟩, h5⟩⟩
        | panic _ => exact hp.elim
        | outgrown => exact hp.elim
      · exact .inr ⟨hs, hi2, hl, hd⟩
    · rintro e W2 ⟨⟨v, rfl⟩, h⟩
      rcases h with ⟨hi, hl, hd⟩ | ⟨c, hi, hl, hd⟩
      · have h5 := run_endLoop (P := Try.prog) hl (by rw [hrc]; simp)
        exact ⟨none, _, (by rw [hrc] at h5; exact h5), hdone _ (hI.putObj _ hi (by omega) hl rfl) ((World.putObj_heap_other (by omega)).trans hd)⟩
      · have h5 := run_endLoop (P := Try.prog) hl (by rw [hrc]; simp)
        exact ⟨some c, _, (by rw [hrc] at h5; exact h5), hstop c _ (own_put (hIx c) _ hi (by omega) hl rfl) ((World.putObj_heap_other (by omega)).trans hd)⟩
end Go.Proofs.Ytconfmjgoipejaa
namespace Go.Proofs.Ytconfmjgoipejaa
open Go.RowKit Go.Shelf
attribute [local go_sem] Oper.semAt_some
set_option maxRecDepth 100000 in
set_option maxHeartbeats 2000000 in
theorem due_itrZ (Bt q pb n cap : Nat) (pa : Option Addr) (hpa : n = 0 ∨ pa = some ⟨pb, 0, none⟩) (hn : n ≤ 1000000) :
    ItrZ 40 #[.pointer (some ⟨Bt, 0, none⟩)] (dueE pb) n 4 (selD pb) (qQ Bt q) (QP Bt q pa n cap) := by
  intro m l J Jx W hJ hJx hP hlW hQW hY h0
  refine callsIn_of_wp_marks Try.func40 rfl trivial ?_ rfl
  simp only [Try.ntmps40, List.size_toArray, List.length_cons, List.length_nil, Nat.reduceAdd, Nat.reduceSub, Array.replicate_succ, Array.replicate_zero, List.push_toArray, List.append_toArray, List.nil_append, List.cons_append]
  have hBt : Bt < W.heap.size := hQW Bt (.inl rfl)
  have hq : q < W.heap.size := hQW q (.inr rfl)
  obtain ⟨V, hV⟩ : ∃ V, V = W.alloc (.cells #[.func (.yield l) #[] #[]] 105) := ⟨_, rfl⟩
  have bV : Below W.heap.size W V := by rw [hV]; exact (Below.refl _ _).alloc (Nat.le_refl _) _
  have zV : V.heap.size = W.heap.size + 1 := by rw [hV]; simp
  have cV : V.cell? ⟨W.heap.size, 0, none⟩ = some (.func (.yield l) #[] #[]) := by rw [hV]; exact box_new W _ _
  have hb := (bV.cell (p := ⟨Bt, 0, none⟩) hBt).trans hP.box
  have hJV : J 0 V := by rw [hV]; exact hJ.alloc _ h0
  have HV := (show Hid _ from hV)
  rw [hV] at hb
  gi_wp2
  refine ⟨trivial, fun h => (by cases h), (callsIn_wide.2 (steps_call _ _)).mono ?_⟩
  rintro e w' ⟨rfl, rfl⟩
  gi_wp2
  rw [← HV.out]
  obtain ⟨U, hU⟩ : ∃ U, U = V.alloc (.cells #[.pointer (some ⟨q, 0, none⟩)] 23) := ⟨_, rfl⟩
  have bU : Below V.heap.size V U := by rw [hU]; exact (Below.refl _ _).alloc (Nat.le_refl _) _
  have bWU : Below W.heap.size W U := bV.trans (bU.mono (by omega))
  have zU : U.heap.size = W.heap.size + 2 := by rw [hU]; simp; omega
  have cU : U.cell? ⟨W.heap.size + 1, 0, none⟩ = some (.pointer (some ⟨q, 0, none⟩)) := by rw [hU, ← zV]; exact box_new V _ _
  have cU0 : U.cell? ⟨W.heap.size, 0, none⟩ = some (.func (.yield l) #[] #[]) := (bU.cell (p := ⟨W.heap.size, 0, none⟩) (by show W.heap.size < _; omega)).trans cV
  have hJU : J 0 U := by rw [hU]; exact hJ.alloc _ hJV
  have cUq : U.cell? ⟨q, 3, none⟩ = some (.slice pa n cap) := (bWU.cell (p := ⟨q, 3, none⟩) hq).trans hP.row
  rw [← hU]
  clear hb cV hV bV bU hU HV
  refine range_sel (gf := 44) (lb := #[.pointer (some ⟨W.heap.size + 1, 0, none⟩)]) rfl (enters_of Try.func44 (by kernel_rfl) rfl)
    (steps_itr (W.heap.size + 1) q pb n cap pa hpa hn) (fun _ => rfl)
    (fun W2 h2 => ⟨(h2.cell (p := ⟨W.heap.size + 1, 0, none⟩) (by show W.heap.size + 1 < _; omega)).trans cU, (h2.cell (p := ⟨q, 3, none⟩) (by show q < _; omega)).trans cUq⟩)
    (fun b hb => by rcases hb with rfl | rfl <;> omega)
    (fun k W2 => J k W2 ∧ W2.cell? ⟨W.heap.size, 0, none⟩ = some (.func (.yield l) #[] #[]))
    (fun k W2 => J k W2 ∧ W2.cell? ⟨W.heap.size, 0, none⟩ = some (.func (.yield l) #[] #[]))
    (fun c W2 => c = .ret ∧ Jx W2)
    (fun s A B row hs hg hr => ⟨hJ s A B row hs.1 hg (fun r e => ⟨by have := (hr r e).1; omega, (hr r e).2⟩), own_kept hs.2 hg hr⟩)
    (fun s A B row hs hg hr => ⟨hJ s A B row hs.1 hg (fun r e => ⟨by have := (hr r e).1; omega, (hr r e).2⟩), own_kept hs.2 hg hr⟩)
    (fun c s A B row hs hg hr => ⟨hs.1, hJx s A B row hs.2 hg (fun r e => ⟨by have := (hr r e).1; omega, (hr r e).2⟩)⟩)
    ⟨hJU, cU0⟩
    (fun k W2 _ h => .inl ⟨rfl, h⟩)
    (fun k => { tmps := #[.func (.yield l) #[] #[], .pointer (some ⟨Bt, 0, none⟩), .pointer (some ⟨W.heap.size, 0, none⟩), undef, .pointer (some ⟨pb, k * 17, none⟩), .pointer (some ⟨q, 0, none⟩), .func (.func 44) #[] #[.pointer (some ⟨W.heap.size + 1, 0, none⟩)], .int .i64 ((k : Int) + 1), .pointer (some ⟨pb, k * 17, none⟩), undef, undef, undef, undef, undef, undef, undef, undef, undef, undef, undef, undef, undef, undef, undef, undef, undef, undef], defers := [] }) ?assign ?body ?done ?stop
  case assign =>
    intro n' l' k W2 K hK
    gi_wp2
    exact hK
  case body =>
    rintro n' l' k W2 hk ⟨hJ2, hc2⟩ hz2
    rcases hY k W2 hk (by omega) hJ2 with ⟨hs, hy0⟩ | ⟨hs, hJ3⟩
    · obtain ⟨s, hsc, hsb⟩ := selD_some hs
      obtain ⟨fy, ty, ay, by1, hy, hR⟩ := hy0 (n' - 1)
      clear hY hJU cU0 cU cUq hy0 hs
      have hs2 : s = 2 ∨ s = 0 := by simpa using hsb
      clear hsb
      rcases hs2 with rfl | rfl
      all_goals
        gi_wp2
        refine ⟨fun h => (by cases h), RoundIn.mono (F := Fence.wide.inRound l') hR ?_⟩
        rintro e W3 (⟨rfl, hJ3, hk3⟩ | ⟨rfl, hJx3, hk3⟩)
        · clear hR hy
          gi_wp2
          exact ⟨hk3.sub (fun b h1 h2 => .inl ⟨by omega, by omega⟩) (fun b hb => hb.elim (fun h => .inl ⟨by omega, by omega⟩) (fun h => .inr (.inr h))), hJ3, (hk3.cell (.inl ⟨by omega, by omega⟩)).trans hc2⟩
        · clear hR hy
          gi_wp2
          exact ⟨hk3.sub (fun b h1 h2 => .inl ⟨by omega, by omega⟩) (fun b hb => hb.elim (fun h => .inl ⟨by omega, by omega⟩) (fun h => .inr (.inr h))), rfl, hJx3⟩
    · obtain ⟨s, hsc, hsb⟩ := selD_some hs
      clear hY hJU cU0 cU cUq hs
      have hs2 : (s == 2) = false := by simp at hsb ⊢; exact hsb.1
      have hs0 : (s == 0) = false := by simp at hsb ⊢; exact hsb.2
      have hs2' : ¬ s = 2 := by simpa using hs2
      have hs0' : ¬ s = 0 := by simpa using hs0
      clear hsb
      gi_wp2
      refine ⟨fun _ h => (by cases h), ?_⟩
      gi_wp2
      exact ⟨Kq.refl _ _ _ _, hJ3, hc2⟩
  case done =>
    rintro W2 ⟨hJ2, _⟩ hD
    gi_wp2
    refine ⟨by simp, .inl ⟨_, _, rfl, run_takeDeferred hD, ?_⟩⟩
    exact ⟨_, results_none rfl _ _ _, ⟨_, rfl⟩, .inl (hJ.putObj _ hJ2 (by omega) hD rfl)⟩
  case stop =>
    rintro c W2 ⟨rfl, hx⟩ hD
    gi_wp2
    refine ⟨by simp, .inl ⟨_, _, rfl, run_takeDeferred hD, ?_⟩⟩
    exact ⟨_, results_none rfl _ _ _, ⟨_, rfl⟩, .inr (own_put hJx _ hx (by omega) hD rfl)⟩
end Go.Proofs.Ytconfmjgoipejaa
namespace Go.Proofs.Ytconfmjgoipejaa
open Go.RowKit Go.Shelf
/-- The cells of a chunk that is answered. -/
def chQ (x : PcA) : List Value := chV x.1.f x.1.t x.1.st x.1.ss x.1.pp x.2.1 x.1.zs.length x.2.2
theorem chQ_len (x : PcA) : (chQ x).length = 14 := rfl
theorem layC : Lays Try.prog 40 47 14 128 chQ :=
  ⟨by kernel_rfl, ⟨.agg #[.int .u8 0, .int .u8 0, .int .u32 0, .int .u16 0, .int .u16 0, .int .u32 0, .int .u32 0, .int .u32 0, .int .u16 0, .int .u16 0, .slice none 0 0, .slice none 0 0, .slice none 0 0, .slice none 0 0], by kernel_rfl, by kernel_rfl⟩, by decide, chQ_len, fun x u hu => by
    simp only [chQ, chV, List.mem_cons, List.not_mem_nil, or_false] at hu
    rcases hu with rfl | rfl | rfl | rfl | rfl | rfl | rfl | rfl | rfl | rfl | rfl | rfl | rfl | rfl <;> rfl⟩
def dueB (x : PcA) : Bool := x.1.is == 2 || x.1.is == 0
/-- The bytes of a chunk with n bytes of Data. -/
def spN (n : Nat) : Nat := sizN true (decide (n = 0)) false (4 + (12 + n) + padN (12 + n))
def szP (x : PcA) : Nat := if dueB x = true then spN x.1.zs.length else 0
def ctP (x : PcA) : Nat := if dueB x = true then 1 else 0
def lnP (x : PcA) : Nat := if dueB x = true then x.1.zs.length else 0
def sndF (wy : Nat) (x : PcA) : PcA := if dueB x = true then ({ x.1 with is := 1, wy := wy, ms := 0 }, x.2) else x
/-- Where Send stops. -/
def stopP (L : List PcA) (room most air k : Nat) : Prop := ∃ x, L[k]? = some x ∧ dueB x = true ∧ (most < sumG szP L (k + 1) ∨ sumG ctP L k = 16 ∨ (x.1.is = 0 ∧ 0 < air + sumG lnP L k ∧ room < air + sumG lnP L k + x.1.zs.length))
structure SnI (w : World) (B q nb : Nat) (pa : Option Addr) (cap cum size : Nat) (nx : List Nat) (wy room most bw br bm bs bz ba : Nat) (L : List PcA) (z av : Nat) (sa : Option Addr) (sc : Nat) (ys : List PcA) (W : World) : Prop where
  qu : QuW W q nb pa cap L cum size nx
  fr : Fr (qB q nb pa) w W
  xw : Cx 3 bw (.int .i64 (wy : Nat)) W
  xr : Cx 3 br (.int .i64 (room : Nat)) W
  xm : Cx 3 bm (.int .i64 (most : Nat)) W
  xs : Cx 40 bs (.slice sa ys.length sc) W
  xz : Cx 3 bz (.int .i64 (z : Nat)) W
  xa : Cx 3 ba (.int .i64 (av : Nat)) W
  ow : OwnG 47 14 chQ W B sa ys.length sc ys
  da : ∀ y ∈ ys, OwnB W B y.2.1 y.1.zs.length y.2.2 y.1.zs
  o0 : w.heap.size ≤ bw
  o1 : bw < br
  o2 : br < bm
  o3 : bm < bs
  o4 : bs < bz
  o5 : bz < ba
section
variable {w W W' : World} {B q nb : Nat} {pa : Option Addr} {cap cum size : Nat} {nx : List Nat} {wy room most bw br bm bs bz ba : Nat} {L : List PcA} {z av : Nat} {sa : Option Addr} {sc : Nat} {ys : List PcA}
/-- A frame that spares all blocks of these types, the row of answers and the blocks of the caller's. -/
theorem SnI.frT {Q : Nat → Prop} (h : SnI w B q nb pa cap cum size nx wy room most bw br bm bs bz ba L z av sa sc ys W) (hf : Fr Q W W') (hQ : ∀ b, Q b → w.heap.size ≤ b)
    (hT : ∀ b T, Q b → BT W b T → T ≠ 71 ∧ T ≠ 34 ∧ T ≠ 82 ∧ T ≠ 5 ∧ T ≠ 3 ∧ T ≠ 40) (hg : ∀ g, (Value.slice sa ys.length sc).ownBlock = some g → ¬ Q g) : SnI w B q nb pa cap cum size nx wy room most bw br bm bs bz ba L z av sa sc ys W' := by
  have hi : ∀ {b : Nat} {v : Value}, Cx 3 b v W → Cx 3 b v W' := fun hx => hx.fr hf (fun e => (hT _ _ e hx.bt).2.2.2.2.1 rfl)
  refine ⟨h.qu.fr hf (fun e => (hT _ _ e h.qu.tq).1 rfl) (fun e => (hT _ _ e h.qu.tn).2.1 rfl) (fun g hg e => (hT _ _ e (h.qu.row.bt g hg)).2.2.1 rfl) (fun g hg e => (hT _ _ e hg).2.2.2.1 rfl), ?_, hi h.xw, hi h.xr, hi h.xm, h.xs.fr hf (fun e => (hT _ _ e h.xs.bt).2.2.2.2.2 rfl), hi h.xz, hi h.xa, h.ow.fr hf hg, fun y hy => (h.da y hy).frY hf (fun g hg e => (hT _ _ e hg).2.2.2.1 rfl), h.o0, h.o1, h.o2, h.o3, h.o4, h.o5⟩
  exact ⟨hf.os.trans h.fr.os, hf.tape.trans h.fr.tape, hf.output.trans h.fr.output, Nat.le_trans h.fr.size hf.size, fun b hb hn => (hf.block b (Nat.lt_of_lt_of_le hb h.fr.size) (fun e => by have := hQ b e; omega)).trans (h.fr.block b hb hn)⟩
theorem SnI.below (h : SnI w B q nb pa cap cum size nx wy room most bw br bm bs bz ba L z av sa sc ys W) (hb : Below W.heap.size W W') : SnI w B q nb pa cap cum size nx wy room most bw br bm bs bz ba L z av sa sc ys W' :=
  h.frT (Q := fun _ => False) (Fr.of_below hb) (fun _ e => e.elim) (fun _ _ e => e.elim) (fun _ _ e => e)
theorem SnI.drew (h : SnI w B q nb pa cap cum size nx wy room most bw br bm bs bz ba L z av sa sc ys W) : SnI w B q nb pa cap cum size nx wy room most bw br bm bs bz ba L z av sa sc ys W.drew := h.below (Below.refl _ _).drew
theorem SnI.grown {row : Option Nat} (h : SnI w B q nb pa cap cum size nx wy room most bw br bm bs bz ba L z av sa sc ys W) (hg : W.grownBy W' row) (hw : ∀ r, row = some r → w.heap.size ≤ r) (hr : ∀ r, row = some r → ∃ o : Obj, W.heap[r]? = some o ∧ o.isCells = false) : SnI w B q nb pa cap cum size nx wy room most bw br bm bs bz ba L z av sa sc ys W' := by
  have hn : ∀ {b : Nat} {T : TypeId}, BT W b T → ¬ row = some b := fun {b T} hb e => by
    obtain ⟨o, ho, hc⟩ := hr b e
    obtain ⟨cur, r, hh⟩ := hb
    rw [hh] at ho
    obtain rfl := Option.some.inj ho
    cases hc
  exact h.frT (Q := fun b => row = some b) (Fr.grown hg (fun k e => e)) (fun b e => hw b e) (fun b T e hb => (hn hb e).elim) (fun g hg2 e => hn (h.ow.bt g hg2) e)
/-- A store into a chunk's box. -/
theorem SnI.box (h : SnI w B q nb pa cap cum size nx wy room most bw br bm bs bz ba L z av sa sc ys W) {c : Nat} (hc : BT W c 47) (hw : w.heap.size ≤ c) (hg : ∀ g, (Value.slice sa ys.length sc).ownBlock = some g → g ≠ c) (j : Nat) (v : Value) : SnI w B q nb pa cap cum size nx wy room most bw br bm bs bz ba L z av sa sc ys (W.setCell ⟨c, j, none⟩ v) := by
  refine h.frT (Q := fun b => b = c) (Fr.setCell _ _ _ _ rfl) (fun b e => by omega) (fun b T e hb => ?_) hg
  subst e
  have : T = 47 := by
    obtain ⟨cur, r, h1⟩ := hc
    obtain ⟨cur', r', h2⟩ := hb
    rw [h1] at h2
    injection h2 with h2
    injection h2 with _ h2 _
    exact h2.symm
  subst this
  decide
theorem SnI.ints (h : SnI w B q nb pa cap cum size nx wy room most bw br bm bs bz ba L z av sa sc ys W) {b : Nat} {T : TypeId} (hb : BT W b T) (hT : T = 3 ∨ T = 40) (hw : w.heap.size ≤ b) (v : Value) :
    QuW (W.setCell ⟨b, 0, none⟩ v) q nb pa cap L cum size nx ∧ Fr (qB q nb pa) w (W.setCell ⟨b, 0, none⟩ v) ∧ OwnG 47 14 chQ (W.setCell ⟨b, 0, none⟩ v) B sa ys.length sc ys ∧ (∀ y ∈ ys, OwnB (W.setCell ⟨b, 0, none⟩ v) B y.2.1 y.1.zs.length y.2.2 y.1.zs) := by
  refine ⟨h.qu.var ⟨b, 0, none⟩ v hb ?_ ?_ ?_ ?_, h.fr.put _ _ (.inr hw), h.ow.fr (Fr.setCell (fun k => k = b) W ⟨b, 0, none⟩ v rfl) (fun g hg e => (h.ow.bt g hg).ne (e ▸ hb) ?_ rfl), fun y hy => (h.da y hy).frY (Fr.setCell (fun k => k = b) W ⟨b, 0, none⟩ v rfl) (fun g hg e => hg.ne (e ▸ hb) ?_ rfl)⟩ <;> rcases hT with rfl | rfl <;> decide
theorem SnI.setZ (h : SnI w B q nb pa cap cum size nx wy room most bw br bm bs bz ba L z av sa sc ys W) (z2 : Nat) : SnI w B q nb pa cap cum size nx wy room most bw br bm bs bz ba L z2 av sa sc ys (W.setCell ⟨bz, 0, none⟩ (.int .i64 (z2 : Nat))) := by
  have := h.o0; have := h.o1; have := h.o2; have := h.o3; have := h.o4; have := h.o5
  obtain ⟨h1, h2, h3, h4⟩ := h.ints h.xz.bt (.inl rfl) (by omega) (.int .i64 (z2 : Nat))
  exact ⟨h1, h2, h.xw.other _ _ (by show bz ≠ bw; omega), h.xr.other _ _ (by show bz ≠ br; omega), h.xm.other _ _ (by show bz ≠ bm; omega), h.xs.other _ _ (by show bz ≠ bs; omega), h.xz.set _, h.xa.other _ _ (by show bz ≠ ba; omega), h3, h4, h.o0, h.o1, h.o2, h.o3, h.o4, h.o5⟩
theorem SnI.setA (h : SnI w B q nb pa cap cum size nx wy room most bw br bm bs bz ba L z av sa sc ys W) (a2 : Nat) : SnI w B q nb pa cap cum size nx wy room most bw br bm bs bz ba L z a2 sa sc ys (W.setCell ⟨ba, 0, none⟩ (.int .i64 (a2 : Nat))) := by
  have := h.o0; have := h.o1; have := h.o2; have := h.o3; have := h.o4; have := h.o5
  obtain ⟨h1, h2, h3, h4⟩ := h.ints h.xa.bt (.inl rfl) (by omega) (.int .i64 (a2 : Nat))
  exact ⟨h1, h2, h.xw.other _ _ (by show ba ≠ bw; omega), h.xr.other _ _ (by show ba ≠ br; omega), h.xm.other _ _ (by show ba ≠ bm; omega), h.xs.other _ _ (by show ba ≠ bs; omega), h.xz.other _ _ (by show ba ≠ bz; omega), h.xa.set _, h3, h4, h.o0, h.o1, h.o2, h.o3, h.o4, h.o5⟩
/-- A store into a piece. -/
theorem SnI.put (h : SnI w B q nb pa cap cum size nx wy room most bw br bm bs bz ba L z av sa sc ys W) {pb k j : Nat} {x y : PcA} {v : Value} (hpa : pa = some ⟨pb, 0, none⟩) (hx : L[k]? = some x) (hj : j < 17) (hy : pcV y = (pcV x).set j v) (hz : y.2 = x.2 ∧ y.1.zs = x.1.zs) :
    SnI w B q nb pa cap cum size nx wy room most bw br bm bs bz ba (L.set k y) z av sa sc ys (W.setCell ⟨pb, k * 17 + j, none⟩ v) := by
  have hbt : BT W pb 82 := by
    subst hpa
    exact h.qu.row.bt pb rfl
  have hi : ∀ {b : Nat} {v2 : Value} {T : TypeId}, T ≠ 82 → Cx T b v2 W → Cx T b v2 (W.setCell ⟨pb, k * 17 + j, none⟩ v) := fun hT hx => hx.other _ _ (fun e => hx.bt.ne (e ▸ hbt) hT rfl)
  refine ⟨h.qu.put hpa hx hj hy hz, h.fr.put _ _ (.inl (.inr (.inr ⟨0, none, hpa⟩))), hi (by decide) h.xw, hi (by decide) h.xr, hi (by decide) h.xm, hi (by decide) h.xs, hi (by decide) h.xz, hi (by decide) h.xa, ?_, ?_, h.o0, h.o1, h.o2, h.o3, h.o4, h.o5⟩
  · exact h.ow.fr (Fr.setCell (fun k => k = pb) W _ v rfl) (fun g hg e => (h.ow.bt g hg).ne (e ▸ hbt) (by decide) rfl)
  · exact fun y2 hy2 => (h.da y2 hy2).frY (Fr.setCell (fun k => k = pb) W _ v rfl) (fun g hg e => hg.ne (e ▸ hbt) (by decide) rfl)
/-- One more chunk is answered. -/
structure SnQ (w W Va : World) (B q nb : Nat) (pa : Option Addr) (cap cum size : Nat) (nx : List Nat) (wy room most bw br bm bs bz ba : Nat) (L : List PcA) (z av : Nat) (sa : Option Addr) (sc : Nat) (ys : List PcA) (y : PcA) (g c2 : Nat) (Vb : World) : Prop where
  run : ∀ ty, (Builtin.append_ #[40, 40] ty #[.slice sa ys.length sc, .slice (some ⟨W.heap.size, 0, none⟩) 1 1]).run Try.prog Va = .ok (.slice (some ⟨g, 0, none⟩) (ys.length + 1) c2) Vb
  xs : Cx 40 bs (.slice sa ys.length sc) Vb
  sn : SnI w B q nb pa cap cum size nx wy room most bw br bm bs bz ba L z av (some ⟨g, 0, none⟩) c2 (ys ++ [y]) (Vb.setCell ⟨bs, 0, none⟩ (.slice (some ⟨g, 0, none⟩) (ys.length + 1) c2))
  fr : Fr (fun b => (Value.slice sa ys.length sc).ownBlock = some b) W Vb
  lo : ∀ b, (Value.slice sa ys.length sc).ownBlock = some b → B ≤ b
theorem OwnG.lo {α : Type} {T : TypeId} {k : Nat} {cf : α → List Value} {w : World} {B : Nat} {a : Option Addr} {n c : Nat} {ps : List α} (h : OwnG T k cf w B a n c ps) : ∀ g, (Value.slice a n c).ownBlock = some g → B ≤ g := by
  intro g hg
  rcases h.own.2 with ⟨hv, _⟩ | ⟨g', cap, cur, hv, hb, _⟩
  · rw [hv] at hg; cases hg
  · rw [hv] at hg
    injection hg with e
    subst e
    exact hb
theorem SnI.app (h : SnI w B q nb pa cap cum size nx wy room most bw br bm bs bz ba L z av sa sc ys W) (hB : w.heap.size ≤ B) (hBW : B ≤ W.heap.size) (hn : ys.length ≤ 100000) (y : PcA) (hy : OwnB W B y.2.1 y.1.zs.length y.2.2 y.1.zs) (Va : World) (hVa : Va = W.alloc (.cells (chQ y).toArray 47)) : ∃ g c2 Vb, SnQ w W Va B q nb pa cap cum size nx wy room most bw br bm bs bz ba L z av sa sc ys y g c2 Vb := by
  have bVa : Below W.heap.size W Va := by rw [hVa]; exact (Below.refl _ _).alloc (Nat.le_refl _) _
  have zVa : Va.heap.size = W.heap.size + 1 := by rw [hVa]; simp
  have sVa := Stc.new W (chQ y) 47 Va hVa
  have hA := h.below bVa
  obtain ⟨g, c2, Vb, hr, hown, hg, hor, _⟩ := OwnG.app layC hA.ow 0 y ⟨W.heap.size, 0, none⟩ (fun j u hj => by
    have ea : (⟨W.heap.size, 0, none⟩ : Addr).add j = ⟨W.heap.size, j, none⟩ := by
      unfold Addr.add
      split <;> simp_all
    rw [ea]
    exact sVa.cell j u hj) (by simp [maxLen]; omega) (by omega) (by omega)
  have hrun : ∀ ty, (Builtin.append_ #[40, 40] ty #[.slice sa ys.length sc, .slice (some ⟨W.heap.size, 0, none⟩) 1 1]).run Try.prog Va = .ok (.slice (some ⟨g, 0, none⟩) (ys.length + 1) c2) Vb := fun ty => hr
  have hf : Fr (fun b => (Value.slice sa ys.length sc).ownBlock = some b) Va Vb := Fr.grown hg (fun k e => e)
  have hnb : ∀ {b : Nat} {T : TypeId}, BT Va b T → T ≠ 47 → ¬ (Value.slice sa ys.length sc).ownBlock = some b := fun hb hT e => hb.ne (hA.ow.bt _ e) hT rfl
  have hi : ∀ {b : Nat} {v2 : Value} {T : TypeId}, T ≠ 47 → Cx T b v2 Va → Cx T b v2 Vb := fun hT hx => hx.fr hf (hnb hx.bt hT)
  have hxs := hi (by decide) hA.xs
  have hl : (ys ++ [y]).length = ys.length + 1 := by simp
  have hlo := h.ow.lo
  have ho := h.o0; have := h.o1; have := h.o2; have := h.o3; have := h.o4; have := h.o5
  have hq2 := hA.qu.fr hf (hnb hA.qu.tq (by decide)) (hnb hA.qu.tn (by decide)) (fun g hg => hnb (hA.qu.row.bt g hg) (by decide)) (fun g hg => hnb hg (by decide))
  have hfw : Fr (fun b => (Value.slice sa ys.length sc).ownBlock = some b) W Vb := (Fr.of_below bVa).trans hf
  have hfq : Fr (qB q nb pa) w Vb := ⟨hfw.os.trans h.fr.os, hfw.tape.trans h.fr.tape, hfw.output.trans h.fr.output, Nat.le_trans h.fr.size hfw.size, fun b hb hn => (hfw.block b (Nat.lt_of_lt_of_le hb h.fr.size) (fun e => by have := hlo b e; omega)).trans (h.fr.block b hb hn)⟩
  have hda : ∀ u ∈ ys ++ [y], OwnB Vb B u.2.1 u.1.zs.length u.2.2 u.1.zs := fun u hu => by
    rcases List.mem_append.1 hu with hu | hu
    · exact (hA.da u hu).frY hf (fun g hg => hnb hg (by decide))
    · obtain rfl := List.mem_singleton.1 hu
      exact (hy.frY (Q := fun _ => False) (Fr.of_below bVa) (fun _ _ e => e)).frY hf (fun g hg => hnb hg (by decide))
  have hS : SnI w B q nb pa cap cum size nx wy room most bw br bm bs bz ba L z av (some ⟨g, 0, none⟩) c2 (ys ++ [y]) (Vb.setCell ⟨bs, 0, none⟩ (.slice (some ⟨g, 0, none⟩) (ys.length + 1) c2)) := by
    have hbs : ∀ {b : Nat} {v2 : Value}, Cx 3 b v2 Vb → Cx 3 b v2 (Vb.setCell ⟨bs, 0, none⟩ (.slice (some ⟨g, 0, none⟩) (ys.length + 1) c2)) := fun hx => hx.other _ _ (show bs ≠ _ from fun e => hx.bt.ne hxs.bt (by decide) e.symm)
    have hs2 := hxs.set (.slice (some ⟨g, 0, none⟩) (ys.length + 1) c2)
    have hgb : ∀ g2, (Value.slice (some ⟨g, 0, none⟩) (ys.length + 1) c2).ownBlock = some g2 → g2 ≠ bs := fun g2 hg2 e => (OwnG.bt hown g2 hg2).ne (e ▸ hxs.bt) (by decide) rfl
    refine ⟨hq2.var ⟨bs, 0, none⟩ _ hxs.bt (by decide) (by decide) (by decide) (by decide), hfq.put _ _ (.inr (by show w.heap.size ≤ bs; omega)), hbs (hi (by decide) hA.xw), hbs (hi (by decide) hA.xr), hbs (hi (by decide) hA.xm), by rw [hl]; exact hs2, hbs (hi (by decide) hA.xz), hbs (hi (by decide) hA.xa), ?_, fun u hu => (hda u hu).frY (Fr.setCell (fun k => k = bs) Vb ⟨bs, 0, none⟩ _ rfl) (fun g hg e => hg.ne (e ▸ hxs.bt) (by decide) rfl), h.o0, h.o1, h.o2, h.o3, h.o4, h.o5⟩
    rw [hl]
    exact OwnG.fr hown (Fr.setCell (fun k => k = bs) Vb ⟨bs, 0, none⟩ _ rfl) (fun g2 hg2 e => hgb g2 hg2 e)
  exact ⟨g, c2, Vb, hrun, hxs, hS, hfw, hlo⟩
end
end Go.Proofs.Ytconfmjgoipejaa
namespace Go.Proofs.Ytconfmjgoipejaa
open Go.RowKit Go.Shelf
/-- append by its run equation, inside a round. -/
theorem app_eq_listI {F : Fence} {n : Nat} {P : Program} {S : TypeId} {ops : Array Oper} {rest : List Oper} {o : Oper} {A : Act} {w w' : World} {Q : Exit → Act → World → Prop} {v u r : Value} {ty : TypeId} (hg : o.guard = none) (s x : Operand)
    (ho : o.op = .call { callee := .builtin .append, args := #[s, x], argTypes := #[S, S] }) (hty : o.type = ty) (hs : A.eval s = v) (hx : A.eval x = u)
    (hrun : (Builtin.append_ #[S, S] ty #[v, u]).run P w = .ok r w') (hK : wpListIn F n P ops Q rest (A.put o.dst r) w') : wpListIn F n P ops Q (o :: rest) A w := by
  refine wpListIn_plain hg fun K hK' => ?_
  subst hty
  unfold Oper.wpIn
  refine ⟨?_, ?_⟩
  · simp [Oper.about, ho, resolve, Target.leads, Sem.run_pure]
  · rw [Oper.semAt_plain F _ _ (by rw [ho]; intro c hc'; cases hc')]
    simp [execOp, ho, resolve, invoke, builtin, hs, hx, hrun, Result.andThen]
    exact hK' _ _ hK
/-- Send between two pieces. -/
structure SnK (w : World) (B q nb : Nat) (pa : Option Addr) (cap : Nat) (L : List PcA) (cum size : Nat) (nx : List Nat) (wy room most air bw br bm bs bz ba : Nat) (z k : Nat) (W : World) : Prop where
  ex : ∃ sa sc ys, SnI w B q nb pa cap cum size nx wy room most bw br bm bs bz ba (mapTo (sndF wy) L k) z (air + sumG lnP L k) sa sc ys W ∧ ys.map (·.1) = ((L.take k).filter dueB).map (·.1)
  go : ∀ j, j < k → ¬ stopP L room most air j
/-- Send at its stop. -/
structure SnX (w : World) (B q nb : Nat) (pa : Option Addr) (cap : Nat) (L : List PcA) (cum size : Nat) (nx : List Nat) (wy room most air bw br bm bs bz ba : Nat) (c : Code) (W : World) : Prop where
  ec : c = .exit 0
  ex : ∃ K z, K ≤ L.length ∧ stopP L room most air K ∧ SnK w B q nb pa cap L cum size nx wy room most air bw br bm bs bz ba z K W
theorem SnK.grown {w W W' : World} {B q nb : Nat} {pa : Option Addr} {cap : Nat} {L : List PcA} {cum size : Nat} {nx : List Nat} {wy room most air bw br bm bs bz ba : Nat} {z k : Nat} {row : Option Nat} (h : SnK w B q nb pa cap L cum size nx wy room most air bw br bm bs bz ba z k W) (hg : W.grownBy W' row) (hw : ∀ r, row = some r → w.heap.size ≤ r) (hr : ∀ r, row = some r → ∃ o : Obj, W.heap[r]? = some o ∧ o.isCells = false) : SnK w B q nb pa cap L cum size nx wy room most air bw br bm bs bz ba z k W' := by
  obtain ⟨⟨sa, sc, ys, h1, h2⟩, h3⟩ := h
  exact ⟨⟨sa, sc, ys, h1.grown hg hw hr, h2⟩, h3⟩
theorem filt_len (L : List PcA) : ∀ k, ((L.take k).filter dueB).length = sumG ctP L k := by
  intro k
  unfold sumG
  induction L.take k with
  | nil => rfl
  | cons x l ih =>
    rw [List.map_cons, List.sum_cons, ← ih, List.filter_cons]
    unfold ctP
    by_cases h : dueB x = true
    · rw [if_pos h, if_pos h, List.length_cons]; omega
    · rw [if_neg h, if_neg h]; omega
theorem filt_no {L : List PcA} {k : Nat} {x : PcA} (hx : L[k]? = some x) (h : dueB x = false) : (L.take (k + 1)).filter dueB = (L.take k).filter dueB := by
  rw [List.take_add_one, hx]
  simp [h]
theorem filt_yes {L : List PcA} {k : Nat} {x : PcA} (hx : L[k]? = some x) (h : dueB x = true) : (L.take (k + 1)).filter dueB = (L.take k).filter dueB ++ [x] := by
  rw [List.take_add_one, hx]
  simp [h]
theorem SnK.skip {w W : World} {B q nb : Nat} {pa : Option Addr} {cap : Nat} {L : List PcA} {cum size : Nat} {nx : List Nat} {wy room most air bw br bm bs bz ba : Nat} {k : Nat} (h : SnK w B q nb pa cap L cum size nx wy room most air bw br bm bs bz ba (sumG szP L k) k W) {x : PcA} (hx : L[k]? = some x) (hd : dueB x = false) : SnK w B q nb pa cap L cum size nx wy room most air bw br bm bs bz ba (sumG szP L (k + 1)) (k + 1) W := by
  have hn : ¬ dueB x = true := by rw [hd]; decide
  obtain ⟨⟨sa, sc, ys, h1, h2⟩, h3⟩ := h
  refine ⟨⟨sa, sc, ys, ?_, ?_⟩, fun j hj => ?_⟩
  · rw [sumG_succ hx, sumG_succ hx, ← mapTo_id (sndF wy) L hx (by unfold sndF; rw [if_neg hn]), show szP x = 0 from if_neg hn, show lnP x = 0 from if_neg hn]
    exact h1
  · rw [filt_no hx hd]; exact h2
  · rcases Nat.lt_or_ge j k with e | e
    · exact h3 j e
    · obtain rfl : j = k := by omega
      rintro ⟨y, hy, hyd, _⟩
      rw [hx] at hy
      obtain rfl := Option.some.inj hy
      exact hn hyd
/-- What a round of Send has: the chunk's box c holds cc. -/
structure SnT (w : World) (U0 bq q nb : Nat) (pa : Option Addr) (cap cum size : Nat) (nx : List Nat) (wy room most bw br bm bs bz ba : Nat) (W2 : World) (L : List PcA) (z av : Nat) (sa : Option Addr) (sc : Nat) (ys : List PcA) (cc : List Value) (W : World) : Prop where
  sn : SnI w (U0 + 6) q nb pa cap cum size nx wy room most bw br bm bs bz ba L z av sa sc ys W
  tc : BT W W2.heap.size 47
  sc_ : Stc W W2.heap.size cc
  kq : Kq U0 6 (qQ bq q) W2 W
  k2 : U0 + 6 ≤ W2.heap.size
  k4 : ba < bq
  k5 : bq < U0
  k6 : q < w.heap.size
  k8 : ∀ g, (Value.slice sa ys.length sc).ownBlock = some g → g < W2.heap.size
  k9 : ∀ b, pa = some ⟨b, 0, none⟩ → b < w.heap.size ∧ b ≠ q
section
variable {w W W' W2 : World} {U0 bq q nb : Nat} {pa : Option Addr} {cap cum size : Nat} {nx : List Nat} {wy room most bw br bm bs bz ba : Nat} {L : List PcA} {z av : Nat} {sa : Option Addr} {sc : Nat} {ys : List PcA} {cc : List Value}
theorem SnT.new (h : SnI w (U0 + 6) q nb pa cap cum size nx wy room most bw br bm bs bz ba L z av sa sc ys W2) (h2 : U0 + 6 ≤ W2.heap.size) (h4 : ba < bq) (h5 : bq < U0) (h6 : q < w.heap.size) (h9 : ∀ b, pa = some ⟨b, 0, none⟩ → b < w.heap.size ∧ b ≠ q) (W3 : World) (hW3 : W3 = W2.alloc (.cells cc.toArray 47)) : SnT w U0 bq q nb pa cap cum size nx wy room most bw br bm bs bz ba W2 L z av sa sc ys cc W3 := by
  have b3 : Below W2.heap.size W2 W3 := by rw [hW3]; exact (Below.refl _ _).alloc (Nat.le_refl _) _
  have ho0 := h.o0; have := h.o1; have := h.o2; have := h.o3; have := h.o4; have := h.o5
  refine ⟨h.below b3, ⟨cc.toArray, (0, 0), by rw [hW3]; exact World.alloc_heap_new W2 _⟩, Stc.new W2 cc _ W3 hW3, Kq.belowQ b3 (fun b hb => ?_), h2, h4, h5, h6, fun g hg => (h.ow.bt g hg).lt, h9⟩
  rcases hb with hb | rfl | rfl <;> omega
theorem SnT.gt (h : SnT w U0 bq q nb pa cap cum size nx wy room most bw br bm bs bz ba W2 L z av sa sc ys cc W) : W2.heap.size < W.heap.size := h.tc.lt
theorem SnT.inl (h : SnT w U0 bq q nb pa cap cum size nx wy room most bw br bm bs bz ba W2 L z av sa sc ys cc W) : ∀ b, (U0 ≤ b ∧ b < U0 + 6) ∨ qQ bq q b → b < W.heap.size := by
  have ho0 := h.sn.o0; have := h.sn.o1; have := h.sn.o2; have := h.sn.o3; have := h.sn.o4; have := h.sn.o5
  have := h.gt; have := h.k2; have := h.k4; have := h.k5; have := h.k6
  rintro b (hb | rfl | rfl) <;> omega
theorem SnT.below (h : SnT w U0 bq q nb pa cap cum size nx wy room most bw br bm bs bz ba W2 L z av sa sc ys cc W) (hb : Below W.heap.size W W') : SnT w U0 bq q nb pa cap cum size nx wy room most bw br bm bs bz ba W2 L z av sa sc ys cc W' :=
  ⟨h.sn.below hb, h.tc.below hb, h.sc_.below hb, h.kq.trans (Kq.belowQ hb h.inl), h.k2, h.k4, h.k5, h.k6, h.k8, h.k9⟩
theorem SnT.drew (h : SnT w U0 bq q nb pa cap cum size nx wy room most bw br bm bs bz ba W2 L z av sa sc ys cc W) : SnT w U0 bq q nb pa cap cum size nx wy room most bw br bm bs bz ba W2 L z av sa sc ys cc W.drew := h.below (Below.refl _ _).drew
theorem SnT.setZ (h : SnT w U0 bq q nb pa cap cum size nx wy room most bw br bm bs bz ba W2 L z av sa sc ys cc W) (z2 : Nat) : SnT w U0 bq q nb pa cap cum size nx wy room most bw br bm bs bz ba W2 L z2 av sa sc ys cc (W.setCell ⟨bz, 0, none⟩ (.int .i64 (z2 : Nat))) := by
  have ho0 := h.sn.o0; have := h.sn.o1; have := h.sn.o2; have := h.sn.o3; have := h.sn.o4; have := h.sn.o5
  have := h.gt; have := h.k2; have := h.k4; have := h.k5; have := h.k6
  exact ⟨h.sn.setZ z2, h.tc.setCell _ _, h.sc_.otherQ 0 _ (by omega), h.kq.trans (Kq.set W _ _ (by show ¬ (_ ≤ bz ∧ _); omega) (by show ¬ (bz = _ ∨ bz = _); omega)), h.k2, h.k4, h.k5, h.k6, h.k8, h.k9⟩
theorem SnT.setA (h : SnT w U0 bq q nb pa cap cum size nx wy room most bw br bm bs bz ba W2 L z av sa sc ys cc W) (a2 : Nat) : SnT w U0 bq q nb pa cap cum size nx wy room most bw br bm bs bz ba W2 L z a2 sa sc ys cc (W.setCell ⟨ba, 0, none⟩ (.int .i64 (a2 : Nat))) := by
  have ho0 := h.sn.o0; have := h.sn.o1; have := h.sn.o2; have := h.sn.o3; have := h.sn.o4; have := h.sn.o5
  have := h.gt; have := h.k2; have := h.k4; have := h.k5; have := h.k6
  exact ⟨h.sn.setA a2, h.tc.setCell _ _, h.sc_.otherQ 0 _ (by omega), h.kq.trans (Kq.set W _ _ (by show ¬ (_ ≤ ba ∧ _); omega) (by show ¬ (ba = _ ∨ ba = _); omega)), h.k2, h.k4, h.k5, h.k6, h.k8, h.k9⟩
theorem SnT.put (h : SnT w U0 bq q nb pa cap cum size nx wy room most bw br bm bs bz ba W2 L z av sa sc ys cc W) {pb k j : Nat} {x y : PcA} {v : Value} (hpa : pa = some ⟨pb, 0, none⟩) (hx : L[k]? = some x) (hj : j < 17) (hy : pcV y = (pcV x).set j v) (hz : y.2 = x.2 ∧ y.1.zs = x.1.zs) :
    SnT w U0 bq q nb pa cap cum size nx wy room most bw br bm bs bz ba W2 (L.set k y) z av sa sc ys cc (W.setCell ⟨pb, k * 17 + j, none⟩ v) := by
  have ho0 := h.sn.o0; have := h.sn.o1; have := h.sn.o2; have := h.sn.o3; have := h.sn.o4; have := h.sn.o5
  have := h.gt; have := h.k2; have := h.k4; have := h.k5; have := h.k6
  have hp := h.k9 pb hpa
  exact ⟨h.sn.put hpa hx hj hy hz, h.tc.setCell _ _, h.sc_.otherQ _ _ (by omega), h.kq.trans (Kq.set W _ _ (by show ¬ (_ ≤ pb ∧ _); omega) (by show ¬ (pb = _ ∨ pb = _); omega)), h.k2, h.k4, h.k5, h.k6, h.k8, h.k9⟩
theorem SnT.setC (h : SnT w U0 bq q nb pa cap cum size nx wy room most bw br bm bs bz ba W2 L z av sa sc ys cc W) {j : Nat} (hj : j < cc.length) (v : Value) : SnT w U0 bq q nb pa cap cum size nx wy room most bw br bm bs bz ba W2 L z av sa sc ys (cc.set j v) (W.setCell ⟨W2.heap.size, j, none⟩ v) := by
  have ho0 := h.sn.o0; have := h.sn.o1; have := h.sn.o2; have := h.sn.o3; have := h.sn.o4; have := h.sn.o5
  have := h.gt; have := h.k2; have := h.k4; have := h.k5; have := h.k6
  exact ⟨h.sn.box h.tc (by omega) (fun g hg => Nat.ne_of_lt (h.k8 g hg)) j v, h.tc.setCell _ _, h.sc_.putQ hj v, h.kq.trans (Kq.set W _ _ (by show ¬ (U0 ≤ W2.heap.size ∧ W2.heap.size < U0 + 6); omega) (by show ¬ (W2.heap.size = _ ∨ W2.heap.size = _); omega)), h.k2, h.k4, h.k5, h.k6, h.k8, h.k9⟩
/-- The end of a round. -/
theorem SnT.app (h : SnT w U0 bq q nb pa cap cum size nx wy room most bw br bm bs bz ba W2 L z av sa sc ys cc W) (hn : ys.length ≤ 100000) (y : PcA) (hy : OwnB W (U0 + 6) y.2.1 y.1.zs.length y.2.2 y.1.zs) (Va : World) (hVa : Va = W.alloc (.cells (chQ y).toArray 47)) :
    ∃ g c2 Vb, SnQ w W Va (U0 + 6) q nb pa cap cum size nx wy room most bw br bm bs bz ba L z av sa sc ys y g c2 Vb ∧ Kq U0 6 (qQ bq q) W2 (Vb.setCell ⟨bs, 0, none⟩ (.slice (some ⟨g, 0, none⟩) (ys.length + 1) c2)) := by
  have ho0 := h.sn.o0; have := h.sn.o1; have := h.sn.o2; have := h.sn.o3; have := h.sn.o4; have := h.sn.o5
  have hs := h.gt; have := h.k2; have := h.k4; have := h.k5; have := h.k6
  obtain ⟨g, c2, Vb, hp⟩ := h.sn.app (by omega) (by omega) hn y hy Va hVa
  refine ⟨g, c2, Vb, hp, (h.kq.trans (Kq.frQ hp.fr (fun b hb => ⟨h.inl b hb, fun e => ?_⟩))).trans (Kq.set Vb ⟨bs, 0, none⟩ _ (by show ¬ (_ ≤ bs ∧ _); omega) (by show ¬ (bs = _ ∨ bs = _); omega))⟩
  have := hp.lo b e
  rcases hb with hb | rfl | rfl <;> omega
/-- Size of a piece's chunk. -/
theorem size_piece (x : PcA) (hx : x.1.zs.length ≤ 281474976710656) (w : World) : Calls Try.prog 28 #[.agg (chQ x).toArray] w fun e w' => e = .returned (.int .i64 (spN x.1.zs.length : Nat)) ∧ Below w.heap.size w w' :=
  sizeC_data 0 x.1.f x.1.t x.1.st x.1.ss x.1.pp 0 0 0 0 none 0 0 none 0 0 none 0 0 x.2.1 x.1.zs.length x.2.2 w rfl hx
theorem spN_le (n : Nat) : spN n ≤ n + 19 := by
  unfold spN sizN padN
  split <;> omega
end
end Go.Proofs.Ytconfmjgoipejaa
namespace Go.Proofs.Ytconfmjgoipejaa
open Go.RowKit Go.Shelf
attribute [local go_sem] Oper.semAt_some
section
variable {w : World} {q nb : Nat} {pa : Option Addr} {cap : Nat} {L : List PcA} {cum size : Nat} {nx : List Nat}
structure SndR (w : World) (q nb : Nat) (pa : Option Addr) (cap : Nat) (L : List PcA) (cum size : Nat) (nx : List Nat) (wy room most : Nat) (e : Ending) (w' : World) : Prop where
  ex : ∃ K sa sc ys, e = .returned (.tuple #[.slice sa (List.length ys) sc, .int .i64 0]) ∧ K ≤ L.length ∧ QuW w' q nb pa cap (mapTo (sndF wy) L K) cum size nx ∧ OwnG 47 14 chQ w' w.heap.size sa ys.length sc ys ∧ (∀ y ∈ ys, OwnB w' w.heap.size y.2.1 y.1.zs.length y.2.2 y.1.zs) ∧
    ys.map (·.1) = ((L.take K).filter dueB).map (·.1) ∧ (∀ j, j < K → ¬ stopP L room most (airL L 2) j) ∧ (K = L.length ∨ stopP L room most (airL L 2) K)
  fr : Fr (qB q nb pa) w w'
set_option maxRecDepth 100000 in
set_option maxHeartbeats 4000000 in
theorem send_ok (h : QuW w q nb pa cap L cum size nx) (hL : L.length ≤ 100000) (hS : sumL L L.length ≤ 100000) (wy room most : Nat) (hwy : wy < 2) (hroom : room ≤ 1000000000) :
    Calls Try.prog 13 #[.pointer (some ⟨q, 0, none⟩), .int .i64 (wy : Nat), .int .i64 (room : Nat), .int .i64 (most : Nat)] w (SndR w q nb pa cap L cum size nx wy room most) := by
  refine (callsIn_wide (n := 3)).1 ?_
  refine callsIn_of_wp_marks Try.func13 rfl trivial ?_ rfl
  simp only [Try.ntmps13, List.size_toArray, List.length_cons, List.length_nil, Nat.reduceAdd, Nat.reduceSub, Array.replicate_succ, Array.replicate_zero, List.push_toArray, List.append_toArray, List.nil_append, List.cons_append]
  obtain ⟨V1, hV1⟩ : ∃ V1, V1 = w.alloc (.cells #[.int .i64 (wy : Nat)] 3) := ⟨_, rfl⟩
  obtain ⟨V2, hV2⟩ : ∃ V2, V2 = V1.alloc (.cells #[.int .i64 (room : Nat)] 3) := ⟨_, rfl⟩
  obtain ⟨V3, hV3⟩ : ∃ V3, V3 = V2.alloc (.cells #[.int .i64 (most : Nat)] 3) := ⟨_, rfl⟩
  have z1 : V1.heap.size = w.heap.size + 1 := by rw [hV1]; simp
  have z2 : V2.heap.size = w.heap.size + 1 + 1 := by rw [hV2]; simp [z1]
  have z3 : V3.heap.size = w.heap.size + 1 + 1 + 1 := by rw [hV3]; simp [z2]
  have b1 : Below w.heap.size w V1 := by rw [hV1]; exact (Below.refl _ _).alloc (Nat.le_refl _) _
  have b2 : Below V1.heap.size V1 V2 := by rw [hV2]; exact (Below.refl _ _).alloc (Nat.le_refl _) _
  have b3 : Below V2.heap.size V2 V3 := by rw [hV3]; exact (Below.refl _ _).alloc (Nat.le_refl _) _
  have xw := ((Cx.new w (.int .i64 (wy : Nat)) 3 V1 hV1).below b2).below b3
  have xr := (Cx.new V1 (.int .i64 (room : Nat)) 3 V2 hV2).below b3
  have xm := Cx.new V2 (.int .i64 (most : Nat)) 3 V3 hV3
  rw [z1] at xr
  rw [z2] at xm
  have bw3 : Below w.heap.size w V3 := b1.trans ((b2.mono (by omega)).trans (b3.mono (by omega)))
  have hway := isWay_any (wy : Int) V3
  rw [decide_eq_true (show (0 : Int) ≤ (wy : Int) ∧ (wy : Int) < 2 by omega)] at hway
  have HV := (show Hid _ from And.intro hV1 (And.intro hV2 hV3))
  have H3 := (show Hid _ from And.intro h (And.intro bw3 (And.intro xw (And.intro xr (And.intro xm z3)))))
  have cw := xw.cell
  have cr := xr.cell
  have cm := xm.cell
  have gr : decide ((room : Int) < 0) = false := by simp
  have gm : decide ((most : Int) < 0) = false := by simp
  rw [hV3, hV2, hV1] at cw
  clear hV1 hV2 hV3 z1 z2 z3 b1 b2 b3 xw xr xm bw3 h cr cm
  gi_wp2
  rw [← HV.out.1, ← HV.out.2.1, ← HV.out.2.2]
  refine ⟨trivial, (callsIn_wide.2 hway).mono ?_⟩
  clear hway cw
  rintro e w1 ⟨rfl, b1⟩
  obtain ⟨h, bw3, xw, xr, xm, z3⟩ := H3.out
  have bw1 : Below w.heap.size w w1 := bw3.trans (b1.mono (by omega))
  have h1 := h.below bw1
  have xw1 := xw.below b1
  have xr1 := xr.below b1
  have xm1 := xm.below b1
  have c1 := xr1.cell
  have c2 := xm1.cell
  obtain ⟨W4, hW4⟩ : ∃ W4, W4 = w1.alloc (.cells #[.slice none 0 0] 40) := ⟨_, rfl⟩
  have b4 : Below w1.heap.size w1 W4 := by rw [hW4]; exact (Below.refl _ _).alloc (Nat.le_refl _) _
  have z4 : W4.heap.size = w1.heap.size + 1 := by rw [hW4]; simp
  have xs4 := Cx.new w1 (.slice none 0 0) 40 W4 hW4
  have h4 := h1.below b4
  have hia := inAir_any h4 hL hS
  obtain ⟨air, hair⟩ : ∃ air, air = airL L 2 := ⟨_, rfl⟩
  rw [← hair] at hia
  have hair2 : air ≤ 200000 := by
    rw [hair]
    have e0 : sumG (flyP 0) L L.length ≤ 100000 := Nat.le_trans (sumG_le (flyP_le 0) L L.length) (by rw [← sumL_G]; exact hS)
    have e1 : sumG (flyP 1) L L.length ≤ 100000 := Nat.le_trans (sumG_le (flyP_le 1) L L.length) (by rw [← sumL_G]; exact hS)
    simp only [airL]
    simp
    omega
  have H4 := (show Hid _ from And.intro h4 (And.intro (bw1.trans (b4.mono (bw1.size))) (And.intro (xw1.below b4) (And.intro (xr1.below b4) (And.intro (xm1.below b4) (And.intro xs4 (And.intro z4 b1.size)))))))
  have HW4 := (show Hid _ from hW4)
  have HA := (show Hid _ from hair)
  clear h bw3 xw xr xm b1 bw1 h1 xw1 xr1 xm1 b4 z4 xs4 h4 hW4 hair z3
  gi_wp2
  rw [← HW4.out]
  refine ⟨trivial, (callsIn_wide.2 hia).mono ?_⟩
  clear hia
  rintro e w2 ⟨rfl, b2⟩
  gi_wp2
  refine ⟨trivial, (callsIn_wide.2 (due_call _ _)).mono ?_⟩
  rintro e w' ⟨rfl, rfl⟩
  gi_wp2
  obtain ⟨U1, hU1⟩ : ∃ U1, U1 = w2.alloc (.cells #[.int .i64 0] 3) := ⟨_, rfl⟩
  obtain ⟨U2, hU2⟩ : ∃ U2, U2 = U1.alloc (.cells #[.int .i64 (air : Nat)] 3) := ⟨_, rfl⟩
  obtain ⟨U, hU⟩ : ∃ U, U = U2.alloc (.cells #[.pointer (some ⟨q, 0, none⟩)] 23) := ⟨_, rfl⟩
  rw [← hU1, ← hU2, ← hU]
  obtain ⟨h4, bw4, xw4, xr4, xm4, xs4, z4, s1⟩ := H4.out
  have s2 := b2.size
  have y1 : U1.heap.size = w2.heap.size + 1 := by rw [hU1]; simp
  have y2 : U2.heap.size = w2.heap.size + 1 + 1 := by rw [hU2]; simp [y1]
  have y3 : U.heap.size = w2.heap.size + 1 + 1 + 1 := by rw [hU]; simp [y2]
  have d1 : Below w2.heap.size w2 U1 := by rw [hU1]; exact (Below.refl _ _).alloc (Nat.le_refl _) _
  have d2 : Below U1.heap.size U1 U2 := by rw [hU2]; exact (Below.refl _ _).alloc (Nat.le_refl _) _
  have d3 : Below U2.heap.size U2 U := by rw [hU]; exact (Below.refl _ _).alloc (Nat.le_refl _) _
  have d4 : Below W4.heap.size W4 U := b2.trans ((d1.trans ((d2.mono (by omega)).trans (d3.mono (by omega)))).mono s2)
  have xz := ((Cx.new w2 (.int .i64 0) 3 U1 hU1).below d2).below d3
  have xa := (Cx.new U1 (.int .i64 (air : Nat)) 3 U2 hU2).below d3
  rw [y1] at xa
  have cU : U.cell? ⟨w2.heap.size + 1 + 1, 0, none⟩ = some (.pointer (some ⟨q, 0, none⟩)) := by rw [hU, ← y2]; exact box_new U2 _ _
  have hqU := h4.below d4
  have cUq := hqU.c3
  have hsw : w.heap.size + 1 + 1 + 1 ≤ w1.heap.size := by have := H3.out.2.2.2.2.2; omega
  have hq : q < w.heap.size := H3.out.1.tq.lt
  have hIU : SnK w (U.heap.size + 6) q nb pa cap L cum size nx wy room most air w.heap.size (w.heap.size + 1) (w.heap.size + 1 + 1) w1.heap.size w2.heap.size (w2.heap.size + 1) (sumG szP L 0) 0 U :=
    ⟨⟨none, 0, [], ⟨by rw [mapTo_zero]; exact hqU, Fr.of_below (bw4.trans (d4.mono bw4.size)), xw4.below d4, xr4.below d4, xm4.below d4, xs4.below d4, xz, xa, OwnG.nil _ _, fun y hy => (by cases hy), Nat.le_refl _, by omega, by omega, by omega, by omega, by omega⟩, rfl⟩, fun j hj => (by omega)⟩
  obtain ⟨pb, hpa, hpc⟩ := H3.out.1.at_
  have hnq : ∀ k, k < L.length → pa = some ⟨pb, 0, none⟩ ∧ pb < w.heap.size ∧ pb ≠ q := fun k hk => by
    obtain ⟨x, hx⟩ : ∃ x, L[k]? = some x := ⟨_, List.getElem?_eq_getElem hk⟩
    have hbt := (hpc k x hx).1
    exact ⟨hpa.resolve_left (by omega), hbt.lt, (H3.out.1.neq pb hbt).1⟩
  have hlen : ∀ k, sumG lnP L k ≤ 100000 := fun k => Nat.le_trans (sumG_up _ L k) (Nat.le_trans (sumG_le (g := lenP) (fun x => by unfold lnP lenP; split <;> omega) L L.length) (by rw [← sumL_G]; exact hS))
  have hsz : ∀ k, sumG szP L k ≤ 100000 + 19 * 100000 := fun k => by
    refine Nat.le_trans (sumG_up _ L k) ?_
    have h1 : ∀ l : List PcA, (l.map szP).sum ≤ (l.map lenP).sum + 19 * l.length := by
      intro l
      induction l with
      | nil => simp
      | cons x l ih =>
        have : szP x ≤ lenP x + 19 := by
          unfold szP lenP
          split
          · exact spN_le _
          · omega
        simp only [List.map_cons, List.sum_cons, List.length_cons]
        omega
    have h2 := h1 L
    have h3 : (L.map lenP).sum = sumL L L.length := by rw [sumL_G, sumG_all]
    rw [sumG_all]
    omega
  have HF := (show Hid _ from And.intro hlen (And.intro hsz (And.intro hair2 (And.intro s1 (And.intro s2 (And.intro z4 (And.intro y3 (And.intro hsw hq))))))))
  clear d1 d2 d3 d4 xz xa hqU h4 bw4 xw4 xr4 xm4 xs4 hU1 hU2 hU y1 y2 hpc hlen hsz b2
  refine range_selZ (gf := 40) (lb := #[.pointer (some ⟨w2.heap.size + 1 + 1, 0, none⟩)]) rfl (enters_of Try.func40 (by kernel_rfl) rfl)
    (due_itrZ (w2.heap.size + 1 + 1) q pb L.length cap pa hpa (by omega)) (fun _ => rfl)
    (fun W2 h2 => ⟨(h2.cell (p := ⟨w2.heap.size + 1 + 1, 0, none⟩) (by show w2.heap.size + 1 + 1 < _; omega)).trans cU, (h2.cell (p := ⟨q, 3, none⟩) (by show q < _; omega)).trans cUq⟩)
    (fun b hb => by rcases hb with rfl | rfl <;> omega)
    (fun k W2 => SnK w (U.heap.size + 6) q nb pa cap L cum size nx wy room most air w.heap.size (w.heap.size + 1) (w.heap.size + 1 + 1) w1.heap.size w2.heap.size (w2.heap.size + 1) (sumG szP L k) k W2)
    (fun k W2 => SnK w (U.heap.size + 6) q nb pa cap L cum size nx wy room most air w.heap.size (w.heap.size + 1) (w.heap.size + 1 + 1) w1.heap.size w2.heap.size (w2.heap.size + 1) (sumG szP L k) k W2 ∧ ∃ x, L[k]? = some x ∧ dueB x = true)
    (SnX w (U.heap.size + 6) q nb pa cap L cum size nx wy room most air w.heap.size (w.heap.size + 1) (w.heap.size + 1 + 1) w1.heap.size w2.heap.size (w2.heap.size + 1))
    (fun s A B row hs hg hr => hs.grown hg (fun r e => by have := (hr r e).1; omega) (fun r e => (hr r e).2))
    (fun s A B row hs hg hr => ⟨hs.1.grown hg (fun r e => by have := (hr r e).1; omega) (fun r e => (hr r e).2), hs.2⟩)
    (fun c s A B row hs hg hr => by
      obtain ⟨e, ⟨K, z, h1, h2, h3⟩⟩ := hs
      exact ⟨e, ⟨K, z, h1, h2, h3.grown hg (fun r e => by have := (hr r e).1; omega) (fun r e => (hr r e).2)⟩⟩)
    hIU
    (fun k W2 hk hI => by
      obtain ⟨x, hxk⟩ : ∃ x, L[k]? = some x := ⟨_, List.getElem?_eq_getElem hk⟩
      have hmk : (mapTo (sndF wy) L k)[k]? = some x := by rw [mapTo_get _ _ (Nat.le_of_lt hk) (Nat.le_refl _)]; exact hxk
      obtain ⟨sa, sc, ys, hS1, _⟩ := hI.ex
      obtain ⟨pb2, hp2, hc2⟩ := hS1.qu.at_
      have hpe : pb2 = pb := by
        have h1 := hp2.resolve_left (by rw [mapTo_len _ _ _ (Nat.le_of_lt hk)]; omega)
        rw [(hnq k hk).1] at h1
        injection h1 with h1
        injection h1 with h1
        exact h1.symm
      subst hpe
      have e1 := (hc2 k x hmk).2.1 14 _ rfl
      unfold selD
      rw [e1]
      dsimp only
      have hdb : (((x.1.is : Int) == 2 || (x.1.is : Int) == 0) : Bool) = dueB x := by
        unfold dueB
        rw [Bool.eq_iff_iff]
        simp only [Bool.or_eq_true, beq_iff_eq]
        omega
      rw [hdb]
      cases hd : dueB x with
      | true => exact .inl ⟨rfl, hI, x, hxk, hd⟩
      | false => exact .inr ⟨rfl, hI.skip hxk hd⟩)
    (fun k => { tmps := #[.pointer (some ⟨q, 0, none⟩), .int .i64 (wy : Nat), .int .i64 (room : Nat), .int .i64 (most : Nat), undef, .pointer (some ⟨w.heap.size, 0, none⟩), .pointer (some ⟨w.heap.size + 1, 0, none⟩), .pointer (some ⟨w.heap.size + 1 + 1, 0, none⟩), .slice none 0 0, .int .i64 0, .pointer (some ⟨w1.heap.size, 0, none⟩), .pointer (some ⟨w2.heap.size, 0, none⟩), .pointer (some ⟨w2.heap.size + 1, 0, none⟩), .pointer (some ⟨pb, k * 17, none⟩), undef, .pointer (some ⟨q, 0, none⟩), .bool false, .int .i64 (wy : Nat), .bool true, .bool false, .bool false, .int .i64 (room : Nat), .bool false, .bool false, .bool false, .int .i64 (most : Nat), .bool false, .bool false, .pointer (some ⟨q, 0, none⟩), .int .i64 (air : Nat), .pointer (some ⟨q, 0, none⟩), .func (.func 40) #[] #[.pointer (some ⟨w2.heap.size + 1 + 1, 0, none⟩)], .pointer (some ⟨pb, k * 17, none⟩), undef, undef, undef, undef, undef, undef, undef, undef, undef, undef, undef, undef, undef, undef, undef, undef, undef, undef, undef, undef, undef, undef, undef, undef, undef, undef, undef, undef, undef, undef, undef, undef, undef, undef, undef, undef, undef, undef, undef, undef, undef, undef, undef, undef, undef, undef, undef, undef, undef, undef, undef, undef, undef, undef, undef, undef, undef, undef], defers := [] }) ?assign ?body ?done ?stop
  case assign =>
    intro n' l' k W2 K hK
    gi_wp2
    exact hK
  case body =>
    rintro n' l' k W2 hk ⟨⟨⟨sa, sc, ys, hI, hys⟩, hgo⟩, x, hxk, hdue⟩ hz2
    have hy3 := y3
    clear y3 z4
    have hmk : (mapTo (sndF wy) L k)[k]? = some x := by rw [mapTo_get _ _ (Nat.le_of_lt hk) (Nat.le_refl _)]; exact hxk
    have hns := hnq k hk
    obtain ⟨hpa1, hp9⟩ := hns
    subst hpa1
    obtain ⟨pb2, hp2, hc2⟩ := hI.qu.at_
    have hpe : pb2 = pb := by
      have h1 := hp2.resolve_left (by rw [mapTo_len _ _ _ (Nat.le_of_lt hk)]; omega)
      injection h1 with h1
      injection h1 with h1
      exact h1.symm
    subst hpe
    obtain ⟨HL, HZ, hair3, HFR⟩ := HF.out
    have hx0 := HL (k + 1)
    have hx1 := HL k
    have hx2 := HZ (k + 1)
    have hct := filt_len L k
    have hyl : ys.length = sumG ctP L k := by
      rw [← hct]
      have := congrArg List.length hys
      simpa using this
    obtain ⟨⟨t, f, st, ss, pp, zs, is, wz, ms⟩, xa, xc⟩ := x
    obtain ⟨xn, hxn⟩ : ∃ n, n = zs.length := ⟨_, rfl⟩
    have eZ : sumG szP L (k + 1) = sumG szP L k + spN xn := by rw [sumG_succ hxk, show szP (⟨t, f, st, ss, pp, zs, is, wz, ms⟩, xa, xc) = spN zs.length from if_pos hdue, hxn]
    have eL : sumG lnP L (k + 1) = sumG lnP L k + xn := by rw [sumG_succ hxk, show lnP (⟨t, f, st, ss, pp, zs, is, wz, ms⟩, xa, xc) = zs.length from if_pos hdue, hxn]
    have hstop : (most < sumG szP L (k + 1) ∨ ys.length = 16 ∨ (is = 0 ∧ 0 < air + sumG lnP L k ∧ room < air + sumG lnP L k + xn)) → stopP L room most air k := fun h => ⟨_, hxk, hdue, by rw [← hyl]; rw [hxn] at h; exact h⟩
    have hnstop : ¬ (most < sumG szP L (k + 1) ∨ ys.length = 16 ∨ (is = 0 ∧ 0 < air + sumG lnP L k ∧ room < air + sumG lnP L k + xn)) → ∀ j, j < k + 1 → ¬ stopP L room most air j := fun h j hj => by
      rcases Nat.lt_or_ge j k with e | e
      · exact hgo j e
      · obtain rfl : j = k := by omega
        rintro ⟨y, hy, _, h3⟩
        rw [hxk] at hy
        obtain rfl := Option.some.inj hy
        rw [← hyl] at h3
        rw [hxn] at h
        exact h h3
    have his : is = 2 ∨ is = 0 := by
      have := hdue
      unfold dueB at this
      simpa using this
    have hyn16 : ys.length ≤ 100000 := by
      rw [hyl, ← hct]
      exact Nat.le_trans (List.length_filter_le _ _) (by rw [List.length_take]; omega)
    obtain ⟨zk, hzk⟩ : ∃ z, z = sumG szP L k := ⟨_, rfl⟩
    obtain ⟨z1, hz1⟩ : ∃ z, z = sumG szP L (k + 1) := ⟨_, rfl⟩
    obtain ⟨av, hav⟩ : ∃ z, z = air + sumG lnP L k := ⟨_, rfl⟩
    obtain ⟨a1, ha1⟩ : ∃ z, z = air + sumG lnP L (k + 1) := ⟨_, rfl⟩
    obtain ⟨sp, hsp⟩ : ∃ z, z = spN xn := ⟨_, rfl⟩
    obtain ⟨M0, hM0⟩ : ∃ M0, M0 = mapTo (sndF wy) L k := ⟨_, rfl⟩
    rw [← hzk, ← hav, ← hM0] at hI
    rw [← hM0] at hmk hc2
    rw [← hz1, ← hzk, ← hsp] at eZ
    rw [← hz1] at hx2 hstop hnstop
    rw [← hav] at hstop hnstop
    have eA : a1 = av + xn := by rw [ha1, hav, eL]; omega
    have hwz : IntKind.i64.wrap ((zk : Int) + (sp : Int)) = (z1 : Int) := by rw [IntKind.wrap_i64]; omega
    have hab : (av : Int) + (xn : Int) ≤ 1000000 := by omega
    have hpcs := (hc2 k _ hmk).2.1
    have p0 : W2.cell? ⟨pb2, k * 17, none⟩ = some (.int .u8 0) := hpcs 0 _ rfl
    have p1 : W2.cell? ⟨pb2, k * 17 + 1, none⟩ = some (.int .u8 (f : Nat)) := hpcs 1 _ rfl
    have p2 : W2.cell? ⟨pb2, k * 17 + 2, none⟩ = some (.int .u32 (t : Nat)) := hpcs 2 _ rfl
    have p3 : W2.cell? ⟨pb2, k * 17 + 3, none⟩ = some (.int .u16 (st : Nat)) := hpcs 3 _ rfl
    have p4 : W2.cell? ⟨pb2, k * 17 + 4, none⟩ = some (.int .u16 (ss : Nat)) := hpcs 4 _ rfl
    have p5 : W2.cell? ⟨pb2, k * 17 + 5, none⟩ = some (.int .u32 (pp : Nat)) := hpcs 5 _ rfl
    have p6 : W2.cell? ⟨pb2, k * 17 + 6, none⟩ = some (.int .u32 0) := hpcs 6 _ rfl
    have p7 : W2.cell? ⟨pb2, k * 17 + 7, none⟩ = some (.int .u32 0) := hpcs 7 _ rfl
    have p8 : W2.cell? ⟨pb2, k * 17 + 8, none⟩ = some (.int .u16 0) := hpcs 8 _ rfl
    have p9 : W2.cell? ⟨pb2, k * 17 + 9, none⟩ = some (.int .u16 0) := hpcs 9 _ rfl
    have p10 : W2.cell? ⟨pb2, k * 17 + 10, none⟩ = some (.slice none 0 0) := hpcs 10 _ rfl
    have p11 : W2.cell? ⟨pb2, k * 17 + 11, none⟩ = some (.slice none 0 0) := hpcs 11 _ rfl
    have p12 : W2.cell? ⟨pb2, k * 17 + 12, none⟩ = some (.slice none 0 0) := hpcs 12 _ rfl
    have p13 : W2.cell? ⟨pb2, k * 17 + 13, none⟩ = some (.slice xa xn xc) := by rw [hxn]; exact hpcs 13 _ rfl
    obtain ⟨W3, hW3⟩ : ∃ W3, W3 = W2.alloc (.cells #[.int .u8 0, .int .u8 (f : Nat), .int .u32 (t : Nat), .int .u16 (st : Nat), .int .u16 (ss : Nat), .int .u32 (pp : Nat), .int .u32 0, .int .u32 0, .int .u16 0, .int .u16 0, .slice none 0 0, .slice none 0 0, .slice none 0 0, .slice xa xn xc] 47) := ⟨_, rfl⟩
    have hT3 : SnT w U.heap.size (w2.heap.size + 1 + 1) q nb (some ⟨pb2, 0, none⟩) cap cum size nx wy room most w.heap.size (w.heap.size + 1) (w.heap.size + 1 + 1) w1.heap.size w2.heap.size (w2.heap.size + 1) W2 M0 zk av sa sc ys [.int .u8 0, .int .u8 (f : Nat), .int .u32 (t : Nat), .int .u16 (st : Nat), .int .u16 (ss : Nat), .int .u32 (pp : Nat), .int .u32 0, .int .u32 0, .int .u16 0, .int .u16 0, .slice none 0 0, .slice none 0 0, .slice none 0 0, .slice xa xn xc] W3 := SnT.new hI (by omega) (by omega) (by omega) HFR.2.2.2.2.2 (fun b e => by
      injection e with e
      injection e with e
      rw [← e]
      exact hp9) W3 hW3
    have hszp := fun (W : World) => size_piece (⟨t, f, st, ss, pp, zs, is, wz, ms⟩, xa, xc) (by show zs.length ≤ _; omega) W
    have HSZ : Hid (∀ W : World, Calls Try.prog 28 #[.agg #[.int .u8 0, .int .u8 (f : Nat), .int .u32 (t : Nat), .int .u16 (st : Nat), .int .u16 (ss : Nat), .int .u32 (pp : Nat), .int .u32 0, .int .u32 0, .int .u16 0, .int .u16 0, .slice none 0 0, .slice none 0 0, .slice none 0 0, .slice xa xn xc]] W fun e w' => e = .returned (.int .i64 (sp : Nat)) ∧ Below W.heap.size W w') := by
      show ∀ W, _
      intro W
      rw [hsp, hxn]
      exact hszp W
    have HT3 := (show Hid _ from hT3)
    have HW3 := (show Hid _ from hW3)
    have HX := (show Hid _ from And.intro hstop (And.intro hnstop (And.intro hys (And.intro hgo (And.intro hmk (And.intro hxn (And.intro hM0 (And.intro hav (And.intro ha1 (And.intro hxk (And.intro hdue (And.intro hyl (And.intro hz1 hz2)))))))))))))
    have hx3 : xn ≤ 100000 := by omega
    clear hy3 HFR hI hys hgo hxk hdue hmk hc2 hp2 hx0 hx1 hct hyl hxn eL hstop hnstop hzk hz1 hav ha1 hsp hM0 hpcs hszp hT3 hW3 hz2 eZ HL HZ
    gi_wp2
    rw [← HW3.out]
    clear p0 p1 p2 p3 p4 p5 p6 p7 p8 p9 p10 p11 p12 p13
    refine wpIn_region_stage mixedX [2, 4] (fun stgN W => match stgN with | 0 => W = W3.drew | 1 => Below W3.drew.heap.size W3.drew W | _ => SnT w U.heap.size (w2.heap.size + 1 + 1) q nb (some ⟨pb2, 0, none⟩) cap cum size nx wy room most w.heap.size (w.heap.size + 1) (w.heap.size + 1 + 1) w1.heap.size w2.heap.size (w2.heap.size + 1) W2 M0 z1 av sa sc ys [.int .u8 0, .int .u8 (f : Nat), .int .u32 (t : Nat), .int .u16 (st : Nat), .int .u16 (ss : Nat), .int .u32 (pp : Nat), .int .u32 0, .int .u32 0, .int .u16 0, .int .u16 0, .slice none 0 0, .slice none 0 0, .slice none 0 0, .slice xa xn xc] W) (fun W => W.cell? ⟨w2.heap.size, 0, none⟩ = some (.int .i64 (zk : Nat)) ∧ Stc W W2.heap.size [.int .u8 0, .int .u8 (f : Nat), .int .u32 (t : Nat), .int .u16 (st : Nat), .int .u16 (ss : Nat), .int .u32 (pp : Nat), .int .u32 0, .int .u32 0, .int .u16 0, .int .u16 0, .slice none 0 0, .slice none 0 0, .slice none 0 0, .slice xa xn xc]) [(37, .int .i64 (zk : Nat)), (38, .agg #[.int .u8 0, .int .u8 (f : Nat), .int .u32 (t : Nat), .int .u16 (st : Nat), .int .u16 (ss : Nat), .int .u32 (pp : Nat), .int .u32 0, .int .u32 0, .int .u16 0, .int .u16 0, .slice none 0 0, .slice none 0 0, .slice none 0 0, .slice xa xn xc]), (39, .int .i64 (sp : Nat)), (40, .int .i64 (z1 : Nat))] ?Z1 ?hZ1 (by kernel_rfl) (by kernel_rfl) (by kernel_rfl) (by kernel_rfl) (by kernel_rfl) ?h01 ?hS1 (.inl (by kernel_rfl)) ?hops1 ?he1 (by kernel_rfl) (by decide) (by kernel_rfl)
    case hZ1 => simp only [List.foldl_cons, List.foldl_nil, List.setIfInBounds_toArray, List.set_cons_zero, List.set_cons_succ]; rfl
    case h01 => rfl
    case hS1 =>
      intro k W hk hW
      have hk : k < 2 := hk
      obtain rfl | rfl : k = 0 ∨ k = 1 := by omega
      · have hW : W = W3.drew := hW; rw [hW]; exact ⟨HT3.out.sn.xz.cell, HT3.out.drew.sc_⟩
      · have hW : Below W3.drew.heap.size W3.drew W := hW; have hT := HT3.out.drew.below hW; exact ⟨hT.sn.xz.cell, hT.sc_⟩
    case hops1 =>
      refine ⟨?_, ?_, ?_, ?_, ?_, trivial⟩
      · exact stg_val (by rfl) (by rfl) (fun W hW => by obtain ⟨y0, ys_⟩ := hW; have q0 := ys_.cell 0 _ rfl; have q1 := ys_.cell 1 _ rfl; have q2 := ys_.cell 2 _ rfl; have q3 := ys_.cell 3 _ rfl; have q4 := ys_.cell 4 _ rfl; have q5 := ys_.cell 5 _ rfl; have q6 := ys_.cell 6 _ rfl; have q7 := ys_.cell 7 _ rfl; have q8 := ys_.cell 8 _ rfl; have q9 := ys_.cell 9 _ rfl; have q10 := ys_.cell 10 _ rfl; have q11 := ys_.cell 11 _ rfl; have q12 := ys_.cell 12 _ rfl; have q13 := ys_.cell 13 _ rfl; go_simp; (try with_reducible rfl); (try omega))
      · exact stg_val (by rfl) (by rfl) (fun W hW => by obtain ⟨y0, ys_⟩ := hW; have q0 := ys_.cell 0 _ rfl; have q1 := ys_.cell 1 _ rfl; have q2 := ys_.cell 2 _ rfl; have q3 := ys_.cell 3 _ rfl; have q4 := ys_.cell 4 _ rfl; have q5 := ys_.cell 5 _ rfl; have q6 := ys_.cell 6 _ rfl; have q7 := ys_.cell 7 _ rfl; have q8 := ys_.cell 8 _ rfl; have q9 := ys_.cell 9 _ rfl; have q10 := ys_.cell 10 _ rfl; have q11 := ys_.cell 11 _ rfl; have q12 := ys_.cell 12 _ rfl; have q13 := ys_.cell 13 _ rfl; go_simp; (try with_reducible rfl); (try omega))
      · exact stg_call (vs := [.agg #[.int .u8 0, .int .u8 (f : Nat), .int .u32 (t : Nat), .int .u16 (st : Nat), .int .u16 (ss : Nat), .int .u32 (pp : Nat), .int .u32 0, .int .u32 0, .int .u16 0, .int .u16 0, .slice none 0 0, .slice none 0 0, .slice none 0 0, .slice xa xn xc]]) (by rfl) (by rfl) rfl (by rfl) Try.func28 (by rfl) (by rfl) (fun W hW => by have hW : W = W3.drew := hW; subst hW; exact HSZ.out _)
      · exact stg_val (by rfl) (by rfl) (fun W hW => by obtain ⟨y0, ys_⟩ := hW; have q0 := ys_.cell 0 _ rfl; have q1 := ys_.cell 1 _ rfl; have q2 := ys_.cell 2 _ rfl; have q3 := ys_.cell 3 _ rfl; have q4 := ys_.cell 4 _ rfl; have q5 := ys_.cell 5 _ rfl; have q6 := ys_.cell 6 _ rfl; have q7 := ys_.cell 7 _ rfl; have q8 := ys_.cell 8 _ rfl; have q9 := ys_.cell 9 _ rfl; have q10 := ys_.cell 10 _ rfl; have q11 := ys_.cell 11 _ rfl; have q12 := ys_.cell 12 _ rfl; have q13 := ys_.cell 13 _ rfl; go_simp; (try with_reducible rfl); (try omega))
      · exact stg_skip (by rfl) (by rfl) rfl (fun W hW => by have hW : Below W3.drew.heap.size W3.drew W := hW; have hT := HT3.out.drew.below hW; have yz := hT.sn.xz.cell; have yf := hT.sn.xz.free; exact ⟨W.setCell ⟨w2.heap.size, 0, none⟩ (.int .i64 (z1 : Nat)), by go_simp, hT.setZ z1⟩)
    case he1 =>
    intro W4 hW4
    have hT4 : SnT w U.heap.size (w2.heap.size + 1 + 1) q nb (some ⟨pb2, 0, none⟩) cap cum size nx wy room most w.heap.size (w.heap.size + 1) (w.heap.size + 1 + 1) w1.heap.size w2.heap.size (w2.heap.size + 1) W2 M0 z1 av sa sc ys [.int .u8 0, .int .u8 (f : Nat), .int .u32 (t : Nat), .int .u16 (st : Nat), .int .u16 (ss : Nat), .int .u32 (pp : Nat), .int .u32 0, .int .u32 0, .int .u16 0, .int .u16 0, .slice none 0 0, .slice none 0 0, .slice none 0 0, .slice xa xn xc] W4 := hW4
    clear hW4
    have cz := hT4.sn.xz.cell
    have cm := hT4.sn.xm.cell
    have cs := hT4.sn.xs.cell
    have cw := hT4.sn.xw.cell
    have ca := hT4.sn.xa.cell
    have fa := hT4.sn.xa.free
    have cr := hT4.sn.xr.cell
    have x13 : W4.cell? ⟨W2.heap.size, 13, none⟩ = some (.slice xa xn xc) := hT4.sc_.cell 13 _ rfl
    obtain ⟨pb3, hp3, hc3⟩ := hT4.sn.qu.at_
    have hpe : pb3 = pb2 := by
      have hmk := HX.out.2.2.2.2.1
      have h1 := hp3.resolve_left (by have := (List.getElem?_eq_some_iff.1 hmk).1; omega)
      injection h1 with h1
      injection h1 with h1
      exact h1.symm
    subst hpe
    have p14 : W4.cell? ⟨pb3, k * 17 + 14, none⟩ = some (.int .i64 (is : Nat)) := (hc3 k _ HX.out.2.2.2.2.1).2.1 14 _ rfl
    obtain ⟨yn, hyn⟩ : ∃ n, n = ys.length := ⟨_, rfl⟩
    rw [← hyn] at cs hyn16
    have HT4 := (show Hid _ from hT4)
    have HYN := (show Hid _ from hyn)
    clear hc3 hp3 hT4 hyn hp9 hwz HSZ HT3 HW3
    by_cases hA : most < z1
    · have gA : (most : Int) < (z1 : Int) := by omega
      clear p14 cw ca cr x13 fa
      gi_wp2
      exact ⟨HT4.out.kq, ⟨rfl, ⟨k, z1, Nat.le_of_lt hk, HX.out.1 (.inl hA), ⟨⟨sa, sc, ys, by rw [← HX.out.2.2.2.2.2.2.1, ← HX.out.2.2.2.2.2.2.2.1]; exact HT4.out.sn, HX.out.2.2.1⟩, HX.out.2.2.2.1⟩⟩⟩⟩
    have gA : ¬ (most : Int) < (z1 : Int) := by omega
    by_cases hB : yn = 16
    · have gB : ((yn : Int) == 16) = true := by simp [hB]
      have HB := (show Hid _ from hB)
      clear p14 cw ca cr x13 fa hA hB
      gi_wp2
      exact ⟨HT4.out.kq, ⟨rfl, ⟨k, z1, Nat.le_of_lt hk, HX.out.1 (.inr (.inl (by rw [← HYN.out]; exact HB.out))), ⟨⟨sa, sc, ys, by rw [← HX.out.2.2.2.2.2.2.1, ← HX.out.2.2.2.2.2.2.2.1]; exact HT4.out.sn, HX.out.2.2.1⟩, HX.out.2.2.2.1⟩⟩⟩⟩
    have gB : ((yn : Int) == 16) = false := by simp; omega
    -- the end of a round, prepared
    obtain ⟨W5, hW5⟩ : ∃ W5, W5 = W4.setCell ⟨w2.heap.size + 1, 0, none⟩ (.int .i64 ((av : Int) + (xn : Int))) := ⟨_, rfl⟩
    have hT5 : SnT w U.heap.size (w2.heap.size + 1 + 1) q nb (some ⟨pb3, 0, none⟩) cap cum size nx wy room most w.heap.size (w.heap.size + 1) (w.heap.size + 1 + 1) w1.heap.size w2.heap.size (w2.heap.size + 1) W2 M0 z1 a1 sa sc ys [.int .u8 0, .int .u8 (f : Nat), .int .u32 (t : Nat), .int .u16 (st : Nat), .int .u16 (ss : Nat), .int .u32 (pp : Nat), .int .u32 0, .int .u32 0, .int .u16 0, .int .u16 0, .slice none 0 0, .slice none 0 0, .slice none 0 0, .slice xa xn xc] W5 := by rw [hW5, show ((av : Int) + (xn : Int)) = ((a1 : Nat) : Int) by omega]; exact HT4.out.setA a1
    have hT5d := hT5.drew
    obtain ⟨Wa, hWa⟩ : ∃ Wa, Wa = W5.drew.setCell ⟨pb3, k * 17 + 14, none⟩ (.int .i64 1) := ⟨_, rfl⟩
    obtain ⟨Wb, hWb⟩ : ∃ Wb, Wb = Wa.setCell ⟨pb3, k * 17 + 15, none⟩ (.int .i64 (wy : Nat)) := ⟨_, rfl⟩
    obtain ⟨Wc, hWc⟩ : ∃ Wc, Wc = Wb.setCell ⟨pb3, k * 17 + 16, none⟩ (.int .i64 0) := ⟨_, rfl⟩
    have hkl : k < M0.length := (List.getElem?_eq_some_iff.1 HX.out.2.2.2.2.1).1
    have hTa := hT5d.put (pb := pb3) (k := k) (j := 14) (x := (⟨t, f, st, ss, pp, zs, is, wz, ms⟩, xa, xc)) (y := (⟨t, f, st, ss, pp, zs, 1, wz, ms⟩, xa, xc)) (v := .int .i64 1) rfl HX.out.2.2.2.2.1 (by omega) rfl ⟨rfl, rfl⟩
    rw [← hWa] at hTa
    have hTb := hTa.put (pb := pb3) (k := k) (j := 15) (x := (⟨t, f, st, ss, pp, zs, 1, wz, ms⟩, xa, xc)) (y := (⟨t, f, st, ss, pp, zs, 1, wy, ms⟩, xa, xc)) (v := .int .i64 (wy : Nat)) rfl (List.getElem?_set_self hkl) (by omega) rfl ⟨rfl, rfl⟩
    rw [← hWb, List.set_set] at hTb
    have hTc := hTb.put (pb := pb3) (k := k) (j := 16) (x := (⟨t, f, st, ss, pp, zs, 1, wy, ms⟩, xa, xc)) (y := (⟨t, f, st, ss, pp, zs, 1, wy, 0⟩, xa, xc)) (v := .int .i64 0) rfl (List.getElem?_set_self hkl) (by omega) rfl ⟨rfl, rfl⟩
    rw [← hWc, List.set_set] at hTc
    have hM1 : M0.set k (⟨t, f, st, ss, pp, zs, 1, wy, 0⟩, xa, xc) = mapTo (sndF wy) L (k + 1) := by
      rw [← mapTo_set (sndF wy) L HX.out.2.2.2.2.2.2.2.2.2.1, ← HX.out.2.2.2.2.2.2.1, show sndF wy (⟨t, f, st, ss, pp, zs, is, wz, ms⟩, xa, xc) = (⟨t, f, st, ss, pp, zs, 1, wy, 0⟩, xa, xc) from if_pos HX.out.2.2.2.2.2.2.2.2.2.2.1]
    rw [hM1] at hTc
    have k14 : ∃ v, W5.cell? ⟨pb3, k * 17 + 14, none⟩ = some v := by
      obtain ⟨pb4, hp4, hc4⟩ := hT5.sn.qu.at_
      have hpe : pb4 = pb3 := by
        have h1 := hp4.resolve_left (by omega)
        injection h1 with h1
        injection h1 with h1
        exact h1.symm
      subst hpe
      exact ⟨_, (hc4 k _ HX.out.2.2.2.2.1).2.1 14 _ rfl⟩
    have k15 : ∃ v, Wa.cell? ⟨pb3, k * 17 + 15, none⟩ = some v := by
      obtain ⟨pb4, hp4, hc4⟩ := hTa.sn.qu.at_
      have hpe : pb4 = pb3 := by
        have h1 := hp4.resolve_left (by rw [List.length_set]; omega)
        injection h1 with h1
        injection h1 with h1
        exact h1.symm
      subst hpe
      exact ⟨_, (hc4 k _ (List.getElem?_set_self hkl)).2.1 15 _ rfl⟩
    have k16 : ∃ v, Wb.cell? ⟨pb3, k * 17 + 16, none⟩ = some v := by
      obtain ⟨pb4, hp4, hc4⟩ := hTb.sn.qu.at_
      have hpe : pb4 = pb3 := by
        have h1 := hp4.resolve_left (by rw [List.length_set]; omega)
        injection h1 with h1
        injection h1 with h1
        exact h1.symm
      subst hpe
      exact ⟨_, (hc4 k _ (List.getElem?_set_self hkl)).2.1 16 _ rfl⟩
    have kf : ∀ i, W5.frozen? ⟨pb3, i, none⟩ = false := hT5.sn.qu.row.own.frozenAt
    have kfa : ∀ i, Wa.frozen? ⟨pb3, i, none⟩ = false := hTa.sn.qu.row.own.frozenAt
    have kfb : ∀ i, Wb.frozen? ⟨pb3, i, none⟩ = false := hTb.sn.qu.row.own.frozenAt
    obtain ⟨v14, k14⟩ := k14
    obtain ⟨v15, k15⟩ := k15
    obtain ⟨v16, k16⟩ := k16
    have f14 := kf (k * 17 + 14)
    have f15 := kfa (k * 17 + 15)
    have f16 := kfb (k * 17 + 16)
    have w5 := hT5.sn.xw.cell
    have wa := hTa.sn.xw.cell
    have wb := hTb.sn.xw.cell
    have c13 : Wc.cell? ⟨W2.heap.size, 13, none⟩ = some (.slice xa xn xc) := hTc.sc_.cell 13 _ rfl
    have hsl : Sl Wc xa xn xc zs := by
      have h1 := hTc.sn.qu.dat (⟨t, f, st, ss, pp, zs, 1, wy, 0⟩, xa, xc) (by rw [← hM1]; exact List.mem_of_getElem? (List.getElem?_set_self hkl))
      rw [HX.out.2.2.2.2.2.1]
      exact OwnB.sl h1 (by rw [← HX.out.2.2.2.2.2.1]; omega)
    have hcl := clone_any _ _ _ _ Wc hsl (by omega)
    have HCL := (show Hid _ from hcl)
    have HWS := (show Hid _ from And.intro hWa (And.intro hWb hWc))
    have HW5 := (show Hid _ from hW5)
    have HTC := (show Hid _ from hTc)
    clear hT5 hT5d hTa hTb hTc hM1 hkl kf kfa kfb hsl hcl hWa hWb hWc hW5
    rcases his with rfl | rfl
    · have hno : ¬ (most < z1 ∨ ys.length = 16 ∨ ((2 : Nat) = 0 ∧ 0 < av ∧ room < av + xn)) := by have := HYN.out; omega
      have HNO := (show Hid _ from HX.out.2.1 hno)
      clear hno hA hB
      gi_wp2
      rw [← HW5.out]
      clear cz cm cs cw ca fa cr x13 p14 gA gB
      refine wpIn_region_stage mixedX [6, 9, 12] (fun stgN W => match stgN with | 0 => W = W5.drew | 1 => W = Wa | 2 => W = Wb | _ => W = Wc) (fun W => W.cell? ⟨w.heap.size, 0, none⟩ = some (.int .i64 (wy : Nat))) [(72, .pointer (some ⟨pb3, k * 17, none⟩)), (73, .pointer (some ⟨pb3, k * 17, none⟩)), (74, .pointer (some ⟨pb3, k * 17, none⟩)), (75, .int .i64 (wy : Nat)), (76, .pointer (some ⟨pb3, k * 17, none⟩)), (77, .pointer (some ⟨pb3, k * 17 + 14, none⟩)), (78, .pointer (some ⟨pb3, k * 17, none⟩)), (79, .pointer (some ⟨pb3, k * 17 + 15, none⟩)), (80, .pointer (some ⟨pb3, k * 17, none⟩)), (81, .pointer (some ⟨pb3, k * 17 + 16, none⟩))] ?Z2 ?hZ2 (by kernel_rfl) (by kernel_rfl) (by kernel_rfl) (by kernel_rfl) (by kernel_rfl) ?h02 ?hS2 (.inl (by kernel_rfl)) ?hops2 ?he2 (by kernel_rfl) (by decide) (by kernel_rfl)
      case hZ2 => simp only [List.foldl_cons, List.foldl_nil, List.setIfInBounds_toArray, List.set_cons_zero, List.set_cons_succ]; rfl
      case h02 => rfl
      case hS2 =>
        intro k W hk hW
        have hk : k < 3 := hk
        obtain rfl | rfl | rfl : k = 0 ∨ k = 1 ∨ k = 2 := by omega
        · have hW : W = W5.drew := hW; rw [hW]; exact w5
        · have hW : W = Wa := hW; rw [hW]; exact wa
        · have hW : W = Wb := hW; rw [hW]; exact wb
      case hops2 =>
        refine ⟨?_, ?_, ?_, ?_, ?_, ?_, ?_, ?_, ?_, ?_, ?_, ?_, ?_, trivial⟩
        · exact stg_val (by rfl) (by rfl) (fun W hW => by have y0 : W.cell? ⟨w.heap.size, 0, none⟩ = some (.int .i64 (wy : Nat)) := hW; go_simp; (try with_reducible rfl); (try omega))
        · exact stg_val (by rfl) (by rfl) (fun W hW => by have y0 : W.cell? ⟨w.heap.size, 0, none⟩ = some (.int .i64 (wy : Nat)) := hW; go_simp; (try with_reducible rfl); (try omega))
        · exact stg_val (by rfl) (by rfl) (fun W hW => by have y0 : W.cell? ⟨w.heap.size, 0, none⟩ = some (.int .i64 (wy : Nat)) := hW; go_simp; (try with_reducible rfl); (try omega))
        · exact stg_val (by rfl) (by rfl) (fun W hW => by have y0 : W.cell? ⟨w.heap.size, 0, none⟩ = some (.int .i64 (wy : Nat)) := hW; go_simp; (try with_reducible rfl); (try omega))
        · exact stg_val (by rfl) (by rfl) (fun W hW => by have y0 : W.cell? ⟨w.heap.size, 0, none⟩ = some (.int .i64 (wy : Nat)) := hW; go_simp; (try with_reducible rfl); (try omega))
        · exact stg_val (by rfl) (by rfl) (fun W hW => by have y0 : W.cell? ⟨w.heap.size, 0, none⟩ = some (.int .i64 (wy : Nat)) := hW; go_simp; (try with_reducible rfl); (try omega))
        · exact stg_skip (by rfl) (by rfl) rfl (fun W hW => by have hW : W = W5.drew := hW; subst hW; refine ⟨Wa, ?_, rfl⟩; rw [HWS.out.1]; go_simp; try rfl)
        · exact stg_val (by rfl) (by rfl) (fun W hW => by have y0 : W.cell? ⟨w.heap.size, 0, none⟩ = some (.int .i64 (wy : Nat)) := hW; go_simp; (try with_reducible rfl); (try omega))
        · exact stg_val (by rfl) (by rfl) (fun W hW => by have y0 : W.cell? ⟨w.heap.size, 0, none⟩ = some (.int .i64 (wy : Nat)) := hW; go_simp; (try with_reducible rfl); (try omega))
        · exact stg_skip (by rfl) (by rfl) rfl (fun W hW => by have hW : W = Wa := hW; subst hW; refine ⟨Wb, ?_, rfl⟩; rw [HWS.out.2.1]; go_simp; try rfl)
        · exact stg_val (by rfl) (by rfl) (fun W hW => by have y0 : W.cell? ⟨w.heap.size, 0, none⟩ = some (.int .i64 (wy : Nat)) := hW; go_simp; (try with_reducible rfl); (try omega))
        · exact stg_val (by rfl) (by rfl) (fun W hW => by have y0 : W.cell? ⟨w.heap.size, 0, none⟩ = some (.int .i64 (wy : Nat)) := hW; go_simp; (try with_reducible rfl); (try omega))
        · exact stg_skip (by rfl) (by rfl) rfl (fun W hW => by have hW : W = Wb := hW; subst hW; refine ⟨Wc, ?_, rfl⟩; rw [HWS.out.2.2]; go_simp; try rfl)
      case he2 =>
      intro W6 hW6
      have hW8 : W6 = Wc := hW6
      rw [hW8]
      clear hW6 hW8 W6 k14 k15 k16 f14 f15 f16 w5 wa wb
      have hcl := HCL.out
      gi_wp2
      refine ⟨trivial, fun h => (by cases h), CallsIn.inRound l' ((callsIn_wide.2 hcl).mono ?_)⟩
      rintro e W6 ⟨a5, c5, rfl, ho5, -, b5⟩
      clear hcl c13
      have hT6 := HTC.out.below b5
      obtain ⟨W7, hW7⟩ : ∃ W7, W7 = W6.setCell ⟨W2.heap.size, 13, none⟩ (.slice a5 xn c5) := ⟨_, rfl⟩
      have hT7 := hT6.setC (j := 13) (by show 13 < 14; omega) (.slice a5 xn c5)
      rw [← hW7] at hT7
      have hgtc := HTC.out.gt
      have hz2 := HX.out.2.2.2.2.2.2.2.2.2.2.2.2.2
      have ho7 : OwnB W7 (U.heap.size + 6) a5 xn c5 zs := by
        rw [hW7]
        exact (ho5.base (by omega)).frY (Fr.setCell (fun k => k = W2.heap.size) W6 ⟨W2.heap.size, 13, none⟩ _ rfl) (fun g hg e => hg.ne (e ▸ hT6.tc) (by decide) rfl)
      obtain ⟨y, hy⟩ : ∃ y : PcA, y = (⟨t, f, st, ss, pp, zs, 2, wz, ms⟩, a5, c5) := ⟨_, rfl⟩
      have hyq : chQ y = [.int .u8 0, .int .u8 (f : Nat), .int .u32 (t : Nat), .int .u16 (st : Nat), .int .u16 (ss : Nat), .int .u32 (pp : Nat), .int .u32 0, .int .u32 0, .int .u16 0, .int .u16 0, .slice none 0 0, .slice none 0 0, .slice none 0 0, .slice a5 xn c5] := by rw [hy, HX.out.2.2.2.2.2.1]; rfl
      obtain ⟨Va, hVa⟩ : ∃ Va, Va = W7.alloc (.cells (chQ y).toArray 47) := ⟨_, rfl⟩
      obtain ⟨g, c7, Vb, hp, hkq⟩ := hT7.app (by have := HYN.out; have := HX.out.2.2.2.2.2.2.2.2.2.2.2.1; omega) y (by rw [hy]; show OwnB W7 _ a5 zs.length c5 zs; rw [← HX.out.2.2.2.2.2.1]; exact ho7) Va hVa
      have happ := hp.run 40
      have z7 : W7.heap.size = W6.heap.size := by rw [hW7]; simp [World.setCell]
      rw [z7, hVa, hW7, hyq, ← HYN.out] at happ
      have hSn := hp.sn
      rw [← HYN.out] at hSn hkq
      have hfin : SnK w (U.heap.size + 6) q nb (some ⟨pb3, 0, none⟩) cap L cum size nx wy room most air w.heap.size (w.heap.size + 1) (w.heap.size + 1 + 1) w1.heap.size w2.heap.size (w2.heap.size + 1) (sumG szP L (k + 1)) (k + 1) (Vb.setCell ⟨w1.heap.size, 0, none⟩ (.slice (some ⟨g, 0, none⟩) (yn + 1) c7)) := by
        refine ⟨⟨_, _, _, by rw [← HX.out.2.2.2.2.2.2.2.2.1, ← HX.out.2.2.2.2.2.2.2.2.2.2.2.2.1]; exact hSn, ?_⟩, HNO.out⟩
        rw [filt_yes HX.out.2.2.2.2.2.2.2.2.2.1 HX.out.2.2.2.2.2.2.2.2.2.2.1, List.map_append, List.map_append, HX.out.2.2.1, hy]
        rfl
      have u0 : W6.cell? ⟨W2.heap.size, 0, none⟩ = some (.int .u8 0) := hT6.sc_.cell 0 _ rfl
      have u1 : W6.cell? ⟨W2.heap.size, 1, none⟩ = some (.int .u8 (f : Nat)) := hT6.sc_.cell 1 _ rfl
      have u2 : W6.cell? ⟨W2.heap.size, 2, none⟩ = some (.int .u32 (t : Nat)) := hT6.sc_.cell 2 _ rfl
      have u3 : W6.cell? ⟨W2.heap.size, 3, none⟩ = some (.int .u16 (st : Nat)) := hT6.sc_.cell 3 _ rfl
      have u4 : W6.cell? ⟨W2.heap.size, 4, none⟩ = some (.int .u16 (ss : Nat)) := hT6.sc_.cell 4 _ rfl
      have u5 : W6.cell? ⟨W2.heap.size, 5, none⟩ = some (.int .u32 (pp : Nat)) := hT6.sc_.cell 5 _ rfl
      have u6 : W6.cell? ⟨W2.heap.size, 6, none⟩ = some (.int .u32 0) := hT6.sc_.cell 6 _ rfl
      have u7 : W6.cell? ⟨W2.heap.size, 7, none⟩ = some (.int .u32 0) := hT6.sc_.cell 7 _ rfl
      have u8 : W6.cell? ⟨W2.heap.size, 8, none⟩ = some (.int .u16 0) := hT6.sc_.cell 8 _ rfl
      have u9 : W6.cell? ⟨W2.heap.size, 9, none⟩ = some (.int .u16 0) := hT6.sc_.cell 9 _ rfl
      have u10 : W6.cell? ⟨W2.heap.size, 10, none⟩ = some (.slice none 0 0) := hT6.sc_.cell 10 _ rfl
      have u11 : W6.cell? ⟨W2.heap.size, 11, none⟩ = some (.slice none 0 0) := hT6.sc_.cell 11 _ rfl
      have u12 : W6.cell? ⟨W2.heap.size, 12, none⟩ = some (.slice none 0 0) := hT6.sc_.cell 12 _ rfl
      have u13 : W6.cell? ⟨W2.heap.size, 13, none⟩ = some (.slice xa xn xc) := hT6.sc_.cell 13 _ rfl
      have uf := hT6.sc_.free 13
      have us := hT6.sn.xs.cell
      rw [← HYN.out] at us
      have un : ¬ w1.heap.size = W2.heap.size := by have := hT6.k2; have := hT6.sn.o3; have := hT6.sn.o4; have := hT6.sn.o5; have := hT6.k4; have := hT6.k5; omega
      have un2 : ¬ W2.heap.size = w1.heap.size := fun e => un e.symm
      have vs := hp.xs.cell
      have vf := hp.xs.free
      rw [← HYN.out] at vs
      have HFI := (show Hid _ from And.intro hkq hfin)
      clear hT6 hT7 ho7 ho5 b5 hp hkq hfin hSn hVa hyq hy hgtc hz2 z7 hW7
      gi_wp2_with (gi_at_builtin; refine app_eq_listI rfl _ _ rfl rfl rfl rfl happ ?_)
      exact ⟨HFI.out.1, HFI.out.2⟩
    · by_cases hv : av = 0
      · have gv : ¬ (0 : Int) < (av : Int) := by omega
        have hno : ¬ (most < z1 ∨ ys.length = 16 ∨ ((0 : Nat) = 0 ∧ 0 < av ∧ room < av + xn)) := by have := HYN.out; omega
        have HNO := (show Hid _ from HX.out.2.1 hno)
        clear hno hA hB hv
        gi_wp2
        rw [← HW5.out]
        clear cz cm cs cw ca fa cr x13 p14 gA gB
        refine wpIn_region_stage mixedX [6, 9, 12] (fun stgN W => match stgN with | 0 => W = W5.drew | 1 => W = Wa | 2 => W = Wb | _ => W = Wc) (fun W => W.cell? ⟨w.heap.size, 0, none⟩ = some (.int .i64 (wy : Nat))) [(72, .pointer (some ⟨pb3, k * 17, none⟩)), (73, .pointer (some ⟨pb3, k * 17, none⟩)), (74, .pointer (some ⟨pb3, k * 17, none⟩)), (75, .int .i64 (wy : Nat)), (76, .pointer (some ⟨pb3, k * 17, none⟩)), (77, .pointer (some ⟨pb3, k * 17 + 14, none⟩)), (78, .pointer (some ⟨pb3, k * 17, none⟩)), (79, .pointer (some ⟨pb3, k * 17 + 15, none⟩)), (80, .pointer (some ⟨pb3, k * 17, none⟩)), (81, .pointer (some ⟨pb3, k * 17 + 16, none⟩))] ?Z3 ?hZ3 (by kernel_rfl) (by kernel_rfl) (by kernel_rfl) (by kernel_rfl) (by kernel_rfl) ?h03 ?hS3 (.inl (by kernel_rfl)) ?hops3 ?he3 (by kernel_rfl) (by decide) (by kernel_rfl)
        case hZ3 => simp only [List.foldl_cons, List.foldl_nil, List.setIfInBounds_toArray, List.set_cons_zero, List.set_cons_succ]; rfl
        case h03 => rfl
        case hS3 =>
          intro k W hk hW
          have hk : k < 3 := hk
          obtain rfl | rfl | rfl : k = 0 ∨ k = 1 ∨ k = 2 := by omega
          · have hW : W = W5.drew := hW; rw [hW]; exact w5
          · have hW : W = Wa := hW; rw [hW]; exact wa
          · have hW : W = Wb := hW; rw [hW]; exact wb
        case hops3 =>
          refine ⟨?_, ?_, ?_, ?_, ?_, ?_, ?_, ?_, ?_, ?_, ?_, ?_, ?_, trivial⟩
          · exact stg_val (by rfl) (by rfl) (fun W hW => by have y0 : W.cell? ⟨w.heap.size, 0, none⟩ = some (.int .i64 (wy : Nat)) := hW; go_simp; (try with_reducible rfl); (try omega))
          · exact stg_val (by rfl) (by rfl) (fun W hW => by have y0 : W.cell? ⟨w.heap.size, 0, none⟩ = some (.int .i64 (wy : Nat)) := hW; go_simp; (try with_reducible rfl); (try omega))
          · exact stg_val (by rfl) (by rfl) (fun W hW => by have y0 : W.cell? ⟨w.heap.size, 0, none⟩ = some (.int .i64 (wy : Nat)) := hW; go_simp; (try with_reducible rfl); (try omega))
          · exact stg_val (by rfl) (by rfl) (fun W hW => by have y0 : W.cell? ⟨w.heap.size, 0, none⟩ = some (.int .i64 (wy : Nat)) := hW; go_simp; (try with_reducible rfl); (try omega))
          · exact stg_val (by rfl) (by rfl) (fun W hW => by have y0 : W.cell? ⟨w.heap.size, 0, none⟩ = some (.int .i64 (wy : Nat)) := hW; go_simp; (try with_reducible rfl); (try omega))
          · exact stg_val (by rfl) (by rfl) (fun W hW => by have y0 : W.cell? ⟨w.heap.size, 0, none⟩ = some (.int .i64 (wy : Nat)) := hW; go_simp; (try with_reducible rfl); (try omega))
          · exact stg_skip (by rfl) (by rfl) rfl (fun W hW => by have hW : W = W5.drew := hW; subst hW; refine ⟨Wa, ?_, rfl⟩; rw [HWS.out.1]; go_simp; try rfl)
          · exact stg_val (by rfl) (by rfl) (fun W hW => by have y0 : W.cell? ⟨w.heap.size, 0, none⟩ = some (.int .i64 (wy : Nat)) := hW; go_simp; (try with_reducible rfl); (try omega))
          · exact stg_val (by rfl) (by rfl) (fun W hW => by have y0 : W.cell? ⟨w.heap.size, 0, none⟩ = some (.int .i64 (wy : Nat)) := hW; go_simp; (try with_reducible rfl); (try omega))
          · exact stg_skip (by rfl) (by rfl) rfl (fun W hW => by have hW : W = Wa := hW; subst hW; refine ⟨Wb, ?_, rfl⟩; rw [HWS.out.2.1]; go_simp; try rfl)
          · exact stg_val (by rfl) (by rfl) (fun W hW => by have y0 : W.cell? ⟨w.heap.size, 0, none⟩ = some (.int .i64 (wy : Nat)) := hW; go_simp; (try with_reducible rfl); (try omega))
          · exact stg_val (by rfl) (by rfl) (fun W hW => by have y0 : W.cell? ⟨w.heap.size, 0, none⟩ = some (.int .i64 (wy : Nat)) := hW; go_simp; (try with_reducible rfl); (try omega))
          · exact stg_skip (by rfl) (by rfl) rfl (fun W hW => by have hW : W = Wb := hW; subst hW; refine ⟨Wc, ?_, rfl⟩; rw [HWS.out.2.2]; go_simp; try rfl)
        case he3 =>
        intro W6 hW6
        have hW8 : W6 = Wc := hW6
        rw [hW8]
        clear hW6 hW8 W6 k14 k15 k16 f14 f15 f16 w5 wa wb
        have hcl := HCL.out
        gi_wp2
        refine ⟨trivial, fun h => (by cases h), CallsIn.inRound l' ((callsIn_wide.2 hcl).mono ?_)⟩
        rintro e W6 ⟨a5, c5, rfl, ho5, -, b5⟩
        clear hcl c13
        have hT6 := HTC.out.below b5
        obtain ⟨W7, hW7⟩ : ∃ W7, W7 = W6.setCell ⟨W2.heap.size, 13, none⟩ (.slice a5 xn c5) := ⟨_, rfl⟩
        have hT7 := hT6.setC (j := 13) (by show 13 < 14; omega) (.slice a5 xn c5)
        rw [← hW7] at hT7
        have hgtc := HTC.out.gt
        have hz2 := HX.out.2.2.2.2.2.2.2.2.2.2.2.2.2
        have ho7 : OwnB W7 (U.heap.size + 6) a5 xn c5 zs := by
          rw [hW7]
          exact (ho5.base (by omega)).frY (Fr.setCell (fun k => k = W2.heap.size) W6 ⟨W2.heap.size, 13, none⟩ _ rfl) (fun g hg e => hg.ne (e ▸ hT6.tc) (by decide) rfl)
        obtain ⟨y, hy⟩ : ∃ y : PcA, y = (⟨t, f, st, ss, pp, zs, 0, wz, ms⟩, a5, c5) := ⟨_, rfl⟩
        have hyq : chQ y = [.int .u8 0, .int .u8 (f : Nat), .int .u32 (t : Nat), .int .u16 (st : Nat), .int .u16 (ss : Nat), .int .u32 (pp : Nat), .int .u32 0, .int .u32 0, .int .u16 0, .int .u16 0, .slice none 0 0, .slice none 0 0, .slice none 0 0, .slice a5 xn c5] := by rw [hy, HX.out.2.2.2.2.2.1]; rfl
        obtain ⟨Va, hVa⟩ : ∃ Va, Va = W7.alloc (.cells (chQ y).toArray 47) := ⟨_, rfl⟩
        obtain ⟨g, c7, Vb, hp, hkq⟩ := hT7.app (by have := HYN.out; have := HX.out.2.2.2.2.2.2.2.2.2.2.2.1; omega) y (by rw [hy]; show OwnB W7 _ a5 zs.length c5 zs; rw [← HX.out.2.2.2.2.2.1]; exact ho7) Va hVa
        have happ := hp.run 40
        have z7 : W7.heap.size = W6.heap.size := by rw [hW7]; simp [World.setCell]
        rw [z7, hVa, hW7, hyq, ← HYN.out] at happ
        have hSn := hp.sn
        rw [← HYN.out] at hSn hkq
        have hfin : SnK w (U.heap.size + 6) q nb (some ⟨pb3, 0, none⟩) cap L cum size nx wy room most air w.heap.size (w.heap.size + 1) (w.heap.size + 1 + 1) w1.heap.size w2.heap.size (w2.heap.size + 1) (sumG szP L (k + 1)) (k + 1) (Vb.setCell ⟨w1.heap.size, 0, none⟩ (.slice (some ⟨g, 0, none⟩) (yn + 1) c7)) := by
          refine ⟨⟨_, _, _, by rw [← HX.out.2.2.2.2.2.2.2.2.1, ← HX.out.2.2.2.2.2.2.2.2.2.2.2.2.1]; exact hSn, ?_⟩, HNO.out⟩
          rw [filt_yes HX.out.2.2.2.2.2.2.2.2.2.1 HX.out.2.2.2.2.2.2.2.2.2.2.1, List.map_append, List.map_append, HX.out.2.2.1, hy]
          rfl
        have u0 : W6.cell? ⟨W2.heap.size, 0, none⟩ = some (.int .u8 0) := hT6.sc_.cell 0 _ rfl
        have u1 : W6.cell? ⟨W2.heap.size, 1, none⟩ = some (.int .u8 (f : Nat)) := hT6.sc_.cell 1 _ rfl
        have u2 : W6.cell? ⟨W2.heap.size, 2, none⟩ = some (.int .u32 (t : Nat)) := hT6.sc_.cell 2 _ rfl
        have u3 : W6.cell? ⟨W2.heap.size, 3, none⟩ = some (.int .u16 (st : Nat)) := hT6.sc_.cell 3 _ rfl
        have u4 : W6.cell? ⟨W2.heap.size, 4, none⟩ = some (.int .u16 (ss : Nat)) := hT6.sc_.cell 4 _ rfl
        have u5 : W6.cell? ⟨W2.heap.size, 5, none⟩ = some (.int .u32 (pp : Nat)) := hT6.sc_.cell 5 _ rfl
        have u6 : W6.cell? ⟨W2.heap.size, 6, none⟩ = some (.int .u32 0) := hT6.sc_.cell 6 _ rfl
        have u7 : W6.cell? ⟨W2.heap.size, 7, none⟩ = some (.int .u32 0) := hT6.sc_.cell 7 _ rfl
        have u8 : W6.cell? ⟨W2.heap.size, 8, none⟩ = some (.int .u16 0) := hT6.sc_.cell 8 _ rfl
        have u9 : W6.cell? ⟨W2.heap.size, 9, none⟩ = some (.int .u16 0) := hT6.sc_.cell 9 _ rfl
        have u10 : W6.cell? ⟨W2.heap.size, 10, none⟩ = some (.slice none 0 0) := hT6.sc_.cell 10 _ rfl
        have u11 : W6.cell? ⟨W2.heap.size, 11, none⟩ = some (.slice none 0 0) := hT6.sc_.cell 11 _ rfl
        have u12 : W6.cell? ⟨W2.heap.size, 12, none⟩ = some (.slice none 0 0) := hT6.sc_.cell 12 _ rfl
        have u13 : W6.cell? ⟨W2.heap.size, 13, none⟩ = some (.slice xa xn xc) := hT6.sc_.cell 13 _ rfl
        have uf := hT6.sc_.free 13
        have us := hT6.sn.xs.cell
        rw [← HYN.out] at us
        have un : ¬ w1.heap.size = W2.heap.size := by have := hT6.k2; have := hT6.sn.o3; have := hT6.sn.o4; have := hT6.sn.o5; have := hT6.k4; have := hT6.k5; omega
        have un2 : ¬ W2.heap.size = w1.heap.size := fun e => un e.symm
        have vs := hp.xs.cell
        have vf := hp.xs.free
        rw [← HYN.out] at vs
        have HFI := (show Hid _ from And.intro hkq hfin)
        clear hT6 hT7 ho7 ho5 b5 hp hkq hfin hSn hVa hyq hy hgtc hz2 z7 hW7
        gi_wp2_with (gi_at_builtin; refine app_eq_listI rfl _ _ rfl rfl rfl rfl happ ?_)
        exact ⟨HFI.out.1, HFI.out.2⟩
      · have gv : (0 : Int) < (av : Int) := by omega
        by_cases hr : room < a1
        · have gr : (room : Int) < (av : Int) + (xn : Int) := by omega
          have hyes : stopP L room most air k := HX.out.1 (.inr (.inr ⟨rfl, by omega, by omega⟩))
          have HYES := (show Hid _ from hyes)
          clear hyes hA hB hv hr k14 k15 k16 f14 f15 f16 w5 wa wb c13 eA
          gi_wp2
          exact ⟨HT4.out.kq, ⟨rfl, ⟨k, z1, Nat.le_of_lt hk, HYES.out, ⟨⟨sa, sc, ys, by rw [← HX.out.2.2.2.2.2.2.1, ← HX.out.2.2.2.2.2.2.2.1]; exact HT4.out.sn, HX.out.2.2.1⟩, HX.out.2.2.2.1⟩⟩⟩⟩
        · have gr : ¬ (room : Int) < (av : Int) + (xn : Int) := by omega
          have hno : ¬ (most < z1 ∨ ys.length = 16 ∨ ((0 : Nat) = 0 ∧ 0 < av ∧ room < av + xn)) := by have := HYN.out; omega
          have HNO := (show Hid _ from HX.out.2.1 hno)
          clear hno hA hB hv hr
          gi_wp2
          rw [← HW5.out]
          clear cz cm cs cw ca fa cr x13 p14 gA gB
          refine wpIn_region_stage mixedX [6, 9, 12] (fun stgN W => match stgN with | 0 => W = W5.drew | 1 => W = Wa | 2 => W = Wb | _ => W = Wc) (fun W => W.cell? ⟨w.heap.size, 0, none⟩ = some (.int .i64 (wy : Nat))) [(72, .pointer (some ⟨pb3, k * 17, none⟩)), (73, .pointer (some ⟨pb3, k * 17, none⟩)), (74, .pointer (some ⟨pb3, k * 17, none⟩)), (75, .int .i64 (wy : Nat)), (76, .pointer (some ⟨pb3, k * 17, none⟩)), (77, .pointer (some ⟨pb3, k * 17 + 14, none⟩)), (78, .pointer (some ⟨pb3, k * 17, none⟩)), (79, .pointer (some ⟨pb3, k * 17 + 15, none⟩)), (80, .pointer (some ⟨pb3, k * 17, none⟩)), (81, .pointer (some ⟨pb3, k * 17 + 16, none⟩))] ?Z4 ?hZ4 (by kernel_rfl) (by kernel_rfl) (by kernel_rfl) (by kernel_rfl) (by kernel_rfl) ?h04 ?hS4 (.inl (by kernel_rfl)) ?hops4 ?he4 (by kernel_rfl) (by decide) (by kernel_rfl)
          case hZ4 => simp only [List.foldl_cons, List.foldl_nil, List.setIfInBounds_toArray, List.set_cons_zero, List.set_cons_succ]; rfl
          case h04 => rfl
          case hS4 =>
            intro k W hk hW
            have hk : k < 3 := hk
            obtain rfl | rfl | rfl : k = 0 ∨ k = 1 ∨ k = 2 := by omega
            · have hW : W = W5.drew := hW; rw [hW]; exact w5
            · have hW : W = Wa := hW; rw [hW]; exact wa
            · have hW : W = Wb := hW; rw [hW]; exact wb
          case hops4 =>
            refine ⟨?_, ?_, ?_, ?_, ?_, ?_, ?_, ?_, ?_, ?_, ?_, ?_, ?_, trivial⟩
            · exact stg_val (by rfl) (by rfl) (fun W hW => by have y0 : W.cell? ⟨w.heap.size, 0, none⟩ = some (.int .i64 (wy : Nat)) := hW; go_simp; (try with_reducible rfl); (try omega))
            · exact stg_val (by rfl) (by rfl) (fun W hW => by have y0 : W.cell? ⟨w.heap.size, 0, none⟩ = some (.int .i64 (wy : Nat)) := hW; go_simp; (try with_reducible rfl); (try omega))
            · exact stg_val (by rfl) (by rfl) (fun W hW => by have y0 : W.cell? ⟨w.heap.size, 0, none⟩ = some (.int .i64 (wy : Nat)) := hW; go_simp; (try with_reducible rfl); (try omega))
            · exact stg_val (by rfl) (by rfl) (fun W hW => by have y0 : W.cell? ⟨w.heap.size, 0, none⟩ = some (.int .i64 (wy : Nat)) := hW; go_simp; (try with_reducible rfl); (try omega))
            · exact stg_val (by rfl) (by rfl) (fun W hW => by have y0 : W.cell? ⟨w.heap.size, 0, none⟩ = some (.int .i64 (wy : Nat)) := hW; go_simp; (try with_reducible rfl); (try omega))
            · exact stg_val (by rfl) (by rfl) (fun W hW => by have y0 : W.cell? ⟨w.heap.size, 0, none⟩ = some (.int .i64 (wy : Nat)) := hW; go_simp; (try with_reducible rfl); (try omega))
            · exact stg_skip (by rfl) (by rfl) rfl (fun W hW => by have hW : W = W5.drew := hW; subst hW; refine ⟨Wa, ?_, rfl⟩; rw [HWS.out.1]; go_simp; try rfl)
            · exact stg_val (by rfl) (by rfl) (fun W hW => by have y0 : W.cell? ⟨w.heap.size, 0, none⟩ = some (.int .i64 (wy : Nat)) := hW; go_simp; (try with_reducible rfl); (try omega))
            · exact stg_val (by rfl) (by rfl) (fun W hW => by have y0 : W.cell? ⟨w.heap.size, 0, none⟩ = some (.int .i64 (wy : Nat)) := hW; go_simp; (try with_reducible rfl); (try omega))
            · exact stg_skip (by rfl) (by rfl) rfl (fun W hW => by have hW : W = Wa := hW; subst hW; refine ⟨Wb, ?_, rfl⟩; rw [HWS.out.2.1]; go_simp; try rfl)
            · exact stg_val (by rfl) (by rfl) (fun W hW => by have y0 : W.cell? ⟨w.heap.size, 0, none⟩ = some (.int .i64 (wy : Nat)) := hW; go_simp; (try with_reducible rfl); (try omega))
            · exact stg_val (by rfl) (by rfl) (fun W hW => by have y0 : W.cell? ⟨w.heap.size, 0, none⟩ = some (.int .i64 (wy : Nat)) := hW; go_simp; (try with_reducible rfl); (try omega))
            · exact stg_skip (by rfl) (by rfl) rfl (fun W hW => by have hW : W = Wb := hW; subst hW; refine ⟨Wc, ?_, rfl⟩; rw [HWS.out.2.2]; go_simp; try rfl)
          case he4 =>
          intro W6 hW6
          have hW8 : W6 = Wc := hW6
          rw [hW8]
          clear hW6 hW8 W6 k14 k15 k16 f14 f15 f16 w5 wa wb
          have hcl := HCL.out
          gi_wp2
          refine ⟨trivial, fun h => (by cases h), CallsIn.inRound l' ((callsIn_wide.2 hcl).mono ?_)⟩
          rintro e W6 ⟨a5, c5, rfl, ho5, -, b5⟩
          clear hcl c13
          have hT6 := HTC.out.below b5
          obtain ⟨W7, hW7⟩ : ∃ W7, W7 = W6.setCell ⟨W2.heap.size, 13, none⟩ (.slice a5 xn c5) := ⟨_, rfl⟩
          have hT7 := hT6.setC (j := 13) (by show 13 < 14; omega) (.slice a5 xn c5)
          rw [← hW7] at hT7
          have hgtc := HTC.out.gt
          have hz2 := HX.out.2.2.2.2.2.2.2.2.2.2.2.2.2
          have ho7 : OwnB W7 (U.heap.size + 6) a5 xn c5 zs := by
            rw [hW7]
            exact (ho5.base (by omega)).frY (Fr.setCell (fun k => k = W2.heap.size) W6 ⟨W2.heap.size, 13, none⟩ _ rfl) (fun g hg e => hg.ne (e ▸ hT6.tc) (by decide) rfl)
          obtain ⟨y, hy⟩ : ∃ y : PcA, y = (⟨t, f, st, ss, pp, zs, 0, wz, ms⟩, a5, c5) := ⟨_, rfl⟩
          have hyq : chQ y = [.int .u8 0, .int .u8 (f : Nat), .int .u32 (t : Nat), .int .u16 (st : Nat), .int .u16 (ss : Nat), .int .u32 (pp : Nat), .int .u32 0, .int .u32 0, .int .u16 0, .int .u16 0, .slice none 0 0, .slice none 0 0, .slice none 0 0, .slice a5 xn c5] := by rw [hy, HX.out.2.2.2.2.2.1]; rfl
          obtain ⟨Va, hVa⟩ : ∃ Va, Va = W7.alloc (.cells (chQ y).toArray 47) := ⟨_, rfl⟩
          obtain ⟨g, c7, Vb, hp, hkq⟩ := hT7.app (by have := HYN.out; have := HX.out.2.2.2.2.2.2.2.2.2.2.2.1; omega) y (by rw [hy]; show OwnB W7 _ a5 zs.length c5 zs; rw [← HX.out.2.2.2.2.2.1]; exact ho7) Va hVa
          have happ := hp.run 40
          have z7 : W7.heap.size = W6.heap.size := by rw [hW7]; simp [World.setCell]
          rw [z7, hVa, hW7, hyq, ← HYN.out] at happ
          have hSn := hp.sn
          rw [← HYN.out] at hSn hkq
          have hfin : SnK w (U.heap.size + 6) q nb (some ⟨pb3, 0, none⟩) cap L cum size nx wy room most air w.heap.size (w.heap.size + 1) (w.heap.size + 1 + 1) w1.heap.size w2.heap.size (w2.heap.size + 1) (sumG szP L (k + 1)) (k + 1) (Vb.setCell ⟨w1.heap.size, 0, none⟩ (.slice (some ⟨g, 0, none⟩) (yn + 1) c7)) := by
            refine ⟨⟨_, _, _, by rw [← HX.out.2.2.2.2.2.2.2.2.1, ← HX.out.2.2.2.2.2.2.2.2.2.2.2.2.1]; exact hSn, ?_⟩, HNO.out⟩
            rw [filt_yes HX.out.2.2.2.2.2.2.2.2.2.1 HX.out.2.2.2.2.2.2.2.2.2.2.1, List.map_append, List.map_append, HX.out.2.2.1, hy]
            rfl
          have u0 : W6.cell? ⟨W2.heap.size, 0, none⟩ = some (.int .u8 0) := hT6.sc_.cell 0 _ rfl
          have u1 : W6.cell? ⟨W2.heap.size, 1, none⟩ = some (.int .u8 (f : Nat)) := hT6.sc_.cell 1 _ rfl
          have u2 : W6.cell? ⟨W2.heap.size, 2, none⟩ = some (.int .u32 (t : Nat)) := hT6.sc_.cell 2 _ rfl
          have u3 : W6.cell? ⟨W2.heap.size, 3, none⟩ = some (.int .u16 (st : Nat)) := hT6.sc_.cell 3 _ rfl
          have u4 : W6.cell? ⟨W2.heap.size, 4, none⟩ = some (.int .u16 (ss : Nat)) := hT6.sc_.cell 4 _ rfl
          have u5 : W6.cell? ⟨W2.heap.size, 5, none⟩ = some (.int .u32 (pp : Nat)) := hT6.sc_.cell 5 _ rfl
          have u6 : W6.cell? ⟨W2.heap.size, 6, none⟩ = some (.int .u32 0) := hT6.sc_.cell 6 _ rfl
          have u7 : W6.cell? ⟨W2.heap.size, 7, none⟩ = some (.int .u32 0) := hT6.sc_.cell 7 _ rfl
          have u8 : W6.cell? ⟨W2.heap.size, 8, none⟩ = some (.int .u16 0) := hT6.sc_.cell 8 _ rfl
          have u9 : W6.cell? ⟨W2.heap.size, 9, none⟩ = some (.int .u16 0) := hT6.sc_.cell 9 _ rfl
          have u10 : W6.cell? ⟨W2.heap.size, 10, none⟩ = some (.slice none 0 0) := hT6.sc_.cell 10 _ rfl
          have u11 : W6.cell? ⟨W2.heap.size, 11, none⟩ = some (.slice none 0 0) := hT6.sc_.cell 11 _ rfl
          have u12 : W6.cell? ⟨W2.heap.size, 12, none⟩ = some (.slice none 0 0) := hT6.sc_.cell 12 _ rfl
          have u13 : W6.cell? ⟨W2.heap.size, 13, none⟩ = some (.slice xa xn xc) := hT6.sc_.cell 13 _ rfl
          have uf := hT6.sc_.free 13
          have us := hT6.sn.xs.cell
          rw [← HYN.out] at us
          have un : ¬ w1.heap.size = W2.heap.size := by have := hT6.k2; have := hT6.sn.o3; have := hT6.sn.o4; have := hT6.sn.o5; have := hT6.k4; have := hT6.k5; omega
          have un2 : ¬ W2.heap.size = w1.heap.size := fun e => un e.symm
          have vs := hp.xs.cell
          have vf := hp.xs.free
          rw [← HYN.out] at vs
          have HFI := (show Hid _ from And.intro hkq hfin)
          clear hT6 hT7 ho7 ho5 b5 hp hkq hfin hSn hVa hyq hy hgtc hz2 z7 hW7
          gi_wp2_with (gi_at_builtin; refine app_eq_listI rfl _ _ rfl rfl rfl rfl happ ?_)
          exact ⟨HFI.out.1, HFI.out.2⟩
  case done =>
    rintro W2 ⟨⟨sa, sc, ys, hI, hys⟩, hgo⟩ hD
    have cs := hI.xs.cell
    have hE : SndR w q nb pa cap L cum size nx wy room most (.returned (.tuple #[.slice sa ys.length sc, .int .i64 0])) (W2.putObj U.heap.size (.deferred none)) := by
      have hg := hI.grown (grownBy_putObj' W2 U.heap.size (.deferred none)) (fun r e => by cases e; omega) (fun r e => by cases e; exact ⟨_, hD, rfl⟩)
      exact ⟨⟨L.length, sa, sc, ys, rfl, Nat.le_refl _, hg.qu, hg.ow.base (by omega), fun y hy => (hg.da y hy).base (by omega), hys, by rw [← HA.out]; exact hgo, .inl rfl⟩, hg.fr⟩
    have HE := (show Hid _ from hE)
    have HD := (show Hid _ from hD)
    clear hI hys hgo hE hD
    gi_wp2
    refine ⟨by simp, .inl ⟨_, _, rfl, run_takeDeferred HD.out, ?_⟩⟩
    refine ⟨_, results_tmp2 rfl _ _ _, ?_⟩
    exact HE.out
  case stop =>
    rintro c W2 ⟨rfl, ⟨K, z, hK, hst, ⟨⟨sa, sc, ys, hI, hys⟩, hgo⟩⟩⟩ hD
    have cs := hI.xs.cell
    have hE : SndR w q nb pa cap L cum size nx wy room most (.returned (.tuple #[.slice sa ys.length sc, .int .i64 0])) (W2.putObj U.heap.size (.deferred none)) := by
      have hg := hI.grown (grownBy_putObj' W2 U.heap.size (.deferred none)) (fun r e => by cases e; omega) (fun r e => by cases e; exact ⟨_, hD, rfl⟩)
      exact ⟨⟨K, sa, sc, ys, rfl, hK, hg.qu, hg.ow.base (by omega), fun y hy => (hg.da y hy).base (by omega), hys, by rw [← HA.out]; exact hgo, .inr (by rw [← HA.out]; exact hst)⟩, hg.fr⟩
    have HE := (show Hid _ from hE)
    have HD := (show Hid _ from hD)
    clear hI hys hgo hE hD hst
    gi_wp2
    refine ⟨by simp, .inl ⟨_, _, rfl, run_takeDeferred HD.out, ?_⟩⟩
    refine ⟨_, results_tmp2 rfl _ _ _, ?_⟩
    exact HE.out
end
end Go.Proofs.Ytconfmjgoipejaa
namespace Go.Proofs.Ytconfmjgoipejaa
open Go.RowKit
def strOf (zs : List Nat) : ByteArray := ⟨(zs.map UInt8.ofNat).toArray⟩
theorem conv_str {w : World} {a : Option Addr} {n c : Nat} {zs : List Nat} (hs : Sl w a n c zs) : (convert 36 9 (.slice a n c)).run Try.prog w = .ok (.string (strOf zs)) w := by
  obtain ⟨hl, hcap, hroom, hsm, hnz, hb, hat⟩ := hs
  cases a with
  | none =>
    obtain rfl := hnz rfl
    obtain rfl : n = 0 := by omega
    obtain rfl : zs = [] := List.eq_nil_of_length_eq_zero hl
    rw [run_convert_bytes_string w 36 9 5 none 0 0 Try.underlying36 Try.underlying5 Try.underlying9]
    rfl
  | some p =>
    have hlen : (zs.map UInt8.ofNat).length = n := by simp [hl]
    have := run_convert_bytes_back (P := Try.prog) w 36 9 5 p c (zs.map UInt8.ofNat) Try.underlying36 Try.underlying5 Try.underlying9 (fun j hj => by
      rw [hlen] at hj
      rcases hat with h0 | ⟨b, off, hp, _, hcell⟩
      · omega
      · injection hp with hp
        subst hp
        have ea : (⟨b, off, none⟩ : Addr).add j = ⟨b, off + j, none⟩ := by
          unfold Addr.add
          split
          · subst_vars; rfl
          · rfl
        have hbj := hb j
        have e2 : zs[j]'(by omega) = zs.getD j 0 := by simp [List.getD_eq_getElem?_getD, show j < zs.length from by omega]
        rw [ea, hcell j hj, List.getElem_map, e2]
        generalize zs.getD j 0 = q at hbj
        have e3 : (UInt8.ofNat q).toNat = q := by rw [UInt8.toNat_ofNat']; omega
        rw [e3])
    rw [hlen] at this
    exact this
theorem strOf_inj {zs ys : List Nat} (hz : ∀ i, zs.getD i 0 < 256) (hy : ∀ i, ys.getD i 0 < 256) (h : strOf zs = strOf ys) : zs = ys := by
  have h1 : zs.map UInt8.ofNat = ys.map UInt8.ofNat := by
    unfold strOf at h
    injection h with h
    simpa using congrArg Array.toList h
  have hl : zs.length = ys.length := by simpa using congrArg List.length h1
  apply List.ext_getElem hl
  intro i h2 h3
  have h4 : (zs.map UInt8.ofNat)[i]'(by simpa using h2) = (ys.map UInt8.ofNat)[i]'(by simpa using h3) := by simp only [h1]
  rw [List.getElem_map, List.getElem_map] at h4
  have a1 := hz i
  have a2 := hy i
  simp [List.getD_eq_getElem?_getD, h2] at a1
  simp [List.getD_eq_getElem?_getD, h3] at a2
  have h5 := congrArg UInt8.toNat h4
  simpa [UInt8.toNat_ofNat', Nat.mod_eq_of_lt a1, Nat.mod_eq_of_lt a2] using h5
end Go.Proofs.Ytconfmjgoipejaa
namespace Go.Proofs.Ytconfmjgoipejaa
open Go.RowKit Go.Shelf
def vP1 : Pc := ⟨10, 2, 1, 0, 0, [49, 50, 51, 52], 0, 0, 0⟩
def vP2 : Pc := ⟨11, 0, 1, 0, 0, [53, 54, 55, 56], 0, 0, 0⟩
def vP3 : Pc := ⟨12, 1, 1, 0, 0, [57], 0, 0, 0⟩
theorem three_of {M : List PcA} {p1 p2 p3 : Pc} (h : M.map (·.1) = [p1, p2, p3]) : ∃ s1 s2 s3, M = [(p1, s1), (p2, s2), (p3, s3)] := by
  match M, h with
  | [(a, s1), (b, s2), (c, s3)], h =>
    simp at h
    obtain ⟨rfl, rfl, rfl⟩ := h
    exact ⟨s1, s2, s3, rfl⟩
  | [], h => simp at h
  | [_], h => simp at h
  | [_, _], h => simp at h
  | _ :: _ :: _ :: _ :: _, h => simp at h
theorem live_marks : markL (cntN 9 4) ((List.range (cntN 9 4)).map (newPc 9 0 (nmF false) 1 (nmS false [0, 0] 1) 0 4 [49, 50, 51, 52, 53, 54, 55, 56, 57])) = [vP1, vP2, vP3] := by kernel_rfl
theorem live_go (s1 s2 s3 : Option Addr × Nat) : ∀ j, j < 3 → ¬ stopP [(vP1, s1), (vP2, s2), (vP3, s3)] 100 1000 (airL [(vP1, s1), (vP2, s2), (vP3, s3)] 2) j := by
  intro j hj
  rintro ⟨x, hx, hd, h⟩
  have ha : airL [(vP1, s1), (vP2, s2), (vP3, s3)] 2 = 0 := rfl
  rw [ha] at h
  obtain rfl | rfl | rfl : j = 0 ∨ j = 1 ∨ j = 2 := by omega
  · obtain rfl : (vP1, s1) = x := Option.some.inj hx
    have e1 : sumG szP [(vP1, s1), (vP2, s2), (vP3, s3)] (0 + 1) = 20 := by kernel_rfl
    have e2 : sumG ctP [(vP1, s1), (vP2, s2), (vP3, s3)] 0 = 0 := rfl
    have e3 : sumG lnP [(vP1, s1), (vP2, s2), (vP3, s3)] 0 = 0 := rfl
    rw [e1, e2, e3] at h
    omega
  · obtain rfl : (vP2, s2) = x := Option.some.inj hx
    have e1 : sumG szP [(vP1, s1), (vP2, s2), (vP3, s3)] (1 + 1) = 40 := by kernel_rfl
    have e2 : sumG ctP [(vP1, s1), (vP2, s2), (vP3, s3)] 1 = 1 := rfl
    have e3 : sumG lnP [(vP1, s1), (vP2, s2), (vP3, s3)] 1 = 4 := rfl
    have e4 : vP2.zs.length = 4 := rfl
    rw [e1, e2, e3, e4] at h
    omega
  · obtain rfl : (vP3, s3) = x := Option.some.inj hx
    have e1 : sumG szP [(vP1, s1), (vP2, s2), (vP3, s3)] (2 + 1) = 60 := by kernel_rfl
    have e2 : sumG ctP [(vP1, s1), (vP2, s2), (vP3, s3)] 2 = 2 := rfl
    have e3 : sumG lnP [(vP1, s1), (vP2, s2), (vP3, s3)] 2 = 8 := rfl
    have e4 : vP3.zs.length = 1 := rfl
    rw [e1, e2, e3, e4] at h
    omega
def vF (p : Pc) : Pc := { p with is := 1, wy := 0, ms := 0 }
theorem live_sent (s1 s2 s3 : Option Addr × Nat) : mapTo (sndF 0) [(vP1, s1), (vP2, s2), (vP3, s3)] 3 = [(vF vP1, s1), (vF vP2, s2), (vF vP3, s3)] := rfl
set_option maxRecDepth 100000 in
set_option maxHeartbeats 4000000 in
theorem live14_any (w : World) :
    Calls Try.prog 10 #[] w fun e w' => e = .returned (.bool true) ∧ Below w.heap.size w w' := by
  have kc := fun (w : World) (C : Array Value) (n c : Nat) => Lib.run_convert_bytes_const (P := Try.prog) w 36 5 C n c Try.underlying36 Try.underlying5
  have hnew := onew_ok 10 2 4 w (by decide) (by decide) (by decide) (by decide) (by decide)
  go_enter Try.func10, Try.ntmps10
  go_wp2_with fail
  refine Calls.mono hnew ?_
  rintro e w1 ⟨⟨q, nb, rfl, hq, hq0, hn0⟩, hb1⟩
  clear hnew
  obtain ⟨w2, hw2⟩ : ∃ w2, w2 = w1.alloc (.cells #[.int .u8 49, .int .u8 50, .int .u8 51, .int .u8 52, .int .u8 53, .int .u8 54, .int .u8 55, .int .u8 56, .int .u8 57] 5 (9, 10)) := ⟨_, rfl⟩
  have hb2 : Below w1.heap.size w1 w2 := by rw [hw2]; exact (Below.refl _ _).alloc (Nat.le_refl _) _
  have hs2 : Sl w2 (some ⟨w1.heap.size, 0, none⟩) 9 9 [49, 50, 51, 52, 53, 54, 55, 56, 57] := by rw [hw2]; exact sl_new w1 5 (9, 10) [49, 50, 51, 52, 53, 54, 55, 56, 57] rfl (by decide) _ rfl
  have z2 : w2.heap.size = w1.heap.size + 1 := by rw [hw2]; simp
  have hqc : addV 4294967296 10 (-1) = 9 := by kernel_rfl
  rw [hqc] at hq
  have hpu := push_ok (hq.below hb2) (by decide) (by decide) (by decide) (by decide) (by decide) (fun i => by
    rcases i with _ | _ | i
    · decide
    · decide
    · simp [List.replicate]) 1 0 0 false (by decide) hs2 (fun b o s e => by
    injection e with e
    injection e with e1 _ _
    subst e1
    refine ⟨by omega, ?_⟩
    rintro (e | e | ⟨o, s, e⟩)
    · have := hq.tq.lt; omega
    · have := hq.tn.lt; omega
    · cases e) (by decide)
  have HPU := (show Hid _ from hpu)
  have HB2 : Hid (Below w.heap.size w w2) := hb1.trans (hb2.mono hb1.size)
  clear hpu hs2 hb2 hq hb1
  go_wp2_with fail
  rw [← hw2]
  clear hw2 kc
  refine Calls.mono HPU.out ?_
  clear HPU
  rintro e w3 ⟨rfl, ⟨pa, cap, M, hq3, hM, hpn⟩, hf3⟩
  have hM2 := hM.trans live_marks
  obtain ⟨s1, s2, s3, rfl⟩ := three_of hM2
  clear hM hM2
  have hq3' : QuW w3 q nb pa cap [(vP1, s1), (vP2, s2), (vP3, s3)] 9 4 [0, 1] := hq3
  clear hq3
  have hse := send_ok hq3' (by simp) (by show (9 : Nat) ≤ 100000; decide) 0 100 1000 (by decide) (by decide)
  have hb3 : Below w.heap.size w w3 := HB2.out.trans (Fr.below hf3 _ HB2.out.size (fun k hk => by
    rcases hk with e | e | ⟨o, s, e⟩
    · omega
    · omega
    · cases e))
  have hs2w := HB2.out.size
  have HSE := (show Hid _ from hse)
  have HB3 := (show Hid _ from hb3)
  clear hse hb3 hf3 HB2
  go_wp2_with fail
  refine Calls.mono HSE.out ?_
  clear HSE
  rintro e w4 ⟨⟨K, sa, sc, ys, rfl, hK, hq4, how, hda, hys, hgo, hst⟩, hf4⟩
  have hQB : ∀ b, qB q nb pa b → w.heap.size ≤ b := fun b hb => by
    rcases hb with e | e | ⟨o, s, e⟩
    · omega
    · omega
    · rcases hpn b o s e with e2 | e2
      · rcases e2 with e2 | e2 | ⟨o2, s2, e2⟩
        · omega
        · omega
        · cases e2
      · omega
  have hlt := hq3'.qB_lt
  have hgo3 := live_go s1 s2 s3
  obtain rfl : K = 3 := by
    have hK3 : K ≤ 3 := hK
    rcases hst with e | e
    · exact e
    · rcases Nat.lt_or_ge K 3 with h3 | h3
      · exact absurd e (hgo3 K h3)
      · omega
  rw [live_sent] at hq4
  have hys2 : ys.map (·.1) = [vP1, vP2, vP3] := hys
  obtain ⟨u1, u2, u3, rfl⟩ := three_of hys2
  obtain ⟨g, rfl, hg, hgl, hcc, _, hcl, hfz⟩ := OwnG.at_ how chQ_len (by show 0 < 3; decide)
  have c30 : w4.cell? ⟨g, 30, none⟩ = some (.int .u32 12) := hcl 2 _ rfl 2 _ rfl
  have c41 : w4.cell? ⟨g, 41, none⟩ = some (.slice u3.1 1 u3.2) := hcl 2 _ rfl 13 _ rfl
  have h57 : OwnB w4 w3.heap.size u3.1 1 u3.2 [57] := hda (vP3, u3) (by simp)
  have hnq : ∀ b T, BT w4 b T → T ≠ 71 → T ≠ 34 → T ≠ 82 → ¬ qB q nb pa b := fun b T hb h1 h2 h3 e => by
    rcases e with rfl | rfl | ⟨o, s, e⟩
    · exact hb.ne hq4.tq h1 rfl
    · exact hb.ne hq4.tn h2 rfl
    · obtain ⟨pb, hpb, _⟩ := hq4.at_
      obtain rfl := hpb.resolve_left (by simp)
      injection e with e
      injection e with e _ _
      subst e
      exact hb.ne (hq4.row.bt _ rfl) h3 rfl
  have HQ : Hid (∀ V, Fr (qB q nb pa) w4 V → V.cell? ⟨g, 30, none⟩ = some (.int .u32 12) ∧ V.cell? ⟨g, 41, none⟩ = some (.slice u3.1 1 u3.2) ∧ Sl V u3.1 1 u3.2 [57]) := fun V hV => by
    have hn : ¬ qB q nb pa g := fun e => by have := hlt g e; omega
    exact ⟨(hV.cell ⟨g, 30, none⟩ hgl hn).trans c30, (hV.cell ⟨g, 41, none⟩ hgl hn).trans c41, (h57.frY hV (fun b hb => hnq b _ hb (by decide) (by decide) (by decide))).sl (by decide)⟩
  have hb4 : Below w.heap.size w w4 := HB3.out.trans (Fr.below hf4 _ HB3.out.size hQB)
  have hsk := sack_ok hq4 (by simp) (by show (9 : Nat) ≤ 100000; decide) (fun x hx h1 => by
    simp at hx
    rcases hx with rfl | rfl | rfl <;> exact (by decide : (0 : Nat) < 2)) (fun x hx => by
    simp at hx
    rcases hx with rfl | rfl | rfl <;> exact (by decide : (0 : Nat) ≤ 100000)) (by decide) 11 2 (by decide) (by kernel_rfl) (by show 2 ≤ topL [(vF vP1, s1), (vF vP2, s2), (vF vP3, s3)]; simp [topL, vF, vP1, vP2, vP3]) (ba := none) (bn := 0) (bc := 0) (bs := []) ⟨rfl, Nat.le_refl _, by decide, .inl rfl⟩ (fun b o s e => by cases e) (by decide) (fun p hp => by cases hp)
  have HSK := (show Hid _ from hsk)
  have HB4 := (show Hid _ from hb4)
  have HQB := (show Hid _ from hQB)
  clear hsk hb4 hQB hlt hgo3 hq4 hys hys2 how hda hcl hfz c30 c41 h57 hnq hgo hst hf4 hq3' hpn hK
  go_wp2_with fail
  refine Calls.mono HSK.out ?_
  clear HSK
  rintro e w5 ⟨rfl, hq5, hf5⟩
  have e1 : skB 0 [] 2 [(vF vP1, s1), (vF vP2, s2), (vF vP3, s3)] = 8 := by kernel_rfl
  have e2 : skB 1 [] 2 [(vF vP1, s1), (vF vP2, s2), (vF vP3, s3)] = 0 := by kernel_rfl
  have e3 : skFast [] 2 [(vF vP1, s1), (vF vP2, s2), (vF vP3, s3)] = false := by kernel_rfl
  have e4 : skM [] 2 [(vF vP1, s1), (vF vP2, s2), (vF vP3, s3)] = [(vF vP3, s3)] := by kernel_rfl
  have hd2 : decide (0 < 2) = true := rfl
  rw [e1, e2, e3, hd2]
  rw [e4] at hq5
  obtain ⟨w6, hw6⟩ : ∃ w6, w6 = w5.alloc (.cells #[.int .i64 8, .int .i64 0, .bool true, .bool false] 58) := ⟨_, rfl⟩
  have b6 : Below w5.heap.size w5 w6 := by rw [hw6]; exact (Below.refl _ _).alloc (Nat.le_refl _) _
  have s6 := Stc.new w5 [.int .i64 8, .int .i64 0, .bool true, .bool false] 58 w6 hw6
  have hlf := left_any (hq5.below b6) (by simp) (by show (1 : Nat) ≤ 100000; decide)
  have HLF := (show Hid _ from hlf)
  have HW6 := (show Hid _ from hw6)
  have H6 := (show Hid _ from And.intro b6 (And.intro s6 hf5))
  clear hlf hw6 b6 s6 hq5 hf5 e1 e2 e3 e4 hd2
  go_wp2_with fail
  rw [← HW6.out]
  refine Calls.mono HLF.out ?_
  rintro e w7 ⟨rfl, b7⟩
  obtain ⟨b6, s6, hf5⟩ := H6.out
  have hf7 : Fr (qB q nb pa) w4 w7 := hf5.trans ((Fr.of_below (P := qB q nb pa) (b6.trans (b7.mono b6.size))))
  obtain ⟨k30, k41, ksl⟩ := HQ.out w7 hf7
  have s7 := s6.below b7
  have m0 := s7.cell 0 _ rfl
  have m2 := s7.cell 2 _ rfl
  have kcs := conv_str ksl
  have hs0 : (strOf [57]) = { data := #[57] } := by decide
  rw [hs0] at kcs
  have HBF : Hid (Below w.heap.size w w7) := HB4.out.trans (Fr.below hf7 _ HB4.out.size HQB.out)
  clear HQ HLF HW6 H6 b6 s6 hf5 b7 hf7 ksl s7 hs0 HB4 HQB
  go_wp2
  go_ret
  exact ⟨rfl, HBF.out⟩
end Go.Proofs.Ytconfmjgoipejaa
