/- What ref10.Split answers. -/
import Derived.Test.YtnbagloifbllbaaPcS
import Derived.Test.YtnbagloifbllbaaIpRChk
namespace Go.Proofs.Ytnbagloifbllbaa
open Go.RowKit
def rcP (sr ds pr tt id : Nat) (dn mo : Bool) (o b off c n s j : Nat) : Pk := ⟨sr, ds, pr, tt, id, dn, mo || decide ((j + 1) * s < n), ((o + j * s : Nat) : Int), some ⟨b, off + j * s, none⟩, min ((j + 1) * s) n - j * s, c - j * s⟩
def rcL (sr ds pr tt id : Nat) (dn mo : Bool) (o b off c n s k : Nat) : List Pk := (List.range k).map (rcP sr ds pr tt id dn mo o b off c n s)
theorem rcL_succ (sr ds pr tt id : Nat) (dn mo : Bool) (o b off c n s k : Nat) : rcL sr ds pr tt id dn mo o b off c n s (k + 1) = rcL sr ds pr tt id dn mo o b off c n s k ++ [rcP sr ds pr tt id dn mo o b off c n s k] := by
  simp [rcL, List.range_succ]
theorem rcL_len (sr ds pr tt id : Nat) (dn mo : Bool) (o b off c n s k : Nat) : (rcL sr ds pr tt id dn mo o b off c n s k).length = k := by simp [rcL]
theorem rc_pieces {w : World} {sr ds pr tt id : Nat} {mo : Bool} {o b off c : Nat} {zs : List Nat} {mtu : Int} (hs : Sl w (some ⟨b, off, none⟩) zs.length c zs) (hmb : mbE mo (o : Int) zs.length = 0) (hlt : mtu - 20 < (zs.length : Int)) (hm28 : 28 ≤ mtu) : PcR w sr ds pr tt id false mo (o : Int) zs mtu (spP mtu zs.length) (rcL sr ds pr tt id false mo o b off c zs.length (spS mtu) (cutN zs.length (spS mtu))) := by
  obtain ⟨q1, q2, q3, q4, q5⟩ := mbE_ok hmb
  obtain ⟨M, hM⟩ : ∃ M : Nat, mtu = ((M + 20 : Nat) : Int) := ⟨(mtu - 20).toNat, by omega⟩
  have hS : spS mtu = M / 8 * 8 := by unfold spS; rw [hM]; congr 2; omega
  obtain ⟨s, hs'⟩ : ∃ s, s = M / 8 * 8 := ⟨_, rfl⟩
  obtain ⟨n, hn⟩ : ∃ n, n = zs.length := ⟨_, rfl⟩
  have hPP : spP mtu n = fun j => min (j * s) n := by funext j; unfold spP; rw [if_neg (by omega), hS, ← hs']
  rw [← hn, hPP, hS, ← hs']
  rw [← hn] at hs hmb q4 q5 hlt
  obtain ⟨c1, c2⟩ := cut_last n s (by omega) (by omega)
  refine ⟨by simp, ?_, fun j x hx => ?_⟩
  · rw [rcL_len]
    show min (cutN n s * s) n = zs.length
    omega
  · have hjK : j < cutN n s := by
      have := (List.getElem?_eq_some_iff.1 hx).1
      rwa [rcL_len] at this
    have hx2 : x = rcP sr ds pr tt id false mo o b off c n s j := by
      unfold rcL at hx
      rw [List.getElem?_map, List.getElem?_range hjK] at hx
      simpa using hx.symm
    subst hx2
    rw [rcL_len]
    have hm := cut_more n s j (by omega) (by omega)
    have hjs : j * s < n := by
      cases j with
      | zero => simp; omega
      | succ j => exact (cut_more n s j (by omega) (by omega)).2 hjK
    have e1 : (j + 1) * s = j * s + s := by rw [Nat.add_mul]; omega
    have hd8 : j * s % 8 = 0 := by rw [hs', ← Nat.mul_assoc]; exact Nat.mul_mod_left _ _
    unfold rcP
    rw [e1] at hm ⊢
    generalize j * s = f at *
    have hmd : decide (f + s < n) = decide (j + 1 < cutN n s) := by rw [decide_eq_decide]; exact hm
    refine ⟨rfl, rfl, rfl, rfl, rfl, rfl, ?_, by rw [hmd], ?_, ?_, ?_, ?_, ?_⟩
    · show ((o + f : Nat) : Int) = (o : Int) + ((min f n : Nat) : Int)
      omega
    · show Sl w (some ⟨b, off + f, none⟩) (min (f + s) n - f) (c - f) ((zs.drop (min f n)).take (min (f + s) n - f))
      rw [show min f n = f by omega]
      have h1 := hs.dropE f (by omega) ⟨b, off + f, none⟩ (fun _ => rfl)
      exact h1.takeE (min (f + s) n - f) (by omega) (by omega)
    · show min (f + s) n = min f n + (min (f + s) n - f)
      omega
    · show min f n + (min (f + s) n - f) ≤ zs.length
      omega
    · show mbE (mo || decide (f + s < n)) ((o + f : Nat) : Int) (min (f + s) n - f) = 0
      unfold mbE
      rw [if_neg, if_neg (by omega)]
      intro h
      rcases h with h | h | h | ⟨h, h'⟩
      · omega
      · omega
      · omega
      · by_cases hfs : f + s < n
        · omega
        · have hmo : mo = true := by simpa [hfs] using h
          have := q4 hmo
          omega
    · show (20 : Int) + ((min (f + s) n - f : Nat) : Int) ≤ mtu
      omega
theorem slice_lhE (b off n c l h : Nat) (hl : l < h) (hh : h ≤ c) : ∀ w, (Instr.slice 24 (.slice (some ⟨b, off, none⟩) n c) (some (.int .i64 (l : Int))) (some (.int .i64 (h : Int))) none).run Try.prog w = .ok (.slice (some ⟨b, off + l, none⟩) (h - l) (c - l)) w := by
  obtain ⟨a', h1, h2⟩ := slice_lh b off n c l h (by omega) hh
  rw [h2 hl] at h1
  exact h1
theorem slice_fromE (b off n c l : Nat) (hl : l < n) (hc : n ≤ c) : ∀ w, (Instr.slice 24 (.slice (some ⟨b, off, none⟩) n c) (some (.int .i64 (l : Int))) none none).run Try.prog w = .ok (.slice (some ⟨b, off + l, none⟩) (n - l) (c - l)) w := by
  obtain ⟨a', h1, h2⟩ := slice_from b off n c (l : Int) l rfl (by omega) hc
  rw [h2 hl] at h1
  exact h1
structure RspP (a0 : Option Addr) (sr ds pr tt id : Nat) (dn mo : Bool) (of : Int) (zs : List Nat) (mtu : Int) (w : World) (e : Ending) (w' : World) : Prop where
  ans : ∃ a c ps, e = .returned (.tuple #[.slice a ps.length c, .int .i64 (spE dn mo of zs.length mtu : Nat)]) ∧ OwnK w' w.heap.size a ps.length c ps ∧ (¬ spE dn mo of zs.length mtu = 0 → ps = []) ∧ (spE dn mo of zs.length mtu = 0 → PcR w' sr ds pr tt id dn mo of zs mtu (spP mtu zs.length) ps ∧ ps.length = spK mtu zs.length) ∧ (∀ x ∈ ps, ∀ b off, x.a = some ⟨b, off, none⟩ → ∃ off', a0 = some ⟨b, off', none⟩)
  bel : Below w.heap.size w w'
theorem ownK_empty (w : World) : OwnK (w.alloc (.cells #[] 26)) w.heap.size (some ⟨w.heap.size, 0, none⟩) 0 0 [] := by
  refine ⟨rfl, ⟨rfl, .inr ⟨w.heap.size, 0, #[], rfl, Nat.le_refl _, ?_, Nat.le_refl _, by unfold maxLen; omega, rfl, rfl⟩⟩⟩
  show (w.heap.push _)[w.heap.size]? = _
  simp
set_option maxRecDepth 100000 in
set_option maxHeartbeats 1000000 in
theorem rsplit_any (sr ds pr tt id : Nat) (dn mo : Bool) (of : Int) (a : Option Addr) (n c : Nat) (zs : List Nat) (mtu : Int) (w : World) (hs : Sl w a n c zs) (hmtu : (Lit.int .i64 mtu).wf = true) :
    Calls Try.prog 7 #[.agg #[.int .u32 (sr : Nat), .int .u32 (ds : Nat), .int .u8 (pr : Nat), .int .u8 (tt : Nat), .int .u16 (id : Nat), .bool dn, .bool mo, .int .i64 of, .slice a n c], .int .i64 mtu] w fun e w' => RspP a sr ds pr tt id dn mo of zs mtu w e w' := by
  have hl := hs.len
  have hsm := hs.small
  have hcap := hs.cap
  have hmb := fun W => check_any sr ds pr tt id dn mo of a n c W hsm
  obtain ⟨W, hW⟩ : ∃ W, W = w.alloc (.cells #[.int .u32 (sr : Nat), .int .u32 (ds : Nat), .int .u8 (pr : Nat), .int .u8 (tt : Nat), .int .u16 (id : Nat), .bool dn, .bool mo, .int .i64 of, .slice a n c] 26) := ⟨_, rfl⟩
  have hX := Stc.new w [.int .u32 (sr : Nat), .int .u32 (ds : Nat), .int .u8 (pr : Nat), .int .u8 (tt : Nat), .int .u16 (id : Nat), .bool dn, .bool mo, .int .i64 of, .slice a n c] 26 W hW
  have hbW : Below w.heap.size w W := by rw [hW]; exact (Below.refl _ _).alloc (Nat.le_refl _) _
  have hsW := hs.below hbW
  have x0 := hX.cell 0 _ rfl
  have x1 := hX.cell 1 _ rfl
  have x2 := hX.cell 2 _ rfl
  have x3 := hX.cell 3 _ rfl
  have x4 := hX.cell 4 _ rfl
  have x5 := hX.cell 5 _ rfl
  have x6 := hX.cell 6 _ rfl
  have x7 := hX.cell 7 _ rfl
  have x8 := hX.cell 8 _ rfl
  by_cases hE : mbE mo of n = 0
  case neg =>
    have HE : Hid (spE dn mo of zs.length mtu = mbE mo of n) := by show _ = _; unfold spE; rw [hl, if_pos hE]
    have hne : ¬ ((mbE mo of n : Nat) : Int) = 0 := by omega
    have hne2 : (((mbE mo of n : Nat) : Int) != 0) = true := by simpa using hne
    generalize mbE mo of n = E at *
    go_enter Try.func7, Try.ntmps7
    go_wp2_with fail
    rw [← hW]
    clear hW
    refine (hmb W).mono ?_
    rintro e w1 ⟨rfl, b1⟩
    go_wp2
    go_ret2
    exact ⟨⟨none, 0, [], by rw [HE.out]; rfl, OwnK.nil _ _, fun _ => rfl, fun h => absurd (HE.out ▸ h) hE, fun x hx => (by cases hx)⟩, hbW.trans (b1.mono hbW.size)⟩
  case pos =>
  have HMB := (show Hid _ from hE)
  obtain ⟨q1, q2, q3, q4, q5⟩ := mbE_ok hE
  obtain ⟨o, ho⟩ : ∃ o : Nat, of = (o : Int) := ⟨of.toNat, by omega⟩
  subst ho
  have HS : Hid (spE dn mo (o : Int) zs.length mtu = if mtu < 28 then 2 else if (n : Int) ≤ mtu - 20 then 0 else if dn = true then 10 else 0) := by show _ = _; unfold spE; rw [hl, if_neg (by rw [hE]; simp)]
  rw [hE] at hmb
  clear q3 q4 hE
  by_cases h1 : mtu < 28
  case pos =>
    have HE : Hid (spE dn mo (o : Int) zs.length mtu = 2) := by show _ = _; rw [HS.out, if_pos h1]
    go_enter Try.func7, Try.ntmps7
    go_wp2_with fail
    rw [← hW]
    clear hW
    refine (hmb W).mono ?_
    rintro e w1 ⟨rfl, b1⟩
    go_wp2
    go_ret2
    exact ⟨⟨none, 0, [], by rw [HE.out]; rfl, OwnK.nil _ _, fun _ => rfl, fun h => (by rw [HE.out] at h; cases h), fun x hx => (by cases hx)⟩, hbW.trans (b1.mono hbW.size)⟩
  case neg =>
  obtain ⟨M, hM⟩ : ∃ M : Nat, mtu = ((M + 20 : Nat) : Int) := ⟨(mtu - 20).toNat, by omega⟩
  have hMb : M < 9223372036854775807 := by simp [Lit.wf, IntKind.min, IntKind.max, IntKind.signed, IntKind.bits] at hmtu; omega
  have hmr : mtu - 20 = (M : Int) := by omega
  have HMR := (show Hid _ from hmr)
  rw [hmr] at HS
  have h1i : ¬ mtu < 28 := h1
  go_enter Try.func7, Try.ntmps7
  go_wp2_with fail
  rw [← hW]
  clear hW
  refine (hmb W).mono ?_
  rintro e w1 ⟨rfl, b1⟩
  have hX1 := hX.below b1
  have hs1 := hsW.below b1
  have bb1 : Below w.heap.size w w1 := hbW.trans (b1.mono hbW.size)
  clear x0 x1 x2 x3 x4 x5 x6 x7 x8 hX hsW hbW b1 hmb
  have x0 := hX1.cell 0 _ rfl
  have x1 := hX1.cell 1 _ rfl
  have x2 := hX1.cell 2 _ rfl
  have x3 := hX1.cell 3 _ rfl
  have x4 := hX1.cell 4 _ rfl
  have x5 := hX1.cell 5 _ rfl
  have x6 := hX1.cell 6 _ rfl
  have x7 := hX1.cell 7 _ rfl
  have x8 := hX1.cell 8 _ rfl
  by_cases h2 : n ≤ M
  case pos =>
    have h2i : (n : Int) ≤ (M : Int) := by omega
    have h2k : 20 + (n : Int) ≤ mtu := by omega
    have h2j : (zs.length : Int) ≤ mtu - 20 := by rw [hl]; omega
    have HE : Hid (spE dn mo (o : Int) zs.length mtu = 0) := by show _ = _; rw [HS.out, if_neg (by omega), if_pos h2i]
    have HPP : Hid (spP mtu zs.length = fun j => if j = 0 then 0 else zs.length) := by show _ = _; funext j; unfold spP; rw [if_pos h2j]
    obtain ⟨w4, hw4⟩ : ∃ w4, w4 = w1.alloc (.cells (Pk.cells ⟨sr, ds, pr, tt, id, dn, mo, (o : Int), a, n, c⟩).toArray 26) := ⟨_, rfl⟩
    have k4 := ownK_lit w1 ⟨sr, ds, pr, tt, id, dn, mo, (o : Int), a, n, c⟩ w4 hw4
    have b34 : Below w1.heap.size w1 w4 := by rw [hw4]; exact (Below.refl _ _).alloc (Nat.le_refl _) _
    have s4 := hs1.below b34
    have bb4 : Below w.heap.size w w4 := bb1.trans (b34.mono bb1.size)
    have k4' := k4.base bb1.size
    have hPc : PcR w4 sr ds pr tt id dn mo (o : Int) zs mtu (spP mtu zs.length) [⟨sr, ds, pr, tt, id, dn, mo, (o : Int), a, n, c⟩] := by
      rw [HPP.out]
      refine ⟨rfl, by simp, fun j x hx => ?_⟩
      have hj : j = 0 := by
        have := (List.getElem?_eq_some_iff.1 hx).1
        simp at this
        exact this
      subst hj
      simp at hx
      subst hx
      refine ⟨rfl, rfl, rfl, rfl, rfl, rfl, by simp, by simp, ?_, by simp [hl], by simp [hl], HMB.out, h2k⟩
      simp
      rw [List.take_of_length_le (by omega)]
      exact s4
    have HW4 : Hid (w4 = w1.alloc (.cells #[.int .u32 (sr : Nat), .int .u32 (ds : Nat), .int .u8 (pr : Nat), .int .u8 (tt : Nat), .int .u16 (id : Nat), .bool dn, .bool mo, .int .i64 ((o : Nat) : Int), .slice a n c] 26)) := by show _ = _; rw [hw4]; rfl
    have HFA := (show Hid _ from (⟨⟨some ⟨w1.heap.size, 0, none⟩, 1, [⟨sr, ds, pr, tt, id, dn, mo, (o : Int), a, n, c⟩], by rw [HE.out]; rfl, k4', fun h => absurd HE.out h, fun _ => ⟨hPc, by unfold spK; rw [if_pos h2j]; rfl⟩, fun x hx b off hb => ⟨off, by rw [List.mem_singleton] at hx; subst hx; exact hb⟩⟩, bb4⟩ : RspP a sr ds pr tt id dn mo (o : Int) zs mtu w (.returned (.tuple #[.slice (some ⟨w1.heap.size, 0, none⟩) 1 1, .int .i64 0])) w4))
    rw [HW4.out] at HFA
    clear k4 k4' s4 bb4 hw4 b34 HW4 hX1 hs1 hPc HPP hM
    go_wp2
    go_ret2
    exact HFA.out
  case neg =>
    have h2i : ¬ (n : Int) ≤ (M : Int) := by omega
    have h2k : ¬ 20 + (n : Int) ≤ mtu := by omega
    have h2j : ¬ (zs.length : Int) ≤ mtu - 20 := by rw [hl]; omega
    have HMM := (show Hid _ from hM)
    cases dn with
    | true =>
      have HE : Hid (spE true mo (o : Int) zs.length mtu = 10) := by show _ = _; rw [HS.out, if_neg (by omega), if_neg h2i]; rfl
      clear hM
      go_wp2
      go_ret2
      exact ⟨⟨none, 0, [], by rw [HE.out]; rfl, OwnK.nil _ _, fun _ => rfl, fun h => (by rw [HE.out] at h; cases h), fun x hx => (by cases hx)⟩, bb1⟩
    | false =>
    have HE : Hid (spE false mo (o : Int) zs.length mtu = 0) := by show _ = _; rw [HS.out, if_neg (by omega), if_neg h2i]; rfl
    have hMn : M < n := by omega
    have hM8 : 8 ≤ M := by omega
    obtain ⟨s, hs'⟩ : ∃ s, s = M / 8 * 8 := ⟨_, rfl⟩
    have HSS : Hid (spS mtu = s) := by show _ = _; unfold spS; rw [HMR.out, hs']; rfl
    have hsz : (M : Int) - (M : Int) % 8 = (s : Int) := by omega
    have hs1' : 1 ≤ s := by omega
    have hs2' : s ≤ 100000 := by omega
    rcases hs1.at_ with h00 | ⟨b, off, rfl, _, _⟩
    · omega
    obtain ⟨w2, hw2⟩ : ∃ w2, w2 = w1.alloc (.cells #[] 26) := ⟨_, rfl⟩
    have k2 := ownK_empty w1
    rw [← hw2] at k2
    have b12 : Below w1.heap.size w1 w2 := by rw [hw2]; exact (Below.refl _ _).alloc (Nat.le_refl _) _
    have HSZ := (show Hid _ from hsz)
    clear hs' hsz hM
    have hsz2 : IntKind.i64.wrap (mtu - 20) = mtu - 20 := by rw [IntKind.wrap_i64]; have := HMM.out; omega
    go_wp2_with fail
    rw [HSZ.out, ← hw2]
    clear hw2
    go_loopw [8, 9] (fun out fr wr => ∃ (j : Nat) (ao : Option Addr) (co : Nat), (j = 0 ∨ (j - 1) * s < n) ∧ fr = .int .i64 ((j * s : Nat) : Int) ∧ out = .slice ao j co ∧ OwnK wr w1.heap.size ao j co (rcL sr ds pr tt id false mo o b off c n s j) ∧ Below w1.heap.size w1 wr) (fun _ fr _ => n + s - (intOf fr).toNat)
    case atStart => exact ⟨0, _, 0, .inl rfl, by simp, rfl, k2, b12⟩
    case round =>
      obtain ⟨j, ao, co, hj, rfl, rfl, hown, hbel⟩ := hrel
      obtain ⟨f, hf⟩ : ∃ f, f = j * s := ⟨_, rfl⟩
      rw [← hf]
      have HF := (show Hid _ from hf)
      have hfj : j ≤ f := by rw [hf]; exact Nat.le_mul_of_pos_right _ hs1'
      have hjs : (j + 1) * s = f + s := by rw [Nat.add_mul, hf]; omega
      have hfb : f ≤ n + s := by
        rcases hj with h | h
        · subst h; simp at hf; omega
        · have : (j - 1) * s + s = f ∨ j = 0 := by
            cases j with
            | zero => exact .inr rfl
            | succ j => left; rw [hf, Nat.add_mul]; simp
          rcases this with h2 | h2
          · omega
          · subst h2; simp at hf; omega
      have HJS := (show Hid _ from hjs)
      have HJ := (show Hid _ from hj)
      have hXr := hX1.below hbel
      clear hf hjs hj
      have x8 := hXr.cell 8 _ rfl
      by_cases hfn : f < n
      · have hfn' : (f : Int) < (n : Int) := by omega
        have hXa : ∀ cs, Stc (wr.alloc (.cells cs 26)) w.heap.size [.int .u32 (sr : Nat), .int .u32 (ds : Nat), .int .u8 (pr : Nat), .int .u8 (tt : Nat), .int .u16 (id : Nat), .bool false, .bool mo, .int .i64 ((o : Nat) : Int), .slice (some ⟨b, off, none⟩) n c] := fun cs => hXr.below ((Below.refl _ _).alloc (Nat.le_refl _) _)
        have y7 := fun cs => (hXa cs).cell 7 _ rfl
        have y8 := fun cs => (hXa cs).cell 8 _ rfl
        have x0 := hXr.cell 0 _ rfl
        have x1 := hXr.cell 1 _ rfl
        have x2 := hXr.cell 2 _ rfl
        have x3 := hXr.cell 3 _ rfl
        have x4 := hXr.cell 4 _ rfl
        have x5 := hXr.cell 5 _ rfl
        have x6 := hXr.cell 6 _ rfl
        have x7 := hXr.cell 7 _ rfl
        by_cases hts : f + s < n
        case pos =>
          have hm1 : (f : Int) + (s : Int) < (n : Int) := by omega
          have hsl0 := slice_lhE b off n c f (f + s) (by omega) (by omega)
          have hsl : ∀ w, (Instr.slice 24 (.slice (some ⟨b, off, none⟩) n c) (some (.int .i64 (f : Int))) (some (.int .i64 ((f : Int) + (s : Int)))) none).run Try.prog w = .ok (.slice (some ⟨b, off + f, none⟩) s (c - f)) w := by intro w; have := hsl0 w; simpa using this
          clear hsl0
          have HY : Hid (rcP sr ds pr tt id false mo o b off c n s j = ⟨sr, ds, pr, tt, id, false, true, (o : Int) + (f : Int), some ⟨b, off + f, none⟩, s, c - f⟩) := by
            show _ = _
            unfold rcP
            rw [HJS.out, ← HF.out, show min (f + s) n - f = s by omega, decide_eq_true hts]
            simp
          have hA1 : OwnK ((wr.alloc (.cells #[.int .u32 (sr : Nat), .int .u32 (ds : Nat), .int .u8 (pr : Nat), .int .u8 (tt : Nat), .int .u16 (id : Nat), .bool false, .bool true, .int .i64 ((o : Int) + (f : Int)), .slice (some ⟨b, off + f, none⟩) s (c - f)] 26)).alloc (.cells #[.int .u32 (sr : Nat), .int .u32 (ds : Nat), .int .u8 (pr : Nat), .int .u8 (tt : Nat), .int .u16 (id : Nat), .bool false, .bool true, .int .i64 ((o : Int) + (f : Int)), .slice (some ⟨b, off + f, none⟩) s (c - f)] 26)) w1.heap.size ao j co (rcL sr ds pr tt id false mo o b off c n s j) := (hown.below ((Below.refl _ _).alloc (Nat.le_refl _) _)).below ((Below.refl _ _).alloc (Nat.le_refl _) _)
          have hA2 := Stc.new (wr.alloc (.cells #[.int .u32 (sr : Nat), .int .u32 (ds : Nat), .int .u8 (pr : Nat), .int .u8 (tt : Nat), .int .u16 (id : Nat), .bool false, .bool true, .int .i64 ((o : Int) + (f : Int)), .slice (some ⟨b, off + f, none⟩) s (c - f)] 26)) (Pk.cells ⟨sr, ds, pr, tt, id, false, true, (o : Int) + (f : Int), some ⟨b, off + f, none⟩, s, c - f⟩) 26 ((wr.alloc (.cells #[.int .u32 (sr : Nat), .int .u32 (ds : Nat), .int .u8 (pr : Nat), .int .u8 (tt : Nat), .int .u16 (id : Nat), .bool false, .bool true, .int .i64 ((o : Int) + (f : Int)), .slice (some ⟨b, off + f, none⟩) s (c - f)] 26)).alloc (.cells #[.int .u32 (sr : Nat), .int .u32 (ds : Nat), .int .u8 (pr : Nat), .int .u8 (tt : Nat), .int .u16 (id : Nat), .bool false, .bool true, .int .i64 ((o : Int) + (f : Int)), .slice (some ⟨b, off + f, none⟩) s (c - f)] 26)) rfl
          have hA3 : (wr.alloc (.cells #[.int .u32 (sr : Nat), .int .u32 (ds : Nat), .int .u8 (pr : Nat), .int .u8 (tt : Nat), .int .u16 (id : Nat), .bool false, .bool true, .int .i64 ((o : Int) + (f : Int)), .slice (some ⟨b, off + f, none⟩) s (c - f)] 26)).heap.size = wr.heap.size + 1 := by simp
          rw [hA3] at hA2
          clear hA3
          have hzr := hbel.size
          have bAA : Below w1.heap.size w1 ((wr.alloc (.cells #[.int .u32 (sr : Nat), .int .u32 (ds : Nat), .int .u8 (pr : Nat), .int .u8 (tt : Nat), .int .u16 (id : Nat), .bool false, .bool true, .int .i64 ((o : Int) + (f : Int)), .slice (some ⟨b, off + f, none⟩) s (c - f)] 26)).alloc (.cells #[.int .u32 (sr : Nat), .int .u32 (ds : Nat), .int .u8 (pr : Nat), .int .u8 (tt : Nat), .int .u16 (id : Nat), .bool false, .bool true, .int .i64 ((o : Int) + (f : Int)), .slice (some ⟨b, off + f, none⟩) s (c - f)] 26)) := (hbel.alloc hzr _).alloc (by simp; omega) _
          go_wp2_with (at_builtin; go_must (refine app_listK rfl _ _ rfl w1.heap.size ao j co (rcL sr ds pr tt id false mo o b off c n s j) rfl hA1 (wr.heap.size + 1) ⟨sr, ds, pr, tt, id, false, true, (o : Int) + (f : Int), some ⟨b, off + f, none⟩, s, c - f⟩ rfl hA2 (by omega) (by simp; omega) ?_))
          intro a2 c2 w2 ho2 hg2
          rw [← HY.out, ← rcL_succ] at ho2
          have b2 : Below w1.heap.size w1 w2 := bAA.trans (hA1.up hg2 (by simp; omega))
          clear hA1 hA2 hg2 bAA hsl hown
          go_wp2
          go_roundw
          case rel => exact ⟨j + 1, a2, c2, .inr (by rw [Nat.add_sub_cancel, ← HF.out]; exact hfn), by rw [HJS.out]; simp, rfl, ho2, b2⟩
          case measure => simp [intOf]; omega
        case neg =>
          have hm1 : ¬ (f : Int) + (s : Int) < (n : Int) := by omega
          have hsl := slice_fromE b off n c f (by omega) (by omega)
          have HY : Hid (rcP sr ds pr tt id false mo o b off c n s j = ⟨sr, ds, pr, tt, id, false, mo, (o : Int) + (f : Int), some ⟨b, off + f, none⟩, (n - f), c - f⟩) := by
            show _ = _
            unfold rcP
            rw [HJS.out, ← HF.out, show min (f + s) n - f = (n - f) by omega, decide_eq_false hts]
            simp
          have hA1 : OwnK ((wr.alloc (.cells #[.int .u32 (sr : Nat), .int .u32 (ds : Nat), .int .u8 (pr : Nat), .int .u8 (tt : Nat), .int .u16 (id : Nat), .bool false, .bool mo, .int .i64 ((o : Int) + (f : Int)), .slice (some ⟨b, off + f, none⟩) (n - f) (c - f)] 26)).alloc (.cells #[.int .u32 (sr : Nat), .int .u32 (ds : Nat), .int .u8 (pr : Nat), .int .u8 (tt : Nat), .int .u16 (id : Nat), .bool false, .bool mo, .int .i64 ((o : Int) + (f : Int)), .slice (some ⟨b, off + f, none⟩) (n - f) (c - f)] 26)) w1.heap.size ao j co (rcL sr ds pr tt id false mo o b off c n s j) := (hown.below ((Below.refl _ _).alloc (Nat.le_refl _) _)).below ((Below.refl _ _).alloc (Nat.le_refl _) _)
          have hA2 := Stc.new (wr.alloc (.cells #[.int .u32 (sr : Nat), .int .u32 (ds : Nat), .int .u8 (pr : Nat), .int .u8 (tt : Nat), .int .u16 (id : Nat), .bool false, .bool mo, .int .i64 ((o : Int) + (f : Int)), .slice (some ⟨b, off + f, none⟩) (n - f) (c - f)] 26)) (Pk.cells ⟨sr, ds, pr, tt, id, false, mo, (o : Int) + (f : Int), some ⟨b, off + f, none⟩, (n - f), c - f⟩) 26 ((wr.alloc (.cells #[.int .u32 (sr : Nat), .int .u32 (ds : Nat), .int .u8 (pr : Nat), .int .u8 (tt : Nat), .int .u16 (id : Nat), .bool false, .bool mo, .int .i64 ((o : Int) + (f : Int)), .slice (some ⟨b, off + f, none⟩) (n - f) (c - f)] 26)).alloc (.cells #[.int .u32 (sr : Nat), .int .u32 (ds : Nat), .int .u8 (pr : Nat), .int .u8 (tt : Nat), .int .u16 (id : Nat), .bool false, .bool mo, .int .i64 ((o : Int) + (f : Int)), .slice (some ⟨b, off + f, none⟩) (n - f) (c - f)] 26)) rfl
          have hA3 : (wr.alloc (.cells #[.int .u32 (sr : Nat), .int .u32 (ds : Nat), .int .u8 (pr : Nat), .int .u8 (tt : Nat), .int .u16 (id : Nat), .bool false, .bool mo, .int .i64 ((o : Int) + (f : Int)), .slice (some ⟨b, off + f, none⟩) (n - f) (c - f)] 26)).heap.size = wr.heap.size + 1 := by simp
          rw [hA3] at hA2
          clear hA3
          have hzr := hbel.size
          have bAA : Below w1.heap.size w1 ((wr.alloc (.cells #[.int .u32 (sr : Nat), .int .u32 (ds : Nat), .int .u8 (pr : Nat), .int .u8 (tt : Nat), .int .u16 (id : Nat), .bool false, .bool mo, .int .i64 ((o : Int) + (f : Int)), .slice (some ⟨b, off + f, none⟩) (n - f) (c - f)] 26)).alloc (.cells #[.int .u32 (sr : Nat), .int .u32 (ds : Nat), .int .u8 (pr : Nat), .int .u8 (tt : Nat), .int .u16 (id : Nat), .bool false, .bool mo, .int .i64 ((o : Int) + (f : Int)), .slice (some ⟨b, off + f, none⟩) (n - f) (c - f)] 26)) := (hbel.alloc hzr _).alloc (by simp; omega) _
          go_wp2_with (at_builtin; go_must (refine app_listK rfl _ _ rfl w1.heap.size ao j co (rcL sr ds pr tt id false mo o b off c n s j) rfl hA1 (wr.heap.size + 1) ⟨sr, ds, pr, tt, id, false, mo, (o : Int) + (f : Int), some ⟨b, off + f, none⟩, (n - f), c - f⟩ rfl hA2 (by omega) (by simp; omega) ?_))
          intro a2 c2 w2 ho2 hg2
          rw [← HY.out, ← rcL_succ] at ho2
          have b2 : Below w1.heap.size w1 w2 := bAA.trans (hA1.up hg2 (by simp; omega))
          clear hA1 hA2 hg2 bAA hsl hown
          go_wp2
          go_roundw
          case rel => exact ⟨j + 1, a2, c2, .inr (by rw [Nat.add_sub_cancel, ← HF.out]; exact hfn), by rw [HJS.out]; simp, rfl, ho2, b2⟩
          case measure => simp [intOf]; omega
      · have hfn' : ¬ (f : Int) < (n : Int) := by omega
        have hjn : j = cutN n s := by
          have hF := HF.out
          have hJ := HJ.out
          unfold cutN
          symm
          apply Nat.div_eq_of_lt_le
          · rcases hJ with h | h
            · subst h; simp
            · cases j with
              | zero => simp
              | succ j =>
                rw [Nat.add_sub_cancel] at h
                rw [Nat.add_mul]
                omega
          · rw [HJS.out]; omega
        subst hjn
        have hK := hown.base bb1.size
        have bb2 : Below w.heap.size w wr := bb1.trans (hbel.mono bb1.size)
        have hsr := hs1.below hbel
        have hPc : PcR wr sr ds pr tt id false mo (o : Int) zs mtu (spP mtu zs.length) (rcL sr ds pr tt id false mo o b off c n s (cutN n s)) := by
          have := rc_pieces (sr := sr) (ds := ds) (pr := pr) (tt := tt) (id := id) (mo := mo) (o := o) (mtu := mtu) (show Sl wr (some ⟨b, off, none⟩) zs.length c zs by rw [hl]; exact hsr) (by rw [hl]; exact HMB.out) (by omega) (by omega)
          rw [HSS.out, hl] at this
          rw [hl]
          exact this
        have HFA := (show Hid _ from (⟨⟨ao, co, rcL sr ds pr tt id false mo o b off c n s (cutN n s), by rw [HE.out, rcL_len]; rfl, by rw [rcL_len]; exact hK, fun h => absurd HE.out h, fun _ => ⟨hPc, by rw [rcL_len]; unfold spK; rw [if_neg (by omega), HSS.out, hl]⟩, fun x hx b' off' hb => ⟨off, by obtain ⟨j, _, rfl⟩ := List.mem_map.1 hx; unfold rcP at hb; injection hb with hb; injection hb with hb; rw [hb]⟩⟩, bb2⟩ : RspP (some ⟨b, off, none⟩) sr ds pr tt id false mo (o : Int) zs mtu w (.returned (.tuple #[.slice ao (cutN n s) co, .int .i64 0])) wr))
        clear hown hbel hX1 hK hPc bb2 hsr
        generalize cutN n s = KK at *
        go_wp2
        go_ret2
        exact HFA.out
end Go.Proofs.Ytnbagloifbllbaa
