/-
  Whatever the input, trunklinelaw11.ReasmApart answers true and leaves what it was handed as it was.
  (The statement is Rows.ReasmApartSaid; no condition of our own.)
-/
import Derived.Test.YtnbagloifbllbaaZA1
import Derived.Test.YtnbagloifbllbaaRows
import Derived.ProofKit
import Derived.OpenShut
import Derived.ShutString
import Derived.ChangeOld
import Derived.SizedLaws
namespace Go.Proofs.Ytnbagloifbllbaa
open Go.RowKit
theorem one9 (x : Pk) : ∀ v ∈ x.cells, v.oneCell' = true := pk_one x
theorem size9 : (Try.prog.info? 26).map (·.size) = some 9 := by kernel_rfl
set_option maxRecDepth 100000 in
set_option maxHeartbeats 2000000 in
theorem walk_ReasmApart (a : Option Addr) (n c : Nat) (zs : List Nat) (b : Option Addr) (bn bc : Nat) (ys : List Nat) (ta : Option Addr) (tn tc : Nat) (ts : List Bool) (w : World) (h0 : Sl w a n c zs ∧ c * 1 ≤ 140737488351232) (h1 : Sl w b bn bc ys ∧ bc * 1 ≤ 140737488351232) (h2 : SlBo w ta tn tc ts) :
    Calls Try.prog 4 #[.slice a n c, .slice b bn bc, .slice ta tn tc] w fun e w' => e = .returned (.bool true) ∧ Below w.heap.size w w' := by
  obtain ⟨hsl, _⟩ := h0
  obtain ⟨hsm, _⟩ := h1
  obtain rfl := hsl.len
  obtain rfl := hsm.len
  have hz1 := hsl.small
  have hy1 := hsm.small
  by_cases hbig : 400 < zs.length
  · have hbi : (400 : Int) < (zs.length : Int) := by omega
    go_enter Try.func4, Try.ntmps4
    go_wp2_with fail
    refine (live11_any w).mono ?_
    rintro e w1 ⟨rfl, b1⟩
    go_wp2
    go_ret
    exact ⟨rfl, b1⟩
  by_cases hbig2 : 400 < ys.length
  · have hbi : ¬ (400 : Int) < (zs.length : Int) := by omega
    have hbi2 : (400 : Int) < (ys.length : Int) := by omega
    go_enter Try.func4, Try.ntmps4
    go_wp2_with fail
    refine (live11_any w).mono ?_
    rintro e w1 ⟨rfl, b1⟩
    go_wp2
    go_ret
    exact ⟨rfl, b1⟩
  have hbi : ¬ (400 : Int) < (zs.length : Int) := by omega
  have hbi2 : ¬ (400 : Int) < (ys.length : Int) := by omega
  obtain ⟨W1, hW1⟩ : ∃ W, W = w.alloc (.cells #[.int .u32 0, .int .u32 0, .int .u8 0, .int .u8 0, .int .u16 1, .bool false, .bool false, .int .i64 0, .slice a zs.length c] 26) := ⟨_, rfl⟩
  obtain ⟨W0, hW0⟩ : ∃ W, W = W1.alloc (.cells #[.int .u32 0, .int .u32 0, .int .u8 0, .int .u8 0, .int .u16 2, .bool false, .bool false, .int .i64 0, .slice b ys.length bc] 26) := ⟨_, rfl⟩
  have hzW : W1.heap.size = w.heap.size + 1 := by rw [hW1]; simp
  have b01 : Below w.heap.size w W1 := by rw [hW1]; exact (Below.refl _ _).alloc (Nat.le_refl _) _
  have b10 : Below W1.heap.size W1 W0 := by rw [hW0]; exact (Below.refl _ _).alloc (Nat.le_refl _) _
  have b0 : Below w.heap.size w W0 := b01.trans (b10.mono b01.size)
  have stP := (Stc.new w [.int .u32 0, .int .u32 0, .int .u8 0, .int .u8 0, .int .u16 1, .bool false, .bool false, .int .i64 0, .slice a zs.length c] 26 W1 hW1).below b10
  have stQ := Stc.new W1 [.int .u32 0, .int .u32 0, .int .u8 0, .int .u8 0, .int .u16 2, .bool false, .bool false, .int .i64 0, .slice b ys.length bc] 26 W0 hW0
  rw [hzW] at stQ
  rw [hW1] at hW0
  have HSP := (show Hid _ from stP)
  have HSQ := (show Hid _ from stQ)
  have HB0 := (show Hid _ from b0)
  have HTS := (show Hid _ from h2)
  clear hzW hW1 b01 b10 stP stQ b0 h2
  go_enter Try.func4, Try.ntmps4
  go_wp2_with fail
  rw [← hW0]
  clear hW0
  refine (ap_split 1 a zs.length c zs W0 (hsl.below HB0.out) (by omega)).mono ?_
  rintro e w2 ⟨⟨gl, K, lc, ps, P, rfl, hK1, hKb, hKc, hKl, hgl, hcl, hPc, hF, hxa⟩, b2⟩
  have stQ2 := HSQ.out.below b2
  have HL := (show Hid _ from And.intro hKl (And.intro hgl (And.intro hcl (And.intro hPc (And.intro hF (And.intro hxa b2))))))
  clear hKl hgl hcl hPc hF hxa b2
  have q0 := stQ2.cell 0 _ rfl
  have q1 := stQ2.cell 1 _ rfl
  have q2 := stQ2.cell 2 _ rfl
  have q3 := stQ2.cell 3 _ rfl
  have q4 := stQ2.cell 4 _ rfl
  have q5 := stQ2.cell 5 _ rfl
  have q6 := stQ2.cell 6 _ rfl
  have q7 := stQ2.cell 7 _ rfl
  have q8 := stQ2.cell 8 _ rfl
  clear stQ2
  go_wp2_with fail
  refine (ap_split 2 b ys.length bc ys w2 ((hsm.below HB0.out).below HL.out.2.2.2.2.2.2) (by omega)).mono ?_
  rintro e w3 ⟨⟨gm, M, mc, qs, Pm, rfl, hM1, hMb, hMc, hMl, hgm, hcm, hPm, hFm, hxb⟩, b3⟩
  obtain ⟨hKl, hgl, hcl, hPc, hF, hxa, b2⟩ := HL.out
  clear HL q0 q1 q2 q3 q4 q5 q6 q7 q8
  have bb2 := HB0.out.trans (b2.mono HB0.out.size)
  have bb3 := bb2.trans (b3.mono bb2.size)
  have hgl3 : gl < w3.heap.size := Nat.lt_of_lt_of_le hgl b3.size
  have hcl3 : ∀ (j : Nat) (x : Pk), ps[j]? = some x → ∀ (i : Nat) u, x.cells[i]? = some u → w3.cell? ⟨gl, j * 9 + i, none⟩ = some u := fun j x hx i u hu => (b3.cell (p := ⟨gl, j * 9 + i, none⟩) hgl).trans (hcl j x hx i u hu)
  have hxa3 : ∀ x ∈ ps, 0 < x.n → ∀ b off, x.a = some ⟨b, off, none⟩ → b < w3.heap.size := fun x hx h0 b off hb => Nat.lt_of_lt_of_le (hxa x hx h0 b off hb) (Nat.le_trans b2.size b3.size)
  have hxb3 : ∀ x ∈ qs, 0 < x.n → ∀ b off, x.a = some ⟨b, off, none⟩ → b < w3.heap.size := fun x hx h0 b off hb => Nat.lt_of_lt_of_le (hxb x hx h0 b off hb) b3.size
  have HP3 : Hid (Stc w3 w.heap.size _) := (HSP.out.below b2).below b3
  have HQ3 : Hid (Stc w3 (w.heap.size + 1) _) := (HSQ.out.below b2).below b3
  have HA3 : Hid (Sl w3 a zs.length c zs) := hsl.below bb3
  have HB3 : Hid (Sl w3 b ys.length bc ys) := hsm.below bb3
  have HT3 : Hid (SlBo w3 ta tn tc ts) := HTS.out.below bb3
  have HBB : Hid (Below w.heap.size w w3) := bb3
  have HKL := (show Hid _ from hKl)
  have HCL := (show Hid _ from hcl3)
  have HPC := (show Hid _ from hPc.below b3)
  have HF1 := (show Hid _ from hF)
  have HXA := (show Hid _ from hxa3)
  have HML := (show Hid _ from hMl)
  have HCM := (show Hid _ from hcm)
  have HPM := (show Hid _ from hPm)
  have HF2 := (show Hid _ from hFm)
  have HXB := (show Hid _ from hxb3)
  clear hKl hgl hcl hPc hF hxa b2 bb2 bb3 b3 hcl3 hxa3 hxb3 hMl hcm hPm hFm hxb HSP HSQ HB0 HTS hsl hsm
  go_wp2_with fail
  refine (rnew_any w3).mono ?_
  rintro e w4 ⟨rfl, P4, b4⟩
  obtain ⟨D1, hD1⟩ : ∃ D, D = cutD 0 0 0 0 1 K P zs := ⟨_, rfl⟩
  obtain ⟨D2, hD2⟩ : ∃ D, D = cutD 0 0 0 0 2 M Pm ys := ⟨_, rfl⟩
  have HS0 : Hid (ApS w3 w4 (fun g => if g = w3.heap.size then Role.pool else .no) w3.heap.size 0 [] K M D1 D2 zs ys 0 0 none 0 []) := by
    refine ⟨b4, P4, fun b hb => if_neg (by omega), fun e he => (by cases he), ?_, ?_, OwnG.nil _ _, fun g hg => (by cases hg), List.nodup_nil, fun x hx => (by cases hx), ?_⟩
    · show [] = _
      unfold partD
      split <;> rfl
    · show [] = _
      unfold partD
      split <;> rfl
    · rw [if_neg (by omega), if_neg (by omega)]; rfl
  have HD1 := (show Hid _ from hD1)
  have HD2 := (show Hid _ from hD2)
  clear hD1 hD2 P4 b4
  go_wp2_with fail
  go_loopw [9, 11, 14, 15, 16, 17, 18, 19, 20] (fun lv mv gv iv _ _ _ _ _ wr => ∃ i j kd hs la lc ma mc ga gc G, ApL w3 w3.heap.size gl gm K M D1 D2 zs ys i j kd hs lv mv gv iv la lc ma mc ga gc G wr) (fun lv mv _ _ _ _ _ _ _ _ => lenV lv + lenV mv)
  case atStart => exact ⟨0, 0, _, [], _, lc, _, mc, none, 0, [], rfl, rfl, rfl, rfl, fun _ => by simp, fun _ => by simp, by omega, by omega, by omega, by omega, HS0.out⟩
  case round =>
    obtain ⟨i, j, kd, hs, la, lc', ma, mc', ga, gc, G, hL⟩ := hrel
    obtain ⟨rfl, rfl, rfl, rfl, hla, hma, hlc, hmc, hiK, hjM, hS⟩ := hL
    have HS := (show Hid _ from hS)
    obtain ⟨L1, hL1⟩ : ∃ L1, L1 = K - i := ⟨_, rfl⟩
    obtain ⟨L2, hL2⟩ : ∃ L2, L2 = M - j := ⟨_, rfl⟩
    obtain ⟨t, ht⟩ : ∃ t, t = i + j := ⟨_, rfl⟩
    rw [← hL1, ← hL2, ← ht]
    rw [← hL1] at hlc
    rw [← hL2] at hmc
    have HL1 := (show Hid _ from hL1)
    have HL2 := (show Hid _ from hL2)
    have HT := (show Hid _ from ht)
    have HLA := (show Hid _ from hla)
    have HMA := (show Hid _ from hma)
    have htb : t ≤ 2000 := by omega
    clear hS hL1 hL2 ht hla hma HS0
    by_cases e1 : 0 < L1
    · have e1i : (0 : Int) < (L1 : Int) := by omega
      by_cases e2 : 0 < L2
      · have e2i : ¬ ((L2 : Nat) : Int) = 0 := by omega
        have e2j : (0 : Int) < (L2 : Int) := by omega
        by_cases e3 : t < tn
        · have e3i : (t : Int) < (tn : Int) := by omega
          rcases (HT3.out.below HS.out.bel).at_ with h9 | ⟨tb, to, rfl, _, htc⟩
          · omega
          obtain ⟨bt, hbt⟩ : ∃ bt, ts[t]? = some bt := ⟨_, List.getElem?_eq_getElem (by rw [HT3.out.len]; exact e3)⟩
          have tcell := htc t bt hbt
          clear htc hbt
          cases bt with
          | true =>
            have hiK2 : i < K := by have := HL1.out; omega
            obtain rfl := HLA.out hiK2
            obtain ⟨x, hx⟩ : ∃ x, ps[i]? = some x := ⟨_, List.getElem?_eq_getElem (by rw [HKL.out]; exact hiK2)⟩
            have HX := (show Hid _ from hx)
            obtain ⟨oo, hoo⟩ : ∃ oo, oo = i * 9 := ⟨_, rfl⟩
            rw [← hoo]
            have HKC : Hid (∀ W, Below w3.heap.size w3 W → W.cell? ⟨gl, oo, none⟩ = some (.int .u32 (x.sr : Nat)) ∧ W.cell? ⟨gl, oo + 1, none⟩ = some (.int .u32 (x.ds : Nat)) ∧ W.cell? ⟨gl, oo + 2, none⟩ = some (.int .u8 (x.pr : Nat)) ∧ W.cell? ⟨gl, oo + 3, none⟩ = some (.int .u8 (x.tt : Nat)) ∧ W.cell? ⟨gl, oo + 4, none⟩ = some (.int .u16 (x.id : Nat)) ∧ W.cell? ⟨gl, oo + 5, none⟩ = some (.bool x.dn) ∧ W.cell? ⟨gl, oo + 6, none⟩ = some (.bool x.mo) ∧ W.cell? ⟨gl, oo + 7, none⟩ = some (.int .i64 x.of) ∧ W.cell? ⟨gl, oo + 8, none⟩ = some (.slice x.a x.n x.c)) := by
              show ∀ W, _
              intro W hW
              have hc : ∀ q u, x.cells[q]? = some u → W.cell? ⟨gl, oo + q, none⟩ = some u := fun q u hu => by rw [hoo]; exact (hW.cell (p := ⟨gl, i * 9 + q, none⟩) hgl3).trans (HCL.out i x hx q u hu)
              exact ⟨hc 0 _ rfl, hc 1 _ rfl, hc 2 _ rfl, hc 3 _ rfl, hc 4 _ rfl, hc 5 _ rfl, hc 6 _ rfl, hc 7 _ rfl, hc 8 _ rfl⟩
            have HOO := (show Hid _ from hoo)
            obtain ⟨a1, hs1, ha1⟩ := slice_oneK gl oo L1 lc' (by omega) hlc
            have HA1 := (show Hid _ from ha1)
            clear hx hoo ha1
            have hbel := HS.out.bel
            have hpw := HS.out.pool.lt
            obtain ⟨wx, hwx⟩ : ∃ W, W = wr.alloc (.cells #[.int .u32 0, .int .u32 0, .int .u8 0, .int .u8 0, .int .u16 0, .bool false, .bool false, .int .i64 0, .slice none 0 0] 26) := ⟨_, rfl⟩
            have stx := Stc.new wr [.int .u32 0, .int .u32 0, .int .u8 0, .int .u8 0, .int .u16 0, .bool false, .bool false, .int .i64 0, .slice none 0 0] 26 wx hwx
            have bx : Below wr.heap.size wr wx.drew := by rw [hwx]; exact ((Below.refl _ _).alloc (Nat.le_refl _) _).drew
            have HBX := (show Hid _ from And.intro stx (And.intro bx (And.intro hbel hpw)))
            clear stx bx hbel hpw
            go_wp2_with fail
            rw [← hwx]
            clear hwx
            refine wp_region_seq mixedX [true, false, false, true] (fun l W => (l 5 = false → W = wx.drew) ∧ (l 5 = true → W = wx.drew.setCells wr.heap.size 0 x.cells)) [(83, .slice (some ⟨gl, oo, none⟩) L1 lc'), (84, .pointer (some ⟨gl, oo, none⟩)), (85, .agg #[.int .u32 (x.sr : Nat), .int .u32 (x.ds : Nat), .int .u8 (x.pr : Nat), .int .u8 (x.tt : Nat), .int .u16 (x.id : Nat), .bool x.dn, .bool x.mo, .int .i64 x.of, .slice x.a x.n x.c]), (86, .slice (some ⟨gl, oo, none⟩) L1 lc'), (87, .slice (some a1) (L1 - 1) (lc' - 1)), (9, .slice (some a1) (L1 - 1) (lc' - 1))] ?Z1 ?hZ1 (by kernel_rfl) (by kernel_rfl) (by kernel_rfl) (by kernel_rfl) ?h01 ?hops1 ?he1
            case hZ1 => simp only [List.foldl_cons, List.foldl_nil, List.setIfInBounds_toArray, List.set_cons_zero, List.set_cons_succ]; rfl
            case h01 => exact ⟨fun _ => rfl, fun e => (by cases e)⟩
            case hops1 =>
              refine ⟨?_, ?_, ?_, ?_, ?_, ?_, ?_, trivial⟩
              · exact seq_val (by rfl) (fun l W hg => ⟨fun e => hg.1 (by simpa [updL] using e), fun e => hg.2 (by simpa [updL] using e)⟩) (fun l W hl hc hg => by go_simp; (try with_reducible rfl); (try omega))
              · exact seq_val (by rfl) (fun l W hg => ⟨fun e => hg.1 (by simpa [updL] using e), fun e => hg.2 (by simpa [updL] using e)⟩) (fun l W hl hc hg => by go_simp; (try with_reducible rfl); (try omega))
              · exact seq_val (by rfl) (fun l W hg => ⟨fun e => hg.1 (by simpa [updL] using e), fun e => hg.2 (by simpa [updL] using e)⟩) (fun l W hl hc hg => by have h5 : l 5 = false := (by cases h5 : l 5 with | false => rfl | true => exact absurd (hc 5 2 (by kernel_rfl) h5) (by rw [hl]; decide)); obtain rfl := hg.1 h5; obtain ⟨d0, d1, d2, d3, d4, d5, d6, d7, d8⟩ := HKC.out wx.drew (HBX.out.2.2.1.trans (HBX.out.2.1.mono (Nat.le_of_lt HBX.out.2.2.2))); go_simp; (try with_reducible rfl); (try omega))
              · exact seq_val (by rfl) (fun l W hg => ⟨fun e => hg.1 (by simpa [updL] using e), fun e => hg.2 (by simpa [updL] using e)⟩) (fun l W hl hc hg => by go_simp; (try with_reducible rfl); (try omega))
              · exact seq_val (by rfl) (fun l W hg => ⟨fun e => hg.1 (by simpa [updL] using e), fun e => hg.2 (by simpa [updL] using e)⟩) (fun l W hl hc hg => by go_simp; (try with_reducible rfl); (try omega))
              · exact seq_skip (by rfl) rfl (fun l W hl hd hc hg => by
                  obtain rfl := hg.1 hl
                  refine ⟨_, run_storeX rfl (b := wr.heap.size) (k := 0) (by rfl) (cs := x.cells) (by rfl) (by exact (HBX.out.1.below (Below.refl _ _).drew).there) (by kernel_rfl) (one9 x), fun e => (by simp [updL] at e), fun _ => rfl⟩)
              · exact seq_val (by rfl) (fun l W hg => ⟨fun e => hg.1 (by simpa [updL] using e), fun e => hg.2 (by simpa [updL] using e)⟩) (fun l W hl hc hg => by go_simp; (try with_reducible rfl); (try omega))
            case he1 =>
            intro l W6 hall hg
            have hW6 := hg.2 (hall 5 (by decide))
            clear hg hall
            obtain ⟨stx, bx, hbel, hpw⟩ := HBX.out
            have st6 : Stc W6 wr.heap.size x.cells := by rw [hW6]; exact (stx.below (Below.refl _ _).drew).put x.cells rfl
            have b6 : Below wr.heap.size wr W6 := by rw [hW6]; exact bx.trans ((fr_setCellsX wr.heap.size x.cells 0 wx.drew).below wr.heap.size bx.size (fun k hk => by omega))
            have x0 : W6.cell? ⟨wr.heap.size, 0, none⟩ = some _ := st6.cell 0 _ rfl
            have x1 : W6.cell? ⟨wr.heap.size, 1, none⟩ = some _ := st6.cell 1 _ rfl
            have x2 : W6.cell? ⟨wr.heap.size, 2, none⟩ = some _ := st6.cell 2 _ rfl
            have x3 : W6.cell? ⟨wr.heap.size, 3, none⟩ = some _ := st6.cell 3 _ rfl
            have x4 : W6.cell? ⟨wr.heap.size, 4, none⟩ = some _ := st6.cell 4 _ rfl
            have x5 : W6.cell? ⟨wr.heap.size, 5, none⟩ = some _ := st6.cell 5 _ rfl
            have x6 : W6.cell? ⟨wr.heap.size, 6, none⟩ = some _ := st6.cell 6 _ rfl
            have x7 : W6.cell? ⟨wr.heap.size, 7, none⟩ = some _ := st6.cell 7 _ rfl
            have x8 : W6.cell? ⟨wr.heap.size, 8, none⟩ = some _ := st6.cell 8 _ rfl
            have hcall := ap_step HS.out.pool HS.out.ok (K := K) (idn := 1) (P := P) (zs := zs) (mtu := 40) (ps := ps) (i := i) (by rw [← HD1.out]; exact HS.out.l1) (by first | exact .inl rfl | exact .inr rfl) (HPC.out.below hbel) HKL.out HF1.out (by omega) hiK2 x HX.out (fun h0 b off hb => HS.out.low b (HXA.out x (List.mem_of_getElem? HX.out) h0 b off hb)) b6 (.agg #[.int .u32 (x.sr : Nat), .int .u32 (x.ds : Nat), .int .u8 (x.pr : Nat), .int .u8 (x.tt : Nat), .int .u16 (x.id : Nat), .bool x.dn, .bool x.mo, .int .i64 x.of, .slice x.a x.n x.c]) rfl
            have HC := (show Hid _ from hcall)
            have HB6 := (show Hid _ from b6)
            have HDR := (show Hid _ from hbel)
            clear hW6 stx bx hbel hpw st6 b6 hcall HBX HKC hs1
            go_wp2_with fail
            refine Calls.mono HC.out ?_
            rintro e w7 ⟨kd', hs', hP', hG', hok', hl1', hl2', hres⟩
            clear x0 x1 x2 x3 x4 x5 x6 x7 x8 HC
            have hS6 := HS.out.below HB6.out
            rw [← HD1.out] at hl1'
            rcases hres with ⟨hlt, rfl⟩ | ⟨hKe, a2, c2, rfl, hs2, ha2⟩
            · have hS7 := hS6.more hP' hG' hok' (i' := i + 1) (j' := j) hl1' ((hl2' (0, 0, 0, 2) (by decide)).trans hS6.l2) (fun e => by omega) (fun e => by omega) ⟨fun e => by omega, fun e => by omega⟩
              have hS8 := hS7.below ((Below.refl _ _).alloc (Nat.le_refl _) (.cells #[.int .u32 0, .int .u32 0, .int .u8 0, .int .u8 0, .int .u16 0, .bool false, .bool false, .int .i64 0, .slice none 0 0] 26))
              have H8 := (show Hid _ from hS8)
              clear hP' hG' hok' hl1' hl2' hS6 hS7 hS8 HB6
              go_wp2
              go_roundw
              case rel => exact ⟨i + 1, j, kd', hs', some a1, lc' - 1, ma, mc', ga, gc, G, by rw [HL1.out, Nat.sub_sub], by rw [HL2.out], rfl, by rw [HT.out]; go_num, fun h => by rw [HA1.out (by have := HL1.out; omega), HOO.out, Nat.add_mul], HMA.out, by have := HL1.out; omega, by have := HL2.out; omega, by omega, by omega, H8.out⟩
              case measure => simp [lenV]; omega
            · have hgot := hS6.got.fr hG'.fr (fun g hg hQ => hQ (hS6.gk g hg))
              have hGn : G.length ≤ 2 := by
                have := hS6.cnt
                split at this <;> split at this <;> omega
              obtain ⟨w8, hw8⟩ : ∃ W, W = w7.alloc (.cells #[.int .u32 0, .int .u32 0, .int .u8 0, .int .u8 0, .int .u16 1, .bool false, .bool false, .int .i64 0, .slice a2 zs.length c2] 26) := ⟨_, rfl⟩
              have hz8 : w8.heap.size = w7.heap.size + 1 := by rw [hw8]; simp
              have b78 : Below w7.heap.size w7 w8 := by rw [hw8]; exact (Below.refl _ _).alloc (Nat.le_refl _) _
              have b89 : Below w8.heap.size w8 (w8.alloc (.cells #[.int .u32 0, .int .u32 0, .int .u8 0, .int .u8 0, .int .u16 1, .bool false, .bool false, .int .i64 0, .slice a2 zs.length c2] 26)) := (Below.refl _ _).alloc (Nat.le_refl _) _
              have hRA := (hgot.below b78).below b89
              have hbA : w3.heap.size + 1 ≤ (w8.alloc (.cells #[.int .u32 0, .int .u32 0, .int .u8 0, .int .u8 0, .int .u16 1, .bool false, .bool false, .int .i64 0, .slice a2 zs.length c2] 26)).heap.size := by
                have := HS.out.pool.lt
                have := HB6.out.size
                have := hG'.fr.size
                have := b78.size
                simp
                omega
              have hRC : ∀ j u, (Pk.cells ⟨0, 0, 0, 0, 1, false, false, 0, a2, zs.length, c2⟩)[j]? = some u → (w8.alloc (.cells #[.int .u32 0, .int .u32 0, .int .u8 0, .int .u8 0, .int .u16 1, .bool false, .bool false, .int .i64 0, .slice a2 zs.length c2] 26)).cell? ((⟨w7.heap.size + 1, 0, none⟩ : Addr).add j) = some u := fun j u hu => by rw [Addr.add_mid, ← hz8]; exact (Stc.new w8 (Pk.cells ⟨0, 0, 0, 0, 1, false, false, 0, a2, zs.length, c2⟩) 26 _ rfl).range j u hu
              have bA9 : Below w7.heap.size w7 (w8.alloc (.cells #[.int .u32 0, .int .u32 0, .int .u8 0, .int .u8 0, .int .u16 1, .bool false, .bool false, .int .i64 0, .slice a2 zs.length c2] 26)) := b78.trans (b89.mono b78.size)
              rw [hw8] at hRA hbA hRC bA9
              have HRA := (show Hid _ from hRA)
              have HRC := (show Hid _ from hRC)
              have HM := (show Hid _ from And.intro hP' (And.intro hG' (And.intro hok' (And.intro hl1' (And.intro hl2' (And.intro hS6 (And.intro hs2 (And.intro ha2 bA9))))))))
              clear hP' hG' hok' hl1' hl2' hS6 hs2 ha2 b78 b89 hgot hz8 hRA hRC bA9 hw8
              go_wp2_with (first | (at_builtin; refine OwnG.wpl layPk rfl _ _ rfl rfl HRA.out ⟨0, 0, 0, 0, 1, false, false, 0, a2, zs.length, c2⟩ ⟨w7.heap.size + 1, 0, none⟩ (by first | rfl | simp) HRC.out (by unfold maxLen; omega) (by omega) hbA ?_) | fail)
              intro g9 c9 w9 ho9 hg9 hl9 _
              obtain ⟨hP', hG', hok', hl1', hl2', hS6, hs2, ha2, bA9⟩ := HM.out
              have hS9 := hS6.came hP' hG' hok' (i' := i + 1) (j' := j) hl1' ((hl2' (0, 0, 0, 2) (by decide)).trans hS6.l2) (fun e => by omega) (fun e => by omega) bA9 hs2 ha2 (.inl ⟨hKe, by omega, rfl, rfl, rfl⟩) ho9 hg9 (by simpa using hl9)
              have H9 := (show Hid _ from hS9)
              clear hP' hG' hok' hl1' hl2' hS6 hs2 ha2 bA9 hS9 HM HRA HRC hbA ho9 hg9 hl9 HB6
              go_wp2
              go_roundw
              case rel => exact ⟨i + 1, j, kd', hs', some a1, lc' - 1, ma, mc', some ⟨g9, 0, none⟩, c9, _, by rw [HL1.out, Nat.sub_sub], by rw [HL2.out], by rw [List.length_append]; rfl, by rw [HT.out]; go_num, fun h => by rw [HA1.out (by have := HL1.out; omega), HOO.out, Nat.add_mul], HMA.out, by have := HL1.out; omega, by have := HL2.out; omega, by omega, by omega, H9.out⟩
              case measure => simp [lenV]; omega
          | false =>
            have hiK2 : j < M := by have := HL2.out; omega
            obtain rfl := HMA.out hiK2
            obtain ⟨x, hx⟩ : ∃ x, qs[j]? = some x := ⟨_, List.getElem?_eq_getElem (by rw [HML.out]; exact hiK2)⟩
            have HX := (show Hid _ from hx)
            obtain ⟨oo, hoo⟩ : ∃ oo, oo = j * 9 := ⟨_, rfl⟩
            rw [← hoo]
            have HKC : Hid (∀ W, Below w3.heap.size w3 W → W.cell? ⟨gm, oo, none⟩ = some (.int .u32 (x.sr : Nat)) ∧ W.cell? ⟨gm, oo + 1, none⟩ = some (.int .u32 (x.ds : Nat)) ∧ W.cell? ⟨gm, oo + 2, none⟩ = some (.int .u8 (x.pr : Nat)) ∧ W.cell? ⟨gm, oo + 3, none⟩ = some (.int .u8 (x.tt : Nat)) ∧ W.cell? ⟨gm, oo + 4, none⟩ = some (.int .u16 (x.id : Nat)) ∧ W.cell? ⟨gm, oo + 5, none⟩ = some (.bool x.dn) ∧ W.cell? ⟨gm, oo + 6, none⟩ = some (.bool x.mo) ∧ W.cell? ⟨gm, oo + 7, none⟩ = some (.int .i64 x.of) ∧ W.cell? ⟨gm, oo + 8, none⟩ = some (.slice x.a x.n x.c)) := by
              show ∀ W, _
              intro W hW
              have hc : ∀ q u, x.cells[q]? = some u → W.cell? ⟨gm, oo + q, none⟩ = some u := fun q u hu => by rw [hoo]; exact (hW.cell (p := ⟨gm, j * 9 + q, none⟩) hgm).trans (HCM.out j x hx q u hu)
              exact ⟨hc 0 _ rfl, hc 1 _ rfl, hc 2 _ rfl, hc 3 _ rfl, hc 4 _ rfl, hc 5 _ rfl, hc 6 _ rfl, hc 7 _ rfl, hc 8 _ rfl⟩
            have HOO := (show Hid _ from hoo)
            obtain ⟨a1, hs1, ha1⟩ := slice_oneK gm oo L2 mc' (by omega) hmc
            have HA1 := (show Hid _ from ha1)
            clear hx hoo ha1
            have hbel := HS.out.bel
            have hpw := HS.out.pool.lt
            obtain ⟨wx, hwx⟩ : ∃ W, W = wr.alloc (.cells #[.int .u32 0, .int .u32 0, .int .u8 0, .int .u8 0, .int .u16 0, .bool false, .bool false, .int .i64 0, .slice none 0 0] 26) := ⟨_, rfl⟩
            have stx := Stc.new wr [.int .u32 0, .int .u32 0, .int .u8 0, .int .u8 0, .int .u16 0, .bool false, .bool false, .int .i64 0, .slice none 0 0] 26 wx hwx
            have bx : Below wr.heap.size wr wx.drew := by rw [hwx]; exact ((Below.refl _ _).alloc (Nat.le_refl _) _).drew
            have HBX := (show Hid _ from And.intro stx (And.intro bx (And.intro hbel hpw)))
            clear stx bx hbel hpw
            go_wp2_with fail
            rw [← hwx]
            clear hwx
            refine wp_region_seq mixedX [true, false, false, true] (fun l W => (l 5 = false → W = wx.drew) ∧ (l 5 = true → W = wx.drew.setCells wr.heap.size 0 x.cells)) [(88, .slice (some ⟨gm, oo, none⟩) L2 mc'), (89, .pointer (some ⟨gm, oo, none⟩)), (90, .agg #[.int .u32 (x.sr : Nat), .int .u32 (x.ds : Nat), .int .u8 (x.pr : Nat), .int .u8 (x.tt : Nat), .int .u16 (x.id : Nat), .bool x.dn, .bool x.mo, .int .i64 x.of, .slice x.a x.n x.c]), (91, .slice (some ⟨gm, oo, none⟩) L2 mc'), (92, .slice (some a1) (L2 - 1) (mc' - 1)), (11, .slice (some a1) (L2 - 1) (mc' - 1))] ?Z2 ?hZ2 (by kernel_rfl) (by kernel_rfl) (by kernel_rfl) (by kernel_rfl) ?h02 ?hops2 ?he2
            case hZ2 => simp only [List.foldl_cons, List.foldl_nil, List.setIfInBounds_toArray, List.set_cons_zero, List.set_cons_succ]; rfl
            case h02 => exact ⟨fun _ => rfl, fun e => (by cases e)⟩
            case hops2 =>
              refine ⟨?_, ?_, ?_, ?_, ?_, ?_, ?_, trivial⟩
              · exact seq_val (by rfl) (fun l W hg => ⟨fun e => hg.1 (by simpa [updL] using e), fun e => hg.2 (by simpa [updL] using e)⟩) (fun l W hl hc hg => by go_simp; (try with_reducible rfl); (try omega))
              · exact seq_val (by rfl) (fun l W hg => ⟨fun e => hg.1 (by simpa [updL] using e), fun e => hg.2 (by simpa [updL] using e)⟩) (fun l W hl hc hg => by go_simp; (try with_reducible rfl); (try omega))
              · exact seq_val (by rfl) (fun l W hg => ⟨fun e => hg.1 (by simpa [updL] using e), fun e => hg.2 (by simpa [updL] using e)⟩) (fun l W hl hc hg => by have h5 : l 5 = false := (by cases h5 : l 5 with | false => rfl | true => exact absurd (hc 5 2 (by kernel_rfl) h5) (by rw [hl]; decide)); obtain rfl := hg.1 h5; obtain ⟨d0, d1, d2, d3, d4, d5, d6, d7, d8⟩ := HKC.out wx.drew (HBX.out.2.2.1.trans (HBX.out.2.1.mono (Nat.le_of_lt HBX.out.2.2.2))); go_simp; (try with_reducible rfl); (try omega))
              · exact seq_val (by rfl) (fun l W hg => ⟨fun e => hg.1 (by simpa [updL] using e), fun e => hg.2 (by simpa [updL] using e)⟩) (fun l W hl hc hg => by go_simp; (try with_reducible rfl); (try omega))
              · exact seq_val (by rfl) (fun l W hg => ⟨fun e => hg.1 (by simpa [updL] using e), fun e => hg.2 (by simpa [updL] using e)⟩) (fun l W hl hc hg => by go_simp; (try with_reducible rfl); (try omega))
              · exact seq_skip (by rfl) rfl (fun l W hl hd hc hg => by
                  obtain rfl := hg.1 hl
                  refine ⟨_, run_storeX rfl (b := wr.heap.size) (k := 0) (by rfl) (cs := x.cells) (by rfl) (by exact (HBX.out.1.below (Below.refl _ _).drew).there) (by kernel_rfl) (one9 x), fun e => (by simp [updL] at e), fun _ => rfl⟩)
              · exact seq_val (by rfl) (fun l W hg => ⟨fun e => hg.1 (by simpa [updL] using e), fun e => hg.2 (by simpa [updL] using e)⟩) (fun l W hl hc hg => by go_simp; (try with_reducible rfl); (try omega))
            case he2 =>
            intro l W6 hall hg
            have hW6 := hg.2 (hall 5 (by decide))
            clear hg hall
            obtain ⟨stx, bx, hbel, hpw⟩ := HBX.out
            have st6 : Stc W6 wr.heap.size x.cells := by rw [hW6]; exact (stx.below (Below.refl _ _).drew).put x.cells rfl
            have b6 : Below wr.heap.size wr W6 := by rw [hW6]; exact bx.trans ((fr_setCellsX wr.heap.size x.cells 0 wx.drew).below wr.heap.size bx.size (fun k hk => by omega))
            have x0 : W6.cell? ⟨wr.heap.size, 0, none⟩ = some _ := st6.cell 0 _ rfl
            have x1 : W6.cell? ⟨wr.heap.size, 1, none⟩ = some _ := st6.cell 1 _ rfl
            have x2 : W6.cell? ⟨wr.heap.size, 2, none⟩ = some _ := st6.cell 2 _ rfl
            have x3 : W6.cell? ⟨wr.heap.size, 3, none⟩ = some _ := st6.cell 3 _ rfl
            have x4 : W6.cell? ⟨wr.heap.size, 4, none⟩ = some _ := st6.cell 4 _ rfl
            have x5 : W6.cell? ⟨wr.heap.size, 5, none⟩ = some _ := st6.cell 5 _ rfl
            have x6 : W6.cell? ⟨wr.heap.size, 6, none⟩ = some _ := st6.cell 6 _ rfl
            have x7 : W6.cell? ⟨wr.heap.size, 7, none⟩ = some _ := st6.cell 7 _ rfl
            have x8 : W6.cell? ⟨wr.heap.size, 8, none⟩ = some _ := st6.cell 8 _ rfl
            have hcall := ap_step HS.out.pool HS.out.ok (K := M) (idn := 2) (P := Pm) (zs := ys) (mtu := 40) (ps := qs) (i := j) (by rw [← HD2.out]; exact HS.out.l2) (by first | exact .inl rfl | exact .inr rfl) (HPM.out.below hbel) HML.out HF2.out (by omega) hiK2 x HX.out (fun h0 b off hb => HS.out.low b (HXB.out x (List.mem_of_getElem? HX.out) h0 b off hb)) b6 (.agg #[.int .u32 (x.sr : Nat), .int .u32 (x.ds : Nat), .int .u8 (x.pr : Nat), .int .u8 (x.tt : Nat), .int .u16 (x.id : Nat), .bool x.dn, .bool x.mo, .int .i64 x.of, .slice x.a x.n x.c]) rfl
            have HC := (show Hid _ from hcall)
            have HB6 := (show Hid _ from b6)
            have HDR := (show Hid _ from hbel)
            clear hW6 stx bx hbel hpw st6 b6 hcall HBX HKC hs1
            go_wp2_with fail
            refine Calls.mono HC.out ?_
            rintro e w7 ⟨kd', hs', hP', hG', hok', hl1', hl2', hres⟩
            clear x0 x1 x2 x3 x4 x5 x6 x7 x8 HC
            have hS6 := HS.out.below HB6.out
            rw [← HD2.out] at hl1'
            rcases hres with ⟨hlt, rfl⟩ | ⟨hKe, a2, c2, rfl, hs2, ha2⟩
            · have hS7 := hS6.more hP' hG' hok' (i' := i) (j' := j + 1) ((hl2' (0, 0, 0, 1) (by decide)).trans hS6.l1) hl1' (fun e => by omega) (fun e => by omega) ⟨fun e => by omega, fun e => by omega⟩
              have hS8 := hS7.below ((Below.refl _ _).alloc (Nat.le_refl _) (.cells #[.int .u32 0, .int .u32 0, .int .u8 0, .int .u8 0, .int .u16 0, .bool false, .bool false, .int .i64 0, .slice none 0 0] 26))
              have H8 := (show Hid _ from hS8)
              clear hP' hG' hok' hl1' hl2' hS6 hS7 hS8 HB6
              go_wp2
              go_roundw
              case rel => exact ⟨i, j + 1, kd', hs', la, lc', some a1, mc' - 1, ga, gc, G, by rw [HL1.out], by rw [HL2.out, Nat.sub_sub], rfl, by rw [HT.out]; go_num, HLA.out, fun h => by rw [HA1.out (by have := HL2.out; omega), HOO.out, Nat.add_mul], by have := HL1.out; omega, by have := HL2.out; omega, by omega, by omega, H8.out⟩
              case measure => simp [lenV]; omega
            · have hgot := hS6.got.fr hG'.fr (fun g hg hQ => hQ (hS6.gk g hg))
              have hGn : G.length ≤ 2 := by
                have := hS6.cnt
                split at this <;> split at this <;> omega
              obtain ⟨w8, hw8⟩ : ∃ W, W = w7.alloc (.cells #[.int .u32 0, .int .u32 0, .int .u8 0, .int .u8 0, .int .u16 2, .bool false, .bool false, .int .i64 0, .slice a2 ys.length c2] 26) := ⟨_, rfl⟩
              have hz8 : w8.heap.size = w7.heap.size + 1 := by rw [hw8]; simp
              have b78 : Below w7.heap.size w7 w8 := by rw [hw8]; exact (Below.refl _ _).alloc (Nat.le_refl _) _
              have b89 : Below w8.heap.size w8 (w8.alloc (.cells #[.int .u32 0, .int .u32 0, .int .u8 0, .int .u8 0, .int .u16 2, .bool false, .bool false, .int .i64 0, .slice a2 ys.length c2] 26)) := (Below.refl _ _).alloc (Nat.le_refl _) _
              have hRA := (hgot.below b78).below b89
              have hbA : w3.heap.size + 1 ≤ (w8.alloc (.cells #[.int .u32 0, .int .u32 0, .int .u8 0, .int .u8 0, .int .u16 2, .bool false, .bool false, .int .i64 0, .slice a2 ys.length c2] 26)).heap.size := by
                have := HS.out.pool.lt
                have := HB6.out.size
                have := hG'.fr.size
                have := b78.size
                simp
                omega
              have hRC : ∀ j u, (Pk.cells ⟨0, 0, 0, 0, 2, false, false, 0, a2, ys.length, c2⟩)[j]? = some u → (w8.alloc (.cells #[.int .u32 0, .int .u32 0, .int .u8 0, .int .u8 0, .int .u16 2, .bool false, .bool false, .int .i64 0, .slice a2 ys.length c2] 26)).cell? ((⟨w7.heap.size + 1, 0, none⟩ : Addr).add j) = some u := fun j u hu => by rw [Addr.add_mid, ← hz8]; exact (Stc.new w8 (Pk.cells ⟨0, 0, 0, 0, 2, false, false, 0, a2, ys.length, c2⟩) 26 _ rfl).range j u hu
              have bA9 : Below w7.heap.size w7 (w8.alloc (.cells #[.int .u32 0, .int .u32 0, .int .u8 0, .int .u8 0, .int .u16 2, .bool false, .bool false, .int .i64 0, .slice a2 ys.length c2] 26)) := b78.trans (b89.mono b78.size)
              rw [hw8] at hRA hbA hRC bA9
              have HRA := (show Hid _ from hRA)
              have HRC := (show Hid _ from hRC)
              have HM := (show Hid _ from And.intro hP' (And.intro hG' (And.intro hok' (And.intro hl1' (And.intro hl2' (And.intro hS6 (And.intro hs2 (And.intro ha2 bA9))))))))
              clear hP' hG' hok' hl1' hl2' hS6 hs2 ha2 b78 b89 hgot hz8 hRA hRC bA9 hw8
              go_wp2_with (first | (at_builtin; refine OwnG.wpl layPk rfl _ _ rfl rfl HRA.out ⟨0, 0, 0, 0, 2, false, false, 0, a2, ys.length, c2⟩ ⟨w7.heap.size + 1, 0, none⟩ (by first | rfl | simp) HRC.out (by unfold maxLen; omega) (by omega) hbA ?_) | fail)
              intro g9 c9 w9 ho9 hg9 hl9 _
              obtain ⟨hP', hG', hok', hl1', hl2', hS6, hs2, ha2, bA9⟩ := HM.out
              have hS9 := hS6.came hP' hG' hok' (i' := i) (j' := j + 1) ((hl2' (0, 0, 0, 1) (by decide)).trans hS6.l1) hl1' (fun e => by omega) (fun e => by omega) bA9 hs2 ha2 (.inr ⟨hKe, by omega, rfl, rfl, rfl⟩) ho9 hg9 (by simpa using hl9)
              have H9 := (show Hid _ from hS9)
              clear hP' hG' hok' hl1' hl2' hS6 hs2 ha2 bA9 hS9 HM HRA HRC hbA ho9 hg9 hl9 HB6
              go_wp2
              go_roundw
              case rel => exact ⟨i, j + 1, kd', hs', la, lc', some a1, mc' - 1, some ⟨g9, 0, none⟩, c9, _, by rw [HL1.out], by rw [HL2.out, Nat.sub_sub], by rw [List.length_append]; rfl, by rw [HT.out]; go_num, HLA.out, fun h => by rw [HA1.out (by have := HL2.out; omega), HOO.out, Nat.add_mul], by have := HL1.out; omega, by have := HL2.out; omega, by omega, by omega, H9.out⟩
              case measure => simp [lenV]; omega
        · have e3i : ¬ (t : Int) < (tn : Int) := by omega
          have hiK2 : j < M := by have := HL2.out; omega
          obtain rfl := HMA.out hiK2
          obtain ⟨x, hx⟩ : ∃ x, qs[j]? = some x := ⟨_, List.getElem?_eq_getElem (by rw [HML.out]; exact hiK2)⟩
          have HX := (show Hid _ from hx)
          obtain ⟨oo, hoo⟩ : ∃ oo, oo = j * 9 := ⟨_, rfl⟩
          rw [← hoo]
          have HKC : Hid (∀ W, Below w3.heap.size w3 W → W.cell? ⟨gm, oo, none⟩ = some (.int .u32 (x.sr : Nat)) ∧ W.cell? ⟨gm, oo + 1, none⟩ = some (.int .u32 (x.ds : Nat)) ∧ W.cell? ⟨gm, oo + 2, none⟩ = some (.int .u8 (x.pr : Nat)) ∧ W.cell? ⟨gm, oo + 3, none⟩ = some (.int .u8 (x.tt : Nat)) ∧ W.cell? ⟨gm, oo + 4, none⟩ = some (.int .u16 (x.id : Nat)) ∧ W.cell? ⟨gm, oo + 5, none⟩ = some (.bool x.dn) ∧ W.cell? ⟨gm, oo + 6, none⟩ = some (.bool x.mo) ∧ W.cell? ⟨gm, oo + 7, none⟩ = some (.int .i64 x.of) ∧ W.cell? ⟨gm, oo + 8, none⟩ = some (.slice x.a x.n x.c)) := by
            show ∀ W, _
            intro W hW
            have hc : ∀ q u, x.cells[q]? = some u → W.cell? ⟨gm, oo + q, none⟩ = some u := fun q u hu => by rw [hoo]; exact (hW.cell (p := ⟨gm, j * 9 + q, none⟩) hgm).trans (HCM.out j x hx q u hu)
            exact ⟨hc 0 _ rfl, hc 1 _ rfl, hc 2 _ rfl, hc 3 _ rfl, hc 4 _ rfl, hc 5 _ rfl, hc 6 _ rfl, hc 7 _ rfl, hc 8 _ rfl⟩
          have HOO := (show Hid _ from hoo)
          obtain ⟨a1, hs1, ha1⟩ := slice_oneK gm oo L2 mc' (by omega) hmc
          have HA1 := (show Hid _ from ha1)
          clear hx hoo ha1
          have hbel := HS.out.bel
          have hpw := HS.out.pool.lt
          obtain ⟨wx, hwx⟩ : ∃ W, W = wr.alloc (.cells #[.int .u32 0, .int .u32 0, .int .u8 0, .int .u8 0, .int .u16 0, .bool false, .bool false, .int .i64 0, .slice none 0 0] 26) := ⟨_, rfl⟩
          have stx := Stc.new wr [.int .u32 0, .int .u32 0, .int .u8 0, .int .u8 0, .int .u16 0, .bool false, .bool false, .int .i64 0, .slice none 0 0] 26 wx hwx
          have bx : Below wr.heap.size wr wx.drew := by rw [hwx]; exact ((Below.refl _ _).alloc (Nat.le_refl _) _).drew
          have HBX := (show Hid _ from And.intro stx (And.intro bx (And.intro hbel hpw)))
          clear stx bx hbel hpw
          go_wp2_with fail
          rw [← hwx]
          clear hwx
          refine wp_region_seq mixedX [true, false, false, true] (fun l W => (l 5 = false → W = wx.drew) ∧ (l 5 = true → W = wx.drew.setCells wr.heap.size 0 x.cells)) [(88, .slice (some ⟨gm, oo, none⟩) L2 mc'), (89, .pointer (some ⟨gm, oo, none⟩)), (90, .agg #[.int .u32 (x.sr : Nat), .int .u32 (x.ds : Nat), .int .u8 (x.pr : Nat), .int .u8 (x.tt : Nat), .int .u16 (x.id : Nat), .bool x.dn, .bool x.mo, .int .i64 x.of, .slice x.a x.n x.c]), (91, .slice (some ⟨gm, oo, none⟩) L2 mc'), (92, .slice (some a1) (L2 - 1) (mc' - 1)), (11, .slice (some a1) (L2 - 1) (mc' - 1))] ?Z3 ?hZ3 (by kernel_rfl) (by kernel_rfl) (by kernel_rfl) (by kernel_rfl) ?h03 ?hops3 ?he3
          case hZ3 => simp only [List.foldl_cons, List.foldl_nil, List.setIfInBounds_toArray, List.set_cons_zero, List.set_cons_succ]; rfl
          case h03 => exact ⟨fun _ => rfl, fun e => (by cases e)⟩
          case hops3 =>
            refine ⟨?_, ?_, ?_, ?_, ?_, ?_, ?_, trivial⟩
            · exact seq_val (by rfl) (fun l W hg => ⟨fun e => hg.1 (by simpa [updL] using e), fun e => hg.2 (by simpa [updL] using e)⟩) (fun l W hl hc hg => by go_simp; (try with_reducible rfl); (try omega))
            · exact seq_val (by rfl) (fun l W hg => ⟨fun e => hg.1 (by simpa [updL] using e), fun e => hg.2 (by simpa [updL] using e)⟩) (fun l W hl hc hg => by go_simp; (try with_reducible rfl); (try omega))
            · exact seq_val (by rfl) (fun l W hg => ⟨fun e => hg.1 (by simpa [updL] using e), fun e => hg.2 (by simpa [updL] using e)⟩) (fun l W hl hc hg => by have h5 : l 5 = false := (by cases h5 : l 5 with | false => rfl | true => exact absurd (hc 5 2 (by kernel_rfl) h5) (by rw [hl]; decide)); obtain rfl := hg.1 h5; obtain ⟨d0, d1, d2, d3, d4, d5, d6, d7, d8⟩ := HKC.out wx.drew (HBX.out.2.2.1.trans (HBX.out.2.1.mono (Nat.le_of_lt HBX.out.2.2.2))); go_simp; (try with_reducible rfl); (try omega))
            · exact seq_val (by rfl) (fun l W hg => ⟨fun e => hg.1 (by simpa [updL] using e), fun e => hg.2 (by simpa [updL] using e)⟩) (fun l W hl hc hg => by go_simp; (try with_reducible rfl); (try omega))
            · exact seq_val (by rfl) (fun l W hg => ⟨fun e => hg.1 (by simpa [updL] using e), fun e => hg.2 (by simpa [updL] using e)⟩) (fun l W hl hc hg => by go_simp; (try with_reducible rfl); (try omega))
            · exact seq_skip (by rfl) rfl (fun l W hl hd hc hg => by
                obtain rfl := hg.1 hl
                refine ⟨_, run_storeX rfl (b := wr.heap.size) (k := 0) (by rfl) (cs := x.cells) (by rfl) (by exact (HBX.out.1.below (Below.refl _ _).drew).there) (by kernel_rfl) (one9 x), fun e => (by simp [updL] at e), fun _ => rfl⟩)
            · exact seq_val (by rfl) (fun l W hg => ⟨fun e => hg.1 (by simpa [updL] using e), fun e => hg.2 (by simpa [updL] using e)⟩) (fun l W hl hc hg => by go_simp; (try with_reducible rfl); (try omega))
          case he3 =>
          intro l W6 hall hg
          have hW6 := hg.2 (hall 5 (by decide))
          clear hg hall
          obtain ⟨stx, bx, hbel, hpw⟩ := HBX.out
          have st6 : Stc W6 wr.heap.size x.cells := by rw [hW6]; exact (stx.below (Below.refl _ _).drew).put x.cells rfl
          have b6 : Below wr.heap.size wr W6 := by rw [hW6]; exact bx.trans ((fr_setCellsX wr.heap.size x.cells 0 wx.drew).below wr.heap.size bx.size (fun k hk => by omega))
          have x0 : W6.cell? ⟨wr.heap.size, 0, none⟩ = some _ := st6.cell 0 _ rfl
          have x1 : W6.cell? ⟨wr.heap.size, 1, none⟩ = some _ := st6.cell 1 _ rfl
          have x2 : W6.cell? ⟨wr.heap.size, 2, none⟩ = some _ := st6.cell 2 _ rfl
          have x3 : W6.cell? ⟨wr.heap.size, 3, none⟩ = some _ := st6.cell 3 _ rfl
          have x4 : W6.cell? ⟨wr.heap.size, 4, none⟩ = some _ := st6.cell 4 _ rfl
          have x5 : W6.cell? ⟨wr.heap.size, 5, none⟩ = some _ := st6.cell 5 _ rfl
          have x6 : W6.cell? ⟨wr.heap.size, 6, none⟩ = some _ := st6.cell 6 _ rfl
          have x7 : W6.cell? ⟨wr.heap.size, 7, none⟩ = some _ := st6.cell 7 _ rfl
          have x8 : W6.cell? ⟨wr.heap.size, 8, none⟩ = some _ := st6.cell 8 _ rfl
          have hcall := ap_step HS.out.pool HS.out.ok (K := M) (idn := 2) (P := Pm) (zs := ys) (mtu := 40) (ps := qs) (i := j) (by rw [← HD2.out]; exact HS.out.l2) (by first | exact .inl rfl | exact .inr rfl) (HPM.out.below hbel) HML.out HF2.out (by omega) hiK2 x HX.out (fun h0 b off hb => HS.out.low b (HXB.out x (List.mem_of_getElem? HX.out) h0 b off hb)) b6 (.agg #[.int .u32 (x.sr : Nat), .int .u32 (x.ds : Nat), .int .u8 (x.pr : Nat), .int .u8 (x.tt : Nat), .int .u16 (x.id : Nat), .bool x.dn, .bool x.mo, .int .i64 x.of, .slice x.a x.n x.c]) rfl
          have HC := (show Hid _ from hcall)
          have HB6 := (show Hid _ from b6)
          have HDR := (show Hid _ from hbel)
          clear hW6 stx bx hbel hpw st6 b6 hcall HBX HKC hs1
          go_wp2_with fail
          refine Calls.mono HC.out ?_
          rintro e w7 ⟨kd', hs', hP', hG', hok', hl1', hl2', hres⟩
          clear x0 x1 x2 x3 x4 x5 x6 x7 x8 HC
          have hS6 := HS.out.below HB6.out
          rw [← HD2.out] at hl1'
          rcases hres with ⟨hlt, rfl⟩ | ⟨hKe, a2, c2, rfl, hs2, ha2⟩
          · have hS7 := hS6.more hP' hG' hok' (i' := i) (j' := j + 1) ((hl2' (0, 0, 0, 1) (by decide)).trans hS6.l1) hl1' (fun e => by omega) (fun e => by omega) ⟨fun e => by omega, fun e => by omega⟩
            have hS8 := hS7.below ((Below.refl _ _).alloc (Nat.le_refl _) (.cells #[.int .u32 0, .int .u32 0, .int .u8 0, .int .u8 0, .int .u16 0, .bool false, .bool false, .int .i64 0, .slice none 0 0] 26))
            have H8 := (show Hid _ from hS8)
            clear hP' hG' hok' hl1' hl2' hS6 hS7 hS8 HB6
            go_wp2
            go_roundw
            case rel => exact ⟨i, j + 1, kd', hs', la, lc', some a1, mc' - 1, ga, gc, G, by rw [HL1.out], by rw [HL2.out, Nat.sub_sub], rfl, by rw [HT.out]; go_num, HLA.out, fun h => by rw [HA1.out (by have := HL2.out; omega), HOO.out, Nat.add_mul], by have := HL1.out; omega, by have := HL2.out; omega, by omega, by omega, H8.out⟩
            case measure => simp [lenV]; omega
          · have hgot := hS6.got.fr hG'.fr (fun g hg hQ => hQ (hS6.gk g hg))
            have hGn : G.length ≤ 2 := by
              have := hS6.cnt
              split at this <;> split at this <;> omega
            obtain ⟨w8, hw8⟩ : ∃ W, W = w7.alloc (.cells #[.int .u32 0, .int .u32 0, .int .u8 0, .int .u8 0, .int .u16 2, .bool false, .bool false, .int .i64 0, .slice a2 ys.length c2] 26) := ⟨_, rfl⟩
            have hz8 : w8.heap.size = w7.heap.size + 1 := by rw [hw8]; simp
            have b78 : Below w7.heap.size w7 w8 := by rw [hw8]; exact (Below.refl _ _).alloc (Nat.le_refl _) _
            have b89 : Below w8.heap.size w8 (w8.alloc (.cells #[.int .u32 0, .int .u32 0, .int .u8 0, .int .u8 0, .int .u16 2, .bool false, .bool false, .int .i64 0, .slice a2 ys.length c2] 26)) := (Below.refl _ _).alloc (Nat.le_refl _) _
            have hRA := (hgot.below b78).below b89
            have hbA : w3.heap.size + 1 ≤ (w8.alloc (.cells #[.int .u32 0, .int .u32 0, .int .u8 0, .int .u8 0, .int .u16 2, .bool false, .bool false, .int .i64 0, .slice a2 ys.length c2] 26)).heap.size := by
              have := HS.out.pool.lt
              have := HB6.out.size
              have := hG'.fr.size
              have := b78.size
              simp
              omega
            have hRC : ∀ j u, (Pk.cells ⟨0, 0, 0, 0, 2, false, false, 0, a2, ys.length, c2⟩)[j]? = some u → (w8.alloc (.cells #[.int .u32 0, .int .u32 0, .int .u8 0, .int .u8 0, .int .u16 2, .bool false, .bool false, .int .i64 0, .slice a2 ys.length c2] 26)).cell? ((⟨w7.heap.size + 1, 0, none⟩ : Addr).add j) = some u := fun j u hu => by rw [Addr.add_mid, ← hz8]; exact (Stc.new w8 (Pk.cells ⟨0, 0, 0, 0, 2, false, false, 0, a2, ys.length, c2⟩) 26 _ rfl).range j u hu
            have bA9 : Below w7.heap.size w7 (w8.alloc (.cells #[.int .u32 0, .int .u32 0, .int .u8 0, .int .u8 0, .int .u16 2, .bool false, .bool false, .int .i64 0, .slice a2 ys.length c2] 26)) := b78.trans (b89.mono b78.size)
            rw [hw8] at hRA hbA hRC bA9
            have HRA := (show Hid _ from hRA)
            have HRC := (show Hid _ from hRC)
            have HM := (show Hid _ from And.intro hP' (And.intro hG' (And.intro hok' (And.intro hl1' (And.intro hl2' (And.intro hS6 (And.intro hs2 (And.intro ha2 bA9))))))))
            clear hP' hG' hok' hl1' hl2' hS6 hs2 ha2 b78 b89 hgot hz8 hRA hRC bA9 hw8
            go_wp2_with (first | (at_builtin; refine OwnG.wpl layPk rfl _ _ rfl rfl HRA.out ⟨0, 0, 0, 0, 2, false, false, 0, a2, ys.length, c2⟩ ⟨w7.heap.size + 1, 0, none⟩ (by first | rfl | simp) HRC.out (by unfold maxLen; omega) (by omega) hbA ?_) | fail)
            intro g9 c9 w9 ho9 hg9 hl9 _
            obtain ⟨hP', hG', hok', hl1', hl2', hS6, hs2, ha2, bA9⟩ := HM.out
            have hS9 := hS6.came hP' hG' hok' (i' := i) (j' := j + 1) ((hl2' (0, 0, 0, 1) (by decide)).trans hS6.l1) hl1' (fun e => by omega) (fun e => by omega) bA9 hs2 ha2 (.inr ⟨hKe, by omega, rfl, rfl, rfl⟩) ho9 hg9 (by simpa using hl9)
            have H9 := (show Hid _ from hS9)
            clear hP' hG' hok' hl1' hl2' hS6 hs2 ha2 bA9 hS9 HM HRA HRC hbA ho9 hg9 hl9 HB6
            go_wp2
            go_roundw
            case rel => exact ⟨i, j + 1, kd', hs', la, lc', some a1, mc' - 1, some ⟨g9, 0, none⟩, c9, _, by rw [HL1.out], by rw [HL2.out, Nat.sub_sub], by rw [List.length_append]; rfl, by rw [HT.out]; go_num, HLA.out, fun h => by rw [HA1.out (by have := HL2.out; omega), HOO.out, Nat.add_mul], by have := HL1.out; omega, by have := HL2.out; omega, by omega, by omega, H9.out⟩
            case measure => simp [lenV]; omega
      · obtain rfl : L2 = 0 := by omega
        have hiK2 : i < K := by have := HL1.out; omega
        obtain rfl := HLA.out hiK2
        obtain ⟨x, hx⟩ : ∃ x, ps[i]? = some x := ⟨_, List.getElem?_eq_getElem (by rw [HKL.out]; exact hiK2)⟩
        have HX := (show Hid _ from hx)
        obtain ⟨oo, hoo⟩ : ∃ oo, oo = i * 9 := ⟨_, rfl⟩
        rw [← hoo]
        have HKC : Hid (∀ W, Below w3.heap.size w3 W → W.cell? ⟨gl, oo, none⟩ = some (.int .u32 (x.sr : Nat)) ∧ W.cell? ⟨gl, oo + 1, none⟩ = some (.int .u32 (x.ds : Nat)) ∧ W.cell? ⟨gl, oo + 2, none⟩ = some (.int .u8 (x.pr : Nat)) ∧ W.cell? ⟨gl, oo + 3, none⟩ = some (.int .u8 (x.tt : Nat)) ∧ W.cell? ⟨gl, oo + 4, none⟩ = some (.int .u16 (x.id : Nat)) ∧ W.cell? ⟨gl, oo + 5, none⟩ = some (.bool x.dn) ∧ W.cell? ⟨gl, oo + 6, none⟩ = some (.bool x.mo) ∧ W.cell? ⟨gl, oo + 7, none⟩ = some (.int .i64 x.of) ∧ W.cell? ⟨gl, oo + 8, none⟩ = some (.slice x.a x.n x.c)) := by
          show ∀ W, _
          intro W hW
          have hc : ∀ q u, x.cells[q]? = some u → W.cell? ⟨gl, oo + q, none⟩ = some u := fun q u hu => by rw [hoo]; exact (hW.cell (p := ⟨gl, i * 9 + q, none⟩) hgl3).trans (HCL.out i x hx q u hu)
          exact ⟨hc 0 _ rfl, hc 1 _ rfl, hc 2 _ rfl, hc 3 _ rfl, hc 4 _ rfl, hc 5 _ rfl, hc 6 _ rfl, hc 7 _ rfl, hc 8 _ rfl⟩
        have HOO := (show Hid _ from hoo)
        obtain ⟨a1, hs1, ha1⟩ := slice_oneK gl oo L1 lc' (by omega) hlc
        have HA1 := (show Hid _ from ha1)
        clear hx hoo ha1
        have hbel := HS.out.bel
        have hpw := HS.out.pool.lt
        obtain ⟨wx, hwx⟩ : ∃ W, W = wr.alloc (.cells #[.int .u32 0, .int .u32 0, .int .u8 0, .int .u8 0, .int .u16 0, .bool false, .bool false, .int .i64 0, .slice none 0 0] 26) := ⟨_, rfl⟩
        have stx := Stc.new wr [.int .u32 0, .int .u32 0, .int .u8 0, .int .u8 0, .int .u16 0, .bool false, .bool false, .int .i64 0, .slice none 0 0] 26 wx hwx
        have bx : Below wr.heap.size wr wx.drew := by rw [hwx]; exact ((Below.refl _ _).alloc (Nat.le_refl _) _).drew
        have HBX := (show Hid _ from And.intro stx (And.intro bx (And.intro hbel hpw)))
        clear stx bx hbel hpw
        go_wp2_with fail
        rw [← hwx]
        clear hwx
        refine wp_region_seq mixedX [true, false, false, true] (fun l W => (l 5 = false → W = wx.drew) ∧ (l 5 = true → W = wx.drew.setCells wr.heap.size 0 x.cells)) [(83, .slice (some ⟨gl, oo, none⟩) L1 lc'), (84, .pointer (some ⟨gl, oo, none⟩)), (85, .agg #[.int .u32 (x.sr : Nat), .int .u32 (x.ds : Nat), .int .u8 (x.pr : Nat), .int .u8 (x.tt : Nat), .int .u16 (x.id : Nat), .bool x.dn, .bool x.mo, .int .i64 x.of, .slice x.a x.n x.c]), (86, .slice (some ⟨gl, oo, none⟩) L1 lc'), (87, .slice (some a1) (L1 - 1) (lc' - 1)), (9, .slice (some a1) (L1 - 1) (lc' - 1))] ?Z4 ?hZ4 (by kernel_rfl) (by kernel_rfl) (by kernel_rfl) (by kernel_rfl) ?h04 ?hops4 ?he4
        case hZ4 => simp only [List.foldl_cons, List.foldl_nil, List.setIfInBounds_toArray, List.set_cons_zero, List.set_cons_succ]; rfl
        case h04 => exact ⟨fun _ => rfl, fun e => (by cases e)⟩
        case hops4 =>
          refine ⟨?_, ?_, ?_, ?_, ?_, ?_, ?_, trivial⟩
          · exact seq_val (by rfl) (fun l W hg => ⟨fun e => hg.1 (by simpa [updL] using e), fun e => hg.2 (by simpa [updL] using e)⟩) (fun l W hl hc hg => by go_simp; (try with_reducible rfl); (try omega))
          · exact seq_val (by rfl) (fun l W hg => ⟨fun e => hg.1 (by simpa [updL] using e), fun e => hg.2 (by simpa [updL] using e)⟩) (fun l W hl hc hg => by go_simp; (try with_reducible rfl); (try omega))
          · exact seq_val (by rfl) (fun l W hg => ⟨fun e => hg.1 (by simpa [updL] using e), fun e => hg.2 (by simpa [updL] using e)⟩) (fun l W hl hc hg => by have h5 : l 5 = false := (by cases h5 : l 5 with | false => rfl | true => exact absurd (hc 5 2 (by kernel_rfl) h5) (by rw [hl]; decide)); obtain rfl := hg.1 h5; obtain ⟨d0, d1, d2, d3, d4, d5, d6, d7, d8⟩ := HKC.out wx.drew (HBX.out.2.2.1.trans (HBX.out.2.1.mono (Nat.le_of_lt HBX.out.2.2.2))); go_simp; (try with_reducible rfl); (try omega))
          · exact seq_val (by rfl) (fun l W hg => ⟨fun e => hg.1 (by simpa [updL] using e), fun e => hg.2 (by simpa [updL] using e)⟩) (fun l W hl hc hg => by go_simp; (try with_reducible rfl); (try omega))
          · exact seq_val (by rfl) (fun l W hg => ⟨fun e => hg.1 (by simpa [updL] using e), fun e => hg.2 (by simpa [updL] using e)⟩) (fun l W hl hc hg => by go_simp; (try with_reducible rfl); (try omega))
          · exact seq_skip (by rfl) rfl (fun l W hl hd hc hg => by
              obtain rfl := hg.1 hl
              refine ⟨_, run_storeX rfl (b := wr.heap.size) (k := 0) (by rfl) (cs := x.cells) (by rfl) (by exact (HBX.out.1.below (Below.refl _ _).drew).there) (by kernel_rfl) (one9 x), fun e => (by simp [updL] at e), fun _ => rfl⟩)
          · exact seq_val (by rfl) (fun l W hg => ⟨fun e => hg.1 (by simpa [updL] using e), fun e => hg.2 (by simpa [updL] using e)⟩) (fun l W hl hc hg => by go_simp; (try with_reducible rfl); (try omega))
        case he4 =>
        intro l W6 hall hg
        have hW6 := hg.2 (hall 5 (by decide))
        clear hg hall
        obtain ⟨stx, bx, hbel, hpw⟩ := HBX.out
        have st6 : Stc W6 wr.heap.size x.cells := by rw [hW6]; exact (stx.below (Below.refl _ _).drew).put x.cells rfl
        have b6 : Below wr.heap.size wr W6 := by rw [hW6]; exact bx.trans ((fr_setCellsX wr.heap.size x.cells 0 wx.drew).below wr.heap.size bx.size (fun k hk => by omega))
        have x0 : W6.cell? ⟨wr.heap.size, 0, none⟩ = some _ := st6.cell 0 _ rfl
        have x1 : W6.cell? ⟨wr.heap.size, 1, none⟩ = some _ := st6.cell 1 _ rfl
        have x2 : W6.cell? ⟨wr.heap.size, 2, none⟩ = some _ := st6.cell 2 _ rfl
        have x3 : W6.cell? ⟨wr.heap.size, 3, none⟩ = some _ := st6.cell 3 _ rfl
        have x4 : W6.cell? ⟨wr.heap.size, 4, none⟩ = some _ := st6.cell 4 _ rfl
        have x5 : W6.cell? ⟨wr.heap.size, 5, none⟩ = some _ := st6.cell 5 _ rfl
        have x6 : W6.cell? ⟨wr.heap.size, 6, none⟩ = some _ := st6.cell 6 _ rfl
        have x7 : W6.cell? ⟨wr.heap.size, 7, none⟩ = some _ := st6.cell 7 _ rfl
        have x8 : W6.cell? ⟨wr.heap.size, 8, none⟩ = some _ := st6.cell 8 _ rfl
        have hcall := ap_step HS.out.pool HS.out.ok (K := K) (idn := 1) (P := P) (zs := zs) (mtu := 40) (ps := ps) (i := i) (by rw [← HD1.out]; exact HS.out.l1) (by first | exact .inl rfl | exact .inr rfl) (HPC.out.below hbel) HKL.out HF1.out (by omega) hiK2 x HX.out (fun h0 b off hb => HS.out.low b (HXA.out x (List.mem_of_getElem? HX.out) h0 b off hb)) b6 (.agg #[.int .u32 (x.sr : Nat), .int .u32 (x.ds : Nat), .int .u8 (x.pr : Nat), .int .u8 (x.tt : Nat), .int .u16 (x.id : Nat), .bool x.dn, .bool x.mo, .int .i64 x.of, .slice x.a x.n x.c]) rfl
        have HC := (show Hid _ from hcall)
        have HB6 := (show Hid _ from b6)
        have HDR := (show Hid _ from hbel)
        clear hW6 stx bx hbel hpw st6 b6 hcall HBX HKC hs1
        go_wp2_with fail
        refine Calls.mono HC.out ?_
        rintro e w7 ⟨kd', hs', hP', hG', hok', hl1', hl2', hres⟩
        clear x0 x1 x2 x3 x4 x5 x6 x7 x8 HC
        have hS6 := HS.out.below HB6.out
        rw [← HD1.out] at hl1'
        rcases hres with ⟨hlt, rfl⟩ | ⟨hKe, a2, c2, rfl, hs2, ha2⟩
        · have hS7 := hS6.more hP' hG' hok' (i' := i + 1) (j' := j) hl1' ((hl2' (0, 0, 0, 2) (by decide)).trans hS6.l2) (fun e => by omega) (fun e => by omega) ⟨fun e => by omega, fun e => by omega⟩
          have hS8 := hS7.below ((Below.refl _ _).alloc (Nat.le_refl _) (.cells #[.int .u32 0, .int .u32 0, .int .u8 0, .int .u8 0, .int .u16 0, .bool false, .bool false, .int .i64 0, .slice none 0 0] 26))
          have H8 := (show Hid _ from hS8)
          clear hP' hG' hok' hl1' hl2' hS6 hS7 hS8 HB6
          go_wp2
          go_roundw
          case rel => exact ⟨i + 1, j, kd', hs', some a1, lc' - 1, ma, mc', ga, gc, G, by rw [HL1.out, Nat.sub_sub], by rw [HL2.out], rfl, by rw [HT.out]; go_num, fun h => by rw [HA1.out (by have := HL1.out; omega), HOO.out, Nat.add_mul], HMA.out, by have := HL1.out; omega, by have := HL2.out; omega, by omega, by omega, H8.out⟩
          case measure => simp [lenV]; omega
        · have hgot := hS6.got.fr hG'.fr (fun g hg hQ => hQ (hS6.gk g hg))
          have hGn : G.length ≤ 2 := by
            have := hS6.cnt
            split at this <;> split at this <;> omega
          obtain ⟨w8, hw8⟩ : ∃ W, W = w7.alloc (.cells #[.int .u32 0, .int .u32 0, .int .u8 0, .int .u8 0, .int .u16 1, .bool false, .bool false, .int .i64 0, .slice a2 zs.length c2] 26) := ⟨_, rfl⟩
          have hz8 : w8.heap.size = w7.heap.size + 1 := by rw [hw8]; simp
          have b78 : Below w7.heap.size w7 w8 := by rw [hw8]; exact (Below.refl _ _).alloc (Nat.le_refl _) _
          have b89 : Below w8.heap.size w8 (w8.alloc (.cells #[.int .u32 0, .int .u32 0, .int .u8 0, .int .u8 0, .int .u16 1, .bool false, .bool false, .int .i64 0, .slice a2 zs.length c2] 26)) := (Below.refl _ _).alloc (Nat.le_refl _) _
          have hRA := (hgot.below b78).below b89
          have hbA : w3.heap.size + 1 ≤ (w8.alloc (.cells #[.int .u32 0, .int .u32 0, .int .u8 0, .int .u8 0, .int .u16 1, .bool false, .bool false, .int .i64 0, .slice a2 zs.length c2] 26)).heap.size := by
            have := HS.out.pool.lt
            have := HB6.out.size
            have := hG'.fr.size
            have := b78.size
            simp
            omega
          have hRC : ∀ j u, (Pk.cells ⟨0, 0, 0, 0, 1, false, false, 0, a2, zs.length, c2⟩)[j]? = some u → (w8.alloc (.cells #[.int .u32 0, .int .u32 0, .int .u8 0, .int .u8 0, .int .u16 1, .bool false, .bool false, .int .i64 0, .slice a2 zs.length c2] 26)).cell? ((⟨w7.heap.size + 1, 0, none⟩ : Addr).add j) = some u := fun j u hu => by rw [Addr.add_mid, ← hz8]; exact (Stc.new w8 (Pk.cells ⟨0, 0, 0, 0, 1, false, false, 0, a2, zs.length, c2⟩) 26 _ rfl).range j u hu
          have bA9 : Below w7.heap.size w7 (w8.alloc (.cells #[.int .u32 0, .int .u32 0, .int .u8 0, .int .u8 0, .int .u16 1, .bool false, .bool false, .int .i64 0, .slice a2 zs.length c2] 26)) := b78.trans (b89.mono b78.size)
          rw [hw8] at hRA hbA hRC bA9
          have HRA := (show Hid _ from hRA)
          have HRC := (show Hid _ from hRC)
          have HM := (show Hid _ from And.intro hP' (And.intro hG' (And.intro hok' (And.intro hl1' (And.intro hl2' (And.intro hS6 (And.intro hs2 (And.intro ha2 bA9))))))))
          clear hP' hG' hok' hl1' hl2' hS6 hs2 ha2 b78 b89 hgot hz8 hRA hRC bA9 hw8
          go_wp2_with (first | (at_builtin; refine OwnG.wpl layPk rfl _ _ rfl rfl HRA.out ⟨0, 0, 0, 0, 1, false, false, 0, a2, zs.length, c2⟩ ⟨w7.heap.size + 1, 0, none⟩ (by first | rfl | simp) HRC.out (by unfold maxLen; omega) (by omega) hbA ?_) | fail)
          intro g9 c9 w9 ho9 hg9 hl9 _
          obtain ⟨hP', hG', hok', hl1', hl2', hS6, hs2, ha2, bA9⟩ := HM.out
          have hS9 := hS6.came hP' hG' hok' (i' := i + 1) (j' := j) hl1' ((hl2' (0, 0, 0, 2) (by decide)).trans hS6.l2) (fun e => by omega) (fun e => by omega) bA9 hs2 ha2 (.inl ⟨hKe, by omega, rfl, rfl, rfl⟩) ho9 hg9 (by simpa using hl9)
          have H9 := (show Hid _ from hS9)
          clear hP' hG' hok' hl1' hl2' hS6 hs2 ha2 bA9 hS9 HM HRA HRC hbA ho9 hg9 hl9 HB6
          go_wp2
          go_roundw
          case rel => exact ⟨i + 1, j, kd', hs', some a1, lc' - 1, ma, mc', some ⟨g9, 0, none⟩, c9, _, by rw [HL1.out, Nat.sub_sub], by rw [HL2.out], by rw [List.length_append]; rfl, by rw [HT.out]; go_num, fun h => by rw [HA1.out (by have := HL1.out; omega), HOO.out, Nat.add_mul], HMA.out, by have := HL1.out; omega, by have := HL2.out; omega, by omega, by omega, H9.out⟩
          case measure => simp [lenV]; omega
    · obtain rfl : L1 = 0 := by omega
      by_cases e2 : 0 < L2
      · have e2i : ¬ ((L2 : Nat) : Int) = 0 := by omega
        have e2j : (0 : Int) < (L2 : Int) := by omega
        have hiK2 : j < M := by have := HL2.out; omega
        obtain rfl := HMA.out hiK2
        obtain ⟨x, hx⟩ : ∃ x, qs[j]? = some x := ⟨_, List.getElem?_eq_getElem (by rw [HML.out]; exact hiK2)⟩
        have HX := (show Hid _ from hx)
        obtain ⟨oo, hoo⟩ : ∃ oo, oo = j * 9 := ⟨_, rfl⟩
        rw [← hoo]
        have HKC : Hid (∀ W, Below w3.heap.size w3 W → W.cell? ⟨gm, oo, none⟩ = some (.int .u32 (x.sr : Nat)) ∧ W.cell? ⟨gm, oo + 1, none⟩ = some (.int .u32 (x.ds : Nat)) ∧ W.cell? ⟨gm, oo + 2, none⟩ = some (.int .u8 (x.pr : Nat)) ∧ W.cell? ⟨gm, oo + 3, none⟩ = some (.int .u8 (x.tt : Nat)) ∧ W.cell? ⟨gm, oo + 4, none⟩ = some (.int .u16 (x.id : Nat)) ∧ W.cell? ⟨gm, oo + 5, none⟩ = some (.bool x.dn) ∧ W.cell? ⟨gm, oo + 6, none⟩ = some (.bool x.mo) ∧ W.cell? ⟨gm, oo + 7, none⟩ = some (.int .i64 x.of) ∧ W.cell? ⟨gm, oo + 8, none⟩ = some (.slice x.a x.n x.c)) := by
          show ∀ W, _
          intro W hW
          have hc : ∀ q u, x.cells[q]? = some u → W.cell? ⟨gm, oo + q, none⟩ = some u := fun q u hu => by rw [hoo]; exact (hW.cell (p := ⟨gm, j * 9 + q, none⟩) hgm).trans (HCM.out j x hx q u hu)
          exact ⟨hc 0 _ rfl, hc 1 _ rfl, hc 2 _ rfl, hc 3 _ rfl, hc 4 _ rfl, hc 5 _ rfl, hc 6 _ rfl, hc 7 _ rfl, hc 8 _ rfl⟩
        have HOO := (show Hid _ from hoo)
        obtain ⟨a1, hs1, ha1⟩ := slice_oneK gm oo L2 mc' (by omega) hmc
        have HA1 := (show Hid _ from ha1)
        clear hx hoo ha1
        have hbel := HS.out.bel
        have hpw := HS.out.pool.lt
        obtain ⟨wx, hwx⟩ : ∃ W, W = wr.alloc (.cells #[.int .u32 0, .int .u32 0, .int .u8 0, .int .u8 0, .int .u16 0, .bool false, .bool false, .int .i64 0, .slice none 0 0] 26) := ⟨_, rfl⟩
        have stx := Stc.new wr [.int .u32 0, .int .u32 0, .int .u8 0, .int .u8 0, .int .u16 0, .bool false, .bool false, .int .i64 0, .slice none 0 0] 26 wx hwx
        have bx : Below wr.heap.size wr wx.drew := by rw [hwx]; exact ((Below.refl _ _).alloc (Nat.le_refl _) _).drew
        have HBX := (show Hid _ from And.intro stx (And.intro bx (And.intro hbel hpw)))
        clear stx bx hbel hpw
        go_wp2_with fail
        rw [← hwx]
        clear hwx
        refine wp_region_seq mixedX [true, false, false, true] (fun l W => (l 5 = false → W = wx.drew) ∧ (l 5 = true → W = wx.drew.setCells wr.heap.size 0 x.cells)) [(88, .slice (some ⟨gm, oo, none⟩) L2 mc'), (89, .pointer (some ⟨gm, oo, none⟩)), (90, .agg #[.int .u32 (x.sr : Nat), .int .u32 (x.ds : Nat), .int .u8 (x.pr : Nat), .int .u8 (x.tt : Nat), .int .u16 (x.id : Nat), .bool x.dn, .bool x.mo, .int .i64 x.of, .slice x.a x.n x.c]), (91, .slice (some ⟨gm, oo, none⟩) L2 mc'), (92, .slice (some a1) (L2 - 1) (mc' - 1)), (11, .slice (some a1) (L2 - 1) (mc' - 1))] ?Z5 ?hZ5 (by kernel_rfl) (by kernel_rfl) (by kernel_rfl) (by kernel_rfl) ?h05 ?hops5 ?he5
        case hZ5 => simp only [List.foldl_cons, List.foldl_nil, List.setIfInBounds_toArray, List.set_cons_zero, List.set_cons_succ]; rfl
        case h05 => exact ⟨fun _ => rfl, fun e => (by cases e)⟩
        case hops5 =>
          refine ⟨?_, ?_, ?_, ?_, ?_, ?_, ?_, trivial⟩
          · exact seq_val (by rfl) (fun l W hg => ⟨fun e => hg.1 (by simpa [updL] using e), fun e => hg.2 (by simpa [updL] using e)⟩) (fun l W hl hc hg => by go_simp; (try with_reducible rfl); (try omega))
          · exact seq_val (by rfl) (fun l W hg => ⟨fun e => hg.1 (by simpa [updL] using e), fun e => hg.2 (by simpa [updL] using e)⟩) (fun l W hl hc hg => by go_simp; (try with_reducible rfl); (try omega))
          · exact seq_val (by rfl) (fun l W hg => ⟨fun e => hg.1 (by simpa [updL] using e), fun e => hg.2 (by simpa [updL] using e)⟩) (fun l W hl hc hg => by have h5 : l 5 = false := (by cases h5 : l 5 with | false => rfl | true => exact absurd (hc 5 2 (by kernel_rfl) h5) (by rw [hl]; decide)); obtain rfl := hg.1 h5; obtain ⟨d0, d1, d2, d3, d4, d5, d6, d7, d8⟩ := HKC.out wx.drew (HBX.out.2.2.1.trans (HBX.out.2.1.mono (Nat.le_of_lt HBX.out.2.2.2))); go_simp; (try with_reducible rfl); (try omega))
          · exact seq_val (by rfl) (fun l W hg => ⟨fun e => hg.1 (by simpa [updL] using e), fun e => hg.2 (by simpa [updL] using e)⟩) (fun l W hl hc hg => by go_simp; (try with_reducible rfl); (try omega))
          · exact seq_val (by rfl) (fun l W hg => ⟨fun e => hg.1 (by simpa [updL] using e), fun e => hg.2 (by simpa [updL] using e)⟩) (fun l W hl hc hg => by go_simp; (try with_reducible rfl); (try omega))
          · exact seq_skip (by rfl) rfl (fun l W hl hd hc hg => by
              obtain rfl := hg.1 hl
              refine ⟨_, run_storeX rfl (b := wr.heap.size) (k := 0) (by rfl) (cs := x.cells) (by rfl) (by exact (HBX.out.1.below (Below.refl _ _).drew).there) (by kernel_rfl) (one9 x), fun e => (by simp [updL] at e), fun _ => rfl⟩)
          · exact seq_val (by rfl) (fun l W hg => ⟨fun e => hg.1 (by simpa [updL] using e), fun e => hg.2 (by simpa [updL] using e)⟩) (fun l W hl hc hg => by go_simp; (try with_reducible rfl); (try omega))
        case he5 =>
        intro l W6 hall hg
        have hW6 := hg.2 (hall 5 (by decide))
        clear hg hall
        obtain ⟨stx, bx, hbel, hpw⟩ := HBX.out
        have st6 : Stc W6 wr.heap.size x.cells := by rw [hW6]; exact (stx.below (Below.refl _ _).drew).put x.cells rfl
        have b6 : Below wr.heap.size wr W6 := by rw [hW6]; exact bx.trans ((fr_setCellsX wr.heap.size x.cells 0 wx.drew).below wr.heap.size bx.size (fun k hk => by omega))
        have x0 : W6.cell? ⟨wr.heap.size, 0, none⟩ = some _ := st6.cell 0 _ rfl
        have x1 : W6.cell? ⟨wr.heap.size, 1, none⟩ = some _ := st6.cell 1 _ rfl
        have x2 : W6.cell? ⟨wr.heap.size, 2, none⟩ = some _ := st6.cell 2 _ rfl
        have x3 : W6.cell? ⟨wr.heap.size, 3, none⟩ = some _ := st6.cell 3 _ rfl
        have x4 : W6.cell? ⟨wr.heap.size, 4, none⟩ = some _ := st6.cell 4 _ rfl
        have x5 : W6.cell? ⟨wr.heap.size, 5, none⟩ = some _ := st6.cell 5 _ rfl
        have x6 : W6.cell? ⟨wr.heap.size, 6, none⟩ = some _ := st6.cell 6 _ rfl
        have x7 : W6.cell? ⟨wr.heap.size, 7, none⟩ = some _ := st6.cell 7 _ rfl
        have x8 : W6.cell? ⟨wr.heap.size, 8, none⟩ = some _ := st6.cell 8 _ rfl
        have hcall := ap_step HS.out.pool HS.out.ok (K := M) (idn := 2) (P := Pm) (zs := ys) (mtu := 40) (ps := qs) (i := j) (by rw [← HD2.out]; exact HS.out.l2) (by first | exact .inl rfl | exact .inr rfl) (HPM.out.below hbel) HML.out HF2.out (by omega) hiK2 x HX.out (fun h0 b off hb => HS.out.low b (HXB.out x (List.mem_of_getElem? HX.out) h0 b off hb)) b6 (.agg #[.int .u32 (x.sr : Nat), .int .u32 (x.ds : Nat), .int .u8 (x.pr : Nat), .int .u8 (x.tt : Nat), .int .u16 (x.id : Nat), .bool x.dn, .bool x.mo, .int .i64 x.of, .slice x.a x.n x.c]) rfl
        have HC := (show Hid _ from hcall)
        have HB6 := (show Hid _ from b6)
        have HDR := (show Hid _ from hbel)
        clear hW6 stx bx hbel hpw st6 b6 hcall HBX HKC hs1
        go_wp2_with fail
        refine Calls.mono HC.out ?_
        rintro e w7 ⟨kd', hs', hP', hG', hok', hl1', hl2', hres⟩
        clear x0 x1 x2 x3 x4 x5 x6 x7 x8 HC
        have hS6 := HS.out.below HB6.out
        rw [← HD2.out] at hl1'
        rcases hres with ⟨hlt, rfl⟩ | ⟨hKe, a2, c2, rfl, hs2, ha2⟩
        · have hS7 := hS6.more hP' hG' hok' (i' := i) (j' := j + 1) ((hl2' (0, 0, 0, 1) (by decide)).trans hS6.l1) hl1' (fun e => by omega) (fun e => by omega) ⟨fun e => by omega, fun e => by omega⟩
          have hS8 := hS7.below ((Below.refl _ _).alloc (Nat.le_refl _) (.cells #[.int .u32 0, .int .u32 0, .int .u8 0, .int .u8 0, .int .u16 0, .bool false, .bool false, .int .i64 0, .slice none 0 0] 26))
          have H8 := (show Hid _ from hS8)
          clear hP' hG' hok' hl1' hl2' hS6 hS7 hS8 HB6
          go_wp2
          go_roundw
          case rel => exact ⟨i, j + 1, kd', hs', la, lc', some a1, mc' - 1, ga, gc, G, by rw [HL1.out], by rw [HL2.out, Nat.sub_sub], rfl, by rw [HT.out]; go_num, HLA.out, fun h => by rw [HA1.out (by have := HL2.out; omega), HOO.out, Nat.add_mul], by have := HL1.out; omega, by have := HL2.out; omega, by omega, by omega, H8.out⟩
          case measure => simp [lenV]; omega
        · have hgot := hS6.got.fr hG'.fr (fun g hg hQ => hQ (hS6.gk g hg))
          have hGn : G.length ≤ 2 := by
            have := hS6.cnt
            split at this <;> split at this <;> omega
          obtain ⟨w8, hw8⟩ : ∃ W, W = w7.alloc (.cells #[.int .u32 0, .int .u32 0, .int .u8 0, .int .u8 0, .int .u16 2, .bool false, .bool false, .int .i64 0, .slice a2 ys.length c2] 26) := ⟨_, rfl⟩
          have hz8 : w8.heap.size = w7.heap.size + 1 := by rw [hw8]; simp
          have b78 : Below w7.heap.size w7 w8 := by rw [hw8]; exact (Below.refl _ _).alloc (Nat.le_refl _) _
          have b89 : Below w8.heap.size w8 (w8.alloc (.cells #[.int .u32 0, .int .u32 0, .int .u8 0, .int .u8 0, .int .u16 2, .bool false, .bool false, .int .i64 0, .slice a2 ys.length c2] 26)) := (Below.refl _ _).alloc (Nat.le_refl _) _
          have hRA := (hgot.below b78).below b89
          have hbA : w3.heap.size + 1 ≤ (w8.alloc (.cells #[.int .u32 0, .int .u32 0, .int .u8 0, .int .u8 0, .int .u16 2, .bool false, .bool false, .int .i64 0, .slice a2 ys.length c2] 26)).heap.size := by
            have := HS.out.pool.lt
            have := HB6.out.size
            have := hG'.fr.size
            have := b78.size
            simp
            omega
          have hRC : ∀ j u, (Pk.cells ⟨0, 0, 0, 0, 2, false, false, 0, a2, ys.length, c2⟩)[j]? = some u → (w8.alloc (.cells #[.int .u32 0, .int .u32 0, .int .u8 0, .int .u8 0, .int .u16 2, .bool false, .bool false, .int .i64 0, .slice a2 ys.length c2] 26)).cell? ((⟨w7.heap.size + 1, 0, none⟩ : Addr).add j) = some u := fun j u hu => by rw [Addr.add_mid, ← hz8]; exact (Stc.new w8 (Pk.cells ⟨0, 0, 0, 0, 2, false, false, 0, a2, ys.length, c2⟩) 26 _ rfl).range j u hu
          have bA9 : Below w7.heap.size w7 (w8.alloc (.cells #[.int .u32 0, .int .u32 0, .int .u8 0, .int .u8 0, .int .u16 2, .bool false, .bool false, .int .i64 0, .slice a2 ys.length c2] 26)) := b78.trans (b89.mono b78.size)
          rw [hw8] at hRA hbA hRC bA9
          have HRA := (show Hid _ from hRA)
          have HRC := (show Hid _ from hRC)
          have HM := (show Hid _ from And.intro hP' (And.intro hG' (And.intro hok' (And.intro hl1' (And.intro hl2' (And.intro hS6 (And.intro hs2 (And.intro ha2 bA9))))))))
          clear hP' hG' hok' hl1' hl2' hS6 hs2 ha2 b78 b89 hgot hz8 hRA hRC bA9 hw8
          go_wp2_with (first | (at_builtin; refine OwnG.wpl layPk rfl _ _ rfl rfl HRA.out ⟨0, 0, 0, 0, 2, false, false, 0, a2, ys.length, c2⟩ ⟨w7.heap.size + 1, 0, none⟩ (by first | rfl | simp) HRC.out (by unfold maxLen; omega) (by omega) hbA ?_) | fail)
          intro g9 c9 w9 ho9 hg9 hl9 _
          obtain ⟨hP', hG', hok', hl1', hl2', hS6, hs2, ha2, bA9⟩ := HM.out
          have hS9 := hS6.came hP' hG' hok' (i' := i) (j' := j + 1) ((hl2' (0, 0, 0, 1) (by decide)).trans hS6.l1) hl1' (fun e => by omega) (fun e => by omega) bA9 hs2 ha2 (.inr ⟨hKe, by omega, rfl, rfl, rfl⟩) ho9 hg9 (by simpa using hl9)
          have H9 := (show Hid _ from hS9)
          clear hP' hG' hok' hl1' hl2' hS6 hs2 ha2 bA9 hS9 HM HRA HRC hbA ho9 hg9 hl9 HB6
          go_wp2
          go_roundw
          case rel => exact ⟨i, j + 1, kd', hs', la, lc', some a1, mc' - 1, some ⟨g9, 0, none⟩, c9, _, by rw [HL1.out], by rw [HL2.out, Nat.sub_sub], by rw [List.length_append]; rfl, by rw [HT.out]; go_num, HLA.out, fun h => by rw [HA1.out (by have := HL2.out; omega), HOO.out, Nat.add_mul], by have := HL1.out; omega, by have := HL2.out; omega, by omega, by omega, H9.out⟩
          case measure => simp [lenV]; omega
      · obtain rfl : L2 = 0 := by omega
        obtain rfl : K = i := by have := HL1.out; omega
        obtain rfl : M = j := by have := HL2.out; omega
        obtain ⟨x, y, hx, hy, hG⟩ := HS.out.both
        have hxn := hx.no
        have hyn := hy.no
        obtain ⟨xa, xc, rfl, hxs⟩ := hx.eq
        obtain ⟨ya, yc, rfl, hys⟩ := hy.eq
        have hbel := HS.out.bel
        have hbel3 := HS.out.bel
        have stP := HP3.out.below hbel
        have stQ := HQ3.out.below hbel
        have hsa := HA3.out.below hbel
        have hsb := HB3.out.below hbel
        have hBF := HBB.out.trans (hbel.mono HBB.out.size)
        have hown := HS.out.got
        have hpw := HS.out.pool.lt
        clear HMA HLA HS hx hy
        rcases hG with rfl | rfl
        · obtain ⟨g, rfl, hg1, hg2, hg3, hg4, hc, _⟩ := hown.at_ (fun _ => rfl) (by simp)
          have g4 : wr.cell? ⟨g, 4, none⟩ = some (.int .u16 1) := hc 0 _ rfl 4 _ rfl
          obtain ⟨WF, hWF⟩ : ∃ W, W = wr := ⟨_, rfl⟩
          rw [← hWF] at hown stP stQ hsa hsb hBF hxs hys g4 ⊢
          clear hc hWF hbel hbel3 hxn hyn hpw
          have HCC : Hid (∀ W, Below WF.heap.size WF W → W.cell? ⟨g, 0, none⟩ = some (.int .u32 0) ∧ W.cell? ⟨g, 1, none⟩ = some (.int .u32 0) ∧ W.cell? ⟨g, 2, none⟩ = some (.int .u8 0) ∧ W.cell? ⟨g, 3, none⟩ = some (.int .u8 0) ∧ W.cell? ⟨g, 4, none⟩ = some (.int .u16 1) ∧ W.cell? ⟨g, 5, none⟩ = some (.bool false) ∧ W.cell? ⟨g, 6, none⟩ = some (.bool false) ∧ W.cell? ⟨g, 7, none⟩ = some (.int .i64 0) ∧ W.cell? ⟨g, 8, none⟩ = some (.slice xa zs.length xc) ∧ W.cell? ⟨g, 9, none⟩ = some (.int .u32 0) ∧ W.cell? ⟨g, 10, none⟩ = some (.int .u32 0) ∧ W.cell? ⟨g, 11, none⟩ = some (.int .u8 0) ∧ W.cell? ⟨g, 12, none⟩ = some (.int .u8 0) ∧ W.cell? ⟨g, 13, none⟩ = some (.int .u16 2) ∧ W.cell? ⟨g, 14, none⟩ = some (.bool false) ∧ W.cell? ⟨g, 15, none⟩ = some (.bool false) ∧ W.cell? ⟨g, 16, none⟩ = some (.int .i64 0) ∧ W.cell? ⟨g, 17, none⟩ = some (.slice ya ys.length yc) ∧ W.cell? ⟨w.heap.size, 0, none⟩ = some (.int .u32 0) ∧ W.cell? ⟨w.heap.size, 1, none⟩ = some (.int .u32 0) ∧ W.cell? ⟨w.heap.size, 2, none⟩ = some (.int .u8 0) ∧ W.cell? ⟨w.heap.size, 3, none⟩ = some (.int .u8 0) ∧ W.cell? ⟨w.heap.size, 4, none⟩ = some (.int .u16 1) ∧ W.cell? ⟨w.heap.size, 5, none⟩ = some (.bool false) ∧ W.cell? ⟨w.heap.size, 6, none⟩ = some (.bool false) ∧ W.cell? ⟨w.heap.size, 7, none⟩ = some (.int .i64 0) ∧ W.cell? ⟨w.heap.size, 8, none⟩ = some (.slice a zs.length c) ∧ W.cell? ⟨w.heap.size + 1, 0, none⟩ = some (.int .u32 0) ∧ W.cell? ⟨w.heap.size + 1, 1, none⟩ = some (.int .u32 0) ∧ W.cell? ⟨w.heap.size + 1, 2, none⟩ = some (.int .u8 0) ∧ W.cell? ⟨w.heap.size + 1, 3, none⟩ = some (.int .u8 0) ∧ W.cell? ⟨w.heap.size + 1, 4, none⟩ = some (.int .u16 2) ∧ W.cell? ⟨w.heap.size + 1, 5, none⟩ = some (.bool false) ∧ W.cell? ⟨w.heap.size + 1, 6, none⟩ = some (.bool false) ∧ W.cell? ⟨w.heap.size + 1, 7, none⟩ = some (.int .i64 0) ∧ W.cell? ⟨w.heap.size + 1, 8, none⟩ = some (.slice b ys.length bc)) := by
            show ∀ W, _
            intro W hW
            obtain ⟨g', e', hg1, hg2, _, _, hc, _⟩ := (hown.below hW).at_ (fun _ => rfl) (by simp)
            injection e' with e'
            injection e' with e'
            subst e'
            have p := stP.below hW
            have q := stQ.below hW
            exact ⟨hc 0 _ rfl 0 _ rfl, hc 0 _ rfl 1 _ rfl, hc 0 _ rfl 2 _ rfl, hc 0 _ rfl 3 _ rfl, hc 0 _ rfl 4 _ rfl, hc 0 _ rfl 5 _ rfl, hc 0 _ rfl 6 _ rfl, hc 0 _ rfl 7 _ rfl, hc 0 _ rfl 8 _ rfl, hc 1 _ rfl 0 _ rfl, hc 1 _ rfl 1 _ rfl, hc 1 _ rfl 2 _ rfl, hc 1 _ rfl 3 _ rfl, hc 1 _ rfl 4 _ rfl, hc 1 _ rfl 5 _ rfl, hc 1 _ rfl 6 _ rfl, hc 1 _ rfl 7 _ rfl, hc 1 _ rfl 8 _ rfl, p.cell 0 _ rfl, p.cell 1 _ rfl, p.cell 2 _ rfl, p.cell 3 _ rfl, p.cell 4 _ rfl, p.cell 5 _ rfl, p.cell 6 _ rfl, p.cell 7 _ rfl, p.cell 8 _ rfl, q.cell 0 _ rfl, q.cell 1 _ rfl, q.cell 2 _ rfl, q.cell 3 _ rfl, q.cell 4 _ rfl, q.cell 5 _ rfl, q.cell 6 _ rfl, q.cell 7 _ rfl, q.cell 8 _ rfl⟩
          have HFI := (show Hid _ from And.intro hxs (And.intro hys (And.intro hsa (And.intro hsb hBF))))
          clear hown stP stQ hxs hys hsa hsb hBF
          go_wp2_with fail
          refine wp_region_fixW mixedX (fun W => Below WF.heap.size WF W) [(125, .bool true), (126, .bool true), (127, .slice (some ⟨g, 0, none⟩) 2 gc), (128, .pointer (some ⟨g, 0, none⟩)), (129, .agg #[.int .u32 0, .int .u32 0, .int .u8 0, .int .u8 0, .int .u16 1, .bool false, .bool false, .int .i64 0, .slice xa zs.length xc]), (130, .agg #[.int .u32 0, .int .u32 0, .int .u8 0, .int .u8 0, .int .u16 1, .bool false, .bool false, .int .i64 0, .slice a zs.length c]), (131, .bool true), (132, .bool true), (133, .bool true), (134, .slice (some ⟨g, 0, none⟩) 2 gc), (135, .pointer (some ⟨g, 9, none⟩)), (136, .agg #[.int .u32 0, .int .u32 0, .int .u8 0, .int .u8 0, .int .u16 2, .bool false, .bool false, .int .i64 0, .slice ya ys.length yc]), (137, .agg #[.int .u32 0, .int .u32 0, .int .u8 0, .int .u8 0, .int .u16 2, .bool false, .bool false, .int .i64 0, .slice b ys.length bc]), (138, .bool true), (139, .bool true), (6, .bool true)] ?Z101 ?hZ101 (by kernel_rfl) (by kernel_rfl) (by kernel_rfl) (by kernel_rfl) ?h0101 ?hops101 ?he101
          case hZ101 => simp only [List.foldl_cons, List.foldl_nil, List.setIfInBounds_toArray, List.set_cons_zero, List.set_cons_succ]; rfl
          case h0101 => exact (Below.refl _ _).drew
          case hops101 =>
            refine ⟨?_, ?_, ?_, ?_, ?_, ?_, ?_, ?_, ?_, ?_, ?_, ?_, ?_, ?_, ?_, ?_, trivial⟩
            · exact fix_call (vs := []) (by rfl) rfl (by rfl) Try.func6 (by rfl) (by rfl) (fun W hW => by exact (live11_any W).mono (fun e w' h => ⟨h.1, hW.trans (h.2.mono hW.size)⟩))
            · exact fix_val (by rfl) (fun W hW => by obtain ⟨d0, d1, d2, d3, d4, d5, d6, d7, d8, d9, d10, d11, d12, d13, d14, d15, d16, d17, d18, d19, d20, d21, d22, d23, d24, d25, d26, d27, d28, d29, d30, d31, d32, d33, d34, d35⟩ := HCC.out W hW; go_simp; (try with_reducible rfl); (try omega))
            · exact fix_val (by rfl) (fun W hW => by obtain ⟨d0, d1, d2, d3, d4, d5, d6, d7, d8, d9, d10, d11, d12, d13, d14, d15, d16, d17, d18, d19, d20, d21, d22, d23, d24, d25, d26, d27, d28, d29, d30, d31, d32, d33, d34, d35⟩ := HCC.out W hW; go_simp; (try with_reducible rfl); (try omega))
            · exact fix_val (by rfl) (fun W hW => by obtain ⟨d0, d1, d2, d3, d4, d5, d6, d7, d8, d9, d10, d11, d12, d13, d14, d15, d16, d17, d18, d19, d20, d21, d22, d23, d24, d25, d26, d27, d28, d29, d30, d31, d32, d33, d34, d35⟩ := HCC.out W hW; go_simp; (try with_reducible rfl); (try omega))
            · exact fix_val (by rfl) (fun W hW => by obtain ⟨d0, d1, d2, d3, d4, d5, d6, d7, d8, d9, d10, d11, d12, d13, d14, d15, d16, d17, d18, d19, d20, d21, d22, d23, d24, d25, d26, d27, d28, d29, d30, d31, d32, d33, d34, d35⟩ := HCC.out W hW; go_simp; (try with_reducible rfl); (try omega))
            · exact fix_val (by rfl) (fun W hW => by obtain ⟨d0, d1, d2, d3, d4, d5, d6, d7, d8, d9, d10, d11, d12, d13, d14, d15, d16, d17, d18, d19, d20, d21, d22, d23, d24, d25, d26, d27, d28, d29, d30, d31, d32, d33, d34, d35⟩ := HCC.out W hW; go_simp; (try with_reducible rfl); (try omega))
            · exact fix_call (vs := [.agg #[.int .u32 0, .int .u32 0, .int .u8 0, .int .u8 0, .int .u16 1, .bool false, .bool false, .int .i64 0, .slice xa zs.length xc], .agg #[.int .u32 0, .int .u32 0, .int .u8 0, .int .u8 0, .int .u16 1, .bool false, .bool false, .int .i64 0, .slice a zs.length c]]) (by rfl) rfl (by rfl) Try.func11 (by rfl) (by rfl) (fun W hW => by exact (isame_any 0 0 0 0 1 false false 0 xa zs.length xc zs a c W (HFI.out.1.below hW) (HFI.out.2.2.1.below hW)).mono (fun e w' h => ⟨h.1, hW.trans (h.2.mono hW.size)⟩))
            · exact fix_val (by rfl) (fun W hW => by obtain ⟨d0, d1, d2, d3, d4, d5, d6, d7, d8, d9, d10, d11, d12, d13, d14, d15, d16, d17, d18, d19, d20, d21, d22, d23, d24, d25, d26, d27, d28, d29, d30, d31, d32, d33, d34, d35⟩ := HCC.out W hW; go_simp; (try with_reducible rfl); (try omega))
            · exact fix_val (by rfl) (fun W hW => by obtain ⟨d0, d1, d2, d3, d4, d5, d6, d7, d8, d9, d10, d11, d12, d13, d14, d15, d16, d17, d18, d19, d20, d21, d22, d23, d24, d25, d26, d27, d28, d29, d30, d31, d32, d33, d34, d35⟩ := HCC.out W hW; go_simp; (try with_reducible rfl); (try omega))
            · exact fix_val (by rfl) (fun W hW => by obtain ⟨d0, d1, d2, d3, d4, d5, d6, d7, d8, d9, d10, d11, d12, d13, d14, d15, d16, d17, d18, d19, d20, d21, d22, d23, d24, d25, d26, d27, d28, d29, d30, d31, d32, d33, d34, d35⟩ := HCC.out W hW; go_simp; (try with_reducible rfl); (try omega))
            · exact fix_val (by rfl) (fun W hW => by obtain ⟨d0, d1, d2, d3, d4, d5, d6, d7, d8, d9, d10, d11, d12, d13, d14, d15, d16, d17, d18, d19, d20, d21, d22, d23, d24, d25, d26, d27, d28, d29, d30, d31, d32, d33, d34, d35⟩ := HCC.out W hW; go_simp; (try with_reducible rfl); (try omega))
            · exact fix_val (by rfl) (fun W hW => by obtain ⟨d0, d1, d2, d3, d4, d5, d6, d7, d8, d9, d10, d11, d12, d13, d14, d15, d16, d17, d18, d19, d20, d21, d22, d23, d24, d25, d26, d27, d28, d29, d30, d31, d32, d33, d34, d35⟩ := HCC.out W hW; go_simp; (try with_reducible rfl); (try omega))
            · exact fix_val (by rfl) (fun W hW => by obtain ⟨d0, d1, d2, d3, d4, d5, d6, d7, d8, d9, d10, d11, d12, d13, d14, d15, d16, d17, d18, d19, d20, d21, d22, d23, d24, d25, d26, d27, d28, d29, d30, d31, d32, d33, d34, d35⟩ := HCC.out W hW; go_simp; (try with_reducible rfl); (try omega))
            · exact fix_call (vs := [.agg #[.int .u32 0, .int .u32 0, .int .u8 0, .int .u8 0, .int .u16 2, .bool false, .bool false, .int .i64 0, .slice ya ys.length yc], .agg #[.int .u32 0, .int .u32 0, .int .u8 0, .int .u8 0, .int .u16 2, .bool false, .bool false, .int .i64 0, .slice b ys.length bc]]) (by rfl) rfl (by rfl) Try.func11 (by rfl) (by rfl) (fun W hW => by exact (isame_any 0 0 0 0 2 false false 0 ya ys.length yc ys b bc W (HFI.out.2.1.below hW) (HFI.out.2.2.2.1.below hW)).mono (fun e w' h => ⟨h.1, hW.trans (h.2.mono hW.size)⟩))
            · exact fix_val (by rfl) (fun W hW => by obtain ⟨d0, d1, d2, d3, d4, d5, d6, d7, d8, d9, d10, d11, d12, d13, d14, d15, d16, d17, d18, d19, d20, d21, d22, d23, d24, d25, d26, d27, d28, d29, d30, d31, d32, d33, d34, d35⟩ := HCC.out W hW; go_simp; (try with_reducible rfl); (try omega))
            · exact fix_val (by rfl) (fun W hW => by obtain ⟨d0, d1, d2, d3, d4, d5, d6, d7, d8, d9, d10, d11, d12, d13, d14, d15, d16, d17, d18, d19, d20, d21, d22, d23, d24, d25, d26, d27, d28, d29, d30, d31, d32, d33, d34, d35⟩ := HCC.out W hW; go_simp; (try with_reducible rfl); (try omega))
          case he101 =>
          intro W hW
          have HB := (show Hid _ from HFI.out.2.2.2.2.trans (hW.mono HFI.out.2.2.2.2.size))
          clear hW HFI HCC
          go_wp2
          go_ret
          exact ⟨rfl, HB.out⟩
        · obtain ⟨g, rfl, hg1, hg2, hg3, hg4, hc, _⟩ := hown.at_ (fun _ => rfl) (by simp)
          have g4 : wr.cell? ⟨g, 4, none⟩ = some (.int .u16 2) := hc 0 _ rfl 4 _ rfl
          have HKC : Hid (wr.drew.cell? ⟨g, 0, none⟩ = some (.int .u32 0) ∧ wr.drew.cell? ⟨g, 1, none⟩ = some (.int .u32 0) ∧ wr.drew.cell? ⟨g, 2, none⟩ = some (.int .u8 0) ∧ wr.drew.cell? ⟨g, 3, none⟩ = some (.int .u8 0) ∧ wr.drew.cell? ⟨g, 4, none⟩ = some (.int .u16 2) ∧ wr.drew.cell? ⟨g, 5, none⟩ = some (.bool false) ∧ wr.drew.cell? ⟨g, 6, none⟩ = some (.bool false) ∧ wr.drew.cell? ⟨g, 7, none⟩ = some (.int .i64 0) ∧ wr.drew.cell? ⟨g, 8, none⟩ = some (.slice ya ys.length yc) ∧ wr.drew.cell? ⟨g, 9, none⟩ = some (.int .u32 0) ∧ wr.drew.cell? ⟨g, 10, none⟩ = some (.int .u32 0) ∧ wr.drew.cell? ⟨g, 11, none⟩ = some (.int .u8 0) ∧ wr.drew.cell? ⟨g, 12, none⟩ = some (.int .u8 0) ∧ wr.drew.cell? ⟨g, 13, none⟩ = some (.int .u16 1) ∧ wr.drew.cell? ⟨g, 14, none⟩ = some (.bool false) ∧ wr.drew.cell? ⟨g, 15, none⟩ = some (.bool false) ∧ wr.drew.cell? ⟨g, 16, none⟩ = some (.int .i64 0) ∧ wr.drew.cell? ⟨g, 17, none⟩ = some (.slice xa zs.length xc)) := by
            have hd := hown.below (Below.refl _ _).drew
            obtain ⟨g', e', _, _, _, _, hc, _⟩ := hd.at_ (fun _ => rfl) (by simp)
            injection e' with e'
            injection e' with e'
            subst e'
            exact ⟨hc 0 _ rfl 0 _ rfl, hc 0 _ rfl 1 _ rfl, hc 0 _ rfl 2 _ rfl, hc 0 _ rfl 3 _ rfl, hc 0 _ rfl 4 _ rfl, hc 0 _ rfl 5 _ rfl, hc 0 _ rfl 6 _ rfl, hc 0 _ rfl 7 _ rfl, hc 0 _ rfl 8 _ rfl, hc 1 _ rfl 0 _ rfl, hc 1 _ rfl 1 _ rfl, hc 1 _ rfl 2 _ rfl, hc 1 _ rfl 3 _ rfl, hc 1 _ rfl 4 _ rfl, hc 1 _ rfl 5 _ rfl, hc 1 _ rfl 6 _ rfl, hc 1 _ rfl 7 _ rfl, hc 1 _ rfl 8 _ rfl⟩
          have hown1 := hown.below (Below.refl _ _).drew
          have hth1 := hown1.thereAt (fun _ => rfl) 0 (by simp)
          have hown2 := hown1.setAt (fun _ => rfl) 0 ⟨0, 0, 0, 0, 1, false, false, 0, xa, zs.length, xc⟩ (by simp)
          have hth2 := hown2.thereAt (fun _ => rfl) 1 (by simp)
          have hown3 := hown2.setAt (fun _ => rfl) 1 ⟨0, 0, 0, 0, 2, false, false, 0, ya, ys.length, yc⟩ (by simp)
          have HW := (show Hid _ from And.intro hth1 (And.intro hth2 hown3))
          obtain ⟨u1, hu1⟩ : ∃ W, W = wr.drew.setCells g (0 * 9) (Pk.cells ⟨0, 0, 0, 0, 1, false, false, 0, xa, zs.length, xc⟩) := ⟨_, rfl⟩
          obtain ⟨u2, hu2⟩ : ∃ W, W = u1.setCells g (1 * 9) (Pk.cells ⟨0, 0, 0, 0, 2, false, false, 0, ya, ys.length, yc⟩) := ⟨_, rfl⟩
          have HU1 := (show Hid _ from hu1)
          have HU2 := (show Hid _ from hu2)
          have HXX := (show Hid _ from And.intro hxs (And.intro hys (And.intro hsa (And.intro hsb (And.intro hBF (And.intro stP (And.intro stQ (And.intro hxn (And.intro hyn (And.intro hpw (And.intro hg1 hg2)))))))))))
          clear hc hown hown1 hth1 hown2 hth2 hown3 hu1 hu2 hxs hys hsa hsb hBF stP stQ hxn hyn hpw hbel hg1 hg2
          go_wp2_with fail
          refine wp_region_seq mixedX [] (fun l W => (l 9 = false → W = wr.drew) ∧ (l 9 = true → l 11 = false → W = u1) ∧ (l 11 = true → W = u2)) [(115, .slice (some ⟨g, 0, none⟩) 2 gc), (116, .slice (some ⟨g, 0, none⟩) 2 gc), (117, .slice (some ⟨g, 0, none⟩) 2 gc), (118, .pointer (some ⟨g, 9, none⟩)), (119, .agg #[.int .u32 0, .int .u32 0, .int .u8 0, .int .u8 0, .int .u16 1, .bool false, .bool false, .int .i64 0, .slice xa zs.length xc]), (120, .slice (some ⟨g, 0, none⟩) 2 gc), (121, .pointer (some ⟨g, 0, none⟩)), (122, .agg #[.int .u32 0, .int .u32 0, .int .u8 0, .int .u8 0, .int .u16 2, .bool false, .bool false, .int .i64 0, .slice ya ys.length yc]), (123, .pointer (some ⟨g, 0, none⟩)), (124, .pointer (some ⟨g, 9, none⟩))] ?Z90 ?hZ90 (by kernel_rfl) (by kernel_rfl) (by kernel_rfl) (by kernel_rfl) ?h090 ?hops90 ?he90
          case hZ90 => simp only [List.foldl_cons, List.foldl_nil, List.setIfInBounds_toArray, List.set_cons_zero, List.set_cons_succ]; rfl
          case h090 => exact ⟨fun _ => rfl, fun e => (by cases e), fun e => (by cases e)⟩
          case hops90 =>
            refine ⟨?_, ?_, ?_, ?_, ?_, ?_, ?_, ?_, ?_, ?_, ?_, ?_, trivial⟩
            · exact seq_val (by rfl) (fun l W hg => ⟨fun e => hg.1 (by simpa [updL] using e), fun e1 e2 => hg.2.1 (by simpa [updL] using e1) (by simpa [updL] using e2), fun e => hg.2.2 (by simpa [updL] using e)⟩) (fun l W hl hc hg => by go_simp; (try with_reducible rfl); (try omega))
            · exact seq_val (by rfl) (fun l W hg => ⟨fun e => hg.1 (by simpa [updL] using e), fun e1 e2 => hg.2.1 (by simpa [updL] using e1) (by simpa [updL] using e2), fun e => hg.2.2 (by simpa [updL] using e)⟩) (fun l W hl hc hg => by go_simp; (try with_reducible rfl); (try omega))
            · exact seq_val (by rfl) (fun l W hg => ⟨fun e => hg.1 (by simpa [updL] using e), fun e1 e2 => hg.2.1 (by simpa [updL] using e1) (by simpa [updL] using e2), fun e => hg.2.2 (by simpa [updL] using e)⟩) (fun l W hl hc hg => by go_simp; (try with_reducible rfl); (try omega))
            · exact seq_val (by rfl) (fun l W hg => ⟨fun e => hg.1 (by simpa [updL] using e), fun e1 e2 => hg.2.1 (by simpa [updL] using e1) (by simpa [updL] using e2), fun e => hg.2.2 (by simpa [updL] using e)⟩) (fun l W hl hc hg => by go_simp; (try with_reducible rfl); (try omega))
            · exact seq_val (by rfl) (fun l W hg => ⟨fun e => hg.1 (by simpa [updL] using e), fun e1 e2 => hg.2.1 (by simpa [updL] using e1) (by simpa [updL] using e2), fun e => hg.2.2 (by simpa [updL] using e)⟩) (fun l W hl hc hg => by have h9 : l 9 = false := (by cases h9 : l 9 with | false => rfl | true => exact absurd (hc 9 4 (by kernel_rfl) h9) (by rw [hl]; decide)); obtain rfl := hg.1 h9; obtain ⟨d0, d1, d2, d3, d4, d5, d6, d7, d8, d9, d10, d11, d12, d13, d14, d15, d16, d17⟩ := HKC.out; go_simp; (try with_reducible rfl); (try omega))
            · exact seq_val (by rfl) (fun l W hg => ⟨fun e => hg.1 (by simpa [updL] using e), fun e1 e2 => hg.2.1 (by simpa [updL] using e1) (by simpa [updL] using e2), fun e => hg.2.2 (by simpa [updL] using e)⟩) (fun l W hl hc hg => by go_simp; (try with_reducible rfl); (try omega))
            · exact seq_val (by rfl) (fun l W hg => ⟨fun e => hg.1 (by simpa [updL] using e), fun e1 e2 => hg.2.1 (by simpa [updL] using e1) (by simpa [updL] using e2), fun e => hg.2.2 (by simpa [updL] using e)⟩) (fun l W hl hc hg => by go_simp; (try with_reducible rfl); (try omega))
            · exact seq_val (by rfl) (fun l W hg => ⟨fun e => hg.1 (by simpa [updL] using e), fun e1 e2 => hg.2.1 (by simpa [updL] using e1) (by simpa [updL] using e2), fun e => hg.2.2 (by simpa [updL] using e)⟩) (fun l W hl hc hg => by have h9 : l 9 = false := (by cases h9 : l 9 with | false => rfl | true => exact absurd (hc 9 7 (by kernel_rfl) h9) (by rw [hl]; decide)); obtain rfl := hg.1 h9; obtain ⟨d0, d1, d2, d3, d4, d5, d6, d7, d8, d9, d10, d11, d12, d13, d14, d15, d16, d17⟩ := HKC.out; go_simp; (try with_reducible rfl); (try omega))
            · exact seq_val (by rfl) (fun l W hg => ⟨fun e => hg.1 (by simpa [updL] using e), fun e1 e2 => hg.2.1 (by simpa [updL] using e1) (by simpa [updL] using e2), fun e => hg.2.2 (by simpa [updL] using e)⟩) (fun l W hl hc hg => by go_simp; (try with_reducible rfl); (try omega))
            · exact seq_skip (by rfl) rfl (fun l W hl hd hc hg => by
                have h11 : l 11 = false := (by cases h11 : l 11 with | false => rfl | true => exact absurd (hc 11 9 (by kernel_rfl) h11) (by rw [hl]; decide))
                obtain rfl := hg.1 hl
                refine ⟨_, run_storeX rfl (b := g) (k := 0 * 9) (by rfl) (cs := Pk.cells ⟨0, 0, 0, 0, 1, false, false, 0, xa, zs.length, xc⟩) (by rfl) HW.out.1 (by kernel_rfl) (one9 _), fun e => (by simp [updL] at e), fun _ _ => HU1.out.symm, fun e => (by simp [updL, h11] at e)⟩)
            · exact seq_val (by rfl) (fun l W hg => ⟨fun e => hg.1 (by simpa [updL] using e), fun e1 e2 => hg.2.1 (by simpa [updL] using e1) (by simpa [updL] using e2), fun e => hg.2.2 (by simpa [updL] using e)⟩) (fun l W hl hc hg => by go_simp; (try with_reducible rfl); (try omega))
            · exact seq_skip (by rfl) rfl (fun l W hl hd hc hg => by
                have h9 : l 9 = true := hd 9 (by kernel_rfl)
                obtain rfl := hg.2.1 h9 hl
                refine ⟨_, run_storeX rfl (b := g) (k := 1 * 9) (by rfl) (cs := Pk.cells ⟨0, 0, 0, 0, 2, false, false, 0, ya, ys.length, yc⟩) (by rfl) (by rw [HU1.out]; exact HW.out.2.1) (by kernel_rfl) (one9 _), fun e => (by simp [updL, h9] at e), fun _ e => (by simp [updL] at e), fun _ => HU2.out.symm⟩)
          case he90 =>
          intro l WF hall hg
          have hWF := hg.2.2 (hall 11 (by decide))
          clear hg hall
          obtain ⟨hxs, hys, hsa, hsb, hBF, stP, stQ, hxn, hyn, hpw, hg1, hg2⟩ := HXX.out
          obtain ⟨_, _, hown⟩ := HW.out
          have hfr : Fr (fun k => k = g) wr WF := by
            rw [hWF, HU2.out, HU1.out]
            exact ((Fr.of_below (Below.refl _ _).drew).trans (fr_setCellsX g _ _ _)).trans (fr_setCellsX g _ _ _)
          have hbW : Below w3.heap.size wr WF := hfr.below w3.heap.size (Nat.le_of_lt hpw) (fun k hk => by omega)
          rw [← HU1.out, ← HU2.out, ← hWF] at hown
          have hxs := Sl.frX hxs hfr (fun b off hb => (hxn b off hb).2.2 g rfl)
          have hys := Sl.frX hys hfr (fun b off hb => (hyn b off hb).2.2 g rfl)
          have hPl := HP3.out.lt
          have hQl := HQ3.out.lt
          have stP := stP.fr hfr (by omega)
          have stQ := stQ.fr hfr (by omega)
          have hsa := HA3.out.below (hbel3.trans hbW)
          have hsb := HB3.out.below (hbel3.trans hbW)
          have hBF := HBB.out.trans ((hbel3.trans hbW).mono HBB.out.size)
          clear hWF hfr hbW HXX HW HU1 HU2 hxn hyn hpw hg1 hg2 HKC hPl hQl
          have HCC : Hid (∀ W, Below WF.heap.size WF W → W.cell? ⟨g, 0, none⟩ = some (.int .u32 0) ∧ W.cell? ⟨g, 1, none⟩ = some (.int .u32 0) ∧ W.cell? ⟨g, 2, none⟩ = some (.int .u8 0) ∧ W.cell? ⟨g, 3, none⟩ = some (.int .u8 0) ∧ W.cell? ⟨g, 4, none⟩ = some (.int .u16 1) ∧ W.cell? ⟨g, 5, none⟩ = some (.bool false) ∧ W.cell? ⟨g, 6, none⟩ = some (.bool false) ∧ W.cell? ⟨g, 7, none⟩ = some (.int .i64 0) ∧ W.cell? ⟨g, 8, none⟩ = some (.slice xa zs.length xc) ∧ W.cell? ⟨g, 9, none⟩ = some (.int .u32 0) ∧ W.cell? ⟨g, 10, none⟩ = some (.int .u32 0) ∧ W.cell? ⟨g, 11, none⟩ = some (.int .u8 0) ∧ W.cell? ⟨g, 12, none⟩ = some (.int .u8 0) ∧ W.cell? ⟨g, 13, none⟩ = some (.int .u16 2) ∧ W.cell? ⟨g, 14, none⟩ = some (.bool false) ∧ W.cell? ⟨g, 15, none⟩ = some (.bool false) ∧ W.cell? ⟨g, 16, none⟩ = some (.int .i64 0) ∧ W.cell? ⟨g, 17, none⟩ = some (.slice ya ys.length yc) ∧ W.cell? ⟨w.heap.size, 0, none⟩ = some (.int .u32 0) ∧ W.cell? ⟨w.heap.size, 1, none⟩ = some (.int .u32 0) ∧ W.cell? ⟨w.heap.size, 2, none⟩ = some (.int .u8 0) ∧ W.cell? ⟨w.heap.size, 3, none⟩ = some (.int .u8 0) ∧ W.cell? ⟨w.heap.size, 4, none⟩ = some (.int .u16 1) ∧ W.cell? ⟨w.heap.size, 5, none⟩ = some (.bool false) ∧ W.cell? ⟨w.heap.size, 6, none⟩ = some (.bool false) ∧ W.cell? ⟨w.heap.size, 7, none⟩ = some (.int .i64 0) ∧ W.cell? ⟨w.heap.size, 8, none⟩ = some (.slice a zs.length c) ∧ W.cell? ⟨w.heap.size + 1, 0, none⟩ = some (.int .u32 0) ∧ W.cell? ⟨w.heap.size + 1, 1, none⟩ = some (.int .u32 0) ∧ W.cell? ⟨w.heap.size + 1, 2, none⟩ = some (.int .u8 0) ∧ W.cell? ⟨w.heap.size + 1, 3, none⟩ = some (.int .u8 0) ∧ W.cell? ⟨w.heap.size + 1, 4, none⟩ = some (.int .u16 2) ∧ W.cell? ⟨w.heap.size + 1, 5, none⟩ = some (.bool false) ∧ W.cell? ⟨w.heap.size + 1, 6, none⟩ = some (.bool false) ∧ W.cell? ⟨w.heap.size + 1, 7, none⟩ = some (.int .i64 0) ∧ W.cell? ⟨w.heap.size + 1, 8, none⟩ = some (.slice b ys.length bc)) := by
            show ∀ W, _
            intro W hW
            obtain ⟨g', e', hg1, hg2, _, _, hc, _⟩ := (hown.below hW).at_ (fun _ => rfl) (by simp)
            injection e' with e'
            injection e' with e'
            subst e'
            have p := stP.below hW
            have q := stQ.below hW
            exact ⟨hc 0 _ rfl 0 _ rfl, hc 0 _ rfl 1 _ rfl, hc 0 _ rfl 2 _ rfl, hc 0 _ rfl 3 _ rfl, hc 0 _ rfl 4 _ rfl, hc 0 _ rfl 5 _ rfl, hc 0 _ rfl 6 _ rfl, hc 0 _ rfl 7 _ rfl, hc 0 _ rfl 8 _ rfl, hc 1 _ rfl 0 _ rfl, hc 1 _ rfl 1 _ rfl, hc 1 _ rfl 2 _ rfl, hc 1 _ rfl 3 _ rfl, hc 1 _ rfl 4 _ rfl, hc 1 _ rfl 5 _ rfl, hc 1 _ rfl 6 _ rfl, hc 1 _ rfl 7 _ rfl, hc 1 _ rfl 8 _ rfl, p.cell 0 _ rfl, p.cell 1 _ rfl, p.cell 2 _ rfl, p.cell 3 _ rfl, p.cell 4 _ rfl, p.cell 5 _ rfl, p.cell 6 _ rfl, p.cell 7 _ rfl, p.cell 8 _ rfl, q.cell 0 _ rfl, q.cell 1 _ rfl, q.cell 2 _ rfl, q.cell 3 _ rfl, q.cell 4 _ rfl, q.cell 5 _ rfl, q.cell 6 _ rfl, q.cell 7 _ rfl, q.cell 8 _ rfl⟩
          have HFI := (show Hid _ from And.intro hxs (And.intro hys (And.intro hsa (And.intro hsb hBF))))
          clear hown stP stQ hxs hys hsa hsb hBF
          go_wp2_with fail
          refine wp_region_fixW mixedX (fun W => Below WF.heap.size WF W) [(125, .bool true), (126, .bool true), (127, .slice (some ⟨g, 0, none⟩) 2 gc), (128, .pointer (some ⟨g, 0, none⟩)), (129, .agg #[.int .u32 0, .int .u32 0, .int .u8 0, .int .u8 0, .int .u16 1, .bool false, .bool false, .int .i64 0, .slice xa zs.length xc]), (130, .agg #[.int .u32 0, .int .u32 0, .int .u8 0, .int .u8 0, .int .u16 1, .bool false, .bool false, .int .i64 0, .slice a zs.length c]), (131, .bool true), (132, .bool true), (133, .bool true), (134, .slice (some ⟨g, 0, none⟩) 2 gc), (135, .pointer (some ⟨g, 9, none⟩)), (136, .agg #[.int .u32 0, .int .u32 0, .int .u8 0, .int .u8 0, .int .u16 2, .bool false, .bool false, .int .i64 0, .slice ya ys.length yc]), (137, .agg #[.int .u32 0, .int .u32 0, .int .u8 0, .int .u8 0, .int .u16 2, .bool false, .bool false, .int .i64 0, .slice b ys.length bc]), (138, .bool true), (139, .bool true), (6, .bool true)] ?Z102 ?hZ102 (by kernel_rfl) (by kernel_rfl) (by kernel_rfl) (by kernel_rfl) ?h0102 ?hops102 ?he102
          case hZ102 => simp only [List.foldl_cons, List.foldl_nil, List.setIfInBounds_toArray, List.set_cons_zero, List.set_cons_succ]; rfl
          case h0102 => exact (Below.refl _ _).drew
          case hops102 =>
            refine ⟨?_, ?_, ?_, ?_, ?_, ?_, ?_, ?_, ?_, ?_, ?_, ?_, ?_, ?_, ?_, ?_, trivial⟩
            · exact fix_call (vs := []) (by rfl) rfl (by rfl) Try.func6 (by rfl) (by rfl) (fun W hW => by exact (live11_any W).mono (fun e w' h => ⟨h.1, hW.trans (h.2.mono hW.size)⟩))
            · exact fix_val (by rfl) (fun W hW => by obtain ⟨d0, d1, d2, d3, d4, d5, d6, d7, d8, d9, d10, d11, d12, d13, d14, d15, d16, d17, d18, d19, d20, d21, d22, d23, d24, d25, d26, d27, d28, d29, d30, d31, d32, d33, d34, d35⟩ := HCC.out W hW; go_simp; (try with_reducible rfl); (try omega))
            · exact fix_val (by rfl) (fun W hW => by obtain ⟨d0, d1, d2, d3, d4, d5, d6, d7, d8, d9, d10, d11, d12, d13, d14, d15, d16, d17, d18, d19, d20, d21, d22, d23, d24, d25, d26, d27, d28, d29, d30, d31, d32, d33, d34, d35⟩ := HCC.out W hW; go_simp; (try with_reducible rfl); (try omega))
            · exact fix_val (by rfl) (fun W hW => by obtain ⟨d0, d1, d2, d3, d4, d5, d6, d7, d8, d9, d10, d11, d12, d13, d14, d15, d16, d17, d18, d19, d20, d21, d22, d23, d24, d25, d26, d27, d28, d29, d30, d31, d32, d33, d34, d35⟩ := HCC.out W hW; go_simp; (try with_reducible rfl); (try omega))
            · exact fix_val (by rfl) (fun W hW => by obtain ⟨d0, d1, d2, d3, d4, d5, d6, d7, d8, d9, d10, d11, d12, d13, d14, d15, d16, d17, d18, d19, d20, d21, d22, d23, d24, d25, d26, d27, d28, d29, d30, d31, d32, d33, d34, d35⟩ := HCC.out W hW; go_simp; (try with_reducible rfl); (try omega))
            · exact fix_val (by rfl) (fun W hW => by obtain ⟨d0, d1, d2, d3, d4, d5, d6, d7, d8, d9, d10, d11, d12, d13, d14, d15, d16, d17, d18, d19, d20, d21, d22, d23, d24, d25, d26, d27, d28, d29, d30, d31, d32, d33, d34, d35⟩ := HCC.out W hW; go_simp; (try with_reducible rfl); (try omega))
            · exact fix_call (vs := [.agg #[.int .u32 0, .int .u32 0, .int .u8 0, .int .u8 0, .int .u16 1, .bool false, .bool false, .int .i64 0, .slice xa zs.length xc], .agg #[.int .u32 0, .int .u32 0, .int .u8 0, .int .u8 0, .int .u16 1, .bool false, .bool false, .int .i64 0, .slice a zs.length c]]) (by rfl) rfl (by rfl) Try.func11 (by rfl) (by rfl) (fun W hW => by exact (isame_any 0 0 0 0 1 false false 0 xa zs.length xc zs a c W (HFI.out.1.below hW) (HFI.out.2.2.1.below hW)).mono (fun e w' h => ⟨h.1, hW.trans (h.2.mono hW.size)⟩))
            · exact fix_val (by rfl) (fun W hW => by obtain ⟨d0, d1, d2, d3, d4, d5, d6, d7, d8, d9, d10, d11, d12, d13, d14, d15, d16, d17, d18, d19, d20, d21, d22, d23, d24, d25, d26, d27, d28, d29, d30, d31, d32, d33, d34, d35⟩ := HCC.out W hW; go_simp; (try with_reducible rfl); (try omega))
            · exact fix_val (by rfl) (fun W hW => by obtain ⟨d0, d1, d2, d3, d4, d5, d6, d7, d8, d9, d10, d11, d12, d13, d14, d15, d16, d17, d18, d19, d20, d21, d22, d23, d24, d25, d26, d27, d28, d29, d30, d31, d32, d33, d34, d35⟩ := HCC.out W hW; go_simp; (try with_reducible rfl); (try omega))
            · exact fix_val (by rfl) (fun W hW => by obtain ⟨d0, d1, d2, d3, d4, d5, d6, d7, d8, d9, d10, d11, d12, d13, d14, d15, d16, d17, d18, d19, d20, d21, d22, d23, d24, d25, d26, d27, d28, d29, d30, d31, d32, d33, d34, d35⟩ := HCC.out W hW; go_simp; (try with_reducible rfl); (try omega))
            · exact fix_val (by rfl) (fun W hW => by obtain ⟨d0, d1, d2, d3, d4, d5, d6, d7, d8, d9, d10, d11, d12, d13, d14, d15, d16, d17, d18, d19, d20, d21, d22, d23, d24, d25, d26, d27, d28, d29, d30, d31, d32, d33, d34, d35⟩ := HCC.out W hW; go_simp; (try with_reducible rfl); (try omega))
            · exact fix_val (by rfl) (fun W hW => by obtain ⟨d0, d1, d2, d3, d4, d5, d6, d7, d8, d9, d10, d11, d12, d13, d14, d15, d16, d17, d18, d19, d20, d21, d22, d23, d24, d25, d26, d27, d28, d29, d30, d31, d32, d33, d34, d35⟩ := HCC.out W hW; go_simp; (try with_reducible rfl); (try omega))
            · exact fix_val (by rfl) (fun W hW => by obtain ⟨d0, d1, d2, d3, d4, d5, d6, d7, d8, d9, d10, d11, d12, d13, d14, d15, d16, d17, d18, d19, d20, d21, d22, d23, d24, d25, d26, d27, d28, d29, d30, d31, d32, d33, d34, d35⟩ := HCC.out W hW; go_simp; (try with_reducible rfl); (try omega))
            · exact fix_call (vs := [.agg #[.int .u32 0, .int .u32 0, .int .u8 0, .int .u8 0, .int .u16 2, .bool false, .bool false, .int .i64 0, .slice ya ys.length yc], .agg #[.int .u32 0, .int .u32 0, .int .u8 0, .int .u8 0, .int .u16 2, .bool false, .bool false, .int .i64 0, .slice b ys.length bc]]) (by rfl) rfl (by rfl) Try.func11 (by rfl) (by rfl) (fun W hW => by exact (isame_any 0 0 0 0 2 false false 0 ya ys.length yc ys b bc W (HFI.out.2.1.below hW) (HFI.out.2.2.2.1.below hW)).mono (fun e w' h => ⟨h.1, hW.trans (h.2.mono hW.size)⟩))
            · exact fix_val (by rfl) (fun W hW => by obtain ⟨d0, d1, d2, d3, d4, d5, d6, d7, d8, d9, d10, d11, d12, d13, d14, d15, d16, d17, d18, d19, d20, d21, d22, d23, d24, d25, d26, d27, d28, d29, d30, d31, d32, d33, d34, d35⟩ := HCC.out W hW; go_simp; (try with_reducible rfl); (try omega))
            · exact fix_val (by rfl) (fun W hW => by obtain ⟨d0, d1, d2, d3, d4, d5, d6, d7, d8, d9, d10, d11, d12, d13, d14, d15, d16, d17, d18, d19, d20, d21, d22, d23, d24, d25, d26, d27, d28, d29, d30, d31, d32, d33, d34, d35⟩ := HCC.out W hW; go_simp; (try with_reducible rfl); (try omega))
          case he102 =>
          intro W hW
          have HB := (show Hid _ from HFI.out.2.2.2.2.trans (hW.mono HFI.out.2.2.2.2.size))
          clear hW HFI HCC
          go_wp2
          go_ret
          exact ⟨rfl, HB.out⟩
end Go.Proofs.Ytnbagloifbllbaa
namespace Go.Proofs.Ytnbagloifbllbaa.reasmApart
open Go.ChangeShapes Go.WideShapes Go.ChangeAt Go.RowKit
open Go.ChangeMaps (open_string shut_string)
set_option linter.unusedVariables false
theorem own : ownKnob Try.prog.godebug = none := by kernel_rfl
theorem laidOut : laidOutB Try.prog = true := by kernel_rfl
theorem bytes_uint8 : Try.prog.bytesOf 5 = 1 := by kernel_rfl

set_option maxRecDepth 100000 in
theorem lifted (os : Os) (started : os.Started) (H : Type) (enc : TypeId × Value → H) :
    ReturnsInHanded {} Try.checked os 4 .any (Rows.reasmApartSpec.pre6 enc Try.prog Try.f4 Rows.reasmApartRow.domain false) (Rows.reasmApartSpec.post enc Try.prog Try.f4 false true false false) := by
  refine returnsInHanded_of_change_sized (C := Try.checked) own started (by kernel_rfl) Try.func4
    (ChangeSpec.witness6 (enc := enc) (C := Try.checked) false ⟨#[], #[.slice none 0 0, .slice none 0 0, .slice none 0 0], []⟩ 8 (by kernel_rfl) (by kernel_rfl) (by kernel_rfl) (by kernel_rfl)) ?_
  intro W base args ds gs before hval0 hW hcnd hsz0 _
  have hval : ∀ (j : Nat) t v, Try.f4.params[j]? = some t → args[j]? = some v → Value.okWide Try.prog W .any base t v := hval0
  have hsz : (DataW.weightsEach Try.prog (Try.f4.params.toList ++ Rows.reasmApartSpec.plain.varTypes Try.prog) (ds ++ gs)).all (· ≤ reachBytes) = true := hsz0
  clear hsz0
  have hW' := hW
  obtain ⟨p, q, hA0, hV, rfl, hfz, hnd⟩ := hW
  have hA : DataW.TrodAll enc Try.prog W 0 (fun _ => true) true Try.f4.params.toList args.toList ds p := hA0
  rw [Try.params4] at hA hval hsz
  obtain ⟨v0, vs0, d0, ds0, p0, q0, hargs, rfl, rfl, h0, r0⟩ := trodAll_cons hA
  obtain ⟨v1, vs1, d1, ds1, p1, q1, rfl, rfl, rfl, h1, r1⟩ := trodAll_cons r0
  obtain ⟨v2, vs2, d2, ds2, p2, q2, rfl, rfl, rfl, h2, r2⟩ := trodAll_cons r1
  obtain ⟨rfl, rfl, rfl⟩ := trodAll_nil r2
  obtain rfl : args = #[v0, v1, v2] := by cases args; simp_all
  obtain ⟨rfl, rfl⟩ := trodVars_none hV
  obtain ⟨a0, len0, cap0, rfl⟩ := okWide_slice Try.underlying24 (hval 0 24 v0 rfl rfl)
  have k0 := h0
  have lt0 : ∀ x ∈ p0, x.block < W.heap.size := by obtain ⟨m, hm⟩ := k0; exact DataW.trod_lt m _ _ _ hm
  obtain ⟨z0, w0⟩ : ∃ zs, SlK .u8 256 W a0 len0 cap0 zs ∧ cap0 * 1 ≤ 140737488351232 := by
    clear k0 lt0
    obtain ⟨fuel, hf⟩ := h0
    rcases open_ints Try.underlying24 Try.underlying5 (by kernel_rfl) hf with ⟨hcs, _⟩ | ⟨x, l, c, zs, hcs, _, hl, hm, hz, hx, hcell, hwz⟩
    · simp [Value.cells] at hcs
      obtain ⟨rfl, rfl, rfl⟩ := hcs
      exact ⟨[], SlK.nil _ _ _ (by omega), by omega⟩
    · simp [Value.cells] at hcs
      obtain ⟨rfl, rfl, rfl⟩ := hcs
      obtain ⟨rfl, rfl⟩ := Prod.mk.inj hx
      have hw := sized_slice hsz (j := 0) (t := 24) (e := 5) rfl rfl Try.underlying24
      have hz' : zs.length = cap0 := by simpa using hz
      rw [bytes_uint8] at hw
      simp only [lits, List.length_map, List.length_take, List.length_drop, reachBytes] at hw
      exact ⟨_, SlK.of_ints (by omega) (fun z hz => by have := bounds_u8 hz; omega) hl hm hz' (by omega) hcell hwz, by omega⟩
  obtain ⟨a1, len1, cap1, rfl⟩ := okWide_slice Try.underlying24 (hval 1 24 v1 rfl rfl)
  have k1 := h1
  have lt1 : ∀ x ∈ p1, x.block < W.heap.size := by obtain ⟨m, hm⟩ := k1; exact DataW.trod_lt m _ _ _ hm
  obtain ⟨z1, w1⟩ : ∃ zs, SlK .u8 256 W a1 len1 cap1 zs ∧ cap1 * 1 ≤ 140737488351232 := by
    clear k1 lt1
    obtain ⟨fuel, hf⟩ := h1
    rcases open_ints Try.underlying24 Try.underlying5 (by kernel_rfl) hf with ⟨hcs, _⟩ | ⟨x, l, c, zs, hcs, _, hl, hm, hz, hx, hcell, hwz⟩
    · simp [Value.cells] at hcs
      obtain ⟨rfl, rfl, rfl⟩ := hcs
      exact ⟨[], SlK.nil _ _ _ (by omega), by omega⟩
    · simp [Value.cells] at hcs
      obtain ⟨rfl, rfl, rfl⟩ := hcs
      obtain ⟨rfl, rfl⟩ := Prod.mk.inj hx
      have hw := sized_slice hsz (j := 1) (t := 24) (e := 5) rfl rfl Try.underlying24
      have hz' : zs.length = cap1 := by simpa using hz
      rw [bytes_uint8] at hw
      simp only [lits, List.length_map, List.length_take, List.length_drop, reachBytes] at hw
      exact ⟨_, SlK.of_ints (by omega) (fun z hz => by have := bounds_u8 hz; omega) hl hm hz' (by omega) hcell hwz, by omega⟩
  obtain ⟨a2, len2, cap2, rfl⟩ := okWide_slice Try.underlying34 (hval 2 34 v2 rfl rfl)
  have k2 := h2
  have lt2 : ∀ x ∈ p2, x.block < W.heap.size := by obtain ⟨m, hm⟩ := k2; exact DataW.trod_lt m _ _ _ hm
  obtain ⟨z2, w2⟩ : ∃ dd, SlBo W a2 len2 cap2 dd := by
    clear k2 lt2
    obtain ⟨fuel, hf⟩ := h2
    exact SlBo.open hf (fun q hq => by
      have := List.all_eq_true.1 hsz q (DataW.weights_mem_each (j := 2) (t := 34) (d := d2) rfl rfl q hq)
      simpa using this)
  clear hA0 hval0 hsz
  refine (walk_ReasmApart a0 len0 cap0 z0 a1 len1 cap1 z1 a2 len2 cap2 z2 W w0 w1 w2).mono fun e W' ⟨he, bel⟩ => ?_
  subst he
  exact ⟨_, rfl, _, _, _, [], _, [], hW', trodAll_mk1 (shut_bool Try.underlying4 _), (trodAll_cons_mk (Below.trod laidOut (by kernel_rfl) (of_decide_eq_true (by kernel_rfl)) k0 bel lt0) (trodAll_cons_mk (Below.trod laidOut (by kernel_rfl) (of_decide_eq_true (by kernel_rfl)) k1 bel lt1) (trodAll_cons_mk (Below.trod laidOut (by kernel_rfl) (of_decide_eq_true (by kernel_rfl)) k2 bel lt2) trodAll_mk0))), rfl, bel.frame _, fun h => by cases h⟩
theorem over : Rows.reasmApartRow.holds Try.pinned (OpenSpec.ofChange Rows.reasmApartSpec) :=
  OpenClaim.holds_of_wide 4 Try.f4 rfl rfl rfl rfl rfl rfl rfl ⟨rfl, rfl, rfl, rfl, rfl⟩ rfl rfl rfl rfl rfl (by kernel_rfl) Try.func4 (by kernel_rfl)
    (of_decide_eq_true (by kernel_rfl)) (by unfold Func.isWrapper; first | (rw [if_pos (by decide +kernel)]; kernel_rfl) | (rw [if_neg (by decide +kernel)]; exact ⟨rfl, rfl⟩))
    (fun os started H enc _ => lifted os started H enc)
end Go.Proofs.Ytnbagloifbllbaa.reasmApart
namespace Go.Proofs.Ytnbagloifbllbaa
theorem ReasmApart_holds : Rows.ReasmApartSaid := reasmApart.over
#print axioms ReasmApart_holds
end Go.Proofs.Ytnbagloifbllbaa
