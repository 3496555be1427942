/-
  Whatever the input, trunklinelaw11.ReasmWhole answers true and leaves what it was handed as it was.
  (The statement is Rows.ReasmWholeSaid; no condition of our own.)
-/
import Derived.Test.YtnbagloifbllbaaZ1
import Derived.Test.YtnbagloifbllbaaRows
import Derived.ProofKit
import Derived.OpenShut
import Derived.ShutString
import Derived.ChangeOld
import Derived.SizedLaws
namespace Go.Proofs.Ytnbagloifbllbaa
open Go.RowKit
theorem own_infoBo : (Try.prog.info? 4).map (fun i => (i.zero, i.size, i.bytes)) = some (some (.bool false), 1, 1) := by kernel_rfl
theorem mkBo (c : Nat) (hc : c ≤ 140737488355328) (w : World) : (Instr.makeSlice 34 (.int .i64 (c : Int)) (.int .i64 (c : Int))).run Try.prog w = .ok (.slice (some ⟨w.heap.size, 0, none⟩) c c) (w.alloc (.cells (madeCells #[.bool false] c) 4)) :=
  run_make_row' 34 4 (.bool false) 1 Try.underlying34 own_infoBo rfl .i64 .i64 c (by omega) (by omega) w
theorem stc_bo (w : World) (K : Nat) : Stc (w.alloc (.cells (madeCells #[.bool false] K) 4)) w.heap.size ((List.range K).map fun k => .bool (decide (k ∈ ([] : List Nat)))) := by
  have e : (madeCells #[Value.bool false] K).toList = (List.range K).map fun k => .bool (decide (k ∈ ([] : List Nat))) := by
    apply List.ext_getElem?
    intro i
    by_cases h : i < K
    · simp [madeCells, h, Nat.mod_one]
    · simp [madeCells, h]
  have := Stc.new w (madeCells #[Value.bool false] K).toList 4 _ rfl
  rw [e] at this
  rw [show (madeCells #[Value.bool false] K) = ((List.range K).map fun k => Value.bool (decide (k ∈ ([] : List Nat)))).toArray by rw [← e]]
  exact this
theorem whF (args : Array Value) (W : World) : (callFunc 9 args).run Try.prog W = .ok (.enter 9 args) W := by kernel_rfl
set_option maxRecDepth 100000 in
set_option maxHeartbeats 1000000 in
theorem walk_ReasmWhole (sr ds pr tt id : Nat) (dn mo : Bool) (of : Int) (a : Option Addr) (n c : Nat) (zs : List Nat) (m : Nat) (oa : Option Addr) (on oc : Nat) (os : List Nat) (w : World) (hsr : sr < 4294967296) (hds : ds < 4294967296) (hpr : pr < 256) (htt : tt < 256) (hid : id < 65536) (_hof : (Lit.int .i64 of).wf = true) (h0 : Sl w a n c zs ∧ c ≤ 140737488351232) (hm : m < 65536) (h1 : Sl w oa on oc os ∧ oc * 1 ≤ 140737488351232) :
    Calls Try.prog 3 #[.agg #[.int .u32 (sr : Nat), .int .u32 (ds : Nat), .int .u8 (pr : Nat), .int .u8 (tt : Nat), .int .u16 (id : Nat), .bool dn, .bool mo, .int .i64 of, .slice a n c], .int .u16 (m : Nat), .slice oa on oc] w fun e w' => e = .returned (.bool true) ∧ Below w.heap.size w w' := by
  obtain ⟨hsl, _⟩ := h0
  obtain ⟨hol, _⟩ := h1
  have hzl := hsl.len
  have hsm := hsl.small
  obtain ⟨W0, hW0⟩ : ∃ W, W = w.alloc (.cells #[.int .u32 (sr : Nat), .int .u32 (ds : Nat), .int .u8 (pr : Nat), .int .u8 (tt : Nat), .int .u16 (id : Nat), .bool false, .bool false, .int .i64 0, .slice a n c] 26) := ⟨_, rfl⟩
  have b0 : Below w.heap.size w W0 := by rw [hW0]; exact (Below.refl _ _).alloc (Nat.le_refl _) _
  have st0 := Stc.new w [.int .u32 (sr : Nat), .int .u32 (ds : Nat), .int .u8 (pr : Nat), .int .u8 (tt : Nat), .int .u16 (id : Nat), .bool false, .bool false, .int .i64 0, .slice a n c] 26 W0 hW0
  have hz0 : W0.heap.size = w.heap.size + 1 := by rw [hW0]; simp
  by_cases hbig : 4096 < n
  · have hbi : (4096 : Int) < (n : Int) := by omega
    go_enter Try.func3, Try.ntmps3
    go_wp2_with fail
    rw [← hW0]
    clear hW0
    refine (live11_any W0).mono ?_
    rintro e w1 ⟨rfl, b1⟩
    have HB := (show Hid _ from b0.trans (b1.mono b0.size))
    clear b0 b1 st0
    go_wp2
    go_ret
    exact ⟨rfl, HB.out⟩
  · have hbi : ¬ (4096 : Int) < (n : Int) := by omega
    obtain ⟨MT, hMT⟩ : ∃ MT : Nat, MT = 28 + m % 600 := ⟨_, rfl⟩
    have hMT1 : (28 : Int) + (m : Int) % 600 = (MT : Int) := by omega
    have hspE : spE false false 0 zs.length (MT : Int) = 0 := by
      have hmb : mbE false 0 zs.length = 0 := by unfold mbE; rw [if_neg (by simp), if_neg (by omega)]
      unfold spE
      rw [hmb, if_neg (by simp), if_neg (by omega)]
      split <;> simp
    have hrs := rsplit_any sr ds pr tt id false false 0 a n c zs (MT : Int) W0 (hsl.below b0) (by simp [Lit.wf, IntKind.min, IntKind.max, IntKind.signed, IntKind.bits]; omega)
    have HM := (show Hid _ from hMT)
    have hMT28 : 28 ≤ MT := by omega
    clear hMT
    go_enter Try.func3, Try.ntmps3
    go_wp2_with fail
    rw [← hW0]
    clear hW0
    refine hrs.mono ?_
    rintro e w2 ⟨⟨la, lc, ps, rfl, kR, _, hR, hadr⟩, b2⟩
    obtain ⟨hPc, hKl⟩ := hR hspE
    rw [hspE]
    have hn := hzl
    obtain ⟨K, hK⟩ : ∃ K, K = ps.length := ⟨_, rfl⟩
    rw [← hK] at kR hKl ⊢
    have HK := (show Hid _ from hK)
    have HKL := (show Hid _ from hKl)
    have HEn := (show Hid _ from hspE)
    have hK1 : 1 ≤ K := by
      rw [hKl]
      unfold spK
      split
      · exact Nat.le_refl _
      · rename_i h9
        exact (cut_last _ _ (by unfold spS; omega) (by omega)).2
    have hKb : K ≤ 5000 := by
      rw [hKl]
      unfold spK
      split
      · omega
      · unfold cutN
        have : (zs.length + spS (MT : Int) - 1) / spS (MT : Int) ≤ zs.length + spS (MT : Int) - 1 := Nat.div_le_self _ _
        have : spS (MT : Int) ≤ MT := by unfold spS; omega
        omega
    clear hK hKl hspE hrs hR
    have bb2 := b0.trans (b2.mono b0.size)
    have hz2 := b2.size
    obtain ⟨w3, hw3⟩ : ∃ W, W = w2.alloc (.cells #[.slice la K lc] 28) := ⟨_, rfl⟩
    have b3 : Below w2.heap.size w2 w3 := by rw [hw3]; exact (Below.refl _ _).alloc (Nat.le_refl _) _
    have cl3 := Stc.new w2 [.slice la K lc] 28 w3 hw3
    have hz3 : w3.heap.size = w2.heap.size + 1 := by rw [hw3]; simp
    have bb3 := bb2.trans (b3.mono bb2.size)
    go_wp2_with fail
    rw [← hw3]
    clear hw3
    refine (rnew_any w3).mono ?_
    rintro e w4 ⟨rfl, P4, b4⟩
    obtain ⟨kd, hkd⟩ : ∃ kd, kd = (fun g => if g = w3.heap.size then Role.pool else .no) := ⟨_, rfl⟩
    rw [← hkd] at P4
    have hk1 : ∀ b, b ≠ w3.heap.size → kd b = .no := fun b hb => by rw [hkd]; exact if_neg hb
    clear hkd
    have bb4 := bb3.trans (b4.mono bb3.size)
    have hp4 := P4.lt
    obtain ⟨w5, hw5⟩ : ∃ W, W = w4.alloc (.cells #[.pointer (some ⟨w3.heap.size, 0, none⟩)] 32) := ⟨_, rfl⟩
    obtain ⟨CC, hCC⟩ : ∃ CC, CC = madeCells #[.bool false] K := ⟨_, rfl⟩
    obtain ⟨w6, hw6⟩ : ∃ W, W = w5.alloc (.cells CC 4) := ⟨_, rfl⟩
    obtain ⟨w7, hw7⟩ : ∃ W, W = w6.alloc (.cells #[.slice (some ⟨w5.heap.size, 0, none⟩) K K] 34) := ⟨_, rfl⟩
    obtain ⟨w8, hw8⟩ : ∃ W, W = w7.alloc (.cells #[.int .i64 (K : Nat)] 3) := ⟨_, rfl⟩
    have mk := fun W => mkBo K (by omega) W
    rw [← hCC] at mk
    have hz5 : w5.heap.size = w4.heap.size + 1 := by rw [hw5]; simp
    have hz6 : w6.heap.size = w5.heap.size + 1 := by rw [hw6]; simp
    have hz7 : w7.heap.size = w6.heap.size + 1 := by rw [hw7]; simp
    have b5 : Below w4.heap.size w4 w5 := by rw [hw5]; exact (Below.refl _ _).alloc (Nat.le_refl _) _
    have b6 : Below w5.heap.size w5 w6 := by rw [hw6]; exact (Below.refl _ _).alloc (Nat.le_refl _) _
    have b7 : Below w6.heap.size w6 w7 := by rw [hw7]; exact (Below.refl _ _).alloc (Nat.le_refl _) _
    have b8 : Below w7.heap.size w7 w8 := by rw [hw8]; exact (Below.refl _ _).alloc (Nat.le_refl _) _
    have b78 := b7.trans (b8.mono b7.size)
    have b68 := b6.trans (b78.mono b6.size)
    have b58 := b5.trans (b68.mono b5.size)
    have b48 := b4.trans (b58.mono b4.size)
    have b38 := b3.trans (b48.mono b3.size)
    have bb8 := bb4.trans (b58.mono bb4.size)
    have th6 := stc_bo w5 K
    rw [← hCC, ← hw6] at th6
    have hS0 : WhS w w8 kd w4.heap.size w2.heap.size w6.heap.size w7.heap.size w.heap.size w3.heap.size w5.heap.size sr ds pr tt id a c zs la K lc ps (spP (MT : Int) zs.length) (MT : Int) [] [] := by
      refine ⟨bb8, ⟨0, 0, [], by omega, P4.below b58, rfl⟩, (Stc.new w4 [.pointer (some ⟨w3.heap.size, 0, none⟩)] 32 w5 hw5).below b68, cl3.below b48, (Stc.new w6 [.slice (some ⟨w5.heap.size, 0, none⟩) K K] 34 w7 hw7).below b8, Stc.new w7 [.int .i64 (K : Nat)] 3 w8 hw8, ?_, (kR.below b38).base (Nat.zero_le _), hPc.below b38, th6.below b78, by rw [hzl]; exact hsl.below bb8, ⟨Nat.le_refl _, by omega, by omega, by omega, by omega, by omega, by omega⟩, fun b _ hb => hk1 b hb, fun g hg => ?_, fun x hx h0 b off hb => ?_, fun h0 b off hb => ?_, List.nodup_nil, fun k hk => (by cases hk)⟩
      · rw [hzl]
        exact (st0.below b2).below b38
      · have := kR.own.lt g hg
        omega
      · obtain ⟨off', hao⟩ := hadr x hx b off hb
        obtain ⟨j, hj⟩ := List.getElem?_of_mem hx
        obtain ⟨_, _, _, _, _, _, _, _, _, _, h11, _⟩ := hPc.each j x hj
        rcases hsl.at_ with h9 | ⟨b', off2, e, hlt, _⟩
        · omega
        · rw [hao] at e
          injection e with e
          injection e with e
          subst e
          omega
      · rcases hsl.at_ with h9 | ⟨b', off2, e, hlt, _⟩
        · omega
        · rw [hb] at e
          injection e with e
          injection e with e
          subst e
          exact hlt
    have hw8' : w8 = (((w4.alloc (.cells #[.pointer (some ⟨w3.heap.size, 0, none⟩)] 32)).alloc (.cells CC 4)).alloc (.cells #[.slice (some ⟨w4.heap.size + 1, 0, none⟩) K K] 34)).alloc (.cells #[.int .i64 (K : Nat)] 3) := by rw [hw8, hw7, hw6, hw5]; simp
    have c2l := (cl3.below b4).lt
    have c2l1 : w2.heap.size < w4.heap.size + 1 := by omega
    have c2l2 : w2.heap.size < w4.heap.size + 1 + 1 := by omega
    have c2l3 : ¬ w2.heap.size = w4.heap.size + 1 + 1 := by omega
    have c2l4 : ¬ w2.heap.size = w4.heap.size + 1 := by omega
    have c2l5 : ¬ w2.heap.size = w4.heap.size := by omega
    have HZL := (show Hid _ from hzl)
    have HZ0 := (show Hid _ from hz0)
    have HZ3 := (show Hid _ from hz3)
    have HZ5 := (show Hid _ from hz5)
    have HZ6 := (show Hid _ from hz6)
    have HZ7 := (show Hid _ from hz7)
    have c2 := (cl3.below b4).cell 0 _ rfl
    rw [hz7, hz6, hz5] at hS0
    clear hz0 hz3 hz5 hz6 hz7 hzl hn hMT1
    have hwb4 : Hid (Below w8.heap.size w8 w8) := Below.refl _ _
    clear hw5 hw6 hw7 hw8 hCC b3 b4 b5 b6 b7 b8 b78 b68 b58 b48 b38 bb8 bb4 bb3 bb2 th6 P4 hk1 cl3 kR hPc hadr b2 b0 st0
    go_wp2_with fail
    rw [← hw8']
    clear hw8' mk c2 c2l c2l1 c2l2 c2l3 c2l4 c2l5 hwb4
    have HSTEP : Hid (∀ (W : World) (ks : List Nat) (k : Nat), k < K → WhP w w4.heap.size w2.heap.size (w4.heap.size + 1 + 1) (w4.heap.size + 1 + 1 + 1) w.heap.size w3.heap.size (w4.heap.size + 1) sr ds pr tt id a c zs la K lc ps (spP (MT : Int) zs.length) (MT : Int) ks W → Calls Try.prog 9 #[.int .i64 (k : Nat), .pointer (some ⟨w4.heap.size, 0, none⟩), .pointer (some ⟨w2.heap.size, 0, none⟩), .pointer (some ⟨w4.heap.size + 1 + 1, 0, none⟩), .pointer (some ⟨w4.heap.size + 1 + 1 + 1, 0, none⟩), .pointer (some ⟨w.heap.size, 0, none⟩)] W fun e w' => e = .returned (.tuple #[.bool (doneB K k ks), .bool true]) ∧ StepP w w4.heap.size w2.heap.size (w4.heap.size + 1 + 1) (w4.heap.size + 1 + 1 + 1) w.heap.size w3.heap.size (w4.heap.size + 1) sr ds pr tt id a c zs la K lc ps (spP (MT : Int) zs.length) (MT : Int) ks k (doneB K k ks) w') := fun W ks k hkK hW => wh_any hW (fun hK2 => by
      have hlt : (MT : Int) - 20 < (zs.length : Int) := by
        by_cases h9 : (zs.length : Int) ≤ (MT : Int) - 20
        · have := HKL.out
          unfold spK at this
          rw [if_pos h9] at this
          omega
        · omega
      have := fam_cut sr ds pr tt id zs (MT : Int) hlt (by omega) (by have := HZL.out; omega)
      rw [← HKL.out] at this
      exact this) HK.out.symm (by have := HZL.out; omega) hsr hds hpr htt hid k hkK
    have hP0 : WhP w w4.heap.size w2.heap.size (w4.heap.size + 1 + 1) (w4.heap.size + 1 + 1 + 1) w.heap.size w3.heap.size (w4.heap.size + 1) sr ds pr tt id a c zs la K lc ps (spP (MT : Int) zs.length) (MT : Int) [] w8 := ⟨by show 0 < K; omega, kd, hS0⟩
    clear hS0
    generalize w4.heap.size + 1 + 1 + 1 = bf at HSTEP hP0 ⊢
    generalize w4.heap.size + 1 + 1 = bt at HSTEP hP0 ⊢
    generalize w4.heap.size + 1 = gt at HSTEP hP0 ⊢
    generalize w4.heap.size = br at HSTEP hP0 ⊢
    generalize w2.heap.size = bl at HSTEP hP0 ⊢
    generalize w3.heap.size = p at HSTEP hP0 ⊢
    have hKi : (0 : Int) < (K : Int) := by omega
    have hKn : ¬ ((K : Nat) : Int) = 0 := by omega
    go_loopw [13, 14, 15] (fun iv _ _ wr => ∃ (i : Nat) (ks : List Nat), i ≤ 200 ∧ iv = .int .i64 (i : Nat) ∧ WhP w br bl bt bf w.heap.size p gt sr ds pr tt id a c zs la K lc ps (spP (MT : Int) zs.length) (MT : Int) ks wr) (fun iv _ _ _ => 200 - (intOf iv).toNat)
    case atStart => exact ⟨0, [], by omega, rfl, hP0⟩
    case round =>
      obtain ⟨i, ks, hi, rfl, hP⟩ := hrel
      have hPk := hP.2
      obtain ⟨kd', hS⟩ := hPk
      have hbelr := hS.bel
      by_cases hin : i < on ∧ i < 200
      · have hin1 : (i : Int) < (on : Int) := by omega
        have hin2 : (i : Int) < 200 := by omega
        have hor := hol.below hbelr
        rcases hor.at_ with h9 | ⟨ob, oo, rfl, hobl, hoc⟩
        · omega
        have hcap := hor.cap
        have hov := hoc i hin.1
        have hvb := hor.bnd i
        obtain ⟨v, hv⟩ : ∃ v, v = os.getD i 0 := ⟨_, rfl⟩
        have HV := (show Hid _ from hv)
        rw [← hv] at hov hvb
        clear hv
        have hkK : v % K < K := Nat.mod_lt _ (by omega)
        have hst := HSTEP.out wr.drew ks (v % K) hkK ⟨hP.1, kd', hS.below (Below.refl _ _).drew⟩
        have hrem : ((v : Nat) : Int) % ((K : Nat) : Int) = ((v % K : Nat) : Int) := by omega
        have hremt : ((v : Nat) : Int).tmod ((K : Nat) : Int) = ((v % K : Nat) : Int) := by rw [Int.tmod_eq_emod_of_nonneg (by omega)]; exact hrem
        obtain ⟨k, hk⟩ : ∃ k, k = v % K := ⟨_, rfl⟩
        rw [← hk] at hst hrem hremt hkK
        have HKK := (show Hid _ from hk)
        clear hk
        have hwv : IntKind.i64.wrap ((v : Nat) : Int) = ((v : Nat) : Int) := by rw [IntKind.wrap_i64]; omega
        have HCE : Hid (∀ W, (∃ kd A ks, WhS w W kd br bl bt bf w.heap.size p gt sr ds pr tt id a c zs la K lc ps (spP (MT : Int) zs.length) (MT : Int) A ks) → W.cell? ⟨bl, 0, none⟩ = some (.slice la K lc) ∧ W.cell? ⟨ob, oo + i, none⟩ = some (.int .u8 (v : Nat))) := by
          show ∀ _, _
          rintro W ⟨kd, A, ks, hW⟩
          refine ⟨hW.cl.cell 0 _ rfl, ?_⟩
          have := hol.below hW.bel
          rcases this.at_ with h9 | ⟨b', o', e', _, hc'⟩
          · omega
          · injection e' with e'
            injection e' with e1 e2
            subst e1 e2
            rw [hc' i hin.1, ← HV.out]
        obtain ⟨t, ht⟩ : ∃ t, t = doneB K k ks := ⟨_, rfl⟩
        rw [← ht] at hst
        clear ht hor hov hoc
        go_wp2_with fail
        cases t with
        | true =>
          refine wp_region_stage mixedX [9] (fun stgN W => match stgN with | 0 => W = wr.drew | _ => StepP w br bl bt bf w.heap.size p gt sr ds pr tt id a c zs la K lc ps (spP (MT : Int) zs.length) (MT : Int) ks k true W) (fun W => W.cell? ⟨bl, 0, none⟩ = some (.slice la K lc) ∧ W.cell? ⟨ob, oo + i, none⟩ = some (.int .u8 (v : Nat))) [(59, .func (.func 9) #[] #[.pointer (some ⟨br, 0, none⟩), .pointer (some ⟨bl, 0, none⟩), .pointer (some ⟨bt, 0, none⟩), .pointer (some ⟨bf, 0, none⟩), .pointer (some ⟨w.heap.size, 0, none⟩)]), (60, .slice (some ⟨ob, oo, none⟩) on oc), (61, .int .i64 (i : Nat)), (62, .pointer (some ⟨ob, oo + i, none⟩)), (63, .int .u8 (v : Nat)), (64, .int .i64 (v : Nat)), (65, .slice la K lc), (66, .int .i64 (K : Nat)), (67, .int .i64 (k : Nat)), (68, .tuple #[.bool true, .bool true]), (58, .tuple #[.bool true, .bool true]), (69, .bool true), (70, .bool true), (14, .bool true), (15, .bool true)] ?Z1 ?hZ1 (by kernel_rfl) (by kernel_rfl) (by kernel_rfl) (by kernel_rfl) (by kernel_rfl) ?h01 ?hS1 (.inr ?hl1) ?hops1 ?he1 (by kernel_rfl) (by decide)
          case hZ1 => simp only [List.foldl_cons, List.foldl_nil, List.setIfInBounds_toArray, List.set_cons_zero, List.set_cons_succ]; rfl
          case h01 => rfl
          case hS1 =>
            intro k W hk hW
            have hk : k < 1 := hk
            obtain rfl : k = 0 := by omega
            · subst hW; exact HCE.out _ ⟨kd', _, _, hS.below (Below.refl _ _).drew⟩
          case hl1 =>
            intro W hW
            obtain ⟨kd2, ks2, h2⟩ := hW.1 rfl; exact HCE.out _ ⟨kd2, _, _, h2⟩
          case hops1 =>
            refine ⟨?_, ?_, ?_, ?_, ?_, ?_, ?_, ?_, ?_, ?_, ?_, ?_, ?_, ?_, ?_, trivial⟩
            · exact stg_val (by rfl) (by rfl) (fun W hW => by obtain ⟨s1, s2⟩ := hW; go_simp; (try with_reducible rfl); (try omega))
            · exact stg_val (by rfl) (by rfl) (fun W hW => by obtain ⟨s1, s2⟩ := hW; go_simp; (try with_reducible rfl); (try omega))
            · exact stg_val (by rfl) (by rfl) (fun W hW => by obtain ⟨s1, s2⟩ := hW; go_simp; (try with_reducible rfl); (try omega))
            · exact stg_val (by rfl) (by rfl) (fun W hW => by obtain ⟨s1, s2⟩ := hW; go_simp; (try with_reducible rfl); (try omega))
            · exact stg_val (by rfl) (by rfl) (fun W hW => by obtain ⟨s1, s2⟩ := hW; go_simp; (try with_reducible rfl); (try omega))
            · exact stg_val (by rfl) (by rfl) (fun W hW => by obtain ⟨s1, s2⟩ := hW; go_simp; (try with_reducible rfl); (try omega))
            · exact stg_val (by rfl) (by rfl) (fun W hW => by obtain ⟨s1, s2⟩ := hW; go_simp; (try with_reducible rfl); (try omega))
            · exact stg_val (by rfl) (by rfl) (fun W hW => by obtain ⟨s1, s2⟩ := hW; go_simp; (try with_reducible rfl); (try omega))
            · exact stg_val (by rfl) (by rfl) (fun W hW => by obtain ⟨s1, s2⟩ := hW; go_simp; (try with_reducible rfl); (try omega))
            · exact stg_enter (by rfl) (by rfl) (fun W => run_callV (caps := [.pointer (some ⟨br, 0, none⟩), .pointer (some ⟨bl, 0, none⟩), .pointer (some ⟨bt, 0, none⟩), .pointer (some ⟨bf, 0, none⟩), .pointer (some ⟨w.heap.size, 0, none⟩)]) (vs := [.int .i64 (k : Nat)]) rfl (by rfl) (by rfl) whF) (fun W hW => by subst hW; refine Calls.mono hst ?_; rintro e W2 ⟨rfl, h2⟩; exact ⟨rfl, h2⟩)
            · exact stg_val (by rfl) (by rfl) (fun W hW => by obtain ⟨s1, s2⟩ := hW; go_simp; (try with_reducible rfl); (try omega))
            · exact stg_val (by rfl) (by rfl) (fun W hW => by obtain ⟨s1, s2⟩ := hW; go_simp; (try with_reducible rfl); (try omega))
            · exact stg_val (by rfl) (by rfl) (fun W hW => by obtain ⟨s1, s2⟩ := hW; go_simp; (try with_reducible rfl); (try omega))
            · exact stg_val (by rfl) (by rfl) (fun W hW => by obtain ⟨s1, s2⟩ := hW; go_simp; (try with_reducible rfl); (try omega))
            · exact stg_val (by rfl) (by rfl) (fun W hW => by obtain ⟨s1, s2⟩ := hW; go_simp; (try with_reducible rfl); (try omega))
          case he1 =>
          intro W hW
          obtain ⟨kd2, ks2, h2⟩ := hW.1 rfl
          have hb2 := h2.bel
          clear h2 hW hst HCE hS hP hrem hremt
          go_wp2_with fail
          refine (live11_any W).mono ?_
          rintro e w9 ⟨rfl, b9⟩
          have HB := (show Hid _ from hb2.trans (b9.mono hb2.size))
          clear hb2 b9
          go_wp2
          go_ret
          exact ⟨rfl, HB.out⟩
        | false =>
          refine wp_region_stage mixedX [9] (fun stgN W => match stgN with | 0 => W = wr.drew | _ => StepP w br bl bt bf w.heap.size p gt sr ds pr tt id a c zs la K lc ps (spP (MT : Int) zs.length) (MT : Int) ks k false W) (fun W => W.cell? ⟨bl, 0, none⟩ = some (.slice la K lc) ∧ W.cell? ⟨ob, oo + i, none⟩ = some (.int .u8 (v : Nat))) [(59, .func (.func 9) #[] #[.pointer (some ⟨br, 0, none⟩), .pointer (some ⟨bl, 0, none⟩), .pointer (some ⟨bt, 0, none⟩), .pointer (some ⟨bf, 0, none⟩), .pointer (some ⟨w.heap.size, 0, none⟩)]), (60, .slice (some ⟨ob, oo, none⟩) on oc), (61, .int .i64 (i : Nat)), (62, .pointer (some ⟨ob, oo + i, none⟩)), (63, .int .u8 (v : Nat)), (64, .int .i64 (v : Nat)), (65, .slice la K lc), (66, .int .i64 (K : Nat)), (67, .int .i64 (k : Nat)), (68, .tuple #[.bool false, .bool true]), (58, .tuple #[.bool false, .bool true]), (69, .bool false), (70, .bool true), (14, .bool false), (15, .bool true)] ?Z2 ?hZ2 (by kernel_rfl) (by kernel_rfl) (by kernel_rfl) (by kernel_rfl) (by kernel_rfl) ?h02 ?hS2 (.inr ?hl2) ?hops2 ?he2 (by kernel_rfl) (by decide)
          case hZ2 => simp only [List.foldl_cons, List.foldl_nil, List.setIfInBounds_toArray, List.set_cons_zero, List.set_cons_succ]; rfl
          case h02 => rfl
          case hS2 =>
            intro k W hk hW
            have hk : k < 1 := hk
            obtain rfl : k = 0 := by omega
            · subst hW; exact HCE.out _ ⟨kd', _, _, hS.below (Below.refl _ _).drew⟩
          case hl2 =>
            intro W hW
            obtain ⟨ks2, _, _, _, kd2, h2⟩ := hW.2 rfl; exact HCE.out _ ⟨kd2, _, _, h2⟩
          case hops2 =>
            refine ⟨?_, ?_, ?_, ?_, ?_, ?_, ?_, ?_, ?_, ?_, ?_, ?_, ?_, ?_, ?_, trivial⟩
            · exact stg_val (by rfl) (by rfl) (fun W hW => by obtain ⟨s1, s2⟩ := hW; go_simp; (try with_reducible rfl); (try omega))
            · exact stg_val (by rfl) (by rfl) (fun W hW => by obtain ⟨s1, s2⟩ := hW; go_simp; (try with_reducible rfl); (try omega))
            · exact stg_val (by rfl) (by rfl) (fun W hW => by obtain ⟨s1, s2⟩ := hW; go_simp; (try with_reducible rfl); (try omega))
            · exact stg_val (by rfl) (by rfl) (fun W hW => by obtain ⟨s1, s2⟩ := hW; go_simp; (try with_reducible rfl); (try omega))
            · exact stg_val (by rfl) (by rfl) (fun W hW => by obtain ⟨s1, s2⟩ := hW; go_simp; (try with_reducible rfl); (try omega))
            · exact stg_val (by rfl) (by rfl) (fun W hW => by obtain ⟨s1, s2⟩ := hW; go_simp; (try with_reducible rfl); (try omega))
            · exact stg_val (by rfl) (by rfl) (fun W hW => by obtain ⟨s1, s2⟩ := hW; go_simp; (try with_reducible rfl); (try omega))
            · exact stg_val (by rfl) (by rfl) (fun W hW => by obtain ⟨s1, s2⟩ := hW; go_simp; (try with_reducible rfl); (try omega))
            · exact stg_val (by rfl) (by rfl) (fun W hW => by obtain ⟨s1, s2⟩ := hW; go_simp; (try with_reducible rfl); (try omega))
            · exact stg_enter (by rfl) (by rfl) (fun W => run_callV (caps := [.pointer (some ⟨br, 0, none⟩), .pointer (some ⟨bl, 0, none⟩), .pointer (some ⟨bt, 0, none⟩), .pointer (some ⟨bf, 0, none⟩), .pointer (some ⟨w.heap.size, 0, none⟩)]) (vs := [.int .i64 (k : Nat)]) rfl (by rfl) (by rfl) whF) (fun W hW => by subst hW; refine Calls.mono hst ?_; rintro e W2 ⟨rfl, h2⟩; exact ⟨rfl, h2⟩)
            · exact stg_val (by rfl) (by rfl) (fun W hW => by obtain ⟨s1, s2⟩ := hW; go_simp; (try with_reducible rfl); (try omega))
            · exact stg_val (by rfl) (by rfl) (fun W hW => by obtain ⟨s1, s2⟩ := hW; go_simp; (try with_reducible rfl); (try omega))
            · exact stg_val (by rfl) (by rfl) (fun W hW => by obtain ⟨s1, s2⟩ := hW; go_simp; (try with_reducible rfl); (try omega))
            · exact stg_val (by rfl) (by rfl) (fun W hW => by obtain ⟨s1, s2⟩ := hW; go_simp; (try with_reducible rfl); (try omega))
            · exact stg_val (by rfl) (by rfl) (fun W hW => by obtain ⟨s1, s2⟩ := hW; go_simp; (try with_reducible rfl); (try omega))
          case he2 =>
          intro W hW
          obtain ⟨ks2, _, _, h2⟩ := hW.2 rfl
          clear hW hst HCE hS hP hrem hremt
          go_wp2
          go_roundw
          case rel => exact ⟨i + 1, ks2, by omega, by go_num, h2⟩
          case measure => simp [intOf]; omega
      · by_cases hio : i < on
        · have hio1 : (i : Int) < (on : Int) := by omega
          have hio2 : ¬ (i : Int) < 200 := by omega
          obtain ⟨w9, hw9⟩ : ∃ W, W = wr := ⟨_, rfl⟩
          have hP9 : WhP w br bl bt bf w.heap.size p gt sr ds pr tt id a c zs la K lc ps (spP (MT : Int) zs.length) (MT : Int) ks w9 := by rw [hw9]; exact hP
          subst hw9
          clear hP hS hbelr
          go_wp2_with fail
          go_loopw [16, 17, 18] (fun kv _ _ wr2 => ∃ (j : Nat) (ks : List Nat), j ≤ K ∧ kv = .int .i64 (j : Nat) ∧ (∀ q, K - j ≤ q → q < K → q ∈ ks) ∧ WhP w br bl bt bf w.heap.size p gt sr ds pr tt id a c zs la K lc ps (spP (MT : Int) zs.length) (MT : Int) ks wr2) (fun kv _ _ _ => K - (intOf kv).toNat)
          case atStart => exact ⟨0, ks, by omega, rfl, fun q h1 h2 => by omega, hP9⟩
          case round =>
            obtain ⟨j, ks2, hj, rfl, hall, hP⟩ := hrel
            obtain ⟨hkl, kd', hS⟩ := hP
            have c1 := hS.cl.cell 0 _ rfl
            by_cases hjK : j < K
            · have hjKi : (j : Int) < (K : Int) := by omega
              obtain ⟨k, hk⟩ : ∃ k, k = K - 1 - j := ⟨_, rfl⟩
              have hkK : k < K := by omega
              have hkKi : (k : Int) < (K : Int) := by omega
              have hki : ((K : Nat) : Int) - 1 - (j : Int) = (k : Int) := by omega
              have c2 := hS.ct.cell 0 _ rfl
              have c3 := hS.thAt hkK
              have hall2 : ∀ ks3 : List Nat, k ∈ ks3 → (∀ q ∈ ks2, q ∈ ks3) → ∀ q, K - (j + 1) ≤ q → q < K → q ∈ ks3 := fun ks3 h1 h2 q h3 h4 => by
                by_cases hqk : q = k
                · rw [hqk]; exact h1
                · exact h2 q (hall q (by omega) h4)
              have HALL := (show Hid _ from hall2)
              clear hall hall2 hk
              by_cases hm : k ∈ ks2
              · rw [decide_eq_true hm] at c3
                have hP2 : WhP w br bl bt bf w.heap.size p gt sr ds pr tt id a c zs la K lc ps (spP (MT : Int) zs.length) (MT : Int) ks2 wr := ⟨hkl, kd', hS⟩
                clear hS hkl
                go_wp2
                go_roundw
                case rel => exact ⟨j + 1, ks2, by omega, by go_num, HALL.out ks2 hm (fun q hq => hq), hP2⟩
                case measure => simp [intOf]; omega
              · rw [decide_eq_false hm] at c3
                have hst := HSTEP.out wr ks2 k hkK ⟨hkl, kd', hS⟩
                obtain ⟨t, ht⟩ : ∃ t, t = doneB K k ks2 := ⟨_, rfl⟩
                rw [← ht] at hst
                clear ht
                have hcf := whF
                go_wp2_with fail
                refine Calls.mono hst ?_
                rintro e w10 ⟨rfl, hW⟩
                clear hst c1 c2 c3 hS
                cases t with
                | false =>
                  obtain ⟨ks3, h1, h2, h3⟩ := hW.2 rfl
                  clear hW
                  go_wp2
                  go_roundw
                  case rel => exact ⟨j + 1, ks3, by omega, by go_num, HALL.out ks3 h1 h2, h3⟩
                  case measure => simp [intOf]; omega
                | true =>
                  obtain ⟨kd3, ks3, hS3⟩ := hW.1 rfl
                  have hb3 := hS3.bel
                  obtain ⟨now3, dr3, hs3, _, hP3, hab3⟩ := hS3.pool
                  obtain rfl : hs3 = [] := by
                    have := congrArg List.length hab3
                    simp [absL] at this
                    exact this
                  have c4 := hS3.cr.cell 0 _ rfl
                  clear hW hS3 hab3
                  go_wp2_with fail
                  refine (count_none hP3).mono ?_
                  rintro e w11 ⟨rfl, b11⟩
                  have hb11 := hb3.trans (b11.mono hb3.size)
                  clear hP3 c4 b11 hb3
                  go_wp2_with fail
                  refine (live11_any w11).mono ?_
                  rintro e w12 ⟨rfl, b12⟩
                  have HB := (show Hid _ from hb11.trans (b12.mono hb11.size))
                  clear hb11 b12
                  go_wp2
                  go_ret
                  exact ⟨rfl, HB.out⟩
            · exfalso
              have h1 := (all_iff hS.nd hS.kb).2.2 (fun q hq => hall q (by omega) hq)
              omega
        · have hio1 : ¬ (i : Int) < (on : Int) := by omega
          obtain ⟨w9, hw9⟩ : ∃ W, W = wr := ⟨_, rfl⟩
          have hP9 : WhP w br bl bt bf w.heap.size p gt sr ds pr tt id a c zs la K lc ps (spP (MT : Int) zs.length) (MT : Int) ks w9 := by rw [hw9]; exact hP
          subst hw9
          clear hP hS hbelr
          go_wp2_with fail
          go_loopw [16, 17, 18] (fun kv _ _ wr2 => ∃ (j : Nat) (ks : List Nat), j ≤ K ∧ kv = .int .i64 (j : Nat) ∧ (∀ q, K - j ≤ q → q < K → q ∈ ks) ∧ WhP w br bl bt bf w.heap.size p gt sr ds pr tt id a c zs la K lc ps (spP (MT : Int) zs.length) (MT : Int) ks wr2) (fun kv _ _ _ => K - (intOf kv).toNat)
          case atStart => exact ⟨0, ks, by omega, rfl, fun q h1 h2 => by omega, hP9⟩
          case round =>
            obtain ⟨j, ks2, hj, rfl, hall, hP⟩ := hrel
            obtain ⟨hkl, kd', hS⟩ := hP
            have c1 := hS.cl.cell 0 _ rfl
            by_cases hjK : j < K
            · have hjKi : (j : Int) < (K : Int) := by omega
              obtain ⟨k, hk⟩ : ∃ k, k = K - 1 - j := ⟨_, rfl⟩
              have hkK : k < K := by omega
              have hkKi : (k : Int) < (K : Int) := by omega
              have hki : ((K : Nat) : Int) - 1 - (j : Int) = (k : Int) := by omega
              have c2 := hS.ct.cell 0 _ rfl
              have c3 := hS.thAt hkK
              have hall2 : ∀ ks3 : List Nat, k ∈ ks3 → (∀ q ∈ ks2, q ∈ ks3) → ∀ q, K - (j + 1) ≤ q → q < K → q ∈ ks3 := fun ks3 h1 h2 q h3 h4 => by
                by_cases hqk : q = k
                · rw [hqk]; exact h1
                · exact h2 q (hall q (by omega) h4)
              have HALL := (show Hid _ from hall2)
              clear hall hall2 hk
              by_cases hm : k ∈ ks2
              · rw [decide_eq_true hm] at c3
                have hP2 : WhP w br bl bt bf w.heap.size p gt sr ds pr tt id a c zs la K lc ps (spP (MT : Int) zs.length) (MT : Int) ks2 wr := ⟨hkl, kd', hS⟩
                clear hS hkl
                go_wp2
                go_roundw
                case rel => exact ⟨j + 1, ks2, by omega, by go_num, HALL.out ks2 hm (fun q hq => hq), hP2⟩
                case measure => simp [intOf]; omega
              · rw [decide_eq_false hm] at c3
                have hst := HSTEP.out wr ks2 k hkK ⟨hkl, kd', hS⟩
                obtain ⟨t, ht⟩ : ∃ t, t = doneB K k ks2 := ⟨_, rfl⟩
                rw [← ht] at hst
                clear ht
                have hcf := whF
                go_wp2_with fail
                refine Calls.mono hst ?_
                rintro e w10 ⟨rfl, hW⟩
                clear hst c1 c2 c3 hS
                cases t with
                | false =>
                  obtain ⟨ks3, h1, h2, h3⟩ := hW.2 rfl
                  clear hW
                  go_wp2
                  go_roundw
                  case rel => exact ⟨j + 1, ks3, by omega, by go_num, HALL.out ks3 h1 h2, h3⟩
                  case measure => simp [intOf]; omega
                | true =>
                  obtain ⟨kd3, ks3, hS3⟩ := hW.1 rfl
                  have hb3 := hS3.bel
                  obtain ⟨now3, dr3, hs3, _, hP3, hab3⟩ := hS3.pool
                  obtain rfl : hs3 = [] := by
                    have := congrArg List.length hab3
                    simp [absL] at this
                    exact this
                  have c4 := hS3.cr.cell 0 _ rfl
                  clear hW hS3 hab3
                  go_wp2_with fail
                  refine (count_none hP3).mono ?_
                  rintro e w11 ⟨rfl, b11⟩
                  have hb11 := hb3.trans (b11.mono hb3.size)
                  clear hP3 c4 b11 hb3
                  go_wp2_with fail
                  refine (live11_any w11).mono ?_
                  rintro e w12 ⟨rfl, b12⟩
                  have HB := (show Hid _ from hb11.trans (b12.mono hb11.size))
                  clear hb11 b12
                  go_wp2
                  go_ret
                  exact ⟨rfl, HB.out⟩
            · exfalso
              have h1 := (all_iff hS.nd hS.kb).2.2 (fun q hq => hall q (by omega) hq)
              omega
end Go.Proofs.Ytnbagloifbllbaa
namespace Go.Proofs.Ytnbagloifbllbaa.reasmWhole
open Go.ChangeShapes Go.WideShapes Go.ChangeAt Go.RowKit
open Go.ChangeMaps (open_string shut_string)
set_option linter.unusedVariables false
theorem own : ownKnob Try.prog.godebug = none := by kernel_rfl
theorem laidOut : laidOutB Try.prog = true := by kernel_rfl
theorem bytes_uint8 : Try.prog.bytesOf 5 = 1 := by kernel_rfl

set_option maxRecDepth 100000 in
theorem lifted (os : Os) (started : os.Started) (H : Type) (enc : TypeId × Value → H) :
    ReturnsInHanded {} Try.checked os 3 .any (Rows.reasmWholeSpec.pre6 enc Try.prog Try.f3 Rows.reasmWholeRow.domain false) (Rows.reasmWholeSpec.post enc Try.prog Try.f3 false true false false) := by
  refine returnsInHanded_of_change_sized (C := Try.checked) own started (by kernel_rfl) Try.func3
    (ChangeSpec.witness6 (enc := enc) (C := Try.checked) false ⟨#[], #[.agg #[.int .u32 0, .int .u32 0, .int .u8 0, .int .u8 0, .int .u16 0, .bool false, .bool false, .int .i64 0, .slice none 0 0], .int .u16 0, .slice none 0 0], []⟩ 8 (by kernel_rfl) (by kernel_rfl) (by kernel_rfl) (by kernel_rfl)) ?_
  intro W base args ds gs before hval0 hW hcnd hsz0 _
  have hval : ∀ (j : Nat) t v, Try.f3.params[j]? = some t → args[j]? = some v → Value.okWide Try.prog W .any base t v := hval0
  have hsz : (DataW.weightsEach Try.prog (Try.f3.params.toList ++ Rows.reasmWholeSpec.plain.varTypes Try.prog) (ds ++ gs)).all (· ≤ reachBytes) = true := hsz0
  clear hsz0
  have hW' := hW
  obtain ⟨p, q, hA0, hV, rfl, hfz, hnd⟩ := hW
  have hA : DataW.TrodAll enc Try.prog W 0 (fun _ => true) true Try.f3.params.toList args.toList ds p := hA0
  rw [Try.params3] at hA hval hsz
  obtain ⟨v0, vs0, d0, ds0, p0, q0, hargs, rfl, rfl, h0, r0⟩ := trodAll_cons hA
  obtain ⟨v1, vs1, d1, ds1, p1, q1, rfl, rfl, rfl, h1, r1⟩ := trodAll_cons r0
  obtain ⟨v2, vs2, d2, ds2, p2, q2, rfl, rfl, rfl, h2, r2⟩ := trodAll_cons r1
  obtain ⟨rfl, rfl, rfl⟩ := trodAll_nil r2
  obtain rfl : args = #[v0, v1, v2] := by cases args; simp_all
  obtain ⟨rfl, rfl⟩ := trodVars_none hV
  have k0 := h0
  have lt0 : ∀ x ∈ p0, x.block < W.heap.size := by obtain ⟨m, hm⟩ := k0; exact DataW.trod_lt m _ _ _ hm
  obtain ⟨x0_0, x0_1, x0_2, x0_3, x0_4, x0_5, x0_6, x0_7, a0_8, n0_8, c0_8, z0_8, rfl, b0_0, b0_1, b0_2, b0_3, b0_4, b0_7, b0_8⟩ := StPacket.open_ (hval 0 26 v0 rfl rfl) h0 (fun q hq => by
    have := List.all_eq_true.1 hsz q (DataW.weights_mem_each (j := 0) (t := 26) (d := d0) rfl rfl q hq)
    simpa using this)
  obtain ⟨x1, rfl, rfl, rfl, w1⟩ := open_int Try.underlying23 (hval 1 23 v1 rfl rfl) h1
  obtain ⟨m1, rfl⟩ : ∃ m : Nat, x1 = (m : Int) := ⟨x1.toNat, by have := bounds_u16 w1; omega⟩
  have b1 : m1 < 65536 := by have := bounds_u16 w1; omega
  obtain ⟨a2, len2, cap2, rfl⟩ := okWide_slice Try.underlying24 (hval 2 24 v2 rfl rfl)
  have k2 := h2
  have lt2 : ∀ x ∈ p2, x.block < W.heap.size := by obtain ⟨m, hm⟩ := k2; exact DataW.trod_lt m _ _ _ hm
  obtain ⟨z2, w2⟩ : ∃ zs, SlK .u8 256 W a2 len2 cap2 zs ∧ cap2 * 1 ≤ 140737488351232 := by
    clear k2 lt2
    obtain ⟨fuel, hf⟩ := h2
    rcases open_ints Try.underlying24 Try.underlying5 (by kernel_rfl) hf with ⟨hcs, _⟩ | ⟨x, l, c, zs, hcs, _, hl, hm, hz, hx, hcell, hwz⟩
    · simp [Value.cells] at hcs
      obtain ⟨rfl, rfl, rfl⟩ := hcs
      exact ⟨[], SlK.nil _ _ _ (by omega), by omega⟩
    · simp [Value.cells] at hcs
      obtain ⟨rfl, rfl, rfl⟩ := hcs
      obtain ⟨rfl, rfl⟩ := Prod.mk.inj hx
      have hw := sized_slice hsz (j := 2) (t := 24) (e := 5) rfl rfl Try.underlying24
      have hz' : zs.length = cap2 := by simpa using hz
      rw [bytes_uint8] at hw
      simp only [lits, List.length_map, List.length_take, List.length_drop, reachBytes] at hw
      exact ⟨_, SlK.of_ints (by omega) (fun z hz => by have := bounds_u8 hz; omega) hl hm hz' (by omega) hcell hwz, by omega⟩
  clear hA0 hval0 hsz
  refine (walk_ReasmWhole x0_0 x0_1 x0_2 x0_3 x0_4 x0_5 x0_6 x0_7 a0_8 n0_8 c0_8 z0_8 m1 a2 len2 cap2 z2 W b0_0 b0_1 b0_2 b0_3 b0_4 b0_7 b0_8 b1 w2).mono fun e W' ⟨he, bel⟩ => ?_
  subst he
  exact ⟨_, rfl, _, _, _, [], _, [], hW', trodAll_mk1 (shut_bool Try.underlying4 _), (trodAll_cons_mk (Below.trod laidOut (by kernel_rfl) (of_decide_eq_true (by kernel_rfl)) k0 bel lt0) (trodAll_cons_mk (shut_int Try.underlying23 w1) (trodAll_cons_mk (Below.trod laidOut (by kernel_rfl) (of_decide_eq_true (by kernel_rfl)) k2 bel lt2) trodAll_mk0))), rfl, bel.frame _, fun h => by cases h⟩
theorem over : Rows.reasmWholeRow.holds Try.pinned (OpenSpec.ofChange Rows.reasmWholeSpec) :=
  OpenClaim.holds_of_wide 3 Try.f3 rfl rfl rfl rfl rfl rfl rfl ⟨rfl, rfl, rfl, rfl, rfl⟩ rfl rfl rfl rfl rfl (by kernel_rfl) Try.func3 (by kernel_rfl)
    (of_decide_eq_true (by kernel_rfl)) (by unfold Func.isWrapper; first | (rw [if_pos (by decide +kernel)]; kernel_rfl) | (rw [if_neg (by decide +kernel)]; exact ⟨rfl, rfl⟩))
    (fun os started H enc _ => lifted os started H enc)
end Go.Proofs.Ytnbagloifbllbaa.reasmWhole
namespace Go.Proofs.Ytnbagloifbllbaa
theorem ReasmWhole_holds : Rows.ReasmWholeSaid := reasmWhole.over
#print axioms ReasmWhole_holds
end Go.Proofs.Ytnbagloifbllbaa
