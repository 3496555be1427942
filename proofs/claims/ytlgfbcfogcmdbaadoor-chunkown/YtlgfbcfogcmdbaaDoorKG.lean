/- chunk's reader: Init. -/
import Derived.Test.YtlgfbcfogcmdbaaDoorRd2
import Derived.Test.YtlgfbcfogcmdbaaDoorOwnG
import Derived.Test.YtlgfbcfogcmdbaaDoorOwn
import Derived.Laws.CopyOwn
import Derived.Lib.SliceRun
import Derived.Outline
import Derived.WalkLawsBesides
import Derived.WalkSpells
import Derived.Test.YtlgfbcfogcmdbaaDoorWr5
import Derived.Lib.MinMax
namespace Go.Proofs.YtlgfbcfogcmdbaaDoor
open Go.RowKit
set_option linter.unusedVariables false in
set_option maxRecDepth 100000 in
set_option maxHeartbeats 4000000 in
theorem rvalue_none (q kind : Nat) (w : World) (hk : kind = 8 ∨ kind = 11 ∨ kind = 14) :
    Calls Tryd.prog 62 #[.pointer (some ⟨q, 0, none⟩), .int .u8 (kind : Nat)] w fun e w' => e = .returned (.iface 100 (.agg #[])) ∧ Below w.heap.size w w' := by
  have HV : Hid (Calls Tryd.prog 26 #[.agg #[.int .u8 (kind : Nat), .int .u8 0, .int .u32 0, .int .u16 0, .int .u16 0, .int .u32 0, .int .u32 0, .int .u32 0, .int .u16 0, .int .u16 0, .slice none 0 0, .slice none 0 0, .slice none 0 0, .slice none 0 0]] w fun e w' => e = .returned (.iface 100 (.agg #[])) ∧ Below w.heap.size w w') := valueOf_none kind 0 0 0 0 0 0 0 0 0 none 0 0 none 0 0 none 0 0 none 0 0 w hk
  have tdata := fun (v : Value) (w : World) => ta_no_st 100 92 _ (.agg #[.int .u32 0, .int .u16 0, .int .u16 0, .int .u32 0, .slice none 0 0]) v Tryd.underlying92 (by kernel_rfl) (by decide) w
  have tinit := fun (v : Value) (w : World) => ta_no_st 100 95 _ (.agg #[.int .u32 0, .int .u32 0, .int .u16 0, .int .u16 0, .int .u32 0, .slice none 0 0]) v Tryd.underlying95 (by kernel_rfl) (by decide) w
  have tsack := fun (v : Value) (w : World) => ta_no_st 100 97 _ (.agg #[.int .u32 0, .int .u32 0, .slice none 0 0, .slice none 0 0]) v Tryd.underlying97 (by kernel_rfl) (by decide) w
  have tprms := fun (v : Value) (w : World) => ta_no_sl 100 93 _ (.slice none 0 0) v Tryd.underlying93 (by kernel_rfl) (by decide) w
  have ttsnv := fun (v : Value) (w : World) => ta_no_in 100 98 _ (.int .u32 0) v Tryd.underlying98 (by kernel_rfl) (by decide) w
  have traw := fun (v : Value) (w : World) => ta_no_sl 100 101 _ (.slice none 0 0) v Tryd.underlying101 (by kernel_rfl) (by decide) w
  go_enter Tryd.func62, Tryd.ntmps62
  go_wp2_with fail
  refine Calls.mono HV.out ?_
  rintro e w1 ⟨rfl, b1⟩
  have HB := (show Hid _ from b1)
  clear b1 HV
  go_wp2
  go_ret
  exact ⟨rfl, HB.out⟩
theorem zero_ch14R (w : World) : (zeroValue 32).run Tryd.prog w = .ok (.agg #[.int .u8 0, .int .u8 0, .int .u32 0, .int .u16 0, .int .u16 0, .int .u32 0, .int .u32 0, .int .u32 0, .int .u16 0, .int .u16 0, .slice none 0 0, .slice none 0 0, .slice none 0 0, .slice none 0 0]) w := by kernel_rfl
theorem ch_size14R (cs : List Value) (h : cs.length = 14) : (Tryd.prog.info? 32).map (·.size) = some cs.length := by
  rw [h]
  kernel_rfl
set_option linter.unusedVariables false in
set_option maxRecDepth 100000 in
set_option maxHeartbeats 4000000 in
theorem rchunk_none {W0 w : World} {q : Nat} {rest : List Nat} {sh : Int} (kind flags : Nat) (h : RdW W0 w q (kind :: flags :: 0 :: 4 :: rest) sh) (ahead : Nat) (ha : ahead < 32) (hk : kind = 8 ∨ kind = 11 ∨ kind = 14) (hf : flags < 256) :
    Calls Tryd.prog 57 #[.pointer (some ⟨q, 0, none⟩), .int .i64 (ahead : Nat)] w (RdP W0 w q (.agg #[.int .u8 (kind : Nat), .int .u8 (flags : Nat), .int .u32 0, .int .u16 0, .int .u16 0, .int .u32 0, .int .u32 0, .int .u32 0, .int .u16 0, .int .u16 0, .slice none 0 0, .slice none 0 0, .slice none 0 0, .slice none 0 0]) rest sh) := by
  have hk256 : kind < 256 := by omega
  have hql := h.lt
  have hWq := h.old
  have ha1 : (ahead : Int) < 32 := by omega
  obtain ⟨W1, hW1⟩ : ∃ W1, W1 = w.alloc (.cells #[.int .u8 0, .int .u8 0, .int .u32 0, .int .u16 0, .int .u16 0, .int .u32 0, .int .u32 0, .int .u32 0, .int .u16 0, .int .u16 0, .slice none 0 0, .slice none 0 0, .slice none 0 0, .slice none 0 0] 32) := ⟨_, rfl⟩
  have b1 : Below w.heap.size w W1 := by rw [hW1]; exact (Below.refl _ _).alloc (Nat.le_refl _) _
  have s1 := Stc.new w [.int .u8 0, .int .u8 0, .int .u32 0, .int .u16 0, .int .u16 0, .int .u32 0, .int .u32 0, .int .u32 0, .int .u16 0, .int .u16 0, .slice none 0 0, .slice none 0 0, .slice none 0 0, .slice none 0 0] 32 W1 hW1
  have HU : Hid (RuS W0 w q (kind :: flags :: 0 :: 4 :: rest) sh W1 ∧ Stc W1 w.heap.size [.int .u8 0, .int .u8 0, .int .u32 0, .int .u16 0, .int .u16 0, .int .u32 0, .int .u32 0, .int .u32 0, .int .u16 0, .int .u16 0, .slice none 0 0, .slice none 0 0, .slice none 0 0, .slice none 0 0]) := ⟨⟨h.below b1, Fr.of_below b1⟩, s1⟩
  have hz := zero_ch14R w
  have HN := (show Hid _ from rnum_any HU.out.1.rd 1 (by simp) (by decide) (by decide))
  have e1 : numB (List.take 1 (kind :: flags :: 0 :: 4 :: rest)) = kind := by simp [numB]
  have e1d : List.drop 1 (kind :: flags :: 0 :: 4 :: rest) = flags :: 0 :: 4 :: rest := rfl
  rw [e1, e1d] at HN
  have hwk : IntKind.u8.wrap (kind : Int) = kind := by rw [IntKind.wrap_u8]; omega
  have hwf : IntKind.u8.wrap (flags : Int) = flags := by rw [IntKind.wrap_u8]; omega
  clear h b1 s1 e1 e1d
  go_enter Tryd.func57, Tryd.ntmps57
  go_wp2_with fail
  rw [← hW1]
  clear hW1 hz
  refine Calls.mono HN.out ?_
  clear HN
  rintro e w2 hP
  have he := hP.out
  subst he
  have HU2 : Hid (RuS W0 w q (flags :: 0 :: 4 :: rest) sh w2 ∧ Stc w2 w.heap.size [.int .u8 0, .int .u8 0, .int .u32 0, .int .u16 0, .int .u16 0, .int .u32 0, .int .u32 0, .int .u32 0, .int .u16 0, .int .u16 0, .slice none 0 0, .slice none 0 0, .slice none 0 0, .slice none 0 0]) := ⟨HU.out.1.next hP, HU.out.2.fr hP.fr (by omega)⟩
  have HN := (show Hid _ from rnum_any HU2.out.1.rd 1 (by simp) (by decide) (by decide))
  have e1 : numB (List.take 1 (flags :: 0 :: 4 :: rest)) = flags := by simp [numB]
  have e1d : List.drop 1 (flags :: 0 :: 4 :: rest) = 0 :: 4 :: rest := rfl
  rw [e1, e1d] at HN
  clear HU hP e1 e1d
  go_wp2_with fail
  refine Calls.mono HN.out ?_
  clear HN
  rintro e w3 hP
  have he := hP.out
  subst he
  have HU3 : Hid (RuS W0 w q (0 :: 4 :: rest) sh w3 ∧ Stc w3 w.heap.size [.int .u8 0, .int .u8 0, .int .u32 0, .int .u16 0, .int .u16 0, .int .u32 0, .int .u32 0, .int .u32 0, .int .u16 0, .int .u16 0, .slice none 0 0, .slice none 0 0, .slice none 0 0, .slice none 0 0]) := ⟨HU2.out.1.next hP, HU2.out.2.fr hP.fr (by omega)⟩
  have HN := (show Hid _ from rlen_any HU3.out.1.rd (by simp) 0 (by simp [numB]))
  have e1d : List.drop 2 (0 :: 4 :: rest) = rest := rfl
  rw [e1d] at HN
  clear HU2 hP e1d
  go_wp2_with fail
  refine Calls.mono HN.out ?_
  clear HN hwk hwf
  rintro e w4 hP
  have he := hP.out
  subst he
  have HU4 : Hid (RuS W0 w q rest sh w4 ∧ Stc w4 w.heap.size [.int .u8 0, .int .u8 0, .int .u32 0, .int .u16 0, .int .u16 0, .int .u32 0, .int .u32 0, .int .u32 0, .int .u16 0, .int .u16 0, .slice none 0 0, .slice none 0 0, .slice none 0 0, .slice none 0 0]) := ⟨HU3.out.1.next hP, HU3.out.2.fr hP.fr (by omega)⟩
  have HN := (show Hid _ from rcut_any HU4.out.1.rd 0 (by simp))
  have e1d : List.drop 0 rest = rest := rfl
  clear HU3 hP
  go_wp2_with fail
  refine Calls.mono HN.out ?_
  clear HN
  rintro e w5 hP
  obtain ⟨cb, co, cc, rfl, _⟩ := hP.ex
  have hrd5 := hP.rd
  rw [e1d] at hrd5
  have HU5 : Hid (RuS W0 w q rest sh w5 ∧ Stc w5 w.heap.size [.int .u8 0, .int .u8 0, .int .u32 0, .int .u16 0, .int .u16 0, .int .u32 0, .int .u32 0, .int .u32 0, .int .u16 0, .int .u16 0, .slice none 0 0, .slice none 0 0, .slice none 0 0, .slice none 0 0]) := ⟨⟨hrd5, HU4.out.1.fr.trans (hP.fr.mono (fun _ _ hk => .inl hk))⟩, HU4.out.2.fr hP.fr (by omega)⟩
  obtain ⟨w6, hw6⟩ : ∃ w6, w6 = w5.alloc (.cells #[.slice (some ⟨cb, co, none⟩) 0 cc, .int .i64 4] 79) := ⟨_, rfl⟩
  have b6 : Below w5.heap.size w5 w6 := by rw [hw6]; exact (Below.refl _ _).alloc (Nat.le_refl _) _
  have sx := Stc.new w5 [.slice (some ⟨cb, co, none⟩) 0 cc, .int .i64 4] 79 w6 hw6
  obtain ⟨x, hx⟩ : ∃ x, x = w5.heap.size := ⟨_, rfl⟩
  rw [← hx] at sx
  have hxw : w.heap.size < x := by rw [hx]; exact HU5.out.2.lt
  have HU6 : Hid (RuS W0 w q rest sh w6 ∧ Stc w6 w.heap.size [.int .u8 0, .int .u8 0, .int .u32 0, .int .u16 0, .int .u16 0, .int .u32 0, .int .u32 0, .int .u32 0, .int .u16 0, .int .u16 0, .slice none 0 0, .slice none 0 0, .slice none 0 0, .slice none 0 0] ∧ Stc w6 x [.slice (some ⟨cb, co, none⟩) 0 cc, .int .i64 4]) := ⟨HU5.out.1.below b6, HU5.out.2.below b6, sx⟩
  clear HU4 HU5 hP hrd5 b6 sx
  have HPD := (show Hid _ from fun W => padding_any 0 W (by omega) _ rfl)
  go_wp2_with fail
  rw [← hw6, ← hx]
  clear hw6 hx
  refine Calls.mono (HPD.out w6) ?_
  rintro e w7 ⟨rfl, hw7⟩
  subst hw7
  have hp0 : padN 0 = 0 := rfl
  rw [hp0]
  have HN := (show Hid _ from rcut_any HU6.out.1.rd 0 (by simp))
  clear HPD hp0
  go_wp2_with fail
  refine Calls.mono HN.out ?_
  clear HN
  rintro e w8 hP
  obtain ⟨cb2, co2, cc2, rfl, _⟩ := hP.ex
  have hrd8 := hP.rd
  rw [e1d] at hrd8
  have HU8 : Hid (RuS W0 w q rest sh w8 ∧ Stc w8 w.heap.size [.int .u8 0, .int .u8 0, .int .u32 0, .int .u16 0, .int .u16 0, .int .u32 0, .int .u32 0, .int .u32 0, .int .u16 0, .int .u16 0, .slice none 0 0, .slice none 0 0, .slice none 0 0, .slice none 0 0] ∧ Stc w8 x [.slice (some ⟨cb, co, none⟩) 0 cc, .int .i64 4]) := ⟨⟨hrd8, HU6.out.1.fr.trans (hP.fr.mono (fun _ _ hk => .inl hk))⟩, HU6.out.2.1.fr hP.fr (by omega), HU6.out.2.2.fr hP.fr (by omega)⟩
  clear HU6 hP hrd8
  go_wp2_with fail
  refine Calls.mono (must_yes 6 w8) ?_
  rintro e w9 ⟨rfl, hw9⟩
  subst hw9
  have HVN := (show Hid _ from rvalue_none x kind w9 hk)
  go_wp2_with fail
  refine Calls.mono HVN.out ?_
  clear HVN
  rintro e wa ⟨rfl, ba⟩
  have HUa : Hid (RuS W0 w q rest sh wa ∧ Stc wa w.heap.size [.int .u8 0, .int .u8 0, .int .u32 0, .int .u16 0, .int .u16 0, .int .u32 0, .int .u32 0, .int .u32 0, .int .u16 0, .int .u16 0, .slice none 0 0, .slice none 0 0, .slice none 0 0, .slice none 0 0] ∧ Stc wa x [.slice (some ⟨cb, co, none⟩) 0 cc, .int .i64 4]) := ⟨HU8.out.1.below ba, HU8.out.2.1.below ba, HU8.out.2.2.below ba⟩
  clear HU8 ba
  have d0 := HUa.out.2.2.cell 0 _ rfl
  have HLK := (show Hid _ from lacks_none kind flags 0 0 0 0 0 0 0 0 none 0 0 none 0 0 none 0 0 none 0 0 wa _ rfl)
  go_wp2_with fail
  refine Calls.mono HLK.out ?_
  clear HLK d0
  rintro e wb ⟨rfl, bb⟩
  have HUb : Hid (RuS W0 w q rest sh wb ∧ Stc wb w.heap.size [.int .u8 0, .int .u8 0, .int .u32 0, .int .u16 0, .int .u16 0, .int .u32 0, .int .u32 0, .int .u32 0, .int .u16 0, .int .u16 0, .slice none 0 0, .slice none 0 0, .slice none 0 0, .slice none 0 0]) := ⟨HUa.out.1.below bb, HUa.out.2.1.below bb⟩
  clear HUa bb
  go_wp2_with fail
  refine Calls.mono (must_yes 4 wb) ?_
  rintro e wc ⟨rfl, hwc⟩
  subst hwc
  have HMN := (show Hid _ from many_none kind flags 0 0 0 0 0 0 0 0 none 0 0 none 0 0 none 0 0 none 0 0 wc _ rfl)
  go_wp2_with fail
  refine Calls.mono HMN.out ?_
  clear HMN
  rintro e wd ⟨rfl, bd⟩
  have HUd : Hid (RuS W0 w q rest sh wd ∧ Stc wd w.heap.size [.int .u8 0, .int .u8 0, .int .u32 0, .int .u16 0, .int .u16 0, .int .u32 0, .int .u32 0, .int .u32 0, .int .u16 0, .int .u16 0, .slice none 0 0, .slice none 0 0, .slice none 0 0, .slice none 0 0]) := ⟨HUb.out.1.below bd, HUb.out.2.below bd⟩
  clear HUb bd
  go_wp2_with fail
  refine Calls.mono (must_yes 6 wd) ?_
  rintro e we ⟨rfl, hwe⟩
  subst hwe
  have HCO := (show Hid _ from chunkOf_none kind flags 0 0 0 0 0 0 0 0 none 0 0 none 0 0 none 0 0 none 0 0 we _ _ _ rfl rfl rfl)
  go_wp2_with fail
  refine Calls.mono HCO.out ?_
  clear HCO
  rintro e wf ⟨rfl, bf⟩
  obtain ⟨cs, hcs⟩ : ∃ cs : List Value, cs = [.int .u8 (kind : Nat), .int .u8 (flags : Nat), .int .u32 0, .int .u16 0, .int .u16 0, .int .u32 0, .int .u32 0, .int .u32 0, .int .u16 0, .int .u16 0, .slice none 0 0, .slice none 0 0, .slice none 0 0, .slice none 0 0] := ⟨_, rfl⟩
  have hcl : cs.length = 14 := by rw [hcs]; rfl
  have hone : ∀ u ∈ cs, u.oneCell' = true := by
    rw [hcs]
    intro v hv
    simp at hv
    rcases hv with rfl | rfl | rfl | rfl | rfl | rfl | rfl | rfl | rfl | rfl | rfl | rfl <;> rfl
  have hag : Value.agg #[.int .u8 (kind : Nat), .int .u8 (flags : Nat), .int .u32 0, .int .u16 0, .int .u16 0, .int .u32 0, .int .u32 0, .int .u32 0, .int .u16 0, .int .u16 0, .slice none 0 0, .slice none 0 0, .slice none 0 0, .slice none 0 0] = .agg cs.toArray := by rw [hcs]
  rw [hag]
  have s := HUd.out.2.below bf
  have hth : wf.there w.heap.size 0 cs.toArray.size := by
    have e : cs.toArray.size = 14 := by simp [hcl]
    rw [e]
    exact s.there
  have hi14 := ch_size14R cs hcl
  have hi14' : (Tryd.prog.info? 32).map (·.size) = some cs.toArray.size := by rw [List.size_toArray]; exact hi14
  have hput := s.put cs (by rw [hcl]; rfl)
  have hff := fr_setCellsX w.heap.size cs 0 wf
  have HF := (show Hid _ from And.intro (((HUd.out.1.below bf).own (Nat.le_refl _) hql (by omega) hff)) hput)
  have HCS := (show Hid _ from hcs)
  clear HUd bf s hput hff hag hcs
  go_wp2_with (first | (refine wpList_store_mid rfl 32 _ _ rfl w.heap.size 0 cs.toArray rfl rfl hth hi14' (all_oneCell_toArray hone) ?_; change wpList _ _ _ _ _ (wf.setCells w.heap.size 0 cs)) | fail)
  try simp only [Exit.inBlock, Exit.then]
  refine bodyPost_ret (results_cellE rfl _ _ w.heap.size 0 cs _ rfl HF.out.2.range Tryd.underlying32 rfl hi14) rfl ?_
  exact HF.out.1.done (by rw [HCS.out])
end Go.Proofs.YtlgfbcfogcmdbaaDoor
namespace Go.Proofs.YtlgfbcfogcmdbaaDoor
open Go.RowKit
/-- Bytes laid over others from a place on. -/
def lay (zs : List Nat) (p : Nat) (ys : List Nat) : List Nat := zs.take p ++ (ys ++ zs.drop (p + ys.length))
theorem lay_len (zs : List Nat) (p : Nat) (ys : List Nat) (h : p + ys.length ≤ zs.length) : (lay zs p ys).length = zs.length := by simp [lay]; omega
theorem lay_getD (zs : List Nat) (p : Nat) (ys : List Nat) (h : p + ys.length ≤ zs.length) (i : Nat) : (lay zs p ys).getD i 0 = if p ≤ i ∧ i < p + ys.length then ys.getD (i - p) 0 else zs.getD i 0 := by
  unfold lay
  rw [getD_app, List.length_take, Nat.min_eq_left (by omega), getD_app]
  by_cases h1 : i < p
  · rw [if_pos h1, if_neg (by omega)]
    simp [List.getD_eq_getElem?_getD, h1]
  · rw [if_neg h1]
    by_cases h2 : i < p + ys.length
    · rw [if_pos (by omega), if_pos (by omega)]
    · rw [if_neg (by omega), if_neg (by omega)]
      simp only [List.getD_eq_getElem?_getD, List.getElem?_drop]
      rw [show p + ys.length + (i - p - ys.length) = i from by omega]
theorem lay_nil (zs : List Nat) (p : Nat) : lay zs p [] = zs := by simp [lay]
set_option maxRecDepth 100000 in
/-- copy into a row of the call's own: its run. -/
theorem copy_run (w : World) (B g off dl dc n c : Nat) (dp : Option Addr) (zs : List Nat) (hown : OwnB w B (some ⟨g, 0, none⟩) n c zs)
    (sa : Option Addr) (m sc : Nat) (ys : List Nat) (hsrc : Sl w sa m sc ys) (hdp : 0 < m → dp = some ⟨g, off, none⟩) (hm : m ≤ dl) (hfit : off + m ≤ n) :
    ∃ w', (∀ ty, (Builtin.copy_ #[30, 30] ty #[.slice dp dl dc, .slice sa m sc]).run Tryd.prog w = .ok (goInt m) w') ∧ OwnB w' B (some ⟨g, 0, none⟩) n c (lay zs off ys) ∧ w.grownBy w' (some g) := by
  have hsz : (Tryd.prog.info? 5).map (·.size) = some 1 := by kernel_rfl
  obtain ⟨hl2, hcap2, hroom2, hsm2, hnz2, hb2, hat2⟩ := hsrc
  by_cases h0 : m = 0
  · subst h0
    obtain rfl : ys = [] := List.eq_nil_of_length_eq_zero hl2
    refine ⟨w, fun ty => run_copy_none (P := Tryd.prog) w 30 30 ty 5 dp sa dl dc 0 sc Tryd.underlying30 hsz (by simp), ?_, World.grownBy.refl w _⟩
    rw [lay_nil]; exact hown
  · rcases hat2 with h1 | ⟨b, of2, rfl, _, hcell⟩
    · omega
    have hdp' := hdp (by omega)
    subst hdp'
    rcases hown.own.2 with ⟨hv, _⟩ | ⟨g', cap, cur, hv, hBg, hh, hnc, hcm, hcs, htake⟩
    · cases hv
    injection hv with e1 e2 e3
    injection e1 with e1
    injection e1 with e1
    subst e1 e3
    have hcl : cur.toList.length = c := by simpa using hcs
    have hml : (vals ys).length = m := by simp [vals, hl2]
    have htk : cur.toList.take n = vals zs := by simpa using htake
    have hsplit : cur.toList = vals zs ++ cur.toList.drop n := by rw [← htk]; exact (List.take_append_drop n _).symm
    have hvl : (vals zs).length = n := by simp [vals, hown.len]
    have hsrc : ∀ j u, (vals ys)[j]? = some u → w.cell? ((⟨b, of2, none⟩ : Addr).add j) = some u := by
      intro j u hj
      have hjl : j < ys.length := by
        have := (List.getElem?_eq_some_iff.1 hj).1
        simpa [vals] using this
      have ea : (⟨b, of2, none⟩ : Addr).add j = ⟨b, of2 + j, none⟩ := by
        unfold Addr.add
        split
        · subst_vars; rfl
        · rfl
      rw [ea, hcell j (by omega), ← hj, vals_at ys j hjl]
    have hr := fun ty => run_copy_row (P := Tryd.prog) w 30 30 ty 5 g off dl dc ⟨b, of2, none⟩ m sc cur 5 (vals ys) Tryd.underlying30 hsz hh (by rw [hml]; exact (Nat.min_eq_left hm).symm) hsrc (by rw [hml]; omega) (vals_one ys)
    simp only [hml, List.append_assoc] at hr
    refine ⟨_, hr, ?_⟩
    have hlist : cur.toList.take off ++ (vals ys ++ cur.toList.drop (off + (vals ys).length)) = vals (lay zs off ys) ++ cur.toList.drop n := by
      have e1 : cur.toList.take off = (vals zs).take off := by
        rw [← htk, List.take_take, Nat.min_eq_left (by omega)]
      have e2 : cur.toList.drop (off + (vals ys).length) = (vals zs).drop (off + (vals ys).length) ++ cur.toList.drop n := by
        conv => lhs; rw [hsplit]
        rw [List.drop_append_of_le_length (by rw [hvl, hml]; exact hfit)]
      rw [e1, e2]
      simp [lay, vals, List.map_take, List.map_drop]
    have hll : (vals (lay zs off ys)).length = n := by
      have := lay_len zs off ys (by rw [hown.len, hl2]; exact hfit)
      simp [vals, this, hown.len]
    refine ⟨⟨?_, ⟨by rw [hll]; omega, .inr ⟨g, c, _, rfl, hBg, setRow_heap w g _ _ _ _ hh, hnc, hcm, ?_, ?_⟩⟩, fun i => ?_⟩, ⟨rfl, rfl, rfl, by simp [World.setRow], fun k _ hk => setRow_other w g k _ (fun e => hk (by rw [e]))⟩⟩
    · rw [lay_len zs off ys (by rw [hown.len, hl2]; exact hfit)]; exact hown.len
    · have := congrArg List.length hlist
      rw [hml] at this
      rw [List.size_toArray, this, List.length_append, hll, List.length_drop, hcl]
      omega
    · have hl3 := hlist
      rw [hml] at hl3
      simp only [Nat.mul_one]
      rw [hl3, List.take_append_of_le_length (by rw [hll]; exact Nat.le_refl _), List.take_of_length_le (by rw [hll]; exact Nat.le_refl _)]
    · rw [lay_getD zs off ys (by rw [hown.len, hl2]; exact hfit)]
      split
      · exact hb2 _
      · exact hown.bnd _
set_option maxHeartbeats 1000000 in
theorem clone_any (a : Option Addr) (n c : Nat) (zs : List Nat) (w : World) (hs : Sl w a n c zs) (hn : n ≤ 140737488351232) :
    Calls Tryd.prog 48 #[.slice a n c] w fun e w' => ∃ a' c', e = .returned (.slice a' n c') ∧ OwnB w' w.heap.size a' n c' zs ∧ (0 < n → ∃ g, a' = some ⟨g, 0, none⟩) ∧ Below w.heap.size w w' := by
  have hq := fun (a : Option Addr) (n c : Nat) (w : World) => Lib.run_eql_slice_nil (P := Tryd.prog) w 30 5 a n c 0 0 Tryd.underlying30
  cases a with
  | none =>
    have hc := hs.nz rfl
    have hn0 := hs.cap
    subst hc
    obtain rfl : n = 0 := by omega
    obtain rfl : zs = [] := List.eq_nil_of_length_eq_zero hs.len
    go_enter Tryd.func48, Tryd.ntmps48
    go_wp2
    go_ret
    exact ⟨none, 0, rfl, OwnB.nil _ _, fun h => by omega, Below.refl _ _⟩
  | some p =>
    have ho : OwnB (w.alloc (.cells #[] 5)) w.heap.size (some ⟨w.heap.size, 0, none⟩) 0 0 [] := own_empty w
    go_enter Tryd.func48, Tryd.ntmps48
    go_wp2_with (at_builtin; go_must (refine app_list rfl _ _ rfl w.heap.size _ 0 0 [] rfl ho _ n c zs rfl (hs.alloc _) (by omega) (by simp) ?_))
    intro a1 c1 w1 ho1 hg1
    have hb1 : Below w.heap.size w w1 := ((Below.refl _ _).alloc (Nat.le_refl _) _).trans (ho.up hg1 (by simp))
    go_wp2
    go_ret
    refine ⟨a1, c1, rfl, ho1, fun hpos => ?_, hb1⟩
    rcases ho1.own.2 with ⟨_, h0⟩ | ⟨g, cap, cur, hv, _⟩
    · omega
    · injection hv with e1
      exact ⟨g, e1⟩
end Go.Proofs.YtlgfbcfogcmdbaaDoor
namespace Go.Proofs.YtlgfbcfogcmdbaaDoor
open Go.RowKit
/-- rest: new memory. -/
structure RrP (W0 w : World) (q : Nat) (zs : List Nat) (sh : Int) (e : Ending) (w' : World) : Prop where
  ex : ∃ a c, e = .returned (.slice a zs.length c) ∧ OwnB w' w.heap.size a zs.length c zs
  rd : RdW W0 w' q [] sh
  fr : Fr (fun k => k = q) w w'
set_option linter.unusedVariables false in
set_option maxRecDepth 100000 in
set_option maxHeartbeats 4000000 in
theorem rrest_any {W0 w : World} {q : Nat} {zs : List Nat} {sh : Int} (h : RdW W0 w q zs sh) (hb : zs.length ≤ 140737488351232) :
    Calls Tryd.prog 68 #[.pointer (some ⟨q, 0, none⟩)] w (RrP W0 w q zs sh) := by
  obtain ⟨b, off, n, c, hst, hs⟩ := h.ex
  have hl := hs.len
  have hsm := hs.small
  have c0 := hst.cell 0 _ rfl
  have HN := (show Hid _ from rcut_any h n (by omega))
  have hql := hst.lt
  clear hst hs h
  go_enter Tryd.func68, Tryd.ntmps68
  go_wp2_with fail
  refine Calls.mono HN.out ?_
  clear HN c0
  rintro e w1 hP
  obtain ⟨cb, co, cc, rfl, hs1⟩ := hP.ex
  rw [List.take_of_length_le (by omega)] at hs1
  have hrd := hP.rd
  rw [List.drop_of_length_le (by omega)] at hrd
  have hle : n ≤ 140737488351232 := by omega
  have HC := (show Hid _ from clone_any _ n cc zs w1 (hs1.below hrd.bel) hle)
  have HF := (show Hid _ from And.intro hrd hP.fr)
  clear hs1 hrd hP
  go_wp2_with fail
  refine Calls.mono HC.out ?_
  clear HC
  rintro e w2 ⟨a', c', rfl, ho, _, b2⟩
  have HG : Hid (RrP W0 w q zs sh (.returned (.slice a' n c')) w2) := by
    refine ⟨⟨a', c', by rw [hl], ?_⟩, HF.out.1.below b2, HF.out.2.trans (Fr.of_below b2)⟩
    rw [hl]
    exact ho.base HF.out.2.size
  clear ho b2 HF
  go_wp2
  go_ret
  exact HG.out
structure RdD (W0 w : World) (q : Nat) (n1 n2 n3 n4 : Nat) (xs : List Nat) (sh : Int) (e : Ending) (w' : World) : Prop where
  ex : ∃ xa xc, e = .returned (.iface 92 (.agg #[.int .u32 (n1 : Nat), .int .u16 (n2 : Nat), .int .u16 (n3 : Nat), .int .u32 (n4 : Nat), .slice xa xs.length xc])) ∧ OwnB w' w.heap.size xa xs.length xc xs
  rd : RdW W0 w' q [] sh
  fr : Fr (fun k => k = q) w w'
theorem zero_dv (w : World) : (zeroValue 92).run Tryd.prog w = .ok (.agg #[.int .u32 0, .int .u16 0, .int .u16 0, .int .u32 0, .slice none 0 0]) w := by kernel_rfl
set_option linter.unusedVariables false in
set_option maxRecDepth 100000 in
set_option maxHeartbeats 4000000 in
theorem rdata_any {W0 w : World} {q : Nat} {zs : List Nat} {sh : Int} (h : RdW W0 w q zs sh) (hk : 12 ≤ zs.length) (hb : zs.length ≤ 140737488351232) :
    Calls Tryd.prog 64 #[.pointer (some ⟨q, 0, none⟩)] w (RdD W0 w q (numB (zs.take 4)) (numB ((zs.drop 4).take 2)) (numB ((zs.drop 6).take 2)) (numB ((zs.drop 8).take 4)) (zs.drop 12) sh) := by
  have hql := h.lt
  have hWq := h.old
  obtain ⟨W1, hW1⟩ : ∃ W1, W1 = w.alloc (.cells #[.int .u32 0, .int .u16 0, .int .u16 0, .int .u32 0, .slice none 0 0] 92) := ⟨_, rfl⟩
  have b1 : Below w.heap.size w W1 := by rw [hW1]; exact (Below.refl _ _).alloc (Nat.le_refl _) _
  have s1 := Stc.new w [.int .u32 0, .int .u16 0, .int .u16 0, .int .u32 0, .slice none 0 0] 92 W1 hW1
  have hz := zero_dv
  have HU0 : Hid (RuS W0 w q (zs.drop 0) sh W1 ∧ Stc W1 w.heap.size [.int .u32 0, .int .u16 0, .int .u16 0, .int .u32 0, .slice none 0 0]) := ⟨⟨h.below b1, Fr.of_below b1⟩, s1⟩
  clear h b1 s1
  obtain ⟨n1, hn1⟩ : ∃ n1, n1 = numB (zs.take 4) := ⟨_, rfl⟩
  obtain ⟨n2, hn2⟩ : ∃ n2, n2 = numB ((zs.drop 4).take 2) := ⟨_, rfl⟩
  obtain ⟨n3, hn3⟩ : ∃ n3, n3 = numB ((zs.drop 6).take 2) := ⟨_, rfl⟩
  obtain ⟨n4, hn4⟩ : ∃ n4, n4 = numB ((zs.drop 8).take 4) := ⟨_, rfl⟩
  rw [← hn1, ← hn2, ← hn3, ← hn4]
  have HNN := (show Hid _ from And.intro hn1 (And.intro hn2 (And.intro hn3 hn4)))
  clear hn1 hn2 hn3 hn4
  have HN := (show Hid _ from rword_any HU0.out.1.rd (by rw [List.length_drop]; omega))
  rw [List.drop_zero] at HN
  rw [← HNN.out.1] at HN
  go_enter Tryd.func64, Tryd.ntmps64
  go_wp2_with fail
  rw [← hW1]
  clear hW1 hz
  refine Calls.mono HN.out ?_
  clear HN
  rintro e v0 hP
  have he := hP.out
  subst he
  obtain ⟨hu, s1⟩ := HU0.out
  replace s1 := s1.fr hP.fr (by omega)
  replace hu := hu.next hP
  skip
  have f0 := s1.free 0
  have c0 := s1.cell 0 _ rfl
  have hf := Fr.setCell (fun k => k = w.heap.size) v0 ⟨w.heap.size, 0, none⟩ (.int .u32 (n1 : Nat)) rfl
  obtain ⟨w1, hw1⟩ : ∃ w1, w1 = v0.setCell ⟨w.heap.size, 0, none⟩ (.int .u32 (n1 : Nat)) := ⟨_, rfl⟩
  have HU1 : Hid (RuS W0 w q (zs.drop 4) sh w1 ∧ Stc w1 w.heap.size [.int .u32 (n1 : Nat), .int .u16 0, .int .u16 0, .int .u32 0, .slice none 0 0]) := by
    rw [hw1]
    exact ⟨hu.own (Nat.le_refl _) hql (by omega) hf, s1.set 0 _⟩
  clear HU0 hP hu s1 hf
  have HN := (show Hid _ from rhalf_any HU1.out.1.rd (by rw [List.length_drop]; omega))
  rw [← HNN.out.2.1] at HN
  go_wp2_with fail
  rw [← hw1]
  clear hw1 f0 c0
  refine Calls.mono HN.out ?_
  clear HN
  rintro e v1 hP
  have he := hP.out
  subst he
  obtain ⟨hu, s1⟩ := HU1.out
  replace s1 := s1.fr hP.fr (by omega)
  replace hu := hu.next hP
  rw [List.drop_drop] at hu
  have f0 := s1.free 1
  have c0 := s1.cell 1 _ rfl
  have hf := Fr.setCell (fun k => k = w.heap.size) v1 ⟨w.heap.size, 1, none⟩ (.int .u16 (n2 : Nat)) rfl
  obtain ⟨w2, hw2⟩ : ∃ w2, w2 = v1.setCell ⟨w.heap.size, 1, none⟩ (.int .u16 (n2 : Nat)) := ⟨_, rfl⟩
  have HU2 : Hid (RuS W0 w q (zs.drop 6) sh w2 ∧ Stc w2 w.heap.size [.int .u32 (n1 : Nat), .int .u16 (n2 : Nat), .int .u16 0, .int .u32 0, .slice none 0 0]) := by
    rw [hw2]
    exact ⟨hu.own (Nat.le_refl _) hql (by omega) hf, s1.set 1 _⟩
  clear HU1 hP hu s1 hf
  have HN := (show Hid _ from rhalf_any HU2.out.1.rd (by rw [List.length_drop]; omega))
  rw [← HNN.out.2.2.1] at HN
  go_wp2_with fail
  rw [← hw2]
  clear hw2 f0 c0
  refine Calls.mono HN.out ?_
  clear HN
  rintro e v2 hP
  have he := hP.out
  subst he
  obtain ⟨hu, s1⟩ := HU2.out
  replace s1 := s1.fr hP.fr (by omega)
  replace hu := hu.next hP
  rw [List.drop_drop] at hu
  have f0 := s1.free 2
  have c0 := s1.cell 2 _ rfl
  have hf := Fr.setCell (fun k => k = w.heap.size) v2 ⟨w.heap.size, 2, none⟩ (.int .u16 (n3 : Nat)) rfl
  obtain ⟨w3, hw3⟩ : ∃ w3, w3 = v2.setCell ⟨w.heap.size, 2, none⟩ (.int .u16 (n3 : Nat)) := ⟨_, rfl⟩
  have HU3 : Hid (RuS W0 w q (zs.drop 8) sh w3 ∧ Stc w3 w.heap.size [.int .u32 (n1 : Nat), .int .u16 (n2 : Nat), .int .u16 (n3 : Nat), .int .u32 0, .slice none 0 0]) := by
    rw [hw3]
    exact ⟨hu.own (Nat.le_refl _) hql (by omega) hf, s1.set 2 _⟩
  clear HU2 hP hu s1 hf
  have HN := (show Hid _ from rword_any HU3.out.1.rd (by rw [List.length_drop]; omega))
  rw [← HNN.out.2.2.2] at HN
  go_wp2_with fail
  rw [← hw3]
  clear hw3 f0 c0
  refine Calls.mono HN.out ?_
  clear HN
  rintro e v3 hP
  have he := hP.out
  subst he
  obtain ⟨hu, s1⟩ := HU3.out
  replace s1 := s1.fr hP.fr (by omega)
  replace hu := hu.next hP
  rw [List.drop_drop] at hu
  have f0 := s1.free 3
  have c0 := s1.cell 3 _ rfl
  have hf := Fr.setCell (fun k => k = w.heap.size) v3 ⟨w.heap.size, 3, none⟩ (.int .u32 (n4 : Nat)) rfl
  obtain ⟨w4, hw4⟩ : ∃ w4, w4 = v3.setCell ⟨w.heap.size, 3, none⟩ (.int .u32 (n4 : Nat)) := ⟨_, rfl⟩
  have HU4 : Hid (RuS W0 w q (zs.drop 12) sh w4 ∧ Stc w4 w.heap.size [.int .u32 (n1 : Nat), .int .u16 (n2 : Nat), .int .u16 (n3 : Nat), .int .u32 (n4 : Nat), .slice none 0 0]) := by
    rw [hw4]
    exact ⟨hu.own (Nat.le_refl _) hql (by omega) hf, s1.set 3 _⟩
  clear HU3 hP hu s1 hf
  have HN := (show Hid _ from rrest_any HU4.out.1.rd (by rw [List.length_drop]; omega))
  go_wp2_with fail
  rw [← hw4]
  clear hw4 f0 c0
  refine Calls.mono HN.out ?_
  clear HN
  rintro e v4 hP
  obtain ⟨xa, xc, rfl, ho⟩ := hP.ex
  have s1 := HU4.out.2.fr hP.fr (by omega)
  have hwl := HU4.out.2.lt
  obtain ⟨xl, hxl⟩ : ∃ xl, xl = (zs.drop 12).length := ⟨_, rfl⟩
  have HX := (show Hid _ from hxl)
  rw [← hxl] at ho ⊢
  have f0 := s1.free 4
  have d0 := s1.cell 0 _ rfl
  have d1 := s1.cell 1 _ rfl
  have d2 := s1.cell 2 _ rfl
  have d3 := s1.cell 3 _ rfl
  have d4 := s1.cell 4 _ rfl
  have hf := Fr.setCell (fun k => k = w.heap.size) v4 ⟨w.heap.size, 4, none⟩ (.slice xa xl xc) rfl
  have hu5 : RuS W0 w q [] sh (v4.setCell ⟨w.heap.size, 4, none⟩ (.slice xa xl xc)) := (⟨hP.rd, HU4.out.1.fr.trans (hP.fr.mono (fun _ _ hk => .inl hk))⟩ : RuS W0 w q [] sh v4).own (Nat.le_refl _) hql (by omega) hf
  have HF : Hid (RdD W0 w q n1 n2 n3 n4 (zs.drop 12) sh (.returned (.iface 92 (.agg #[.int .u32 (n1 : Nat), .int .u16 (n2 : Nat), .int .u16 (n3 : Nat), .int .u32 (n4 : Nat), .slice xa xl xc]))) (v4.setCell ⟨w.heap.size, 4, none⟩ (.slice xa xl xc))) := by
    have hd := hu5.done (v := .tuple #[]) (e := .returned (.tuple #[])) rfl
    refine ⟨⟨xa, xc, by rw [hxl], ?_⟩, hd.rd, hd.fr⟩
    rw [← hxl]
    obtain ⟨q1, ⟨q2, q3⟩, q4⟩ := ho
    refine ⟨q1, ⟨q2, ?_⟩, q4⟩
    rcases q3 with q3 | ⟨g, cap, cu, hv, hbg, hh, hr⟩
    · exact .inl q3
    · have hl := (Array.getElem?_eq_some_iff.1 hh).1
      exact .inr ⟨g, cap, cu, hv, by omega, (hf.block g hl (fun e => by have : g = w.heap.size := e; omega)).trans hh, hr⟩
  clear ho hP HU4 s1 hf hu5 hxl
  go_wp2
  go_ret
  exact HF.out
end Go.Proofs.YtlgfbcfogcmdbaaDoor
namespace Go.Proofs.YtlgfbcfogcmdbaaDoor
open Go.RowKit
set_option linter.unusedVariables false in
set_option maxRecDepth 100000 in
set_option maxHeartbeats 4000000 in
theorem rvalue_data {W0 w : World} {q : Nat} {zs : List Nat} {sh : Int} (h : RdW W0 w q zs sh) (kind : Nat) (hk : kind = 0) (h12 : 12 ≤ zs.length) (hb : zs.length ≤ 140737488351232) :
    Calls Tryd.prog 62 #[.pointer (some ⟨q, 0, none⟩), .int .u8 (kind : Nat)] w (RdD W0 w q (numB (zs.take 4)) (numB ((zs.drop 4).take 2)) (numB ((zs.drop 6).take 2)) (numB ((zs.drop 8).take 4)) (zs.drop 12) sh) := by
  have HV : Hid (Calls Tryd.prog 26 #[.agg #[.int .u8 (kind : Nat), .int .u8 0, .int .u32 0, .int .u16 0, .int .u16 0, .int .u32 0, .int .u32 0, .int .u32 0, .int .u16 0, .int .u16 0, .slice none 0 0, .slice none 0 0, .slice none 0 0, .slice none 0 0]] w fun e w' => e = .returned (.iface 92 (.agg #[.int .u32 0, .int .u16 0, .int .u16 0, .int .u32 0, .slice none 0 0])) ∧ Below w.heap.size w w') := valueOf_data kind 0 0 0 0 0 0 0 0 0 none 0 0 none 0 0 none 0 0 none 0 0 w hk
  have t0 := fun (v : Value) (w : World) => ta_yes_st 92 _ v Tryd.underlying92 w
  have HR := (show Hid _ from h)
  clear h hk
  go_enter Tryd.func62, Tryd.ntmps62
  go_wp2_with fail
  refine Calls.mono HV.out ?_
  clear HV
  rintro e w1 ⟨rfl, b1⟩
  obtain ⟨Wx, hWx⟩ : ∃ Wx, Wx = w1.alloc (.cells #[.int .u32 0, .int .u16 0, .int .u16 0, .int .u32 0, .slice none 0 0] 92) := ⟨_, rfl⟩
  have bx : Below w1.heap.size w1 Wx := by rw [hWx]; exact (Below.refl _ _).alloc (Nat.le_refl _) _
  have b1x : Below w.heap.size w Wx := b1.trans (bx.mono b1.size)
  have HD := (show Hid _ from rdata_any (HR.out.below b1x) h12 hb)
  have HB := (show Hid _ from b1x)
  clear b1 bx b1x
  go_wp2_with fail
  rw [← hWx]
  clear hWx
  refine Calls.mono HD.out ?_
  clear HD
  rintro e w2 hP
  obtain ⟨xa, xc, rfl, ho⟩ := hP.ex
  have HF : Hid (RdD W0 w q (numB (zs.take 4)) (numB ((zs.drop 4).take 2)) (numB ((zs.drop 6).take 2)) (numB ((zs.drop 8).take 4)) (zs.drop 12) sh _ w2) := ⟨⟨xa, xc, rfl, ho.base HB.out.size⟩, hP.rd, (Fr.of_below HB.out).trans hP.fr⟩
  clear ho hP
  generalize numB (zs.take 4) = m1 at *
  generalize numB ((zs.drop 4).take 2) = m2 at *
  generalize numB ((zs.drop 6).take 2) = m3 at *
  generalize numB ((zs.drop 8).take 4) = m4 at *
  generalize (zs.drop 12).length = xl at *
  go_wp2
  go_ret
  exact HF.out
set_option linter.unusedVariables false in
set_option maxRecDepth 100000 in
set_option maxHeartbeats 4000000 in
theorem rvalue_tsnv {W0 w : World} {q : Nat} {zs : List Nat} {sh : Int} (h : RdW W0 w q zs sh) (kind : Nat) (hk : kind = 7) (h4 : zs.length = 4) :
    Calls Tryd.prog 62 #[.pointer (some ⟨q, 0, none⟩), .int .u8 (kind : Nat)] w (RdP W0 w q (.iface 98 (.int .u32 (numB (zs.take 4) : Nat))) [] sh) := by
  have HV : Hid (Calls Tryd.prog 26 #[.agg #[.int .u8 (kind : Nat), .int .u8 0, .int .u32 0, .int .u16 0, .int .u16 0, .int .u32 0, .int .u32 0, .int .u32 0, .int .u16 0, .int .u16 0, .slice none 0 0, .slice none 0 0, .slice none 0 0, .slice none 0 0]] w fun e w' => e = .returned (.iface 98 (.int .u32 0)) ∧ Below w.heap.size w w') := valueOf_tsnv kind 0 0 0 0 0 0 0 0 0 none 0 0 none 0 0 none 0 0 none 0 0 w hk
  have t0 := fun (v : Value) (w : World) => ta_no_st 98 92 _ (.agg #[.int .u32 0, .int .u16 0, .int .u16 0, .int .u32 0, .slice none 0 0]) v Tryd.underlying92 (by kernel_rfl) (by decide) w
  have t1 := fun (v : Value) (w : World) => ta_no_st 98 95 _ (.agg #[.int .u32 0, .int .u32 0, .int .u16 0, .int .u16 0, .int .u32 0, .slice none 0 0]) v Tryd.underlying95 (by kernel_rfl) (by decide) w
  have t2 := fun (v : Value) (w : World) => ta_no_st 98 97 _ (.agg #[.int .u32 0, .int .u32 0, .slice none 0 0, .slice none 0 0]) v Tryd.underlying97 (by kernel_rfl) (by decide) w
  have t3 := fun (v : Value) (w : World) => ta_no_sl 98 93 _ (.slice none 0 0) v Tryd.underlying93 (by kernel_rfl) (by decide) w
  have t4 := fun (v : Value) (w : World) => ta_yes_in 98 _ v Tryd.underlying98 w
  have HR := (show Hid _ from h)
  clear h hk
  go_enter Tryd.func62, Tryd.ntmps62
  go_wp2_with fail
  refine Calls.mono HV.out ?_
  clear HV
  rintro e w1 ⟨rfl, b1⟩
  have HD := (show Hid _ from rword_any (HR.out.below b1) (by omega))
  have HB := (show Hid _ from b1)
  clear b1
  go_wp2_with fail
  refine Calls.mono HD.out ?_
  clear HD
  rintro e w2 hP
  have he := hP.out
  subst he
  have hrd := hP.rd
  rw [List.drop_of_length_le (by omega)] at hrd
  have HF : Hid (RdP W0 w q (.iface 98 (.int .u32 (numB (zs.take 4) : Nat))) [] sh (.returned (.iface 98 (.int .u32 (numB (zs.take 4) : Nat)))) w2) := ⟨rfl, hrd, (Fr.of_below HB.out).trans hP.fr⟩
  clear hrd hP
  generalize numB (zs.take 4) = m1 at *
  go_wp2
  go_ret
  exact HF.out
structure RdR (W0 w : World) (q : Nat) (T : TypeId) (xs : List Nat) (sh : Int) (e : Ending) (w' : World) : Prop where
  ex : ∃ xa xc, e = .returned (.iface T (.slice xa xs.length xc)) ∧ OwnB w' w.heap.size xa xs.length xc xs
  rd : RdW W0 w' q [] sh
  fr : Fr (fun k => k = q) w w'
set_option linter.unusedVariables false in
set_option maxRecDepth 100000 in
set_option maxHeartbeats 4000000 in
theorem rvalue_raw {W0 w : World} {q : Nat} {zs : List Nat} {sh : Int} (h : RdW W0 w q zs sh) (kind : Nat) (hk : ¬ kind = 0 ∧ ¬ kind = 1 ∧ ¬ kind = 2 ∧ ¬ kind = 3 ∧ ¬ kind = 4 ∧ ¬ kind = 5 ∧ ¬ kind = 6 ∧ ¬ kind = 7 ∧ ¬ kind = 8 ∧ ¬ kind = 9 ∧ ¬ kind = 11 ∧ ¬ kind = 14) (hb : zs.length ≤ 140737488351232) :
    Calls Tryd.prog 62 #[.pointer (some ⟨q, 0, none⟩), .int .u8 (kind : Nat)] w (RdR W0 w q 101 zs sh) := by
  have HV : Hid (Calls Tryd.prog 26 #[.agg #[.int .u8 (kind : Nat), .int .u8 0, .int .u32 0, .int .u16 0, .int .u16 0, .int .u32 0, .int .u32 0, .int .u32 0, .int .u16 0, .int .u16 0, .slice none 0 0, .slice none 0 0, .slice none 0 0, .slice none 0 0]] w fun e w' => e = .returned (.iface 101 (.slice none 0 0)) ∧ Below w.heap.size w w') := valueOf_raw kind 0 0 0 0 0 0 0 0 0 none 0 0 none 0 0 none 0 0 none 0 0 w hk
  have t0 := fun (v : Value) (w : World) => ta_no_st 101 92 _ (.agg #[.int .u32 0, .int .u16 0, .int .u16 0, .int .u32 0, .slice none 0 0]) v Tryd.underlying92 (by kernel_rfl) (by decide) w
  have t1 := fun (v : Value) (w : World) => ta_no_st 101 95 _ (.agg #[.int .u32 0, .int .u32 0, .int .u16 0, .int .u16 0, .int .u32 0, .slice none 0 0]) v Tryd.underlying95 (by kernel_rfl) (by decide) w
  have t2 := fun (v : Value) (w : World) => ta_no_st 101 97 _ (.agg #[.int .u32 0, .int .u32 0, .slice none 0 0, .slice none 0 0]) v Tryd.underlying97 (by kernel_rfl) (by decide) w
  have t3 := fun (v : Value) (w : World) => ta_no_sl 101 93 _ (.slice none 0 0) v Tryd.underlying93 (by kernel_rfl) (by decide) w
  have t4 := fun (v : Value) (w : World) => ta_no_in 101 98 _ (.int .u32 0) v Tryd.underlying98 (by kernel_rfl) (by decide) w
  have t5 := fun (v : Value) (w : World) => ta_yes_sl 101 _ v Tryd.underlying101 w
  have HR := (show Hid _ from h)
  clear h hk
  go_enter Tryd.func62, Tryd.ntmps62
  go_wp2_with fail
  refine Calls.mono HV.out ?_
  clear HV
  rintro e w1 ⟨rfl, b1⟩
  have HD := (show Hid _ from rrest_any (HR.out.below b1) hb)
  have HB := (show Hid _ from b1)
  clear b1
  go_wp2_with fail
  refine Calls.mono HD.out ?_
  clear HD
  rintro e w2 hP
  obtain ⟨xa, xc, rfl, ho⟩ := hP.ex
  have HF : Hid (RdR W0 w q 101 zs sh (.returned (.iface 101 (.slice xa zs.length xc))) w2) := ⟨⟨xa, xc, rfl, ho.base HB.out.size⟩, hP.rd, (Fr.of_below HB.out).trans hP.fr⟩
  clear ho hP
  generalize zs.length = xl at *
  go_wp2
  go_ret
  exact HF.out
end Go.Proofs.YtlgfbcfogcmdbaaDoor
namespace Go.Proofs.YtlgfbcfogcmdbaaDoor
open Go.RowKit
theorem app_eq_listR {P : Program} {S : TypeId} {ops : Array Oper} {rest : List Oper} {o : Oper} {A : Act} {w w' : World} {Q : Exit → Act → World → Prop} {v u r : Value} {ty : TypeId} (hgd : Region.wanted o (yielded ops A.tmps) = true) (s x : Operand)
    (ho : o.op = .call { callee := .builtin .append, args := #[s, x], argTypes := #[S, S] }) (hty : o.type = ty) (hs : A.eval s = v) (hx : A.eval x = u)
    (hrun : (Builtin.append_ #[S, S] ty #[v, u]).run P w = .ok r w') (hK : wpList P ops Q rest (A.put o.dst r) w') : wpList P ops Q (o :: rest) A w :=
  wpList_step fun K hK' => by
    rw [if_pos hgd]
    subst hty
    have := hK' _ _ hK
    unfold Oper.wp
    simp [execOp, ho, resolve, invoke, builtin, hs, hx, hrun, Result.andThen]
    exact this
/-- A chunk's cells. -/
abbrev C14 := { cs : List Value // cs.length = 14 ∧ ∀ u ∈ cs, u.oneCell' = true }
abbrev OwnR := OwnG 32 14 (fun x : C14 => x.1)
theorem layR : Lays Tryd.prog 26 32 14 128 (fun x : C14 => x.1) :=
  ⟨Tryd.underlying26, ⟨.agg #[.int .u8 0, .int .u8 0, .int .u32 0, .int .u16 0, .int .u16 0, .int .u32 0, .int .u32 0, .int .u32 0, .int .u16 0, .int .u16 0, .slice none 0 0, .slice none 0 0, .slice none 0 0, .slice none 0 0], by kernel_rfl, rfl⟩, by decide, fun x => x.2.1, fun x => x.2.2⟩
theorem fold14a (a0 a1 a2 a3 a4 a5 a6 a7 a8 a9 a10 a11 a12 a13 : Value) : List.foldl (fun (cs : Array Value) x => cs.setIfInBounds x.snd x.fst) #[.int .u8 0, .int .u8 0, .int .u32 0, .int .u16 0, .int .u16 0, .int .u32 0, .int .u32 0, .int .u32 0, .int .u16 0, .int .u16 0, .slice none 0 0, .slice none 0 0, .slice none 0 0, .slice none 0 0] [a0, a1, a2, a3, a4, a5, a6, a7, a8, a9, a10, a11, a12, a13].zipIdx = #[a0, a1, a2, a3, a4, a5, a6, a7, a8, a9, a10, a11, a12, a13] := by kernel_rfl
theorem fold14 (cs : List Value) (h : cs.length = 14) : List.foldl (fun (cs : Array Value) x => cs.setIfInBounds x.snd x.fst) #[.int .u8 0, .int .u8 0, .int .u32 0, .int .u16 0, .int .u16 0, .int .u32 0, .int .u32 0, .int .u32 0, .int .u16 0, .int .u16 0, .slice none 0 0, .slice none 0 0, .slice none 0 0, .slice none 0 0] cs.zipIdx = cs.toArray := by
  match cs, h with
  | [a0, a1, a2, a3, a4, a5, a6, a7, a8, a9, a10, a11, a12, a13], _ => exact fold14a a0 a1 a2 a3 a4 a5 a6 a7 a8 a9 a10 a11 a12 a13
structure RdL (W0 w : World) (q n : Nat) (C : Nat → C14) (sh : Int) (e : Ending) (w' : World) : Prop where
  ex : ∃ la lc, e = .returned (.slice la n lc) ∧ OwnR w' w.heap.size la n lc ((List.range n).map C)
  rd : RdW W0 w' q [] sh
  fr : Fr (fun k => k = q) w w'
set_option linter.unusedVariables false in
set_option maxRecDepth 100000 in
set_option maxHeartbeats 4000000 in
theorem rchunks_any {W0 w : World} {q : Nat} {sh : Int} (n : Nat) (C : Nat → C14) (rest : Nat → List Nat) (h : RdW W0 w q (rest 0) sh) (hn : rest n = []) (hne : ∀ i, i < n → rest i ≠ []) (hn32 : n ≤ 32)
    (hrd : ∀ i, i < n → ∀ W, RdW W0 W q (rest i) sh → Calls Tryd.prog 57 #[.pointer (some ⟨q, 0, none⟩), .int .i64 (i : Nat)] W (RdP W0 W q (.agg (C i).1.toArray) (rest (i + 1)) sh)) :
    Calls Tryd.prog 40 #[.pointer (some ⟨q, 0, none⟩)] w (RdL W0 w q n C sh) := by
  have hql := h.lt
  have hWq := h.old
  have HU : Hid (RuS W0 w q (rest 0) sh w ∧ OwnR w w.heap.size none 0 0 ((List.range 0).map C)) := ⟨⟨h, Fr.refl _ _⟩, OwnG.nil _ _⟩
  have HRD := (show Hid _ from hrd)
  have HNE := (show Hid _ from And.intro hn hne)
  clear h hrd hn hne
  go_enter Tryd.func40, Tryd.ntmps40
  go_wp2
  go_loopw [3] (fun u3 wr => ∃ (i : Nat) (la : Option Addr) (lc : Nat), i ≤ n ∧ u3 = .slice la i lc ∧ RuS W0 w q (rest i) sh wr ∧ OwnR wr w.heap.size la i lc ((List.range i).map C)) (fun u3 _ => match u3 with | .slice _ i _ => n - i | _ => 0)
  case atStart => exact ⟨0, none, 0, by omega, rfl, HU.out⟩
  case round =>
    obtain ⟨i, la, lc, hin, rfl, hu, ho⟩ := hrel
    obtain ⟨b, off, m, c, hst, hs⟩ := hu.rd.ex
    have c0 := hst.cell 0 _ rfl
    have hm := hs.len
    have hms := hs.small
    have HUO := (show Hid _ from And.intro hu ho)
    clear hst hs hu ho HU
    by_cases hlt : i < n
    · have hm0 : (0 : Int) < (m : Int) := by
        have := List.length_pos_iff.2 (HNE.out.2 i hlt)
        omega
      have HN := (show Hid _ from HRD.out i hlt wr HUO.out.1.rd)
      clear hm
      go_wp2_with fail
      refine Calls.mono HN.out ?_
      clear HN c0 hm0
      rintro e w2 hP
      have he := hP.out
      subst he
      have ho2 : OwnR w2 w.heap.size la i lc ((List.range i).map C) := OwnG.fr HUO.out.2 hP.fr (fun g hg => by have := (HUO.out.2.own.lt g hg).1; omega)
      have hsz2 : w.heap.size ≤ w2.heap.size := Nat.le_trans HUO.out.1.fr.size hP.fr.size
      obtain ⟨cs, hcs⟩ : ∃ cs, cs = (C i).1 := ⟨_, rfl⟩
      have b0 : Below w2.heap.size w2 (w2.alloc (.cells cs.toArray 32)) := (Below.refl _ _).alloc (Nat.le_refl _) _
      have st2 := Stc.new w2 cs 32 _ rfl
      have h2a := OwnG.below ho2 b0
      obtain ⟨g7, c7, w7, hr7, ho7, hgr7, hg7, hg7l⟩ := OwnG.app layR h2a 26 (C i) ⟨w2.heap.size, 0, none⟩ (fun j u hj => by
        rw [← hcs] at hj
        have := st2.cell j u hj
        unfold Addr.add
        split
        · rename_i e; subst e; exact this
        · simpa using this) (by unfold maxLen; omega) (by omega) (Nat.le_trans hsz2 b0.size)
      have HF : Hid (RuS W0 w q (rest (i + 1)) sh w7 ∧ OwnR w7 w.heap.size (some ⟨g7, 0, none⟩) (i + 1) c7 ((List.range (i + 1)).map C)) := by
        have hu2 := (HUO.out.1.next hP).below b0
        have hf7 : Fr (fun k => (Value.slice la i lc).ownBlock = some k) (w2.alloc (.cells cs.toArray 32)) w7 := Fr.grown hgr7 (fun k hk => hk)
        refine ⟨⟨hu2.rd.fr hf7 (fun e => by have := (ho2.own.lt q e).1; omega) (fun g hg => by have := (ho2.own.lt g hg).1; omega), hu2.fr.trans (hf7.mono (fun k _ hk => .inr (ho2.own.lt k hk).1))⟩, ?_⟩
        rw [List.range_succ, List.map_append]
        exact ho7
      have hcl : cs.length = 14 := by rw [hcs]; exact (C i).2.1
      have hcl2 : cs.toArray.size = 14 := by simp [hcl]
      rw [← hcs]
      clear hP ho2 b0 st2 h2a ho7 hgr7 hg7 hg7l HUO hcs
      go_wp2_with (at_builtin; rw [fold14 cs hcl]; refine app_eq_listR rfl _ _ rfl rfl rfl rfl hr7 ?_)
      clear hr7
      go_wp2
      go_roundw
      case rel => exact ⟨i + 1, _, _, by omega, rfl, HF.out⟩
      case measure => simp; omega
    · have hien : i = n := by omega
      subst hien
      have hm0 : m = 0 := by rw [← hm, HNE.out.1]; rfl
      subst hm0
      have HF : Hid (RdL W0 w q i C sh (.returned (.slice la i lc)) wr) := ⟨⟨la, lc, rfl, HUO.out.2⟩, by have := HUO.out.1.rd; rwa [HNE.out.1] at this, HUO.out.1.fr.mono (fun k hk hp => hp.elim id (fun e => by omega))⟩
      clear HUO hm
      go_wp2
      go_ret
      exact HF.out
end Go.Proofs.YtlgfbcfogcmdbaaDoor
namespace Go.Proofs.YtlgfbcfogcmdbaaDoor
open Go.RowKit
/-- A parameter as data. -/
structure Pm where
  k : Nat
  zs : List Nat
/-- A row of parameters, and what they hold. -/
structure PmR (w : World) (a : Option Addr) (n c : Nat) (ps : List Pm) : Prop where
  len : ps.length = n
  cap : n ≤ c
  small : n ≤ 281474976710656
  at_ : n = 0 ∨ ∃ b off, a = some ⟨b, off, none⟩ ∧ b < w.heap.size ∧ ∀ i p, ps[i]? = some p → p.k < 65536 ∧ ∃ va vc, w.cell? ⟨b, off + i * 2, none⟩ = some (.int .u16 (p.k : Nat)) ∧ w.cell? ⟨b, off + i * 2 + 1, none⟩ = some (.slice va p.zs.length vc) ∧ Sl w va p.zs.length vc p.zs
def pmB (p : Pm) : List Nat := bytesB p.k 2 ++ (bytesB (4 + p.zs.length) 2 ++ (p.zs ++ List.replicate (padN p.zs.length) 0))
def pmsB (ps : List Pm) : List Nat := ps.flatMap pmB
theorem padN_lt (n : Nat) : padN n ≤ 3 := by unfold padN; omega
theorem pmB_len (p : Pm) : (pmB p).length = 4 + p.zs.length + padN p.zs.length := by
  unfold pmB
  simp [bytesB_len]
  omega
theorem pmB_four (p : Pm) : (pmB p).length % 4 = 0 := by
  rw [pmB_len]
  unfold padN
  omega
theorem pmsB_four (ps : List Pm) : (pmsB ps).length % 4 = 0 := by
  induction ps with
  | nil => rfl
  | cons p ps ih =>
    have := pmB_four p
    unfold pmsB at ih ⊢
    rw [List.flatMap_cons, List.length_append]
    omega
theorem pmsB_le {M : Nat} (ps : List Pm) (h : ∀ p ∈ ps, p.zs.length ≤ M) : (pmsB ps).length ≤ ps.length * (M + 7) := by
  induction ps with
  | nil => simp [pmsB]
  | cons p ps ih =>
    have h1 := ih (fun q hq => h q (List.mem_cons_of_mem _ hq))
    have h2 := h p List.mem_cons_self
    have h3 := padN_lt p.zs.length
    unfold pmsB at h1 ⊢
    rw [List.flatMap_cons, List.length_append, pmB_len, List.length_cons, Nat.add_mul]
    omega
theorem pms_snoc (ps : List Pm) (i : Nat) (p : Pm) (h : ps[i]? = some p) : pmsB (ps.take (i + 1)) = pmsB (ps.take i) ++ pmB p := by
  unfold pmsB
  rw [List.take_add_one, h, List.flatMap_append]
  simp
theorem zero_pm (w : World) : (zeroValue 34).run Tryd.prog w = .ok (.agg #[.int .u16 0, .slice none 0 0]) w := by kernel_rfl
set_option linter.unusedVariables false in
set_option maxRecDepth 100000 in
set_option maxHeartbeats 8000000 in
theorem wlay_prms {w : World} {q : Nat} {K : Nat → Prop} {zs : List Nat} (h : WrW w q K zs) {a : Option Addr} {n c : Nat} {ps : List Pm} (W0 : World) (hp : PmR W0 a n c ps) (hW : Below W0.heap.size W0 w) (hq : W0.heap.size ≤ q) (hn : n ≤ 16) (hpm : ∀ p ∈ ps, p.zs.length ≤ 2000) (h4 : zs.length % 4 = 0) (hb : zs.length ≤ 1000000) :
    Calls Tryd.prog 86 #[.slice a n c, .pointer (some ⟨q, 0, none⟩)] w (WrP w q K (zs ++ pmsB ps)) := by
  have hcap := hp.cap
  have hlen := hp.len
  have HP := (show Hid _ from And.intro hp (And.intro hW hpm))
  have HU : Hid (WrW w q K (zs ++ pmsB (ps.take 0)) ∧ Fr (fun k => q ≤ k ∧ ¬ K k) w w) := ⟨by rw [List.take_zero]; show WrW w q K (zs ++ []); rw [List.append_nil]; exact h, Fr.refl _ _⟩
  have hz := zero_pm
  clear h hp hW hpm
  go_enter Tryd.func86, Tryd.ntmps86
  go_wp2
  go_loopw [8] (fun u8 wr => ∃ i : Nat, i ≤ n ∧ u8 = .int .i64 (i : Nat) ∧ WrW wr q K (zs ++ pmsB (ps.take i)) ∧ Fr (fun k => q ≤ k ∧ ¬ K k) w wr) (fun u8 _ => n - (intOf u8).toNat)
  case atStart => exact ⟨0, by omega, rfl, HU.out⟩
  case round =>
    obtain ⟨i, hin, rfl, hw, hfr⟩ := hrel
    have HW := (show Hid _ from And.intro hw hfr)
    clear hw hfr HU
    by_cases hlt : i < n
    · have hlt1 : (i : Int) < (n : Int) := by omega
      obtain ⟨p, hpi⟩ : ∃ p, ps[i]? = some p := ⟨_, List.getElem?_eq_getElem (by omega)⟩
      obtain ⟨b, off, hab, hbl, hrow⟩ : ∃ b off, a = some ⟨b, off, none⟩ ∧ b < W0.heap.size ∧ ∀ i p, ps[i]? = some p → p.k < 65536 ∧ ∃ va vc, W0.cell? ⟨b, off + i * 2, none⟩ = some (.int .u16 (p.k : Nat)) ∧ W0.cell? ⟨b, off + i * 2 + 1, none⟩ = some (.slice va p.zs.length vc) ∧ Sl W0 va p.zs.length vc p.zs := by
        rcases HP.out.1.at_ with e | e
        · omega
        · exact e
      subst hab
      obtain ⟨hkb, va, vc, c0, c1, hsl⟩ := hrow i p hpi
      have hbW : Below W0.heap.size W0 wr := HP.out.2.1.trans (HW.out.2.below _ HP.out.2.1.size (fun k hk => by omega))
      replace c0 := (hbW.cell (p := ⟨b, off + i * 2, none⟩) hbl).trans c0
      replace c1 := (hbW.cell (p := ⟨b, off + i * 2 + 1, none⟩) hbl).trans c1
      have hzl := HP.out.2.2 p (List.mem_of_getElem? hpi)
      have hpl : (pmsB (ps.take i)).length ≤ 16 * 2007 := Nat.le_trans (pmsB_le (M := 2000) (ps.take i) (fun p hp => HP.out.2.2 p (List.mem_of_mem_take hp))) (by rw [List.length_take]; exact Nat.mul_le_mul_right _ (by omega))
      have hp4 := pmsB_four (ps.take i)
      have HSN := (show Hid _ from pms_snoc ps i p hpi)
      have HSL := (show Hid _ from hsl)
      have HBW := (show Hid _ from hbW)
      obtain ⟨pk, pz⟩ := p
      dsimp only at hkb c0 c1 hsl hzl HSN HSL
      obtain ⟨m, hm⟩ : ∃ m, m = pz.length := ⟨_, rfl⟩
      rw [← hm] at c1 hzl HSL
      have HM := (show Hid _ from hm)
      obtain ⟨yy, hyy⟩ : ∃ yy, yy = zs ++ pmsB (ps.take i) := ⟨_, rfl⟩
      have hyl : yy.length ≤ 1100000 := by rw [hyy, List.length_append]; omega
      have hy4 : yy.length % 4 = 0 := by rw [hyy, List.length_append]; omega
      have HYY := (show Hid _ from hyy)
      have hwy := HW.out.1
      rw [← hyy] at hwy
      obtain ⟨W2, hW2⟩ : ∃ W2, W2 = wr.alloc (.cells #[.int .u16 (pk : Nat), .slice va m vc] 34) := ⟨_, rfl⟩
      have b2 : Below wr.heap.size wr W2 := by rw [hW2]; exact (Below.refl _ _).alloc (Nat.le_refl _) _
      have s2 := Stc.new wr [.int .u16 (pk : Nat), .slice va m vc] 34 W2 hW2
      have HS := (show Hid _ from hwy.start b2 s2 (Nat.le_refl _))
      have HN := (show Hid _ from whalf_any HS.out.wr pk hkb (by omega))
      clear hm hyy hwy b2 s2 hsl hbW hpl hp4 hrow hpi
      go_wp2_with fail
      rw [← hW2]
      clear hW2 c0 c1
      refine Calls.mono HN.out ?_
      clear HN
      rintro e v1 hP
      have he := hP.out
      subst he
      have HS1 := (show Hid _ from HS.out.next hP)
      clear hP HS
      have k1 := HS1.out.st.cell 1 _ rfl
      have HN := (show Hid _ from whalf_any HS1.out.wr (4 + m) (by omega) (by rw [List.length_append, bytesB_len]; omega))
      rw [show ((4 + m : Nat) : Int) = 4 + (m : Int) from by omega] at HN
      have hw4 : IntKind.u16.wrap (4 + (m : Int)) = 4 + (m : Int) := by rw [IntKind.wrap_u16]; omega
      go_wp2_with fail
      refine Calls.mono HN.out ?_
      clear HN k1 hw4
      rintro e v2 hP
      have he := hP.out
      subst he
      have HS2 := (show Hid _ from HS1.out.next hP)
      clear hP HS1
      have k1 := HS2.out.st.cell 1 _ rfl
      have HN := (show Hid _ from wraw_any HS2.out.wr (HSL.out.below (HBW.out.trans (HS2.out.fr.below _ HBW.out.size (fun k hk => by omega)))) (by rw [List.length_append, List.length_append, bytesB_len, bytesB_len]; omega))
      go_wp2_with fail
      refine Calls.mono HN.out ?_
      clear HN k1
      rintro e v3 hP
      have he := hP.out
      subst he
      have HS3 := (show Hid _ from HS2.out.next hP)
      clear hP HS2
      have hl3 : (((yy ++ bytesB pk 2) ++ bytesB (4 + m) 2) ++ pz).length = yy.length + 4 + m := by
        rw [List.length_append, List.length_append, List.length_append, bytesB_len, bytesB_len, ← HM.out]
      have HN := (show Hid _ from wpad_any HS3.out.wr (by omega))
      have hp0 : padN (((yy ++ bytesB pk 2) ++ bytesB (4 + m) 2) ++ pz).length = padN m := by rw [hl3]; unfold padN; omega
      rw [hp0] at HN
      clear hl3 hp0
      go_wp2_with fail
      refine Calls.mono HN.out ?_
      clear HN
      rintro e v4 hP
      have he := hP.out
      subst he
      have hS4 := HS3.out.next hP
      have e4 : ((((yy ++ bytesB pk 2) ++ bytesB (4 + m) 2) ++ pz) ++ List.replicate (padN m) 0) = zs ++ pmsB (ps.take (i + 1)) := by
        rw [HSN.out, HYY.out]
        unfold pmB
        dsimp only
        rw [← HM.out]
        simp only [List.append_assoc]
      rw [e4] at hS4
      have HF : Hid (WrW v4 q K (zs ++ pmsB (ps.take (i + 1))) ∧ Fr (fun k => q ≤ k ∧ ¬ K k) w v4) := ⟨hS4.wr.sub (fun _ hg => .inl hg), HW.out.2.trans hS4.fr⟩
      clear hP HS3 hS4 e4
      go_wp2
      go_roundw
      case rel => exact ⟨i + 1, by omega, by go_num, HF.out⟩
      case measure => simp [intOf]; omega
    · have hlt1 : ¬ (i : Int) < (n : Int) := by omega
      have HF : Hid (WrP w q K (zs ++ pmsB ps) (.returned (.tuple #[])) wr) := by
        have e : ps.take i = ps := List.take_of_length_le (by omega)
        have := HW.out.1
        rw [e] at this
        exact ⟨rfl, this, HW.out.2⟩
      clear HW
      go_wp2
      go_end0
      exact HF.out
end Go.Proofs.YtlgfbcfogcmdbaaDoor
namespace Go.Proofs.YtlgfbcfogcmdbaaDoor
open Go.RowKit
def pmV (p : Pm) : List Nat := bytesB p.k 2 ++ (bytesB (4 + p.zs.length) 2 ++ p.zs)
/-- Parameters, without what pads the last one. -/
def pmsV (ps : List Pm) : List Nat := match ps.getLast? with
  | none => []
  | some p => pmsB ps.dropLast ++ pmV p
theorem psz_sum (ps : List Pm) : (pszP (ps.map fun p => p.zs.length)).1 + (pszP (ps.map fun p => p.zs.length)).2 = (pmsB ps).length := by
  have key : ∀ n (ps : List Pm), ps.length = n → (pszP (ps.map fun p => p.zs.length)).1 + (pszP (ps.map fun p => p.zs.length)).2 = (pmsB ps).length := by
    intro n
    induction n with
    | zero =>
      intro ps h
      have : ps = [] := List.eq_nil_of_length_eq_zero h
      subst this
      rfl
    | succ n ih =>
      intro ps h
      rcases List.eq_nil_or_concat ps with e | ⟨qs, p, e⟩
      · subst e; cases h
      · rw [List.concat_eq_append] at e
        subst e
        have h1 := ih qs (by simpa using h)
        rw [List.map_append, List.map_cons, List.map_nil, pszP_snoc]
        unfold pmsB at h1 ⊢
        rw [List.flatMap_append, List.length_append]
        simp only [List.flatMap_cons, List.flatMap_nil, List.append_nil]
        rw [pmB_len]
        omega
  exact key _ ps rfl
theorem pmsV_len (ps : List Pm) : (pmsV ps).length = psz (ps.map fun p => p.zs.length) := by
  rcases List.eq_nil_or_concat ps with e | ⟨qs, p, e⟩
  · subst e; rfl
  · rw [List.concat_eq_append] at e
    subst e
    have h1 := psz_sum qs
    unfold psz
    rw [List.map_append, List.map_cons, List.map_nil, pszP_snoc]
    unfold pmsV
    simp only [List.getLast?_append, List.getLast?_singleton, Option.some_or, List.dropLast_concat]
    unfold pmV
    simp [bytesB_len]
    omega
theorem pms_split (ps : List Pm) : pmsB ps = pmsV ps ++ List.replicate (padN (pmsV ps).length) 0 := by
  rcases List.eq_nil_or_concat ps with e | ⟨qs, p, e⟩
  · subst e; rfl
  · rw [List.concat_eq_append] at e
    subst e
    have h4 := pmsB_four qs
    have hv : pmsV (qs ++ [p]) = pmsB qs ++ pmV p := by
      unfold pmsV
      simp only [List.getLast?_append, List.getLast?_singleton, Option.some_or, List.dropLast_concat]
    have hl : padN (pmsB qs ++ pmV p).length = padN p.zs.length := by
      rw [List.length_append]
      unfold pmV
      simp only [List.length_append, bytesB_len]
      unfold padN
      omega
    rw [hv, hl]
    unfold pmsB pmV
    rw [List.flatMap_append]
    simp only [List.flatMap_cons, List.flatMap_nil, List.append_nil]
    unfold pmB
    simp only [List.append_assoc]
theorem PmR.prs {w : World} {a : Option Addr} {n c : Nat} {ps : List Pm} (h : PmR w a n c ps) (hz : ∀ p ∈ ps, p.zs.length ≤ 2000) : Prs w a n c (ps.map fun p => p.zs.length) := by
  refine ⟨by rw [List.length_map]; exact h.len, h.small, fun l hl => ?_, ?_⟩
  · obtain ⟨p, hp, rfl⟩ := List.mem_map.1 hl
    have := hz p hp
    omega
  · rcases h.at_ with e | ⟨b, off, e1, e2, e3⟩
    · exact .inl e
    · refine .inr ⟨b, off, e1, e2, fun i l hl => ?_⟩
      rw [List.getElem?_map] at hl
      obtain ⟨p, hp, rfl⟩ := Option.map_eq_some_iff.1 hl
      obtain ⟨_, va, vc, c0, c1, _⟩ := e3 i p hp
      exact ⟨p.k, va, vc, c0, c1⟩
set_option linter.unusedVariables false in
set_option maxRecDepth 100000 in
set_option maxHeartbeats 4000000 in
theorem wchunk_prms {w : World} {q : Nat} {K : Nat → Prop} {zs : List Nat} (h : WrW w q K zs) (kind flags tsn stream ssn ppid tag room outs ins : Nat) (b1 : Option Addr) (b2 b3 : Nat) (d1 : Option Addr) (d2 d3 : Nat) (p1 : Option Addr) (p2 p3 : Nat) (x1 : Option Addr) (x2 x3 : Nat) (hk : kind = 4 ∨ kind = 5 ∨ kind = 6 ∨ kind = 9) (W0 : World) {ps : List Pm} (hp : PmR W0 p1 p2 p3 ps) (hW : Below W0.heap.size W0 w) (hq : W0.heap.size ≤ q) (hn : p2 ≤ 16) (hpm : ∀ p ∈ ps, p.zs.length ≤ 2000) (hkb : kind < 256) (hf : flags < 256) (h4 : zs.length % 4 = 0) (hb : zs.length ≤ 800000) (hLb : psz (ps.map fun p => p.zs.length) ≤ 2000) :
    Calls Tryd.prog 13 #[.pointer (some ⟨q, 0, none⟩), .agg #[.int .u8 (kind : Nat), .int .u8 (flags : Nat), .int .u32 (tsn : Nat), .int .u16 (stream : Nat), .int .u16 (ssn : Nat), .int .u32 (ppid : Nat), .int .u32 (tag : Nat), .int .u32 (room : Nat), .int .u16 (outs : Nat), .int .u16 (ins : Nat), .slice b1 b2 b3, .slice d1 d2 d3, .slice p1 p2 p3, .slice x1 x2 x3]] w (WrP w q K (zs ++ chB kind flags (pmsV ps))) := by
  obtain ⟨W1, hW1⟩ : ∃ W1, W1 = w.alloc (.cells #[.int .u8 (kind : Nat), .int .u8 (flags : Nat), .int .u32 (tsn : Nat), .int .u16 (stream : Nat), .int .u16 (ssn : Nat), .int .u32 (ppid : Nat), .int .u32 (tag : Nat), .int .u32 (room : Nat), .int .u16 (outs : Nat), .int .u16 (ins : Nat), .slice b1 b2 b3, .slice d1 d2 d3, .slice p1 p2 p3, .slice x1 x2 x3] 32) := ⟨_, rfl⟩
  have bb1 : Below w.heap.size w W1 := by rw [hW1]; exact (Below.refl _ _).alloc (Nat.le_refl _) _
  have hst1 := Stc.new w [.int .u8 (kind : Nat), .int .u8 (flags : Nat), .int .u32 (tsn : Nat), .int .u16 (stream : Nat), .int .u16 (ssn : Nat), .int .u32 (ppid : Nat), .int .u32 (tag : Nat), .int .u32 (room : Nat), .int .u16 (outs : Nat), .int .u16 (ins : Nat), .slice b1 b2 b3, .slice d1 d2 d3, .slice p1 p2 p3, .slice x1 x2 x3] 32 W1 hW1
  have hrg := hst1.range
  have HV := (show Hid _ from valueOf_prms kind flags tsn stream ssn ppid tag room outs ins b1 b2 b3 d1 d2 d3 p1 p2 p3 x1 x2 x3 W1 hk)
  have HS := (show Hid _ from h.start bb1 hst1 (Nat.le_refl _))
  have hm1 : ∀ (v : Value) (w : World), (method 237 93 v "trunkline/chunk.size").run Tryd.prog w = .ok (87, v) w := fun _ _ => by kernel_rfl
  have hm2 : ∀ (v : Value) (w : World), (method 237 93 v "trunkline/chunk.lay").run Tryd.prog w = .ok (86, v) w := fun _ _ => by kernel_rfl
  have hlv : (pmsV ps).length = psz (ps.map fun p => p.zs.length) := by exact pmsV_len ps
  obtain ⟨LL, hLL⟩ : ∃ LL, LL = psz (ps.map fun p => p.zs.length) := ⟨_, rfl⟩
  have HLL := (show Hid _ from hLL)
  have hbL : LL ≤ 2000 := by rw [hLL]; exact hLb
  have HSZ : Hid (∀ W, Below W0.heap.size W0 W → Calls Tryd.prog 87 #[.slice p1 p2 p3] W fun e w' => e = .returned (.int .i64 (LL : Nat)) ∧ Below W.heap.size W w') := fun W hWB => by
    rw [hLL]
    exact size_prms p1 p2 p3 _ W ((hp.prs hpm).below hWB) hn
  clear hLL
  clear h hst1 bb1 hk
  go_enter Tryd.func13, Tryd.ntmps13
  go_wp2_with (first | (refine wpList_load_mid rfl 32 _ rfl w.heap.size 0 rfl [.int .u8 (kind : Nat), .int .u8 (flags : Nat), .int .u32 (tsn : Nat), .int .u16 (stream : Nat), .int .u16 (ssn : Nat), .int .u32 (ppid : Nat), .int .u32 (tag : Nat), .int .u32 (room : Nat), .int .u16 (outs : Nat), .int .u16 (ins : Nat), .slice b1 b2 b3, .slice d1 d2 d3, .slice p1 p2 p3, .slice x1 x2 x3] _ (by rw [← hW1]; exact hrg) Tryd.underlying32 rfl (ch_size14 _ rfl) ?_) | fail)
  rw [← hW1]
  clear hW1 hrg
  refine Calls.mono HV.out ?_
  clear HV
  rintro e w2 ⟨rfl, bv⟩
  have hS2 := HS.out.below bv
  have k0 := hS2.st.cell 0 _ rfl
  have hw0 : IntKind.u64.wrap (kind : Int) = kind := by rw [IntKind.wrap_u64]; omega
  have HN := (show Hid _ from wnum_any hS2.wr kind 1 (by decide) (by decide) (by simpa using hkb) (by omega) (by omega))
  have HS2 := (show Hid _ from hS2)
  clear HS hS2 bv
  go_wp2_with fail
  refine Calls.mono HN.out ?_
  clear HN k0 hw0
  rintro e w3 hP
  have he := hP.out
  subst he
  have hS3 := HS2.out.next hP
  rw [bytesB_one hkb] at hS3
  have k1 := hS3.st.cell 1 _ rfl
  have hw1 : IntKind.u64.wrap (flags : Int) = flags := by rw [IntKind.wrap_u64]; omega
  have hl3 : (zs ++ [kind]).length = zs.length + 1 := by simp
  have HN := (show Hid _ from wnum_any hS3.wr flags 1 (by decide) (by decide) (by simpa using hf) (by omega) (by omega))
  have HS3 := (show Hid _ from hS3)
  clear HS2 hS3 hP
  go_wp2_with fail
  refine Calls.mono HN.out ?_
  clear HN k1 hw1
  rintro e w4 hP
  have he := hP.out
  subst he
  have hS4 := HS3.out.next hP
  rw [bytesB_one hf] at hS4
  have HS4 := (show Hid _ from hS4)
  clear HS3 hS4 hP
  go_wp2_with fail
  refine Calls.mono (HSZ.out w4 (hW.trans (HS4.out.fr.below _ hW.size (fun k hk => by omega)))) ?_
  clear HSZ
  rintro e w5 ⟨rfl, b5⟩
  have hS5 := HS4.out.below b5
  have hl4 : ((zs ++ [kind]) ++ [flags]).length = zs.length + 2 := by simp
  have HN := (show Hid _ from whalf_any hS5.wr (4 + LL) (by omega) (by omega))
  rw [show ((4 + LL : Nat) : Int) = 4 + (LL : Int) from by omega] at HN
  have HS5 := (show Hid _ from hS5)
  have hw4 : IntKind.u16.wrap (4 + (LL : Int)) = 4 + (LL : Int) := by rw [IntKind.wrap_u16]; omega
  clear HS4 hS5 b5
  go_wp2_with fail
  refine Calls.mono HN.out ?_
  clear HN hw4
  rintro e w6 hP
  have he := hP.out
  subst he
  have hS6 := HS5.out.next hP
  have hl6 : (((zs ++ [kind]) ++ [flags]) ++ bytesB (4 + LL) 2).length = zs.length + 4 := by simp [bytesB_len]
  have HN := (show Hid _ from wlay_prms hS6.wr W0 hp (hW.trans (hS6.fr.below _ hW.size (fun k hk => by omega))) hq hn hpm (by omega) (by omega))
  have HS6 := (show Hid _ from hS6)
  clear HS5 hS6 hP
  go_wp2_with fail
  refine Calls.mono HN.out ?_
  clear HN
  rintro e w7 hP
  have he := hP.out
  subst he
  have hS7 := HS6.out.next hP
  have hl7 : ((((zs ++ [kind]) ++ [flags]) ++ bytesB (4 + LL) 2) ++ (pmsB ps)).length = zs.length + 4 + (LL + padN LL) := by rw [List.length_append, hl6, pms_split, List.length_append, hlv, List.length_replicate, HLL.out]
  have hpl3 : padN LL ≤ 3 := by unfold padN; omega
  have HN := (show Hid _ from wpad_any hS7.wr (by omega))
  have hp0 : padN ((((zs ++ [kind]) ++ [flags]) ++ bytesB (4 + LL) 2) ++ (pmsB ps)).length = 0 := by rw [hl7]; unfold padN; omega
  rw [hp0] at HN
  have HS7 := (show Hid _ from hS7)
  clear HS6 hS7 hP hpl3
  go_wp2_with fail
  refine Calls.mono HN.out ?_
  clear HN
  rintro e w8 hP
  have he := hP.out
  subst he
  have hS8 := HS7.out.next hP
  have e8 : ((((zs ++ [kind]) ++ [flags]) ++ bytesB (4 + LL) 2) ++ (pmsB ps)) ++ List.replicate (0) 0 = zs ++ chB kind flags (pmsV ps) := by
    unfold chB
    rw [hlv, ← HLL.out, pms_split ps, hlv, ← HLL.out]
    simp
  rw [e8] at hS8
  have HS8 : Hid (WrP w q K (zs ++ chB kind flags (pmsV ps)) (.returned (.tuple #[])) w8) := hS8.done rfl
  clear HS7 hS8 hP
  go_wp2
  go_end0
  exact HS8.out
set_option linter.unusedVariables false in
set_option maxRecDepth 100000 in
set_option maxHeartbeats 4000000 in
theorem wlay_init {w : World} {q : Nat} {K : Nat → Prop} {zs : List Nat} (h : WrW w q K zs) (tag room outs ins tsn : Nat) {p1 : Option Addr} {p2 p3 : Nat} (W0 : World) {ps : List Pm} (hp : PmR W0 p1 p2 p3 ps) (hW : Below W0.heap.size W0 w) (hq : W0.heap.size ≤ q) (hn : p2 ≤ 16) (hpm : ∀ p ∈ ps, p.zs.length ≤ 2000) (hg : tag < 4294967296) (hr : room < 4294967296) (ho : outs < 65536) (hi : ins < 65536) (ht : tsn < 4294967296) (h4 : zs.length % 4 = 0) (hb : zs.length ≤ 900000) :
    Calls Tryd.prog 88 #[.agg #[.int .u32 (tag : Nat), .int .u32 (room : Nat), .int .u16 (outs : Nat), .int .u16 (ins : Nat), .int .u32 (tsn : Nat), .slice p1 p2 p3], .pointer (some ⟨q, 0, none⟩)] w (WrP w q K (zs ++ (bytesB tag 4 ++ bytesB room 4 ++ bytesB outs 2 ++ bytesB ins 2 ++ bytesB tsn 4 ++ pmsB ps))) := by
  obtain ⟨W1, hW1⟩ : ∃ W1, W1 = w.alloc (.cells #[.int .u32 (tag : Nat), .int .u32 (room : Nat), .int .u16 (outs : Nat), .int .u16 (ins : Nat), .int .u32 (tsn : Nat), .slice p1 p2 p3] 95) := ⟨_, rfl⟩
  have bb1 : Below w.heap.size w W1 := by rw [hW1]; exact (Below.refl _ _).alloc (Nat.le_refl _) _
  have hst1 := Stc.new w [.int .u32 (tag : Nat), .int .u32 (room : Nat), .int .u16 (outs : Nat), .int .u16 (ins : Nat), .int .u32 (tsn : Nat), .slice p1 p2 p3] 95 W1 hW1
  have HS := (show Hid _ from h.start bb1 hst1 (Nat.le_refl _))
  have hlt := h.lt
  clear h hst1 bb1
  have HN := (show Hid _ from wword_any HS.out.wr tag (by omega) (by omega))
  go_enter Tryd.func88, Tryd.ntmps88
  go_wp2_with fail
  rw [← hW1]
  clear hW1
  refine Calls.mono HN.out ?_
  clear HN
  rintro e v0 hP
  have he := hP.out
  subst he
  have HS1 := (show Hid _ from HS.out.next hP)
  clear hP HS
  have k1 := HS1.out.st.cell 1 _ rfl
  have HN := (show Hid _ from wword_any HS1.out.wr room (by omega) (by simp [bytesB_len]; omega))
  go_wp2_with fail
  refine Calls.mono HN.out ?_
  clear HN k1
  rintro e v1 hP
  have he := hP.out
  subst he
  have HS2 := (show Hid _ from HS1.out.next hP)
  clear hP HS1
  have k2 := HS2.out.st.cell 2 _ rfl
  have HN := (show Hid _ from whalf_any HS2.out.wr outs (by omega) (by simp [bytesB_len]; omega))
  go_wp2_with fail
  refine Calls.mono HN.out ?_
  clear HN k2
  rintro e v2 hP
  have he := hP.out
  subst he
  have HS3 := (show Hid _ from HS2.out.next hP)
  clear hP HS2
  have k3 := HS3.out.st.cell 3 _ rfl
  have HN := (show Hid _ from whalf_any HS3.out.wr ins (by omega) (by simp [bytesB_len]; omega))
  go_wp2_with fail
  refine Calls.mono HN.out ?_
  clear HN k3
  rintro e v3 hP
  have he := hP.out
  subst he
  have HS4 := (show Hid _ from HS3.out.next hP)
  clear hP HS3
  have k4 := HS4.out.st.cell 4 _ rfl
  have HN := (show Hid _ from wword_any HS4.out.wr tsn (by omega) (by simp [bytesB_len]; omega))
  go_wp2_with fail
  refine Calls.mono HN.out ?_
  clear HN k4
  rintro e v4 hP
  have he := hP.out
  subst he
  have HS5 := (show Hid _ from HS4.out.next hP)
  clear hP HS4
  have k5 := HS5.out.st.cell 5 _ rfl
  have HN := (show Hid _ from wlay_prms HS5.out.wr W0 hp (hW.trans (HS5.out.fr.below _ hW.size (fun k hk => by omega))) hq hn hpm (by simp [bytesB_len]; omega) (by simp [bytesB_len]; omega))
  go_wp2_with fail
  refine Calls.mono HN.out ?_
  clear HN k5
  rintro e v5 hP
  have he := hP.out
  subst he
  have HS6 := (show Hid _ from HS5.out.next hP)
  clear hP HS5
  have HF : Hid (WrP w q K (zs ++ (bytesB tag 4 ++ bytesB room 4 ++ bytesB outs 2 ++ bytesB ins 2 ++ bytesB tsn 4 ++ pmsB ps)) (.returned (.tuple #[])) v5) := by
    have := HS6.out.done (e := .returned (.tuple #[])) rfl
    rw [show zs ++ (bytesB tag 4 ++ bytesB room 4 ++ bytesB outs 2 ++ bytesB ins 2 ++ bytesB tsn 4 ++ pmsB ps) = ((((((zs ++ bytesB tag 4) ++ bytesB room 4) ++ bytesB outs 2) ++ bytesB ins 2) ++ bytesB tsn 4) ++ pmsB ps) from by simp only [List.append_assoc]]
    exact this
  clear HS6
  go_wp2
  go_end0
  exact HF.out
set_option linter.unusedVariables false in
set_option maxRecDepth 100000 in
set_option maxHeartbeats 4000000 in
theorem wchunk_init {w : World} {q : Nat} {K : Nat → Prop} {zs : List Nat} (h : WrW w q K zs) (kind flags tsn stream ssn ppid tag room outs ins : Nat) (b1 : Option Addr) (b2 b3 : Nat) (d1 : Option Addr) (d2 d3 : Nat) (p1 : Option Addr) (p2 p3 : Nat) (x1 : Option Addr) (x2 x3 : Nat) (hk : kind = 1 ∨ kind = 2) (W0 : World) {ps : List Pm} (hp : PmR W0 p1 p2 p3 ps) (hW : Below W0.heap.size W0 w) (hq : W0.heap.size ≤ q) (hn : p2 ≤ 16) (hpm : ∀ p ∈ ps, p.zs.length ≤ 2000) (hg : tag < 4294967296) (hr : room < 4294967296) (ho : outs < 65536) (hi : ins < 65536) (ht : tsn < 4294967296) (hkb : kind < 256) (hf : flags < 256) (h4 : zs.length % 4 = 0) (hb : zs.length ≤ 800000) (hLb : 16 + psz (ps.map fun p => p.zs.length) ≤ 2000) :
    Calls Tryd.prog 13 #[.pointer (some ⟨q, 0, none⟩), .agg #[.int .u8 (kind : Nat), .int .u8 (flags : Nat), .int .u32 (tsn : Nat), .int .u16 (stream : Nat), .int .u16 (ssn : Nat), .int .u32 (ppid : Nat), .int .u32 (tag : Nat), .int .u32 (room : Nat), .int .u16 (outs : Nat), .int .u16 (ins : Nat), .slice b1 b2 b3, .slice d1 d2 d3, .slice p1 p2 p3, .slice x1 x2 x3]] w (WrP w q K (zs ++ chB kind flags (bytesB tag 4 ++ bytesB room 4 ++ bytesB outs 2 ++ bytesB ins 2 ++ bytesB tsn 4 ++ pmsV ps))) := by
  obtain ⟨W1, hW1⟩ : ∃ W1, W1 = w.alloc (.cells #[.int .u8 (kind : Nat), .int .u8 (flags : Nat), .int .u32 (tsn : Nat), .int .u16 (stream : Nat), .int .u16 (ssn : Nat), .int .u32 (ppid : Nat), .int .u32 (tag : Nat), .int .u32 (room : Nat), .int .u16 (outs : Nat), .int .u16 (ins : Nat), .slice b1 b2 b3, .slice d1 d2 d3, .slice p1 p2 p3, .slice x1 x2 x3] 32) := ⟨_, rfl⟩
  have bb1 : Below w.heap.size w W1 := by rw [hW1]; exact (Below.refl _ _).alloc (Nat.le_refl _) _
  have hst1 := Stc.new w [.int .u8 (kind : Nat), .int .u8 (flags : Nat), .int .u32 (tsn : Nat), .int .u16 (stream : Nat), .int .u16 (ssn : Nat), .int .u32 (ppid : Nat), .int .u32 (tag : Nat), .int .u32 (room : Nat), .int .u16 (outs : Nat), .int .u16 (ins : Nat), .slice b1 b2 b3, .slice d1 d2 d3, .slice p1 p2 p3, .slice x1 x2 x3] 32 W1 hW1
  have hrg := hst1.range
  have HV := (show Hid _ from valueOf_init kind flags tsn stream ssn ppid tag room outs ins b1 b2 b3 d1 d2 d3 p1 p2 p3 x1 x2 x3 W1 hk)
  have HS := (show Hid _ from h.start bb1 hst1 (Nat.le_refl _))
  have hm1 : ∀ (v : Value) (w : World), (method 237 95 v "trunkline/chunk.size").run Tryd.prog w = .ok (89, v) w := fun _ _ => by kernel_rfl
  have hm2 : ∀ (v : Value) (w : World), (method 237 95 v "trunkline/chunk.lay").run Tryd.prog w = .ok (88, v) w := fun _ _ => by kernel_rfl
  have hlv : (bytesB tag 4 ++ bytesB room 4 ++ bytesB outs 2 ++ bytesB ins 2 ++ bytesB tsn 4 ++ pmsV ps).length = 16 + psz (ps.map fun p => p.zs.length) := by simp [bytesB_len, pmsV_len]; omega
  obtain ⟨LL, hLL⟩ : ∃ LL, LL = 16 + psz (ps.map fun p => p.zs.length) := ⟨_, rfl⟩
  have HLL := (show Hid _ from hLL)
  have hbL : LL ≤ 2000 := by rw [hLL]; exact hLb
  have HSZ : Hid (∀ W, Below W0.heap.size W0 W → Calls Tryd.prog 89 #[.agg #[.int .u32 (tag : Nat), .int .u32 (room : Nat), .int .u16 (outs : Nat), .int .u16 (ins : Nat), .int .u32 (tsn : Nat), .slice p1 p2 p3]] W fun e w' => e = .returned (.int .i64 (LL : Nat)) ∧ Below W.heap.size W w') := fun W hWB => by
    rw [hLL]
    exact size_init _ _ _ _ _ p1 p2 p3 _ W ((hp.prs hpm).below hWB) hn
  clear hLL
  clear h hst1 bb1 hk
  go_enter Tryd.func13, Tryd.ntmps13
  go_wp2_with (first | (refine wpList_load_mid rfl 32 _ rfl w.heap.size 0 rfl [.int .u8 (kind : Nat), .int .u8 (flags : Nat), .int .u32 (tsn : Nat), .int .u16 (stream : Nat), .int .u16 (ssn : Nat), .int .u32 (ppid : Nat), .int .u32 (tag : Nat), .int .u32 (room : Nat), .int .u16 (outs : Nat), .int .u16 (ins : Nat), .slice b1 b2 b3, .slice d1 d2 d3, .slice p1 p2 p3, .slice x1 x2 x3] _ (by rw [← hW1]; exact hrg) Tryd.underlying32 rfl (ch_size14 _ rfl) ?_) | fail)
  rw [← hW1]
  clear hW1 hrg
  refine Calls.mono HV.out ?_
  clear HV
  rintro e w2 ⟨rfl, bv⟩
  have hS2 := HS.out.below bv
  have k0 := hS2.st.cell 0 _ rfl
  have hw0 : IntKind.u64.wrap (kind : Int) = kind := by rw [IntKind.wrap_u64]; omega
  have HN := (show Hid _ from wnum_any hS2.wr kind 1 (by decide) (by decide) (by simpa using hkb) (by omega) (by omega))
  have HS2 := (show Hid _ from hS2)
  clear HS hS2 bv
  go_wp2_with fail
  refine Calls.mono HN.out ?_
  clear HN k0 hw0
  rintro e w3 hP
  have he := hP.out
  subst he
  have hS3 := HS2.out.next hP
  rw [bytesB_one hkb] at hS3
  have k1 := hS3.st.cell 1 _ rfl
  have hw1 : IntKind.u64.wrap (flags : Int) = flags := by rw [IntKind.wrap_u64]; omega
  have hl3 : (zs ++ [kind]).length = zs.length + 1 := by simp
  have HN := (show Hid _ from wnum_any hS3.wr flags 1 (by decide) (by decide) (by simpa using hf) (by omega) (by omega))
  have HS3 := (show Hid _ from hS3)
  clear HS2 hS3 hP
  go_wp2_with fail
  refine Calls.mono HN.out ?_
  clear HN k1 hw1
  rintro e w4 hP
  have he := hP.out
  subst he
  have hS4 := HS3.out.next hP
  rw [bytesB_one hf] at hS4
  have HS4 := (show Hid _ from hS4)
  clear HS3 hS4 hP
  go_wp2_with fail
  refine Calls.mono (HSZ.out w4 (hW.trans (HS4.out.fr.below _ hW.size (fun k hk => by omega)))) ?_
  clear HSZ
  rintro e w5 ⟨rfl, b5⟩
  have hS5 := HS4.out.below b5
  have hl4 : ((zs ++ [kind]) ++ [flags]).length = zs.length + 2 := by simp
  have HN := (show Hid _ from whalf_any hS5.wr (4 + LL) (by omega) (by omega))
  rw [show ((4 + LL : Nat) : Int) = 4 + (LL : Int) from by omega] at HN
  have HS5 := (show Hid _ from hS5)
  have hw4 : IntKind.u16.wrap (4 + (LL : Int)) = 4 + (LL : Int) := by rw [IntKind.wrap_u16]; omega
  clear HS4 hS5 b5
  go_wp2_with fail
  refine Calls.mono HN.out ?_
  clear HN hw4
  rintro e w6 hP
  have he := hP.out
  subst he
  have hS6 := HS5.out.next hP
  have hl6 : (((zs ++ [kind]) ++ [flags]) ++ bytesB (4 + LL) 2).length = zs.length + 4 := by simp [bytesB_len]
  have HN := (show Hid _ from wlay_init hS6.wr tag room outs ins tsn W0 hp (hW.trans (hS6.fr.below _ hW.size (fun k hk => by omega))) hq hn hpm hg hr ho hi ht (by omega) (by omega))
  have HS6 := (show Hid _ from hS6)
  clear HS5 hS6 hP
  go_wp2_with fail
  refine Calls.mono HN.out ?_
  clear HN
  rintro e w7 hP
  have he := hP.out
  subst he
  have hS7 := HS6.out.next hP
  have hl7 : ((((zs ++ [kind]) ++ [flags]) ++ bytesB (4 + LL) 2) ++ (bytesB tag 4 ++ bytesB room 4 ++ bytesB outs 2 ++ bytesB ins 2 ++ bytesB tsn 4 ++ pmsB ps)).length = zs.length + 4 + (LL + padN LL) := by (rw [List.length_append, hl6, HLL.out, pms_split]; have hv := pmsV_len ps; simp only [List.length_append, bytesB_len, List.length_replicate]; rw [hv]; unfold padN; omega)
  have hpl3 : padN LL ≤ 3 := by unfold padN; omega
  have HN := (show Hid _ from wpad_any hS7.wr (by omega))
  have hp0 : padN ((((zs ++ [kind]) ++ [flags]) ++ bytesB (4 + LL) 2) ++ (bytesB tag 4 ++ bytesB room 4 ++ bytesB outs 2 ++ bytesB ins 2 ++ bytesB tsn 4 ++ pmsB ps)).length = 0 := by rw [hl7]; unfold padN; omega
  rw [hp0] at HN
  have HS7 := (show Hid _ from hS7)
  clear HS6 hS7 hP hpl3
  go_wp2_with fail
  refine Calls.mono HN.out ?_
  clear HN
  rintro e w8 hP
  have he := hP.out
  subst he
  have hS8 := HS7.out.next hP
  have e8 : ((((zs ++ [kind]) ++ [flags]) ++ bytesB (4 + LL) 2) ++ (bytesB tag 4 ++ bytesB room 4 ++ bytesB outs 2 ++ bytesB ins 2 ++ bytesB tsn 4 ++ pmsB ps)) ++ List.replicate (0) 0 = zs ++ chB kind flags (bytesB tag 4 ++ bytesB room 4 ++ bytesB outs 2 ++ bytesB ins 2 ++ bytesB tsn 4 ++ pmsV ps) := by
    unfold chB
    rw [hlv, ← HLL.out, pms_split ps]
    have hv := pmsV_len ps
    have hpp : padN (pmsV ps).length = padN LL := by rw [hv, HLL.out]; unfold padN; omega
    rw [hpp]
    simp
  rw [e8] at hS8
  have HS8 : Hid (WrP w q K (zs ++ chB kind flags (bytesB tag 4 ++ bytesB room 4 ++ bytesB outs 2 ++ bytesB ins 2 ++ bytesB tsn 4 ++ pmsV ps)) (.returned (.tuple #[])) w8) := hS8.done rfl
  clear HS7 hS8 hP
  go_wp2
  go_end0
  exact HS8.out
end Go.Proofs.YtlgfbcfogcmdbaaDoor
namespace Go.Proofs.YtlgfbcfogcmdbaaDoor
open Go.RowKit
theorem pmsV_cons (p : Pm) (ps : List Pm) : pmsV (p :: ps) = if ps = [] then pmV p else pmB p ++ pmsV ps := by
  rcases List.eq_nil_or_concat ps with e | ⟨qs, x, e⟩
  · subst e; rfl
  · rw [List.concat_eq_append] at e
    subst e
    rw [if_neg (by simp)]
    unfold pmsV
    rw [← List.cons_append]
    simp only [List.getLast?_append, List.getLast?_singleton, Option.some_or, List.dropLast_concat]
    unfold pmsB
    rw [List.flatMap_cons, List.append_assoc]
theorem numB_two {v : Nat} (h : v < 65536) : numB (bytesB v 2) = v := by
  simp [bytesB, numB]
  omega
theorem take2B (v : Nat) (x : List Nat) : (bytesB v 2 ++ x).take 2 = bytesB v 2 := List.take_left' (bytesB_len v 2)
theorem drop2B (v : Nat) (x : List Nat) : (bytesB v 2 ++ x).drop 2 = x := List.drop_left' (bytesB_len v 2)
/-- A parameter, and where its bytes lie. -/
abbrev Pq := Pm × Option Addr × Nat
def Pq.v (x : Pq) : List Value := [.int .u16 (x.1.k : Nat), .slice x.2.1 x.1.zs.length x.2.2]
abbrev OwnP2 := OwnG 34 2 Pq.v
theorem layPm : Lays Tryd.prog 29 34 2 32 Pq.v :=
  ⟨Tryd.underlying29, ⟨.agg #[.int .u16 0, .slice none 0 0], by kernel_rfl, rfl⟩, by decide, fun _ => rfl, fun x u hu => by
    simp [Pq.v] at hu
    rcases hu with rfl | rfl <;> rfl⟩
theorem und_pv : Tryd.prog.underlying 93 = some (.slice 34) := Tryd.underlying93
theorem layPv : Lays Tryd.prog 93 34 2 32 Pq.v := ⟨und_pv, layPm.info, layPm.pos, layPm.len, layPm.one⟩
/-- Parameters in new memory. -/
structure PmO (w : World) (B : Nat) (a : Option Addr) (n c : Nat) (ps : List Pm) : Prop where
  ex : ∃ xs : List Pq, xs.map (·.1) = ps ∧ OwnP2 w B a n c xs ∧ ∀ x ∈ xs, OwnB w B x.2.1 x.1.zs.length x.2.2 x.1.zs
theorem PmO.fr {w w' : World} {B : Nat} {a : Option Addr} {n c : Nat} {ps : List Pm} {Q : Nat → Prop} (h : PmO w B a n c ps) (hf : Fr Q w w') (hq : ∀ g, B ≤ g → g < w.heap.size → ¬ Q g) : PmO w' B a n c ps := by
  obtain ⟨xs, h1, h2, h3⟩ := h.ex
  exact ⟨xs, h1, OwnG.fr h2 hf (fun g hg => hq g (h2.own.lt g hg).1 (h2.own.lt g hg).2), fun x hx => (h3 x hx).fr hf hq⟩
theorem PmO.below {w w' : World} {B : Nat} {a : Option Addr} {n c : Nat} {ps : List Pm} (h : PmO w B a n c ps) (hb : Below w.heap.size w w') : PmO w' B a n c ps := h.fr (Q := fun _ => False) (Fr.of_below hb) (fun _ _ _ e => e)
theorem ty_pm : (5 : Nat) ≠ 34 := by decide
theorem ownB_apartP {w : World} {B B' : Nat} {a a' : Option Addr} {n c n' c' : Nat} {zs : List Nat} {xs : List Pq} (h : OwnB w B a n c zs) (k : OwnP2 w B' a' n' c' xs) (g : Nat) (hg : (Value.slice a n c).ownBlock = some g) : (Value.slice a' n' c').ownBlock ≠ some g := by
  intro hg'
  rcases h.own.2 with ⟨hv, _⟩ | ⟨g1, cap, cur, hv, _, hh, _⟩
  · injection hv with e1; subst e1; cases hg
  · injection hv with e1
    subst e1
    obtain rfl : g1 = g := Option.some.inj hg
    rcases k.own.2 with ⟨hv', _⟩ | ⟨g2, cap2, cur2, hv', _, hh', _⟩
    · injection hv' with e1; subst e1; cases hg'
    · injection hv' with e1
      subst e1
      obtain rfl : g2 = g1 := Option.some.inj hg'
      rw [hh] at hh'
      injection hh' with hh'
      injection hh' with _ e2
      exact ty_pm e2
theorem PmO.app {w : World} {B : Nat} {a : Option Addr} {n c : Nat} {ps : List Pm} (h : PmO w B a n c ps) {p : Pm} {ma : Option Addr} {mc : Nat} (hm : OwnB w B ma p.zs.length mc p.zs) (hB : B ≤ w.heap.size) (hn : n ≤ 1000) :
    ∃ g c' w', (Builtin.append_ #[93, 93] 93 #[.slice a n c, .slice (some ⟨w.heap.size, 0, none⟩) 1 1]).run Tryd.prog (w.alloc (.cells #[.int .u16 (p.k : Nat), .slice ma p.zs.length mc] 34)) = .ok (.slice (some ⟨g, 0, none⟩) (n + 1) c') w' ∧ PmO w' B (some ⟨g, 0, none⟩) (n + 1) c' (ps ++ [p]) ∧ Fr (fun k => B ≤ k) w w' := by
  obtain ⟨xs, h1, h2, h3⟩ := h.ex
  have b0 : Below w.heap.size w (w.alloc (.cells (Pq.v (p, ma, mc)).toArray 34)) := (Below.refl _ _).alloc (Nat.le_refl _) _
  have st2 := Stc.new w (Pq.v (p, ma, mc)) 34 _ rfl
  have h2a := OwnG.below h2 b0
  obtain ⟨g7, c7, w7, hr7, ho7, hgr7, hg7, hg7l⟩ := OwnG.app layPv h2a 93 (p, ma, mc) ⟨w.heap.size, 0, none⟩ (fun j u hj => by
    have := st2.cell j u hj
    unfold Addr.add
    split
    · rename_i e; subst e; exact this
    · simpa using this) (by unfold maxLen; omega) (by omega) (Nat.le_trans hB b0.size)
  have keep : ∀ (x : Pq), OwnB w B x.2.1 x.1.zs.length x.2.2 x.1.zs → OwnB w7 B x.2.1 x.1.zs.length x.2.2 x.1.zs := fun x hx => by
    have hx2 := hx.below b0
    refine hx2.kept hgr7 ?_
    cases e : (Value.slice x.2.1 x.1.zs.length x.2.2).ownBlock with
    | none => exact .inl rfl
    | some g => exact .inr (fun e2 => ownB_apartP hx2 h2a g e (e2 ▸ rfl))
  refine ⟨g7, c7, w7, hr7, ⟨xs ++ [(p, ma, mc)], by rw [List.map_append, h1]; rfl, ho7, fun x hx => ?_⟩, (Fr.of_below b0).trans (Fr.grown hgr7 (fun k hk => (h2.own.lt k hk).1))⟩
  rcases List.mem_append.1 hx with hx | hx
  · exact keep x (h3 x hx)
  · simp at hx
    subst hx
    exact keep (p, ma, mc) hm
structure RpsP (W0 w : World) (q : Nat) (ps : List Pm) (sh : Int) (e : Ending) (w' : World) : Prop where
  ex : ∃ a c, e = .returned (.slice a ps.length c) ∧ PmO w' w.heap.size a ps.length c ps
  rd : RdW W0 w' q [] sh
  fr : Fr (fun k => k = q) w w'
set_option linter.unusedVariables false in
set_option maxRecDepth 100000 in
set_option maxHeartbeats 8000000 in
theorem rparams_any {W0 w : World} {q : Nat} {sh : Int} (ps : List Pm) (h : RdW W0 w q (pmsV ps) sh) (h16 : ps.length ≤ 16) (hk : ∀ p ∈ ps, p.k < 65536 ∧ p.zs.length ≤ 2000) :
    Calls Tryd.prog 67 #[.pointer (some ⟨q, 0, none⟩)] w (RpsP W0 w q ps sh) := by
  have hql := h.lt
  have hWq := h.old
  have HK := (show Hid _ from hk)
  obtain ⟨n, hn⟩ : ∃ n, n = ps.length := ⟨_, rfl⟩
  have HNL := (show Hid _ from hn)
  rw [← hn] at h16
  have HU : Hid (RuS W0 w q (pmsV (ps.drop 0)) sh w ∧ PmO w w.heap.size none 0 0 (ps.take 0)) := ⟨⟨h, Fr.refl _ _⟩, ⟨[], rfl, OwnG.nil _ _, fun x hx => (by cases hx)⟩⟩
  clear h hk hn
  go_enter Tryd.func67, Tryd.ntmps67
  go_wp2
  go_loopw [3] (fun u3 wr => ∃ (i : Nat) (la : Option Addr) (lc : Nat), i ≤ n ∧ u3 = .slice la i lc ∧ RuS W0 w q (pmsV (ps.drop i)) sh wr ∧ PmO wr w.heap.size la i lc (ps.take i)) (fun u3 _ => match u3 with | .slice _ i _ => n - i | _ => 0)
  case atStart => exact ⟨0, none, 0, by omega, rfl, HU.out⟩
  case round =>
    obtain ⟨i, la, lc, hin, rfl, hu, ho⟩ := hrel
    obtain ⟨b, off, m0, c, hst, hs⟩ := hu.rd.ex
    have c0 := hst.cell 0 _ rfl
    have hm := hs.len
    have hms := hs.small
    have HUO := (show Hid _ from And.intro hu ho)
    clear hst hs hu ho HU
    by_cases hlt : i < n
    · have hdr : ∃ p, ps.drop i = p :: ps.drop (i + 1) ∧ ps[i]? = some p := by
        have hil : i < ps.length := by have := HNL.out; omega
        exact ⟨ps[i], List.drop_eq_getElem_cons hil, List.getElem?_eq_getElem hil⟩
      obtain ⟨p, hd, hpi⟩ := hdr
      obtain ⟨hkb, hzl⟩ := HK.out p (List.mem_of_getElem? hpi)
      obtain ⟨pk, pz⟩ := p
      dsimp only at hkb hzl
      -- what is left: the parameter, what pads it if another one stands behind it, the others
      obtain ⟨rr, hrr⟩ : ∃ rr, rr = pmsV (ps.drop (i + 1)) := ⟨_, rfl⟩
      obtain ⟨m, hmz⟩ : ∃ m, m = pz.length := ⟨_, rfl⟩
      obtain ⟨mn, hmn⟩ : ∃ mn, mn = if ps.drop (i + 1) = [] then 0 else padN m := ⟨_, rfl⟩
      have hleft : pmsV (ps.drop i) = bytesB pk 2 ++ (bytesB (4 + m) 2 ++ (pz ++ (List.replicate mn 0 ++ rr))) := by
        rw [hd, pmsV_cons, hrr, hmn, hmz]
        split
        · rename_i e
          rw [e]
          show pmV ⟨pk, pz⟩ = bytesB pk 2 ++ (bytesB (4 + pz.length) 2 ++ (pz ++ ([] ++ [])))
          rw [List.append_nil, List.append_nil]
          rfl
        · unfold pmB
          simp only [List.append_assoc]
      have hrl : ps.drop (i + 1) ≠ [] → 3 < rr.length := fun hne => by
        rw [hrr]
        cases hx : ps.drop (i + 1) with
        | nil => exact absurd hx hne
        | cons x l =>
          rw [pmsV_cons]
          split
          · unfold pmV; simp [bytesB_len]; omega
          · rw [List.length_append, pmB_len]; omega
      have hpl := padN_lt m
      have hpmn : min (padN m : Int) ((mn + rr.length : Nat) : Int) = (mn : Int) := by
        by_cases hne : ps.drop (i + 1) = []
        · rw [if_pos hne] at hmn
          rw [hne] at hrr
          have : rr.length = 0 := by rw [hrr]; rfl
          omega
        · rw [if_neg hne] at hmn
          have := hrl hne
          omega
      obtain ⟨pm, hpm⟩ : ∃ pm, pm = padN m := ⟨_, rfl⟩
      have HPD : Hid (∀ V, Calls Tryd.prog 45 #[.int .i64 (m : Nat)] V fun e w' => e = .returned (.int .i64 (pm : Nat)) ∧ w' = V) := fun V => by rw [hpm]; exact padding_any m V (by omega) _ rfl
      rw [← hpm] at hpmn
      have HTK : Hid (ps.take i ++ [⟨pk, pz⟩] = ps.take (i + 1)) := by
        rw [List.take_add_one, hpi]; rfl
      have hi16 : (i : Int) < 16 := by omega
      have hil : i ≤ 1000 := by omega
      have hm4 : 4 + m < 65536 := by omega
      have hmc : m ≤ 140737488351232 := by omega
      have hm0 : (0 : Int) < (m0 : Int) := by
        have : (pmsV (ps.drop i)).length = m0 := hm
        rw [hleft] at this
        simp [bytesB_len] at this
        omega
      have HMZ := (show Hid _ from hmz)
      have HMN0 := (show Hid _ from hpmn)
      have HRR : Hid (List.drop mn (List.replicate mn 0 ++ rr) = rr) := List.drop_left' (by simp)
      have HRQ := (show Hid _ from hrr)
      have HN := (show Hid _ from rhalf_any (hleft ▸ HUO.out.1.rd) (by simp [bytesB_len]))
      rw [take2B, drop2B, numB_two hkb] at HN
      clear hm hmz hrr hmn hleft hrl hpmn hpm hpl hkb hzl hd hpi
      go_wp2_with fail
      refine Calls.mono HN.out ?_
      clear HN c0 hm0
      rintro e w1 hP
      have he := hP.out
      subst he
      have HU1 : Hid (RuS W0 w q _ sh w1 ∧ PmO w1 w.heap.size la i lc (ps.take i)) := ⟨HUO.out.1.next hP, HUO.out.2.fr hP.fr (fun g hg _ e => by omega)⟩
      have HN := (show Hid _ from rlen_any HU1.out.1.rd (by simp [bytesB_len]) m (by rw [take2B, numB_two hm4]))
      rw [drop2B] at HN
      clear HUO hP
      go_wp2_with fail
      refine Calls.mono HN.out ?_
      clear HN
      rintro e w2 hP
      have he := hP.out
      subst he
      have HU2 : Hid (RuS W0 w q _ sh w2 ∧ PmO w2 w.heap.size la i lc (ps.take i)) := ⟨HU1.out.1.next hP, HU1.out.2.fr hP.fr (fun g hg _ e => by omega)⟩
      have HN := (show Hid _ from rcut_any HU2.out.1.rd m (by rw [List.length_append, ← HMZ.out]; omega))
      clear HU1 hP
      go_wp2_with fail
      refine Calls.mono HN.out ?_
      clear HN
      rintro e w3 hP
      obtain ⟨cb, co, cc, rfl, hs1⟩ := hP.ex
      have hrd3 := hP.rd
      rw [List.take_left' HMZ.out.symm] at hs1
      rw [List.drop_left' HMZ.out.symm] at hrd3
      have HU3 : Hid (RuS W0 w q (List.replicate mn 0 ++ rr) sh w3 ∧ PmO w3 w.heap.size la i lc (ps.take i)) := ⟨⟨hrd3, HU2.out.1.fr.trans (hP.fr.mono (fun _ _ hk => .inl hk))⟩, HU2.out.2.fr hP.fr (fun g hg _ e => by omega)⟩
      have HC := (show Hid _ from clone_any _ m cc pz w3 (hs1.below hrd3.bel) hmc)
      clear HU2 hP hs1 hrd3
      go_wp2_with fail
      refine Calls.mono (must_yes 6 w3) ?_
      rintro e v3 ⟨rfl, hv3⟩
      subst hv3
      go_wp2_with fail
      refine Calls.mono HC.out ?_
      clear HC
      rintro e w4 ⟨ma, mc, rfl, ho4, _, b4⟩
      have hsz4 : w.heap.size ≤ w4.heap.size := Nat.le_trans HU3.out.1.fr.size b4.size
      have hu4 := HU3.out.1.below b4
      have hom : OwnB w4 w.heap.size ma (Pm.mk pk pz).zs.length mc (Pm.mk pk pz).zs := by
        have := ho4.base HU3.out.1.fr.size
        rw [HMZ.out] at this
        exact this
      obtain ⟨g7, c7, v4, hr7, ho7, hf7⟩ := (HU3.out.2.below b4).app hom hsz4 hil
      dsimp only at hr7
      rw [← HMZ.out] at hr7
      have hu7 : RuS W0 w q (List.replicate mn 0 ++ rr) sh v4 := ⟨hu4.rd.fr hf7 (fun e => by omega) (fun g hg => by omega), hu4.fr.trans (hf7.mono (fun k _ hk => .inr hk))⟩
      rw [HTK.out] at ho7
      have bd : Below v4.heap.size v4 v4.drew := (Below.refl _ _).drew
      have hu8 := hu7.below bd
      have ho8 := ho7.below bd
      obtain ⟨lb, lo, ln, lc, hst, hsl⟩ := hu8.rd.ex
      have HC0 := (show Hid _ from hst.cell 0 _ rfl)
      have hln : ln = mn + rr.length := by
        have := hsl.len
        simp at this
        omega
      have HMN : Hid (∀ (ts : Array TypeId) (t : TypeId) (V : World), (Builtin.min_ ts t #[.int .i64 (pm : Nat), .int .i64 (ln : Nat)]).run Tryd.prog V = .ok (.int .i64 (mn : Nat)) V) := fun ts t V => by
        rw [Lib.run_min_ints, hln, HMN0.out]
      have HCT := (show Hid _ from rcut_any hu8.rd mn (by simp))
      have HU8 := (show Hid _ from And.intro hu8 ho8)
      clear HU3 ho4 b4 hsz4 hu4 hom ho7 hf7 hu7 bd hu8 ho8 hst hsl hln
      go_wp2_with (at_builtin; refine app_eq_listR rfl _ _ rfl rfl rfl rfl hr7 ?_)
      clear hr7
      refine wp_region_parW mixedX (fun θ : Nat × Nat × Nat => [(31, .pointer (some ⟨q, 0, none⟩)), (32, .int .i64 (m : Nat)), (33, .int .i64 (pm : Nat)), (34, .pointer (some ⟨q, 0, none⟩)), (35, .pointer (some ⟨q, 0, none⟩)), (36, .pointer (some ⟨q, 0, none⟩)), (37, .slice (some ⟨lb, lo, none⟩) ln lc), (38, .int .i64 (ln : Nat)), (39, .int .i64 (mn : Nat)), (40, .slice (some ⟨θ.1, θ.2.1, none⟩) mn θ.2.2)]) (fun θ l V => (l 9 = false → V = v4.drew) ∧ (l 9 = true → RdW W0 V q rr sh ∧ Fr (fun k => k = q) v4.drew V)) (0, 0, 0) ?Z1 ?hZ1 (by kernel_rfl) (by kernel_rfl) (fun θ => by kernel_rfl) (by kernel_rfl) ?h01 ?hops1 ?he1
      case hZ1 => intro θ; simp only [List.foldl_cons, List.foldl_nil, List.setIfInBounds_toArray, List.set_cons_zero, List.set_cons_succ]; rfl
      case h01 => exact ⟨fun _ => rfl, fun e => (by cases e)⟩
      case hops1 =>
        refine ⟨?_, ?_, ?_, ?_, ?_, ?_, ?_, ?_, ?_, ?_, trivial⟩
        · exact par_val (fun θ => by rfl) (fun θ l V hg => ⟨fun e => hg.1 (by simpa [updL] using e), fun e => hg.2 (by simpa [updL] using e)⟩) (fun θ l V hl hc hd hg => by have hcF : l 9 = false := (by cases h : l 9 with | false => rfl | true => exact absurd (hc 9 0 (by kernel_rfl) h) (by rw [hl]; decide)); obtain rfl := hg.1 hcF; have c0 := HC0.out; have hmin := HMN.out; go_simp; (try with_reducible rfl); (try omega))
        · exact par_val (fun θ => by rfl) (fun θ l V hg => ⟨fun e => hg.1 (by simpa [updL] using e), fun e => hg.2 (by simpa [updL] using e)⟩) (fun θ l V hl hc hd hg => by have hcF : l 9 = false := (by cases h : l 9 with | false => rfl | true => exact absurd (hc 9 1 (by kernel_rfl) h) (by rw [hl]; decide)); obtain rfl := hg.1 hcF; have c0 := HC0.out; have hmin := HMN.out; go_simp; (try with_reducible rfl); (try omega))
        · exact par_call (fun θ => by rfl) rfl (vs := fun _ => [.int .i64 (m : Nat)]) (fun θ => by rfl) Tryd.func45 (by rfl) (by rfl) (fun θ l V hl hc hd hg => by
            refine Calls.mono (HPD.out V) ?_
            rintro e V2 ⟨rfl, hv⟩
            subst hv
            exact ⟨_, rfl, θ, fun _ _ _ _ _ _ => rfl, fun d hd => (by cases hd; rfl), ⟨fun e => hg.1 (by simpa [updL] using e), fun e => hg.2 (by simpa [updL] using e)⟩⟩)
        · exact par_val (fun θ => by rfl) (fun θ l V hg => ⟨fun e => hg.1 (by simpa [updL] using e), fun e => hg.2 (by simpa [updL] using e)⟩) (fun θ l V hl hc hd hg => by have hcF : l 9 = false := (by cases h : l 9 with | false => rfl | true => exact absurd (hc 9 3 (by kernel_rfl) h) (by rw [hl]; decide)); obtain rfl := hg.1 hcF; have c0 := HC0.out; have hmin := HMN.out; go_simp; (try with_reducible rfl); (try omega))
        · exact par_val (fun θ => by rfl) (fun θ l V hg => ⟨fun e => hg.1 (by simpa [updL] using e), fun e => hg.2 (by simpa [updL] using e)⟩) (fun θ l V hl hc hd hg => by have hcF : l 9 = false := (by cases h : l 9 with | false => rfl | true => exact absurd (hc 9 4 (by kernel_rfl) h) (by rw [hl]; decide)); obtain rfl := hg.1 hcF; have c0 := HC0.out; have hmin := HMN.out; go_simp; (try with_reducible rfl); (try omega))
        · exact par_val (fun θ => by rfl) (fun θ l V hg => ⟨fun e => hg.1 (by simpa [updL] using e), fun e => hg.2 (by simpa [updL] using e)⟩) (fun θ l V hl hc hd hg => by have hcF : l 9 = false := (by cases h : l 9 with | false => rfl | true => exact absurd (hc 9 5 (by kernel_rfl) h) (by rw [hl]; decide)); obtain rfl := hg.1 hcF; have c0 := HC0.out; have hmin := HMN.out; go_simp; (try with_reducible rfl); (try omega))
        · exact par_val (fun θ => by rfl) (fun θ l V hg => ⟨fun e => hg.1 (by simpa [updL] using e), fun e => hg.2 (by simpa [updL] using e)⟩) (fun θ l V hl hc hd hg => by have hcF : l 9 = false := (by cases h : l 9 with | false => rfl | true => exact absurd (hc 9 6 (by kernel_rfl) h) (by rw [hl]; decide)); obtain rfl := hg.1 hcF; have c0 := HC0.out; have hmin := HMN.out; go_simp; (try with_reducible rfl); (try omega))
        · exact par_val (fun θ => by rfl) (fun θ l V hg => ⟨fun e => hg.1 (by simpa [updL] using e), fun e => hg.2 (by simpa [updL] using e)⟩) (fun θ l V hl hc hd hg => by have hcF : l 9 = false := (by cases h : l 9 with | false => rfl | true => exact absurd (hc 9 7 (by kernel_rfl) h) (by rw [hl]; decide)); obtain rfl := hg.1 hcF; have c0 := HC0.out; have hmin := HMN.out; go_simp; (try with_reducible rfl); (try omega))
        · exact par_val (fun θ => by rfl) (fun θ l V hg => ⟨fun e => hg.1 (by simpa [updL] using e), fun e => hg.2 (by simpa [updL] using e)⟩) (fun θ l V hl hc hd hg => by have hcF : l 9 = false := (by cases h : l 9 with | false => rfl | true => exact absurd (hc 9 8 (by kernel_rfl) h) (by rw [hl]; decide)); obtain rfl := hg.1 hcF; have c0 := HC0.out; have hmin := HMN.out; go_simp; (try with_reducible rfl); (try omega))
        · exact par_call (fun θ => by rfl) rfl (vs := fun _ => [.pointer (some ⟨q, 0, none⟩), .int .i64 (mn : Nat)]) (fun θ => by rfl) Tryd.func56 (by rfl) (by rfl) (fun θ l V hl hc hd hg => by
            obtain rfl := hg.1 hl
            refine Calls.mono HCT.out ?_
            rintro e V2 hP
            obtain ⟨cb, co, cc, rfl, _⟩ := hP.ex
            exact ⟨_, rfl, next_set (by kernel_rfl) ((cb, co, cc) : Nat × Nat × Nat) [(40, .slice (some ⟨cb, co, none⟩) mn cc, 9)] (by simp only [List.foldl_cons, List.foldl_nil, List.setIfInBounds_toArray, List.set_cons_zero, List.set_cons_succ]) (by kernel_rfl) (fun y hy => by simp at hy; subst hy; exact hl) (fun d hd => by cases hd; rfl) ⟨fun e => (by simp [updL] at e), fun _ => ⟨by have := hP.rd; rwa [HRR.out] at this, hP.fr⟩⟩⟩)
      case he1 =>
      rintro ⟨cb, co, cc⟩ l V hall hg
      have hP := hg.2 (hall 9 (by decide))
      clear hall hg
      dsimp only
      have HF : Hid (RuS W0 w q (pmsV (ps.drop (i + 1))) sh V ∧ PmO V w.heap.size (some ⟨g7, 0, none⟩) (i + 1) c7 (ps.take (i + 1))) := by
        rw [← HRQ.out]
        exact ⟨⟨hP.1, HU8.out.1.fr.trans (hP.2.mono (fun _ _ hk => .inl hk))⟩, HU8.out.2.fr hP.2 (fun g hg _ e => by omega)⟩
      clear hP HU8 HCT HMN HC0 HPD
      go_wp2
      go_roundw
      case rel => exact ⟨i + 1, _, _, by omega, rfl, HF.out⟩
      case measure => simp; omega
    · have hien : i = n := by omega
      subst hien
      have hdn : ps.drop i = [] := by rw [HNL.out]; simp
      rw [hdn] at hm
      have hm0 : m0 = 0 := by rw [← hm]; rfl
      subst hm0
      have HF : Hid (RpsP W0 w q ps sh (.returned (.slice la i lc)) wr) := by
        obtain ⟨hu, ho⟩ := HUO.out
        rw [hdn] at hu
        rw [HNL.out, List.take_length, ← HNL.out] at ho
        refine ⟨⟨la, lc, by rw [HNL.out], ?_⟩, hu.rd, hu.fr.mono (fun k hk hp => hp.elim id (fun e => by omega))⟩
        rw [← HNL.out]
        exact ho
      clear HUO hm
      go_wp2
      go_ret
      exact HF.out
end Go.Proofs.YtlgfbcfogcmdbaaDoor
namespace Go.Proofs.YtlgfbcfogcmdbaaDoor
open Go.RowKit
theorem PmO.base {w : World} {B B' : Nat} {a : Option Addr} {n c : Nat} {ps : List Pm} (h : PmO w B a n c ps) (hb : B' ≤ B) : PmO w B' a n c ps := by
  obtain ⟨xs, h1, h2, h3⟩ := h.ex
  exact ⟨xs, h1, OwnG.base h2 hb, fun x hx => (h3 x hx).base hb⟩
structure RdI (W0 w : World) (q : Nat) (n1 n2 n3 n4 n5 : Nat) (ps : List Pm) (sh : Int) (e : Ending) (w' : World) : Prop where
  ex : ∃ xa xc, e = .returned (.iface 95 (.agg #[.int .u32 (n1 : Nat), .int .u32 (n2 : Nat), .int .u16 (n3 : Nat), .int .u16 (n4 : Nat), .int .u32 (n5 : Nat), .slice xa ps.length xc])) ∧ PmO w' w.heap.size xa ps.length xc ps
  rd : RdW W0 w' q [] sh
  fr : Fr (fun k => k = q) w w'
theorem zero_iv (w : World) : (zeroValue 95).run Tryd.prog w = .ok (.agg #[.int .u32 0, .int .u32 0, .int .u16 0, .int .u16 0, .int .u32 0, .slice none 0 0]) w := by kernel_rfl
set_option linter.unusedVariables false in
set_option maxRecDepth 100000 in
set_option maxHeartbeats 4000000 in
theorem rinit_any {W0 w : World} {q : Nat} {zs : List Nat} {sh : Int} (ps : List Pm) (h : RdW W0 w q zs sh) (hk : 16 ≤ zs.length) (hps : zs.drop 16 = pmsV ps) (h16 : ps.length ≤ 16) (hpk : ∀ p ∈ ps, p.k < 65536 ∧ p.zs.length ≤ 2000) :
    Calls Tryd.prog 65 #[.pointer (some ⟨q, 0, none⟩)] w (RdI W0 w q (numB (zs.take 4)) (numB ((zs.drop 4).take 4)) (numB ((zs.drop 8).take 2)) (numB ((zs.drop 10).take 2)) (numB ((zs.drop 12).take 4)) ps sh) := by
  have hql := h.lt
  have hWq := h.old
  have HPS := (show Hid _ from And.intro hps (And.intro h16 hpk))
  clear hps hpk h16
  obtain ⟨W1, hW1⟩ : ∃ W1, W1 = w.alloc (.cells #[.int .u32 0, .int .u32 0, .int .u16 0, .int .u16 0, .int .u32 0, .slice none 0 0] 95) := ⟨_, rfl⟩
  have b1 : Below w.heap.size w W1 := by rw [hW1]; exact (Below.refl _ _).alloc (Nat.le_refl _) _
  have s1 := Stc.new w [.int .u32 0, .int .u32 0, .int .u16 0, .int .u16 0, .int .u32 0, .slice none 0 0] 95 W1 hW1
  have hz := zero_iv
  have HU0 : Hid (RuS W0 w q (zs.drop 0) sh W1 ∧ Stc W1 w.heap.size [.int .u32 0, .int .u32 0, .int .u16 0, .int .u16 0, .int .u32 0, .slice none 0 0]) := ⟨⟨h.below b1, Fr.of_below b1⟩, s1⟩
  clear h b1 s1
  obtain ⟨n1, hn1⟩ : ∃ n1, n1 = numB (zs.take 4) := ⟨_, rfl⟩
  obtain ⟨n2, hn2⟩ : ∃ n2, n2 = numB ((zs.drop 4).take 4) := ⟨_, rfl⟩
  obtain ⟨n3, hn3⟩ : ∃ n3, n3 = numB ((zs.drop 8).take 2) := ⟨_, rfl⟩
  obtain ⟨n4, hn4⟩ : ∃ n4, n4 = numB ((zs.drop 10).take 2) := ⟨_, rfl⟩
  obtain ⟨n5, hn5⟩ : ∃ n5, n5 = numB ((zs.drop 12).take 4) := ⟨_, rfl⟩
  rw [← hn1, ← hn2, ← hn3, ← hn4, ← hn5]
  have HNN := (show Hid _ from And.intro hn1 (And.intro hn2 (And.intro hn3 (And.intro hn4 hn5))))
  clear hn1 hn2 hn3 hn4 hn5
  have HN := (show Hid _ from rword_any HU0.out.1.rd (by rw [List.length_drop]; omega))
  rw [List.drop_zero] at HN
  rw [← HNN.out.1] at HN
  go_enter Tryd.func65, Tryd.ntmps65
  go_wp2_with fail
  rw [← hW1]
  clear hW1 hz
  refine Calls.mono HN.out ?_
  clear HN
  rintro e v0 hP
  have he := hP.out
  subst he
  obtain ⟨hu, s1⟩ := HU0.out
  replace s1 := s1.fr hP.fr (by omega)
  replace hu := hu.next hP
  skip
  have f0 := s1.free 0
  have c0 := s1.cell 0 _ rfl
  have hf := Fr.setCell (fun k => k = w.heap.size) v0 ⟨w.heap.size, 0, none⟩ (.int .u32 (n1 : Nat)) rfl
  obtain ⟨w1, hw1⟩ : ∃ w1, w1 = v0.setCell ⟨w.heap.size, 0, none⟩ (.int .u32 (n1 : Nat)) := ⟨_, rfl⟩
  have HU1 : Hid (RuS W0 w q (zs.drop 4) sh w1 ∧ Stc w1 w.heap.size [.int .u32 (n1 : Nat), .int .u32 0, .int .u16 0, .int .u16 0, .int .u32 0, .slice none 0 0]) := by
    rw [hw1]
    exact ⟨hu.own (Nat.le_refl _) hql (by omega) hf, s1.set 0 _⟩
  clear HU0 hP hu s1 hf
  have HN := (show Hid _ from rword_any HU1.out.1.rd (by rw [List.length_drop]; omega))
  rw [← HNN.out.2.1] at HN
  go_wp2_with fail
  rw [← hw1]
  clear hw1 f0 c0
  refine Calls.mono HN.out ?_
  clear HN
  rintro e v1 hP
  have he := hP.out
  subst he
  obtain ⟨hu, s1⟩ := HU1.out
  replace s1 := s1.fr hP.fr (by omega)
  replace hu := hu.next hP
  rw [List.drop_drop] at hu
  have f0 := s1.free 1
  have c0 := s1.cell 1 _ rfl
  have hf := Fr.setCell (fun k => k = w.heap.size) v1 ⟨w.heap.size, 1, none⟩ (.int .u32 (n2 : Nat)) rfl
  obtain ⟨w2, hw2⟩ : ∃ w2, w2 = v1.setCell ⟨w.heap.size, 1, none⟩ (.int .u32 (n2 : Nat)) := ⟨_, rfl⟩
  have HU2 : Hid (RuS W0 w q (zs.drop 8) sh w2 ∧ Stc w2 w.heap.size [.int .u32 (n1 : Nat), .int .u32 (n2 : Nat), .int .u16 0, .int .u16 0, .int .u32 0, .slice none 0 0]) := by
    rw [hw2]
    exact ⟨hu.own (Nat.le_refl _) hql (by omega) hf, s1.set 1 _⟩
  clear HU1 hP hu s1 hf
  have HN := (show Hid _ from rhalf_any HU2.out.1.rd (by rw [List.length_drop]; omega))
  rw [← HNN.out.2.2.1] at HN
  go_wp2_with fail
  rw [← hw2]
  clear hw2 f0 c0
  refine Calls.mono HN.out ?_
  clear HN
  rintro e v2 hP
  have he := hP.out
  subst he
  obtain ⟨hu, s1⟩ := HU2.out
  replace s1 := s1.fr hP.fr (by omega)
  replace hu := hu.next hP
  rw [List.drop_drop] at hu
  have f0 := s1.free 2
  have c0 := s1.cell 2 _ rfl
  have hf := Fr.setCell (fun k => k = w.heap.size) v2 ⟨w.heap.size, 2, none⟩ (.int .u16 (n3 : Nat)) rfl
  obtain ⟨w3, hw3⟩ : ∃ w3, w3 = v2.setCell ⟨w.heap.size, 2, none⟩ (.int .u16 (n3 : Nat)) := ⟨_, rfl⟩
  have HU3 : Hid (RuS W0 w q (zs.drop 10) sh w3 ∧ Stc w3 w.heap.size [.int .u32 (n1 : Nat), .int .u32 (n2 : Nat), .int .u16 (n3 : Nat), .int .u16 0, .int .u32 0, .slice none 0 0]) := by
    rw [hw3]
    exact ⟨hu.own (Nat.le_refl _) hql (by omega) hf, s1.set 2 _⟩
  clear HU2 hP hu s1 hf
  have HN := (show Hid _ from rhalf_any HU3.out.1.rd (by rw [List.length_drop]; omega))
  rw [← HNN.out.2.2.2.1] at HN
  go_wp2_with fail
  rw [← hw3]
  clear hw3 f0 c0
  refine Calls.mono HN.out ?_
  clear HN
  rintro e v3 hP
  have he := hP.out
  subst he
  obtain ⟨hu, s1⟩ := HU3.out
  replace s1 := s1.fr hP.fr (by omega)
  replace hu := hu.next hP
  rw [List.drop_drop] at hu
  have f0 := s1.free 3
  have c0 := s1.cell 3 _ rfl
  have hf := Fr.setCell (fun k => k = w.heap.size) v3 ⟨w.heap.size, 3, none⟩ (.int .u16 (n4 : Nat)) rfl
  obtain ⟨w4, hw4⟩ : ∃ w4, w4 = v3.setCell ⟨w.heap.size, 3, none⟩ (.int .u16 (n4 : Nat)) := ⟨_, rfl⟩
  have HU4 : Hid (RuS W0 w q (zs.drop 12) sh w4 ∧ Stc w4 w.heap.size [.int .u32 (n1 : Nat), .int .u32 (n2 : Nat), .int .u16 (n3 : Nat), .int .u16 (n4 : Nat), .int .u32 0, .slice none 0 0]) := by
    rw [hw4]
    exact ⟨hu.own (Nat.le_refl _) hql (by omega) hf, s1.set 3 _⟩
  clear HU3 hP hu s1 hf
  have HN := (show Hid _ from rword_any HU4.out.1.rd (by rw [List.length_drop]; omega))
  rw [← HNN.out.2.2.2.2] at HN
  go_wp2_with fail
  rw [← hw4]
  clear hw4 f0 c0
  refine Calls.mono HN.out ?_
  clear HN
  rintro e v4 hP
  have he := hP.out
  subst he
  obtain ⟨hu, s1⟩ := HU4.out
  replace s1 := s1.fr hP.fr (by omega)
  replace hu := hu.next hP
  rw [List.drop_drop] at hu
  have f0 := s1.free 4
  have c0 := s1.cell 4 _ rfl
  have hf := Fr.setCell (fun k => k = w.heap.size) v4 ⟨w.heap.size, 4, none⟩ (.int .u32 (n5 : Nat)) rfl
  obtain ⟨w5, hw5⟩ : ∃ w5, w5 = v4.setCell ⟨w.heap.size, 4, none⟩ (.int .u32 (n5 : Nat)) := ⟨_, rfl⟩
  have HU5 : Hid (RuS W0 w q (zs.drop 16) sh w5 ∧ Stc w5 w.heap.size [.int .u32 (n1 : Nat), .int .u32 (n2 : Nat), .int .u16 (n3 : Nat), .int .u16 (n4 : Nat), .int .u32 (n5 : Nat), .slice none 0 0]) := by
    rw [hw5]
    exact ⟨hu.own (Nat.le_refl _) hql (by omega) hf, s1.set 4 _⟩
  clear HU4 hP hu s1 hf
  have HN := (show Hid _ from rparams_any ps (HPS.out.1 ▸ HU5.out.1.rd) HPS.out.2.1 HPS.out.2.2)
  go_wp2_with fail
  rw [← hw5]
  clear hw5 f0 c0
  refine Calls.mono HN.out ?_
  clear HN
  rintro e v5 hP
  obtain ⟨xa, xc, rfl, ho⟩ := hP.ex
  have s1 := HU5.out.2.fr hP.fr (by omega)
  have hwl := HU5.out.2.lt
  obtain ⟨xl, hxl⟩ : ∃ xl, xl = ps.length := ⟨_, rfl⟩
  have HX := (show Hid _ from hxl)
  rw [← hxl] at ho ⊢
  have f0 := s1.free 5
  have d0 := s1.cell 0 _ rfl
  have d1 := s1.cell 1 _ rfl
  have d2 := s1.cell 2 _ rfl
  have d3 := s1.cell 3 _ rfl
  have d4 := s1.cell 4 _ rfl
  have d5 := s1.cell 5 _ rfl
  have hf := Fr.setCell (fun k => k = w.heap.size) v5 ⟨w.heap.size, 5, none⟩ (.slice xa xl xc) rfl
  have hu6 : RuS W0 w q [] sh (v5.setCell ⟨w.heap.size, 5, none⟩ (.slice xa xl xc)) := (⟨hP.rd, HU5.out.1.fr.trans (hP.fr.mono (fun _ _ hk => .inl hk))⟩ : RuS W0 w q [] sh v5).own (Nat.le_refl _) hql (by omega) hf
  have HF : Hid (RdI W0 w q n1 n2 n3 n4 n5 ps sh (.returned (.iface 95 (.agg #[.int .u32 (n1 : Nat), .int .u32 (n2 : Nat), .int .u16 (n3 : Nat), .int .u16 (n4 : Nat), .int .u32 (n5 : Nat), .slice xa xl xc]))) (v5.setCell ⟨w.heap.size, 5, none⟩ (.slice xa xl xc))) := by
    have hd := hu6.done (v := .tuple #[]) (e := .returned (.tuple #[])) rfl
    refine ⟨⟨xa, xc, by rw [hxl], ?_⟩, hd.rd, hd.fr⟩
    rw [← hxl]
    exact (ho.fr hf (fun g hg _ e => by have : g = w.heap.size := e; omega)).base (Nat.le_of_lt hwl)
  clear ho hP HU5 s1 hf hu6 hxl
  go_wp2
  go_ret
  exact HF.out
set_option linter.unusedVariables false in
set_option maxRecDepth 100000 in
set_option maxHeartbeats 4000000 in
theorem rvalue_init {W0 w : World} {q : Nat} {zs : List Nat} {sh : Int} (h : RdW W0 w q zs sh) (kind : Nat) (hk : kind = 1 ∨ kind = 2) (hz16 : 16 ≤ zs.length) (ps : List Pm) (h16 : ps.length ≤ 16) (hpk : ∀ p ∈ ps, p.k < 65536 ∧ p.zs.length ≤ 2000) (hps : zs.drop 16 = pmsV ps) :
    Calls Tryd.prog 62 #[.pointer (some ⟨q, 0, none⟩), .int .u8 (kind : Nat)] w (RdI W0 w q (numB (zs.take 4)) (numB ((zs.drop 4).take 4)) (numB ((zs.drop 8).take 2)) (numB ((zs.drop 10).take 2)) (numB ((zs.drop 12).take 4)) ps sh) := by
  have HV : Hid (Calls Tryd.prog 26 #[.agg #[.int .u8 (kind : Nat), .int .u8 0, .int .u32 0, .int .u16 0, .int .u16 0, .int .u32 0, .int .u32 0, .int .u32 0, .int .u16 0, .int .u16 0, .slice none 0 0, .slice none 0 0, .slice none 0 0, .slice none 0 0]] w fun e w' => e = .returned (.iface 95 (.agg #[.int .u32 0, .int .u32 0, .int .u16 0, .int .u16 0, .int .u32 0, .slice none 0 0])) ∧ Below w.heap.size w w') := valueOf_init kind 0 0 0 0 0 0 0 0 0 none 0 0 none 0 0 none 0 0 none 0 0 w hk
  have t0 := fun (v : Value) (w : World) => ta_no_st 95 92 _ (.agg #[.int .u32 0, .int .u16 0, .int .u16 0, .int .u32 0, .slice none 0 0]) v Tryd.underlying92 (by kernel_rfl) (by decide) w
  have t1 := fun (v : Value) (w : World) => ta_yes_st 95 _ v Tryd.underlying95 w
  have HR := (show Hid _ from h)
  clear h hk
  go_enter Tryd.func62, Tryd.ntmps62
  go_wp2_with fail
  refine Calls.mono HV.out ?_
  clear HV
  rintro e w1 ⟨rfl, b1⟩
  obtain ⟨Wx, hWx⟩ : ∃ Wx, Wx = w1.alloc (.cells #[.int .u32 0, .int .u32 0, .int .u16 0, .int .u16 0, .int .u32 0, .slice none 0 0] 95) := ⟨_, rfl⟩
  have bx : Below w1.heap.size w1 Wx := by rw [hWx]; exact (Below.refl _ _).alloc (Nat.le_refl _) _
  have b1x : Below w.heap.size w Wx := b1.trans (bx.mono b1.size)
  have HD := (show Hid _ from rinit_any ps (HR.out.below b1x) hz16 hps h16 hpk)
  have HB := (show Hid _ from b1x)
  clear b1 bx b1x hps hpk
  go_wp2_with fail
  rw [← hWx]
  clear hWx
  refine Calls.mono HD.out ?_
  clear HD
  rintro e w2 hP
  obtain ⟨xa, xc, rfl, ho⟩ := hP.ex
  have HF : Hid (RdI W0 w q (numB (zs.take 4)) (numB ((zs.drop 4).take 4)) (numB ((zs.drop 8).take 2)) (numB ((zs.drop 10).take 2)) (numB ((zs.drop 12).take 4)) ps sh _ w2) := ⟨⟨xa, xc, rfl, ho.base HB.out.size⟩, hP.rd, (Fr.of_below HB.out).trans hP.fr⟩
  clear ho hP
  generalize numB (zs.take 4) = m1 at *
  generalize numB ((zs.drop 4).take 4) = m2 at *
  generalize numB ((zs.drop 8).take 2) = m3 at *
  generalize numB ((zs.drop 10).take 2) = m4 at *
  generalize numB ((zs.drop 12).take 4) = m5 at *
  generalize ps.length = xl at *
  go_wp2
  go_ret
  exact HF.out
structure RdQ (W0 w : World) (q : Nat) (ps : List Pm) (sh : Int) (e : Ending) (w' : World) : Prop where
  ex : ∃ xa xc, e = .returned (.iface 93 (.slice xa ps.length xc)) ∧ PmO w' w.heap.size xa ps.length xc ps
  rd : RdW W0 w' q [] sh
  fr : Fr (fun k => k = q) w w'
set_option linter.unusedVariables false in
set_option maxRecDepth 100000 in
set_option maxHeartbeats 4000000 in
theorem rvalue_prms {W0 w : World} {q : Nat} {zs : List Nat} {sh : Int} (h : RdW W0 w q zs sh) (kind : Nat) (hk : kind = 4 ∨ kind = 5 ∨ kind = 6 ∨ kind = 9) (ps : List Pm) (h16 : ps.length ≤ 16) (hpk : ∀ p ∈ ps, p.k < 65536 ∧ p.zs.length ≤ 2000) (hps : zs = pmsV ps) :
    Calls Tryd.prog 62 #[.pointer (some ⟨q, 0, none⟩), .int .u8 (kind : Nat)] w (RdQ W0 w q ps sh) := by
  have HV : Hid (Calls Tryd.prog 26 #[.agg #[.int .u8 (kind : Nat), .int .u8 0, .int .u32 0, .int .u16 0, .int .u16 0, .int .u32 0, .int .u32 0, .int .u32 0, .int .u16 0, .int .u16 0, .slice none 0 0, .slice none 0 0, .slice none 0 0, .slice none 0 0]] w fun e w' => e = .returned (.iface 93 (.slice none 0 0)) ∧ Below w.heap.size w w') := valueOf_prms kind 0 0 0 0 0 0 0 0 0 none 0 0 none 0 0 none 0 0 none 0 0 w hk
  have t0 := fun (v : Value) (w : World) => ta_no_st 93 92 _ (.agg #[.int .u32 0, .int .u16 0, .int .u16 0, .int .u32 0, .slice none 0 0]) v Tryd.underlying92 (by kernel_rfl) (by decide) w
  have t1 := fun (v : Value) (w : World) => ta_no_st 93 95 _ (.agg #[.int .u32 0, .int .u32 0, .int .u16 0, .int .u16 0, .int .u32 0, .slice none 0 0]) v Tryd.underlying95 (by kernel_rfl) (by decide) w
  have t2 := fun (v : Value) (w : World) => ta_no_st 93 97 _ (.agg #[.int .u32 0, .int .u32 0, .slice none 0 0, .slice none 0 0]) v Tryd.underlying97 (by kernel_rfl) (by decide) w
  have t3 := fun (v : Value) (w : World) => ta_yes_sl 93 _ v Tryd.underlying93 w
  have HR := (show Hid _ from h)
  clear h hk
  go_enter Tryd.func62, Tryd.ntmps62
  go_wp2_with fail
  refine Calls.mono HV.out ?_
  clear HV
  rintro e w1 ⟨rfl, b1⟩
  have HD := (show Hid _ from rparams_any ps (hps ▸ HR.out.below b1) h16 hpk)
  have HB := (show Hid _ from b1)
  clear b1 hps hpk
  go_wp2_with fail
  refine Calls.mono HD.out ?_
  clear HD
  rintro e w2 hP
  obtain ⟨xa, xc, rfl, ho⟩ := hP.ex
  have HF : Hid (RdQ W0 w q ps sh (.returned (.iface 93 (.slice xa ps.length xc))) w2) := ⟨⟨xa, xc, rfl, ho.base HB.out.size⟩, hP.rd, (Fr.of_below HB.out).trans hP.fr⟩
  clear ho hP
  generalize ps.length = xl at *
  go_wp2
  go_ret
  exact HF.out
end Go.Proofs.YtlgfbcfogcmdbaaDoor
