/- chunk's reader: a chunk that has nothing; chunks, one behind the other. -/
import Derived.Test.YtifdfkkjmjabnaaDoorRd2
import Derived.Test.YtifdfkkjmjabnaaDoorOwnG
namespace Go.Proofs.YtifdfkkjmjabnaaDoor
open Go.RowKit
set_option linter.unusedVariables false in
set_option maxRecDepth 100000 in
set_option maxHeartbeats 4000000 in
theorem rvalue_none (q kind : Nat) (w : World) (hk : kind = 8 ∨ kind = 11 ∨ kind = 14) :
    Calls Tryd.prog 75 #[.pointer (some ⟨q, 0, none⟩), .int .u8 (kind : Nat)] w fun e w' => e = .returned (.iface 87 (.agg #[])) ∧ Below w.heap.size w w' := by
  have HV : Hid (Calls Tryd.prog 20 #[.agg #[.int .u8 (kind : Nat), .int .u8 0, .int .u32 0, .int .u16 0, .int .u16 0, .int .u32 0, .int .u32 0, .int .u32 0, .int .u16 0, .int .u16 0, .slice none 0 0, .slice none 0 0, .slice none 0 0, .slice none 0 0]] w fun e w' => e = .returned (.iface 87 (.agg #[])) ∧ Below w.heap.size w w') := valueOf_none kind 0 0 0 0 0 0 0 0 0 none 0 0 none 0 0 none 0 0 none 0 0 w hk
  have tdata := fun (v : Value) (w : World) => ta_no_st 87 79 _ (.agg #[.int .u32 0, .int .u16 0, .int .u16 0, .int .u32 0, .slice none 0 0]) v Tryd.underlying79 (by kernel_rfl) (by decide) w
  have tinit := fun (v : Value) (w : World) => ta_no_st 87 82 _ (.agg #[.int .u32 0, .int .u32 0, .int .u16 0, .int .u16 0, .int .u32 0, .slice none 0 0]) v Tryd.underlying82 (by kernel_rfl) (by decide) w
  have tsack := fun (v : Value) (w : World) => ta_no_st 87 84 _ (.agg #[.int .u32 0, .int .u32 0, .slice none 0 0, .slice none 0 0]) v Tryd.underlying84 (by kernel_rfl) (by decide) w
  have tprms := fun (v : Value) (w : World) => ta_no_sl 87 80 _ (.slice none 0 0) v Tryd.underlying80 (by kernel_rfl) (by decide) w
  have ttsnv := fun (v : Value) (w : World) => ta_no_in 87 85 _ (.int .u32 0) v Tryd.underlying85 (by kernel_rfl) (by decide) w
  have traw := fun (v : Value) (w : World) => ta_no_sl 87 88 _ (.slice none 0 0) v Tryd.underlying88 (by kernel_rfl) (by decide) w
  go_enter Tryd.func75, Tryd.ntmps75
  go_wp2_with fail
  refine Calls.mono HV.out ?_
  rintro e w1 ⟨rfl, b1⟩
  have HB := (show Hid _ from b1)
  clear b1 HV
  go_wp2
  go_ret
  exact ⟨rfl, HB.out⟩
theorem zero_ch14R (w : World) : (zeroValue 29).run Tryd.prog w = .ok (.agg #[.int .u8 0, .int .u8 0, .int .u32 0, .int .u16 0, .int .u16 0, .int .u32 0, .int .u32 0, .int .u32 0, .int .u16 0, .int .u16 0, .slice none 0 0, .slice none 0 0, .slice none 0 0, .slice none 0 0]) w := by kernel_rfl
theorem ch_size14R (cs : List Value) (h : cs.length = 14) : (Tryd.prog.info? 29).map (·.size) = some cs.length := by
  rw [h]
  kernel_rfl
set_option linter.unusedVariables false in
set_option maxRecDepth 100000 in
set_option maxHeartbeats 4000000 in
theorem rchunk_none {W0 w : World} {q : Nat} {rest : List Nat} {sh : Int} (kind flags : Nat) (h : RdW W0 w q (kind :: flags :: 0 :: 4 :: rest) sh) (ahead : Nat) (ha : ahead < 32) (hk : kind = 8 ∨ kind = 11 ∨ kind = 14) (hf : flags < 256) :
    Calls Tryd.prog 70 #[.pointer (some ⟨q, 0, none⟩), .int .i64 (ahead : Nat)] w (RdP W0 w q (.agg #[.int .u8 (kind : Nat), .int .u8 (flags : Nat), .int .u32 0, .int .u16 0, .int .u16 0, .int .u32 0, .int .u32 0, .int .u32 0, .int .u16 0, .int .u16 0, .slice none 0 0, .slice none 0 0, .slice none 0 0, .slice none 0 0]) rest sh) := by
  have hk256 : kind < 256 := by omega
  have hql := h.lt
  have hWq := h.old
  have ha1 : (ahead : Int) < 32 := by omega
  obtain ⟨W1, hW1⟩ : ∃ W1, W1 = w.alloc (.cells #[.int .u8 0, .int .u8 0, .int .u32 0, .int .u16 0, .int .u16 0, .int .u32 0, .int .u32 0, .int .u32 0, .int .u16 0, .int .u16 0, .slice none 0 0, .slice none 0 0, .slice none 0 0, .slice none 0 0] 29) := ⟨_, rfl⟩
  have b1 : Below w.heap.size w W1 := by rw [hW1]; exact (Below.refl _ _).alloc (Nat.le_refl _) _
  have s1 := Stc.new w [.int .u8 0, .int .u8 0, .int .u32 0, .int .u16 0, .int .u16 0, .int .u32 0, .int .u32 0, .int .u32 0, .int .u16 0, .int .u16 0, .slice none 0 0, .slice none 0 0, .slice none 0 0, .slice none 0 0] 29 W1 hW1
  have HU : Hid (RuS W0 w q (kind :: flags :: 0 :: 4 :: rest) sh W1 ∧ Stc W1 w.heap.size [.int .u8 0, .int .u8 0, .int .u32 0, .int .u16 0, .int .u16 0, .int .u32 0, .int .u32 0, .int .u32 0, .int .u16 0, .int .u16 0, .slice none 0 0, .slice none 0 0, .slice none 0 0, .slice none 0 0]) := ⟨⟨h.below b1, Fr.of_below b1⟩, s1⟩
  have hz := zero_ch14R w
  have HN := (show Hid _ from rnum_any HU.out.1.rd 1 (by simp) (by decide) (by decide))
  have e1 : numB (List.take 1 (kind :: flags :: 0 :: 4 :: rest)) = kind := by simp [numB]
  have e1d : List.drop 1 (kind :: flags :: 0 :: 4 :: rest) = flags :: 0 :: 4 :: rest := rfl
  rw [e1, e1d] at HN
  have hwk : IntKind.u8.wrap (kind : Int) = kind := by rw [IntKind.wrap_u8]; omega
  have hwf : IntKind.u8.wrap (flags : Int) = flags := by rw [IntKind.wrap_u8]; omega
  clear h b1 s1 e1 e1d
  go_enter Tryd.func70, Tryd.ntmps70
  go_wp2_with fail
  rw [← hW1]
  clear hW1 hz
  refine Calls.mono HN.out ?_
  clear HN
  rintro e w2 hP
  have he := hP.out
  subst he
  have HU2 : Hid (RuS W0 w q (flags :: 0 :: 4 :: rest) sh w2 ∧ Stc w2 w.heap.size [.int .u8 0, .int .u8 0, .int .u32 0, .int .u16 0, .int .u16 0, .int .u32 0, .int .u32 0, .int .u32 0, .int .u16 0, .int .u16 0, .slice none 0 0, .slice none 0 0, .slice none 0 0, .slice none 0 0]) := ⟨HU.out.1.next hP, HU.out.2.fr hP.fr (by omega)⟩
  have HN := (show Hid _ from rnum_any HU2.out.1.rd 1 (by simp) (by decide) (by decide))
  have e1 : numB (List.take 1 (flags :: 0 :: 4 :: rest)) = flags := by simp [numB]
  have e1d : List.drop 1 (flags :: 0 :: 4 :: rest) = 0 :: 4 :: rest := rfl
  rw [e1, e1d] at HN
  clear HU hP e1 e1d
  go_wp2_with fail
  refine Calls.mono HN.out ?_
  clear HN
  rintro e w3 hP
  have he := hP.out
  subst he
  have HU3 : Hid (RuS W0 w q (0 :: 4 :: rest) sh w3 ∧ Stc w3 w.heap.size [.int .u8 0, .int .u8 0, .int .u32 0, .int .u16 0, .int .u16 0, .int .u32 0, .int .u32 0, .int .u32 0, .int .u16 0, .int .u16 0, .slice none 0 0, .slice none 0 0, .slice none 0 0, .slice none 0 0]) := ⟨HU2.out.1.next hP, HU2.out.2.fr hP.fr (by omega)⟩
  have HN := (show Hid _ from rlen_any HU3.out.1.rd (by simp) 0 (by simp [numB]))
  have e1d : List.drop 2 (0 :: 4 :: rest) = rest := rfl
  rw [e1d] at HN
  clear HU2 hP e1d
  go_wp2_with fail
  refine Calls.mono HN.out ?_
  clear HN hwk hwf
  rintro e w4 hP
  have he := hP.out
  subst he
  have HU4 : Hid (RuS W0 w q rest sh w4 ∧ Stc w4 w.heap.size [.int .u8 0, .int .u8 0, .int .u32 0, .int .u16 0, .int .u16 0, .int .u32 0, .int .u32 0, .int .u32 0, .int .u16 0, .int .u16 0, .slice none 0 0, .slice none 0 0, .slice none 0 0, .slice none 0 0]) := ⟨HU3.out.1.next hP, HU3.out.2.fr hP.fr (by omega)⟩
  have HN := (show Hid _ from rcut_any HU4.out.1.rd 0 (by simp))
  have e1d : List.drop 0 rest = rest := rfl
  clear HU3 hP
  go_wp2_with fail
  refine Calls.mono HN.out ?_
  clear HN
  rintro e w5 hP
  obtain ⟨cb, co, cc, rfl, _⟩ := hP.ex
  have hrd5 := hP.rd
  rw [e1d] at hrd5
  have HU5 : Hid (RuS W0 w q rest sh w5 ∧ Stc w5 w.heap.size [.int .u8 0, .int .u8 0, .int .u32 0, .int .u16 0, .int .u16 0, .int .u32 0, .int .u32 0, .int .u32 0, .int .u16 0, .int .u16 0, .slice none 0 0, .slice none 0 0, .slice none 0 0, .slice none 0 0]) := ⟨⟨hrd5, HU4.out.1.fr.trans (hP.fr.mono (fun _ _ hk => .inl hk))⟩, HU4.out.2.fr hP.fr (by omega)⟩
  obtain ⟨w6, hw6⟩ : ∃ w6, w6 = w5.alloc (.cells #[.slice (some ⟨cb, co, none⟩) 0 cc, .int .i64 4] 105) := ⟨_, rfl⟩
  have b6 : Below w5.heap.size w5 w6 := by rw [hw6]; exact (Below.refl _ _).alloc (Nat.le_refl _) _
  have sx := Stc.new w5 [.slice (some ⟨cb, co, none⟩) 0 cc, .int .i64 4] 105 w6 hw6
  obtain ⟨x, hx⟩ : ∃ x, x = w5.heap.size := ⟨_, rfl⟩
  rw [← hx] at sx
  have hxw : w.heap.size < x := by rw [hx]; exact HU5.out.2.lt
  have HU6 : Hid (RuS W0 w q rest sh w6 ∧ Stc w6 w.heap.size [.int .u8 0, .int .u8 0, .int .u32 0, .int .u16 0, .int .u16 0, .int .u32 0, .int .u32 0, .int .u32 0, .int .u16 0, .int .u16 0, .slice none 0 0, .slice none 0 0, .slice none 0 0, .slice none 0 0] ∧ Stc w6 x [.slice (some ⟨cb, co, none⟩) 0 cc, .int .i64 4]) := ⟨HU5.out.1.below b6, HU5.out.2.below b6, sx⟩
  clear HU4 HU5 hP hrd5 b6 sx
  have HPD := (show Hid _ from fun W => padding_any 0 W (by omega) _ rfl)
  go_wp2_with fail
  rw [← hw6, ← hx]
  clear hw6 hx
  refine Calls.mono (HPD.out w6) ?_
  rintro e w7 ⟨rfl, hw7⟩
  subst hw7
  have hp0 : padN 0 = 0 := rfl
  rw [hp0]
  have HN := (show Hid _ from rcut_any HU6.out.1.rd 0 (by simp))
  clear HPD hp0
  go_wp2_with fail
  refine Calls.mono HN.out ?_
  clear HN
  rintro e w8 hP
  obtain ⟨cb2, co2, cc2, rfl, _⟩ := hP.ex
  have hrd8 := hP.rd
  rw [e1d] at hrd8
  have HU8 : Hid (RuS W0 w q rest sh w8 ∧ Stc w8 w.heap.size [.int .u8 0, .int .u8 0, .int .u32 0, .int .u16 0, .int .u16 0, .int .u32 0, .int .u32 0, .int .u32 0, .int .u16 0, .int .u16 0, .slice none 0 0, .slice none 0 0, .slice none 0 0, .slice none 0 0] ∧ Stc w8 x [.slice (some ⟨cb, co, none⟩) 0 cc, .int .i64 4]) := ⟨⟨hrd8, HU6.out.1.fr.trans (hP.fr.mono (fun _ _ hk => .inl hk))⟩, HU6.out.2.1.fr hP.fr (by omega), HU6.out.2.2.fr hP.fr (by omega)⟩
  clear HU6 hP hrd8
  go_wp2_with fail
  refine Calls.mono (must_yes 6 w8) ?_
  rintro e w9 ⟨rfl, hw9⟩
  subst hw9
  have HVN := (show Hid _ from rvalue_none x kind w9 hk)
  go_wp2_with fail
  refine Calls.mono HVN.out ?_
  clear HVN
  rintro e wa ⟨rfl, ba⟩
  have HUa : Hid (RuS W0 w q rest sh wa ∧ Stc wa w.heap.size [.int .u8 0, .int .u8 0, .int .u32 0, .int .u16 0, .int .u16 0, .int .u32 0, .int .u32 0, .int .u32 0, .int .u16 0, .int .u16 0, .slice none 0 0, .slice none 0 0, .slice none 0 0, .slice none 0 0] ∧ Stc wa x [.slice (some ⟨cb, co, none⟩) 0 cc, .int .i64 4]) := ⟨HU8.out.1.below ba, HU8.out.2.1.below ba, HU8.out.2.2.below ba⟩
  clear HU8 ba
  have d0 := HUa.out.2.2.cell 0 _ rfl
  have HLK := (show Hid _ from lacks_none kind flags 0 0 0 0 0 0 0 0 none 0 0 none 0 0 none 0 0 none 0 0 wa _ rfl)
  go_wp2_with fail
  refine Calls.mono HLK.out ?_
  clear HLK d0
  rintro e wb ⟨rfl, bb⟩
  have HUb : Hid (RuS W0 w q rest sh wb ∧ Stc wb w.heap.size [.int .u8 0, .int .u8 0, .int .u32 0, .int .u16 0, .int .u16 0, .int .u32 0, .int .u32 0, .int .u32 0, .int .u16 0, .int .u16 0, .slice none 0 0, .slice none 0 0, .slice none 0 0, .slice none 0 0]) := ⟨HUa.out.1.below bb, HUa.out.2.1.below bb⟩
  clear HUa bb
  go_wp2_with fail
  refine Calls.mono (must_yes 4 wb) ?_
  rintro e wc ⟨rfl, hwc⟩
  subst hwc
  have HMN := (show Hid _ from many_none kind flags 0 0 0 0 0 0 0 0 none 0 0 none 0 0 none 0 0 none 0 0 wc _ rfl)
  go_wp2_with fail
  refine Calls.mono HMN.out ?_
  clear HMN
  rintro e wd ⟨rfl, bd⟩
  have HUd : Hid (RuS W0 w q rest sh wd ∧ Stc wd w.heap.size [.int .u8 0, .int .u8 0, .int .u32 0, .int .u16 0, .int .u16 0, .int .u32 0, .int .u32 0, .int .u32 0, .int .u16 0, .int .u16 0, .slice none 0 0, .slice none 0 0, .slice none 0 0, .slice none 0 0]) := ⟨HUb.out.1.below bd, HUb.out.2.below bd⟩
  clear HUb bd
  go_wp2_with fail
  refine Calls.mono (must_yes 6 wd) ?_
  rintro e we ⟨rfl, hwe⟩
  subst hwe
  have HCO := (show Hid _ from chunkOf_none kind flags 0 0 0 0 0 0 0 0 none 0 0 none 0 0 none 0 0 none 0 0 we _ _ _ rfl rfl rfl)
  go_wp2_with fail
  refine Calls.mono HCO.out ?_
  clear HCO
  rintro e wf ⟨rfl, bf⟩
  obtain ⟨cs, hcs⟩ : ∃ cs : List Value, cs = [.int .u8 (kind : Nat), .int .u8 (flags : Nat), .int .u32 0, .int .u16 0, .int .u16 0, .int .u32 0, .int .u32 0, .int .u32 0, .int .u16 0, .int .u16 0, .slice none 0 0, .slice none 0 0, .slice none 0 0, .slice none 0 0] := ⟨_, rfl⟩
  have hcl : cs.length = 14 := by rw [hcs]; rfl
  have hone : ∀ u ∈ cs, u.oneCell' = true := by
    rw [hcs]
    intro v hv
    simp at hv
    rcases hv with rfl | rfl | rfl | rfl | rfl | rfl | rfl | rfl | rfl | rfl | rfl | rfl <;> rfl
  have hag : Value.agg #[.int .u8 (kind : Nat), .int .u8 (flags : Nat), .int .u32 0, .int .u16 0, .int .u16 0, .int .u32 0, .int .u32 0, .int .u32 0, .int .u16 0, .int .u16 0, .slice none 0 0, .slice none 0 0, .slice none 0 0, .slice none 0 0] = .agg cs.toArray := by rw [hcs]
  rw [hag]
  have s := HUd.out.2.below bf
  have hth : wf.there w.heap.size 0 cs.toArray.size := by
    have e : cs.toArray.size = 14 := by simp [hcl]
    rw [e]
    exact s.there
  have hi14 := ch_size14R cs hcl
  have hi14' : (Tryd.prog.info? 29).map (·.size) = some cs.toArray.size := by rw [List.size_toArray]; exact hi14
  have hput := s.put cs (by rw [hcl]; rfl)
  have hff := fr_setCellsX w.heap.size cs 0 wf
  have HF := (show Hid _ from And.intro (((HUd.out.1.below bf).own (Nat.le_refl _) hql (by omega) hff)) hput)
  have HCS := (show Hid _ from hcs)
  clear HUd bf s hput hff hag hcs
  go_wp2_with (first | (refine wpList_store_mid rfl 29 _ _ rfl w.heap.size 0 cs.toArray rfl rfl hth hi14' (all_oneCell_toArray hone) ?_; change wpList _ _ _ _ _ (wf.setCells w.heap.size 0 cs)) | fail)
  try simp only [Exit.inBlock, Exit.then]
  refine bodyPost_ret (results_cellE rfl _ _ w.heap.size 0 cs _ rfl HF.out.2.range Tryd.underlying29 rfl hi14) rfl ?_
  exact HF.out.1.done (by rw [HCS.out])
end Go.Proofs.YtifdfkkjmjabnaaDoor
