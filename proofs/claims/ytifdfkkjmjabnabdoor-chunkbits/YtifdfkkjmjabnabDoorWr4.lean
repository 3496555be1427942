/- chunk.Put over a row of chunks. -/
import Derived.Test.YtifdfkkjmjabnabDoorWr3
namespace Go.Proofs.YtifdfkkjmjabnabDoor
open Go.RowKit
def hdB (f t g : Nat) : List Nat := ((bytesB f 2 ++ bytesB t 2) ++ bytesB g 4) ++ bytesB 0 4
def catB (B : Nat → List Nat) : Nat → List Nat
  | 0 => []
  | k + 1 => catB B k ++ B k
theorem hdB_len (f t g : Nat) : (hdB f t g).length = 12 := by
  unfold hdB
  simp [bytesB_len]
theorem catB_len {B : Nat → List Nat} {S : Nat → Nat} : ∀ n, (∀ j, j < n → (B j).length = S j) → (catB B n).length = sumS S n
  | 0, _ => rfl
  | n + 1, h => by
    rw [catB, List.length_append, catB_len n (fun j hj => h j (by omega)), h n (by omega), sumS]
def putV (f t g : Nat) (E : Nat → Int) (S : Nat → Nat) (B : Nat → List Nat) (n : Nat) : List Nat := if mbE E S n = 0 then stampV (hdB f t g ++ catB B n) else []
theorem mbE_ok {E : Nat → Int} {S : Nat → Nat} {n : Nat} (h : mbE E S n = 0) : 1 ≤ n ∧ n ≤ 32 ∧ badE E n = 0 ∧ 12 + sumS S n ≤ 1480 := by
  unfold mbE at h
  split at h
  · cases h
  · split at h
    · cases h
    · split at h
      · rename_i h3; exact absurd h h3
      · rename_i h3
        split at h
        · cases h
        · exact ⟨by omega, by omega, by simpa using h3, by omega⟩
/-- What writes each chunk's bytes. -/
structure CkB (w : World) (n : Nat) (cf : Nat → List Value) (E : Nat → Int) (S : Nat → Nat) (B : Nat → List Nat) : Prop where
  ch : ∀ j, j < n → E j = 0 → ∀ W q zs, WrW W q (fun _ => False) zs → w.heap.size ≤ q → Below w.heap.size w W → zs.length % 4 = 0 → zs.length ≤ 100000 → Calls Tryd.prog 19 #[.pointer (some ⟨q, 0, none⟩), .agg (cf j).toArray] W (WrP W q (fun _ => False) (zs ++ B j))
  len : ∀ j, j < n → E j = 0 → (B j).length = S j
  four : ∀ j, j < n → E j = 0 → S j % 4 = 0
theorem sumS_four {S : Nat → Nat} : ∀ n, (∀ j, j < n → S j % 4 = 0) → sumS S n % 4 = 0
  | 0, _ => rfl
  | n + 1, h => by
    have h1 := sumS_four n (fun j hj => h j (by omega))
    have h2 := h n (by omega)
    rw [sumS]
    omega
theorem sumS_mono {S : Nat → Nat} {i n : Nat} (h : i ≤ n) : sumS S i ≤ sumS S n := by
  induction n with
  | zero => have : i = 0 := by omega
            subst this; exact Nat.le_refl _
  | succ n ih =>
    rcases Nat.lt_or_ge i (n + 1) with e | e
    · have := ih (by omega); rw [sumS]; omega
    · have : i = n + 1 := by omega
      subst this; exact Nat.le_refl _
structure PutR (w : World) (ys : List Nat) (er : Int) (e : Ending) (w' : World) : Prop where
  ex : ∃ a c, e = .returned (.tuple #[.slice a ys.length c, .int .i64 er]) ∧ OwnB w' w.heap.size a ys.length c ys
  bel : Below w.heap.size w w'
set_option linter.unusedVariables false in
set_option maxRecDepth 100000 in
set_option maxHeartbeats 8000000 in
theorem put_any {w : World} {a : Option Addr} {n c : Nat} {cf : Nat → List Value} {E : Nat → Int} {V : Nat → Value} {S : Nat → Nat} {B : Nat → List Nat} (h : CkR w a n c cf E V S) (hB : CkB w n cf E S B) (f t g : Nat) (hf : f < 65536) (ht : t < 65536) (hg : g < 4294967296) :
    Calls Tryd.prog 10 #[.agg #[.int .u16 (f : Nat), .int .u16 (t : Nat), .int .u32 (g : Nat)], .slice a n c] w (PutR w (putV f t g E S B n) (mbE E S n)) := by
  obtain ⟨W1, hW1⟩ : ∃ W1, W1 = w.alloc (.cells #[.int .u16 (f : Nat), .int .u16 (t : Nat), .int .u32 (g : Nat)] 28) := ⟨_, rfl⟩
  have bb1 : Below w.heap.size w W1 := by rw [hW1]; exact (Below.refl _ _).alloc (Nat.le_refl _) _
  have hst1 := Stc.new w [.int .u16 (f : Nat), .int .u16 (t : Nat), .int .u32 (g : Nat)] 28 W1 hW1
  have hR1 : CkR W1 a n c cf E V S := ⟨h.cap, h.small, h.len, h.one, h.at_.imp id (fun ⟨b, off, e1, e2, e3⟩ => ⟨b, off, e1, Nat.lt_of_lt_of_le e2 bb1.size, fun j hj => rangeAt_below (e3 j hj) bb1 e2⟩), fun j hj W hW => h.ck j hj W (bb1.trans (hW.mono bb1.size)), fun j hj he W hW => h.vl j hj he W (bb1.trans (hW.mono bb1.size)), fun j hj he W hW => h.sp j hj he W (bb1.trans (hW.mono bb1.size)), h.sb⟩
  have HMB := (show Hid _ from maybe_any hR1)
  have HH := (show Hid _ from And.intro h hB)
  have HS1 := (show Hid _ from And.intro hst1 bb1)
  have hcap := h.cap
  have hsm := h.small
  clear h hB hst1 bb1 hR1
  go_enter Tryd.func10, Tryd.ntmps10
  go_wp2_with fail
  rw [← hW1]
  clear hW1
  refine Calls.mono HMB.out ?_
  clear HMB
  rintro e w2 ⟨rfl, b2⟩
  obtain ⟨hst1, bb1⟩ := HS1.out
  have hst2 := hst1.below b2
  have hb2 : Below w.heap.size w w2 := bb1.trans (b2.mono bb1.size)
  by_cases hE : mbE E S n = 0
  · have HOK := (show Hid _ from mbE_ok hE)
    have HPV : Hid (putV f t g E S B n = stampV (hdB f t g ++ catB B n)) := by show _ = _; unfold putV; rw [if_pos hE]
    have gE : mbE E S n = 0 := hE
    obtain ⟨W3, hW3⟩ : ∃ W3, W3 = w2.alloc (.cells #[.slice none 0 0] 50) := ⟨_, rfl⟩
    have b3 : Below w2.heap.size w2 W3 := by rw [hW3]; exact (Below.refl _ _).alloc (Nat.le_refl _) _
    have hw3 := WrW.new w2 W3 50 hW3
    have hst3 := hst2.below b3
    obtain ⟨q, hq⟩ : ∃ q, q = w2.heap.size := ⟨_, rfl⟩
    rw [← hq] at hw3
    have hqw : w.heap.size + 1 ≤ q := by have := hst2.lt; omega
    have k0 := hst2.cell 0 _ rfl
    have hlw := hst2.lt
    have hlne : ¬ w.heap.size = w2.heap.size := by omega
    have HN := (show Hid _ from whalf_any hw3 f hf (by simp))
    have HS3 : Hid (Stc W3 w.heap.size [.int .u16 (f : Nat), .int .u16 (t : Nat), .int .u32 (g : Nat)] ∧ Below w.heap.size w W3) := ⟨hst3, hb2.trans (b3.mono hb2.size)⟩
    clear hE hst1 bb1 HS1 b2 hst2 hb2 b3 hw3 hst3
    go_wp2_with fail
    rw [← hW3, ← hq]
    clear hW3 hq k0 hlw hlne
    refine Calls.mono HN.out ?_
    clear HN
    rintro e w4 hP
    have he := hP.out
    subst he
    have hst4 := HS3.out.1.fr hP.fr (fun e => by omega)
    have hb4 : Below w.heap.size w w4 := HS3.out.2.trans (hP.fr.below _ HS3.out.2.size (fun k hk => by omega))
    have k1 := hst4.cell 1 _ rfl
    have HN := (show Hid _ from whalf_any hP.wr t ht (by simp [bytesB_len]))
    have HS4 := (show Hid _ from And.intro hst4 hb4)
    clear HS3 hst4 hb4 hP
    go_wp2_with fail
    refine Calls.mono HN.out ?_
    clear HN k1
    rintro e w5 hP
    have he := hP.out
    subst he
    have hst5 := HS4.out.1.fr hP.fr (fun e => by omega)
    have hb5 : Below w.heap.size w w5 := HS4.out.2.trans (hP.fr.below _ HS4.out.2.size (fun k hk => by omega))
    have k2 := hst5.cell 2 _ rfl
    have HN := (show Hid _ from wword_any hP.wr g hg (by simp [bytesB_len]))
    have HS5 := (show Hid _ from And.intro hst5 hb5)
    clear HS4 hst5 hb5 hP
    go_wp2_with fail
    refine Calls.mono HN.out ?_
    clear HN k2
    rintro e w6 hP
    have he := hP.out
    subst he
    have hb6 : Below w.heap.size w w6 := HS5.out.2.trans (hP.fr.below _ HS5.out.2.size (fun k hk => by omega))
    have HN := (show Hid _ from wnum_any hP.wr 0 4 (by decide) (by decide) (by decide) (by decide) (by simp [bytesB_len]))
    have HS6 := (show Hid _ from hb6)
    clear HS5 hb6 hP
    go_wp2_with fail
    refine Calls.mono HN.out ?_
    clear HN
    rintro e w7 hP
    have he := hP.out
    subst he
    have HS7 : Hid (WrW w7 q (fun _ => False) (hdB f t g ++ catB B 0) ∧ Below w.heap.size w w7) := ⟨by
      have := hP.wr
      rw [List.nil_append] at this
      show WrW w7 q (fun _ => False) (hdB f t g ++ [])
      rw [List.append_nil]
      exact this, HS6.out.trans (hP.fr.below _ HS6.out.size (fun k hk => by omega))⟩
    obtain ⟨b, off, hab, hbl, hrow⟩ : ∃ b off, a = some ⟨b, off, none⟩ ∧ b < w.heap.size ∧ ∀ j, j < n → w.rangeAt b (off + j * 14) (cf j) := by
      rcases HH.out.1.at_ with e | e
      · have := HOK.out.1; omega
      · exact e
    subst hab
    have HROW := (show Hid _ from hrow)
    clear hrow HS6 hP
    go_wp2
    go_loopw [27] (fun u27 wr => ∃ i : Nat, i ≤ n ∧ u27 = .int .i64 (i : Nat) ∧ WrW wr q (fun _ => False) (hdB f t g ++ catB B i) ∧ Below w.heap.size w wr) (fun u27 _ => n - (intOf u27).toNat)
    case atStart => exact ⟨0, by omega, rfl, HS7.out⟩
    case round =>
      obtain ⟨i, hin, rfl, hw, hbw⟩ := hrel
      have hlen : (hdB f t g ++ catB B i).length = 12 + sumS S i := by rw [List.length_append, hdB_len, catB_len i (fun j hj => HH.out.2.len j (by omega) (badE_ok HOK.out.2.2.1 j (by omega)))]
      have hsle := sumS_mono (S := S) hin
      have hs4 := sumS_four (S := S) i (fun j hj => HH.out.2.four j (by omega) (badE_ok HOK.out.2.2.1 j (by omega)))
      have hmax := HOK.out.2.2.2
      have HW := (show Hid _ from And.intro hw hbw)
      have hrg0 := fun hlt => rangeAt_below (HROW.out i hlt) hbw hbl
      clear HS7 hw hbw
      by_cases hlt : i < n
      · have hlt1 : (i : Int) < (n : Int) := by omega
        have hrg := hrg0 hlt
        obtain ⟨cs, hcs⟩ : ∃ cs, cs = cf i := ⟨_, rfl⟩
        have hcl : cs.length = 14 := by rw [hcs]; exact HH.out.1.len i hlt
        have hone : ∀ u ∈ cs, u.oneCell' = true := by rw [hcs]; exact HH.out.1.one i hlt
        rw [← hcs] at hrg
        obtain ⟨W2, hW2⟩ : ∃ W2, W2 = (wr.alloc (.cells #[.int .u8 0, .int .u8 0, .int .u32 0, .int .u16 0, .int .u16 0, .int .u32 0, .int .u32 0, .int .u32 0, .int .u16 0, .int .u16 0, .slice none 0 0, .slice none 0 0, .slice none 0 0, .slice none 0 0] 35)).setCells wr.heap.size 0 cs := ⟨_, rfl⟩
        obtain ⟨hth, hst2, hb2⟩ := laid14 wr W2 cs hcl hW2
        have hrg2 := hst2.range
        have hi14 := ch_size14 cs hcl
        have hi14' : (Tryd.prog.info? 35).map (·.size) = some cs.toArray.size := by rw [List.size_toArray]; exact hi14
        have hw2 := HW.out.1.below hb2
        have hbw2 : Below w.heap.size w W2 := HW.out.2.trans (hb2.mono HW.out.2.size)
        have HCH := (show Hid _ from HH.out.2.ch i hlt (badE_ok HOK.out.2.2.1 i hlt) W2 q _ hw2 (by omega) hbw2 (by omega) (by omega))
        rw [← hcs] at HCH
        have HB2 := (show Hid _ from hbw2)
        have hz := zero_ch14 wr
        clear hst2 hb2 hcs hw2 hbw2 hrg0
        go_wp2_with (first | (refine wpList_load_mid rfl 35 _ rfl b (off + i * 14) rfl cs _ hrg Tryd.underlying35 rfl hi14 ?_) | (refine wpList_store_mid rfl 35 _ _ rfl wr.heap.size 0 cs.toArray rfl rfl hth hi14' (all_oneCell_toArray hone) ?_; change wpList _ _ _ _ _ ((wr.alloc (.cells #[.int .u8 0, .int .u8 0, .int .u32 0, .int .u16 0, .int .u16 0, .int .u32 0, .int .u32 0, .int .u32 0, .int .u16 0, .int .u16 0, .slice none 0 0, .slice none 0 0, .slice none 0 0, .slice none 0 0] 35)).setCells wr.heap.size 0 cs); rw [← hW2]; clear hW2) | (refine wpList_load_mid rfl 35 _ rfl wr.heap.size 0 rfl cs _ hrg2 Tryd.underlying35 rfl hi14 ?_))
        refine Calls.mono HCH.out ?_
        clear HCH hrg hrg2 hz hth HW
        rintro e w8 hP
        have he := hP.out
        subst he
        have HW8 : Hid (WrW w8 q (fun _ => False) (hdB f t g ++ catB B (i + 1)) ∧ Below w.heap.size w w8) := ⟨by
          have := hP.wr
          rw [List.append_assoc] at this
          exact this, HB2.out.trans (hP.fr.below _ HB2.out.size (fun k hk => by omega))⟩
        clear hP HB2
        go_wp2
        go_roundw
        case rel => exact ⟨i + 1, by omega, by go_num, HW8.out⟩
        case measure => simp [intOf]; omega
      · have hlt1 : ¬ (i : Int) < (n : Int) := by omega
        have hien : i = n := by omega
        subst hien
        obtain ⟨oa, oc, hsq, hoq, _⟩ := HW.out.1.ex
        have k0 := hsq.cell 0 _ rfl
        have HST := (show Hid _ from stamp_any oa _ oc _ wr (hoq.sl (by omega)) (by omega))
        have HBW := (show Hid _ from HW.out.2)
        have hstE : stampE (hdB f t g ++ catB B i).length = 0 := by unfold stampE; rw [if_neg (by omega)]
        rw [hstE] at HST
        have hzl : (hdB f t g ++ catB B i).length ≤ 1480 := by omega
        have HPV2 := HPV
        clear HW hsq hoq hrg0 hlen hsle hs4 hmax hstE HPV hin hlt
        obtain ⟨zz, hzz⟩ : ∃ zz, zz = hdB f t g ++ catB B i := ⟨_, rfl⟩
        rw [← hzz] at k0 HST hzl HPV2
        clear hzz
        obtain ⟨zl, hzl2⟩ : ∃ zl, zl = zz.length := ⟨_, rfl⟩
        rw [← hzl2] at k0 HST hzl
        clear hzl2
        go_wp2_with fail
        refine Calls.mono HST.out ?_
        clear HST
        rintro e w9 ⟨sa, sc, rfl, hso, hsb⟩
        have HF : Hid (PutR w (putV f t g E S B i) 0 (.returned (.tuple #[.slice sa (stampV zz).length sc, .int .i64 0])) w9) := by
          rw [HPV2.out]
          exact ⟨⟨sa, sc, rfl, hso.base (by have := HBW.out.size; omega)⟩, HBW.out.trans (hsb.mono HBW.out.size)⟩
        clear hso hsb HPV2
        obtain ⟨sl, hsl⟩ : ∃ sl, sl = (stampV zz).length := ⟨_, rfl⟩
        rw [← hsl] at HF ⊢
        clear hsl
        go_wp2
        go_ret2
        rw [gE]
        exact HF.out
  · have HF : Hid (PutR w (putV f t g E S B n) (mbE E S n) (.returned (.tuple #[.slice none 0 0, .int .i64 (mbE E S n)])) w2) := by
      have e : putV f t g E S B n = [] := by unfold putV; rw [if_neg hE]
      rw [e]
      exact ⟨⟨none, 0, rfl, OwnB.nil _ _⟩, hb2⟩
    have gE : ¬ mbE E S n = 0 := hE
    clear hE hst1 bb1 HS1 b2 hst2 hb2
    generalize mbE E S n = me at *
    go_wp2
    go_ret2
    exact HF.out
end Go.Proofs.YtifdfkkjmjabnabDoor
