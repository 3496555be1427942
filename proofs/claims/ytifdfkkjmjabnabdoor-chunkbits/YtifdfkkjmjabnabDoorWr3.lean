/- chunk.mayBe and chunk.Put over a row of chunks, each by what is known of it. -/
import Derived.Test.YtifdfkkjmjabnabDoorWr2
import Derived.Test.YtifdfkkjmjabnabDoorStamp
namespace Go.Proofs.YtifdfkkjmjabnabDoor
open Go.RowKit
def sumS (S : Nat → Nat) : Nat → Nat
  | 0 => 0
  | k + 1 => sumS S k + S k
def badE (E : Nat → Int) : Nat → Int
  | 0 => 0
  | k + 1 => if badE E k ≠ 0 then badE E k else E k
def mbE (E : Nat → Int) (S : Nat → Nat) (n : Nat) : Int := if n = 0 then 2 else if 32 < n then 6 else if badE E n ≠ 0 then badE E n else if 1480 < 12 + sumS S n then 6 else 0
theorem badE_le {E : Nat → Int} {k : Nat} (h : badE E k ≠ 0) : ∀ d, badE E (k + d) = badE E k
  | 0 => rfl
  | d + 1 => by
    rw [← Nat.add_assoc, badE, badE_le h d, if_pos h]
theorem badE_ok {E : Nat → Int} : ∀ {k : Nat}, badE E k = 0 → ∀ j, j < k → E j = 0
  | 0, _, j, hj => (by omega)
  | k + 1, h, j, hj => by
    rw [badE] at h
    split at h
    · rename_i h2; exact absurd h h2
    · rename_i h2
      have h3 : badE E k = 0 := by simpa using h2
      rcases Nat.lt_or_ge j k with e | e
      · exact badE_ok h3 j e
      · have : j = k := by omega
        rw [this]; exact h
theorem sumS_le {S : Nat → Nat} {B : Nat} : ∀ n, (∀ j, j < n → S j ≤ B) → sumS S n ≤ n * B
  | 0, _ => by simp [sumS]
  | n + 1, h => by
    have h1 := sumS_le n (fun j hj => h j (by omega))
    have h2 := h n (by omega)
    rw [sumS, Nat.add_mul]
    omega
/-- A row of chunks, and what is known of each: what Check answers, its value, its size. -/
structure CkR (w : World) (a : Option Addr) (n c : Nat) (cf : Nat → List Value) (E : Nat → Int) (V : Nat → Value) (S : Nat → Nat) : Prop where
  cap : n ≤ c
  small : n ≤ 281474976710656
  len : ∀ j, j < n → (cf j).length = 14
  one : ∀ j, j < n → ∀ u ∈ cf j, u.oneCell' = true
  at_ : n = 0 ∨ ∃ b off, a = some ⟨b, off, none⟩ ∧ b < w.heap.size ∧ ∀ j, j < n → w.rangeAt b (off + j * 14) (cf j)
  ck : ∀ j, j < n → ∀ W, Below w.heap.size w W → Calls Tryd.prog 28 #[.agg (cf j).toArray] W fun e w' => e = .returned (.int .i64 (E j)) ∧ Below W.heap.size W w'
  vl : ∀ j, j < n → E j = 0 → ∀ W, Below w.heap.size w W → Calls Tryd.prog 30 #[.agg (cf j).toArray] W fun e w' => e = .returned (V j) ∧ Below W.heap.size W w'
  sp : ∀ j, j < n → E j = 0 → ∀ W, Below w.heap.size w W → Calls Tryd.prog 29 #[V j] W fun e w' => e = .returned (.int .i64 (S j : Nat)) ∧ Below W.heap.size W w'
  sb : ∀ j, j < n → E j = 0 → S j ≤ 1468
theorem rangeAt_below {w W : World} {b o : Nat} {cs : List Value} (h : w.rangeAt b o cs) (hb : Below w.heap.size w W) (hl : b < w.heap.size) : W.rangeAt b o cs := fun i u hu => (hb.cell (p := ⟨b, o + i, none⟩) hl).trans (h i u hu)
theorem zero_ch14 (w : World) : (zeroValue 35).run Tryd.prog w = .ok (.agg #[.int .u8 0, .int .u8 0, .int .u32 0, .int .u16 0, .int .u16 0, .int .u32 0, .int .u32 0, .int .u32 0, .int .u16 0, .int .u16 0, .slice none 0 0, .slice none 0 0, .slice none 0 0, .slice none 0 0]) w := by kernel_rfl
/-- A chunk laid into a variable of its own. -/
theorem laid14 (w W : World) (cs : List Value) (hl : cs.length = 14) (hW : W = (w.alloc (.cells #[.int .u8 0, .int .u8 0, .int .u32 0, .int .u16 0, .int .u16 0, .int .u32 0, .int .u32 0, .int .u32 0, .int .u16 0, .int .u16 0, .slice none 0 0, .slice none 0 0, .slice none 0 0, .slice none 0 0] 35)).setCells w.heap.size 0 cs) : (w.alloc (.cells #[.int .u8 0, .int .u8 0, .int .u32 0, .int .u16 0, .int .u16 0, .int .u32 0, .int .u32 0, .int .u32 0, .int .u16 0, .int .u16 0, .slice none 0 0, .slice none 0 0, .slice none 0 0, .slice none 0 0] 35)).there w.heap.size 0 cs.toArray.size ∧ Stc W w.heap.size cs ∧ Below w.heap.size w W := by
  have s := Stc.new w [.int .u8 0, .int .u8 0, .int .u32 0, .int .u16 0, .int .u16 0, .int .u32 0, .int .u32 0, .int .u32 0, .int .u16 0, .int .u16 0, .slice none 0 0, .slice none 0 0, .slice none 0 0, .slice none 0 0] 35 _ rfl
  have hb : Below w.heap.size w (w.alloc (.cells #[.int .u8 0, .int .u8 0, .int .u32 0, .int .u16 0, .int .u16 0, .int .u32 0, .int .u32 0, .int .u32 0, .int .u16 0, .int .u16 0, .slice none 0 0, .slice none 0 0, .slice none 0 0, .slice none 0 0] 35)) := (Below.refl _ _).alloc (Nat.le_refl _) _
  refine ⟨?_, ?_, ?_⟩
  · have e : cs.toArray.size = 14 := by simp [hl]
    rw [e]
    exact s.there
  · rw [hW]; exact s.put cs (by rw [hl]; rfl)
  · rw [hW]; exact hb.trans ((fr_setCellsX w.heap.size cs 0 _).below _ hb.size (fun k hk => by rw [hk]; exact Nat.le_refl _))
set_option linter.unusedVariables false in
set_option maxRecDepth 100000 in
set_option maxHeartbeats 4000000 in
theorem maybe_any {w : World} {a : Option Addr} {n c : Nat} {cf : Nat → List Value} {E : Nat → Int} {V : Nat → Value} {S : Nat → Nat} (h : CkR w a n c cf E V S) :
    Calls Tryd.prog 15 #[.slice a n c] w fun e w' => e = .returned (.int .i64 (mbE E S n)) ∧ Below w.heap.size w w' := by
  have HH := (show Hid _ from h)
  have hcap := h.cap
  have hsm := h.small
  clear h
  by_cases h0 : n = 0
  · have HM : Hid (mbE E S n = 2) := by show _ = _; unfold mbE; rw [if_pos h0]
    subst h0
    go_enter Tryd.func15, Tryd.ntmps15
    go_wp2
    go_ret
    exact ⟨by rw [HM.out]; rfl, Below.refl _ _⟩
  · have g0 : ¬ (n : Int) = 0 := by omega
    by_cases h32 : 32 < n
    · have HM : Hid (mbE E S n = 6) := by show _ = _; unfold mbE; rw [if_neg h0, if_pos h32]
      have g32 : (32 : Int) < (n : Int) := by omega
      go_enter Tryd.func15, Tryd.ntmps15
      go_wp2
      go_ret
      exact ⟨by rw [HM.out]; rfl, Below.refl _ _⟩
    · have g32 : ¬ (32 : Int) < (n : Int) := by omega
      obtain ⟨b, off, rfl, hbl, hrow⟩ : ∃ b off, a = some ⟨b, off, none⟩ ∧ b < w.heap.size ∧ ∀ j, j < n → w.rangeAt b (off + j * 14) (cf j) := by
        rcases HH.out.at_ with e | e
        · exact absurd e h0
        · exact e
      have HROW := (show Hid _ from hrow)
      have HB0 : Hid (Below w.heap.size w w) := Below.refl _ _
      clear hrow
      go_enter Tryd.func15, Tryd.ntmps15
      go_wp2
      go_loopw [3, 15] (fun u3 u15 wr => ∃ i : Nat, i ≤ n ∧ u15 = .int .i64 (i : Nat) ∧ u3 = .int .i64 ((12 + sumS S i : Nat) : Int) ∧ badE E i = 0 ∧ Below w.heap.size w wr) (fun _ u15 _ => n - (intOf u15).toNat)
      case atStart => exact ⟨0, by omega, rfl, rfl, rfl, HB0.out⟩
      case round =>
        obtain ⟨i, hin, rfl, rfl, hbad, hbw⟩ := hrel
        have hsi := sumS_le (S := S) (B := 1468) i (fun j hj => HH.out.sb j (by omega) (badE_ok hbad j hj))
        have HBW := (show Hid _ from hbw)
        have HBAD := (show Hid _ from hbad)
        clear hbw hbad HB0
        by_cases hlt : i < n
        · have hlt1 : (i : Int) < (n : Int) := by omega
          have hrg := rangeAt_below (HROW.out i hlt) HBW.out hbl
          obtain ⟨cs, hcs⟩ : ∃ cs, cs = cf i := ⟨_, rfl⟩
          have hcl : cs.length = 14 := by rw [hcs]; exact HH.out.len i hlt
          have hone : ∀ u ∈ cs, u.oneCell' = true := by rw [hcs]; exact HH.out.one i hlt
          rw [← hcs] at hrg
          obtain ⟨W2, hW2⟩ : ∃ W2, W2 = (wr.alloc (.cells #[.int .u8 0, .int .u8 0, .int .u32 0, .int .u16 0, .int .u16 0, .int .u32 0, .int .u32 0, .int .u32 0, .int .u16 0, .int .u16 0, .slice none 0 0, .slice none 0 0, .slice none 0 0, .slice none 0 0] 35)).setCells wr.heap.size 0 cs := ⟨_, rfl⟩
          obtain ⟨hth, hst2, hb2⟩ := laid14 wr W2 cs hcl hW2
          have hrg2 := hst2.range
          have hi14 := ch_size14 cs hcl
          have hi14' : (Tryd.prog.info? 35).map (·.size) = some cs.toArray.size := by rw [List.size_toArray]; exact hi14
          have HCK := (show Hid _ from HH.out.ck i hlt W2 (HBW.out.trans (hb2.mono HBW.out.size)))
          rw [← hcs] at HCK
          have HS2 : Hid (Stc W2 wr.heap.size cs ∧ Below w.heap.size w W2) := ⟨hst2, HBW.out.trans (hb2.mono HBW.out.size)⟩
          have hz := zero_ch14 wr
          have HCS := (show Hid _ from hcs)
          clear hst2 hb2 hcs
          go_wp2_with (first | (refine wpList_load_mid rfl 35 _ rfl b (off + i * 14) rfl cs _ hrg Tryd.underlying35 rfl hi14 ?_) | (refine wpList_store_mid rfl 35 _ _ rfl wr.heap.size 0 cs.toArray rfl rfl hth hi14' (all_oneCell_toArray hone) ?_; change wpList _ _ _ _ _ ((wr.alloc (.cells #[.int .u8 0, .int .u8 0, .int .u32 0, .int .u16 0, .int .u16 0, .int .u32 0, .int .u32 0, .int .u32 0, .int .u16 0, .int .u16 0, .slice none 0 0, .slice none 0 0, .slice none 0 0, .slice none 0 0] 35)).setCells wr.heap.size 0 cs); rw [← hW2]; clear hW2) | (refine wpList_load_mid rfl 35 _ rfl wr.heap.size 0 rfl cs _ hrg2 Tryd.underlying35 rfl hi14 ?_))
          refine Calls.mono HCK.out ?_
          clear HCK hrg hrg2 hz hth
          rintro e w3 ⟨rfl, b3⟩
          have hst3 := HS2.out.1.below b3
          have hb3 : Below w.heap.size w w3 := HS2.out.2.trans (b3.mono HS2.out.2.size)
          have hrg3 := hst3.range
          by_cases hE : E i = 0
          · have HVL := (show Hid _ from HH.out.vl i hlt hE w3 hb3)
            rw [← HCS.out] at HVL
            have HSP := (show Hid _ from fun W hW => HH.out.sp i hlt hE W hW)
            have hSb := HH.out.sb i hlt hE
            have HBAD2 : Hid (badE E (i + 1) = 0) := by show _ = _; rw [badE, if_neg (by rw [HBAD.out]; decide)]; exact hE
            have HB3 := (show Hid _ from hb3)
            have gE : E i = 0 := hE
            have HSS : Hid (sumS S (i + 1) = sumS S i + S i) := rfl
            clear hst3 hb3 b3 hE HS2
            generalize V i = vi at *
            generalize S i = si at *
            generalize hsg : sumS S i = sg at *
            have HSG := (show Hid _ from hsg)
            clear hsg
            go_wp2_with (first | (refine wpList_load_mid rfl 35 _ rfl wr.heap.size 0 rfl cs _ hrg3 Tryd.underlying35 rfl hi14 ?_) | fail)
            refine Calls.mono HVL.out ?_
            clear HVL hrg3
            rintro e w4 ⟨rfl, b4⟩
            have HB4 : Hid (Below w.heap.size w w4) := HB3.out.trans (b4.mono HB3.out.size)
            clear b4
            go_wp2_with fail
            refine Calls.mono (HSP.out w4 HB4.out) ?_
            rintro e w5 ⟨rfl, b5⟩
            have HB5 : Hid (Below w.heap.size w w5) := HB4.out.trans (b5.mono HB4.out.size)
            clear b5 HSP gE
            go_wp2
            go_roundw
            case rel => exact ⟨i + 1, by omega, by go_num, congrArg (Value.int .i64) (by have := HSS.out; omega), HBAD2.out, HB5.out⟩
            case measure => simp [intOf]; omega
          · have HM : Hid (mbE E S n = E i) := by
              show _ = _
              have h1 : badE E (i + 1) = E i := by rw [badE, if_neg (by rw [HBAD.out]; decide)]
              have h2 := badE_le (E := E) (k := i + 1) (by rw [h1]; exact hE) (n - (i + 1))
              rw [show i + 1 + (n - (i + 1)) = n by omega, h1] at h2
              unfold mbE
              rw [if_neg h0, if_neg h32, h2, if_pos hE]
            have HB3 := (show Hid _ from hb3)
            clear hst3 hb3 b3 hrg3 HS2
            go_wp2
            go_ret
            exact ⟨by rw [HM.out]; rfl, HB3.out⟩
        · have hlt1 : ¬ (i : Int) < (n : Int) := by omega
          have hien : i = n := by omega
          subst hien
          by_cases hz : 1480 < 12 + sumS S i
          · have HM : Hid (mbE E S i = 6) := by show _ = _; unfold mbE; rw [if_neg h0, if_neg h32, if_neg (by rw [HBAD.out]; decide), if_pos hz]
            have gz : (1480 : Int) < ((12 + sumS S i : Nat) : Int) := by omega
            generalize 12 + sumS S i = sz at *
            go_wp2
            go_ret
            exact ⟨by rw [HM.out]; rfl, HBW.out⟩
          · have HM : Hid (mbE E S i = 0) := by show _ = _; unfold mbE; rw [if_neg h0, if_neg h32, if_neg (by rw [HBAD.out]; decide), if_neg hz]
            have gz : ¬ (1480 : Int) < ((12 + sumS S i : Nat) : Int) := by omega
            generalize 12 + sumS S i = sz at *
            go_wp2
            go_ret
            exact ⟨by rw [HM.out]; rfl, HBW.out⟩
end Go.Proofs.YtifdfkkjmjabnabDoor
