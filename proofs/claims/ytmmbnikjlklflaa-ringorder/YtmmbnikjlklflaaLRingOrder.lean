/- Whatever ring and script: the walk of law07.RingOrder ends with true. -/
import Derived.Test.YtmmbnikjlklflaaOwnR
namespace Go.Proofs.Ytmmbnikjlklflaa
open Go.RowKit
structure Ord (w : World) (B px gx N gv tk d : Nat) (rs : List (Nat × List Nat)) (v : Value) (ins : List Dd) (out : Nat) : Prop where
  x : Rng w B (fun k => k = px ∨ k = gx) px gx N gv tk d rs
  own : OwnR w B v ins
  ap : ∀ k, v.ownBlock = some k → ¬ (k = px ∨ k = gx) ∧ ∀ r ∈ rs, ¬ r.1 = k
  ol : out ≤ ins.length
  eq : rs.map (·.2) = (ins.drop out).map (·.zs)
theorem Ord.below {w w' : World} {B px gx N gv tk d : Nat} {rs : List (Nat × List Nat)} {v : Value} {ins : List Dd} {out : Nat} (h : Ord w B px gx N gv tk d rs v ins out) (hb : Below w.heap.size w w') : Ord w' B px gx N gv tk d rs v ins out := ⟨h.x.below hb, h.own.below hb, h.ap, h.ol, h.eq⟩
theorem Ord.olt {w : World} {B px gx N gv tk d : Nat} {rs : List (Nat × List Nat)} {v : Value} {ins : List Dd} {out : Nat} (h : Ord w B px gx N gv tk d rs v ins out) : out < ins.length ↔ rs ≠ [] := by
  have h1 := congrArg List.length h.eq
  simp at h1
  constructor
  · intro h2 h3
    rw [h3] at h1
    simp at h1
    omega
  · intro h2
    have : 0 < rs.length := List.length_pos_iff.2 h2
    omega
theorem Ord.head {w : World} {B px gx N gv tk d : Nat} {rs : List (Nat × List Nat)} {v : Value} {ins : List Dd} {out : Nat} (h : Ord w B px gx N gv tk d rs v ins out) (y : Dd) (hy : ins[out]? = some y) : takeB rs = y.zs ∧ rs.tail.map (·.2) = (ins.drop (out + 1)).map (·.zs) := by
  have hlt := (List.getElem?_eq_some_iff.1 hy).1
  have he := h.eq
  rw [List.drop_eq_getElem_cons hlt, (List.getElem?_eq_some_iff.1 hy).2] at he
  cases rs with
  | nil => simp at he
  | cons r rs =>
    simp at he
    exact ⟨by simp [takeB, he.1], by simpa using he.2⟩
theorem OwnR.blt {w : World} {B : Nat} {v : Value} {ins : List Dd} (h : OwnR w B v ins) : ∀ k, v.ownBlock = some k → k < w.heap.size ∧ B ≤ k := fun k hk => ⟨(World.ownsRow.lt h k hk).2, (World.ownsRow.lt h k hk).1⟩
/-- What a Fill leaves. -/
theorem Ord.fill {w w' : World} {B px gx N gv tk d : Nat} {rs : List (Nat × List Nat)} {v : Value} {ins : List Dd} {out b : Nat} {zs : List Nat} (h : Ord w B px gx N gv tk d rs v ins out) (hf : Fr (fun k => k = px ∨ k = gx) w w') (hb : w.heap.size ≤ b) :
    OwnR w' B v ins ∧ ∀ k, v.ownBlock = some k → ¬ (k = px ∨ k = gx) ∧ ∀ r ∈ rs ++ [(b, zs)], ¬ r.1 = k := by
  refine ⟨h.own.fr hf (fun k hk => (h.ap k hk).1), fun k hk => ⟨(h.ap k hk).1, fun r hr => ?_⟩⟩
  rcases List.mem_append.1 hr with h1 | h1
  · exact (h.ap k hk).2 r h1
  · simp at h1
    subst h1
    have := (h.own.blt k hk).1
    show ¬ b = k
    omega
set_option maxRecDepth 100000 in
set_option maxHeartbeats 4000000 in
theorem walk_RingOrder (nn : Nat) (a : Option Addr) (n c : Nat) (dd : List Dd) (w : World) (hnn : nn < 256) (hl : SlG w a n c dd) :
    Calls Try.prog 4 #[.int .u8 (nn : Nat), .slice a n c] w fun e w' => e = .returned (.bool true) ∧ Below w.heap.size w w' := by
  have hlen := hl.len
  have hsm := hl.small
  obtain ⟨N, hN⟩ : ∃ N, N = 1 + nn % 64 := ⟨_, rfl⟩
  have hN1 : 1 ≤ N := by omega
  have hN2 : N ≤ 64 := by omega
  have HN : Hid ((1 : Int) + (nn : Int) % 64 = (N : Int)) := by show _ = _; omega
  have hnew := fun W v hv => rnew_at N W hN1 hN2 v hv
  clear hN
  go_enter Try.func4, Try.ntmps4
  go_wp2_with fail
  refine (hnew _ _ (by rw [HN.out])).mono ?_
  rintro e w1 ⟨px, rfl, ⟨gx, hX1⟩, hb1⟩
  have hO1 : Ord w1 w.heap.size px gx N 0 0 0 [] (.slice none 0 0) [] 0 := ⟨hX1, OwnR.nil _ _, fun k hk => by simp [Value.ownBlock] at hk, by simp, rfl⟩
  clear hX1
  go_wp2
  go_loopw [7, 8, 9] (fun inv ov iv wr => ∃ (i gv tk d out : Nat) (rs : List (Nat × List Nat)) (ins : List Dd), iv = .int .i64 (i : Nat) ∧ ov = .int .i64 (out : Nat) ∧ i ≤ n ∧ i ≤ 300 ∧ d ≤ i ∧ ins.length ≤ i ∧ (∀ x ∈ ins, x ∈ dd) ∧ Ord wr w.heap.size px gx N gv tk d rs inv ins out ∧ Below w.heap.size w wr) (fun _ _ iv _ => n - (intOf iv).toNat)
  case atStart => exact ⟨0, 0, 0, 0, 0, [], [], rfl, rfl, by omega, by omega, by omega, by simp, fun x hx => (by cases hx), hO1, hb1⟩
  case round =>
    obtain ⟨j, gv, tk, d, out, rs, ins, rfl, rfl, hjn, hj300, hdj, hinj, hmem, hO, hbel⟩ := hrel
    clear hO1 hb1
    have hd9 : d ≤ 1000000 := by omega
    have hBw := hbel.size
    have hol := hO.ol
    by_cases hjl : j < n ∧ j < 300
    · obtain ⟨hjl, hjk⟩ := hjl
      obtain ⟨x, hx⟩ : ∃ x, dd[j]? = some x := ⟨_, List.getElem?_eq_getElem (by omega)⟩
      have hxm := List.mem_of_getElem? hx
      have hsl := ((hl.rows x hxm).1).below hbel
      have HSL : Hid (∀ y ∈ dd, ∀ W, Below w.heap.size w W → Sl W y.a y.n y.c y.zs) := fun y hy W hW => ((hl.rows y hy).1).below hW
      rcases hl.at_ with h0 | ⟨lb, off, rfl, hlt, hcell⟩
      · omega
      obtain ⟨c0, c1, c2⟩ := hcell j x hx
      have k0 := (hbel.cell (p := ⟨lb, off + j * 3, none⟩) hlt).trans c0
      have k1 := (hbel.cell (p := ⟨lb, off + j * 3 + 1, none⟩) hlt).trans c1
      have HK1 : Hid (∀ W, Below w.heap.size w W → W.cell? ⟨lb, off + j * 3 + 1, none⟩ = some (.slice x.a x.n x.c)) := fun W hW => (hW.cell (p := ⟨lb, off + j * 3 + 1, none⟩) hlt).trans c1
      have hj1 : (j : Int) < (n : Int) := by omega
      have hj2 : (j : Int) < 300 := by omega
      clear c0 c1 c2 hcell
      by_cases o0 : x.op = 0
      · rw [o0] at k0
        go_wp2_with fail
        refine (fill_any _ _ px gx N gv tk d rs x.a x.n x.c x.zs wr hO.x hsl hd9 hBw).mono ?_
        rintro e w3 ⟨rfl, hF3, b3, hb3, hX3⟩
        have hbel3 := hO.x.frB hF3 hbel (Nat.le_refl _)
        obtain ⟨hW3, hap3⟩ := hO.fill hF3 hb3 (zs := x.zs)
        by_cases hE : fillE N tk rs x.zs = 0
        · rw [hE] at hX3 ⊢
          simp only [if_true, show ¬ (0 : Nat) = 10 by omega, if_false] at hX3
          have kk := HK1.out w3 hbel3
          have hz3 := hbel3.size
          have hcA : (w3.alloc (.cells #[.slice x.a x.n x.c] 33)).cell? ((⟨w3.heap.size, 0, none⟩ : Addr).add 0) = some (.slice x.a x.n x.c) := by simp [Addr.add]
          have hWA := hW3.below ((Below.refl w3.heap.size w3).alloc (Nat.le_refl _) (.cells #[.slice x.a x.n x.c] 33))
          have hXA := hX3.below ((Below.refl w3.heap.size w3).alloc (Nat.le_refl _) (.cells #[.slice x.a x.n x.c] 33))
          have hbA := hbel3.trans (((Below.refl w3.heap.size w3).alloc (Nat.le_refl _) (.cells #[.slice x.a x.n x.c] 33)).mono hbel3.size)
          have hEQ := hO.eq
          clear hsl hO
          go_wp2_with (at_builtin; go_must (refine app_row _ rfl _ _ rfl w.heap.size _ ins rfl hWA ⟨w3.heap.size, 0, none⟩ x rfl hcA (by omega) (by simp; omega) ?_))
          intro g4 cap4 w4 hW4 hg4 hlie
          have hf4 : Fr (fun k => u7.ownBlock = some k) (w3.alloc (.cells #[.slice x.a x.n x.c] 33)) w4 := Fr.grown hg4 (fun k hk => hk)
          have hX4 := hXA.fr hf4 (fun h => (hap3 px h).1 (.inl rfl)) (fun h => (hap3 gx h).1 (.inr rfl)) (fun r hr h => (hap3 r.1 h).2 r hr rfl)
          have hbel4 : Below w.heap.size w w4 := hbA.trans (hf4.below w.heap.size hbA.size (fun k hk => (hW3.blt k hk).2))
          have HO4 : Hid (Ord w4 w.heap.size px gx N gv tk d (rs ++ [(b3, x.zs)]) (.slice (some ⟨g4, 0, none⟩) (ins.length + 1) cap4) (ins ++ [x]) out) := by
            refine ⟨hX4, hW4, fun k hk => ?_, by simp; omega, ?_⟩
            · have hk' : g4 = k := by simpa [Value.ownBlock] using hk
              subst hk'
              rcases hlie with h1 | h1
              · exact hap3 g4 h1
              · have hz : (w3.alloc (.cells #[.slice x.a x.n x.c] 33)).heap.size = w3.heap.size + 1 := by simp
                have p1 := hX3.lt
                have p2 := hX3.glt
                exact ⟨by omega, fun r hr => by have := (hX3.rlt r hr).1; omega⟩
            · rw [List.map_append, hEQ, List.drop_append_of_le_length hol]; simp
          have HB4 := (show Hid _ from hbel4)
          have HM4 : Hid (∀ y ∈ ins ++ [x], y ∈ dd) := by
            show ∀ y ∈ ins ++ [x], y ∈ dd
            intro y hy
            rcases List.mem_append.1 hy with h1 | h1
            · exact hmem y h1
            · simp at h1; rw [h1]; exact hxm
          clear hX4 hW4 hbel4 hf4 hlie hg4 hWA hXA hbA hcA hap3 hX3 hW3 hF3 hb3 hbel3 hEQ kk
          go_wp2
          go_roundw
          case rel => exact ⟨j + 1, gv, tk, d, out, _, _, by go_num, rfl, by omega, by omega, by omega, by simp; omega, HM4.out, HO4.out, HB4.out⟩
          case measure => simp [intOf]; omega
        · have HE9 : ((fillE N tk rs x.zs : Int) == 0) = false := by simp; omega
          rw [if_neg hE] at hX3
          have HD4 : Hid ((if fillE N tk rs x.zs = 10 then d + 1 else d) ≤ j + 1) := by show _ ≤ _; split <;> omega
          have HO4 : Hid (Ord w3 w.heap.size px gx N gv tk (if fillE N tk rs x.zs = 10 then d + 1 else d) rs u7 ins out) := ⟨hX3, hW3, hO.ap, hO.ol, hO.eq⟩
          have HB4 := (show Hid _ from hbel3)
          clear hX3 hW3 hap3 hF3 hb3 hO hsl hbel3
          generalize hdq : (if fillE N tk rs x.zs = 10 then d + 1 else d) = d2 at *
          generalize fillE N tk rs x.zs = fe at *
          clear hdq
          go_wp2
          go_roundw
          case rel => exact ⟨j + 1, gv, tk, d2, out, _, _, by go_num, rfl, by omega, by omega, HD4.out, by omega, hmem, HO4.out, HB4.out⟩
          case measure => simp [intOf]; omega
      by_cases o1 : x.op = 1
      · rw [o1] at k0
        go_wp2_with fail
        refine (take_any _ _ px gx N gv tk d rs wr hO.x).mono ?_
        rintro e w3 ⟨⟨a3, n3, c3, rfl, hs3⟩, hF3, hX3⟩
        have hbel3 := hO.x.frB hF3 hbel (Nat.le_refl _)
        have hW3 := hO.own.fr hF3 (fun k hk => (hO.ap k hk).1)
        by_cases hr : rs = []
        · obtain rfl : out = ins.length := by
            have := hO.olt
            by_cases h : out < ins.length
            · exact absurd hr (this.1 h)
            · omega
          subst hr
          have hO4 : Ord w3 w.heap.size px gx N gv tk d [] u7 ins ins.length := ⟨by simpa using hX3, hW3, hO.ap, hO.ol, hO.eq⟩
          have hv : ∃ av cv, u7 = .slice av ins.length cv := by
            rcases hW3.form with ⟨h1, h2⟩ | ⟨g, c, h1, _⟩
            · exact ⟨none, 0, by rw [h1, h2]; rfl⟩
            · exact ⟨_, _, h1⟩
          obtain ⟨av, cv, rfl⟩ := hv
          rw [show takeE [] = 13 from rfl]
          have HO4 : Hid (∀ q, Ord (w3.drewN q) w.heap.size px gx N gv tk d [] (.slice av ins.length cv) ins ins.length) := fun q => hO4.below ⟨rfl, rfl, rfl, Nat.le_refl _, fun _ _ => rfl⟩
          have HB4 : Hid (∀ q, Below w.heap.size w (w3.drewN q)) := fun q => hbel3.trans (Below.mono ⟨rfl, rfl, rfl, Nat.le_refl _, fun _ _ => rfl⟩ hbel3.size)
          clear hX3 hW3 hF3 hs3 hO hbel3 hO4
          have hq1 : ((13 : Int) == 0) = false := by decide
          have hq2 : decide ((ins.length : Int) < (ins.length : Int)) = false := by simp
          go_wp2
          go_quiet (fail)
          all_goals
            go_wp2
            go_roundw
            case rel => exact ⟨j + 1, gv, tk, d, ins.length, [], ins, by go_num, rfl, by omega, by omega, by omega, by omega, hmem, HO4.out _, HB4.out _⟩
            case measure => simp [intOf]; omega
        · have hol2 : out < ins.length := hO.olt.2 hr
          obtain ⟨y, hy⟩ : ∃ y, ins[out]? = some y := ⟨_, List.getElem?_eq_getElem hol2⟩
          obtain ⟨hB1, hB2⟩ := hO.head y hy
          have hsy := HSL.out y (hmem y (List.mem_of_getElem? hy))
          rcases hW3.form with ⟨_, h2⟩ | ⟨gi, ci, hv, hgl, hgb, hci⟩
          · rw [h2] at hol2; simp at hol2
          have hcy := hci out y hy
          have hO4 : Ord w3 w.heap.size px gx N gv (tk + 1) d rs.tail u7 ins (out + 1) := ⟨by rw [if_neg hr] at hX3; exact hX3, hW3, fun k hk => ⟨(hO.ap k hk).1, fun r hr2 => (hO.ap k hk).2 r (List.mem_of_mem_tail hr2)⟩, by omega, hB2⟩
          have HO4 : Hid (∀ W, Below w3.heap.size w3 W → Ord W w.heap.size px gx N gv (tk + 1) d rs.tail u7 ins (out + 1)) := fun W hW => hO4.below hW
          have HB4 : Hid (∀ W, Below w3.heap.size w3 W → Below w.heap.size w W) := fun W hW => hbel3.trans (hW.mono hbel3.size)
          have HCV : Hid (∀ W, Below w3.heap.size w3 W → (convert 33 9 (.slice a3 n3 c3)).run Try.prog W = .ok (.string (strOf y.zs)) W ∧ (convert 33 9 (.slice y.a y.n y.c)).run Try.prog W = .ok (.string (strOf y.zs)) W ∧ W.cell? ⟨gi, out, none⟩ = some (.slice y.a y.n y.c)) := fun W hW => ⟨by rw [← hB1]; exact conv_str (hs3 W (Fr.of_below hW)), conv_str (hsy W (hbel3.trans (hW.mono hbel3.size))), (hW.cell (p := ⟨gi, out, none⟩) hgl).trans hcy⟩
          have cv1 := conv_str (hs3 w3 (Fr.refl _ _))
          have cv2 := conv_str (hsy w3 hbel3)
          rw [hB1] at cv1
          have hTE : takeE rs = 0 := by unfold takeE; rw [if_neg hr]
          rw [hTE]
          have hout : (out : Int) < (ins.length : Int) := by omega
          subst hv
          clear hX3 hW3 hF3 hs3 hO hbel3 hci hB1 hB2 hsy hTE hO4 cv1 cv2 hcy
          generalize strOf y.zs = st at *
          obtain ⟨cv1, cv2, hcy⟩ := HCV.out w3.drew (Below.refl _ _).drew
          go_wp2
          go_region_held3 (fun w' => (convert 33 9 (.slice a3 n3 c3)).run Try.prog w' = .ok (.string st) w' ∧ (convert 33 9 (.slice y.a y.n y.c)).run Try.prog w' = .ok (.string st) w' ∧ w'.cell? ⟨gi, out, none⟩ = some (.slice y.a y.n y.c)) (first | assumption | exact HCV.out _ (Below.refl _ _) | exact HCV.out _ (Below.refl _ _).drew) (fail)
          all_goals
            go_wp2
            go_roundw
            case rel => exact ⟨j + 1, gv, tk + 1, d, out + 1, _, ins, by go_num, by go_num, by omega, by omega, by omega, by omega, hmem, HO4.out _ (by first | exact Below.refl _ _ | exact (Below.refl _ _).drew), HB4.out _ (by first | exact Below.refl _ _ | exact (Below.refl _ _).drew)⟩
            case measure => simp [intOf]; omega
      by_cases o2 : x.op = 2
      · rw [o2] at k0
        go_wp2_with fail
        refine (give_any _ _ px gx N gv tk d rs wr hO.x).mono ?_
        rintro e w3 ⟨rfl, hF3, hX3⟩
        have HO4 : Hid (Ord w3 w.heap.size px gx N _ _ d rs u7 ins out) := ⟨hX3, hO.own.fr hF3 (fun k hk => (hO.ap k hk).1), hO.ap, hO.ol, hO.eq⟩
        have HB4 := (show Hid _ from hO.x.frB hF3 hbel (Nat.le_refl _))
        clear hX3 hF3 hO
        go_wp2
        go_roundw
        case rel => exact ⟨j + 1, _, _, d, out, rs, ins, by go_num, rfl, by omega, by omega, by omega, by omega, hmem, HO4.out, HB4.out⟩
        case measure => simp [intOf]; omega
      · have HO4 := (show Hid _ from hO)
        have HB4 := (show Hid _ from hbel)
        go_wp2
        all_goals
          go_roundw
          case rel => exact ⟨j + 1, _, _, d, out, rs, ins, by go_num, rfl, by omega, by omega, by omega, by omega, hmem, HO4.out, HB4.out⟩
          case measure => simp [intOf]; omega
    · have hend : Calls Try.prog 10 #[] wr fun e w' => e = .returned (.bool true) ∧ Below w.heap.size w w' := (live7_any wr).mono fun e w' ⟨h1, h2⟩ => ⟨h1, hbel.trans (h2.mono hbel.size)⟩
      by_cases hjl2 : j < n
      · have hj1 : (j : Int) < (n : Int) := by omega
        have hj2 : ¬ (j : Int) < 300 := by omega
        go_wp2_with fail
        refine hend.mono ?_
        rintro e wC ⟨rfl, hbC⟩
        go_wp2
        go_ret
        exact ⟨rfl, hbC⟩
      · have hj1 : ¬ (j : Int) < (n : Int) := by omega
        go_wp2_with fail
        refine hend.mono ?_
        rintro e wC ⟨rfl, hbC⟩
        go_wp2
        go_ret
        exact ⟨rfl, hbC⟩
end Go.Proofs.Ytmmbnikjlklflaa
