/- trunklineref13: tell, as far as the pieces that are left. -/
import Derived.Test.YtjaheelgcjafcaaSer1
import Derived.Deep.QuietTactic
import Derived.BigQuiet
import Derived.Deep.DeepMust
import Derived.Outline
import Derived.Test.YtjaheelgcjafcaaKB
import Derived.Test.YtjaheelgcjafcaaKN
import Derived.Test.YtjaheelgcjafcaaKC
import Derived.Deep.CutBlock
import Derived.Deep.CutRange
namespace Go.Proofs.Ytjaheelgcjafcaa
open Go.RowKit
set_option maxHeartbeats 400000 in
theorem round_any (b : Int) (w : World) : Calls Try.prog 81 #[.int .i64 b] w fun e w' => e = .returned (.int .i64 (rnd b : Nat)) ∧ w' = w := by
  by_cases h : b = 16
  · have HR : Hid (rnd b = 65536) := by show _ = _; unfold rnd; rw [if_pos h]
    have h1 : (b == 16) = true := by simpa using h
    clear h
    go_enter Try.func81, Try.ntmps81
    go_wp2
    go_ret
    exact ⟨ret_int (by rw [HR.out]; rfl), rfl⟩
  · have HR : Hid (rnd b = 4294967296) := by show _ = _; unfold rnd; rw [if_neg h]
    have h1 : (b == 16) = false := by simpa using h
    clear h
    go_enter Try.func81, Try.ntmps81
    go_wp2
    go_ret
    exact ⟨ret_int (by rw [HR.out]; rfl), rfl⟩
theorem tmod_rest (M : Nat) (n : Int) (hM : 0 < M) : (Int.tmod n M < 0 → Int.tmod n M + M = (restV M n : Int)) ∧ (¬ Int.tmod n M < 0 → Int.tmod n M = (restV M n : Int)) ∧ -(M : Int) < Int.tmod n M ∧ Int.tmod n M < M := by
  unfold restV
  have h1 := Int.emod_nonneg n (show (M : Int) ≠ 0 by omega)
  have h2 := Int.emod_lt_of_pos n (show (0 : Int) < M by omega)
  rw [Int.toNat_of_nonneg h1]
  have h3 := Int.tmod_eq_emod (a := n) (b := (M : Int))
  have h5 : ¬ (M : Int) ∣ n → n % (M : Int) ≠ 0 := fun h e => h (Int.dvd_of_emod_eq_zero e)
  rw [h3]
  have hab : ((M : Int).natAbs : Int) = M := by simp
  split
  · omega
  · rename_i hc
    have := h5 (fun h => hc (.inr h))
    omega
set_option maxHeartbeats 1000000 in
theorem rest_any (b n : Int) (w : World) : Calls Try.prog 80 #[.int .i64 b, .int .i64 n] w fun e w' => e = .returned (.int .i64 (restV (rnd b) n : Nat)) ∧ w' = w := by
  have hr := fun w => round_any b w
  have hM := rnd_pos b
  have hM2 := rnd_le b
  obtain ⟨t1, t2, t3, t4⟩ := tmod_rest (rnd b) n hM
  generalize rnd b = M at *
  have h0 : ((M : Int) == 0) = false := by simp; omega
  have hMi : (0 : Int) < (M : Int) := by omega
  have HN : Hid (Int.tmod n M = Int.tmod n M) := rfl
  by_cases hneg : Int.tmod n (M : Int) < 0
  · have H1 := (show Hid _ from t1 hneg)
    clear t1 t2
    generalize ht : Int.tmod n (M : Int) = t at *
    go_enter Try.func80, Try.ntmps80
    go_wp2_with (go_at_call 81; refine (hr _).mono ?_; rintro e w' ⟨rfl, hw'⟩; subst w')
    go_ret
    exact ⟨ret_int H1.out, rfl⟩
  · have H1 := (show Hid _ from t2 hneg)
    clear t1 t2
    generalize ht : Int.tmod n (M : Int) = t at *
    go_enter Try.func80, Try.ntmps80
    go_wp2_with (go_at_call 81; refine (hr _).mono ?_; rintro e w' ⟨rfl, hw'⟩; subst w')
    go_ret
    exact ⟨ret_int H1.out, rfl⟩
set_option maxHeartbeats 1000000 in
theorem rcheck_any (b : Int) (a : Option Addr) (n c : Nat) (zs : List Nat) (w : World) (hs : SlK .u32 4294967296 w a n c zs) :
    Calls Try.prog 79 #[.int .i64 b, .slice a n c] w fun e w' => e = .returned (.int .i64 (chkE b zs : Nat)) ∧ ∃ q, w' = w.drewN q := by
  by_cases hb : b = 16 ∨ b = 32
  · have hl := hs.len
    have hsm := hs.small
    have hM2 := rnd_le b
    have HLIM : Hid (∀ z ∈ zs, rnd b ≤ z → chkE b zs = 6) := fun z hz h => chkE_lim hb z hz h
    have HOK : Hid ((∀ z ∈ zs, z < rnd b) → chkE b zs = 0) := fun h => chkE_mk hb h
    have hr := fun w => round_any b w
    obtain ⟨M, hM⟩ : ∃ M, M = rnd b := ⟨_, rfl⟩
    rw [← hM] at hr hM2 HLIM HOK
    clear hM
    rcases hb with rfl | rfl
    all_goals
      go_enter Try.func79, Try.ntmps79
      go_wp2
      go_loopw [5] (fun i wr => ∃ (k q : Nat), k ≤ n ∧ i = .int .i64 k ∧ wr = w.drewN q ∧ ∀ j, j < k → zs.getD j 0 < M) (fun i _ => n - (intOf i).toNat)
      case atStart => exact ⟨0, 0, by omega, rfl, rfl, fun j hj => by omega⟩
      case round =>
        obtain ⟨k, q, hk, rfl, hwr, hall⟩ := hrel
        by_cases hkn : k < n
        · rcases hs.at_ with h0 | ⟨g, off, rfl, hlt, hcell⟩
          · omega
          have hc : wr.cell? ⟨g, off + k, none⟩ = some (.int .u32 (zs.getD k 0 : Nat)) := by rw [hwr]; exact hcell k hkn
          have HW := (show Hid _ from hwr)
          clear hwr
          have hx := hs.bnd k
          have hkz : k < zs.length := by omega
          have HZ : Hid (zs.getD k 0 ∈ zs) := by
            show _ ∈ _
            rw [List.getD_eq_getElem?_getD, List.getElem?_eq_getElem hkz]
            exact List.getElem_mem hkz
          have HX2 : Hid (zs.getD k 0 < M → ∀ j, j < k + 1 → zs.getD j 0 < M) := fun h j hj => by
            by_cases hjk : j = k
            · subst hjk; exact h
            · exact hall j (by omega)
          clear hcell hall
          have hk1 : (k : Int) < (n : Int) := by omega
          by_cases hle : zs.getD k 0 < M
          · have H3 := (show Hid _ from HX2.out hle)
            clear HX2 HZ
            generalize zs.getD k 0 = x at *
            have hge : ¬ (M : Int) ≤ (x : Int) := by omega
            go_wp2_with fail
            go_quiet ((go_at_call 81; go_must (exact Calls.quiet_of_same (hr _))))
            all_goals
              go_wp2
              go_roundw
              case rel => exact ⟨k + 1, _, by omega, by go_num, by rw [HW.out]; exact World.drewN_drewN _ _ _, H3.out⟩
              case measure => simp [intOf]; omega
          · have H3 := (show Hid _ from HLIM.out _ HZ.out (by omega))
            clear HX2 HZ
            generalize zs.getD k 0 = x at *
            have hge : (M : Int) ≤ (x : Int) := by omega
            go_wp2_with fail
            go_quiet ((go_at_call 81; go_must (exact Calls.quiet_of_same (hr _))))
            all_goals
              go_wp2
              go_ret
              exact ⟨ret_int (by rw [H3.out]; rfl), _, by rw [HW.out]; exact World.drewN_drewN _ _ _⟩
        · obtain rfl : k = n := by omega
          have H3 := (show Hid _ from HOK.out (take_all zs M k hall (by omega)))
          clear hall
          go_wp2
          go_ret
          exact ⟨ret_int (by rw [H3.out]; rfl), q, by first | exact hwr | rfl⟩
  · have HE : Hid (chkE b zs = 2) := chkE_bad b zs hb
    have h1 : ¬ b = 16 := fun h => hb (.inl h)
    have h2 : ¬ b = 32 := fun h => hb (.inr h)
    clear hb
    go_enter Try.func79, Try.ntmps79
    go_wp2
    all_goals first
      | (exfalso; omega)
      | (exfalso; simp_all; done)
      | (go_ret; exact ⟨ret_int (by rw [HE.out]; rfl), 0, rfl⟩)
theorem drewN_below (w : World) (q : Nat) : Below w.heap.size w (w.drewN q) := by
  induction q with
  | zero => exact Below.refl _ _
  | succ q ih => exact ih.drew
end Go.Proofs.Ytjaheelgcjafcaa
namespace Go.Proofs.Ytjaheelgcjafcaa
open Go.RowKit
set_option maxHeartbeats 1000000 in
theorem rahead_any (b : Int) (x y : Nat) (hx : x < 4294967296) (hy : y < 4294967296) (w : World) :
    Calls Try.prog 75 #[.int .i64 b, .int .u32 x, .int .u32 y] w fun e w' => e = .returned (.tuple #[.int .i64 (aheadR b x y), .int .i64 (chkE b [x, y] : Nat)]) ∧ Below w.heap.size w w' := by
  by_cases he : chkE b [x, y] = 0
  · have HR : Hid (aheadR b x y = aheadV (rnd b) x y) := by show _ = _; unfold aheadR; rw [if_pos he]
    obtain ⟨hb, hz⟩ := chkE_ok he
    have hxb := hz x (by simp)
    have hck := fun w => (fun W hs => rcheck_any b _ 2 2 [x, y] W hs) (w.alloc (.cells #[.int .u32 x, .int .u32 y] 30)) (u32_two w 30 x y hx hy)
    rw [he] at hck
    have hq := fun w => rest_any b ((y : Int) - x) w
    rw [up_ref (rnd b) x y hxb] at hq
    have hro := fun w => round_any b w
    have hlt := upV_lt (rnd b) x y (rnd_pos b)
    have hr := rnd_le b
    have hr2 : 2 ∣ rnd b := by rcases rnd_two b with h | h <;> rw [h] <;> decide
    have HE := (show Hid _ from he)
    have HV : Hid (aheadV (rnd b) x y = if rnd b ≤ 2 * upV (rnd b) x y then (upV (rnd b) x y : Int) - rnd b else upV (rnd b) x y) := rfl
    clear he hz hb hxb
    generalize aheadR b x y = r at *
    generalize aheadV (rnd b) x y = r2 at *
    generalize upV (rnd b) x y = u at *
    generalize rnd b = M at *
    by_cases hc : M ≤ 2 * u
    · have hc2 : (M : Int) / 2 ≤ (u : Int) := by omega
      have HV2 : Hid (r2 = (u : Int) - M) := by show _ = _; rw [HV.out, if_pos hc]
      clear HV
      go_enter Try.func75, Try.ntmps75
      go_wp2_with (first | (go_at_call 79; refine (hck _).mono ?_; rintro e w' ⟨rfl, q, hw'⟩; subst w') | (go_at_call 80; refine (hq _).mono ?_; rintro e w' ⟨rfl, hw'⟩; subst w') | (go_at_call 81; refine (hro _).mono ?_; rintro e w' ⟨rfl, hw'⟩; subst w'))
      go_ret2
      refine ⟨?_, ((Below.refl _ _).alloc (Nat.le_refl _) _).trans ((drewN_below _ _).mono (by simp))⟩
      rw [HE.out, HR.out, HV2.out]
      exact ret_two rfl rfl
    · have hc2 : ¬ (M : Int) / 2 ≤ (u : Int) := by omega
      have HV2 : Hid (r2 = (u : Int)) := by show _ = _; rw [HV.out, if_neg hc]
      clear HV
      go_enter Try.func75, Try.ntmps75
      go_wp2_with (first | (go_at_call 79; refine (hck _).mono ?_; rintro e w' ⟨rfl, q, hw'⟩; subst w') | (go_at_call 80; refine (hq _).mono ?_; rintro e w' ⟨rfl, hw'⟩; subst w') | (go_at_call 81; refine (hro _).mono ?_; rintro e w' ⟨rfl, hw'⟩; subst w'))
      go_ret2
      refine ⟨?_, ((Below.refl _ _).alloc (Nat.le_refl _) _).trans ((drewN_below _ _).mono (by simp))⟩
      rw [HE.out, HR.out, HV2.out]
      exact ret_two rfl rfl
  · have HR : Hid (aheadR b x y = 0) := by show _ = _; unfold aheadR; rw [if_neg he]
    have hck := fun w => (fun W hs => rcheck_any b _ 2 2 [x, y] W hs) (w.alloc (.cells #[.int .u32 x, .int .u32 y] 30)) (u32_two w 30 x y hx hy)
    have hne : ((chkE b [x, y] : Int) == 0) = false := by simp; omega
    generalize chkE b [x, y] = q at *
    go_enter Try.func75, Try.ntmps75
    go_wp2_with (go_at_call 79; refine (hck _).mono ?_; rintro e w' ⟨rfl, q, hw'⟩; subst w')
    go_ret2
    exact ⟨by rw [HR.out]; rfl, ((Below.refl _ _).alloc (Nat.le_refl _) _).trans ((drewN_below _ _).mono (by simp))⟩
end Go.Proofs.Ytjaheelgcjafcaa
namespace Go.Proofs.Ytjaheelgcjafcaa
open Go.RowKit
theorem less_err {b : Int} {x y : Nat} (h : ¬ chkE b [x, y] = 0) : lessR b x y = false := by
  unfold lessR aheadR; rw [if_neg h]; rfl
theorem ret_bi {l : IntKind} {p q : Bool} {c d : Int} (h : p = q) (h2 : c = d) : Ending.returned (.tuple #[.bool p, .int l c]) = .returned (.tuple #[.bool q, .int l d]) := by rw [h, h2]
set_option maxHeartbeats 400000 in
theorem rless_any (b : Int) (x y : Nat) (hx : x < 4294967296) (hy : y < 4294967296) (w : World) :
    Calls Try.prog 66 #[.int .i64 b, .int .u32 x, .int .u32 y] w fun e w' => e = .returned (.tuple #[.bool (lessR b x y), .int .i64 (chkE b [x, y] : Nat)]) ∧ Below w.heap.size w w' := by
  have ha := fun w => rahead_any b x y hx hy w
  by_cases he : chkE b [x, y] = 0
  · have HL : Hid (lessR b x y = decide (0 < aheadR b x y)) := rfl
    have HE := (show Hid _ from he)
    rw [he] at ha
    clear he
    generalize aheadR b x y = r at *
    go_enter Try.func66, Try.ntmps66
    go_wp2_with (go_at_call 75; refine (ha _).mono ?_; rintro e w' ⟨rfl, hb⟩)
    go_ret2
    exact ⟨by rw [HE.out]; exact ret_bi HL.out.symm rfl, hb⟩
  · have HL : Hid (lessR b x y = false) := less_err he
    have hne : ((chkE b [x, y] : Int) == 0) = false := by simp; omega
    generalize aheadR b x y = r at *
    generalize chkE b [x, y] = q at *
    go_enter Try.func66, Try.ntmps66
    go_wp2_with (go_at_call 75; refine (ha _).mono ?_; rintro e w' ⟨rfl, hb⟩)
    go_ret2
    exact ⟨ret_bi HL.out.symm rfl, hb⟩
theorem rless16 (a b : Nat) (w : World) (ha : a < 65536) (hb : b < 65536) :
    Calls Try.prog 66 #[.int .i64 16, .int .u32 (a : Nat), .int .u32 (b : Nat)] w fun e w' => e = .returned (.tuple #[.bool (decide (0 < aheadV 65536 a b)), .int .i64 0]) ∧ Below w.heap.size w w' := by
  refine (rless_any 16 a b (by omega) (by omega) w).mono ?_
  rintro e w' ⟨rfl, h⟩
  have h1 : lessR 16 a b = decide (0 < aheadV 65536 a b) := by
    unfold lessR aheadR
    rw [if_pos (chk16 a b ha hb)]
    rfl
  rw [h1, chk16 a b ha hb]
  exact ⟨rfl, h⟩
end Go.Proofs.Ytjaheelgcjafcaa
namespace Go.Proofs.Ytjaheelgcjafcaa
open Go.RowKit
/-- What tell is called with. -/
structure TeC (W0 w : World) (p : Nat) (r : Rw) (nx : List Nat) (E : List ChQ) (V : List RyD) (Z : Nat → Prop) (B : Nat) (la : Option Addr) (L lc : Nat) (xs : List ChQ) : Prop where
  h : RfS W0 w p r nx E V Z
  own : OwnG 47 14 ChQ.vals w B la L lc xs
  big : B ≤ w.heap.size
  pB : p < B
  pos : 0 < L
  le : L ≤ 128
  ok : ∀ x ∈ xs, QOk W0 x
  nd : (V.map RyD.key).Nodup
  v1 : V.length < 128
  st8 : ∀ x, xs[0]? = some x → x.st < nx.length
/-- The pieces that are left. -/
def restQ (E xs : List ChQ) : List ChQ := E.filter fun y => !(xs.map (·.t)).contains y.t
def joinQ (xs : List ChQ) : Mg := joinM (xs.map ChQ.pc)
/-- The message under way, in its box: as many bytes as zs. -/
structure BxM (w0 w : World) (θ : Nat) (st ss pp : Nat) (fr : Bool) (a : Option Addr) (c : Nat) (zs : List Nat) : Prop where
  st : Stc w θ [.int .u16 (st : Nat), .int .u16 (ss : Nat), .int .u32 (pp : Nat), .bool fr, .slice a zs.length c]
  own : OwnB w w0.heap.size a zs.length c zs
  ne : ∀ g, (Value.slice a zs.length c).ownBlock = some g → g ≠ θ
  lo : w0.heap.size ≤ θ
/-- tell, once the pieces that are left are laid. -/
structure TeS (W0 w : World) (p : Nat) (r : Rw) (nx : List Nat) (E : List ChQ) (V : List RyD) (Z : Nat → Prop) (B : Nat) (la : Option Addr) (L lc : Nat) (xs : List ChQ) (ka : Option Addr) (kc : Nat) (wf : World) : Prop where
  c : TeC W0 w p r nx E V Z B la L lc xs
  fr : Fr (fun g => g = p) w wf
  st : Stc wf p [.slice r.aA nx.length r.aC, .slice ka (restQ E xs).length kc, .slice r.vA V.length r.vC]
  row : OwnG 47 14 ChQ.vals wf w.heap.size ka (restQ E xs).length kc (restQ E xs)
theorem restQ_snoc {E xs : List ChQ} {i : Nat} {y : ChQ} (h : E[i]? = some y) : restQ (E.take (i + 1)) xs = restQ (E.take i) xs ++ if (xs.map (·.t)).contains y.t then [] else [y] := by
  have hi := (List.getElem?_eq_some_iff.1 h).1
  have e : E[i] = y := (List.getElem?_eq_some_iff.1 h).2
  unfold restQ
  rw [List.take_succ_eq_append_getElem hi, e, List.filter_append]
  congr 1
  cases hk : (xs.map (·.t)).contains y.t
  · rw [List.filter_cons_of_pos (by rw [hk]; rfl)]; rfl
  · rw [List.filter_cons_of_neg (by rw [hk]; decide)]; rfl
theorem contains_snoc {xs : List ChQ} {k : Nat} {x : ChQ} (h : xs[k]? = some x) (t : Nat) : ((xs.take (k + 1)).map (·.t)).contains t = (((xs.take k).map (·.t)).contains t || t == x.t) := by
  have hi := (List.getElem?_eq_some_iff.1 h).1
  have e : xs[k] = x := (List.getElem?_eq_some_iff.1 h).2
  rw [List.take_succ_eq_append_getElem hi, e, List.map_append, Bool.eq_iff_iff]
  simp
theorem nat_beq (a b : Nat) : ((a : Int) == (b : Int)) = (a == b) := by rw [Bool.eq_iff_iff]; simp; omega
/-- The walk over the pieces. -/
structure TeI (w : World) (E xs : List ChQ) (i : Nat) (ka : Option Addr) (kn kc : Nat) (θ : Nat) (cs : List Value) (wr : World) : Prop where
  bel : Below w.heap.size w wr
  own : OwnG 47 14 ChQ.vals wr w.heap.size ka kn kc (restQ (E.take i) xs)
  box : Stc wr θ cs
  lo : w.heap.size ≤ θ
  ne : ∀ g, (Value.slice ka kn kc).ownBlock = some g → g ≠ θ
theorem TeI.below {w wr w' : World} {E xs : List ChQ} {i : Nat} {ka : Option Addr} {kn kc θ : Nat} {cs : List Value} (h : TeI w E xs i ka kn kc θ cs wr) (hb : Below wr.heap.size wr w') : TeI w E xs i ka kn kc θ cs w' :=
  ⟨h.bel.trans (hb.mono h.bel.size), OwnG.below h.own hb, h.box.below hb, h.lo, h.ne⟩
theorem TeI.app {w wr w9 : World} {E xs : List ChQ} {i : Nat} {ka : Option Addr} {kn kc θ : Nat} {cs : List Value} {y : ChQ} {o : Obj} {g9 c9 : Nat} (h : TeI w E xs i ka kn kc θ cs wr) (hx : E[i]? = some y) (hk : (xs.map (·.t)).contains y.t = false)
    (ho : OwnG 47 14 ChQ.vals w9 w.heap.size (some ⟨g9, 0, none⟩) (kn + 1) c9 (restQ (E.take i) xs ++ [y])) (hg : (wr.alloc o).grownBy w9 (Value.slice ka kn kc).ownBlock) (hl : (Value.slice ka kn kc).ownBlock = some g9 ∨ g9 = (wr.alloc o).heap.size) : TeI w E xs (i + 1) (some ⟨g9, 0, none⟩) (kn + 1) c9 θ cs w9 := by
  have b1 : Below wr.heap.size wr (wr.alloc o) := (Below.refl _ _).alloc (Nat.le_refl _) _
  have f1 : Fr (fun k => (Value.slice ka kn kc).ownBlock = some k) (wr.alloc o) w9 := Fr.grown hg (fun k hk => hk)
  have hb := h.box.lt
  refine ⟨h.bel.trans ((b1.mono h.bel.size).trans (f1.below _ (Nat.le_trans h.bel.size b1.size) (fun k hk => (h.own.own.lt k hk).1))), by rw [restQ_snoc hx, hk]; exact ho, (h.box.below b1).fr f1 (fun e => h.ne _ e rfl), h.lo, fun g hg2 => ?_⟩
  obtain rfl : g9 = g := Option.some.inj hg2
  rcases hl with hl | hl
  · exact h.ne _ hl
  · rw [hl]
    have e : (wr.alloc o).heap.size = wr.heap.size + 1 := by simp
    omega
/-- Messages told by the reference: the row, and the bytes, wherever they lie. -/
structure MsgsS (w : World) (a : Option Addr) (n c : Nat) (T : List Mg) : Prop where
  ex : ∃ (B : Nat) (ms : List Mq), ms.map (·.1) = T ∧ OwnM w B a n c ms ∧ ∀ x ∈ ms, Sl w x.2.1 x.1.zs.length x.2.2 x.1.zs
/-- tell's answer, and the streams behind it. -/
structure TelR (W0 w : World) (p : Nat) (nx : List Nat) (E : List ChQ) (V : List RyD) (Z : Nat → Prop) (L : Nat) (xs : List ChQ) (e : Ending) (w' : World) : Prop where
  ans : ∃ a n c, e = .returned (.slice a n c) ∧ MsgsS w' a n c (tellV nx (V.map RyD.mn) (joinQ xs) L).2
  st : ∃ r' nx' V' Z', RfS W0 w' p r' nx' (restQ E xs) V' Z' ∧ nx' = (tellV nx (V.map RyD.mn) (joinQ xs) L).1.1 ∧ V'.map RyD.mn = (tellV nx (V.map RyD.mn) (joinQ xs) L).1.2 ∧ ∀ g, Z' g → Z g ∨ w.heap.size ≤ g
  fr : Fr (fun g => g = p) w w'
set_option maxRecDepth 100000 in
set_option maxHeartbeats 8000000 in
/-- What is left (its text is what the walk comes to), and the walk given it. -/
noncomputable def telA : PSigma fun G0 : Prop => Hid G0 → ∀ (W0 w : World) (p : Nat) (r : Rw) (nx : List Nat) (E : List ChQ) (Vs : List RyD) (Z : Nat → Prop) (B : Nat) (la : Option Addr) (L lc : Nat) (xs : List ChQ) (Q : Ending → World → Prop), TeC W0 w p r nx E Vs Z B la L lc xs →
    (∀ e w', TelR W0 w p nx E Vs Z L xs e w' → Q e w') →
    Calls Try.prog 51 #[.pointer (some ⟨p, 0, none⟩), .slice la L lc] w Q := by
  apply PSigma.mk
  case snd =>
  intro h0 W0 w p r nx E Vs Z B la L lc xs Q hc hQ
  obtain ⟨aA, aC, lA, lC, vA, vC⟩ := r
  obtain ⟨n, hn⟩ : ∃ n, n = E.length := ⟨_, rfl⟩
  obtain ⟨an, han⟩ : ∃ v, v = nx.length := ⟨_, rfl⟩
  obtain ⟨vn, hvn⟩ : ∃ v, v = Vs.length := ⟨_, rfl⟩
  have hst3 : Stc w p [.slice aA an aC, .slice lA n lC, .slice vA vn vC] := by rw [hn, han, hvn]; exact hc.h.st
  have hp := hst3.lt
  have HL : Hid (RowR 14 ChQ.vals w Z lA n lC E) := by rw [hn]; exact hc.h.rl
  have hn128 : n ≤ 128 := by rw [hn]; exact hc.h.el
  have hcap := HL.out.cap.1
  have hLp := hc.pos
  have hLe := hc.le
  have hB := hc.big
  have hpB := hc.pB
  obtain ⟨lb, rfl, hlb1, hlb, hlcap, _, hlc, _⟩ := hc.own.at_ (fun _ => rfl) hLp
  have hxl : xs.length = L := hc.own.len
  obtain ⟨x, hx⟩ : ∃ x, xs[0]? = some x := ⟨_, List.getElem?_eq_getElem (by omega)⟩
  have hxf : x.f < 256 := (ChQ.sml (hc.ok x (List.mem_of_getElem? hx)).wf).2.1
  have hlc0 := hlc 0 x hx
  have HKC : Hid (∀ W, Below w.heap.size w W → W.cell? ⟨lb, 0, none⟩ = some (.int .u8 (x.k : Nat)) ∧ W.cell? ⟨lb, 1, none⟩ = some (.int .u8 (x.f : Nat)) ∧ W.cell? ⟨lb, 2, none⟩ = some (.int .u32 (x.t : Nat)) ∧ W.cell? ⟨lb, 3, none⟩ = some (.int .u16 (x.st : Nat)) ∧ W.cell? ⟨lb, 4, none⟩ = some (.int .u16 (x.ss : Nat)) ∧ W.cell? ⟨lb, 5, none⟩ = some (.int .u32 (x.pp : Nat)) ∧ W.cell? ⟨lb, 6, none⟩ = some (.int .u32 (x.tg : Nat)) ∧ W.cell? ⟨lb, 7, none⟩ = some (.int .u32 (x.rm : Nat)) ∧ W.cell? ⟨lb, 8, none⟩ = some (.int .u16 (x.os : Nat)) ∧ W.cell? ⟨lb, 9, none⟩ = some (.int .u16 (x.is : Nat)) ∧ W.cell? ⟨lb, 10, none⟩ = some (.slice x.bA x.bN x.bC) ∧ W.cell? ⟨lb, 11, none⟩ = some (.slice x.dA x.dN x.dC) ∧ W.cell? ⟨lb, 12, none⟩ = some (.slice x.pA x.pN x.pC) ∧ W.cell? ⟨lb, 13, none⟩ = some (.slice x.xA x.xN x.xC)) := by
    intro W hW
    have s2 : ∀ (i : Nat) u, x.vals[i]? = some u → W.cell? ⟨lb, i, none⟩ = some u := fun i u hu => (hW.cell (p := ⟨lb, i, none⟩) hlb).trans (by have := hlc0 i u hu; rwa [Nat.zero_mul, Nat.zero_add] at this)
    exact ⟨s2 0 _ rfl, s2 1 _ rfl, s2 2 _ rfl, s2 3 _ rfl, s2 4 _ rfl, s2 5 _ rfl, s2 6 _ rfl, s2 7 _ rfl, s2 8 _ rfl, s2 9 _ rfl, s2 10 _ rfl, s2 11 _ rfl, s2 12 _ rfl, s2 13 _ rfl⟩
  obtain ⟨fr, hfr⟩ : ∃ b, b = x.pc.free := ⟨_, rfl⟩
  have HFR : Hid (∀ V, Calls Try.prog 64 #[.agg #[.int .u8 (x.k : Nat), .int .u8 (x.f : Nat), .int .u32 (x.t : Nat), .int .u16 (x.st : Nat), .int .u16 (x.ss : Nat), .int .u32 (x.pp : Nat), .int .u32 (x.tg : Nat), .int .u32 (x.rm : Nat), .int .u16 (x.os : Nat), .int .u16 (x.is : Nat), .slice x.bA x.bN x.bC, .slice x.dA x.dN x.dC, .slice x.pA x.pN x.pC, .slice x.xA x.xN x.xC]] V fun e w' => e = .returned (.bool fr) ∧ Below V.heap.size V w') := by
    intro V
    rw [hfr]
    exact rfree_any x V hxf _ rfl
  have HH := (show Hid _ from And.intro hc (And.intro hst3 (And.intro hx hfr)))
  have HLC := (show Hid _ from hlc)
  have HN := (show Hid _ from And.intro hn (And.intro han hvn))
  clear hc hst3 hx hfr hlc hlc0 hn han hvn
  go_enter Try.func51, Try.ntmps51
  go_wp2_with fail
  refine wp_region_parW mixedX (fun θ : Nat => [(17, .slice (some ⟨lb, 0, none⟩) L lc), (18, .pointer (some ⟨lb, 0, none⟩)), (19, .pointer (some ⟨lb, 3, none⟩)), (20, .int .u16 (x.st : Nat)), (21, .slice (some ⟨lb, 0, none⟩) L lc), (22, .pointer (some ⟨lb, 0, none⟩)), (23, .pointer (some ⟨lb, 5, none⟩)), (24, .int .u32 (x.pp : Nat)), (25, .slice (some ⟨lb, 0, none⟩) L lc), (26, .pointer (some ⟨lb, 0, none⟩)), (27, .agg #[.int .u8 (x.k : Nat), .int .u8 (x.f : Nat), .int .u32 (x.t : Nat), .int .u16 (x.st : Nat), .int .u16 (x.ss : Nat), .int .u32 (x.pp : Nat), .int .u32 (x.tg : Nat), .int .u32 (x.rm : Nat), .int .u16 (x.os : Nat), .int .u16 (x.is : Nat), .slice x.bA x.bN x.bC, .slice x.dA x.dN x.dC, .slice x.pA x.pN x.pC, .slice x.xA x.xN x.xC]), (28, .bool fr), (29, .agg #[.int .u16 (x.st : Nat), .int .u16 0, .int .u32 (x.pp : Nat), .bool fr, .slice none 0 0]), (5, .pointer (some ⟨θ, 0, none⟩))]) (fun θ l V => RgC 13 14 w [.int .u16 0, .int .u16 0, .int .u32 0, .bool false, .slice none 0 0] [.int .u16 (x.st : Nat), .int .u16 0, .int .u32 (x.pp : Nat), .bool fr, .slice none 0 0] θ l V) 0 ?Z1 ?hZ1 (by kernel_rfl) (by kernel_rfl) (fun θ => by kernel_rfl) (by kernel_rfl) ?h01 ?hops1 ?he1
  case hZ1 => intro θ; simp only [List.foldl_cons, List.foldl_nil, List.setIfInBounds_toArray, List.set_cons_zero, List.set_cons_succ]; rfl
  case h01 => exact RgC.start (Below.refl _ _).drew
  case hops1 =>
    refine ⟨?_, ?_, ?_, ?_, ?_, ?_, ?_, ?_, ?_, ?_, ?_, ?_, ?_, ?_, ?_, trivial⟩
    · exact par_val (fun θ => by rfl) (fun θ l V hg => hg.other 0 (by decide) (by decide)) (fun θ l V hl hc hd hg => by have hB := hg.a4; obtain ⟨d0, d1, d2, d3, d4, d5, d6, d7, d8, d9, d10, d11, d12, d13⟩ := HKC.out V hB; go_simp; (try with_reducible rfl); (try omega))
    · exact par_val (fun θ => by rfl) (fun θ l V hg => hg.other 1 (by decide) (by decide)) (fun θ l V hl hc hd hg => by have hB := hg.a4; obtain ⟨d0, d1, d2, d3, d4, d5, d6, d7, d8, d9, d10, d11, d12, d13⟩ := HKC.out V hB; go_simp; (try with_reducible rfl); (try omega))
    · exact par_val (fun θ => by rfl) (fun θ l V hg => hg.other 2 (by decide) (by decide)) (fun θ l V hl hc hd hg => by have hB := hg.a4; obtain ⟨d0, d1, d2, d3, d4, d5, d6, d7, d8, d9, d10, d11, d12, d13⟩ := HKC.out V hB; go_simp; (try with_reducible rfl); (try omega))
    · exact par_val (fun θ => by rfl) (fun θ l V hg => hg.other 3 (by decide) (by decide)) (fun θ l V hl hc hd hg => by have hB := hg.a4; obtain ⟨d0, d1, d2, d3, d4, d5, d6, d7, d8, d9, d10, d11, d12, d13⟩ := HKC.out V hB; go_simp; (try with_reducible rfl); (try omega))
    · exact par_val (fun θ => by rfl) (fun θ l V hg => hg.other 4 (by decide) (by decide)) (fun θ l V hl hc hd hg => by have hB := hg.a4; obtain ⟨d0, d1, d2, d3, d4, d5, d6, d7, d8, d9, d10, d11, d12, d13⟩ := HKC.out V hB; go_simp; (try with_reducible rfl); (try omega))
    · exact par_val (fun θ => by rfl) (fun θ l V hg => hg.other 5 (by decide) (by decide)) (fun θ l V hl hc hd hg => by have hB := hg.a4; obtain ⟨d0, d1, d2, d3, d4, d5, d6, d7, d8, d9, d10, d11, d12, d13⟩ := HKC.out V hB; go_simp; (try with_reducible rfl); (try omega))
    · exact par_val (fun θ => by rfl) (fun θ l V hg => hg.other 6 (by decide) (by decide)) (fun θ l V hl hc hd hg => by have hB := hg.a4; obtain ⟨d0, d1, d2, d3, d4, d5, d6, d7, d8, d9, d10, d11, d12, d13⟩ := HKC.out V hB; go_simp; (try with_reducible rfl); (try omega))
    · exact par_val (fun θ => by rfl) (fun θ l V hg => hg.other 7 (by decide) (by decide)) (fun θ l V hl hc hd hg => by have hB := hg.a4; obtain ⟨d0, d1, d2, d3, d4, d5, d6, d7, d8, d9, d10, d11, d12, d13⟩ := HKC.out V hB; go_simp; (try with_reducible rfl); (try omega))
    · exact par_val (fun θ => by rfl) (fun θ l V hg => hg.other 8 (by decide) (by decide)) (fun θ l V hl hc hd hg => by have hB := hg.a4; obtain ⟨d0, d1, d2, d3, d4, d5, d6, d7, d8, d9, d10, d11, d12, d13⟩ := HKC.out V hB; go_simp; (try with_reducible rfl); (try omega))
    · exact par_val (fun θ => by rfl) (fun θ l V hg => hg.other 9 (by decide) (by decide)) (fun θ l V hl hc hd hg => by have hB := hg.a4; obtain ⟨d0, d1, d2, d3, d4, d5, d6, d7, d8, d9, d10, d11, d12, d13⟩ := HKC.out V hB; go_simp; (try with_reducible rfl); (try omega))
    · exact par_val (fun θ => by rfl) (fun θ l V hg => hg.other 10 (by decide) (by decide)) (fun θ l V hl hc hd hg => by have hB := hg.a4; obtain ⟨d0, d1, d2, d3, d4, d5, d6, d7, d8, d9, d10, d11, d12, d13⟩ := HKC.out V hB; go_simp; (try with_reducible rfl); (try omega))
    · exact par_call (fun θ => by rfl) rfl (vs := fun _ => [.agg #[.int .u8 (x.k : Nat), .int .u8 (x.f : Nat), .int .u32 (x.t : Nat), .int .u16 (x.st : Nat), .int .u16 (x.ss : Nat), .int .u32 (x.pp : Nat), .int .u32 (x.tg : Nat), .int .u32 (x.rm : Nat), .int .u16 (x.os : Nat), .int .u16 (x.is : Nat), .slice x.bA x.bN x.bC, .slice x.dA x.dN x.dC, .slice x.pA x.pN x.pC, .slice x.xA x.xN x.xC]]) (fun θ => by rfl) Try.func64 (by rfl) (by rfl) (fun θ l V hl hc hd hg => by
        have hB := hg.a4
        refine Calls.mono (HFR.out V) ?_
        rintro e V2 ⟨rfl, hb⟩
        exact ⟨_, rfl, θ, fun _ _ _ _ _ _ => rfl, fun d hd => (by cases hd; rfl), hg.call hb 11 (by decide) (by decide)⟩)
    · exact par_val (fun θ => by rfl) (fun θ l V hg => hg.other 12 (by decide) (by decide)) (fun θ l V hl hc hd hg => by have hB := hg.a4; obtain ⟨d0, d1, d2, d3, d4, d5, d6, d7, d8, d9, d10, d11, d12, d13⟩ := HKC.out V hB; go_simp; (try with_reducible rfl); (try omega))
    · exact par_run (fun θ => by rfl) (fun θ l V hl hc hd hg => by
        have hs : l 14 = false := (by cases h : l 14 with | false => rfl | true => exact absurd (hc 14 13 (by kernel_rfl) h) (by rw [hl]; decide))
        exact ⟨_, _, run_allocX rfl zero_msg, next_set (by kernel_rfl) V.heap.size [(5, .pointer (some ⟨V.heap.size, 0, none⟩), 13)] (by simp only [List.foldl_cons, List.foldl_nil, List.setIfInBounds_toArray, List.set_cons_zero, List.set_cons_succ]) (by kernel_rfl) (fun y hy => by simp at hy; subst hy; exact hl) (fun d hd => by cases hd; rfl) (hg.alloc hs (by decide) _ _ rfl)⟩)
    · exact par_skip (fun θ => by rfl) (fun θ l V hl hc hd hg => by
        have ha : l 13 = true := hd 13 (by kernel_rfl)
        obtain ⟨hth, hst⟩ := hg.store ha hl rfl
        exact ⟨_, run_storeX rfl (b := θ) (k := 0) (by rfl) (cs := [.int .u16 (x.st : Nat), .int .u16 0, .int .u32 (x.pp : Nat), .bool fr, .slice none 0 0]) (by rfl) hth (by kernel_rfl) (by intro v hv; simp at hv; rcases hv with rfl | rfl | rfl | rfl | rfl <;> rfl), ⟨θ, fun _ _ _ _ _ _ => rfl, fun d hd => (by cases hd), hst⟩⟩)
  case he1 =>
  intro θ l V hall hg
  have hSt := hg.a1 (hall 14 (by decide))
  have hTh := hg.a3 (hall 13 (by decide))
  have hBl := hg.a4
  clear hall hg

  have HI1 : Hid (Stc V θ [.int .u16 (x.st : Nat), .int .u16 0, .int .u32 (x.pp : Nat), .bool fr, .slice none 0 0] ∧ w.heap.size ≤ θ ∧ Below w.heap.size w V) := ⟨hSt, hTh.1, hBl⟩
  have f3 := hSt.cell 3 _ rfl
  have f1 := hSt.cell 1 _ rfl
  have f1f := hSt.free 1
  have g4 : V.cell? ⟨lb, 4, none⟩ = some (.int .u16 (x.ss : Nat)) := (HKC.out V hBl).2.2.2.2.1
  have HLO := (show Hid _ from hTh.1)
  clear hSt hTh hBl HFR
  go_upto_if 32 with fail
  go_cut [4] from 30 (fun u4 wd => u4 = .slice none 0 0 ∧ Stc wd θ [.int .u16 (x.st : Nat), .int .u16 ((if fr then 0 else x.ss : Nat) : Nat), .int .u32 (x.pp : Nat), .bool fr, .slice none 0 0] ∧ Below w.heap.size w wd)
  case first =>
    cases fr with
    | true =>
      go_wp2
      go_meet
      exact ⟨rfl, HI1.out.1, HI1.out.2.2⟩
    | false =>
      go_wp2
      go_meet
      exact ⟨rfl, HI1.out.1.set 1 _, HI1.out.2.2.setCell (p := ⟨θ, 1, none⟩) HI1.out.2.1 _⟩
  case rest =>
    obtain ⟨rfl, hbx, hbl⟩ := hcut
    obtain ⟨ss, hss⟩ : ∃ s : Nat, s = if fr then 0 else x.ss := ⟨_, rfl⟩
    rw [← hss] at hbx
    have HSS := (show Hid _ from hss)
    clear HI1 f3 f1 f1f g4 hss
    have HI0 : Hid (TeI w E xs 0 (some ⟨wc.heap.size, 0, none⟩) 0 0 θ [.int .u16 (x.st : Nat), .int .u16 (ss : Nat), .int .u32 (x.pp : Nat), .bool fr, .slice none 0 0] (wc.alloc (.cells #[] 47))) := by
      have b1 : Below wc.heap.size wc (wc.alloc (.cells #[] 47)) := (Below.refl _ _).alloc (Nat.le_refl _) _
      refine ⟨hbl.trans (b1.mono hbl.size), OwnG.base (OwnG.empty (T := 47) (k := 14) (cf := ChQ.vals) wc) hbl.size, hbx.below b1, HLO.out, fun g hg => ?_⟩
      obtain rfl : wc.heap.size = g := Option.some.inj hg
      have := hbx.lt
      omega
    clear hbx hbl
    go_wp2_with fail
    go_loopw [6, 7] (fun kv iv wr => ∃ (i : Nat) (ka : Option Addr) (kn kc : Nat), i ≤ n ∧ kv = .slice ka kn kc ∧ iv = .int .i64 (i : Nat) ∧ TeI w E xs i ka kn kc θ [.int .u16 (x.st : Nat), .int .u16 (ss : Nat), .int .u32 (x.pp : Nat), .bool fr, .slice none 0 0] wr) (fun _ iv _ => n - (intOf iv).toNat)
    case atStart => exact ⟨0, _, 0, 0, by omega, rfl, rfl, HI0.out⟩
    case round =>
      obtain ⟨i, ka, kn, kc, hin, rfl, rfl, hI⟩ := hrel
      clear HI0
      have d1 := (hI.bel.cell (p := ⟨p, 1, none⟩) hp).trans (HH.out.2.1.cell 1 _ rfl)
      have HI := (show Hid _ from hI)
      by_cases hlt : i < n
      · have g1 : (i : Int) < (n : Int) := by omega
        have g0 : (0 : Int) ≤ (i : Int) := by omega
        obtain ⟨eb, y, rfl, heb, hZ, hy, hcy⟩ := HL.out.get hlt
        have HY := (show Hid _ from And.intro hy (And.intro hcy heb))
        have hkn : kn ≤ 128 := by
          have h1 := hI.own.len
          have h2 : (restQ (E.take i) xs).length ≤ (E.take i).length := List.length_filter_le _ _
          have h3 : (E.take i).length ≤ i := List.length_take_le _ _
          omega
        clear hI hy hcy hZ
        go_wp2
        go_loopw [8, 9] (fun ov kv ws => ∃ k : Nat, k ≤ L ∧ ov = .bool (((xs.take k).map (·.t)).contains y.t) ∧ kv = .int .i64 (k : Nat) ∧ TeI w E xs i ka kn kc θ [.int .u16 (x.st : Nat), .int .u16 (ss : Nat), .int .u32 (x.pp : Nat), .bool fr, .slice none 0 0] ws) (fun _ kv _ => L - (intOf kv).toNat)
        case atStart => exact ⟨0, by omega, by simp, rfl, HI.out⟩
        case round =>
          obtain ⟨k, hkL, rfl, rfl, hJ⟩ := hrel
          clear d1
          have d1 := (hJ.bel.cell (p := ⟨p, 1, none⟩) hp).trans (HH.out.2.1.cell 1 _ rfl)
          have HJ := (show Hid _ from hJ)
          by_cases hlt2 : k < L
          · have g2 : (k : Int) < (L : Int) := by omega
            have g3 : (0 : Int) ≤ (k : Int) := by omega
            obtain ⟨z, hz⟩ : ∃ z, xs[k]? = some z := ⟨_, List.getElem?_eq_getElem (by omega)⟩
            have HCO : Hid (((xs.take (k + 1)).map (·.t)).contains y.t = (((xs.take k).map (·.t)).contains y.t || y.t == z.t)) := contains_snoc hz y.t
            have d2 := (hJ.bel.cell (p := ⟨eb, i * 14 + 2, none⟩) HY.out.2.2).trans (HY.out.2.1 2 _ rfl)
            have d3 := (hJ.bel.cell (p := ⟨lb, k * 14 + 2, none⟩) hlb).trans (HLC.out k z hz 2 _ rfl)
            clear hJ hz
            obtain ⟨of, hof⟩ : ∃ b, b = ((xs.take k).map (·.t)).contains y.t := ⟨_, rfl⟩
            rw [← hof] at HCO ⊢
            clear hof
            cases of with
            | true =>
              go_wp2_with fail
              go_quiet (fail)
              go_wp2
              go_roundw
              case rel => exact ⟨k + 1, by omega, by rw [HCO.out, Bool.true_or], by go_num, HJ.out.below (drewN_below _ _)⟩
              case measure => simp [intOf]; omega
            | false =>
              go_wp2_with fail
              go_quiet (fail)
              go_wp2
              go_roundw
              case rel => exact ⟨k + 1, by omega, by rw [HCO.out, Bool.false_or, nat_beq], by go_num, HJ.out.below (drewN_below _ _)⟩
              case measure => simp [intOf]; omega
          · obtain rfl : k = L := by omega
            have g2 : ¬ (k : Int) < (k : Int) := by omega
            have e1 : xs.take k = xs := List.take_of_length_le (by omega)
            rw [e1]
            obtain ⟨of, hof⟩ : ∃ b, b = (xs.map (·.t)).contains y.t := ⟨_, rfl⟩
            rw [← hof]
            have HOF := (show Hid _ from hof)
            clear hof e1
            cases of with
            | true =>
              clear hJ
              go_wp2
              go_roundw
              case rel => exact ⟨i + 1, ka, kn, kc, by omega, rfl, by go_num, ⟨HJ.out.bel, by rw [restQ_snoc HY.out.1, ← HOF.out]; simpa using HJ.out.own, HJ.out.box, HJ.out.lo, HJ.out.ne⟩⟩
              case measure => simp [intOf]; omega
            | false =>
              have hcx : ∀ j u, y.vals[j]? = some u → wr.cell? ⟨eb, i * 14 + j, none⟩ = some u := fun j u hu => (hJ.bel.cell (p := ⟨eb, i * 14 + j, none⟩) HY.out.2.2).trans (HY.out.2.1 j u hu)
              have y0 : wr.cell? ⟨eb, i * 14, none⟩ = some (.int .u8 (y.k : Nat)) := hcx 0 _ rfl
              have y1 : wr.cell? ⟨eb, i * 14 + 1, none⟩ = some (.int .u8 (y.f : Nat)) := hcx 1 _ rfl
              have y2 : wr.cell? ⟨eb, i * 14 + 2, none⟩ = some (.int .u32 (y.t : Nat)) := hcx 2 _ rfl
              have y3 : wr.cell? ⟨eb, i * 14 + 3, none⟩ = some (.int .u16 (y.st : Nat)) := hcx 3 _ rfl
              have y4 : wr.cell? ⟨eb, i * 14 + 4, none⟩ = some (.int .u16 (y.ss : Nat)) := hcx 4 _ rfl
              have y5 : wr.cell? ⟨eb, i * 14 + 5, none⟩ = some (.int .u32 (y.pp : Nat)) := hcx 5 _ rfl
              have y6 : wr.cell? ⟨eb, i * 14 + 6, none⟩ = some (.int .u32 (y.tg : Nat)) := hcx 6 _ rfl
              have y7 : wr.cell? ⟨eb, i * 14 + 7, none⟩ = some (.int .u32 (y.rm : Nat)) := hcx 7 _ rfl
              have y8 : wr.cell? ⟨eb, i * 14 + 8, none⟩ = some (.int .u16 (y.os : Nat)) := hcx 8 _ rfl
              have y9 : wr.cell? ⟨eb, i * 14 + 9, none⟩ = some (.int .u16 (y.is : Nat)) := hcx 9 _ rfl
              have y10 : wr.cell? ⟨eb, i * 14 + 10, none⟩ = some (.slice y.bA y.bN y.bC) := hcx 10 _ rfl
              have y11 : wr.cell? ⟨eb, i * 14 + 11, none⟩ = some (.slice y.dA y.dN y.dC) := hcx 11 _ rfl
              have y12 : wr.cell? ⟨eb, i * 14 + 12, none⟩ = some (.slice y.pA y.pN y.pC) := hcx 12 _ rfl
              have y13 : wr.cell? ⟨eb, i * 14 + 13, none⟩ = some (.slice y.xA y.xN y.xC) := hcx 13 _ rfl
              have hbs := hJ.bel.size
              clear hJ hcx
              go_wp2_with (first
                | (at_builtin; refine OwnG.wpl layCq rfl _ _ rfl rfl (OwnG.below HJ.out.own ((Below.refl _ _).alloc (Nat.le_refl _) (.cells #[.int .u8 (y.k : Nat), .int .u8 (y.f : Nat), .int .u32 (y.t : Nat), .int .u16 (y.st : Nat), .int .u16 (y.ss : Nat), .int .u32 (y.pp : Nat), .int .u32 (y.tg : Nat), .int .u32 (y.rm : Nat), .int .u16 (y.os : Nat), .int .u16 (y.is : Nat), .slice y.bA y.bN y.bC, .slice y.dA y.dN y.dC, .slice y.pA y.pN y.pC, .slice y.xA y.xN y.xC] 47))) y ⟨wr.heap.size, 0, none⟩ rfl (st_add (Stc.new wr y.vals 47 _ rfl)) (by unfold maxLen; omega) (by omega) (Nat.le_trans hbs (by simp)) ?_; intro g9 c9 w9 ho9 hg9 hl9 hlt9; have H9 := (show Hid _ from And.intro ho9 (And.intro hg9 (And.intro hl9 hlt9))); clear ho9 hg9 hl9 hlt9)
                | fail)
              go_roundw
              case rel => exact ⟨i + 1, _, _, c9, by omega, rfl, by go_num, HJ.out.app HY.out.1 HOF.out.symm H9.out.1 H9.out.2.1 H9.out.2.2.1⟩
              case measure => simp [intOf]; omega
      · obtain rfl : i = n := by omega
        have g1 : ¬ (i : Int) < (i : Int) := by omega
        have f1f := (HH.out.2.1.fr (Fr.of_below (P := fun _ => False) hI.bel) (fun e => e)).free 1
        clear hI
        obtain ⟨wz, hwz⟩ : ∃ wz, wz = wr.setCell ⟨p, 1, none⟩ (.slice ka kn kc) := ⟨_, rfl⟩
        have HF : Hid (TeS W0 w p ⟨aA, aC, lA, lC, vA, vC⟩ nx E Vs Z B (some ⟨lb, 0, none⟩) L lc xs ka kc wz ∧ Stc wz θ [.int .u16 (x.st : Nat), .int .u16 (ss : Nat), .int .u32 (x.pp : Nat), .bool fr, .slice none 0 0] ∧ w.heap.size ≤ θ ∧ kn = (restQ E xs).length ∧ ∀ g, (Value.slice ka kn kc).ownBlock = some g → g ≠ θ) := by
          have hI := HI.out
          have hc := HH.out.1
          have e1 : E.take i = E := List.take_of_length_le (by have := HN.out.1; omega)
          have ho := hI.own
          rw [e1] at ho
          have hl := ho.len
          have hf : Fr (fun g => g = p) wr wz := by rw [hwz]; exact Fr.setCell _ _ _ _ rfl
          have hst := (hc.h.st.fr (Fr.of_below (P := fun _ => False) hI.bel) (fun e => e)).set 1 (.slice ka kn kc)
          rw [← hwz] at hst
          have ho2 := OwnG.fr ho hf (fun g hg e => by have := (ho.own.lt g hg).1; omega)
          rw [← hl] at hst ho2
          exact ⟨⟨hc, (Fr.of_below hI.bel).trans hf, hst, ho2⟩, hI.box.fr hf (by have := hI.lo; omega), hI.lo, hl.symm, hI.ne⟩
        go_wp2_with fail
        rw [← hwz]
        obtain ⟨hS, hbx, hlo, rfl, hnk⟩ := HF.out
        have HX0 : Hid (xs[0]? = some x ∧ fr = x.pc.free ∧ ss = if fr then 0 else x.ss) := ⟨HH.out.2.2.1, HH.out.2.2.2, HSS.out⟩
        clear HF hwz HI HN HH HL HLC HKC HLO HSS d1 f1f g1 hcap hn128 hlb hlb1 hlcap hxf
        (repeat revert ‹_›); intro h0; exact h0.out
end Go.Proofs.Ytjaheelgcjafcaa
