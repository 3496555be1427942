/- law09.ArpOrder: what is taken out of frames; which bodies wait: mathematics and the inner function. -/
import Derived.Test.YtpmnjfkcffddgaaArN
namespace Go.Proofs.Ytpmnjfkcffddgaa
open Go.RowKit
def stC (s : List Nat) : List Value := [.string (strOf s)]
abbrev OwnZ := OwnG 9 1 stC
theorem layZ : Lays Try.prog 48 9 1 16 stC :=
  ⟨Try.underlying48, ⟨.string ⟨#[]⟩, by kernel_rfl, rfl⟩, by decide, fun _ => rfl, fun x u hu => by simp [stC] at hu; subst hu; rfl⟩
/-- The bodies that frames carry. -/
def ipB (fs : List (List Nat)) : List (List Nat) := (fs.filter fun L => tkN L 12 2 == 2048).map tkB
theorem ipB_app (a b : List (List Nat)) : ipB (a ++ b) = ipB a ++ ipB b := by unfold ipB; rw [List.filter_append, List.map_append]
theorem ipB_one (L : List Nat) : ipB [L] = if tkN L 12 2 = 2048 then [tkB L] else [] := by
  unfold ipB
  rw [List.filter_cons]
  by_cases e : tkN L 12 2 = 2048
  · rw [if_pos (by rw [e]; rfl), if_pos e]; rfl
  · rw [if_neg (by simpa using e), if_neg e]; rfl
theorem ipB_ip {t m : Nat} {zs : List Nat} (ht : t < 281474976710656) (hm : m < 281474976710656) (hz : zs.length ≤ 1500) : ipB [epV t m 2048 zs] = [zs] := by
  obtain ⟨h1, h2, h3, h4⟩ := ep_ok ht hm (k := 2048) (by omega) (by omega) hz
  rw [ipB_one, if_pos h3, h4]
theorem ipB_arp {t m op fm fi tm ti : Nat} (ht : t < 281474976710656) (hm : m < 281474976710656) : ipB [epV t m 2054 (arpB op fm fi tm ti)] = [] := by
  obtain ⟨h1, h2, h3, _⟩ := ep_ok ht hm (k := 2054) (zs := arpB op fm fi tm ti) (by omega) (by omega) (by rw [arpB_len]; omega)
  rw [ipB_one, if_neg (by rw [h3]; decide)]
theorem ipB_ws {mac m : Nat} (hm : m < 281474976710656) (hc : mac < 281474976710656) : ∀ (ws : List Bd), (∀ b ∈ ws, b.zs.length ≤ 1500) → ipB (ws.map fun b => epV m mac 2048 b.zs) = ws.map (·.zs) := by
  intro ws
  induction ws with
  | nil => intro _; rfl
  | cons b ws ih =>
    intro h
    have e : (b :: ws).map (fun b => epV m mac 2048 b.zs) = [epV m mac 2048 b.zs] ++ ws.map (fun b => epV m mac 2048 b.zs) := rfl
    rw [e, ipB_app, ih (fun b hb => h b (List.mem_cons_of_mem _ hb)), ipB_ip hm hc (h b List.mem_cons_self)]
    rfl
/-- The bodies that wait for the neighbour 2. -/
def wt2 (D : List (Nat × Nbr)) : List (List Nat) := (nbAt D 2).ws.map (·.zs)
theorem nbAt_put {D : List (Nat × Nbr)} (hs : Srt D) (q : Nat) (x : Nbr) : nbAt (putD D q x) q = x := by unfold nbAt; rw [look_put _ _ _ _ hs, if_pos rfl]; rfl
theorem send_ord {mac ip : Nat} {now lost : Int} {D : List (Nat × Nbr)} {zs : List Nat} {t now' lost' : Int} {D' : List (Nat × Nbr)} {er : Nat} {fs : List (List Nat)} (h : SendR mac ip now lost D 2 zs t now' lost' D' er fs) (hp : PuOk D) (hs : Srt D) (hm : mac < 281474976710655) (hn : now ≤ t) :
    wt2 D ++ (if er = 0 then [zs] else []) = ipB fs ++ wt2 D' ∧ lost ≤ lost' ∧ lost' ≤ lost + 1 ∧ now' ≤ t ∧ fs.length ≤ 1 := by
  cases h with
  | bad h1 => exact ⟨by rw [if_neg h1, List.append_nil]; rfl, by omega, by omega, hn, by simp⟩
  | full h1 h2 => exact ⟨by rw [if_neg (by decide), List.append_nil]; rfl, by omega, by omega, hn, by simp⟩
  | known x h1 h2 h3 =>
    obtain ⟨_, _, _, _, hz⟩ := sendE_ok h1
    have hw := (hp _ (lookD_mem h2)).2.1 h3
    have e : wt2 D = [] := by unfold wt2 nbAt; rw [h2]; show x.ws.map _ = []; dsimp only at hw; rw [hw]; rfl
    refine ⟨?_, by omega, by omega, by omega, by simp⟩
    rw [e, ipB_ip (by have := (hp _ (lookD_mem h2)).1; dsimp only at this; omega) (by omega) hz]
    rfl
  | wait x g c b h1 h2 h3 h4 h5 =>
    refine ⟨?_, by omega, by omega, by omega, by simp⟩
    have e1 : wt2 D = x.ws.map (·.zs) := by unfold wt2 nbAt; rw [h2]; rfl
    have e2 : wt2 (putD D 2 (waitX x g c b)) = x.ws.map (·.zs) ++ [zs] := by unfold wt2; rw [nbAt_put hs, ← h5]; unfold waitX; simp
    rw [e1, e2]
    rfl
  | ask g c b h1 h2 h3 h5 =>
    refine ⟨?_, by omega, by omega, by omega, by simp⟩
    have e1 : wt2 D = [] := by unfold wt2 nbAt; rw [h2]; rfl
    have e2 : wt2 (putD (roomD D) 2 (askX (waitX zeroNb g c b) t)) = [zs] := by unfold wt2; rw [nbAt_put (wt_room hs hp).2.2, ← h5]; rfl
    rw [e1, e2, ipB_arp (by omega) (by omega)]
    rfl
theorem take_ord {mac : Nat} {D : List (Nat × Nbr)} {t : Int} (hp : PuOk D) (hs : Srt D) (hm : mac < 281474976710655) :
    ipB (takeF mac 1 D 2 6 2 1) = wt2 D ∧ wt2 (takeD 1 D 2 6 1 t) = [] := by
  constructor
  · unfold takeF
    rw [if_neg (by simp), List.append_nil]
    unfold wsF wt2 nbAt
    cases hl : lookD D 2 with
    | none => rfl
    | some x => exact ipB_ws (by omega) (by omega) x.ws (hp _ (lookD_mem hl)).2.2
  · unfold takeD
    cases hl : lookD D 2 with
    | none =>
      rw [if_neg (by simp)]
      split
      · unfold wt2; rw [nbAt_put (wt_room hs hp).2.2]; rfl
      · unfold wt2 nbAt; rw [hl]; rfl
    | some x =>
      rw [if_pos (by simp)]
      unfold wt2
      rw [nbAt_put hs]
      rfl
/-- What was taken so far, in its box. -/
structure GotW (w : World) (B q0 : Nat) (kd : Nat → RoleA) (a : Option Addr) (n c : Nat) (G : List (List Nat)) : Prop where
  box : Stc w q0 [.slice a n c]
  row : OwnZ w B a n c G
  kq : kd q0 = .no
  kr : ∀ g, (Value.slice a n c).ownBlock = some g → kd g = .no ∧ g ≠ q0
theorem GotW.grow {w w' : World} {B q0 : Nat} {kd kd' : Nat → RoleA} {a : Option Addr} {n c : Nat} {G : List (List Nat)} (h : GotW w B q0 kd a n c G) (hg : GrowA kd kd' w w') : GotW w' B q0 kd' a n c G :=
  ⟨h.box.fr hg.fr (fun e => e h.kq), OwnG.fr h.row hg.fr (fun k hk e => e (h.kr k hk).1), hg.no _ h.box.lt h.kq, fun g hgb => ⟨hg.no g (h.row.own.lt g hgb).2 (h.kr g hgb).1, (h.kr g hgb).2⟩⟩
structure TkO (w : World) (kd : Nat → RoleA) (B q0 : Nat) (a : Option Addr) (n c : Nat) (G : List (List Nat)) (e : Ending) (w' : World) : Prop where
  out : ∃ v, e = .returned v
  got : ∃ a' n' c', GotW w' B q0 kd a' n' c' G ∧ (∀ g, (Value.slice a' n' c').ownBlock = some g → (Value.slice a n c).ownBlock = some g ∨ w.heap.size ≤ g)
  fr : Fr (fun k => k = q0 ∨ (Value.slice a n c).ownBlock = some k) w w'
set_option maxRecDepth 100000 in
set_option maxHeartbeats 8000000 in
theorem take_out {w : World} {kd : Nat → RoleA} {B Bf q0 : Nat} {a : Option Addr} {n c : Nat} {fs : List (List Nat)} (h : FrsW w kd Bf a n c fs) (hok : okFs 5 fs) (hn : n ≤ 1000) {ga : Option Addr} {gn gc : Nat} {G : List (List Nat)} (hg : GotW w B q0 kd ga gn gc G) (hgn : gn ≤ 1000) (hlt : q0 < Bf) (hgl : ∀ g, (Value.slice ga gn gc).ownBlock = some g → g < Bf) (hfresh : ∀ g, w.heap.size ≤ g → kd g = .no) (hB : B ≤ w.heap.size) :
    Calls Try.prog 16 #[.slice a n c, .pointer (some ⟨q0, 0, none⟩)] w (TkO w kd B q0 ga gn gc (G ++ ipB fs)) := by
  have hl := h.len
  obtain ⟨bs, h1, h2, h3, h4⟩ := h.ex
  have hcap := h2.cap.1
  have HN := (show Hid _ from hl)
  have HH := (show Hid _ from And.intro h1 (And.intro h2 (And.intro h3 (And.intro h4 hok))))
  have HG := (show Hid _ from hg)
  have HGL := (show Hid _ from hgl)
  have HFB : Hid (Bf ≤ w.heap.size ∨ n = 0) := by
    show _ ∨ _
    by_cases e : n = 0
    · exact .inr e
    · obtain ⟨g, _, hg1, hg2, _⟩ := OwnG.at_ h2 (fun _ => rfl) (by omega)
      exact .inl (by omega)
  clear h hl h1 h2 h3 h4 hok hg hgl
  go_enter Try.func16, Try.ntmps16
  go_wp2
  go_loopw [3] (fun u3 wr => ∃ (i : Nat) (a1 : Option Addr) (n1 c1 : Nat), i ≤ n ∧ u3 = .int .i64 (i : Nat) ∧ n1 ≤ gn + i ∧ GotW wr B q0 kd a1 n1 c1 (G ++ ipB (fs.take i)) ∧ (∀ g, (Value.slice a1 n1 c1).ownBlock = some g → (Value.slice ga gn gc).ownBlock = some g ∨ w.heap.size ≤ g) ∧ Fr (fun k => k = q0 ∨ (Value.slice ga gn gc).ownBlock = some k) w wr) (fun u3 _ => n - (intOf u3).toNat)
  case atStart => exact ⟨0, ga, gn, gc, by omega, rfl, by omega, by simpa [ipB] using HG.out, fun g hg => .inl hg, Fr.refl _ _⟩
  case round =>
    obtain ⟨i, a1, n1, c1, hi, rfl, hn1, hgw, hgb, hfw⟩ := hrel
    by_cases hlt2 : i < n
    · have hlt1 : (i : Int) < (n : Int) := by omega
      obtain ⟨h1, h2, h3, h4, hok⟩ := HH.out
      have hBf : Bf ≤ w.heap.size := by rcases HFB.out with e | e <;> omega
      obtain ⟨b, hb⟩ : ∃ b, bs[i]? = some b := ⟨_, List.getElem?_eq_getElem (by have := h2.len; omega)⟩
      have hbm := List.mem_of_getElem? hb
      have hfi : fs[i]? = some b.zs := by rw [← h1, List.getElem?_map, hb]; rfl
      obtain ⟨k1, k2⟩ := hok b.zs (List.mem_of_getElem? hfi)
      obtain ⟨g, rfl, hgB, hgl, hnc, _, hcl, _⟩ := OwnG.at_ h2 (fun _ => rfl) (by omega)
      have cb := hcl i b hb 0 _ rfl
      rw [Nat.mul_one, Nat.add_zero] at cb
      have hnq : ∀ k, Bf ≤ k → ¬ (k = q0 ∨ (Value.slice ga gn gc).ownBlock = some k) := fun k hk e => by
        rcases e with e | e
        · omega
        · have := HGL.out k e; omega
      have cb2 := (hfw.cell ⟨g, i, none⟩ hgl (hnq g hgB)).trans cb
      have hsl : Sl wr b.a b.n b.c b.zs := Sl.frA (h4 b hbm).1 hfw (fun k o e hQ => hnq k ((h4 b hbm).2 k o e).2.1 hQ)
      have HTK := (show Hid _ from take_any _ _ _ _ wr hsl)
      have HCT : Hid (ipB (fs.take (i + 1)) = ipB (fs.take i) ++ (if tkN b.zs 12 2 = 2048 then [tkB b.zs] else [])) := by
        show _ = _
        rw [List.take_add_one, hfi, ipB_app]
        congr 1
        exact ipB_one b.zs
      have HB := (show Hid _ from And.intro hgw (And.intro hgb hfw))
      have HK := (show Hid _ from And.intro k1 k2)
      obtain ⟨G1, hG1⟩ : ∃ G1, G1 = ipB (fs.take i) := ⟨_, rfl⟩
      rw [← hG1] at HCT HB
      obtain ⟨ba, bn, bc, bz⟩ := b
      dsimp only at *
      clear h1 h2 h3 h4 hok hb hbm hfi k1 k2 hcl cb hgw hgb hfw hG1 hsl hnq
      go_wp2_with fail
      refine Calls.mono HTK.out ?_
      rintro e w2 ⟨⟨a2, c2, rfl, hs2⟩, hb2⟩
      rw [HK.out.1, HK.out.2]
      obtain ⟨hgw, hgb, hfw⟩ := HB.out
      obtain ⟨N0, hN0⟩ : ∃ N0, N0 = tkN bz 0 6 := ⟨_, rfl⟩
      obtain ⟨N2, hN2⟩ : ∃ N2, N2 = tkN bz 12 2 := ⟨_, rfl⟩
      obtain ⟨BY, hBY⟩ : ∃ BY, BY = tkB bz := ⟨_, rfl⟩
      rw [← hBY] at hs2 HCT ⊢
      rw [← hN0, ← hN2]
      rw [← hN2] at HCT
      obtain ⟨W3, hW3⟩ : ∃ W3, W3 = w2.alloc (.cells #[.int .u64 (N0 : Nat), .int .u64 5, .int .u16 (N2 : Nat), .slice a2 BY.length c2] 51) := ⟨_, rfl⟩
      have b3 : Below w2.heap.size w2 W3 := by rw [hW3]; exact (Below.refl _ _).alloc (Nat.le_refl _) _
      have bq : Below wr.heap.size wr W3 := hb2.trans (b3.mono hb2.size)
      have hg3 : GotW W3 B q0 kd a1 n1 c1 (G ++ G1) := hgw.grow (GrowA.of_below bq)
      have hf3 : Fr (fun k => k = q0 ∨ (Value.slice ga gn gc).ownBlock = some k) w W3 := hfw.trans (Fr.of_below bq)
      have hs3 := hs2.below b3
      by_cases h8 : N2 = 2048
      · subst h8
        replace hW3 : W3 = w2.alloc (.cells #[.int .u64 (N0 : Nat), .int .u64 5, .int .u16 2048, .slice a2 BY.length c2] 51) := hW3
        have hcs := conv_str hs3
        obtain ⟨W4, hW4⟩ : ∃ W4, W4 = W3.alloc (.cells #[.string (strOf BY)] 9) := ⟨_, rfl⟩
        have b4 : Below W3.heap.size W3 W4 := by rw [hW4]; exact (Below.refl _ _).alloc (Nat.le_refl _) _
        have st4 := Stc.new W3 [.string (strOf BY)] 9 W4 hW4
        have hg4 := hg3.grow (GrowA.of_below b4)
        have hwz : w.heap.size ≤ W4.heap.size := Nat.le_trans hf3.size b4.size
        obtain ⟨g7, c7, W7, hr7, ho7, hgr7, hwh7, hl7⟩ := OwnG.app layZ hg4.row 48 BY ⟨W3.heap.size, 0, none⟩ (fun j u hj => by
          rcases j with _ | j
          · have e1 : u = .string (strOf BY) := by simpa [stC] using hj.symm
            subst e1
            exact st4.cell 0 _ rfl
          · simp [stC] at hj) (by unfold maxLen; omega) (by omega) (by omega)
        have hf7 : Fr (fun k => (Value.slice a1 n1 c1).ownBlock = some k) W4 W7 := Fr.grown hgr7 (fun k hk => hk)
        have st7 : Stc W7 q0 [.slice a1 n1 c1] := hg4.box.fr hf7 (fun e => (hg4.kr q0 e).2 rfl)
        have hg7no : kd g7 = .no ∧ g7 ≠ q0 := by
          rcases hwh7 with e | e
          · exact hg4.kr g7 e
          · have := hg4.box.lt
            exact ⟨hfresh g7 (by omega), by omega⟩
        obtain ⟨W8, hW8⟩ : ∃ W8, W8 = W7.setCell ⟨q0, 0, none⟩ (.slice (some ⟨g7, 0, none⟩) (n1 + 1) c7) := ⟨_, rfl⟩
        have st8 := st7.set 0 (.slice (some ⟨g7, 0, none⟩) (n1 + 1) c7)
        rw [← hW8] at st8
        have hf8 : Fr (fun k => k = q0) W7 W8 := by rw [hW8]; exact Fr.setCell _ _ _ _ rfl
        have hgo8 : GotW W8 B q0 kd (some ⟨g7, 0, none⟩) (n1 + 1) c7 (G ++ G1 ++ [BY]) := ⟨st8, OwnG.fr ho7 hf8 (fun k hk e => by cases hk; exact hg7no.2 e), hg4.kq, fun k hk => by cases hk; exact hg7no⟩
        have hfr8 : Fr (fun k => k = q0 ∨ (Value.slice ga gn gc).ownBlock = some k) w W8 := by
          refine ⟨hf8.os.trans (hf7.os.trans (b4.os.trans hf3.os)), hf8.tape.trans (hf7.tape.trans (b4.tape.trans hf3.tape)), hf8.output.trans (hf7.output.trans (b4.output.trans hf3.output)), Nat.le_trans hwz (Nat.le_trans hf7.size hf8.size), fun k hk hnk => ?_⟩
          have hk3 := Nat.lt_of_lt_of_le hk hf3.size
          have hk4 := Nat.lt_of_lt_of_le hk3 b4.size
          rw [hf8.block k (Nat.lt_of_lt_of_le hk4 hf7.size) (fun e => hnk (.inl e)), hf7.block k hk4 (fun e => ?_), b4.block k hk3, hf3.block k hk hnk]
          rcases hgb k e with e2 | e2
          · exact hnk (.inr e2)
          · omega
        have hgb8 : ∀ g, (Value.slice (some ⟨g7, 0, none⟩) (n1 + 1) c7).ownBlock = some g → (Value.slice ga gn gc).ownBlock = some g ∨ w.heap.size ≤ g := fun g hgk => by
          obtain rfl : g7 = g := Option.some.inj hgk
          rcases hwh7 with e | e
          · exact hgb _ e
          · exact .inr (by rw [e]; exact hwz)
        have c0 := hg3.box.cell 0 _ rfl
        have hqlt := hg3.box.lt
        have c7' := st7.cell 0 _ rfl
        have f7' := st7.free 0
        have HZ := (show Hid _ from And.intro hgo8 (And.intro hgb8 hfr8))
        have hbl2 := b3
        have hsz : W3.heap.size = w2.heap.size + 1 := by rw [hW3]; simp
        rw [hsz] at hr7
        rw [hW4, hW3] at hr7
        clear hsz
        rw [hW3] at hcs c0
        have hq2 : q0 < w2.heap.size := Nat.lt_of_lt_of_le hgw.box.lt hb2.size
        have c02 := (hgw.grow (GrowA.of_below hb2)).box.cell 0 _ rfl
        clear hgw hgb hfw hg3 hf3 hs3 hs2 b3 bq b4 st4 hg4 hwz ho7 hgr7 hwh7 hl7 hf7 st7 hg7no st8 hf8 hgo8 hfr8 hgb8 hbl2 hW4 hW3 hb2 hN0 hBY hN2
        go_wp2_with (at_builtin; refine app_eq_list rfl _ _ rfl rfl rfl rfl hr7 ?_)
        rw [← hW8]
        go_roundw
        case rel => exact ⟨i + 1, _, _, c7, by omega, by go_num, by omega, by rw [HCT.out]; simpa using HZ.out.1, HZ.out.2.1, HZ.out.2.2⟩
        case measure => simp [intOf]; omega
      · have h81 : ((N2 : Int) == 2048) = false := by simp; omega
        have h82 : ¬ (N2 : Int) = 2048 := by omega
        have HZ := (show Hid _ from And.intro hg3 (And.intro hgb hf3))
        rw [hW3] at HZ
        clear hgw hgb hfw hg3 hf3 hs3 hs2 b3 bq hW3 hb2 hN0 hBY hN2
        go_wp2
        go_roundw
        case rel => exact ⟨i + 1, a1, n1, c1, by omega, by go_num, by omega, by rw [HCT.out, if_neg h8, List.append_nil]; exact HZ.out.1, HZ.out.2.1, HZ.out.2.2⟩
        case measure => simp [intOf]; omega
    · obtain rfl : i = n := by omega
      have ht : fs.take i = fs := List.take_of_length_le (by have := HN.out; omega)
      rw [ht] at hgw
      have HZ := (show Hid _ from And.intro hgw (And.intro hgb hfw))
      clear hgw hgb hfw
      go_wp2
      go_end0
      exact ⟨⟨_, rfl⟩, ⟨a1, n1, c1, HZ.out.1, HZ.out.2.1⟩, HZ.out.2.2⟩
end Go.Proofs.Ytpmnjfkcffddgaa
