/- law11.ReasmWhole's add at the pieces of a packet. -/
import Derived.Test.YtnbagloifbllbaaRsY
namespace Go.Proofs.Ytnbagloifbllbaa
open Go.RowKit
def stA (nm : Nm) (L : List Pc) : List (Nm × List Pc) := match L with | [] => [] | _ => [(nm, L)]
theorem look_stA (nm : Nm) (L : List Pc) : lookD (stA nm L) nm = L := by
  cases L with
  | nil => rfl
  | cons x L => simp [lookD, stA]
theorem put_stA (nm : Nm) (L : List Pc) (x : Pc) : putD (stA nm L) nm (L ++ [x]) = stA nm (L ++ [x]) := by
  cases L with
  | nil => simp [putD, stA]
  | cons y L => simp [putD, stA]
theorem del_stA (nm : Nm) (L : List Pc) : delD (stA nm L) nm = [] := by
  cases L with
  | nil => rfl
  | cons y L => simp [delD, stA]
theorem stA_len (nm : Nm) (L : List Pc) : (stA nm L).length ≤ 1 ∧ ∀ e ∈ stA nm L, e.2.length ≤ L.length := by
  cases L with
  | nil => simp [stA]
  | cons y L => simp [stA]
set_option maxRecDepth 100000 in
set_option maxHeartbeats 1000000 in
theorem wh_step {w0 w : World} {kd : Nat → Role} {br bl bt bf bp p gt : Nat} {sr ds pr tt id : Nat} {a : Option Addr} {c : Nat} {zs : List Nat} {la : Option Addr} {K lc : Nat} {ps : List Pk} {P : Nat → Nat} {mtu : Int} {ks : List Nat} (h : WhS w0 w kd br bl bt bf bp p gt sr ds pr tt id a c zs la K lc ps P mtu (stA (sr, ds, pr, id) (ks.map (cutD sr ds pr tt id K P zs))) ks) (hF : Fam K P zs (sr, ds, pr, id) (cutD sr ds pr tt id K P zs)) (hK : ps.length = K) (hK2 : 2 ≤ K) (hz : zs.length ≤ 4096) (hsr : sr < 4294967296) (hds : ds < 4294967296) (hpr : pr < 256) (htt : tt < 256) (hid : id < 65536) (k : Nat) (hk : k < K) (hl : ks.length < K) :
    Calls Try.prog 9 #[.int .i64 (k : Nat), .pointer (some ⟨br, 0, none⟩), .pointer (some ⟨bl, 0, none⟩), .pointer (some ⟨bt, 0, none⟩), .pointer (some ⟨bf, 0, none⟩), .pointer (some ⟨bp, 0, none⟩)] w fun e w' => ∃ kd', (k ∈ ks ∧ e = .returned (.tuple #[.bool false, .bool true]) ∧ WhS w0 w' kd' br bl bt bf bp p gt sr ds pr tt id a c zs la K lc ps P mtu (stA (sr, ds, pr, id) (ks.map (cutD sr ds pr tt id K P zs))) ks) ∨ (k ∉ ks ∧ ks.length + 1 < K ∧ e = .returned (.tuple #[.bool false, .bool true]) ∧ WhS w0 w' kd' br bl bt bf bp p gt sr ds pr tt id a c zs la K lc ps P mtu (stA (sr, ds, pr, id) ((ks ++ [k]).map (cutD sr ds pr tt id K P zs))) (ks ++ [k])) ∨ (k ∉ ks ∧ ks.length + 1 = K ∧ e = .returned (.tuple #[.bool true, .bool true]) ∧ WhS w0 w' kd' br bl bt bf bp p gt sr ds pr tt id a c zs la K lc ps P mtu [] (ks ++ [k])) := by
  obtain ⟨x, hx⟩ : ∃ x, ps[k]? = some x := ⟨_, List.getElem?_eq_getElem (by omega)⟩
  obtain ⟨e1, e2, e3, e4, e5, e6, e7, e8, e9, e10, e11, e12, e13⟩ := h.pc.each k x hx
  have hxl := h.xl x (List.mem_of_getElem? hx)
  obtain ⟨o0, o1, o2, o3, o4, o5, o6⟩ := h.ord
  have hinc := hF.inc k hk
  have hle := hF.le (j := k + 1) (by omega)
  have hx' := hx
  obtain ⟨xs, xd, xp, xt, xi, xn, xm, xo, xa, xl, xc⟩ := x
  simp only at e1 e2 e3 e4 e5 e6 e7 e8 e9 e10 e11 e12 e13
  subst e1 e2 e3 e4 e5 e6
  rw [hK] at e8
  obtain rfl : xm = decide (k + 1 < K) := by rw [e8]; simp
  obtain rfl : xo = ((P k : Nat) : Int) := by rw [e7]; simp
  have hxn : xl = P (k + 1) - P k := by omega
  obtain ⟨BY, hBY⟩ : ∃ BY, BY = (zs.drop (P k)).take xl := ⟨_, rfl⟩
  rw [← hBY] at e9
  have hD : (⟨xs, xd, xp, xt, xi, false, decide (k + 1 < K), ((P k : Nat) : Int), BY⟩ : Pc) = cutD xs xd xp xt xi K P zs k := by rw [hBY, hxn]; rfl
  have hpc : P k ≠ 0 ∨ decide (k + 1 < K) = true := by
    by_cases h0 : k = 0
    · right; rw [h0]; simp; omega
    · left
      have := hF.inj hk (j := 0) (by omega)
      rw [hF.p0] at this
      exact fun e => h0 (this e)
  have hkx : ∀ b off, xa = some ⟨b, off, none⟩ → kd b = .no := fun b off hb => h.hk b (by have := hxl (by dsimp only; omega) b off hb; omega) (by have := hxl (by dsimp only; omega) b off hb; omega)
  obtain ⟨now, dr, hs, hnow, hPW, hab⟩ := h.pool
  have hlk : lookD (absL hs) (xs, xd, xp, xi) = ks.map (cutD xs xd xp xt xi K P zs) := by rw [hab, look_stA]
  have hbd : ∀ q ∈ lookD (absL hs) (xs, xd, xp, xi), boundD q := fun q hq => by
    rw [hlk] at hq
    obtain ⟨j, hj, rfl⟩ := List.mem_map.1 hq
    exact hF.bound (h.kb j hj)
  have hcn := abs_counts hPW hab
  have hsl1 := stA_len (xs, xd, xp, xi) (ks.map (cutD xs xd xp xt xi K P zs))
  have hKs : K ≤ zs.length := by
    have := (all_iff (K := K) (ks := List.range K) List.nodup_range (fun j hj => by simpa using hj))
    have h2 : ∀ m, m ≤ K → m ≤ P m := by
      intro m
      induction m with
      | zero => intro _; omega
      | succ m ih => intro hm; have := ih (by omega); have := hF.inc m (by omega); omega
    have := h2 K (Nat.le_refl _)
    rw [hF.pK] at this
    exact this
  have hall := all_iff h.nd h.kb
  by_cases hm : k ∈ ks
  · have hwf := whadd_f h k hk ⟨xs, xd, xp, xt, xi, false, decide (k + 1 < K), ((P k : Nat) : Int), xa, xl, xc⟩ hx' (stA (xs, xd, xp, xi) (ks.map (cutD xs xd xp xt xi K P zs))) (.inr ⟨hm, hl⟩) (fun W hW => by
      refine (add_same (hPW.below hW) xs xd xp xt xi false (decide (k + 1 < K)) (P k) xa xl xc BY 1 (by omega) (by omega) hnow hsr hds hpr htt hid e12 (e9.below hW) hkx (by omega) (by omega) hpc hbd (by rw [hlk, hD, hF.anyS hk ks h.kb]; exact decide_eq_true hm)).mono ?_
      rintro e w' ⟨rfl, hP', hG'⟩
      exact ⟨(none, 0), kd, rfl, hG', ⟨⟨1, dr, hs, by omega, hP', hab⟩, fun e => (by cases e)⟩, fun _ _ e => (by cases e)⟩)
    refine hwf.mono ?_
    rintro e w' ⟨rfl, kd', hS⟩
    rw [if_pos hm] at hS
    exact ⟨kd', .inl ⟨hm, rfl, hS⟩⟩
  · have hnd2 : (ks ++ [k]).Nodup := by
      rw [List.nodup_append]
      exact ⟨h.nd, by simp, fun x hx y hy e => hm (by simp at hy; rw [← hy, ← e]; exact hx)⟩
    have hkb2 : ∀ j ∈ ks ++ [k], j < K := fun j hj => by
      rcases List.mem_append.1 hj with hj | hj
      · exact h.kb j hj
      · simp at hj; omega
    have hLL : ks.map (cutD xs xd xp xt xi K P zs) ++ [cutD xs xd xp xt xi K P zs k] = (ks ++ [k]).map (cutD xs xd xp xt xi K P zs) := by rw [List.map_append]; rfl
    have hsum := hF.sum hnd2 hkb2
    have hcall : ∀ W, Below w.heap.size w W → Calls Try.prog 10 #[.pointer (some ⟨p, 0, none⟩), .agg #[.int .u32 (xs : Nat), .int .u32 (xd : Nat), .int .u8 (xp : Nat), .int .u8 (xt : Nat), .int .u16 (xi : Nat), .bool false, .bool (decide (k + 1 < K)), .int .i64 ((P k : Nat) : Int), .slice xa xl xc], .int .i64 1] W (TnP kd p 1 dr hs (xs, xd, xp, xi) ((ks ++ [k]).map (cutD xs xd xp xt xi K P zs)) W) := fun W hW => by
      have := add_new (hPW.below hW) xs xd xp xt xi false (decide (k + 1 < K)) (P k) xa xl xc BY 1 (by omega) (by omega) hnow hsr hds hpr htt hid e12 (e9.below hW) hkx (by omega) (by omega) hpc hbd (by rw [hlk, hD, hF.anyS hk ks h.kb]; exact decide_eq_false hm) (fun q hq => by
        rw [hlk] at hq
        obtain ⟨j, hj, rfl⟩ := List.mem_map.1 hq
        rw [hD]
        exact hF.clash hk (h.kb j hj) (fun e => hm (e ▸ hj))) (.inl (by rw [hcn.1]; omega)) (hcn.2 1000000 (fun e he => by have := hsl1.2 e he; rw [List.length_map] at this; omega)) (by rw [hlk, hD, hLL]; omega) (by rw [hlk, hD, hLL]; exact hF.fit hnd2 hkb2)
      rw [hlk, hD, hLL] at this
      exact this
    by_cases hlt : ks.length + 1 < K
    · have hwf := whadd_f h k hk ⟨xs, xd, xp, xt, xi, false, decide (k + 1 < K), ((P k : Nat) : Int), xa, xl, xc⟩ hx' (stA (xs, xd, xp, xi) ((ks ++ [k]).map (cutD xs xd xp xt xi K P zs))) (.inl hlt) (fun W hW => by
        refine (hcall W hW).mono ?_
        rintro e w' ⟨kd', hs', hP', hG', hres⟩
        rcases hres with ⟨_, rfl, hab'⟩ | ⟨hw, _⟩
        · exact ⟨(none, 0), kd', rfl, hG', ⟨⟨1, dr, hs', by omega, hP', by rw [hab', hab, ← hLL, put_stA]⟩, fun e => (by cases e)⟩, fun _ _ e => (by cases e)⟩
        · have := hF.whole hnd2 hkb2 hw
          rw [List.length_append] at this
          simp at this
          omega)
      refine hwf.mono ?_
      rintro e w' ⟨rfl, kd', hS⟩
      rw [if_neg hm] at hS
      exact ⟨kd', .inr (.inl ⟨hm, hlt, rfl, hS⟩)⟩
    · have hKe : ks.length + 1 = K := by omega
      have hl2 : (ks ++ [k]).length = K := by rw [List.length_append]; exact hKe
      have hwt := whadd_t h k hk ⟨xs, xd, xp, xt, xi, false, decide (k + 1 < K), ((P k : Nat) : Int), xa, xl, xc⟩ hx' [] hm hKe (fun W hW => by
        refine (hcall W hW).mono ?_
        rintro e w' ⟨kd', hs', hP', hG', hres⟩
        rcases hres with ⟨hn, _⟩ | ⟨_, hab', g, rfl, hsg, hkg, hgw⟩
        · exact absurd hl2 (hF.notWhole hnd2 hkb2 hn)
        · rw [hF.head hnd2 hkb2 hl2, hsum.2.2 hl2]
          rw [hsum.2.2 hl2, hF.body hnd2 hkb2 hl2] at hsg
          refine ⟨(some ⟨g, 0, none⟩, zs.length), kd', ?_, hG', ⟨⟨1, dr, hs', by omega, hP', by rw [hab', hab, del_stA]⟩, fun _ => ⟨hsg, fun b off hb => ?_⟩⟩, fun q hq _ b off hb => ?_⟩
          · show _ = Ending.returned _
            unfold cutD
            rw [hF.p0]
            rfl
          · injection hb with hb
            injection hb with hb
            subst hb
            rcases hsg.at_ with h0 | ⟨b', off', e, hlt', _⟩
            · omega
            · injection e with e
              injection e with e
              subst e
              exact ⟨hlt', hkg⟩
          · injection hb with hb
            injection hb with hb
            subst hb
            omega)
      refine hwt.mono ?_
      rintro e w' ⟨rfl, kd', hS⟩
      exact ⟨kd', .inr (.inr ⟨hm, hKe, rfl, hS⟩)⟩
set_option maxRecDepth 100000 in
set_option maxHeartbeats 1000000 in
theorem wh_one {w0 w : World} {kd : Nat → Role} {br bl bt bf bp p gt : Nat} {sr ds pr tt id : Nat} {a : Option Addr} {c : Nat} {zs : List Nat} {la : Option Addr} {K lc : Nat} {ps : List Pk} {P : Nat → Nat} {mtu : Int} (h : WhS w0 w kd br bl bt bf bp p gt sr ds pr tt id a c zs la K lc ps P mtu [] []) (hK : ps.length = K) (hK1 : K = 1) (hz : zs.length ≤ 4096) (hsr : sr < 4294967296) (hds : ds < 4294967296) (hpr : pr < 256) (htt : tt < 256) (hid : id < 65536) :
    Calls Try.prog 9 #[.int .i64 ((0 : Nat) : Int), .pointer (some ⟨br, 0, none⟩), .pointer (some ⟨bl, 0, none⟩), .pointer (some ⟨bt, 0, none⟩), .pointer (some ⟨bf, 0, none⟩), .pointer (some ⟨bp, 0, none⟩)] w fun e w' => e = .returned (.tuple #[.bool true, .bool true]) ∧ ∃ kd', WhS w0 w' kd' br bl bt bf bp p gt sr ds pr tt id a c zs la K lc ps P mtu [] [0] := by
  obtain ⟨x, hx⟩ : ∃ x, ps[0]? = some x := ⟨_, List.getElem?_eq_getElem (by omega)⟩
  obtain ⟨e1, e2, e3, e4, e5, e6, e7, e8, e9, e10, e11, e12, e13⟩ := h.pc.each 0 x hx
  have hxl := h.xl x (List.mem_of_getElem? hx)
  obtain ⟨o0, o1, o2, o3, o4, o5, o6⟩ := h.ord
  have hp0 := h.pc.p0
  have hpK := h.pc.pK
  have hx' := hx
  obtain ⟨xs, xd, xp, xt, xi, xn, xm, xo, xa, xl, xc⟩ := x
  simp only at e1 e2 e3 e4 e5 e6 e7 e8 e9 e10 e11 e12 e13
  subst e1 e2 e3 e4 e5 e6
  rw [hK, hK1] at e8 hpK
  obtain rfl : xm = false := by rw [e8]; simp
  obtain rfl : xo = 0 := by rw [e7, hp0]; simp
  have hxn : xl = zs.length := by rw [hp0, hpK] at e10; omega
  have hby : (zs.drop (P 0)).take xl = zs := by rw [hp0, hxn]; simp
  rw [hby] at e9
  have hkx : 0 < xl → ∀ b off, xa = some ⟨b, off, none⟩ → kd b = .no := fun h0 b off hb => h.hk b (by have := hxl h0 b off hb; omega) (by have := hxl h0 b off hb; omega)
  obtain ⟨now, dr, hs, hnow, hPW, hab⟩ := h.pool
  have hwt := whadd_t h 0 (by omega) ⟨xs, xd, xp, xt, xi, false, false, 0, xa, xl, xc⟩ hx' [] (by simp) (by simp; omega) (fun W hW => by
    refine (add_whole (hPW.below hW) xs xd xp xt xi false xa xl xc zs 1 (by omega) (by omega) hnow hsr hds hpr htt hid e12 (e9.below hW) hkx (by omega)).mono ?_
    rintro e w' ⟨hP', hG', a2, c2, rfl, hsg, hbk⟩
    exact ⟨(a2, c2), kd, rfl, hG', ⟨⟨1, dr, hs, by omega, hP', hab⟩, fun _ => ⟨hsg, fun b off hb => ⟨(hbk b off hb).2.2, (hbk b off hb).1⟩⟩⟩, fun q hq _ b off hb => by have := (hbk b off hb).2.1; omega⟩)
  exact hwt
end Go.Proofs.Ytnbagloifbllbaa
