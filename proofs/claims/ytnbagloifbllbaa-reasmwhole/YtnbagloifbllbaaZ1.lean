/- A struct api.Packet, by value, as a parameter: opened. -/
import Derived.Test.YtnbagloifbllbaaRsY
import Derived.Test.YtnbagloifbllbaaProg
import Derived.Test.YtnbagloifbllbaaBase
import Derived.RowKit
import Derived.ChangeSlices
import Derived.SizedLaws
import Derived.ChangeArms
import Derived.WideShapes
import Derived.ProofKit
import Derived.OpenShut
namespace Go.Proofs.Ytnbagloifbllbaa
open Go.RowKit
def stA (nm : Nm) (L : List Pc) : List (Nm × List Pc) := match L with | [] => [] | _ => [(nm, L)]
theorem look_stA (nm : Nm) (L : List Pc) : lookD (stA nm L) nm = L := by
  cases L with
  | nil => rfl
  | cons x L => simp [lookD, stA]
theorem put_stA (nm : Nm) (L : List Pc) (x : Pc) : putD (stA nm L) nm (L ++ [x]) = stA nm (L ++ [x]) := by
  cases L with
  | nil => simp [putD, stA]
  | cons y L => simp [putD, stA]
theorem del_stA (nm : Nm) (L : List Pc) : delD (stA nm L) nm = [] := by
  cases L with
  | nil => rfl
  | cons y L => simp [delD, stA]
theorem stA_len (nm : Nm) (L : List Pc) : (stA nm L).length ≤ 1 ∧ ∀ e ∈ stA nm L, e.2.length ≤ L.length := by
  cases L with
  | nil => simp [stA]
  | cons y L => simp [stA]
set_option maxRecDepth 100000 in
set_option maxHeartbeats 1000000 in
theorem wh_step {w0 w : World} {kd : Nat → Role} {br bl bt bf bp p gt : Nat} {sr ds pr tt id : Nat} {a : Option Addr} {c : Nat} {zs : List Nat} {la : Option Addr} {K lc : Nat} {ps : List Pk} {P : Nat → Nat} {mtu : Int} {ks : List Nat} (h : WhS w0 w kd br bl bt bf bp p gt sr ds pr tt id a c zs la K lc ps P mtu (stA (sr, ds, pr, id) (ks.map (cutD sr ds pr tt id K P zs))) ks) (hF : Fam K P zs (sr, ds, pr, id) (cutD sr ds pr tt id K P zs)) (hK : ps.length = K) (hK2 : 2 ≤ K) (hz : zs.length ≤ 4096) (hsr : sr < 4294967296) (hds : ds < 4294967296) (hpr : pr < 256) (htt : tt < 256) (hid : id < 65536) (k : Nat) (hk : k < K) (hl : ks.length < K) :
    Calls Try.prog 9 #[.int .i64 (k : Nat), .pointer (some ⟨br, 0, none⟩), .pointer (some ⟨bl, 0, none⟩), .pointer (some ⟨bt, 0, none⟩), .pointer (some ⟨bf, 0, none⟩), .pointer (some ⟨bp, 0, none⟩)] w fun e w' => ∃ kd', (k ∈ ks ∧ e = .returned (.tuple #[.bool false, .bool true]) ∧ WhS w0 w' kd' br bl bt bf bp p gt sr ds pr tt id a c zs la K lc ps P mtu (stA (sr, ds, pr, id) (ks.map (cutD sr ds pr tt id K P zs))) ks) ∨ (k ∉ ks ∧ ks.length + 1 < K ∧ e = .returned (.tuple #[.bool false, .bool true]) ∧ WhS w0 w' kd' br bl bt bf bp p gt sr ds pr tt id a c zs la K lc ps P mtu (stA (sr, ds, pr, id) ((ks ++ [k]).map (cutD sr ds pr tt id K P zs))) (ks ++ [k])) ∨ (k ∉ ks ∧ ks.length + 1 = K ∧ e = .returned (.tuple #[.bool true, .bool true]) ∧ WhS w0 w' kd' br bl bt bf bp p gt sr ds pr tt id a c zs la K lc ps P mtu [] (ks ++ [k])) := by
  obtain ⟨x, hx⟩ : ∃ x, ps[k]? = some x := ⟨_, List.getElem?_eq_getElem (by omega)⟩
  obtain ⟨e1, e2, e3, e4, e5, e6, e7, e8, e9, e10, e11, e12, e13⟩ := h.pc.each k x hx
  have hxl := h.xl x (List.mem_of_getElem? hx)
  obtain ⟨o0, o1, o2, o3, o4, o5, o6⟩ := h.ord
  have hinc := hF.inc k hk
  have hle := hF.le (j := k + 1) (by omega)
  have hx' := hx
  obtain ⟨xs, xd, xp, xt, xi, xn, xm, xo, xa, xl, xc⟩ := x
  simp only at e1 e2 e3 e4 e5 e6 e7 e8 e9 e10 e11 e12 e13
  subst e1 e2 e3 e4 e5 e6
  rw [hK] at e8
  obtain rfl : xm = decide (k + 1 < K) := by rw [e8]; simp
  obtain rfl : xo = ((P k : Nat) : Int) := by rw [e7]; simp
  have hxn : xl = P (k + 1) - P k := by omega
  obtain ⟨BY, hBY⟩ : ∃ BY, BY = (zs.drop (P k)).take xl := ⟨_, rfl⟩
  rw [← hBY] at e9
  have hD : (⟨xs, xd, xp, xt, xi, false, decide (k + 1 < K), ((P k : Nat) : Int), BY⟩ : Pc) = cutD xs xd xp xt xi K P zs k := by rw [hBY, hxn]; rfl
  have hpc : P k ≠ 0 ∨ decide (k + 1 < K) = true := by
    by_cases h0 : k = 0
    · right; rw [h0]; simp; omega
    · left
      have := hF.inj hk (j := 0) (by omega)
      rw [hF.p0] at this
      exact fun e => h0 (this e)
  have hkx : ∀ b off, xa = some ⟨b, off, none⟩ → kd b = .no := fun b off hb => h.hk b (by have := hxl (by dsimp only; omega) b off hb; omega) (by have := hxl (by dsimp only; omega) b off hb; omega)
  obtain ⟨now, dr, hs, hnow, hPW, hab⟩ := h.pool
  have hlk : lookD (absL hs) (xs, xd, xp, xi) = ks.map (cutD xs xd xp xt xi K P zs) := by rw [hab, look_stA]
  have hbd : ∀ q ∈ lookD (absL hs) (xs, xd, xp, xi), boundD q := fun q hq => by
    rw [hlk] at hq
    obtain ⟨j, hj, rfl⟩ := List.mem_map.1 hq
    exact hF.bound (h.kb j hj)
  have hcn := abs_counts hPW hab
  have hsl1 := stA_len (xs, xd, xp, xi) (ks.map (cutD xs xd xp xt xi K P zs))
  have hKs : K ≤ zs.length := by
    have := (all_iff (K := K) (ks := List.range K) List.nodup_range (fun j hj => by simpa using hj))
    have h2 : ∀ m, m ≤ K → m ≤ P m := by
      intro m
      induction m with
      | zero => intro _; omega
      | succ m ih => intro hm; have := ih (by omega); have := hF.inc m (by omega); omega
    have := h2 K (Nat.le_refl _)
    rw [hF.pK] at this
    exact this
  have hall := all_iff h.nd h.kb
  by_cases hm : k ∈ ks
  · have hwf := whadd_f h k hk ⟨xs, xd, xp, xt, xi, false, decide (k + 1 < K), ((P k : Nat) : Int), xa, xl, xc⟩ hx' (stA (xs, xd, xp, xi) (ks.map (cutD xs xd xp xt xi K P zs))) (.inr ⟨hm, hl⟩) (fun W hW => by
      refine (add_same (hPW.below hW) xs xd xp xt xi false (decide (k + 1 < K)) (P k) xa xl xc BY 1 (by omega) (by omega) hnow hsr hds hpr htt hid e12 (e9.below hW) hkx (by omega) (by omega) hpc hbd (by rw [hlk, hD, hF.anyS hk ks h.kb]; exact decide_eq_true hm)).mono ?_
      rintro e w' ⟨rfl, hP', hG'⟩
      exact ⟨(none, 0), kd, rfl, hG', ⟨⟨1, dr, hs, by omega, hP', hab⟩, fun e => (by cases e)⟩, fun _ _ e => (by cases e)⟩)
    refine hwf.mono ?_
    rintro e w' ⟨rfl, kd', hS⟩
    rw [if_pos hm] at hS
    exact ⟨kd', .inl ⟨hm, rfl, hS⟩⟩
  · have hnd2 : (ks ++ [k]).Nodup := by
      rw [List.nodup_append]
      exact ⟨h.nd, by simp, fun x hx y hy e => hm (by simp at hy; rw [← hy, ← e]; exact hx)⟩
    have hkb2 : ∀ j ∈ ks ++ [k], j < K := fun j hj => by
      rcases List.mem_append.1 hj with hj | hj
      · exact h.kb j hj
      · simp at hj; omega
    have hLL : ks.map (cutD xs xd xp xt xi K P zs) ++ [cutD xs xd xp xt xi K P zs k] = (ks ++ [k]).map (cutD xs xd xp xt xi K P zs) := by rw [List.map_append]; rfl
    have hsum := hF.sum hnd2 hkb2
    have hcall : ∀ W, Below w.heap.size w W → Calls Try.prog 10 #[.pointer (some ⟨p, 0, none⟩), .agg #[.int .u32 (xs : Nat), .int .u32 (xd : Nat), .int .u8 (xp : Nat), .int .u8 (xt : Nat), .int .u16 (xi : Nat), .bool false, .bool (decide (k + 1 < K)), .int .i64 ((P k : Nat) : Int), .slice xa xl xc], .int .i64 1] W (TnP kd p 1 dr hs (xs, xd, xp, xi) ((ks ++ [k]).map (cutD xs xd xp xt xi K P zs)) W) := fun W hW => by
      have := add_new (hPW.below hW) xs xd xp xt xi false (decide (k + 1 < K)) (P k) xa xl xc BY 1 (by omega) (by omega) hnow hsr hds hpr htt hid e12 (e9.below hW) hkx (by omega) (by omega) hpc hbd (by rw [hlk, hD, hF.anyS hk ks h.kb]; exact decide_eq_false hm) (fun q hq => by
        rw [hlk] at hq
        obtain ⟨j, hj, rfl⟩ := List.mem_map.1 hq
        rw [hD]
        exact hF.clash hk (h.kb j hj) (fun e => hm (e ▸ hj))) (.inl (by rw [hcn.1]; omega)) (hcn.2 1000000 (fun e he => by have := hsl1.2 e he; rw [List.length_map] at this; omega)) (by rw [hlk, hD, hLL]; omega) (by rw [hlk, hD, hLL]; exact hF.fit hnd2 hkb2)
      rw [hlk, hD, hLL] at this
      exact this
    by_cases hlt : ks.length + 1 < K
    · have hwf := whadd_f h k hk ⟨xs, xd, xp, xt, xi, false, decide (k + 1 < K), ((P k : Nat) : Int), xa, xl, xc⟩ hx' (stA (xs, xd, xp, xi) ((ks ++ [k]).map (cutD xs xd xp xt xi K P zs))) (.inl hlt) (fun W hW => by
        refine (hcall W hW).mono ?_
        rintro e w' ⟨kd', hs', hP', hG', hres⟩
        rcases hres with ⟨_, rfl, hab'⟩ | ⟨hw, _⟩
        · exact ⟨(none, 0), kd', rfl, hG', ⟨⟨1, dr, hs', by omega, hP', by rw [hab', hab, ← hLL, put_stA]⟩, fun e => (by cases e)⟩, fun _ _ e => (by cases e)⟩
        · have := hF.whole hnd2 hkb2 hw
          rw [List.length_append] at this
          simp at this
          omega)
      refine hwf.mono ?_
      rintro e w' ⟨rfl, kd', hS⟩
      rw [if_neg hm] at hS
      exact ⟨kd', .inr (.inl ⟨hm, hlt, rfl, hS⟩)⟩
    · have hKe : ks.length + 1 = K := by omega
      have hl2 : (ks ++ [k]).length = K := by rw [List.length_append]; exact hKe
      have hwt := whadd_t h k hk ⟨xs, xd, xp, xt, xi, false, decide (k + 1 < K), ((P k : Nat) : Int), xa, xl, xc⟩ hx' [] hm hKe (fun W hW => by
        refine (hcall W hW).mono ?_
        rintro e w' ⟨kd', hs', hP', hG', hres⟩
        rcases hres with ⟨hn, _⟩ | ⟨_, hab', g, rfl, hsg, hkg, hgw⟩
        · exact absurd hl2 (hF.notWhole hnd2 hkb2 hn)
        · rw [hF.head hnd2 hkb2 hl2, hsum.2.2 hl2]
          rw [hsum.2.2 hl2, hF.body hnd2 hkb2 hl2] at hsg
          refine ⟨(some ⟨g, 0, none⟩, zs.length), kd', ?_, hG', ⟨⟨1, dr, hs', by omega, hP', by rw [hab', hab, del_stA]⟩, fun _ => ⟨hsg, fun b off hb => ?_⟩⟩, fun q hq _ b off hb => ?_⟩
          · show _ = Ending.returned _
            unfold cutD
            rw [hF.p0]
            rfl
          · injection hb with hb
            injection hb with hb
            subst hb
            rcases hsg.at_ with h0 | ⟨b', off', e, hlt', _⟩
            · omega
            · injection e with e
              injection e with e
              subst e
              exact ⟨hlt', hkg⟩
          · injection hb with hb
            injection hb with hb
            subst hb
            omega)
      refine hwt.mono ?_
      rintro e w' ⟨rfl, kd', hS⟩
      exact ⟨kd', .inr (.inr ⟨hm, hKe, rfl, hS⟩)⟩
set_option maxRecDepth 100000 in
set_option maxHeartbeats 1000000 in
theorem wh_one {w0 w : World} {kd : Nat → Role} {br bl bt bf bp p gt : Nat} {sr ds pr tt id : Nat} {a : Option Addr} {c : Nat} {zs : List Nat} {la : Option Addr} {K lc : Nat} {ps : List Pk} {P : Nat → Nat} {mtu : Int} (h : WhS w0 w kd br bl bt bf bp p gt sr ds pr tt id a c zs la K lc ps P mtu [] []) (hK : ps.length = K) (hK1 : K = 1) (hz : zs.length ≤ 4096) (hsr : sr < 4294967296) (hds : ds < 4294967296) (hpr : pr < 256) (htt : tt < 256) (hid : id < 65536) :
    Calls Try.prog 9 #[.int .i64 ((0 : Nat) : Int), .pointer (some ⟨br, 0, none⟩), .pointer (some ⟨bl, 0, none⟩), .pointer (some ⟨bt, 0, none⟩), .pointer (some ⟨bf, 0, none⟩), .pointer (some ⟨bp, 0, none⟩)] w fun e w' => e = .returned (.tuple #[.bool true, .bool true]) ∧ ∃ kd', WhS w0 w' kd' br bl bt bf bp p gt sr ds pr tt id a c zs la K lc ps P mtu [] [0] := by
  obtain ⟨x, hx⟩ : ∃ x, ps[0]? = some x := ⟨_, List.getElem?_eq_getElem (by omega)⟩
  obtain ⟨e1, e2, e3, e4, e5, e6, e7, e8, e9, e10, e11, e12, e13⟩ := h.pc.each 0 x hx
  have hxl := h.xl x (List.mem_of_getElem? hx)
  obtain ⟨o0, o1, o2, o3, o4, o5, o6⟩ := h.ord
  have hp0 := h.pc.p0
  have hpK := h.pc.pK
  have hx' := hx
  obtain ⟨xs, xd, xp, xt, xi, xn, xm, xo, xa, xl, xc⟩ := x
  simp only at e1 e2 e3 e4 e5 e6 e7 e8 e9 e10 e11 e12 e13
  subst e1 e2 e3 e4 e5 e6
  rw [hK, hK1] at e8 hpK
  obtain rfl : xm = false := by rw [e8]; simp
  obtain rfl : xo = 0 := by rw [e7, hp0]; simp
  have hxn : xl = zs.length := by rw [hp0, hpK] at e10; omega
  have hby : (zs.drop (P 0)).take xl = zs := by rw [hp0, hxn]; simp
  rw [hby] at e9
  have hkx : 0 < xl → ∀ b off, xa = some ⟨b, off, none⟩ → kd b = .no := fun h0 b off hb => h.hk b (by have := hxl h0 b off hb; omega) (by have := hxl h0 b off hb; omega)
  obtain ⟨now, dr, hs, hnow, hPW, hab⟩ := h.pool
  have hwt := whadd_t h 0 (by omega) ⟨xs, xd, xp, xt, xi, false, false, 0, xa, xl, xc⟩ hx' [] (by simp) (by simp; omega) (fun W hW => by
    refine (add_whole (hPW.below hW) xs xd xp xt xi false xa xl xc zs 1 (by omega) (by omega) hnow hsr hds hpr htt hid e12 (e9.below hW) hkx (by omega)).mono ?_
    rintro e w' ⟨hP', hG', a2, c2, rfl, hsg, hbk⟩
    exact ⟨(a2, c2), kd, rfl, hG', ⟨⟨1, dr, hs, by omega, hP', hab⟩, fun _ => ⟨hsg, fun b off hb => ⟨(hbk b off hb).2.2, (hbk b off hb).1⟩⟩⟩, fun q hq _ b off hb => by have := (hbk b off hb).2.1; omega⟩)
  exact hwt
end Go.Proofs.Ytnbagloifbllbaa
namespace Go.Proofs.Ytnbagloifbllbaa
open Go.RowKit
/-- The state, some pieces being there, not all. -/
def WhP (w0 : World) (br bl bt bf bp p gt : Nat) (sr ds pr tt id : Nat) (a : Option Addr) (c : Nat) (zs : List Nat) (la : Option Addr) (K lc : Nat) (ps : List Pk) (P : Nat → Nat) (mtu : Int) (ks : List Nat) (W : World) : Prop := ks.length < K ∧ ∃ kd, WhS w0 W kd br bl bt bf bp p gt sr ds pr tt id a c zs la K lc ps P mtu (stA (sr, ds, pr, id) (ks.map (cutD sr ds pr tt id K P zs))) ks
/-- All are there: the pool is empty again. -/
def WhQ (w0 : World) (br bl bt bf bp p gt : Nat) (sr ds pr tt id : Nat) (a : Option Addr) (c : Nat) (zs : List Nat) (la : Option Addr) (K lc : Nat) (ps : List Pk) (P : Nat → Nat) (mtu : Int) (W : World) : Prop := ∃ kd ks, WhS w0 W kd br bl bt bf bp p gt sr ds pr tt id a c zs la K lc ps P mtu [] ks
def doneB (K k : Nat) (ks : List Nat) : Bool := decide (k ∉ ks ∧ ks.length + 1 = K)
def StepP (w0 : World) (br bl bt bf bp p gt : Nat) (sr ds pr tt id : Nat) (a : Option Addr) (c : Nat) (zs : List Nat) (la : Option Addr) (K lc : Nat) (ps : List Pk) (P : Nat → Nat) (mtu : Int) (ks : List Nat) (k : Nat) (t : Bool) (W : World) : Prop := (t = true → WhQ w0 br bl bt bf bp p gt sr ds pr tt id a c zs la K lc ps P mtu W) ∧ (t = false → ∃ ks', k ∈ ks' ∧ (∀ q ∈ ks, q ∈ ks') ∧ WhP w0 br bl bt bf bp p gt sr ds pr tt id a c zs la K lc ps P mtu ks' W)
theorem wh_any {w0 w : World} {br bl bt bf bp p gt : Nat} {sr ds pr tt id : Nat} {a : Option Addr} {c : Nat} {zs : List Nat} {la : Option Addr} {K lc : Nat} {ps : List Pk} {P : Nat → Nat} {mtu : Int} {ks : List Nat} (h : WhP w0 br bl bt bf bp p gt sr ds pr tt id a c zs la K lc ps P mtu ks w) (hF : 2 ≤ K → Fam K P zs (sr, ds, pr, id) (cutD sr ds pr tt id K P zs)) (hK : ps.length = K) (hz : zs.length ≤ 4096) (hsr : sr < 4294967296) (hds : ds < 4294967296) (hpr : pr < 256) (htt : tt < 256) (hid : id < 65536) (k : Nat) (hk : k < K) :
    Calls Try.prog 9 #[.int .i64 (k : Nat), .pointer (some ⟨br, 0, none⟩), .pointer (some ⟨bl, 0, none⟩), .pointer (some ⟨bt, 0, none⟩), .pointer (some ⟨bf, 0, none⟩), .pointer (some ⟨bp, 0, none⟩)] w fun e w' => e = .returned (.tuple #[.bool (doneB K k ks), .bool true]) ∧ StepP w0 br bl bt bf bp p gt sr ds pr tt id a c zs la K lc ps P mtu ks k (doneB K k ks) w' := by
  obtain ⟨hl, kd, hS⟩ := h
  by_cases hK2 : 2 ≤ K
  · refine (wh_step hS (hF hK2) hK hK2 hz hsr hds hpr htt hid k hk hl).mono ?_
    rintro e w' ⟨kd', ⟨hm, rfl, hS'⟩ | ⟨hm, hlt, rfl, hS'⟩ | ⟨hm, hKe, rfl, hS'⟩⟩
    · have hd : doneB K k ks = false := by unfold doneB; exact decide_eq_false (fun e => e.1 hm)
      rw [hd]
      exact ⟨rfl, fun e => (by cases e), fun _ => ⟨ks, hm, fun q hq => hq, hl, kd', hS'⟩⟩
    · have hd : doneB K k ks = false := by unfold doneB; exact decide_eq_false (fun e => by omega)
      rw [hd]
      exact ⟨rfl, fun e => (by cases e), fun _ => ⟨ks ++ [k], by simp, fun q hq => List.mem_append_left _ hq, by rw [List.length_append]; exact hlt, kd', hS'⟩⟩
    · have hd : doneB K k ks = true := by unfold doneB; exact decide_eq_true ⟨hm, hKe⟩
      rw [hd]
      exact ⟨rfl, fun _ => ⟨kd', _, hS'⟩, fun e => (by cases e)⟩
  · have hK1 : K = 1 := by omega
    obtain rfl : ks = [] := List.eq_nil_of_length_eq_zero (by omega)
    obtain rfl : k = 0 := by omega
    have hd : doneB K 0 [] = true := by unfold doneB; exact decide_eq_true ⟨by simp, by simp; omega⟩
    refine (wh_one hS hK hK1 hz hsr hds hpr htt hid).mono ?_
    rintro e w' ⟨rfl, kd', hS'⟩
    rw [hd]
    exact ⟨rfl, fun _ => ⟨kd', _, hS'⟩, fun e => (by cases e)⟩
end Go.Proofs.Ytnbagloifbllbaa
namespace Go.Proofs.Ytnbagloifbllbaa.StPacket
open Go.RowKit Go.ChangeShapes Go.WideShapes Go.ChangeAt
theorem fields : ∃ f0 f1 f2 f3 f4 f5 f6 f7 f8 : Field, Try.prog.underlying 26 = some (.struct #[f0, f1, f2, f3, f4, f5, f6, f7, f8]) ∧ f0.offset = 0 ∧ f1.offset = 1 ∧ f2.offset = 2 ∧ f3.offset = 3 ∧ f4.offset = 4 ∧ f5.offset = 5 ∧ f6.offset = 6 ∧ f7.offset = 7 ∧ f8.offset = 8 ∧ f0.type = 22 ∧ f1.type = 22 ∧ f2.type = 5 ∧ f3.type = 5 ∧ f4.type = 23 ∧ f5.type = 4 ∧ f6.type = 4 ∧ f7.type = 3 ∧ f8.type = 24 := ⟨_, _, _, _, _, _, _, _, _, Try.underlying26, rfl, rfl, rfl, rfl, rfl, rfl, rfl, rfl, rfl, rfl, rfl, rfl, rfl, rfl, rfl, rfl, rfl, rfl⟩
theorem cells_all : Try.prog.cellsOf 26 = 9 := by kernel_rfl
theorem cells___uint8 : Try.prog.cellsOf 24 = 1 := by kernel_rfl
theorem cells_bool : Try.prog.cellsOf 4 = 1 := by kernel_rfl
theorem cells_int : Try.prog.cellsOf 3 = 1 := by kernel_rfl
theorem cells_uint16 : Try.prog.cellsOf 23 = 1 := by kernel_rfl
theorem cells_uint32 : Try.prog.cellsOf 22 = 1 := by kernel_rfl
theorem cells_uint8 : Try.prog.cellsOf 5 = 1 := by kernel_rfl
theorem bytes_u8 : Try.prog.bytesOf 5 = 1 := by kernel_rfl
theorem open_bytes {H : Type} {enc : TypeId × Value → H} {w : World} {base : Nat} {held : Bool} {fuel : Nat} {v : Value} {y : DataW H × List MemPlace}
    (h : DataW.trod enc Try.prog w base (fun _ => true) held fuel 24 [v] = some y) (hw : ∀ n ∈ y.1.weights Try.prog 24, n ≤ reachBytes) : ∃ a n c zs, v = .slice a n c ∧ Sl w a n c zs ∧ c ≤ 140737488351232 := by
  rcases open_ints Try.underlying24 Try.underlying5 (by kernel_rfl) h with ⟨hcs, _⟩ | ⟨x, l, c, zs, hcs, _, hl, hm, hz, hx, hcell, hwz⟩
  · simp at hcs
    exact ⟨none, 0, 0, [], hcs, SlK.nil _ _ _ (by omega), by omega⟩
  · simp at hcs
    have hz' : zs.length = c := by simpa using hz
    have hb : (lits (H := H) .u8 (zs.take l)).length + (lits (H := H) .u8 (zs.drop l)).length ≤ reachBytes := by
      have := hw (((lits (H := H) .u8 (zs.take l)).length + (lits (H := H) .u8 (zs.drop l)).length) * Try.prog.bytesOf 5) (by
        rw [hx]
        unfold DataW.weights
        rw [Try.underlying24]
        simp)
      rwa [bytes_u8, Nat.mul_one] at this
    simp only [lits, List.length_map, List.length_take, List.length_drop, reachBytes] at hb
    exact ⟨_, _, _, _, hcs, SlK.of_ints (by omega) (fun z hz => by simp [Lit.wf, IntKind.min, IntKind.max, IntKind.signed, IntKind.bits] at hz; omega) hl hm hz' (by omega) hcell hwz, by omega⟩
set_option linter.unusedVariables false in
set_option maxRecDepth 100000 in
theorem open_ {H : Type} {enc : TypeId × Value → H} {w : World} {b0 base : Nat} {held : Bool} {v : Value} {d : DataW H} {p : List MemPlace}
    (hv : Value.okWide Try.prog w .any b0 26 v) (h : DataW.Trod enc Try.prog w base (fun _ => true) held 26 v d p) (hw : ∀ n ∈ d.weights Try.prog 26, n ≤ reachBytes) :
    ∃ (x0 : Nat) (x1 : Nat) (x2 : Nat) (x3 : Nat) (x4 : Nat) (x5 : Bool) (x6 : Bool) (x7 : Int) (a8 : Option Addr) (n8 c8 : Nat) (z8 : List Nat), v = .agg #[.int .u32 (x0 : Nat), .int .u32 (x1 : Nat), .int .u8 (x2 : Nat), .int .u8 (x3 : Nat), .int .u16 (x4 : Nat), .bool x5, .bool x6, .int .i64 x7, .slice a8 n8 c8] ∧ x0 < 4294967296 ∧ x1 < 4294967296 ∧ x2 < 256 ∧ x3 < 256 ∧ x4 < 65536 ∧ (Lit.int .i64 x7).wf = true ∧ (Sl w a8 n8 c8 z8 ∧ c8 ≤ 140737488351232) := by
  obtain ⟨f0, f1, f2, f3, f4, f5, f6, f7, f8, he, o0, o1, o2, o3, o4, o5, o6, o7, o8, t0, t1, t2, t3, t4, t5, t6, t7, t8⟩ := fields
  obtain ⟨cs, rfl, hsz⟩ := okWide_struct he hv
  rw [cells_all] at hsz
  obtain ⟨cl⟩ := cs
  obtain ⟨fuel, hf⟩ := h
  obtain ⟨xs, m, _, hx, _, hlen, hfs⟩ := DataW.trod_struct he hf
  have hsz2 : cl.length = 9 := hsz
  have hlen2 : xs.length = 9 := hlen
  match cl, hsz2, xs, hlen2 with
  | [v0, v1, v2, v3, v4, v5, v6, v7, v8], _, [y0, y1, y2, y3, y4, y5, y6, y7, y8], _ =>
    have hd := (Prod.mk.inj hx).1
    simp only [List.map_cons, List.map_nil] at hd
    have g0 := hfs 0 f0 rfl
    simp [Value.cells, o0, t0, cells_uint32] at g0
    have g1 := hfs 1 f1 rfl
    simp [Value.cells, o1, t1, cells_uint32] at g1
    have g2 := hfs 2 f2 rfl
    simp [Value.cells, o2, t2, cells_uint8] at g2
    have g3 := hfs 3 f3 rfl
    simp [Value.cells, o3, t3, cells_uint8] at g3
    have g4 := hfs 4 f4 rfl
    simp [Value.cells, o4, t4, cells_uint16] at g4
    have g5 := hfs 5 f5 rfl
    simp [Value.cells, o5, t5, cells_bool] at g5
    have g6 := hfs 6 f6 rfl
    simp [Value.cells, o6, t6, cells_bool] at g6
    have g7 := hfs 7 f7 rfl
    simp [Value.cells, o7, t7, cells_int] at g7
    have g8 := hfs 8 f8 rfl
    simp [Value.cells, o8, t8, cells___uint8] at g8
    obtain ⟨z0, e0, _, w0⟩ := DataW.trod_int Try.underlying22 g0
    simp at e0
    subst e0
    obtain ⟨m0, rfl⟩ : ∃ m : Nat, z0 = (m : Int) := ⟨z0.toNat, by have := bounds_u32 w0; omega⟩
    have b0 : m0 < 4294967296 := by have := bounds_u32 w0; omega
    obtain ⟨z1, e1, _, w1⟩ := DataW.trod_int Try.underlying22 g1
    simp at e1
    subst e1
    obtain ⟨m1, rfl⟩ : ∃ m : Nat, z1 = (m : Int) := ⟨z1.toNat, by have := bounds_u32 w1; omega⟩
    have b1 : m1 < 4294967296 := by have := bounds_u32 w1; omega
    obtain ⟨z2, e2, _, w2⟩ := DataW.trod_int Try.underlying5 g2
    simp at e2
    subst e2
    obtain ⟨m2, rfl⟩ : ∃ m : Nat, z2 = (m : Int) := ⟨z2.toNat, by have := bounds_u8 w2; omega⟩
    have b2 : m2 < 256 := by have := bounds_u8 w2; omega
    obtain ⟨z3, e3, _, w3⟩ := DataW.trod_int Try.underlying5 g3
    simp at e3
    subst e3
    obtain ⟨m3, rfl⟩ : ∃ m : Nat, z3 = (m : Int) := ⟨z3.toNat, by have := bounds_u8 w3; omega⟩
    have b3 : m3 < 256 := by have := bounds_u8 w3; omega
    obtain ⟨z4, e4, _, w4⟩ := DataW.trod_int Try.underlying23 g4
    simp at e4
    subst e4
    obtain ⟨m4, rfl⟩ : ∃ m : Nat, z4 = (m : Int) := ⟨z4.toNat, by have := bounds_u16 w4; omega⟩
    have b4 : m4 < 65536 := by have := bounds_u16 w4; omega
    obtain ⟨z5, e5, _⟩ := DataW.trod_bool Try.underlying4 g5
    simp at e5
    subst e5
    obtain ⟨z6, e6, _⟩ := DataW.trod_bool Try.underlying4 g6
    simp at e6
    subst e6
    obtain ⟨z7, e7, _, w7⟩ := DataW.trod_int Try.underlying3 g7
    simp at e7
    subst e7
    obtain ⟨a8, n8, c8, z8, rfl, s8, b8⟩ := open_bytes g8 (fun q hq => hw q (by
      rw [hd]
      unfold DataW.weights
      rw [he]
      exact DataW.weights_mem_each (j := 8) (t := f8.type) (d := y8.1) rfl rfl q (by rw [t8]; exact hq)))
    exact ⟨m0, m1, m2, m3, m4, z5, z6, z7, a8, n8, c8, z8, rfl, b0, b1, b2, b3, b4, w7, ⟨s8, b8⟩⟩
end Go.Proofs.Ytnbagloifbllbaa.StPacket
